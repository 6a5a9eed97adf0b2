/- The program's own reader: what hands out words (a function over what is left of the text), and how a reader stands. -/
import Derived.Test.YtkobiojndamofaaDoorLiAny
import Derived.Lib.SlTrimSet
namespace Go.Proofs.YtkobiojndamofaaDoor.Lr
set_option linter.unusedVariables false
open Go.ChangeShapes Go.WideShapes Go.ChangeAt Go.RowKit Lg

/-- Nothing old has turned but the blocks of l. -/
structure Fs (l : List Nat) (w w' : World) : Prop where
  os : w'.os = w.os
  tape : w'.tape = w.tape
  output : w'.output = w.output
  size : w.heap.size ≤ w'.heap.size
  block : ∀ k, k < w.heap.size → k ∉ l → w'.heap[k]? = w.heap[k]?
theorem Fs.refl (l : List Nat) (w : World) : Fs l w w := ⟨rfl, rfl, rfl, Nat.le_refl _, fun _ _ _ => rfl⟩
theorem Fs.trans {l : List Nat} {u v w : World} (h : Fs l u v) (k : Fs l v w) : Fs l u w :=
  ⟨k.os.trans h.os, k.tape.trans h.tape, k.output.trans h.output, Nat.le_trans h.size k.size, fun i hi hb => (k.block i (Nat.lt_of_lt_of_le hi h.size) hb).trans (h.block i hi hb)⟩
theorem Fs.of_below {l : List Nat} {w w' : World} (h : Below w.heap.size w w') : Fs l w w' := ⟨h.os, h.tape, h.output, h.size, fun k hk _ => h.block k hk⟩
theorem Fs.mono {l m : List Nat} {w w' : World} (h : Fs l w w') (hl : ∀ k ∈ l, k ∈ m) : Fs m w w' := ⟨h.os, h.tape, h.output, h.size, fun k hk hm => h.block k hk (fun hx => hm (hl k hx))⟩
/-- Blocks that are new may turn. -/
theorem Fs.news {l m : List Nat} {w w' : World} (h : Fs m w w') (hm : ∀ k ∈ m, k < w.heap.size → k ∈ l) : Fs l w w' := ⟨h.os, h.tape, h.output, h.size, fun k hk hl => h.block k hk (fun hx => hl (hm k hx hk))⟩
theorem Fs.set {l : List Nat} {w w' : World} (h : Fs l w w') {b : Nat} (hb : b ∈ l) (k : Nat) (v : Value) : Fs l w (w'.setCell ⟨b, k, none⟩ v) :=
  ⟨h.os, h.tape, h.output, by rw [show (w'.setCell ⟨b, k, none⟩ v).heap.size = w'.heap.size by simp [World.setCell]]; exact h.size, fun i hi hl => by
    have hne : i ≠ b := fun e => hl (by rw [e]; exact hb)
    rw [Below.heap_setCell _ _ _ _ hne]; exact h.block i hi hl⟩
theorem Fs.below {l : List Nat} {B : Nat} {w w' : World} (h : Fs l w w') (hB : B ≤ w.heap.size) (hl : ∀ k ∈ l, B ≤ k) : Below B w w' :=
  ⟨h.os, h.tape, h.output, h.size, fun k hk => h.block k (by omega) (fun hx => by have := hl k hx; omega)⟩

/-- What is left of the text, in its block. -/
def SB (w : World) (c : Nat) (s : ByteArray) : Prop := w.heap[c]? = some (.cells #[.string s] 9 (0, 0))
theorem SB.c0 {w : World} {c : Nat} {s : ByteArray} (h : SB w c s) : w.cell? ⟨c, 0, none⟩ = some (.string s) := by rw [Lib.cell_of_heap h]; rfl
theorem SB.fr {w : World} {c : Nat} {s : ByteArray} (h : SB w c s) (k : Nat) : w.frozen? ⟨c, k, none⟩ = false := Lib.frozen_of_heap h k
theorem SB.lt {w : World} {c : Nat} {s : ByteArray} (h : SB w c s) : c < w.heap.size := (Array.getElem?_eq_some_iff.1 h).1
theorem SB.set {w : World} {c : Nat} {s : ByteArray} (h : SB w c s) (s' : ByteArray) : SB (w.setCell ⟨c, 0, none⟩ (.string s')) c s' := by
  unfold SB at h ⊢
  simp [World.setCell, Array.getElem?_modify, h]
theorem SB.below {w w' : World} {c : Nat} {s : ByteArray} (h : SB w c s) (k : Below w.heap.size w w') : SB w' c s := by
  unfold SB at h ⊢
  rw [k.block c (Array.getElem?_eq_some_iff.1 h).1]; exact h

theorem trim_skip (l : List UInt8) : Lib.trimLeftS l [32, 10] = skip l := by
  unfold Lib.trimLeftS skip
  congr 1
  funext c
  unfold Lg.blank
  simp
  rfl
theorem four_stop (y : UInt8) : [32, 10, 40, 41].contains y = stop y := by
  cases h : stop y with
  | true =>
    rcases (stop_iff y).1 h with e | e | e | e <;> (rw [e]; rfl)
  | false =>
    cases hc : [32, 10, 40, 41].contains y with
    | false => rfl
    | true =>
      simp only [List.contains_iff_mem, List.mem_cons, List.not_mem_nil, or_false] at hc
      rw [(stop_iff y).2 hc] at h
      cases h
/-- Where the first of them is. -/
theorem indexAny_cases : ∀ l : List UInt8, (Lib.indexAny l [32, 10, 40, 41] = -1 ∧ ∀ c ∈ l, stop c = false) ∨ ∃ (k : Nat) (y : UInt8), Lib.indexAny l [32, 10, 40, 41] = (k : Int) ∧ k < l.length ∧ (∀ c ∈ l.take k, stop c = false) ∧ l[k]? = some y ∧ stop y = true
  | [] => .inl ⟨rfl, by simp⟩
  | b :: l => by
    rw [Lib.indexAny, four_stop]
    by_cases hb : stop b = true
    · rw [if_pos hb]
      exact .inr ⟨0, b, rfl, by simp, by simp, rfl, hb⟩
    · rw [if_neg hb]
      have hb' : stop b = false := by simpa using hb
      rcases indexAny_cases l with ⟨h1, h2⟩ | ⟨k, y, h1, h2, h3, h4, h5⟩
      · rw [h1]
        refine .inl ⟨rfl, fun c hc => ?_⟩
        rcases List.mem_cons.1 hc with e | e
        · rw [e]; exact hb'
        · exact h2 c e
      · rw [h1, if_neg (fun e => by have := beq_iff_eq.1 e; omega)]
        refine .inr ⟨k + 1, y, by push_cast; rfl, by simp; omega, fun c hc => ?_, by simpa using h4, h5⟩
        rw [List.take_succ_cons] at hc
        rcases List.mem_cons.1 hc with e | e
        · rw [e]; exact hb'
        · exact h3 c e
/-- The word, by where it ends. -/
theorem word_none {l : List UInt8} (h : ∀ c ∈ l, stop c = false) : word l = l := by
  by_cases h0 : l = []
  · rw [h0]; rfl
  · have hl : 1 ≤ l.length := by
      cases l with
      | nil => exact absurd rfl h0
      | cons a r => simp
    have := word_at (l := l) (k := l.length) hl (Nat.le_refl _) (fun c hc => h c (List.mem_of_mem_take hc)) (.inl rfl)
    rw [List.take_length] at this
    exact this

set_option maxHeartbeats 4000000 in
set_option maxRecDepth 100000 in
/-- The next word goes. -/
theorem next_any (c : Nat) (s : ByteArray) (hs : s.size < 4294967281) (w : World) (h : SB w c s) :
    Calls Tryd.prog 21 #[.pointer (some ⟨c, 0, none⟩)] w fun r w' => r = .returned (.string ⟨(wd s.data.toList).toArray⟩) ∧ SB w' c ⟨(rs s.data.toList).toArray⟩ ∧ Fs [c] w w' := by
  have HT := keep (Tryd.strings_TrimLeft_laid s ⟨#[32, 10]⟩ w (by decide) two_ascii)
  have hc0 := h.c0
  have hf0 := h.fr 0
  have HS := keep h
  clear h
  have hK : Lib.trimLeftS s.data.toList (⟨#[32, 10]⟩ : ByteArray).data.toList = skip s.data.toList := trim_skip _
  rw [hK] at HT
  clear hK
  have hle : (skip s.data.toList).length ≤ s.size := by
    rw [Lib.size_eq]
    exact (List.dropWhile_sublist Lg.blank (l := s.data.toList)).length_le
  have HW : Hid (wd s.data.toList = word (skip s.data.toList)) := rfl
  have HR : Hid (rs s.data.toList = (skip s.data.toList).drop (word (skip s.data.toList)).length) := rfl
  generalize wd s.data.toList = W at *
  generalize rs s.data.toList = R at *
  generalize skip s.data.toList = K at *
  obtain ⟨kb, hkb, hkd⟩ : ∃ kb : ByteArray, (⟨K.toArray⟩ : ByteArray) = kb ∧ kb.data.toList = K := ⟨_, rfl, rfl⟩
  rw [hkb] at HT
  have hks : kb.size = K.length := by rw [Lib.size_eq, hkd]
  have HI := keep (fun v => indexAny_any kb (by omega) v)
  rw [hkd] at HI
  have hsz : (kb.size : Int) = (K.length : Int) := by omega
  have key : ∀ N : Nat, N ≤ K.length → word K = K.take N → (⟨W.toArray⟩ : ByteArray) = kb.extract 0 N ∧ (⟨R.toArray⟩ : ByteArray) = kb.extract N kb.size := fun N hN hw => by
    rw [HW.out, HR.out, hw, Lib.extract_eq, Lib.extract_eq, hkd, List.length_take, Nat.min_eq_left hN, List.drop_zero, Nat.sub_zero]
    exact ⟨rfl, by rw [List.take_of_length_le (by simp; omega)]⟩
  clear hkb HW HR
  rcases indexAny_cases K with ⟨hi, hno⟩ | ⟨k, y, hi, hk, hno, hy, hst⟩
  · have HKey := keep (key K.length (Nat.le_refl _) (by rw [List.take_length]; exact word_none hno))
    clear key hno
    have hx : kb.extract 0 kb.size = kb := by
      rw [Lib.extract_eq]
      apply ByteArray.ext
      apply Array.toList_inj.1
      show List.take _ (List.drop 0 kb.data.toList) = kb.data.toList
      rw [List.drop_zero, List.take_of_length_le (by rw [← Lib.size_eq]; omega)]
    have hy : kb.extract kb.size kb.size = ByteArray.empty := by
      rw [Lib.extract_eq]
      apply ByteArray.ext
      apply Array.toList_inj.1
      simp
    rw [← hks, hx, hy] at HKey
    rw [hi] at HI
    clear hx hy
    clear hkd hks hsz hle hi
    go_enter Tryd.func21, Tryd.ntmps21
    go_wp2_with fail
    refine HT.out.mono ?_
    rintro r w1 ⟨rfl, hb1⟩
    have HS1 := keep (HS.out.below hb1)
    have HF1 := keep (Fs.of_below (l := [c]) hb1)
    have hc1 := HS1.out.c0
    have hf1 := HS1.out.fr 0
    have HS2 := keep (HS1.out.set kb)
    have HF2 := keep (HF1.out.set (b := c) (by simp) 0 (.string kb))
    clear hb1 HT
    go_wp2_with fail
    generalize w1.setCell ⟨c, 0, none⟩ (.string kb) = w2 at *
    refine (HI.out _).mono ?_
    rintro r w3 ⟨rfl, hb3⟩
    have HS3 := keep (HS2.out.below hb3)
    have HF3 := keep (HF2.out.trans (Fs.of_below hb3))
    have hc3 := HS3.out.c0
    have hf3 := HS3.out.fr 0
    clear hb3 HI HS1 HS2 HF1 HF2 hc1 hf1 hc0 hf0
    go_wp2
    go_ret
    exact ⟨by rw [HKey.out.1]; rfl, by rw [HKey.out.2]; exact HS3.out.set _, HF3.out.set (by simp) 0 _⟩
  · rw [hi] at HI
    by_cases h0 : k = 0
    · subst h0
      have HKey := keep (key 1 (by omega) (word_zero hy hst))
      clear key hno hy hst hi hkd
      have h1z : (1 : Int) ≤ (kb.size : Int) := by omega
      clear hks hsz hle
      go_enter Tryd.func21, Tryd.ntmps21
      go_wp2_with fail
      refine HT.out.mono ?_
      rintro r w1 ⟨rfl, hb1⟩
      have HS1 := keep (HS.out.below hb1)
      have HF1 := keep (Fs.of_below (l := [c]) hb1)
      have hc1 := HS1.out.c0
      have hf1 := HS1.out.fr 0
      have HS2 := keep (HS1.out.set kb)
      have HF2 := keep (HF1.out.set (b := c) (by simp) 0 (.string kb))
      clear hb1 HT
      go_wp2_with fail
      generalize w1.setCell ⟨c, 0, none⟩ (.string kb) = w2 at *
      refine (HI.out _).mono ?_
      rintro r w3 ⟨rfl, hb3⟩
      have HS3 := keep (HS2.out.below hb3)
      have HF3 := keep (HF2.out.trans (Fs.of_below hb3))
      have hc3 := HS3.out.c0
      have hf3 := HS3.out.fr 0
      clear hb3 HI HS1 HS2 HF1 HF2 hc1 hf1 hc0 hf0
      go_wp2
      go_ret
      exact ⟨by rw [HKey.out.1]; rfl, by rw [HKey.out.2]; exact HS3.out.set _, HF3.out.set (by simp) 0 _⟩
    · have HKey := keep (key k (by omega) (word_at (by omega) (by omega) hno (.inr ⟨y, hy, hst⟩)))
      clear key hno hy hst hi hkd
      have d1 : ((k : Int) == -1) = false := beq_eq_false_iff_ne.2 (by omega)
      have d2 : ((k : Int) == 0) = false := beq_eq_false_iff_ne.2 (by omega)
      have hk0 : (0 : Int) ≤ (k : Int) := by omega
      have hkz : (k : Int) ≤ (kb.size : Int) := by omega
      clear hks hsz hle
      go_enter Tryd.func21, Tryd.ntmps21
      go_wp2_with fail
      refine HT.out.mono ?_
      rintro r w1 ⟨rfl, hb1⟩
      have HS1 := keep (HS.out.below hb1)
      have HF1 := keep (Fs.of_below (l := [c]) hb1)
      have hc1 := HS1.out.c0
      have hf1 := HS1.out.fr 0
      have HS2 := keep (HS1.out.set kb)
      have HF2 := keep (HF1.out.set (b := c) (by simp) 0 (.string kb))
      clear hb1 HT
      go_wp2_with fail
      generalize w1.setCell ⟨c, 0, none⟩ (.string kb) = w2 at *
      refine (HI.out _).mono ?_
      rintro r w3 ⟨rfl, hb3⟩
      have HS3 := keep (HS2.out.below hb3)
      have HF3 := keep (HF2.out.trans (Fs.of_below hb3))
      have hc3 := HS3.out.c0
      have hf3 := HS3.out.fr 0
      clear hb3 HI HS1 HS2 HF1 HF2 hc1 hf1 hc0 hf0
      go_wp2
      go_ret
      exact ⟨by rw [HKey.out.1]; rfl, by rw [HKey.out.2]; exact HS3.out.set _, HF3.out.set (by simp) 0 _⟩
end Go.Proofs.YtkobiojndamofaaDoor.Lr
