/- The program's own Name. -/
import Derived.Test.YtkobiojndamofaaDoorLwTab
namespace Go.Proofs.YtkobiojndamofaaDoor.Lr
set_option linter.unusedVariables false
open Go.ChangeShapes Go.WideShapes Go.ChangeAt Go.RowKit Lg

theorem name_bad {l : List UInt8} {k : Nat} {y : UInt8} (h : l[k]? = some y) (hy : ¬ (97 ≤ y.toNat ∧ y.toNat ≤ 122)) : isName l = false :=
  decide_eq_false fun hh => hy (hh.2.2.1 y (List.mem_of_getElem? h))
theorem mem_bys (l : List (List UInt8)) (s : ByteArray) : s ∈ bys l ↔ s.data.toList ∈ l := by
  unfold bys
  rw [List.mem_map]
  constructor
  · rintro ⟨x, hx, rfl⟩; exact hx
  · intro h; exact ⟨_, h, by simp⟩
theorem bys_len (l : List (List UInt8)) : (bys l).length = l.length := by simp [bys]
theorem name_last {l : List UInt8} (h1 : 1 ≤ l.length) (h2 : l.length ≤ 6) (h3 : ∀ c ∈ l, 97 ≤ c.toNat ∧ c.toNat ≤ 122) : isName l = !decide (l ∈ kept) := by
  unfold isName
  by_cases hk : l ∈ kept
  · rw [decide_eq_true hk]; exact decide_eq_false fun hh => hh.2.2.2 hk
  · rw [decide_eq_false hk]; exact decide_eq_true ⟨h1, h2, h3, hk⟩

set_option maxHeartbeats 2000000 in
set_option maxRecDepth 100000 in
theorem name_any (s : ByteArray) (hs : s.size ≤ 281474976710656) (w : World) (ht : Tabs w) :
    Calls Tryd.prog 11 #[.string s] w fun r w' => r = .returned (.bool (isName s.data.toList)) ∧ Below w.heap.size w w' := by
  have hlen : s.data.toList.length = s.size := (Lib.size_eq s).symm
  have HLen := keep hlen
  by_cases h0 : s.size = 0
  · have HN : Hid (isName s.data.toList = false) := decide_eq_false fun hh => by omega
    have e : s.toList.isEmpty = true := by
      rw [Lib.toList_data, List.eq_nil_of_length_eq_zero (hlen.trans h0)]; rfl
    clear hlen
    go_enter Tryd.func11, Tryd.ntmps11
    go_wp2
    go_ret
    exact ⟨by rw [HN.out]; rfl, Below.refl _ _⟩
  have e : s.toList.isEmpty = false := by
    rw [Lib.toList_data]; cases hl : s.data.toList with
    | nil => exact absurd (by rw [← hlen, hl]; rfl) h0
    | cons a t => rfl
  by_cases h6 : 6 < s.size
  · have HN : Hid (isName s.data.toList = false) := decide_eq_false fun hh => by omega
    have d : decide (6 < (s.size : Int)) = true := decide_eq_true (by omega)
    clear hlen
    go_enter Tryd.func11, Tryd.ntmps11
    go_wp2
    go_ret
    exact ⟨by rw [HN.out]; rfl, Below.refl _ _⟩
  have d : decide (6 < (s.size : Int)) = false := decide_eq_false (by omega)
  have HT := keep ht
  clear hlen ht
  go_enter Tryd.func11, Tryd.ntmps11
  go_wp2
  go_loopw [13] (fun i wx => ∃ k : Nat, k ≤ s.size ∧ i = .int .i64 (k : Int) ∧ (∀ c ∈ s.data.toList.take k, 97 ≤ c.toNat ∧ c.toNat ≤ 122) ∧ wx = w) (fun i _ => s.size - (intOf i).toNat)
  case atStart => exact ⟨0, by omega, rfl, by simp, rfl⟩
  case round =>
    obtain ⟨k, hk, rfl, hno, rfl⟩ := hrel
    have HN := keep hno
    clear hno
    by_cases hkl : k < s.size
    · have d1 : decide ((k : Int) < (s.size : Int)) = true := decide_eq_true (by omega)
      have hkz : (k : Int) < (s.size : Int) := by omega
      obtain ⟨y, hy⟩ : ∃ y : UInt8, s[k] = y := ⟨_, rfl⟩
      have HY : Hid (s.data.toList[k]? = some y) := by
        show s.data.toList[k]? = some y
        rw [← hy]; exact Lib.data_getElem? s k hkl
      by_cases hlo : y.toNat < 97
      · have d2 : decide ((y.toNat : Int) < 97) = true := decide_eq_true (by omega)
        go_wp2
        go_ret
        exact ⟨by rw [name_bad HY.out (by omega)]; rfl, Below.refl _ _⟩
      · have d2 : decide ((y.toNat : Int) < 97) = false := decide_eq_false (by omega)
        by_cases hhi : 122 < y.toNat
        · have d3 : decide (122 < (y.toNat : Int)) = true := decide_eq_true (by omega)
          go_wp2
          go_ret
          exact ⟨by rw [name_bad HY.out (by omega)]; rfl, Below.refl _ _⟩
        · have d3 : decide (122 < (y.toNat : Int)) = false := decide_eq_false (by omega)
          have HN' : Hid (∀ c ∈ s.data.toList.take (k + 1), 97 ≤ c.toNat ∧ c.toNat ≤ 122) := by
            show ∀ c ∈ s.data.toList.take (k + 1), 97 ≤ c.toNat ∧ c.toNat ≤ 122
            rw [List.take_add_one, HY.out]
            intro c hc
            rcases List.mem_append.1 hc with h | h
            · exact HN.out c h
            · simp at h; rw [h]; omega
          clear HN
          go_wp2
          go_roundw
          case rel => exact ⟨k + 1, by omega, by go_num, HN'.out, trivial⟩
          case measure => simp [intOf]; omega
    · have hke : k = s.size := by omega
      subst hke
      have dk : decide ((s.size : Int) < (s.size : Int)) = false := decide_eq_false (by omega)
      have HL : Hid (isName s.data.toList = !Lib.containsS ((bys kept).take 11) s) := by
        show isName s.data.toList = _
        have hl := HLen.out
        have hall := HN.out
        rw [← hl, List.take_length] at hall
        rw [name_last (by omega) (by omega) hall, List.take_of_length_le (by rw [bys_len]; decide)]
        congr 1
        rw [Bool.eq_iff_iff, decide_eq_true_eq, Lib.containsS_iff, mem_bys]
      have HF : Hid (Calls Tryd.prog 20 #[.string keptB] wr fun e w' => e = .returned (.slice (some ⟨wr.heap.size, 0, none⟩) 11 11) ∧ w' = wr.alloc (.cells (listA kept) 9)) :=
        fields_any keptB kept fields_kept (by decide) (by decide) wr HT.out
      have HC := keep (Tryd.slices_Contains_string wr.heap.size 0 11 11 (bys kept) s (wr.alloc (.cells (listA kept) 9)) (by decide) (by decide) (list_cell wr kept))
      generalize hq : Lib.containsS ((bys kept).take 11) s = q at *
      clear hq HN
      unfold keptB at HF
      go_wp2_with fail
      refine HF.out.mono ?_
      rintro r w1 ⟨rfl, hw⟩
      subst hw
      go_wp2_with fail
      refine HC.out.mono ?_
      rintro r w1 ⟨rfl, hw⟩
      subst hw
      go_wp2
      go_ret
      exact ⟨by rw [HL.out]; rfl, (Below.refl _ _).alloc (Nat.le_refl _) _⟩
end Go.Proofs.YtkobiojndamofaaDoor.Lr
