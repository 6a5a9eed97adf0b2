/- The program's own reader: lists, whatever reads their parts. -/
import Derived.Test.YtkobiojndamofaaDoorLwStep
import Derived.Test.YtkobiojndamofaaDoorLgAll
namespace Go.Proofs.YtkobiojndamofaaDoor.Lr
set_option linter.unusedVariables false
open Go.ChangeShapes Go.WideShapes Go.ChangeAt Go.RowKit Lg

/-- Nothing below B has turned but the blocks of l. -/
structure Fh (B : Nat) (l : List Nat) (w w' : World) : Prop where
  os : w'.os = w.os
  tape : w'.tape = w.tape
  output : w'.output = w.output
  size : w.heap.size ≤ w'.heap.size
  block : ∀ k, k < B → k ∉ l → w'.heap[k]? = w.heap[k]?
theorem Fh.refl (B : Nat) (l : List Nat) (w : World) : Fh B l w w := ⟨rfl, rfl, rfl, Nat.le_refl _, fun _ _ _ => rfl⟩
theorem Fh.trans {B : Nat} {l : List Nat} {u v w : World} (h : Fh B l u v) (k : Fh B l v w) : Fh B l u w :=
  ⟨k.os.trans h.os, k.tape.trans h.tape, k.output.trans h.output, Nat.le_trans h.size k.size, fun i hi hb => (k.block i hi hb).trans (h.block i hi hb)⟩
theorem Fs.fh {B : Nat} {l : List Nat} {w w' : World} (h : Fs l w w') (hB : B ≤ w.heap.size) : Fh B l w w' := ⟨h.os, h.tape, h.output, h.size, fun k hk hl => h.block k (by omega) hl⟩
theorem Fh.fs {l : List Nat} {w w' : World} (h : Fh w.heap.size l w w') : Fs l w w' := ⟨h.os, h.tape, h.output, h.size, h.block⟩
theorem Fh.mono {B C : Nat} {l : List Nat} {w w' : World} (h : Fh B l w w') (hC : C ≤ B) : Fh C l w w' := ⟨h.os, h.tape, h.output, h.size, fun k hk hl => h.block k (by omega) hl⟩

/-- What comes of two steps. -/
theorem rd_then {α β : Type} {w2 : World} {b c n n1 : Nat} {e e1 : Int} {s1 : ByteArray} {res : Res α} {f : α → List (List UInt8) → Res β} {x : α} {post : β → Prop}
    (h1 : ¬ e = 0 → e1 = e) (h2 : e = 0 → (∀ y, res = .error y → e1 = y ∧ ¬ y = 0) ∧ ∀ a r, res = .ok (a, r) → e1 = 0 ∧ words s1.data.toList = r ∧ a = x)
    (h : Rd w2 b c n1 e1 (f x (words s1.data.toList)) post) (hn : n1 ≤ n) : Rd w2 b c n e (andT res f) post := by
  obtain ⟨s2, e2, hp, hs, k1, k2⟩ := h
  refine ⟨s2, e2, hp, Nat.le_trans hs hn, fun he => ?_, fun he => ?_⟩
  · have := h1 he
    rw [k1 (by rw [this]; exact he), this]
  · obtain ⟨g1, g2⟩ := h2 he
    cases hr : res with
    | error y =>
      obtain ⟨i1, i2⟩ := g1 y hr
      refine ⟨fun z hz => ?_, fun a r hz => by cases hz⟩
      cases hz
      rw [k1 (by rw [i1]; exact i2), i1]; exact ⟨rfl, i2⟩
    | ok p =>
      obtain ⟨a, r⟩ := p
      obtain ⟨i1, i2, i3⟩ := g2 a r hr
      subst i3 i2
      exact k2 i1
/-- The last step has come: something is made of what was read. -/
theorem rd_ok {β : Type} {w : World} {b c n : Nat} {e : Int} {s : ByteArray} {y : β} {post : β → Prop} (hp : RB w b c s e) (hs : s.size ≤ n) (h : post y) : Rd w b c n e (.ok (y, words s.data.toList)) post :=
  ⟨s, e, hp, hs, fun _ => rfl, fun he => ⟨fun z hz => (by cases hz), fun a r hz => (by cases hz; exact ⟨he, rfl, h⟩)⟩⟩
/-- It is wrong. -/
theorem rd_bad {β : Type} {w : World} {b c n : Nat} {e x : Int} {s : ByteArray} {post : β → Prop} (hp : RB w b c s (first e x)) (hs : s.size ≤ n) (hx : ¬ x = 0) : Rd (α := β) w b c n e (.error x) post :=
  ⟨s, first e x, hp, hs, fun he => first_ne he, fun he => ⟨fun z hz => (by cases hz; rw [he, first_zero]; exact ⟨rfl, hx⟩), fun a r hz => (by cases hz)⟩⟩
theorem Rd.mono {α : Type} {w : World} {b c n : Nat} {e : Int} {res : Res α} {p q : α → Prop} (h : Rd w b c n e res p) (hq : ∀ a, p a → q a) : Rd w b c n e res q := by
  obtain ⟨s, e1, h1, h2, h3, h4⟩ := h
  exact ⟨s, e1, h1, h2, h3, fun he => ⟨(h4 he).1, fun a r hr => ⟨((h4 he).2 a r hr).1, ((h4 he).2 a r hr).2.1, hq a ((h4 he).2 a r hr).2.2⟩⟩⟩

/-- A word that is there makes the text shorter. -/
theorem rs_short (s : ByteArray) (h : ¬ wd s.data.toList = []) : (⟨(rs s.data.toList).toArray⟩ : ByteArray).size + 1 ≤ s.size := by
  have h1 : (skip s.data.toList).length ≤ s.data.toList.length := (List.dropWhile_sublist Lg.blank (l := s.data.toList)).length_le
  have h2 : (wd s.data.toList).length ≤ (skip s.data.toList).length := by
    unfold wd word
    split
    · exact List.length_take_le' _ _
    · exact (List.takeWhile_sublist _).length_le
  have h3 : 1 ≤ (wd s.data.toList).length := by
    cases hw : wd s.data.toList with
    | nil => exact absurd hw h
    | cons a r => simp
  rw [← Lib.size_eq] at h1
  rw [size_mk]
  unfold rs
  rw [List.length_drop]
  omega

set_option maxHeartbeats 1000000 in
/-- The next word, where nothing was wrong: what is left is shorter. -/
theorem word_go (b c : Nat) (s : ByteArray) (hs : s.size < 4294967281) (w : World) (h : RB w b c s 0) :
    Calls Tryd.prog 58 #[.pointer (some ⟨b, 0, none⟩)] w fun r w' => r = .returned (.string ⟨(wd s.data.toList).toArray⟩) ∧ Fs [b, c] w w' ∧
      ((wd s.data.toList = [] ∧ words s.data.toList = [] ∧ ∃ s', RB w' b c s' 8 ∧ s'.size ≤ s.size) ∨ (¬ wd s.data.toList = [] ∧ ∃ s', words s.data.toList = wd s.data.toList :: words s'.data.toList ∧ RB w' b c s' 0 ∧ s'.size + 1 ≤ s.size)) := by
  have hc1 := h.c1
  have hc0 := h.c0
  have HN := keep (next_any c s hs w h.2)
  have HP := keep h
  have HSt := keep (words_step s.data.toList)
  have HWn := keep (wd_none s.data.toList)
  have HSh := keep (rs_short s)
  have HRl := keep (rs_len s)
  clear h
  generalize skip s.data.toList = K at *
  generalize wd s.data.toList = W at *
  generalize rs s.data.toList = R at *
  by_cases hw : W = []
  · subst hw
    have HK := keep (HWn.out.1 rfl)
    go_enter Tryd.func58, Tryd.ntmps58
    go_wp2_with fail
    refine HN.out.mono ?_
    rintro r w1 ⟨rfl, hsb, hfs⟩
    have HP1 := keep (HP.out.moved hsb hfs)
    have HF1 := keep (hfs.mono (m := [b, c]) (by simp))
    clear hsb hfs HN hc0 hc1
    go_wp2_with fail
    refine (fail_any b c _ 0 8 w1 HP1.out).mono ?_
    rintro r w2 ⟨rfl, hp2, hf2⟩
    have HP2 := keep hp2
    have HF2 := keep (HF1.out.trans hf2)
    clear hp2 hf2 HP1 HF1
    go_wp2
    go_ret
    refine ⟨rfl, HF2.out, .inl ⟨trivial, ?_, _, HP2.out, HRl.out⟩⟩
    rw [HSt.out, if_pos HK.out]
  · have hwb : (W == []) = false := by simpa using hw
    have HK : Hid (¬ K = []) := fun h => hw (HWn.out.2 h)
    go_enter Tryd.func58, Tryd.ntmps58
    go_wp2_with fail
    refine HN.out.mono ?_
    rintro r w1 ⟨rfl, hsb, hfs⟩
    have HP1 := keep (HP.out.moved hsb hfs)
    have HF1 := keep (hfs.mono (m := [b, c]) (by simp))
    clear hsb hfs HN hc0 hc1
    go_wp2
    go_ret
    refine ⟨rfl, HF1.out, .inr ⟨hw, _, ?_, HP1.out, HSh.out hw⟩⟩
    rw [HSt.out, if_neg HK.out]

/-- What was read ahead of the rest. -/
def pre {α : Type} (us : List α) : Res (List α) → Res (List α)
  | .error e => .error e
  | .ok (bs, q) => .ok (us ++ bs, q)
theorem pre_nil {α : Type} (x : Res (List α)) : x = pre [] x := by cases x <;> rfl
theorem upto_end {α : Type} {f : List (List UInt8) → Res α} (n : Nat) : uptoG f (n + 1) [] = .error 8 := rfl
theorem upto_close {α : Type} {f : List (List UInt8) → Res α} (n : Nat) (r : List (List UInt8)) : uptoG f (n + 1) ([41] :: r) = .ok ([], r) := by
  rw [uptoG, next, andT_ok, if_neg (by decide), if_pos rfl]
theorem upto_other {α : Type} {f : List (List UInt8) → Res α} (n : Nat) {W : List UInt8} (h1 : ¬ W = [40]) (h2 : ¬ W = [41]) (r : List (List UInt8)) : uptoG f (n + 1) (W :: r) = .error 2 := by
  rw [uptoG, next, andT_ok, if_neg h1, if_neg h2]
theorem upto_bad {α : Type} {f : List (List UInt8) → Res α} (n : Nat) {r : List (List UInt8)} {x : Int} (h : f r = .error x) : uptoG f (n + 1) ([40] :: r) = .error x := by
  rw [uptoG, next, andT_ok, if_pos rfl, h]; rfl
theorem upto_part {α : Type} {f : List (List UInt8) → Res α} (n : Nat) {r q : List (List UInt8)} {a : α} (h : f r = .ok (a, q)) : uptoG f (n + 1) ([40] :: r) = pre [a] (uptoG f n q) := by
  rw [uptoG, next, andT_ok, if_pos rfl, h, andT_ok]
  cases uptoG f n q <;> rfl
theorem pre_pre {α : Type} (us bs : List α) (x : Res (List α)) : pre us (pre bs x) = pre (us ++ bs) x := by
  cases x with
  | error e => rfl
  | ok p => simp [pre]

/-- How much is left to be read. -/
def leftAt (b c : Nat) (w : World) : Nat := match w.cell? ⟨b, 1, none⟩, w.cell? ⟨c, 0, none⟩ with
  | some (.int _ e), some (.string s) => if e = 0 then s.size + 1 else 0
  | _, _ => 0
theorem RB.left {w : World} {b c : Nat} {s : ByteArray} {e : Int} (h : RB w b c s e) : leftAt b c w = if e = 0 then s.size + 1 else 0 := by unfold leftAt; rw [h.c1, h.2.c0]

set_option maxHeartbeats 4000000 in
set_option maxRecDepth 100000 in
theorem list_rd {α : Type} (b c B N : Nat) (k : FuncId) (binds : Array Value) (f : List (List UInt8) → Res α) (I : World → List α → Prop) (n0 : Nat)
    (eg : ∀ args w, (callFunc k args).run Tryd.prog w = .ok (.enter k args) w)
    (hI : ∀ W W' us, I W us → Fs [b, c] W W' → I W' us)
    (hpart : ∀ W s us, RB W b c s 0 → s.size + us.length + 1 ≤ n0 → I W us → B ≤ W.heap.size → Tabs W →
      Calls Tryd.prog k binds W fun r w' => r = .returned (.tuple #[]) ∧ ∃ a, I w' (us ++ [a]) ∧ Rd w' b c s.size 0 (f (words s.data.toList)) (fun x => x = a) ∧ Fh B [b, c] W w')
    (s : ByteArray) (hn0 : s.size ≤ n0) (hs : n0 < 4294967281) (hN : s.size < N) (e : Int) (w : World) (h : RB w b c s e) (hi : I w []) (hB : B ≤ w.heap.size) (ht : Tabs w) (hg : GL b ∧ GL c ∧ GL B) :
    Calls Tryd.prog 25 #[.pointer (some ⟨b, 0, none⟩), .func (.func k) #[] binds] w fun r w' => r = .returned (.tuple #[]) ∧ ∃ us, I w' us ∧ Rd w' b c s.size e (uptoG f N (words s.data.toList)) (fun x => x = us) ∧ Fh B [b, c] w w' := by
  have HTf : Hid (∀ W, Fh B [b, c] w W → Tabs W) := fun W hW => by
    refine ht.below (B := min (min b c) B) ?_ ⟨hW.os, hW.tape, hW.output, hW.size, fun k hk => hW.block k (by omega) (by simp; omega)⟩
    obtain ⟨⟨g1, g2⟩, ⟨g3, g4⟩, g5, g6⟩ := hg
    exact ⟨by omega, by omega⟩
  have HPart := keep hpart
  have HI := keep hI
  have HP := keep h
  have Hi := keep hi
  clear hpart hI h hi hg ht
  go_enter Tryd.func25, Tryd.ntmps25
  go_wp2
  go_loopw [] (fun wx => ∃ (s' : ByteArray) (e' : Int) (us : List α), RB wx b c s' e' ∧ s'.size + us.length ≤ s.size ∧ I wx us ∧ Fh B [b, c] w wx ∧ (¬ e = 0 → e' = e) ∧
      (e = 0 → (¬ e' = 0 → uptoG f N (words s.data.toList) = .error e') ∧ (e' = 0 → ∃ N', s'.size < N' ∧ uptoG f N (words s.data.toList) = pre us (uptoG f N' (words s'.data.toList))))) (fun wx => leftAt b c wx)
  case atStart => exact ⟨s, e, [], HP.out, by simp, Hi.out, Fh.refl _ _ _, fun _ => rfl, fun he => ⟨fun h => absurd he h, fun _ => ⟨N, hN, pre_nil _⟩⟩⟩
  case round =>
    obtain ⟨s', e', us, hp, hsz, hia, hfh, hne, heq⟩ := hrel
    have hc1 := hp.c1
    have HP2 := keep hp
    have HIa := keep hia
    have HF := keep hfh
    have HNe := keep hne
    have HEq := keep heq
    have HL := keep hp.left
    have hBr : B ≤ wr.heap.size := Nat.le_trans hB hfh.size
    clear hp hia hfh hne heq HP Hi
    by_cases he' : e' = 0
    · subst he'
      have he : e = 0 := by
        by_cases h : e = 0
        · exact h
        · exact (HNe.out h).symm
      subst he
      obtain ⟨N', hN', hrest⟩ := (HEq.out rfl).2 rfl
      have HRest := keep hrest
      obtain ⟨m, rfl⟩ : ∃ m, N' = m + 1 := ⟨N' - 1, by omega⟩
      clear hrest HEq HNe
      rw [if_pos rfl] at HL
      have HC := keep (word_go b c s' (by omega) wr HP2.out)
      have HWs := keep (words_step s'.data.toList)
      generalize wd s'.data.toList = W at *
      by_cases hopen : W = [40]
      · subst hopen
        go_wp2_with fail
        refine HC.out.mono ?_
        rintro r w1 ⟨rfl, hf1, h⟩
        obtain ⟨_, s1, hw1, hp1, hs1⟩ : _ ∧ ∃ s1, words s'.data.toList = [40] :: words s1.data.toList ∧ RB w1 b c s1 0 ∧ s1.size + 1 ≤ s'.size := by
          rcases h with ⟨h, _⟩ | h
          · cases h
          · exact h
        have HF1 := keep (HF.out.trans (hf1.fh hBr))
        have HC2 := keep (HPart.out w1 s1 us hp1 (by omega) (HI.out _ _ _ HIa.out hf1) (Nat.le_trans hBr hf1.size) (HTf.out _ HF1.out))
        have HW1 := keep hw1
        clear hf1 h hw1 hp1 HC
        go_wp2_with (go_at_fn k; refine HC2.out.mono ?_; rintro r w2 ⟨rfl, a, hi2, hr2, hf2⟩; have HI2 := keep hi2; have HR2 := keep hr2; have HF2 := keep (HF1.out.trans hf2); clear hi2 hr2 hf2)
        obtain ⟨s2, e2, hp2, hs2, k1, k2⟩ := HR2.out
        obtain ⟨k3, k4⟩ := k2 rfl
        go_roundw
        case rel =>
          refine ⟨s2, e2, us ++ [a], hp2, by rw [List.length_append, List.length_singleton]; omega, HI2.out, HF2.out, fun h => absurd trivial h, fun _ => ⟨fun he2 => ?_, fun he2 => ?_⟩⟩
          · rw [HRest.out, HW1.out]
            cases hfr : f (words s1.data.toList) with
            | error x =>
              rw [upto_bad m hfr, (k3 x hfr).1]; rfl
            | ok p =>
              obtain ⟨a', q⟩ := p
              exact absurd (k4 a' q hfr).1 he2
          · refine ⟨m, by omega, ?_⟩
            rw [HRest.out, HW1.out]
            cases hfr : f (words s1.data.toList) with
            | error x =>
              exact absurd ((k3 x hfr).1 ▸ he2) (k3 x hfr).2
            | ok p =>
              obtain ⟨a', q⟩ := p
              obtain ⟨_, g2, g3⟩ := k4 a' q hfr
              rw [upto_part m hfr, pre_pre, g2, g3]
        case measure =>
          rw [HL.out, hp2.left]
          split <;> omega
      · by_cases hclose : W = [41]
        · subst hclose
          go_wp2_with fail
          refine HC.out.mono ?_
          rintro r w1 ⟨rfl, hf1, h⟩
          obtain ⟨_, s1, hw1, hp1, hs1⟩ : _ ∧ ∃ s1, words s'.data.toList = [41] :: words s1.data.toList ∧ RB w1 b c s1 0 ∧ s1.size + 1 ≤ s'.size := by
            rcases h with ⟨h, _⟩ | h
            · cases h
            · exact h
          have HF1 := keep (HF.out.trans (hf1.fh hBr))
          have HI1 := keep (HI.out _ _ _ HIa.out hf1)
          have HW1 := keep hw1
          have HP1 := keep hp1
          clear hf1 h hw1 hp1 HC
          go_wp2
          (try simp only [Exit.inBlock, Exit.then])
          refine bodyPost_ret (results_none rfl _ _ _) rfl ?_
          refine ⟨rfl, us, HI1.out, ⟨s1, 0, HP1.out, by omega, fun h => absurd rfl h, fun _ => ?_⟩, HF1.out⟩
          rw [HRest.out, HW1.out, upto_close]
          exact ⟨fun x hx => (by cases hx), fun a r hx => (by cases hx; exact ⟨rfl, rfl, by simp⟩)⟩
        · have d1 : (W == [40]) = false := by simpa using hopen
          have d2 : (W == [41]) = false := by simpa using hclose
          have HO := keep hopen
          have HK := keep hclose
          clear hopen hclose
          go_wp2_with fail
          refine HC.out.mono ?_
          rintro r w1 ⟨rfl, hf1, h⟩
          obtain ⟨s1, e1, hp1, hs1, hu1, hz1⟩ : ∃ s1 e1, RB w1 b c s1 e1 ∧ s1.size ≤ s'.size ∧ uptoG f (m + 1) (words s'.data.toList) = .error (first e1 2) ∧ ¬ first e1 2 = 0 := by
            rcases h with ⟨h0, h1, s1, h2, h3⟩ | ⟨h0, s1, h1, h2, h3⟩
            · exact ⟨s1, 8, h2, h3, by rw [h1]; rfl, by decide⟩
            · exact ⟨s1, 0, h2, by omega, by rw [h1, upto_other m HO.out HK.out]; rfl, by decide⟩
          have HF1 := keep (HF.out.trans (hf1.fh hBr))
          have HI1 := keep (HI.out _ _ _ HIa.out hf1)
          have HP1 := keep hp1
          have HU1 := keep hu1
          have hB1 : B ≤ w1.heap.size := Nat.le_trans hBr hf1.size
          clear hf1 h hp1 HC hu1
          go_wp2_with fail
          refine (fail_any b c s1 e1 2 w1 HP1.out).mono ?_
          rintro r w2 ⟨rfl, hp2, hf2⟩
          have HF2 := keep (HF1.out.trans (hf2.fh hB1))
          have HI2 := keep (HI.out _ _ _ HI1.out hf2)
          have HP2' := keep hp2
          clear hp2 hf2
          go_wp2
          go_roundw
          case rel =>
            refine ⟨s1, first e1 2, us, HP2'.out, by omega, HI2.out, HF2.out, fun h => absurd trivial h, fun _ => ⟨fun he2 => ?_, fun he2 => absurd he2 hz1⟩⟩
            rw [HRest.out, HU1.out]; rfl
          case measure =>
            rw [HL.out, HP2'.out.left, if_neg hz1]
            omega
    · have d : (e' == 0) = false := by simpa using he'
      have HE := keep he'
      clear he'
      go_wp2
      go_end0
      refine ⟨rfl, us, HIa.out, ⟨s', e', HP2.out, by omega, HNe.out, fun he => ?_⟩, HF.out⟩
      rw [(HEq.out he).1 HE.out]
      exact ⟨fun x hx => (by cases hx; exact ⟨rfl, HE.out⟩), fun a r hx => (by cases hx)⟩
end Go.Proofs.YtkobiojndamofaaDoor.Lr
