/- The program's own reader, by words: fail, word, must, label, name, number, deep. -/
import Derived.Test.YtkobiojndamofaaDoorLwName
namespace Go.Proofs.YtkobiojndamofaaDoor.Lr
set_option linter.unusedVariables false
open Go.ChangeShapes Go.WideShapes Go.ChangeAt Go.RowKit Lg

/-- What hands out the words of the text at c. -/
def nextF (c : Nat) : Value := .func (.func 21) #[] #[.pointer (some ⟨c, 0, none⟩)]
/-- A reader at b of the text at c: what is left of it, and what is wrong. -/
def RB (w : World) (b c : Nat) (s : ByteArray) (e : Int) : Prop :=
  w.heap[b]? = some (.cells #[.func (.func 21) #[] #[.pointer (some ⟨c, 0, none⟩)], .int .i64 e] 44 (0, 0)) ∧ SB w c s
theorem RB.c0 {w : World} {b c : Nat} {s : ByteArray} {e : Int} (h : RB w b c s e) : w.cell? ⟨b, 0, none⟩ = some (.func (.func 21) #[] #[.pointer (some ⟨c, 0, none⟩)]) := by rw [Lib.cell_of_heap h.1]; rfl
theorem RB.c1 {w : World} {b c : Nat} {s : ByteArray} {e : Int} (h : RB w b c s e) : w.cell? ⟨b, 1, none⟩ = some (.int .i64 e) := by rw [Lib.cell_of_heap h.1]; rfl
theorem RB.fr {w : World} {b c : Nat} {s : ByteArray} {e : Int} (h : RB w b c s e) (k : Nat) : w.frozen? ⟨b, k, none⟩ = false := Lib.frozen_of_heap h.1 k
theorem RB.lt {w : World} {b c : Nat} {s : ByteArray} {e : Int} (h : RB w b c s e) : b < w.heap.size := (Array.getElem?_eq_some_iff.1 h.1).1
theorem RB.ltc {w : World} {b c : Nat} {s : ByteArray} {e : Int} (h : RB w b c s e) : c < w.heap.size := h.2.lt
theorem RB.ne {w : World} {b c : Nat} {s : ByteArray} {e : Int} (h : RB w b c s e) : b ≠ c := fun hbc => by
  have h1 := h.1
  have h2 : w.heap[c]? = _ := h.2
  rw [hbc, h2] at h1
  simp at h1
theorem RB.setE {w : World} {b c : Nat} {s : ByteArray} {e : Int} (h : RB w b c s e) (x : Int) : RB (w.setCell ⟨b, 1, none⟩ (.int .i64 x)) b c s x := by
  refine ⟨?_, ?_⟩
  · have h1 := h.1
    simp [World.setCell, Array.getElem?_modify, h1]
  · have h2 : w.heap[c]? = _ := h.2
    show (w.setCell ⟨b, 1, none⟩ (.int .i64 x)).heap[c]? = _
    rw [Below.heap_setCell _ _ _ _ (Ne.symm h.ne)]; exact h2
theorem RB.fs {l : List Nat} {w w' : World} {b c : Nat} {s : ByteArray} {e : Int} (h : RB w b c s e) (k : Fs l w w') (hb : b ∉ l) (hc : c ∉ l) : RB w' b c s e := by
  refine ⟨?_, ?_⟩
  · rw [k.block b h.lt hb]; exact h.1
  · show w'.heap[c]? = _
    rw [k.block c h.ltc hc]; exact h.2
theorem RB.below {w w' : World} {b c : Nat} {s : ByteArray} {e : Int} (h : RB w b c s e) (k : Below w.heap.size w w') : RB w' b c s e := h.fs (Fs.of_below (l := []) k) (by simp) (by simp)
/-- Its text has moved on. -/
theorem RB.moved {w w' : World} {b c : Nat} {s s' : ByteArray} {e : Int} (h : RB w b c s e) (hs : SB w' c s') (k : Fs [c] w w') : RB w' b c s' e :=
  ⟨by rw [k.block b h.lt (by simp; exact h.ne)]; exact h.1, hs⟩

/-- How a reader stands behind a step: what was wrong stays; else what comes of it, by words. -/
def Rd {α : Type} (w : World) (b c n : Nat) (e : Int) (res : Res α) (post : α → Prop) : Prop :=
  ∃ (s' : ByteArray) (e' : Int), RB w b c s' e' ∧ s'.size ≤ n ∧ (¬ e = 0 → e' = e) ∧ (e = 0 → (∀ x, res = .error x → e' = x ∧ ¬ x = 0) ∧ ∀ a r, res = .ok (a, r) → e' = 0 ∧ words s'.data.toList = r ∧ post a)

set_option maxHeartbeats 400000 in
theorem fail_any (b c : Nat) (s : ByteArray) (e x : Int) (w : World) (h : RB w b c s e) :
    Calls Tryd.prog 31 #[.pointer (some ⟨b, 0, none⟩), .int .i64 x] w fun r w' => r = .returned (.tuple #[]) ∧ RB w' b c s (first e x) ∧ Fs [b, c] w w' := by
  have hc := h.c1
  have hf := h.fr 1
  have HP := keep h
  clear h
  by_cases he : e = 0
  · subst he
    have HF : Hid (first 0 x = x) := if_pos rfl
    go_enter Tryd.func31, Tryd.ntmps31
    go_wp2
    go_end0
    exact ⟨rfl, by rw [HF.out]; exact HP.out.setE x, (Fs.refl _ w).set (by simp) 1 _⟩
  · have HF : Hid (first e x = e) := if_neg he
    have d : (e == 0) = false := by simpa using he
    go_enter Tryd.func31, Tryd.ntmps31
    go_wp2
    go_end0
    exact ⟨rfl, by rw [HF.out]; exact HP.out, Fs.refl _ w⟩

/-- The word that is handed out: none, where something was wrong. -/
def wdE (e : Int) (l : List UInt8) : List UInt8 := if e = 0 then wd l else []
theorem wdE_len (e : Int) (s : ByteArray) : (wdE e s.data.toList).length ≤ s.size := by
  unfold wdE
  split
  · exact wd_len s
  · simp

set_option maxHeartbeats 1000000 in
/-- The next word. -/
theorem word_rd (b c : Nat) (s : ByteArray) (hs : s.size < 4294967281) (e : Int) (w : World) (h : RB w b c s e) :
    Calls Tryd.prog 58 #[.pointer (some ⟨b, 0, none⟩)] w fun r w' => r = .returned (.string ⟨(wdE e s.data.toList).toArray⟩) ∧ Rd w' b c s.size e (next (words s.data.toList)) (fun a => a = wdE e s.data.toList) ∧ Fs [b, c] w w' := by
  have hc1 := h.c1
  have hc0 := h.c0
  by_cases he : e = 0
  · subst he
    have HE : Hid (wdE 0 s.data.toList = wd s.data.toList) := if_pos rfl
    have HN := keep (next_any c s hs w h.2)
    have HP := keep h
    have HNx := keep (next_words s.data.toList)
    have HRl := keep (rs_len s)
    clear h
    rw [HE.out]
    generalize wd s.data.toList = W at *
    generalize rs s.data.toList = R at *
    by_cases hw : W = []
    · subst hw
      go_enter Tryd.func58, Tryd.ntmps58
      go_wp2_with fail
      refine HN.out.mono ?_
      rintro r w1 ⟨rfl, hsb, hfs⟩
      have HP1 := keep (HP.out.moved hsb hfs)
      have HF1 := keep (hfs.mono (m := [b, c]) (by simp))
      clear hsb hfs HN hc0 hc1
      go_wp2_with fail
      refine (fail_any b c _ 0 8 w1 HP1.out).mono ?_
      rintro r w2 ⟨rfl, hp2, hf2⟩
      have HP2 := keep hp2
      have HF2 := keep (HF1.out.trans hf2)
      clear hp2 hf2 HP1 HF1
      go_wp2
      go_ret
      rw [HNx.out, if_pos trivial]
      exact ⟨rfl, ⟨_, _, HP2.out, HRl.out, fun h => absurd rfl h, fun _ => ⟨fun x hx => (by cases hx; exact ⟨first_zero 8, by decide⟩), fun a r hx => (by cases hx)⟩⟩, HF2.out⟩
    · have hwb : (W == []) = false := by simpa using hw
      go_enter Tryd.func58, Tryd.ntmps58
      go_wp2_with fail
      refine HN.out.mono ?_
      rintro r w1 ⟨rfl, hsb, hfs⟩
      have HP1 := keep (HP.out.moved hsb hfs)
      have HF1 := keep (hfs.mono (m := [b, c]) (by simp))
      clear hsb hfs HN hc0 hc1
      go_wp2
      go_ret
      rw [HNx.out, if_neg hw]
      exact ⟨rfl, ⟨_, _, HP1.out, HRl.out, fun h => absurd rfl h, fun _ => ⟨fun x hx => (by cases hx), fun a r hx => (by cases hx; exact ⟨rfl, by simp, rfl⟩)⟩⟩, HF1.out⟩
  · have HE : Hid (wdE e s.data.toList = []) := if_neg he
    have d : (e != 0) = true := by simpa using he
    have HP := keep h
    clear h
    rw [HE.out]
    go_enter Tryd.func58, Tryd.ntmps58
    go_wp2
    go_ret
    exact ⟨rfl, ⟨_, _, HP.out, Nat.le_refl _, fun _ => rfl, fun h => absurd h he⟩, Fs.refl _ w⟩

/-- A step that looks at the next word, and may find it wrong. -/
theorem rd_look {α : Type} {w' : World} {b c n : Nat} {e : Int} {l : List (List UInt8)} {W : List UInt8} {s1 : ByteArray} {e1 x : Int} {e2 : Int} {f : List UInt8 → List (List UInt8) → Res α} {post : α → Prop}
    (h1 : ¬ e = 0 → e1 = e) (h2 : e = 0 → (∀ x, next l = .error x → e1 = x ∧ ¬ x = 0) ∧ ∀ a r, next l = .ok (a, r) → e1 = 0 ∧ words s1.data.toList = r ∧ a = W)
    (hp : RB w' b c s1 e2) (hn : s1.size ≤ n)
    (hgood : (∀ r, f W r = .error x ∧ ¬ x = 0) ∧ e2 = first e1 x ∨ (∃ a, (∀ r, f W r = .ok (a, r)) ∧ post a) ∧ e2 = e1) : Rd w' b c n e (andT (next l) f) post := by
  refine ⟨s1, e2, hp, hn, fun he => ?_, fun he => ?_⟩
  · have := h1 he
    rcases hgood with ⟨_, h⟩ | ⟨_, h⟩
    · rw [h, this, first_ne he]
    · rw [h, this]
  · obtain ⟨g1, g2⟩ := h2 he
    cases hx : next l with
    | error y =>
      obtain ⟨k1, k2⟩ := g1 y hx
      refine ⟨fun z hz => ?_, fun a r hz => by cases hz⟩
      cases hz
      rcases hgood with ⟨_, h⟩ | ⟨_, h⟩
      · rw [h, k1, first_ne k2]; exact ⟨rfl, k2⟩
      · rw [h, k1]; exact ⟨rfl, k2⟩
    | ok p =>
      obtain ⟨a, r⟩ := p
      obtain ⟨k1, k2, k3⟩ := g2 a r hx
      subst k3
      rcases hgood with ⟨hb, h⟩ | ⟨⟨c', hc, hpost⟩, h⟩
      · refine ⟨fun z hz => ?_, fun a' r' hz => ?_⟩
        · have := (hb r).1
          rw [andT_ok, this] at hz
          cases hz
          rw [h, k1, first_zero]; exact ⟨rfl, (hb r).2⟩
        · rw [andT_ok, (hb r).1] at hz; cases hz
      · refine ⟨fun z hz => ?_, fun a' r' hz => ?_⟩
        · rw [andT_ok, hc r] at hz; cases hz
        · rw [andT_ok, hc r] at hz
          cases hz
          rw [h, k1]; exact ⟨rfl, k2, hpost⟩
end Go.Proofs.YtkobiojndamofaaDoor.Lr
