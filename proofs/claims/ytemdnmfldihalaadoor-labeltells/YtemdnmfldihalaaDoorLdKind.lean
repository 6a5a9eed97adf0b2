/- The document's own reader: which word is which statement; that word, and no other, where what is left is known. Written by tools/gen_dkind.py. -/
import Derived.Test.YtemdnmfldihalaaDoorLdBlk
import Derived.Maps.Own
import Derived.Maps.OwnOps
import Derived.Maps.Keyed
import Derived.Maps.Views
import Derived.StringKeys
import Derived.WalkSmall
namespace Go.Proofs.YtemdnmfldihalaaDoor.Lr
set_option linter.unusedVariables false
set_option linter.unusedSimpArgs false
open Go.ChangeShapes Go.WideShapes Go.ChangeAt Go.RowKit Go.Maps Go.WideMaps Lg Rf

theorem zero_int (w : World) : (zeroValue 3).run Tryd.prog w = .ok (.int .i64 0) w := by kernel_rfl
/-- The map, as data. -/
def kindD : DataW Unit := (((((((DataW.map []) |>.put (.string [108, 101, 116]) (.lit (.int .i64 1))) |>.put (.string [115, 101, 116]) (.lit (.int .i64 2))) |>.put (.string [112, 117, 116]) (.lit (.int .i64 3))) |>.put (.string [105, 102]) (.lit (.int .i64 4))) |>.put (.string [102, 111, 114]) (.lit (.int .i64 5))) |>.put (.string [114, 101, 116]) (.lit (.int .i64 6)))
theorem str_ne {a b : List UInt8} (h : ¬ a = b) : (Lit.string a) ≠ (.string b) := fun e => h (by injection e)
theorem kind_at (W : List UInt8) : kindD.atKey (.string W) (.lit (.int .i64 0)) = .lit (.int .i64 (kindOf W)) := by
  unfold kindD kindOf
  by_cases h6 : W = [114, 101, 116]
  · subst h6; rfl
  · rw [Maps.atKey_put_other (str_ne h6)]
    by_cases h5 : W = [102, 111, 114]
    · subst h5; rfl
    · rw [Maps.atKey_put_other (str_ne h5)]
      by_cases h4 : W = [105, 102]
      · subst h4; rfl
      · rw [Maps.atKey_put_other (str_ne h4)]
        by_cases h3 : W = [112, 117, 116]
        · subst h3; rfl
        · rw [Maps.atKey_put_other (str_ne h3)]
          by_cases h2 : W = [115, 101, 116]
          · subst h2; rfl
          · rw [Maps.atKey_put_other (str_ne h2)]
            by_cases h1 : W = [108, 101, 116]
            · subst h1; rfl
            · rw [Maps.atKey_put_other (str_ne h1)]
              rw [if_neg h1, if_neg h2, if_neg h3, if_neg h4, if_neg h5, if_neg h6]
              rfl
theorem kinds_map (W : World) (b : Nat) (hb : W.heap.size = b) : ∃ W1 W2 W3 W4 W5 W6,
    (Instr.mapUpdate 86 (.map (some b)) (.string ⟨#[108, 101, 116]⟩) (.int .i64 1)).run Tryd.prog (W.alloc (.map #[] 0)) = .ok () W1 ∧
    (Instr.mapUpdate 86 (.map (some b)) (.string ⟨#[115, 101, 116]⟩) (.int .i64 2)).run Tryd.prog W1 = .ok () W2 ∧
    (Instr.mapUpdate 86 (.map (some b)) (.string ⟨#[112, 117, 116]⟩) (.int .i64 3)).run Tryd.prog W2 = .ok () W3 ∧
    (Instr.mapUpdate 86 (.map (some b)) (.string ⟨#[105, 102]⟩) (.int .i64 4)).run Tryd.prog W3 = .ok () W4 ∧
    (Instr.mapUpdate 86 (.map (some b)) (.string ⟨#[102, 111, 114]⟩) (.int .i64 5)).run Tryd.prog W4 = .ok () W5 ∧
    (Instr.mapUpdate 86 (.map (some b)) (.string ⟨#[114, 101, 116]⟩) (.int .i64 6)).run Tryd.prog W5 = .ok () W6 ∧
    (∀ X : ByteArray, X.size ≤ maxLen → (Instr.lookup 86 (.map (some b)) (.string X) false).run Tryd.prog W6 = .ok (.int .i64 (kindOf X.data.toList)) W6) ∧ Below W.heap.size W W6 := by
  subst hb
  have K := string_keyed Tryd.underlying9
  have h0 := World.ownsMap_made (H := Unit) W Tryd.prog 9 (plainElem Tryd.prog 3)
  obtain ⟨W1, r1, o1, g1⟩ := h0.update K Tryd.underlying86 (by unfold maxLen; decide) (keyOf_string_mk Tryd.underlying9 (s := ⟨#[108, 101, 116]⟩) (by unfold maxLen; decide)) (plainElem_int Tryd.underlying3 (a := 1) (by decide))
  obtain ⟨W2, r2, o2, g2⟩ := o1.update K Tryd.underlying86 (by unfold maxLen; decide) (keyOf_string_mk Tryd.underlying9 (s := ⟨#[115, 101, 116]⟩) (by unfold maxLen; decide)) (plainElem_int Tryd.underlying3 (a := 2) (by decide))
  obtain ⟨W3, r3, o3, g3⟩ := o2.update K Tryd.underlying86 (by unfold maxLen; decide) (keyOf_string_mk Tryd.underlying9 (s := ⟨#[112, 117, 116]⟩) (by unfold maxLen; decide)) (plainElem_int Tryd.underlying3 (a := 3) (by decide))
  obtain ⟨W4, r4, o4, g4⟩ := o3.update K Tryd.underlying86 (by unfold maxLen; decide) (keyOf_string_mk Tryd.underlying9 (s := ⟨#[105, 102]⟩) (by unfold maxLen; decide)) (plainElem_int Tryd.underlying3 (a := 4) (by decide))
  obtain ⟨W5, r5, o5, g5⟩ := o4.update K Tryd.underlying86 (by unfold maxLen; decide) (keyOf_string_mk Tryd.underlying9 (s := ⟨#[102, 111, 114]⟩) (by unfold maxLen; decide)) (plainElem_int Tryd.underlying3 (a := 5) (by decide))
  obtain ⟨W6, r6, o6, g6⟩ := o5.update K Tryd.underlying86 (by unfold maxLen; decide) (keyOf_string_mk Tryd.underlying9 (s := ⟨#[114, 101, 116]⟩) (by unfold maxLen; decide)) (plainElem_int Tryd.underlying3 (a := 6) (by decide))
  refine ⟨W1, W2, W3, W4, W5, W6, r1, r2, r3, r4, r5, r6, ?_, ?_⟩
  · intro X hX
    obtain ⟨n, hrun, hat, _⟩ := o6.lookup_int K Tryd.underlying86 Tryd.underlying3 (zero_int _) (keyOf_string_mk Tryd.underlying9 hX)
    have e2 : (DataW.lit (.int .i64 (kindOf X.data.toList)) : DataW Unit) = .lit (.int .i64 n) := (kind_at X.data.toList).symm.trans hat
    have e3 : kindOf X.data.toList = n := by
      simp only [DataW.lit.injEq, Lit.int.injEq, true_and] at e2
      exact e2
    rw [hrun, e3]
  · have hA : Below W.heap.size W (W.alloc (.map #[] 0)) := (Below.refl _ _).alloc (Nat.le_refl _) _
    have q1 := hA.grown g1 (by simp) (fun k hk => by cases hk; exact Nat.le_refl _)
    have q2 := q1.grown g2 (by have := q1.size; omega) (fun k hk => by cases hk; exact Nat.le_refl _)
    have q3 := q2.grown g3 (by have := q2.size; omega) (fun k hk => by cases hk; exact Nat.le_refl _)
    have q4 := q3.grown g4 (by have := q3.size; omega) (fun k hk => by cases hk; exact Nat.le_refl _)
    have q5 := q4.grown g5 (by have := q4.size; omega) (fun k hk => by cases hk; exact Nat.le_refl _)
    have q6 := q5.grown g6 (by have := q5.size; omega) (fun k hk => by cases hk; exact Nat.le_refl _)
    exact q6

/-- How a reader stands behind a step, what is left of the text known. -/
def RdS {α : Type} (w : World) (b : Nat) (s' : ByteArray) (e : Int) (res : Res α) (post : α → Prop) : Prop :=
  ∃ e' : Int, PB w b s' e' ∧ (¬ e = 0 → e' = e) ∧ (e = 0 → (∀ x, res = .error x → e' = x ∧ ¬ x = 0) ∧ ∀ a r, res = .ok (a, r) → e' = 0 ∧ words s'.data.toList = r ∧ post a)
set_option maxHeartbeats 1000000 in
/-- That word, and no other; what is left is known. -/
theorem is_pack (b : Nat) (s : ByteArray) (hs : s.size ≤ 281474976710656) : ∃ s1 : ByteArray, s1.data.toList = rs s.data.toList ∧ s1.size ≤ s.size ∧ ∀ (x : ByteArray) (e : Int) (w : World), PB w b s e →
    Calls Tryd.prog 12 #[.pointer (some ⟨b, 0, none⟩), .string x] w fun r w' => r = .returned (.tuple #[]) ∧ RdS w' b s1 e (want x.data.toList (words s.data.toList)) (fun _ => True) ∧ Fr b w w' := by
  obtain ⟨s1, hs1, hz1, hpk⟩ := w_pack b s hs _ rfl
  refine ⟨s1, hs1, hz1, fun x e w h => ?_⟩
  have HC := keep (hpk e w h)
  clear h hpk
  generalize wd s.data.toList = W at *
  generalize words s.data.toList = Ws at *
  by_cases hq : W = x.data.toList
  · have dq : (W == x.toList) = true := by rw [Lib.toList_data]; simpa using hq
    have HQ := keep hq
    clear hq
    go_enter Tryd.func12, Tryd.ntmps12
    go_wp2_with fail
    refine HC.out.mono ?_
    rintro r w1 ⟨rfl, ⟨e1, hp, h1, h2⟩, hf⟩
    have HP := keep hp
    have HF := keep hf
    have H1 := keep h1
    have H2 := keep h2
    clear hp hf h1 h2
    go_wp2
    go_end0
    refine ⟨rfl, ⟨e1, HP.out, H1.out, fun he => ?_⟩, HF.out⟩
    obtain ⟨k1, k2⟩ := H2.out he
    unfold want
    cases hx : next Ws with
    | error y => exact ⟨fun z hz => (by cases hz; exact k1 y hx), fun a r hz => (by cases hz)⟩
    | ok p =>
      obtain ⟨a, r⟩ := p
      obtain ⟨i1, i2, i3⟩ := k2 a r hx
      rw [andT_ok, if_pos (i3.trans HQ.out)]
      exact ⟨fun z hz => (by cases hz), fun a' r' hz => (by cases hz; exact ⟨i1, i2, trivial⟩)⟩
  · have dq : (W == x.toList) = false := by rw [Lib.toList_data]; simpa using hq
    have HQ := keep hq
    clear hq
    go_enter Tryd.func12, Tryd.ntmps12
    go_wp2_with fail
    refine HC.out.mono ?_
    rintro r w1 ⟨rfl, ⟨e1, hp, h1, h2⟩, hf⟩
    have HP := keep hp
    have HF := keep hf
    have H1 := keep h1
    have H2 := keep h2
    clear hp hf h1 h2
    go_wp2_with fail
    refine (bad_any b s1 e1 2 _ HP.out).mono ?_
    rintro r w2 ⟨rfl, hp2, hf2⟩
    have HP2 := keep hp2
    have HF2 := keep (HF.out.trans hf2)
    clear hp2 hf2
    go_wp2
    go_end0
    refine ⟨rfl, ⟨first e1 2, HP2.out, fun he => ?_, fun he => ?_⟩, HF2.out⟩
    · rw [H1.out he, first_ne he]
    · obtain ⟨k1, k2⟩ := H2.out he
      unfold want
      cases hx : next Ws with
      | error y =>
        refine ⟨fun z hz => ?_, fun a r hz => (by cases hz)⟩
        cases hz
        obtain ⟨i1, i2⟩ := k1 y hx
        rw [i1, first_ne i2]; exact ⟨rfl, i2⟩
      | ok p =>
        obtain ⟨a, r⟩ := p
        obtain ⟨i1, i2, i3⟩ := k2 a r hx
        rw [andT_ok, if_neg (fun h => HQ.out (i3.symm.trans h))]
        exact ⟨fun z hz => (by cases hz; rw [i1, first_zero]; exact ⟨rfl, by decide⟩), fun a' r' hz => (by cases hz)⟩
end Go.Proofs.YtemdnmfldihalaaDoor.Lr
