/- How much may be read of so many words: no list of statements is longer than these. No Go in it. -/
import Derived.Test.YtemdnmfldihalaaDoorLgAll
import Derived.Test.YtemdnmfldihalaaDoorLdParse
namespace Go.Proofs.YtemdnmfldihalaaDoor.Lg
set_option linter.unusedVariables false

/-- No list of statements in it is long. -/
def SmallS : Nat → St → Prop
  | 0, _ => True
  | m + 1, t => t.thn.length ≤ 2500 ∧ t.els.length ≤ 2500 ∧ (∀ u ∈ t.thn, SmallS m u) ∧ ∀ u ∈ t.els, SmallS m u
def Sm {α : Type} (l : List (List UInt8)) (x : Res α) (P : α → Prop) : Prop := ∀ a r, x = .ok (a, r) → l.length ≤ 2400 → r.length ≤ l.length ∧ P a
theorem sm_and {α β : Type} {l : List (List UInt8)} {x : Res α} {f : α → List (List UInt8) → Res β} {P : α → Prop} {Q : β → Prop} (h : Sm l x P) (h2 : ∀ a r, P a → Sm r (f a r) Q) : Sm l (andT x f) Q := by
  intro b q hb hl
  obtain ⟨a, r, h3, h4⟩ := andT_inv hb
  obtain ⟨k1, k2⟩ := h a r h3 hl
  obtain ⟨k3, k4⟩ := h2 a r k2 b q h4 (by omega)
  exact ⟨by omega, k4⟩
theorem sm_sh {α : Type} {l : List (List UInt8)} {x : Res α} (h : Sh l x) : Sm l x (fun _ => True) := fun a r hx _ => ⟨h a r hx, trivial⟩
theorem sm_ok {α : Type} {a : α} {l : List (List UInt8)} {P : α → Prop} (h : P a) : Sm l (.ok (a, l) : Res α) P := fun _ _ hx _ => by cases hx; exact ⟨Nat.le_refl _, h⟩
theorem sm_err {α : Type} {k : Int} {l : List (List UInt8)} {P : α → Prop} : Sm l (.error k : Res α) P := fun _ _ hx _ => by cases hx
theorem sm_if {α : Type} {l : List (List UInt8)} {p : Prop} [Decidable p] {a b : Res α} {P : α → Prop} (ha : Sm l a P) (hb : Sm l b P) : Sm l (if p then a else b) P := by
  by_cases h : p
  · rw [if_pos h]; exact ha
  · rw [if_neg h]; exact hb
theorem sm_uptoN {α : Type} {f : List (List UInt8) → Res α} {P : α → Prop} (h : ∀ l, Sm l (f l) P) : ∀ (n : Nat) (l : List (List UInt8)), Sm l (uptoT f n l) (fun us => us.length ≤ n ∧ ∀ u ∈ us, P u)
  | 0, l => sm_err
  | n + 1, l => by
    unfold uptoT
    refine sm_if ?_ (sm_and (h l) fun a r ha => sm_and (sm_uptoN h n r) fun us q hus => sm_ok ⟨by simp; omega, fun u hu => ?_⟩)
    · intro a r hr _
      cases hr
      exact ⟨by simp, by simp, by simp⟩
    · rcases List.mem_cons.1 hu with e | e
      · rw [e]; exact ha
      · exact hus.2 u e
theorem sm_upto {α : Type} {f : List (List UInt8) → Res α} {P : α → Prop} (h : ∀ l, Sm l (f l) P) (l : List (List UInt8)) : Sm l (uptoT f (l.length + 1) l) (fun us => us.length ≤ 2500 ∧ ∀ u ∈ us, P u) := by
  intro a r hx hl
  obtain ⟨h1, h2, h3⟩ := sm_uptoN h (l.length + 1) l a r hx hl
  exact ⟨h1, by omega, h3⟩
theorem sm_stmt : ∀ (m : Nat) (l : List (List UInt8)), Sm l (stmtT m l) (SmallS m)
  | 0, l => sm_err
  | m + 1, l => by
    unfold stmtT
    have nil : ∀ u ∈ ([] : List St), SmallS m u := fun u hu => by cases hu
    repeat (first
      | exact sm_ok ⟨by simp, by simp, nil, nil⟩
      | exact sm_err
      | refine sm_if ?_ ?_
      | refine sm_and (sm_sh (sh_next _)) fun _ _ _ => ?_
      | refine sm_and (sm_sh (sh_want _ _)) fun _ _ _ => ?_
      | refine sm_and (sm_sh (sh_lab _)) fun _ _ _ => ?_
      | refine sm_and (sm_sh (sh_name _)) fun _ _ _ => ?_
      | refine sm_and (sm_sh (sh_num _ _ _)) fun _ _ _ => ?_
      | refine sm_and (sm_sh (sh_expr _ _)) fun _ _ _ => ?_
      | exact sm_and (sm_upto (sm_stmt m) _) fun t _ ht => sm_and (sm_sh (sh_want _ _)) fun _ _ _ => sm_and (sm_upto (sm_stmt m) _) fun e _ he => sm_and (sm_sh (sh_want _ _)) fun _ _ _ => sm_ok ⟨ht.1, he.1, ht.2, he.2⟩
      | exact sm_and (sm_upto (sm_stmt m) _) fun t _ ht => sm_ok ⟨ht.1, by simp, ht.2, nil⟩)
def SmallF (f : Fn) : Prop := f.params.length ≤ 2500 ∧ f.arrays.length ≤ 2500 ∧ f.body.length ≤ 2500 ∧ ∀ t ∈ f.body, SmallS 9 t
theorem sm_fn (l : List (List UInt8)) : Sm l (fnT l) SmallF := by
  unfold fnT
  refine sm_and (sm_sh (sh_want _ _)) fun _ _ _ => sm_and (sm_sh (sh_want _ _)) fun _ _ _ => sm_and (sm_sh (sh_want _ _)) fun _ _ _ => ?_
  refine sm_and (sm_upto (P := fun _ => True) (fun l => sm_sh (fun a r h => Nat.le_of_lt (var_less l a r h))) _) fun ps _ hp => sm_and (sm_sh (sh_want _ _)) fun _ _ _ => ?_
  refine sm_and (sm_upto (P := fun _ => True) (fun l => sm_sh (fun a r h => Nat.le_of_lt (arr_less l a r h))) _) fun rs _ hr => sm_and (sm_upto (sm_stmt 9) _) fun b _ hb => sm_if (sm_ok ⟨hp.1, hr.1, hb.1, hb.2⟩) sm_err
end Go.Proofs.YtemdnmfldihalaaDoor.Lg
namespace Go.Proofs.YtemdnmfldihalaaDoor.Lr
open Lg
theorem parse_small (l : List UInt8) : SmallF (parseT l).1 := by
  have hn : SmallF nilFn := ⟨by decide, by decide, by decide, (fun t ht => by cases ht)⟩
  unfold parseT
  by_cases h : 1200 < l.length
  · rw [if_pos h]; exact hn
  · rw [if_neg h]
    cases hr : fnT (words l) with
    | error x => exact hn
    | ok p =>
      obtain ⟨f, r⟩ := p
      exact (sm_fn (words l) f r hr (by have := words_len l; omega)).2
end Go.Proofs.YtemdnmfldihalaaDoor.Lr
