/- Statements and variables as they are built. -/
import Derived.Test.YtfbmkcogkiejnaaLdRow
import Derived.Deep.MidRow
namespace Go.Proofs.Ytfbmkcogkiejnaa.Lr
set_option linter.unusedVariables false
open Go.ChangeShapes Go.WideShapes Go.ChangeAt Go.RowKit Lg

/-- The slice sl holds statements, and what hangs on them, in blocks of X. -/
def StX (w : World) (X : Nat → Prop) : Nat → List St → Value → Prop
  | 0, _, _ => False
  | m + 1, l, sl => (l = [] ∧ sl = .slice none 0 0) ∨ ∃ (g cap : Nat), sl = .slice (some ⟨g, 0, none⟩) l.length cap ∧ l.length ≤ cap ∧ l.length ≤ 281474976710656 ∧ X g ∧
      ∀ j t, l[j]? = some t → ∃ s1 s2 s3, StAt w g (0 + j * 7) t s1 s2 s3 ∧ ExX w X 11 (ar t.args) s1 ∧ StX w X m t.thn s2 ∧ StX w X m t.els s3
theorem StX.keep {w w' : World} {X : Nat → Prop} (hb : ∀ i, X i → w'.heap[i]? = w.heap[i]?) : ∀ {m : Nat} {l : List St} {sl : Value}, StX w X m l sl → StX w' X m l sl
  | 0, _, _, h => h
  | m + 1, e, sl, h => by
    rcases h with h | ⟨g, cap, h1, h2, h5, h3, h4⟩
    · exact .inl h
    · refine .inr ⟨g, cap, h1, h2, h5, h3, fun j a hj => ?_⟩
      obtain ⟨s1, s2, s3, k1, k2, k3, k4⟩ := h4 j a hj
      have key : ∀ i, w'.cell? ⟨g, i, none⟩ = w.cell? ⟨g, i, none⟩ := fun i => by unfold World.cell?; simp only [hb g h3]
      exact ⟨s1, s2, s3, ⟨by rw [key]; exact k1.c0, by rw [key]; exact k1.c1, by rw [key]; exact k1.c2, by rw [key]; exact k1.c3, by rw [key]; exact k1.c4, by rw [key]; exact k1.c5, by rw [key]; exact k1.c6⟩, ExX.keep hb k2, k3.keep hb, k4.keep hb⟩
theorem StX.mono {w : World} {X Y : Nat → Prop} (hb : ∀ i, X i → Y i) : ∀ {m : Nat} {l : List St} {sl : Value}, StX w X m l sl → StX w Y m l sl
  | 0, _, _, h => h
  | m + 1, e, sl, h => by
    rcases h with h | ⟨g, cap, h1, h2, h5, h3, h4⟩
    · exact .inl h
    · refine .inr ⟨g, cap, h1, h2, h5, hb g h3, fun j a hj => ?_⟩
      obtain ⟨s1, s2, s3, k1, k2, k3, k4⟩ := h4 j a hj
      exact ⟨s1, s2, s3, k1, ExX.mono hb k2, k3.mono hb, k4.mono hb⟩
theorem StX.slice {w : World} {X : Nat → Prop} : ∀ {m : Nat} {l : List St} {sl : Value}, StX w X m l sl → ∃ p n cap, sl = .slice p n cap
  | 0, _, _, h => h.elim
  | m + 1, e, sl, h => by
    rcases h with ⟨_, h⟩ | ⟨g, cap, h1, _⟩
    · exact ⟨_, _, _, h⟩
    · exact ⟨_, _, _, h1⟩
theorem StX.none {w : World} {X : Nat → Prop} (m : Nat) : StX w X (m + 1) [] (.slice none 0 0) := .inl ⟨rfl, rfl⟩

end Go.Proofs.Ytfbmkcogkiejnaa.Lr
