/- The document's own signs. -/
import Derived.Test.YtemdnmfldihalaaDoorLdMs
import Derived.Test.YtemdnmfldihalaaDoorLgAll
namespace Go.Proofs.YtemdnmfldihalaaDoor.Lr
set_option linter.unusedVariables false
set_option linter.unusedSimpArgs false
open Go.ChangeShapes Go.WideShapes Go.ChangeAt Go.RowKit Lg Rf

def signsA : Array Value := #[.string ⟨#[]⟩, .string ⟨#[43]⟩, .string ⟨#[45]⟩, .string ⟨#[38]⟩, .string ⟨#[124]⟩, .string ⟨#[94]⟩, .string ⟨#[60, 60]⟩, .string ⟨#[62, 62]⟩, .string ⟨#[42]⟩, .string ⟨#[47]⟩, .string ⟨#[37]⟩, .string ⟨#[60]⟩, .string ⟨#[61]⟩]
set_option maxHeartbeats 1000000 in
set_option maxRecDepth 100000 in
theorem signs_any (w : World) :
    Calls Tryd.prog 52 #[] w fun e w' => e = .returned (.slice (some ⟨w.heap.size, 0, none⟩) 13 13) ∧ w' = w.alloc (.cells signsA 9) := by
  go_enter Tryd.func52, Tryd.ntmps52
  go_wp2
  go_ret
  exact ⟨rfl, rfl⟩
theorem signsA_at (k : Nat) (h1 : 1 ≤ k) (h : k < 13) : signsA[k]? = some (.string ⟨(sign k).toArray⟩) := by
  have : ∀ j : Fin 12, signsA[j.val + 1]? = some (.string ⟨(sign (j.val + 1)).toArray⟩) := by
    intro j
    match j with
    | ⟨0, _⟩ => rfl
    | ⟨1, _⟩ => rfl
    | ⟨2, _⟩ => rfl
    | ⟨3, _⟩ => rfl
    | ⟨4, _⟩ => rfl
    | ⟨5, _⟩ => rfl
    | ⟨6, _⟩ => rfl
    | ⟨7, _⟩ => rfl
    | ⟨8, _⟩ => rfl
    | ⟨9, _⟩ => rfl
    | ⟨10, _⟩ => rfl
    | ⟨11, _⟩ => rfl
    | ⟨i + 12, h⟩ => exact absurd h (by omega)
  have := this ⟨k - 1, by omega⟩
  rwa [show (⟨k - 1, by omega⟩ : Fin 12).val + 1 = k by simp; omega] at this
def sg (k : Nat) : List UInt8 := if k = 0 then [] else sign k
theorem sg_at (k : Nat) (h : k < 13) : signsA.toList[k]? = some (.string ⟨(sg k).toArray⟩) := by
  rw [Array.getElem?_toList]
  unfold sg
  by_cases h0 : k = 0
  · subst h0; rfl
  · rw [if_neg h0]; exact signsA_at k (by omega) h
/-- The sign that was found among the first ones. -/
def scan (W : List UInt8) (k : Nat) : Int := if signOf W < k then (signOf W : Int) else 0
theorem scan_end (W : List UInt8) : scan W 13 = (signOf W : Int) := by
  have := signOf_le W
  unfold scan; rw [if_pos (by omega)]
theorem scan_one {W : List UInt8} : scan W 1 = scan W 0 := by
  unfold scan
  by_cases h : signOf W = 0
  · rw [h]; rfl
  · rw [if_neg (by omega), if_neg (by omega)]
theorem scan_hit {W : List UInt8} {k : Nat} (h : signOf W = k) : scan W (k + 1) = (k : Int) := by
  unfold scan; rw [if_pos (by omega), h]
theorem scan_miss {W : List UInt8} {k : Nat} (h : ¬ signOf W = k) : scan W (k + 1) = scan W k := by
  unfold scan
  by_cases h1 : signOf W < k
  · rw [if_pos (by omega), if_pos h1]
  · rw [if_neg (by omega), if_neg h1]
theorem sign_iff (W : List UInt8) (k : Nat) (h1 : 0 < k) (h2 : k < 13) : sg k = W ↔ signOf W = k := by
  unfold sg
  rw [if_neg (by omega)]
  constructor
  · intro h; rw [← h]; exact (sign_of k (by omega) (by omega)).1
  · intro h; rw [← h]; exact sign_sound (by omega)
end Go.Proofs.YtemdnmfldihalaaDoor.Lr
