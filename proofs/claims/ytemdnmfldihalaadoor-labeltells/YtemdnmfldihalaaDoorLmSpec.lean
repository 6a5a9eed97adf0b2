/- The document's own checker: what is asked of its blocks; names and arrays that came ahead. -/
import Derived.Test.YtemdnmfldihalaaDoorLmExprs
import Derived.Test.YtemdnmfldihalaaDoorLkTwo
import Derived.Test.YtemdnmfldihalaaDoorLkBlock
namespace Go.Proofs.YtemdnmfldihalaaDoor.Lr
set_option linter.unusedVariables false
set_option linter.unusedSimpArgs false
open Go.ChangeShapes Go.WideShapes Go.ChangeAt Go.RowKit Go.Maps Go.WideMaps Lg

def resK (r : Except Int Ks) : Int := match r with
  | .ok _ => 0
  | .error e => e
/-- A block, by the document's checker: what is wrong, or how far it has come; nothing old turns but the checker's own block. -/
def KBlock (m : Nat) : Prop := ∀ (K B k bA nA bN nN : Nat) (rs : List Vr) (ns : List Nm) (wk lt : Nat) (dark : Bool) (l : List St) (sl : Value) (w : World), m ≤ K → m ≤ 10 → (∀ t ∈ l, wfS m t) → KK w k bA nA rs wk lt → MapN w bN nN ns → bN ≠ k → nN ≤ 1000 + wk → Few ns wk lt → B ≤ k → StIs w B 10 (K + 1) l sl →
  Calls Tryd.prog 24 #[.pointer (some ⟨k, 0, none⟩), sl, .map (some bN), .bool dark] w fun r w' => r = .returned (.int .i64 (resK (blockK (stmtK rs m dark) l ⟨ns, wk, lt⟩))) ∧ Fs [k] w w' ∧ ∀ k', blockK (stmtK rs m dark) l ⟨ns, wk, lt⟩ = .ok k' → KK w' k bA nA rs k'.work k'.lets
theorem byN_nm (l : List Vr) (x : List UInt8) : byN (l.map nmOf) x = (byV l x).map nmOf := by
  unfold byN byV
  rw [List.find?_map]; rfl
theorem byN_nm_some (l : List Vr) (x : List UInt8) : (byN (l.map nmOf) x).isSome = (byV l x).isSome := by
  rw [byN_nm]; simp
theorem byV_app (l r : List Vr) (x : List UInt8) : (byV (l ++ r) x).isSome = ((byV l x).isSome || (byV r x).isSome) := by
  unfold byV
  rw [List.find?_append]
  cases List.find? (fun v => v.name == x) l <;> simp
/-- The first ones, one more of them. -/
theorem twice_par {ps rs : List Vr} {j : Nat} {v : Vr} (h : ps[j]? = some v) : twiceA (ps.take j) (ps.drop j ++ rs) = ((byV (ps.take j) v.name).isSome || twiceA (ps.take (j + 1)) (ps.drop (j + 1) ++ rs)) := by
  obtain ⟨hj, rfl⟩ := List.getElem?_eq_some_iff.1 h
  rw [List.drop_eq_getElem_cons hj, List.cons_append, twiceA, List.take_succ_eq_append_getElem hj]
theorem twice_arr {ps rs : List Vr} {j : Nat} {v : Vr} (h : rs[j]? = some v) : twiceA (ps ++ rs.take j) (rs.drop j) = ((byV ps v.name).isSome || (byV (rs.take j) v.name).isSome || twiceA (ps ++ rs.take (j + 1)) (rs.drop (j + 1))) := by
  obtain ⟨hj, rfl⟩ := List.getElem?_eq_some_iff.1 h
  rw [List.drop_eq_getElem_cons hj, twiceA, byV_app, List.take_succ_eq_append_getElem hj, List.append_assoc]
end Go.Proofs.YtemdnmfldihalaaDoor.Lr
