/- Laid together: LrBase, LdIs. -/
import Derived.Test.YtfbmkcogkiejnaaProg
import Derived.Test.YtfbmkcogkiejnaaGr0
import Derived.ProofKit
import Derived.OpenShut
import Derived.Below
import Derived.Lib.Strings
import Derived.Lib.FrozenHead
import Derived.Lib.Builder
import Derived.Lib.Walk
import Derived.Lib.IndexBytes
import Derived.Deep.QuietTactic
import Derived.BigQuiet
import Derived.Deep.RegionHeld3
import Derived.Deep.DrawnRows
namespace Go.Proofs.Ytfbmkcogkiejnaa.Lr
set_option linter.unusedVariables false
open Go.ChangeShapes Go.WideShapes Go.ChangeAt Go.RowKit Lg

theorem keep {p : Prop} (h : p) : Hid p := h
/-- The first thing that is wrong counts. -/
def first (e x : Int) : Int := if e = 0 then x else e
set_option linter.unusedSimpArgs false
/-- Those four, from an address on. -/
structure ExAt (w : World) (g k : Nat) (e : Ex) (sl : Value) : Prop where
  c0 : w.cell? ⟨g, k, none⟩ = some (.int .i64 e.kind)
  c1 : w.cell? ⟨g, k + 1, none⟩ = some (.int .i64 e.n)
  c2 : w.cell? ⟨g, k + 2, none⟩ = some (.string ⟨e.name.toArray⟩)
  c3 : w.cell? ⟨g, k + 3, none⟩ = some sl
/-- The slice sl holds an expression's arguments, and what hangs on them, in blocks below B. -/
def ExIs (w : World) (B : Nat) : Nat → Ex → Value → Prop
  | 0, _, _ => False
  | m + 1, e, sl => (e.args = [] ∧ sl = .slice none 0 0) ∨ ∃ (g o cap : Nat), sl = .slice (some ⟨g, o, none⟩) e.args.length cap ∧ e.args.length ≤ cap ∧ e.args.length ≤ 281474976710656 ∧ g < B ∧
      ∀ j a, e.args[j]? = some a → ∃ sl', ExAt w g (o + j * 4) a sl' ∧ ExIs w B m a sl'
theorem cell_below {w w' : World} {B g i : Nat} (hb : Below B w w') (hg : g < B) : w'.cell? ⟨g, i, none⟩ = w.cell? ⟨g, i, none⟩ := by
  unfold World.cell?; simp only [hb.block g hg]
theorem lt_of_cell {w : World} {g i : Nat} {v : Value} (h : w.cell? ⟨g, i, none⟩ = some v) : g < w.heap.size := by
  by_cases hg : g < w.heap.size
  · exact hg
  · unfold World.cell? at h
    simp only [Array.getElem?_eq_none (Nat.le_of_not_lt hg)] at h
    simp at h

theorem keep_cell {w w' : World} {g i : Nat} {v : Value} (hb : Below w.heap.size w w') (h : w.cell? ⟨g, i, none⟩ = some v) : w'.cell? ⟨g, i, none⟩ = some v := by
  rw [cell_below hb (lt_of_cell h)]; exact h
structure VrAt (w : World) (g k : Nat) (v : Vr) : Prop where
  c0 : w.cell? ⟨g, k, none⟩ = some (.string ⟨v.name.toArray⟩)
  c1 : w.cell? ⟨g, k + 1, none⟩ = some (.bool v.secret)
  c2 : w.cell? ⟨g, k + 2, none⟩ = some (.int .i64 v.size)
/-- The slice sl holds variables, in a block below B. -/
def VrIs (w : World) (B : Nat) (vs : List Vr) (sl : Value) : Prop := ∃ (p : Option Addr) (n cap : Nat), sl = .slice p n cap ∧ vs.length = n ∧ n ≤ cap ∧ n ≤ 281474976710656 ∧
    ∀ j v, vs[j]? = some v → ∃ g o, p = some ⟨g, o, none⟩ ∧ g < B ∧ VrAt w g (o + j * 3) v
theorem VrAt.below {w w' : World} {B g k : Nat} {v : Vr} (h : VrAt w g k v) (hb : Below B w w') (hg : g < B) : VrAt w' g k v :=
  ⟨by rw [cell_below hb hg]; exact h.c0, by rw [cell_below hb hg]; exact h.c1, by rw [cell_below hb hg]; exact h.c2⟩
theorem VrIs.below {w w' : World} {B : Nat} {vs : List Vr} {sl : Value} (hb : Below B w w') (h : VrIs w B vs sl) : VrIs w' B vs sl := by
  obtain ⟨p, n, cap, h1, h2, h3, h4, h5⟩ := h
  exact ⟨p, n, cap, h1, h2, h3, h4, fun j v hj => by
    obtain ⟨g, o, k1, k2, k3⟩ := h5 j v hj
    exact ⟨g, o, k1, k2, k3.below hb k2⟩⟩

/-- Nothing old has turned, draws or no. -/
def BD (w w' : World) : Prop := ∃ v : World, Below w.heap.size w v ∧ w'.heap = v.heap ∧ w'.os = v.os ∧ w'.tape = v.tape ∧ w'.output = v.output
theorem BD.of {w w' : World} (h : Below w.heap.size w w') : BD w w' := ⟨w', h, rfl, rfl, rfl, rfl⟩
structure StAt (w : World) (g k : Nat) (t : St) (s1 s2 s3 : Value) : Prop where
  c0 : w.cell? ⟨g, k, none⟩ = some (.int .i64 t.kind)
  c1 : w.cell? ⟨g, k + 1, none⟩ = some (.int .i64 t.n)
  c2 : w.cell? ⟨g, k + 2, none⟩ = some (.string ⟨t.name.toArray⟩)
  c3 : w.cell? ⟨g, k + 3, none⟩ = some (.bool t.secret)
  c4 : w.cell? ⟨g, k + 4, none⟩ = some s1
  c5 : w.cell? ⟨g, k + 5, none⟩ = some s2
  c6 : w.cell? ⟨g, k + 6, none⟩ = some s3
/-- An expression that is nothing but its arguments. -/
def ar (l : List Ex) : Ex := ⟨0, 0, [], l⟩
/-- The slice sl holds statements, and what hangs on them, in blocks below B. -/
def StIs (w : World) (B e : Nat) : Nat → List St → Value → Prop
  | 0, _, _ => False
  | m + 1, l, sl => ∃ (p : Option Addr) (n cap : Nat), sl = .slice p n cap ∧ l.length = n ∧ n ≤ cap ∧ n ≤ 281474976710656 ∧
      ∀ j t, l[j]? = some t → ∃ g o s1 s2 s3, p = some ⟨g, o, none⟩ ∧ g < B ∧ StAt w g (o + j * 7) t s1 s2 s3 ∧ ExIs w B (e + 1) (ar t.args) s1 ∧ StIs w B e m t.thn s2 ∧ StIs w B e m t.els s3
theorem StIs.slice {w : World} {B e : Nat} : ∀ {m : Nat} {l : List St} {sl : Value}, StIs w B e m l sl → ∃ p n cap, sl = .slice p n cap
  | 0, _, _, h => h.elim
  | _ + 1, _, _, h => by
    obtain ⟨p, n, cap, h1, _⟩ := h
    exact ⟨p, n, cap, h1⟩
theorem VrIs.slice {w : World} {B : Nat} {l : List Vr} {sl : Value} (h : VrIs w B l sl) : ∃ p n cap, sl = .slice p n cap := by
  obtain ⟨p, n, cap, h1, _⟩ := h
  exact ⟨p, n, cap, h1⟩

end Go.Proofs.Ytfbmkcogkiejnaa.Lr
