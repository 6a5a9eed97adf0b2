/- Expressions, statements, variables, programs as they lie in memory. -/
import Derived.Test.YtnnfefohpofipaaLrBase
import Derived.Deep.RegionHeld3
import Derived.Deep.DrawnRows
namespace Go.Proofs.Ytnnfefohpofipaa.Lr
set_option linter.unusedVariables false
set_option linter.unusedSimpArgs false
open Go.ChangeShapes Go.WideShapes Go.ChangeAt Go.RowKit Lg

/-- An expression's four cells, its arguments' slice given. -/
def exA (e : Ex) (sl : Value) : Array Value := #[.int .i64 e.kind, .int .i64 e.n, .string ⟨e.name.toArray⟩, sl]
/-- Those four, from an address on. -/
structure ExAt (w : World) (g k : Nat) (e : Ex) (sl : Value) : Prop where
  c0 : w.cell? ⟨g, k, none⟩ = some (.int .i64 e.kind)
  c1 : w.cell? ⟨g, k + 1, none⟩ = some (.int .i64 e.n)
  c2 : w.cell? ⟨g, k + 2, none⟩ = some (.string ⟨e.name.toArray⟩)
  c3 : w.cell? ⟨g, k + 3, none⟩ = some sl
/-- The slice sl holds an expression's arguments, and what hangs on them, in blocks below B. -/
def ExIs (w : World) (B : Nat) : Nat → Ex → Value → Prop
  | 0, _, _ => False
  | m + 1, e, sl => (e.args = [] ∧ sl = .slice none 0 0) ∨ ∃ (g o cap : Nat), sl = .slice (some ⟨g, o, none⟩) e.args.length cap ∧ e.args.length ≤ cap ∧ e.args.length ≤ 281474976710656 ∧ g < B ∧
      ∀ j a, e.args[j]? = some a → ∃ sl', ExAt w g (o + j * 4) a sl' ∧ ExIs w B m a sl'
theorem ExAt.below {w w' : World} {B g k : Nat} {e : Ex} {sl : Value} (h : ExAt w g k e sl) (hb : Below B w w') (hg : g < B) : ExAt w' g k e sl := by
  have key : ∀ i, w'.cell? ⟨g, i, none⟩ = w.cell? ⟨g, i, none⟩ := fun i => by
    unfold World.cell?; simp only [hb.block g hg]
  exact ⟨by rw [key]; exact h.c0, by rw [key]; exact h.c1, by rw [key]; exact h.c2, by rw [key]; exact h.c3⟩
theorem ExIs.below {w w' : World} {B : Nat} (hb : Below B w w') : ∀ {m : Nat} {e : Ex} {sl : Value}, ExIs w B m e sl → ExIs w' B m e sl
  | 0, _, _, h => h
  | m + 1, e, sl, h => by
    rcases h with h | ⟨g, o, cap, h1, h2, h5, h3, h4⟩
    · exact .inl h
    · exact .inr ⟨g, o, cap, h1, h2, h5, h3, fun j a hj => by
        obtain ⟨sl', k1, k2⟩ := h4 j a hj
        exact ⟨sl', k1.below hb h3, k2.below hb⟩⟩
/-- The same, by parts. -/
theorem ExIs.parts {w : World} {B m : Nat} {e : Ex} {sl : Value} (h : ExIs w B (m + 1) e sl) : ∃ (p : Option Addr) (n cap : Nat), sl = .slice p n cap ∧ e.args.length = n ∧ n ≤ cap ∧ n ≤ 281474976710656 ∧
    ∀ j a, e.args[j]? = some a → ∃ g o sl', p = some ⟨g, o, none⟩ ∧ g < B ∧ ExAt w g (o + j * 4) a sl' ∧ ExIs w B m a sl' := by
  rcases h with ⟨h1, h2⟩ | ⟨g, o, cap, h1, h2, h5, h3, h4⟩
  · exact ⟨none, 0, 0, h2, by rw [h1]; rfl, Nat.le_refl _, by omega, fun j a hj => by rw [h1] at hj; simp at hj⟩
  · exact ⟨some ⟨g, o, none⟩, _, cap, h1, rfl, h2, by omega, fun j a hj => by
      obtain ⟨sl', k1, k2⟩ := h4 j a hj
      exact ⟨g, o, sl', rfl, h3, k1, k2⟩⟩
theorem cell_below {w w' : World} {B g i : Nat} (hb : Below B w w') (hg : g < B) : w'.cell? ⟨g, i, none⟩ = w.cell? ⟨g, i, none⟩ := by
  unfold World.cell?; simp only [hb.block g hg]
theorem lt_of_cell {w : World} {g i : Nat} {v : Value} (h : w.cell? ⟨g, i, none⟩ = some v) : g < w.heap.size := by
  by_cases hg : g < w.heap.size
  · exact hg
  · unfold World.cell? at h
    simp only [Array.getElem?_eq_none (Nat.le_of_not_lt hg)] at h
    simp at h

theorem keep_cell {w w' : World} {g i : Nat} {v : Value} (hb : Below w.heap.size w w') (h : w.cell? ⟨g, i, none⟩ = some v) : w'.cell? ⟨g, i, none⟩ = some v := by
  rw [cell_below hb (lt_of_cell h)]; exact h
structure VrAt (w : World) (g k : Nat) (v : Vr) : Prop where
  c0 : w.cell? ⟨g, k, none⟩ = some (.string ⟨v.name.toArray⟩)
  c1 : w.cell? ⟨g, k + 1, none⟩ = some (.bool v.secret)
  c2 : w.cell? ⟨g, k + 2, none⟩ = some (.int .i64 v.size)
/-- The slice sl holds variables, in a block below B. -/
def VrIs (w : World) (B : Nat) (vs : List Vr) (sl : Value) : Prop := ∃ (p : Option Addr) (n cap : Nat), sl = .slice p n cap ∧ vs.length = n ∧ n ≤ cap ∧ n ≤ 281474976710656 ∧
    ∀ j v, vs[j]? = some v → ∃ g o, p = some ⟨g, o, none⟩ ∧ g < B ∧ VrAt w g (o + j * 3) v
theorem VrAt.below {w w' : World} {B g k : Nat} {v : Vr} (h : VrAt w g k v) (hb : Below B w w') (hg : g < B) : VrAt w' g k v :=
  ⟨by rw [cell_below hb hg]; exact h.c0, by rw [cell_below hb hg]; exact h.c1, by rw [cell_below hb hg]; exact h.c2⟩
theorem VrIs.below {w w' : World} {B : Nat} {vs : List Vr} {sl : Value} (hb : Below B w w') (h : VrIs w B vs sl) : VrIs w' B vs sl := by
  obtain ⟨p, n, cap, h1, h2, h3, h4, h5⟩ := h
  exact ⟨p, n, cap, h1, h2, h3, h4, fun j v hj => by
    obtain ⟨g, o, k1, k2, k3⟩ := h5 j v hj
    exact ⟨g, o, k1, k2, k3.below hb k2⟩⟩

/-- Nothing old has turned, draws or no. -/
def BD (w w' : World) : Prop := ∃ v : World, Below w.heap.size w v ∧ w'.heap = v.heap ∧ w'.os = v.os ∧ w'.tape = v.tape ∧ w'.output = v.output
theorem BD.out {w w' : World} (h : BD w w') : Below w.heap.size w w' := by
  obtain ⟨v, h1, e1, e2, e3, e4⟩ := h
  exact ⟨e2.trans h1.os, e3.trans h1.tape, e4.trans h1.output, by rw [e1]; exact h1.size, fun k hk => by rw [e1]; exact h1.block k hk⟩
theorem BD.of {w w' : World} (h : Below w.heap.size w w') : BD w w' := ⟨w', h, rfl, rfl, rfl, rfl⟩
structure StAt (w : World) (g k : Nat) (t : St) (s1 s2 s3 : Value) : Prop where
  c0 : w.cell? ⟨g, k, none⟩ = some (.int .i64 t.kind)
  c1 : w.cell? ⟨g, k + 1, none⟩ = some (.int .i64 t.n)
  c2 : w.cell? ⟨g, k + 2, none⟩ = some (.string ⟨t.name.toArray⟩)
  c3 : w.cell? ⟨g, k + 3, none⟩ = some (.bool t.secret)
  c4 : w.cell? ⟨g, k + 4, none⟩ = some s1
  c5 : w.cell? ⟨g, k + 5, none⟩ = some s2
  c6 : w.cell? ⟨g, k + 6, none⟩ = some s3
/-- An expression that is nothing but its arguments. -/
def ar (l : List Ex) : Ex := ⟨0, 0, [], l⟩
/-- The slice sl holds statements, and what hangs on them, in blocks below B. -/
def StIs (w : World) (B e : Nat) : Nat → List St → Value → Prop
  | 0, _, _ => False
  | m + 1, l, sl => ∃ (p : Option Addr) (n cap : Nat), sl = .slice p n cap ∧ l.length = n ∧ n ≤ cap ∧ n ≤ 281474976710656 ∧
      ∀ j t, l[j]? = some t → ∃ g o s1 s2 s3, p = some ⟨g, o, none⟩ ∧ g < B ∧ StAt w g (o + j * 7) t s1 s2 s3 ∧ ExIs w B (e + 1) (ar t.args) s1 ∧ StIs w B e m t.thn s2 ∧ StIs w B e m t.els s3
theorem StAt.below {w w' : World} {B g k : Nat} {t : St} {s1 s2 s3 : Value} (h : StAt w g k t s1 s2 s3) (hb : Below B w w') (hg : g < B) : StAt w' g k t s1 s2 s3 :=
  ⟨by rw [cell_below hb hg]; exact h.c0, by rw [cell_below hb hg]; exact h.c1, by rw [cell_below hb hg]; exact h.c2, by rw [cell_below hb hg]; exact h.c3, by rw [cell_below hb hg]; exact h.c4, by rw [cell_below hb hg]; exact h.c5, by rw [cell_below hb hg]; exact h.c6⟩
theorem StIs.below {w w' : World} {B e : Nat} (hb : Below B w w') : ∀ {m : Nat} {l : List St} {sl : Value}, StIs w B e m l sl → StIs w' B e m l sl
  | 0, _, _, h => h
  | m + 1, l, sl, h => by
    obtain ⟨p, n, cap, h1, h2, h3, h4, h5⟩ := h
    exact ⟨p, n, cap, h1, h2, h3, h4, fun j t hj => by
      obtain ⟨g, o, s1, s2, s3, k1, k2, k3, k4, k5, k6⟩ := h5 j t hj
      exact ⟨g, o, s1, s2, s3, k1, k2, k3.below hb k2, k4.below hb, k5.below hb, k6.below hb⟩⟩

theorem StIs.slice {w : World} {B e : Nat} : ∀ {m : Nat} {l : List St} {sl : Value}, StIs w B e m l sl → ∃ p n cap, sl = .slice p n cap
  | 0, _, _, h => h.elim
  | _ + 1, _, _, h => by
    obtain ⟨p, n, cap, h1, _⟩ := h
    exact ⟨p, n, cap, h1⟩
/-- The value v is a program, in blocks below B. -/
def FnIs (w : World) (B e m : Nat) (f : Lg.Fn) (v : Value) : Prop := ∃ s1 s2 s3, v = .agg #[s1, s2, s3] ∧ VrIs w B f.params s1 ∧ VrIs w B f.arrays s2 ∧ StIs w B e m f.body s3
theorem FnIs.below {w w' : World} {B e m : Nat} {f : Lg.Fn} {v : Value} (hb : Below B w w') (h : FnIs w B e m f v) : FnIs w' B e m f v := by
  obtain ⟨s1, s2, s3, h0, h1, h2, h3⟩ := h
  exact ⟨s1, s2, s3, h0, h1.below hb, h2.below hb, h3.below hb⟩
theorem VrIs.slice {w : World} {B : Nat} {l : List Vr} {sl : Value} (h : VrIs w B l sl) : ∃ p n cap, sl = .slice p n cap := by
  obtain ⟨p, n, cap, h1, _⟩ := h
  exact ⟨p, n, cap, h1⟩

end Go.Proofs.Ytnnfefohpofipaa.Lr
