/- Statements and variables as they are built. -/
import Derived.Test.YtkobiojndamofaaDoorLwEx
import Derived.Deep.MidRow
namespace Go.Proofs.YtkobiojndamofaaDoor.Lr
set_option linter.unusedVariables false
open Go.ChangeShapes Go.WideShapes Go.ChangeAt Go.RowKit Lg

/-- The slice sl holds statements, and what hangs on them, in blocks of X. -/
def StX (w : World) (X : Nat → Prop) : Nat → List St → Value → Prop
  | 0, _, _ => False
  | m + 1, l, sl => (l = [] ∧ sl = .slice none 0 0) ∨ ∃ (g cap : Nat), sl = .slice (some ⟨g, 0, none⟩) l.length cap ∧ l.length ≤ cap ∧ l.length ≤ 281474976710656 ∧ X g ∧
      ∀ j t, l[j]? = some t → ∃ s1 s2 s3, StAt w g (0 + j * 7) t s1 s2 s3 ∧ ExX w X 11 (ar t.args) s1 ∧ StX w X m t.thn s2 ∧ StX w X m t.els s3
theorem StX.keep {w w' : World} {X : Nat → Prop} (hb : ∀ i, X i → w'.heap[i]? = w.heap[i]?) : ∀ {m : Nat} {l : List St} {sl : Value}, StX w X m l sl → StX w' X m l sl
  | 0, _, _, h => h
  | m + 1, e, sl, h => by
    rcases h with h | ⟨g, cap, h1, h2, h5, h3, h4⟩
    · exact .inl h
    · refine .inr ⟨g, cap, h1, h2, h5, h3, fun j a hj => ?_⟩
      obtain ⟨s1, s2, s3, k1, k2, k3, k4⟩ := h4 j a hj
      have key : ∀ i, w'.cell? ⟨g, i, none⟩ = w.cell? ⟨g, i, none⟩ := fun i => by unfold World.cell?; simp only [hb g h3]
      exact ⟨s1, s2, s3, ⟨by rw [key]; exact k1.c0, by rw [key]; exact k1.c1, by rw [key]; exact k1.c2, by rw [key]; exact k1.c3, by rw [key]; exact k1.c4, by rw [key]; exact k1.c5, by rw [key]; exact k1.c6⟩, ExX.keep hb k2, k3.keep hb, k4.keep hb⟩
theorem StX.mono {w : World} {X Y : Nat → Prop} (hb : ∀ i, X i → Y i) : ∀ {m : Nat} {l : List St} {sl : Value}, StX w X m l sl → StX w Y m l sl
  | 0, _, _, h => h
  | m + 1, e, sl, h => by
    rcases h with h | ⟨g, cap, h1, h2, h5, h3, h4⟩
    · exact .inl h
    · refine .inr ⟨g, cap, h1, h2, h5, hb g h3, fun j a hj => ?_⟩
      obtain ⟨s1, s2, s3, k1, k2, k3, k4⟩ := h4 j a hj
      exact ⟨s1, s2, s3, k1, ExX.mono hb k2, k3.mono hb, k4.mono hb⟩
theorem StX.stIs {w : World} {X : Nat → Prop} {B : Nat} (hb : ∀ i, X i → i < B) : ∀ {m : Nat} {l : List St} {sl : Value}, StX w X m l sl → StIs w B 10 m l sl
  | 0, _, _, h => h
  | m + 1, e, sl, h => by
    rcases h with ⟨h1, h2⟩ | ⟨g, cap, h1, h2, h5, h3, h4⟩
    · exact ⟨none, 0, 0, h2, by rw [h1]; rfl, Nat.le_refl _, by omega, fun j t hj => by rw [h1] at hj; simp at hj⟩
    · refine ⟨some ⟨g, 0, none⟩, _, cap, h1, rfl, h2, h5, fun j a hj => ?_⟩
      obtain ⟨s1, s2, s3, k1, k2, k3, k4⟩ := h4 j a hj
      exact ⟨g, 0, s1, s2, s3, rfl, hb g h3, k1, ExX.exIs hb k2, k3.stIs hb, k4.stIs hb⟩
theorem StX.slice {w : World} {X : Nat → Prop} : ∀ {m : Nat} {l : List St} {sl : Value}, StX w X m l sl → ∃ p n cap, sl = .slice p n cap
  | 0, _, _, h => h.elim
  | m + 1, e, sl, h => by
    rcases h with ⟨_, h⟩ | ⟨g, cap, h1, _⟩
    · exact ⟨_, _, _, h⟩
    · exact ⟨_, _, _, h1⟩
theorem StX.none {w : World} {X : Nat → Prop} (m : Nat) : StX w X (m + 1) [] (.slice none 0 0) := .inl ⟨rfl, rfl⟩

/-- A statement's cells; rows of them. -/
def stA (t : St) (s1 s2 s3 : Value) : Array Value := #[.int .i64 t.kind, .int .i64 t.n, .string ⟨t.name.toArray⟩, .bool t.secret, s1, s2, s3]
def cellsS (p : St × Value × Value × Value) : List Value := [.int .i64 p.1.kind, .int .i64 p.1.n, .string ⟨p.1.name.toArray⟩, .bool p.1.secret, p.2.1, p.2.2.1, p.2.2.2]
/-- What hangs on a statement. -/
def nestS (m : Nat) (w : World) (X : Nat → Prop) (p : St × Value × Value × Value) : Prop := ExX w X 11 (ar p.1.args) p.2.1 ∧ StX w X m p.1.thn p.2.2.1 ∧ StX w X m p.1.els p.2.2.2
theorem nestS_nest (m : Nat) : Nest (nestS m) := ⟨fun w w' X p h hb => ⟨ExX.keep hb h.1, StX.keep hb h.2.1, StX.keep hb h.2.2⟩, fun w X Y p h hb => ⟨ExX.mono hb h.1, StX.mono hb h.2.1, StX.mono hb h.2.2⟩⟩
theorem cellsS_len (p : St × Value × Value × Value) : (cellsS p).length = 7 := rfl
def RowS (m : Nat) (w : World) (lo : Nat) (v : Value) (es : List (St × Value × Value × Value)) : Prop := RowX (nestS m) cellsS 7 36 w lo v es
theorem RowX.stmts {m : Nat} {w : World} {lo : Nat} {v : Value} {es : List (St × Value × Value × Value)} (h : RowS m w lo v es) (hl : es.length ≤ 281474976710656) : StX w (fun i => lo ≤ i ∧ i < w.heap.size) (m + 1) (es.map (·.1)) v := by
  rcases RowX.form cellsS_len h with ⟨h1, h2⟩ | ⟨g, cap, h1, h2, h3, h4, h5⟩
  · exact .inl ⟨by rw [h1]; rfl, h2⟩
  · refine .inr ⟨g, cap, by rw [h1, List.length_map], by rw [List.length_map]; exact h2, by rw [List.length_map]; exact hl, ⟨h3, h4⟩, fun j a hj => ?_⟩
    rw [List.getElem?_map, Option.map_eq_some_iff] at hj
    obtain ⟨p, hp, rfl⟩ := hj
    obtain ⟨k1, k2, k3⟩ := h.sub p (List.mem_of_getElem? hp)
    refine ⟨p.2.1, p.2.2.1, p.2.2.2, ⟨?_, ?_, ?_, ?_, ?_, ?_, ?_⟩, ExX.mono (fun i hi => ⟨hi.1, hi.2.1⟩) k1, StX.mono (fun i hi => ⟨hi.1, hi.2.1⟩) k2, StX.mono (fun i hi => ⟨hi.1, hi.2.1⟩) k3⟩
    · rw [Nat.zero_add]; exact h5 j p 0 _ hp rfl
    · rw [Nat.zero_add]; exact h5 j p 1 _ hp rfl
    · rw [Nat.zero_add]; exact h5 j p 2 _ hp rfl
    · rw [Nat.zero_add]; exact h5 j p 3 _ hp rfl
    · rw [Nat.zero_add]; exact h5 j p 4 _ hp rfl
    · rw [Nat.zero_add]; exact h5 j p 5 _ hp rfl
    · rw [Nat.zero_add]; exact h5 j p 6 _ hp rfl

/-- A variable's cells; rows of them. -/
def cellsV (p : Vr) : List Value := [.string ⟨p.name.toArray⟩, .bool p.secret, .int .i64 p.size]
def nestV (w : World) (X : Nat → Prop) (p : Vr) : Prop := True
theorem nestV_nest : Nest nestV := ⟨fun w w' X p h hb => trivial, fun w X Y p h hb => trivial⟩
theorem cellsV_len (p : Vr) : (cellsV p).length = 3 := rfl
def RowV (w : World) (lo : Nat) (v : Value) (es : List Vr) : Prop := RowX nestV cellsV 3 62 w lo v es
theorem RowX.vars {w : World} {lo B : Nat} {v : Value} {es : List Vr} (h : RowV w lo v es) (hl : es.length ≤ 281474976710656) (hB : w.heap.size ≤ B) : VrIs w B es v := by
  rcases RowX.form cellsV_len h with ⟨h1, h2⟩ | ⟨g, cap, h1, h2, h3, h4, h5⟩
  · exact ⟨none, 0, 0, h2, by rw [h1]; rfl, Nat.le_refl _, by omega, fun j t hj => by rw [h1] at hj; simp at hj⟩
  · refine ⟨some ⟨g, 0, none⟩, _, cap, h1, rfl, h2, hl, fun j p hp => ⟨g, 0, rfl, by omega, ⟨?_, ?_, ?_⟩⟩⟩
    · rw [Nat.zero_add]; exact h5 j p 0 _ hp rfl
    · rw [Nat.zero_add]; exact h5 j p 1 _ hp rfl
    · rw [Nat.zero_add]; exact h5 j p 2 _ hp rfl

/-- So many cells of a row are laid anew. -/
theorem own_set {base n cap g : Nat} {ty : TypeId} {k : Nat} : ∀ (vs ys zs : List Value) (w : World), zs.length = vs.length → w.ownsRow base ty k (.slice (some ⟨g, 0, none⟩) n cap) n (ys ++ zs) →
    (w.setCells g ys.length vs).ownsRow base ty k (.slice (some ⟨g, 0, none⟩) n cap) n (ys ++ vs) ∧ w.grownBy (w.setCells g ys.length vs) (some g)
  | [], ys, zs, w, hl, h => by
    have : zs = [] := List.length_eq_zero_iff.1 hl
    subst this
    exact ⟨h, World.grownBy.refl w _⟩
  | u :: vs, ys, [], w, hl, h => by simp at hl
  | u :: vs, ys, z :: zs, w, hl, h => by
    obtain ⟨h1, h2⟩ := h.stored ys.length u
    have e1 : (ys ++ z :: zs).set ys.length u = (ys ++ [u]) ++ zs := by
      rw [List.set_append_right (h := Nat.le_refl _), Nat.sub_self]; simp
    rw [e1] at h1
    obtain ⟨h3, h4⟩ := own_set vs (ys ++ [u]) zs _ (by simpa using hl) h1
    have e2 : (ys ++ [u]).length = ys.length + 1 := by simp
    rw [e2] at h3 h4
    refine ⟨by rw [List.append_assoc] at h3; exact h3, ?_⟩
    exact ⟨h4.os.trans h2.os, h4.tape.trans h2.tape, h4.output.trans h2.output, Nat.le_trans h2.size h4.size, fun i hi hne => (h4.block i (Nat.lt_of_lt_of_le hi h2.size) hne).trans (h2.block i hi hne)⟩
theorem info_S (l : List Value) (h : l.length = 7) : (Tryd.prog.info? 36).map (·.size) = some l.toArray.size := by
  rw [List.size_toArray, h]; kernel_rfl
theorem info_V (l : List Value) (h : l.length = 3) : (Tryd.prog.info? 62).map (·.size) = some l.toArray.size := by
  rw [List.size_toArray, h]; kernel_rfl
end Go.Proofs.YtkobiojndamofaaDoor.Lr
