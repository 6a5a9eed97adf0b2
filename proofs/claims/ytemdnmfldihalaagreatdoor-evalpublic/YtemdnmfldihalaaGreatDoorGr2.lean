/- Laid together: LdRow, LdStX, LdBk. -/
import Derived.Test.YtemdnmfldihalaaGreatDoorGr1
import Derived.Deep.AppendLies
import Derived.Great.BuildSlice
import Derived.OwnWalk
import Derived.Deep.MidRow
namespace Go.Proofs.YtemdnmfldihalaaGreatDoor.Lr
set_option linter.unusedVariables false
open Go.ChangeShapes Go.WideShapes Go.ChangeAt Go.RowKit Lg
theorem flat_at {α : Type} (cells : α → List Value) (k : Nat) (hk : ∀ a,(cells a).length = k) : ∀ (es : List α) (j i : Nat) (p : α),es[j]? = some p → i < k → (es.flatMap cells)[j * k + i]? = (cells p)[i]?
 | [],j,i,p,h,_ => by simp at h
 | a :: es,0,i,p,h,hi => by
  simp at h
  rw [List.flatMap_cons,Nat.zero_mul,Nat.zero_add,List.getElem?_append_left (by rw [hk]; exact hi),h]
 | a :: es,j + 1,i,p,h,hi => by
  rw [List.flatMap_cons,List.getElem?_append_right (by rw [hk,Nat.add_mul]; omega),hk,show (j + 1) * k + i - k = j * k + i by rw [Nat.add_mul]; omega]
  exact flat_at cells k hk es j i p (by simpa using h) hi
theorem flat_len7 {α : Type} (cells : α → List Value) (k : Nat) (hk : ∀ a,(cells a).length = k) : ∀ es : List α,(es.flatMap cells).length = es.length * k
 | [] => by simp
 | a :: es => by rw [List.flatMap_cons,List.length_append,hk,flat_len7 cells k hk es,List.length_cons,Nat.add_mul]; omega
def In (lo : Nat) (v : Value) (w : World) : Nat → Prop := fun i => lo ≤ i ∧ i < w.heap.size ∧ ¬ v.ownBlock = some i
structure RowX {α : Type} (nest : World → (Nat → Prop) → α → Prop) (cells : α → List Value) (k : Nat) (ty : TypeId) (w : World) (lo : Nat) (v : Value) (es : List α) : Prop where
 own : w.ownsRow lo ty k v es.length (es.flatMap cells)
 sub : ∀ p ∈ es,nest w (In lo v w) p
structure Nest {α : Type} (nest : World → (Nat → Prop) → α → Prop) : Prop where
 keep : ∀ (w w' : World) (X : Nat → Prop) (p : α),nest w X p → (∀ i,X i → w'.heap[i]? = w.heap[i]?) → nest w' X p
 mono : ∀ (w : World) (X Y : Nat → Prop) (p : α),nest w X p → (∀ i,X i → Y i) → nest w Y p
theorem RowX.nil {α : Type} {nest : World → (Nat → Prop) → α → Prop} {cells : α → List Value} {k : Nat} {ty : TypeId} (w : World) (lo : Nat) : RowX nest cells k ty w lo (.slice none 0 0) [] := ⟨World.ownsRow_nil _ _ _ _,by simp⟩
theorem RowX.stay {α : Type} {nest : World → (Nat → Prop) → α → Prop} {cells : α → List Value} {k : Nat} {ty : TypeId} {w w' : World} {lo : Nat} {v : Value} {es : List α} (hN : Nest nest) (h : RowX nest cells k ty w lo v es)
  (hs : w.heap.size ≤ w'.heap.size) (hb : ∀ i,lo ≤ i → i < w.heap.size → w'.heap[i]? = w.heap[i]?) : RowX nest cells k ty w' lo v es := by
 refine ⟨?_,fun p hp => ?_⟩
 ·obtain ⟨h1,h2⟩ := h.own
  refine ⟨h1,?_⟩
  rcases h2 with h2 | ⟨g,cap,cur,a1,a2,a3,a4⟩
  ·exact .inl h2
  ·exact .inr ⟨g,cap,cur,a1,a2,by rw [hb g a2 (Array.getElem?_eq_some_iff.1 a3).1]; exact a3,a4⟩
 ·exact hN.mono _ _ _ _ (hN.keep _ w' _ p (h.sub p hp) (fun i hi => hb i hi.1 hi.2.1)) (fun i hi => ⟨hi.1,Nat.lt_of_lt_of_le hi.2.1 hs,hi.2.2⟩)
theorem RowX.fs {α : Type} {nest : World → (Nat → Prop) → α → Prop} {cells : α → List Value} {k : Nat} {ty : TypeId} {w w' : World} {lo : Nat} {v : Value} {es : List α} {l : List Nat} (hN : Nest nest) (h : RowX nest cells k ty w lo v es)
  (hf : Fs l w w') (hl : ∀ i ∈ l,i < lo) : RowX nest cells k ty w' lo v es :=
 h.stay hN hf.size (fun i h1 h2 => hf.block i h2 (fun hx => by have := hl i hx; omega))
theorem RowX.push {α : Type} {nest : World → (Nat → Prop) → α → Prop} {cells : α → List Value} {k : Nat} {ty : TypeId} {w w1 : World} {lo g n cap : Nat} {v : Value} {es : List α} {p : α} (hN : Nest nest) (h : RowX nest cells k ty w lo v es) (hp : nest w (In lo v w) p)
  (hown : w1.ownsRow lo ty k (.slice (some ⟨g,0,none⟩) n cap) (es.length + 1) (es.flatMap cells ++ cells p)) (hg : w.grownBy w1 v.ownBlock) (hat : v.ownBlock = some g ∨ g = w.heap.size) :
  RowX nest cells k ty w1 lo (.slice (some ⟨g,0,none⟩) n cap) (es ++ [p]) := by
 have key : ∀ q,nest w (In lo v w) q → nest w1 (In lo (.slice (some ⟨g,0,none⟩) n cap) w1) q := fun q hq => by
  refine hN.mono _ _ _ _ (hN.keep _ w1 _ q hq (fun i hi => hg.block i hi.2.1 (fun e => hi.2.2 e.symm))) (fun i hi => ⟨hi.1,Nat.lt_of_lt_of_le hi.2.1 hg.size,fun e => ?_⟩)
  have e' : g = i := by simpa [Value.ownBlock] using e
  rcases hat with ha | ha
  ·exact hi.2.2 (by rw [ha,e'])
  ·have := hi.2.1; omega
 refine ⟨?_,fun q hq => ?_⟩
 ·rw [List.length_append,List.length_singleton,List.flatMap_append,List.flatMap_singleton]; exact hown
 ·rcases List.mem_append.1 hq with e | e
  ·exact key q (h.sub q e)
  ·rw [List.mem_singleton] at e; rw [e]; exact key p hp
theorem RowX.form {α : Type} {nest : World → (Nat → Prop) → α → Prop} {cells : α → List Value} {k : Nat} {ty : TypeId} {w : World} {lo : Nat} {v : Value} {es : List α} (hk : ∀ a,(cells a).length = k) (h : RowX nest cells k ty w lo v es) :
  (es = [] ∧ v = .slice none 0 0) ∨ ∃ g cap,v = .slice (some ⟨g,0,none⟩) es.length cap ∧ es.length ≤ cap ∧ lo ≤ g ∧ g < w.heap.size ∧ ∀ (j : Nat) (p : α) (i : Nat) (u : Value),es[j]? = some p → (cells p)[i]? = some u → w.cell? ⟨g,j * k + i,none⟩ = some u := by
 obtain ⟨h1,h2⟩ := h.own
 rcases h2 with ⟨h2,h3⟩ | ⟨g,cap,cur,a1,a2,a3,a4,a5,a6,a7⟩
 ·exact .inl ⟨List.length_eq_zero_iff.1 h3,h2⟩
 ·refine .inr ⟨g,cap,a1,a4,a2,(Array.getElem?_eq_some_iff.1 a3).1,fun j p i u hj hi => ?_⟩
  have hik : i < k := by
   have := (List.getElem?_eq_some_iff.1 hi).1
   rw [hk] at this; exact this
  have hx : (es.flatMap cells)[j * k + i]? = some u := by rw [flat_at cells k hk es j i p hj hik]; exact hi
  rw [← a7] at hx
  have hlt := (List.getElem?_eq_some_iff.1 hx).1
  rw [List.getElem?_take_of_lt (by rw [List.length_take] at hlt; omega)] at hx
  rw [Lib.cell_of_heap a3]
  rw [Array.getElem?_toList] at hx
  exact hx
theorem RowX.slice {α : Type} {nest : World → (Nat → Prop) → α → Prop} {cells : α → List Value} {k : Nat} {ty : TypeId} {w : World} {lo : Nat} {v : Value} {es : List α} (h : RowX nest cells k ty w lo v es) : ∃ p n cap,v = .slice p n cap := by
 rcases h.own.2 with ⟨h2,_⟩ | ⟨g,cap,cur,a1,_⟩
 ·exact ⟨_,_,_,h2⟩
 ·exact ⟨_,_,_,a1⟩
def ExX (w : World) (X : Nat → Prop) : Nat → Ex → Value → Prop
 | 0,_,_ => False
 | m + 1,e,sl => (e.args = [] ∧ sl = .slice none 0 0) ∨ ∃ (g cap : Nat),sl = .slice (some ⟨g,0,none⟩) e.args.length cap ∧ e.args.length ≤ cap ∧ e.args.length ≤ 281474976710656 ∧ X g ∧
   ∀ j a,e.args[j]? = some a → ∃ sl',ExAt w g (0 + j * 4) a sl' ∧ ExX w X m a sl'
theorem ExX.keep {w w' : World} {X : Nat → Prop} (hb : ∀ i,X i → w'.heap[i]? = w.heap[i]?) : ∀ {m : Nat} {e : Ex} {sl : Value},ExX w X m e sl → ExX w' X m e sl
 | 0,_,_,h => h
 | m + 1,e,sl,h => by
  rcases h with h | ⟨g,cap,h1,h2,h5,h3,h4⟩
  ·exact .inl h
  ·refine .inr ⟨g,cap,h1,h2,h5,h3,fun j a hj => ?_⟩
   obtain ⟨sl',k1,k2⟩ := h4 j a hj
   have key : ∀ i,w'.cell? ⟨g,i,none⟩ = w.cell? ⟨g,i,none⟩ := fun i => by unfold World.cell?; simp only [hb g h3]
   exact ⟨sl',⟨by rw [key]; exact k1.c0,by rw [key]; exact k1.c1,by rw [key]; exact k1.c2,by rw [key]; exact k1.c3⟩,k2.keep hb⟩
theorem ExX.mono {w : World} {X Y : Nat → Prop} (hb : ∀ i,X i → Y i) : ∀ {m : Nat} {e : Ex} {sl : Value},ExX w X m e sl → ExX w Y m e sl
 | 0,_,_,h => h
 | m + 1,e,sl,h => by
  rcases h with h | ⟨g,cap,h1,h2,h5,h3,h4⟩
  ·exact .inl h
  ·refine .inr ⟨g,cap,h1,h2,h5,hb g h3,fun j a hj => ?_⟩
   obtain ⟨sl',k1,k2⟩ := h4 j a hj
   exact ⟨sl',k1,k2.mono hb⟩
theorem ExX.deeper {w : World} {X : Nat → Prop} : ∀ {m : Nat} {e : Ex} {sl : Value},ExX w X m e sl → ExX w X (m + 1) e sl
 | 0,_,_,h => h.elim
 | m + 1,e,sl,h => by
  rcases h with h | ⟨g,cap,h1,h2,h5,h3,h4⟩
  ·exact .inl h
  ·refine .inr ⟨g,cap,h1,h2,h5,h3,fun j a hj => ?_⟩
   obtain ⟨sl',k1,k2⟩ := h4 j a hj
   exact ⟨sl',k1,k2.deeper⟩
theorem ExX.deep {w : World} {X : Nat → Prop} {m n : Nat} {e : Ex} {sl : Value} (h : ExX w X m e sl) (hn : m ≤ n) : ExX w X n e sl := by
 obtain ⟨k,rfl⟩ := Nat.le.dest hn
 clear hn
 induction k with
 | zero => exact h
 | succ k ih => exact ih.deeper
theorem ExX.exIs {w : World} {X : Nat → Prop} {B : Nat} (hb : ∀ i,X i → i < B) : ∀ {m : Nat} {e : Ex} {sl : Value},ExX w X m e sl → ExIs w B m e sl
 | 0,_,_,h => h
 | m + 1,e,sl,h => by
  rcases h with h | ⟨g,cap,h1,h2,h5,h3,h4⟩
  ·exact .inl h
  ·refine .inr ⟨g,0,cap,h1,h2,h5,hb g h3,fun j a hj => ?_⟩
   obtain ⟨sl',k1,k2⟩ := h4 j a hj
   exact ⟨sl',k1,k2.exIs hb⟩
theorem ExX.slice {w : World} {X : Nat → Prop} : ∀ {m : Nat} {e : Ex} {sl : Value},ExX w X m e sl → ∃ p n cap,sl = .slice p n cap
 | 0,_,_,h => h.elim
 | m + 1,e,sl,h => by
  rcases h with ⟨_,h⟩ | ⟨g,cap,h1,_⟩
  ·exact ⟨_,_,_,h⟩
  ·exact ⟨_,_,_,h1⟩
theorem ExX.args {w : World} {X : Nat → Prop} {m : Nat} {e e' : Ex} {sl : Value} (h : ExX w X m e sl) (he : e'.args = e.args) : ExX w X m e' sl := by
 cases m with
 | zero => exact h
 | succ m =>
  unfold ExX at h ⊢
  rw [he]; exact h
def cellsE (p : Ex × Value) : List Value := [.int .i64 p.1.kind,.int .i64 p.1.n,.string ⟨p.1.name.toArray⟩,p.2]
def nestE (m : Nat) (w : World) (X : Nat → Prop) (p : Ex × Value) : Prop := ExX w X m p.1 p.2
theorem nestE_nest (m : Nat) : Nest (nestE m) := ⟨fun w w' X p h hb => ExX.keep hb h,fun w X Y p h hb => ExX.mono hb h⟩
theorem cellsE_len (p : Ex × Value) : (cellsE p).length = 4 := rfl
def RowE (m : Nat) (w : World) (lo : Nat) (v : Value) (es : List (Ex × Value)) : Prop := RowX (nestE m) cellsE 4 93 w lo v es
theorem RowX.args {m : Nat} {w : World} {lo : Nat} {v : Value} {es : List (Ex × Value)} (h : RowE m w lo v es) (hl : es.length ≤ 281474976710656) : ExX w (fun i => lo ≤ i ∧ i < w.heap.size) (m + 1) (ar (es.map (·.1))) v := by
 rcases RowX.form cellsE_len h with ⟨h1,h2⟩ | ⟨g,cap,h1,h2,h3,h4,h5⟩
 ·exact .inl ⟨by rw [h1]; rfl,h2⟩
 ·refine .inr ⟨g,cap,by rw [h1]; show Value.slice _ es.length cap = Value.slice _ (es.map (·.1)).length cap; rw [List.length_map],by show (es.map (·.1)).length ≤ cap; rw [List.length_map]; exact h2,by show (es.map (·.1)).length ≤ _; rw [List.length_map]; exact hl,⟨h3,h4⟩,fun j a hj => ?_⟩
  have hj' : (es.map (·.1))[j]? = some a := hj
  rw [List.getElem?_map,Option.map_eq_some_iff] at hj'
  obtain ⟨p,hp,rfl⟩ := hj'
  refine ⟨p.2,⟨?_,?_,?_,?_⟩,ExX.mono (fun i hi => ⟨hi.1,hi.2.1⟩) (h.sub p (List.mem_of_getElem? hp))⟩
  ·rw [Nat.zero_add]; exact h5 j p 0 _ hp rfl
  ·rw [Nat.zero_add]; exact h5 j p 1 _ hp rfl
  ·rw [Nat.zero_add]; exact h5 j p 2 _ hp rfl
  ·rw [Nat.zero_add]; exact h5 j p 3 _ hp rfl
theorem infoE : (Tryz.prog.info? 93).map (fun i => (i.zero,i.size,i.bytes)) = some (some (.agg #[.int .i64 0,.int .i64 0,.string ⟨#[]⟩,.slice none 0 0]),4,56) := by kernel_rfl
theorem infoS : (Tryz.prog.info? 89).map (fun i => (i.zero,i.size,i.bytes)) = some (some (.agg #[.int .i64 0,.int .i64 0,.string ⟨#[]⟩,.bool false,.slice none 0 0,.slice none 0 0,.slice none 0 0]),7,112) := by kernel_rfl
theorem infoV : (Tryz.prog.info? 46).map (fun i => (i.zero,i.size,i.bytes)) = some (some (.agg #[.string ⟨#[]⟩,.bool false,.int .i64 0]),3,32) := by kernel_rfl
def StX (w : World) (X : Nat → Prop) : Nat → List St → Value → Prop
 | 0,_,_ => False
 | m + 1,l,sl => (l = [] ∧ sl = .slice none 0 0) ∨ ∃ (g cap : Nat),sl = .slice (some ⟨g,0,none⟩) l.length cap ∧ l.length ≤ cap ∧ l.length ≤ 281474976710656 ∧ X g ∧
   ∀ j t,l[j]? = some t → ∃ s1 s2 s3,StAt w g (0 + j * 7) t s1 s2 s3 ∧ ExX w X 11 (ar t.args) s1 ∧ StX w X m t.thn s2 ∧ StX w X m t.els s3
theorem StX.keep {w w' : World} {X : Nat → Prop} (hb : ∀ i,X i → w'.heap[i]? = w.heap[i]?) : ∀ {m : Nat} {l : List St} {sl : Value},StX w X m l sl → StX w' X m l sl
 | 0,_,_,h => h
 | m + 1,e,sl,h => by
  rcases h with h | ⟨g,cap,h1,h2,h5,h3,h4⟩
  ·exact .inl h
  ·refine .inr ⟨g,cap,h1,h2,h5,h3,fun j a hj => ?_⟩
   obtain ⟨s1,s2,s3,k1,k2,k3,k4⟩ := h4 j a hj
   have key : ∀ i,w'.cell? ⟨g,i,none⟩ = w.cell? ⟨g,i,none⟩ := fun i => by unfold World.cell?; simp only [hb g h3]
   exact ⟨s1,s2,s3,⟨by rw [key]; exact k1.c0,by rw [key]; exact k1.c1,by rw [key]; exact k1.c2,by rw [key]; exact k1.c3,by rw [key]; exact k1.c4,by rw [key]; exact k1.c5,by rw [key]; exact k1.c6⟩,ExX.keep hb k2,k3.keep hb,k4.keep hb⟩
theorem StX.mono {w : World} {X Y : Nat → Prop} (hb : ∀ i,X i → Y i) : ∀ {m : Nat} {l : List St} {sl : Value},StX w X m l sl → StX w Y m l sl
 | 0,_,_,h => h
 | m + 1,e,sl,h => by
  rcases h with h | ⟨g,cap,h1,h2,h5,h3,h4⟩
  ·exact .inl h
  ·refine .inr ⟨g,cap,h1,h2,h5,hb g h3,fun j a hj => ?_⟩
   obtain ⟨s1,s2,s3,k1,k2,k3,k4⟩ := h4 j a hj
   exact ⟨s1,s2,s3,k1,ExX.mono hb k2,k3.mono hb,k4.mono hb⟩
theorem StX.stIs {w : World} {X : Nat → Prop} {B : Nat} (hb : ∀ i,X i → i < B) : ∀ {m : Nat} {l : List St} {sl : Value},StX w X m l sl → StIs w B 10 m l sl
 | 0,_,_,h => h
 | m + 1,e,sl,h => by
  rcases h with ⟨h1,h2⟩ | ⟨g,cap,h1,h2,h5,h3,h4⟩
  ·exact ⟨none,0,0,h2,by rw [h1]; rfl,Nat.le_refl _,by omega,fun j t hj => by rw [h1] at hj; simp at hj⟩
  ·refine ⟨some ⟨g,0,none⟩,_,cap,h1,rfl,h2,h5,fun j a hj => ?_⟩
   obtain ⟨s1,s2,s3,k1,k2,k3,k4⟩ := h4 j a hj
   exact ⟨g,0,s1,s2,s3,rfl,hb g h3,k1,ExX.exIs hb k2,k3.stIs hb,k4.stIs hb⟩
theorem StX.slice {w : World} {X : Nat → Prop} : ∀ {m : Nat} {l : List St} {sl : Value},StX w X m l sl → ∃ p n cap,sl = .slice p n cap
 | 0,_,_,h => h.elim
 | m + 1,e,sl,h => by
  rcases h with ⟨_,h⟩ | ⟨g,cap,h1,_⟩
  ·exact ⟨_,_,_,h⟩
  ·exact ⟨_,_,_,h1⟩
theorem StX.none {w : World} {X : Nat → Prop} (m : Nat) : StX w X (m + 1) [] (.slice none 0 0) := .inl ⟨rfl,rfl⟩
def stA (t : St) (s1 s2 s3 : Value) : Array Value := #[.int .i64 t.kind,.int .i64 t.n,.string ⟨t.name.toArray⟩,.bool t.secret,s1,s2,s3]
def cellsS (p : St × Value × Value × Value) : List Value := [.int .i64 p.1.kind,.int .i64 p.1.n,.string ⟨p.1.name.toArray⟩,.bool p.1.secret,p.2.1,p.2.2.1,p.2.2.2]
def nestS (m : Nat) (w : World) (X : Nat → Prop) (p : St × Value × Value × Value) : Prop := ExX w X 11 (ar p.1.args) p.2.1 ∧ StX w X m p.1.thn p.2.2.1 ∧ StX w X m p.1.els p.2.2.2
theorem nestS_nest (m : Nat) : Nest (nestS m) := ⟨fun w w' X p h hb => ⟨ExX.keep hb h.1,StX.keep hb h.2.1,StX.keep hb h.2.2⟩,fun w X Y p h hb => ⟨ExX.mono hb h.1,StX.mono hb h.2.1,StX.mono hb h.2.2⟩⟩
theorem cellsS_len (p : St × Value × Value × Value) : (cellsS p).length = 7 := rfl
def RowS (m : Nat) (w : World) (lo : Nat) (v : Value) (es : List (St × Value × Value × Value)) : Prop := RowX (nestS m) cellsS 7 89 w lo v es
theorem RowX.stmts {m : Nat} {w : World} {lo : Nat} {v : Value} {es : List (St × Value × Value × Value)} (h : RowS m w lo v es) (hl : es.length ≤ 281474976710656) : StX w (fun i => lo ≤ i ∧ i < w.heap.size) (m + 1) (es.map (·.1)) v := by
 rcases RowX.form cellsS_len h with ⟨h1,h2⟩ | ⟨g,cap,h1,h2,h3,h4,h5⟩
 ·exact .inl ⟨by rw [h1]; rfl,h2⟩
 ·refine .inr ⟨g,cap,by rw [h1,List.length_map],by rw [List.length_map]; exact h2,by rw [List.length_map]; exact hl,⟨h3,h4⟩,fun j a hj => ?_⟩
  rw [List.getElem?_map,Option.map_eq_some_iff] at hj
  obtain ⟨p,hp,rfl⟩ := hj
  obtain ⟨k1,k2,k3⟩ := h.sub p (List.mem_of_getElem? hp)
  refine ⟨p.2.1,p.2.2.1,p.2.2.2,⟨?_,?_,?_,?_,?_,?_,?_⟩,ExX.mono (fun i hi => ⟨hi.1,hi.2.1⟩) k1,StX.mono (fun i hi => ⟨hi.1,hi.2.1⟩) k2,StX.mono (fun i hi => ⟨hi.1,hi.2.1⟩) k3⟩
  ·rw [Nat.zero_add]; exact h5 j p 0 _ hp rfl
  ·rw [Nat.zero_add]; exact h5 j p 1 _ hp rfl
  ·rw [Nat.zero_add]; exact h5 j p 2 _ hp rfl
  ·rw [Nat.zero_add]; exact h5 j p 3 _ hp rfl
  ·rw [Nat.zero_add]; exact h5 j p 4 _ hp rfl
  ·rw [Nat.zero_add]; exact h5 j p 5 _ hp rfl
  ·rw [Nat.zero_add]; exact h5 j p 6 _ hp rfl
def cellsV (p : Vr) : List Value := [.string ⟨p.name.toArray⟩,.bool p.secret,.int .i64 p.size]
def nestV (w : World) (X : Nat → Prop) (p : Vr) : Prop := True
theorem nestV_nest : Nest nestV := ⟨fun w w' X p h hb => trivial,fun w X Y p h hb => trivial⟩
theorem cellsV_len (p : Vr) : (cellsV p).length = 3 := rfl
def RowV (w : World) (lo : Nat) (v : Value) (es : List Vr) : Prop := RowX nestV cellsV 3 46 w lo v es
theorem own_set {base n cap g : Nat} {ty : TypeId} {k : Nat} : ∀ (vs ys zs : List Value) (w : World),zs.length = vs.length → w.ownsRow base ty k (.slice (some ⟨g,0,none⟩) n cap) n (ys ++ zs) →
  (w.setCells g ys.length vs).ownsRow base ty k (.slice (some ⟨g,0,none⟩) n cap) n (ys ++ vs) ∧ w.grownBy (w.setCells g ys.length vs) (some g)
 | [],ys,zs,w,hl,h => by
  have : zs = [] := List.length_eq_zero_iff.1 hl
  subst this
  exact ⟨h,World.grownBy.refl w _⟩
 | u :: vs,ys,[],w,hl,h => by simp at hl
 | u :: vs,ys,z :: zs,w,hl,h => by
  obtain ⟨h1,h2⟩ := h.stored ys.length u
  have e1 : (ys ++ z :: zs).set ys.length u = (ys ++ [u]) ++ zs := by
   rw [List.set_append_right (h:=Nat.le_refl _),Nat.sub_self]; simp
  rw [e1] at h1
  obtain ⟨h3,h4⟩ := own_set vs (ys ++ [u]) zs _ (by simpa using hl) h1
  have e2 : (ys ++ [u]).length = ys.length + 1 := by simp
  rw [e2] at h3 h4
  refine ⟨by rw [List.append_assoc] at h3; exact h3,?_⟩
  exact ⟨h4.os.trans h2.os,h4.tape.trans h2.tape,h4.output.trans h2.output,Nat.le_trans h2.size h4.size,fun i hi hne => (h4.block i (Nat.lt_of_lt_of_le hi h2.size) hne).trans (h2.block i hi hne)⟩
theorem info_S (l : List Value) (h : l.length = 7) : (Tryz.prog.info? 89).map (·.size) = some l.toArray.size := by
 rw [List.size_toArray,h]; kernel_rfl
theorem info_V (l : List Value) (h : l.length = 3) : (Tryz.prog.info? 46).map (·.size) = some l.toArray.size := by
 rw [List.size_toArray,h]; kernel_rfl
set_option linter.unusedSimpArgs false
theorem RowX.push2 {α : Type} {nest : World → (Nat → Prop) → α → Prop} {cells : α → List Value} {k : Nat} {ty : TypeId} {w w1 : World} {lo g n cap : Nat} {v : Value} {es : List α} {p : α} (hN : Nest nest) (h : RowX nest cells k ty w lo v es) (hp : nest w (In lo v w) p)
  (hown : w1.ownsRow lo ty k (.slice (some ⟨g,0,none⟩) n cap) (es.length + 1) (es.flatMap cells ++ cells p)) (hs : w.heap.size ≤ w1.heap.size) (hb : ∀ i,lo ≤ i → i < w.heap.size → ¬ v.ownBlock = some i → w1.heap[i]? = w.heap[i]?) (hat : v.ownBlock = some g ∨ w.heap.size ≤ g) :
  RowX nest cells k ty w1 lo (.slice (some ⟨g,0,none⟩) n cap) (es ++ [p]) := by
 have key : ∀ q,nest w (In lo v w) q → nest w1 (In lo (.slice (some ⟨g,0,none⟩) n cap) w1) q := fun q hq => by
  refine hN.mono _ _ _ _ (hN.keep _ w1 _ q hq (fun i hi => hb i hi.1 hi.2.1 hi.2.2)) (fun i hi => ⟨hi.1,Nat.lt_of_lt_of_le hi.2.1 hs,fun e => ?_⟩)
  have e' : g = i := by simpa [Value.ownBlock] using e
  rcases hat with ha | ha
  ·exact hi.2.2 (by rw [ha,e'])
  ·have := hi.2.1; omega
 refine ⟨?_,fun q hq => ?_⟩
 ·rw [List.length_append,List.length_singleton,List.flatMap_append,List.flatMap_singleton]; exact hown
 ·rcases List.mem_append.1 hq with e | e
  ·exact key q (h.sub q e)
  ·rw [List.mem_singleton] at e; rw [e]; exact key p hp
theorem RowX.len {α : Type} {nest : World → (Nat → Prop) → α → Prop} {cells : α → List Value} {k : Nat} {ty : TypeId} {w : World} {lo : Nat} {p : Option Addr} {n cap : Nat} {es : List α} (h : RowX nest cells k ty w lo (.slice p n cap) es) : n = es.length := by
 rcases h.own.2 with ⟨h1,h2⟩ | ⟨g,cap',cur,h1,_⟩
 ·injection h1 with _ h3 _; omega
 ·injection h1 with _ h3 _
theorem own_there {w : World} {base n cap g k : Nat} {ty : TypeId} {xs : List Value} (h : w.ownsRow base ty k (.slice (some ⟨g,0,none⟩) n cap) n xs) (o l : Nat) (hl : o + l ≤ n * k) : w.there g o l := fun j hj => by
 refine ⟨?_,h.frozenAt _⟩
 rw [h.cellAt _ (by omega)]
 have : o + j < xs.length := by rw [h.1]; omega
 rw [List.getElem?_eq_getElem this]; rfl
theorem own_stay {w w' : World} {base n cap g k : Nat} {ty : TypeId} {xs : List Value} (h : w.ownsRow base ty k (.slice (some ⟨g,0,none⟩) n cap) n xs) (hb : w'.heap[g]? = w.heap[g]?) : w'.ownsRow base ty k (.slice (some ⟨g,0,none⟩) n cap) n xs := by
 obtain ⟨h1,h2⟩ := h
 refine ⟨h1,?_⟩
 rcases h2 with ⟨h2,_⟩ | ⟨g',cap',cur,a1,a2,a3,a4⟩
 ·cases h2
 ·have e : g = g' := by
   injection a1 with a1 _ _
   injection a1 with a1
   injection a1
  subst e
  exact .inr ⟨g,cap',cur,a1,a2,by rw [hb]; exact a3,a4⟩
structure Laid2 (w2 w3 : World) (base n cap g k L : Nat) (ty tl : TypeId) (xs : List Value) : Prop where
 own : w3.ownsRow base ty k (.slice (some ⟨g,0,none⟩) n cap) n xs
 box : Bk w3 L [.slice (some ⟨g,0,none⟩) n cap] tl
 size : w2.heap.size ≤ w3.heap.size
 block : ∀ i,i < w2.heap.size → i ≠ g → i ≠ L → w3.heap[i]? = w2.heap[i]?
 os : w3.os = w2.os
 tape : w3.tape = w2.tape
 output : w3.output = w2.output
theorem laid_ab {w2 : World} {base n cap g k L : Nat} {ty tl : TypeId} {ys zs vs : List Value} {l : Value} (hne : g ≠ L) (h : w2.ownsRow base ty k (.slice (some ⟨g,0,none⟩) n cap) n (ys ++ zs)) (hl : zs.length = vs.length) (hL : Bk w2 L [l] tl) (o : Nat) (ho : o = ys.length) :
  Laid2 w2 ((w2.setCells g o vs).setCell ⟨L,0,none⟩ (.slice (some ⟨g,0,none⟩) n cap)) base n cap g k L ty tl (ys ++ vs) := by
 subst ho
 obtain ⟨h1,h2⟩ := own_set vs ys zs w2 hl h
 have hL2 : Bk (w2.setCells g ys.length vs) L [l] tl := by
  unfold Bk at hL ⊢
  rw [h2.block L (Array.getElem?_eq_some_iff.1 hL).1 (by simp; exact Ne.symm hne)]; exact hL
 exact ⟨own_stay h1 (Below.heap_setCell _ _ _ _ hne),hL2.set 0 _,by simp [World.setCell]; exact h2.size,fun i hi hg hl => by rw [Below.heap_setCell _ _ _ _ hl]; exact h2.block i hi (by simp; exact hg),h2.os,h2.tape,h2.output⟩
theorem laid_ba {w2 : World} {base n cap g k L : Nat} {ty tl : TypeId} {ys zs vs : List Value} {l : Value} (hne : g ≠ L) (h : w2.ownsRow base ty k (.slice (some ⟨g,0,none⟩) n cap) n (ys ++ zs)) (hl : zs.length = vs.length) (hL : Bk w2 L [l] tl) (o : Nat) (ho : o = ys.length) :
  Laid2 w2 ((w2.setCell ⟨L,0,none⟩ (.slice (some ⟨g,0,none⟩) n cap)).setCells g o vs) base n cap g k L ty tl (ys ++ vs) := by
 subst ho
 have hs : (w2.setCell ⟨L,0,none⟩ (.slice (some ⟨g,0,none⟩) n cap)).heap.size = w2.heap.size := by simp [World.setCell]
 obtain ⟨h1,h2⟩ := own_set vs ys zs _ hl (own_stay (w' := w2.setCell ⟨L,0,none⟩ (.slice (some ⟨g,0,none⟩) n cap)) h (Below.heap_setCell _ _ _ _ hne))
 have hL2 := hL.set 0 (.slice (some ⟨g,0,none⟩) n cap)
 refine ⟨h1,?_,by have := h2.size; omega,fun i hi hg hl => by rw [h2.block i (by omega) (by simp; exact hg),Below.heap_setCell _ _ _ _ hl],h2.os,h2.tape,h2.output⟩
 unfold Bk at hL2 ⊢
 rw [h2.block L (by rw [hs]; exact hL.lt) (by simp; exact Ne.symm hne)]; exact hL2
theorem step_store_mid {P : Program} {ops : Array Oper} {o : Oper} {a : Act} {w : World} {K : Act → World → Prop} {Q : Exit → Act → World → Prop} {E : Prop} (hgd : o.guard = none) (ty : TypeId) (x y : Operand) (ho : o.op = .store ty x y)
  (b k : Nat) (cells : Array Value) (hx : a.eval x = .pointer (some ⟨b,k,none⟩)) (hy : a.eval y = .agg cells) (ht : w.there b k cells.size) (hi : (P.info? ty).map (·.size) = some cells.size) (h1 : cells.all (·.oneCell') = true)
  (h : K (a.put o.dst undef) (w.setCells b k cells.toList)) : if Region.wanted o (yielded ops a.tmps) = true then Oper.wp P o a w K Q else E := by
 rw [if_pos (by simp [Region.wanted,hgd])]
 exact wp_store_mid ty x y ho b k cells hx hy ht hi h1 h
theorem bk_add {w : World} {k : Nat} {l : List Value} {ty : TypeId} (h : Bk w k l ty) (j : Nat) (u : Value) (hj : l[j]? = some u) : w.cell? ((⟨k,0,none⟩ : Addr).add j) = some u := by
 have he : (⟨k,0,none⟩ : Addr).add j = ⟨k,j,none⟩ := by
  simp [Addr.add]
  intro h; omega
 rw [he]; exact h.cell j hj
end Go.Proofs.YtemdnmfldihalaaGreatDoor.Lr
