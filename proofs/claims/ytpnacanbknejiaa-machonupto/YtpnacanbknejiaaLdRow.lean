/- Rows of parts that the program builds: what lies in them, and that it stays. Expressions as they are built. -/
import Derived.Test.YtpnacanbknejiaaGr2
import Derived.Deep.AppendLies
import Derived.Great.BuildSlice
import Derived.OwnWalk
namespace Go.Proofs.Ytpnacanbknejiaa.Lr
set_option linter.unusedVariables false
open Go.ChangeShapes Go.WideShapes Go.ChangeAt Go.RowKit Lg
theorem flat_at {α : Type} (cells : α → List Value) (k : Nat) (hk : ∀ a,(cells a).length = k) : ∀ (es : List α) (j i : Nat) (p : α),es[j]? = some p → i < k → (es.flatMap cells)[j * k + i]? = (cells p)[i]?
 | [],j,i,p,h,_ => by simp at h
 | a :: es,0,i,p,h,hi => by
  simp at h
  rw [List.flatMap_cons,Nat.zero_mul,Nat.zero_add,List.getElem?_append_left (by rw [hk]; exact hi),h]
 | a :: es,j + 1,i,p,h,hi => by
  rw [List.flatMap_cons,List.getElem?_append_right (by rw [hk,Nat.add_mul]; omega),hk,show (j + 1) * k + i - k = j * k + i by rw [Nat.add_mul]; omega]
  exact flat_at cells k hk es j i p (by simpa using h) hi
theorem flat_len7 {α : Type} (cells : α → List Value) (k : Nat) (hk : ∀ a,(cells a).length = k) : ∀ es : List α,(es.flatMap cells).length = es.length * k
 | [] => by simp
 | a :: es => by rw [List.flatMap_cons,List.length_append,hk,flat_len7 cells k hk es,List.length_cons,Nat.add_mul]; omega
def In (lo : Nat) (v : Value) (w : World) : Nat → Prop := fun i => lo ≤ i ∧ i < w.heap.size ∧ ¬ v.ownBlock = some i
structure RowX {α : Type} (nest : World → (Nat → Prop) → α → Prop) (cells : α → List Value) (k : Nat) (ty : TypeId) (w : World) (lo : Nat) (v : Value) (es : List α) : Prop where
 own : w.ownsRow lo ty k v es.length (es.flatMap cells)
 sub : ∀ p ∈ es,nest w (In lo v w) p
structure Nest {α : Type} (nest : World → (Nat → Prop) → α → Prop) : Prop where
 keep : ∀ (w w' : World) (X : Nat → Prop) (p : α),nest w X p → (∀ i,X i → w'.heap[i]? = w.heap[i]?) → nest w' X p
 mono : ∀ (w : World) (X Y : Nat → Prop) (p : α),nest w X p → (∀ i,X i → Y i) → nest w Y p
theorem RowX.nil {α : Type} {nest : World → (Nat → Prop) → α → Prop} {cells : α → List Value} {k : Nat} {ty : TypeId} (w : World) (lo : Nat) : RowX nest cells k ty w lo (.slice none 0 0) [] := ⟨World.ownsRow_nil _ _ _ _,by simp⟩
theorem RowX.stay {α : Type} {nest : World → (Nat → Prop) → α → Prop} {cells : α → List Value} {k : Nat} {ty : TypeId} {w w' : World} {lo : Nat} {v : Value} {es : List α} (hN : Nest nest) (h : RowX nest cells k ty w lo v es)
  (hs : w.heap.size ≤ w'.heap.size) (hb : ∀ i,lo ≤ i → i < w.heap.size → w'.heap[i]? = w.heap[i]?) : RowX nest cells k ty w' lo v es := by
 refine ⟨?_,fun p hp => ?_⟩
 ·obtain ⟨h1,h2⟩ := h.own
  refine ⟨h1,?_⟩
  rcases h2 with h2 | ⟨g,cap,cur,a1,a2,a3,a4⟩
  ·exact .inl h2
  ·exact .inr ⟨g,cap,cur,a1,a2,by rw [hb g a2 (Array.getElem?_eq_some_iff.1 a3).1]; exact a3,a4⟩
 ·exact hN.mono _ _ _ _ (hN.keep _ w' _ p (h.sub p hp) (fun i hi => hb i hi.1 hi.2.1)) (fun i hi => ⟨hi.1,Nat.lt_of_lt_of_le hi.2.1 hs,hi.2.2⟩)
theorem RowX.fs {α : Type} {nest : World → (Nat → Prop) → α → Prop} {cells : α → List Value} {k : Nat} {ty : TypeId} {w w' : World} {lo : Nat} {v : Value} {es : List α} {l : List Nat} (hN : Nest nest) (h : RowX nest cells k ty w lo v es)
  (hf : Fs l w w') (hl : ∀ i ∈ l,i < lo) : RowX nest cells k ty w' lo v es :=
 h.stay hN hf.size (fun i h1 h2 => hf.block i h2 (fun hx => by have := hl i hx; omega))
theorem RowX.push {α : Type} {nest : World → (Nat → Prop) → α → Prop} {cells : α → List Value} {k : Nat} {ty : TypeId} {w w1 : World} {lo g n cap : Nat} {v : Value} {es : List α} {p : α} (hN : Nest nest) (h : RowX nest cells k ty w lo v es) (hp : nest w (In lo v w) p)
  (hown : w1.ownsRow lo ty k (.slice (some ⟨g,0,none⟩) n cap) (es.length + 1) (es.flatMap cells ++ cells p)) (hg : w.grownBy w1 v.ownBlock) (hat : v.ownBlock = some g ∨ g = w.heap.size) :
  RowX nest cells k ty w1 lo (.slice (some ⟨g,0,none⟩) n cap) (es ++ [p]) := by
 have key : ∀ q,nest w (In lo v w) q → nest w1 (In lo (.slice (some ⟨g,0,none⟩) n cap) w1) q := fun q hq => by
  refine hN.mono _ _ _ _ (hN.keep _ w1 _ q hq (fun i hi => hg.block i hi.2.1 (fun e => hi.2.2 e.symm))) (fun i hi => ⟨hi.1,Nat.lt_of_lt_of_le hi.2.1 hg.size,fun e => ?_⟩)
  have e' : g = i := by simpa [Value.ownBlock] using e
  rcases hat with ha | ha
  ·exact hi.2.2 (by rw [ha,e'])
  ·have := hi.2.1; omega
 refine ⟨?_,fun q hq => ?_⟩
 ·rw [List.length_append,List.length_singleton,List.flatMap_append,List.flatMap_singleton]; exact hown
 ·rcases List.mem_append.1 hq with e | e
  ·exact key q (h.sub q e)
  ·rw [List.mem_singleton] at e; rw [e]; exact key p hp
theorem RowX.form {α : Type} {nest : World → (Nat → Prop) → α → Prop} {cells : α → List Value} {k : Nat} {ty : TypeId} {w : World} {lo : Nat} {v : Value} {es : List α} (hk : ∀ a,(cells a).length = k) (h : RowX nest cells k ty w lo v es) :
  (es = [] ∧ v = .slice none 0 0) ∨ ∃ g cap,v = .slice (some ⟨g,0,none⟩) es.length cap ∧ es.length ≤ cap ∧ lo ≤ g ∧ g < w.heap.size ∧ ∀ (j : Nat) (p : α) (i : Nat) (u : Value),es[j]? = some p → (cells p)[i]? = some u → w.cell? ⟨g,j * k + i,none⟩ = some u := by
 obtain ⟨h1,h2⟩ := h.own
 rcases h2 with ⟨h2,h3⟩ | ⟨g,cap,cur,a1,a2,a3,a4,a5,a6,a7⟩
 ·exact .inl ⟨List.length_eq_zero_iff.1 h3,h2⟩
 ·refine .inr ⟨g,cap,a1,a4,a2,(Array.getElem?_eq_some_iff.1 a3).1,fun j p i u hj hi => ?_⟩
  have hik : i < k := by
   have := (List.getElem?_eq_some_iff.1 hi).1
   rw [hk] at this; exact this
  have hx : (es.flatMap cells)[j * k + i]? = some u := by rw [flat_at cells k hk es j i p hj hik]; exact hi
  rw [← a7] at hx
  have hlt := (List.getElem?_eq_some_iff.1 hx).1
  rw [List.getElem?_take_of_lt (by rw [List.length_take] at hlt; omega)] at hx
  rw [Lib.cell_of_heap a3]
  rw [Array.getElem?_toList] at hx
  exact hx
theorem RowX.slice {α : Type} {nest : World → (Nat → Prop) → α → Prop} {cells : α → List Value} {k : Nat} {ty : TypeId} {w : World} {lo : Nat} {v : Value} {es : List α} (h : RowX nest cells k ty w lo v es) : ∃ p n cap,v = .slice p n cap := by
 rcases h.own.2 with ⟨h2,_⟩ | ⟨g,cap,cur,a1,_⟩
 ·exact ⟨_,_,_,h2⟩
 ·exact ⟨_,_,_,a1⟩
def ExX (w : World) (X : Nat → Prop) : Nat → Ex → Value → Prop
 | 0,_,_ => False
 | m + 1,e,sl => (e.args = [] ∧ sl = .slice none 0 0) ∨ ∃ (g cap : Nat),sl = .slice (some ⟨g,0,none⟩) e.args.length cap ∧ e.args.length ≤ cap ∧ e.args.length ≤ 281474976710656 ∧ X g ∧
   ∀ j a,e.args[j]? = some a → ∃ sl',ExAt w g (0 + j * 4) a sl' ∧ ExX w X m a sl'
theorem ExX.keep {w w' : World} {X : Nat → Prop} (hb : ∀ i,X i → w'.heap[i]? = w.heap[i]?) : ∀ {m : Nat} {e : Ex} {sl : Value},ExX w X m e sl → ExX w' X m e sl
 | 0,_,_,h => h
 | m + 1,e,sl,h => by
  rcases h with h | ⟨g,cap,h1,h2,h5,h3,h4⟩
  ·exact .inl h
  ·refine .inr ⟨g,cap,h1,h2,h5,h3,fun j a hj => ?_⟩
   obtain ⟨sl',k1,k2⟩ := h4 j a hj
   have key : ∀ i,w'.cell? ⟨g,i,none⟩ = w.cell? ⟨g,i,none⟩ := fun i => by unfold World.cell?; simp only [hb g h3]
   exact ⟨sl',⟨by rw [key]; exact k1.c0,by rw [key]; exact k1.c1,by rw [key]; exact k1.c2,by rw [key]; exact k1.c3⟩,k2.keep hb⟩
theorem ExX.mono {w : World} {X Y : Nat → Prop} (hb : ∀ i,X i → Y i) : ∀ {m : Nat} {e : Ex} {sl : Value},ExX w X m e sl → ExX w Y m e sl
 | 0,_,_,h => h
 | m + 1,e,sl,h => by
  rcases h with h | ⟨g,cap,h1,h2,h5,h3,h4⟩
  ·exact .inl h
  ·refine .inr ⟨g,cap,h1,h2,h5,hb g h3,fun j a hj => ?_⟩
   obtain ⟨sl',k1,k2⟩ := h4 j a hj
   exact ⟨sl',k1,k2.mono hb⟩
theorem ExX.slice {w : World} {X : Nat → Prop} : ∀ {m : Nat} {e : Ex} {sl : Value},ExX w X m e sl → ∃ p n cap,sl = .slice p n cap
 | 0,_,_,h => h.elim
 | m + 1,e,sl,h => by
  rcases h with ⟨_,h⟩ | ⟨g,cap,h1,_⟩
  ·exact ⟨_,_,_,h⟩
  ·exact ⟨_,_,_,h1⟩
theorem ExX.args {w : World} {X : Nat → Prop} {m : Nat} {e e' : Ex} {sl : Value} (h : ExX w X m e sl) (he : e'.args = e.args) : ExX w X m e' sl := by
 cases m with
 | zero => exact h
 | succ m =>
  unfold ExX at h ⊢
  rw [he]; exact h
def cellsE (p : Ex × Value) : List Value := [.int .i64 p.1.kind,.int .i64 p.1.n,.string ⟨p.1.name.toArray⟩,p.2]
def nestE (m : Nat) (w : World) (X : Nat → Prop) (p : Ex × Value) : Prop := ExX w X m p.1 p.2
theorem cellsE_len (p : Ex × Value) : (cellsE p).length = 4 := rfl
def RowE (m : Nat) (w : World) (lo : Nat) (v : Value) (es : List (Ex × Value)) : Prop := RowX (nestE m) cellsE 4 151 w lo v es
theorem RowX.args {m : Nat} {w : World} {lo : Nat} {v : Value} {es : List (Ex × Value)} (h : RowE m w lo v es) (hl : es.length ≤ 281474976710656) : ExX w (fun i => lo ≤ i ∧ i < w.heap.size) (m + 1) (ar (es.map (·.1))) v := by
 rcases RowX.form cellsE_len h with ⟨h1,h2⟩ | ⟨g,cap,h1,h2,h3,h4,h5⟩
 ·exact .inl ⟨by rw [h1]; rfl,h2⟩
 ·refine .inr ⟨g,cap,by rw [h1]; show Value.slice _ es.length cap = Value.slice _ (es.map (·.1)).length cap; rw [List.length_map],by show (es.map (·.1)).length ≤ cap; rw [List.length_map]; exact h2,by show (es.map (·.1)).length ≤ _; rw [List.length_map]; exact hl,⟨h3,h4⟩,fun j a hj => ?_⟩
  have hj' : (es.map (·.1))[j]? = some a := hj
  rw [List.getElem?_map,Option.map_eq_some_iff] at hj'
  obtain ⟨p,hp,rfl⟩ := hj'
  refine ⟨p.2,⟨?_,?_,?_,?_⟩,ExX.mono (fun i hi => ⟨hi.1,hi.2.1⟩) (h.sub p (List.mem_of_getElem? hp))⟩
  ·rw [Nat.zero_add]; exact h5 j p 0 _ hp rfl
  ·rw [Nat.zero_add]; exact h5 j p 1 _ hp rfl
  ·rw [Nat.zero_add]; exact h5 j p 2 _ hp rfl
  ·rw [Nat.zero_add]; exact h5 j p 3 _ hp rfl
theorem infoV : (Try.prog.info? 82).map (fun i => (i.zero,i.size,i.bytes)) = some (some (.agg #[.string ⟨#[]⟩,.bool false,.int .i64 0]),3,32) := by kernel_rfl
end Go.Proofs.Ytpnacanbknejiaa.Lr
