/- Laid together: LdRow, LdStX, LiOrd. -/
import Derived.Test.YtfbmkcogkiejnaaGr1
import Derived.Deep.AppendLies
import Derived.Great.BuildSlice
import Derived.OwnWalk
import Derived.Deep.MidRow
import Derived.Deep.RegionHeld3
namespace Go.Proofs.Ytfbmkcogkiejnaa.Lr
set_option linter.unusedVariables false
open Go.ChangeShapes Go.WideShapes Go.ChangeAt Go.RowKit Lg
theorem flat_at {α : Type} (cells : α → List Value) (k : Nat) (hk : ∀ a,(cells a).length = k) : ∀ (es : List α) (j i : Nat) (p : α),es[j]? = some p → i < k → (es.flatMap cells)[j * k + i]? = (cells p)[i]?
 | [],j,i,p,h,_ => by simp at h
 | a :: es,0,i,p,h,hi => by
  simp at h
  rw [List.flatMap_cons,Nat.zero_mul,Nat.zero_add,List.getElem?_append_left (by rw [hk]; exact hi),h]
 | a :: es,j + 1,i,p,h,hi => by
  rw [List.flatMap_cons,List.getElem?_append_right (by rw [hk,Nat.add_mul]; omega),hk,show (j + 1) * k + i - k = j * k + i by rw [Nat.add_mul]; omega]
  exact flat_at cells k hk es j i p (by simpa using h) hi
theorem flat_len7 {α : Type} (cells : α → List Value) (k : Nat) (hk : ∀ a,(cells a).length = k) : ∀ es : List α,(es.flatMap cells).length = es.length * k
 | [] => by simp
 | a :: es => by rw [List.flatMap_cons,List.length_append,hk,flat_len7 cells k hk es,List.length_cons,Nat.add_mul]; omega
def In (lo : Nat) (v : Value) (w : World) : Nat → Prop := fun i => lo ≤ i ∧ i < w.heap.size ∧ ¬ v.ownBlock = some i
structure RowX {α : Type} (nest : World → (Nat → Prop) → α → Prop) (cells : α → List Value) (k : Nat) (ty : TypeId) (w : World) (lo : Nat) (v : Value) (es : List α) : Prop where
 own : w.ownsRow lo ty k v es.length (es.flatMap cells)
 sub : ∀ p ∈ es,nest w (In lo v w) p
structure Nest {α : Type} (nest : World → (Nat → Prop) → α → Prop) : Prop where
 keep : ∀ (w w' : World) (X : Nat → Prop) (p : α),nest w X p → (∀ i,X i → w'.heap[i]? = w.heap[i]?) → nest w' X p
 mono : ∀ (w : World) (X Y : Nat → Prop) (p : α),nest w X p → (∀ i,X i → Y i) → nest w Y p
theorem RowX.nil {α : Type} {nest : World → (Nat → Prop) → α → Prop} {cells : α → List Value} {k : Nat} {ty : TypeId} (w : World) (lo : Nat) : RowX nest cells k ty w lo (.slice none 0 0) [] := ⟨World.ownsRow_nil _ _ _ _,by simp⟩
theorem RowX.stay {α : Type} {nest : World → (Nat → Prop) → α → Prop} {cells : α → List Value} {k : Nat} {ty : TypeId} {w w' : World} {lo : Nat} {v : Value} {es : List α} (hN : Nest nest) (h : RowX nest cells k ty w lo v es)
  (hs : w.heap.size ≤ w'.heap.size) (hb : ∀ i,lo ≤ i → i < w.heap.size → w'.heap[i]? = w.heap[i]?) : RowX nest cells k ty w' lo v es := by
 refine ⟨?_,fun p hp => ?_⟩
 ·obtain ⟨h1,h2⟩ := h.own
  refine ⟨h1,?_⟩
  rcases h2 with h2 | ⟨g,cap,cur,a1,a2,a3,a4⟩
  ·exact .inl h2
  ·exact .inr ⟨g,cap,cur,a1,a2,by rw [hb g a2 (Array.getElem?_eq_some_iff.1 a3).1]; exact a3,a4⟩
 ·exact hN.mono _ _ _ _ (hN.keep _ w' _ p (h.sub p hp) (fun i hi => hb i hi.1 hi.2.1)) (fun i hi => ⟨hi.1,Nat.lt_of_lt_of_le hi.2.1 hs,hi.2.2⟩)
theorem RowX.fs {α : Type} {nest : World → (Nat → Prop) → α → Prop} {cells : α → List Value} {k : Nat} {ty : TypeId} {w w' : World} {lo : Nat} {v : Value} {es : List α} {l : List Nat} (hN : Nest nest) (h : RowX nest cells k ty w lo v es)
  (hf : Fs l w w') (hl : ∀ i ∈ l,i < lo) : RowX nest cells k ty w' lo v es :=
 h.stay hN hf.size (fun i h1 h2 => hf.block i h2 (fun hx => by have := hl i hx; omega))
theorem RowX.push {α : Type} {nest : World → (Nat → Prop) → α → Prop} {cells : α → List Value} {k : Nat} {ty : TypeId} {w w1 : World} {lo g n cap : Nat} {v : Value} {es : List α} {p : α} (hN : Nest nest) (h : RowX nest cells k ty w lo v es) (hp : nest w (In lo v w) p)
  (hown : w1.ownsRow lo ty k (.slice (some ⟨g,0,none⟩) n cap) (es.length + 1) (es.flatMap cells ++ cells p)) (hg : w.grownBy w1 v.ownBlock) (hat : v.ownBlock = some g ∨ g = w.heap.size) :
  RowX nest cells k ty w1 lo (.slice (some ⟨g,0,none⟩) n cap) (es ++ [p]) := by
 have key : ∀ q,nest w (In lo v w) q → nest w1 (In lo (.slice (some ⟨g,0,none⟩) n cap) w1) q := fun q hq => by
  refine hN.mono _ _ _ _ (hN.keep _ w1 _ q hq (fun i hi => hg.block i hi.2.1 (fun e => hi.2.2 e.symm))) (fun i hi => ⟨hi.1,Nat.lt_of_lt_of_le hi.2.1 hg.size,fun e => ?_⟩)
  have e' : g = i := by simpa [Value.ownBlock] using e
  rcases hat with ha | ha
  ·exact hi.2.2 (by rw [ha,e'])
  ·have := hi.2.1; omega
 refine ⟨?_,fun q hq => ?_⟩
 ·rw [List.length_append,List.length_singleton,List.flatMap_append,List.flatMap_singleton]; exact hown
 ·rcases List.mem_append.1 hq with e | e
  ·exact key q (h.sub q e)
  ·rw [List.mem_singleton] at e; rw [e]; exact key p hp
theorem RowX.form {α : Type} {nest : World → (Nat → Prop) → α → Prop} {cells : α → List Value} {k : Nat} {ty : TypeId} {w : World} {lo : Nat} {v : Value} {es : List α} (hk : ∀ a,(cells a).length = k) (h : RowX nest cells k ty w lo v es) :
  (es = [] ∧ v = .slice none 0 0) ∨ ∃ g cap,v = .slice (some ⟨g,0,none⟩) es.length cap ∧ es.length ≤ cap ∧ lo ≤ g ∧ g < w.heap.size ∧ ∀ (j : Nat) (p : α) (i : Nat) (u : Value),es[j]? = some p → (cells p)[i]? = some u → w.cell? ⟨g,j * k + i,none⟩ = some u := by
 obtain ⟨h1,h2⟩ := h.own
 rcases h2 with ⟨h2,h3⟩ | ⟨g,cap,cur,a1,a2,a3,a4,a5,a6,a7⟩
 ·exact .inl ⟨List.length_eq_zero_iff.1 h3,h2⟩
 ·refine .inr ⟨g,cap,a1,a4,a2,(Array.getElem?_eq_some_iff.1 a3).1,fun j p i u hj hi => ?_⟩
  have hik : i < k := by
   have := (List.getElem?_eq_some_iff.1 hi).1
   rw [hk] at this; exact this
  have hx : (es.flatMap cells)[j * k + i]? = some u := by rw [flat_at cells k hk es j i p hj hik]; exact hi
  rw [← a7] at hx
  have hlt := (List.getElem?_eq_some_iff.1 hx).1
  rw [List.getElem?_take_of_lt (by rw [List.length_take] at hlt; omega)] at hx
  rw [Lib.cell_of_heap a3]
  rw [Array.getElem?_toList] at hx
  exact hx
theorem RowX.slice {α : Type} {nest : World → (Nat → Prop) → α → Prop} {cells : α → List Value} {k : Nat} {ty : TypeId} {w : World} {lo : Nat} {v : Value} {es : List α} (h : RowX nest cells k ty w lo v es) : ∃ p n cap,v = .slice p n cap := by
 rcases h.own.2 with ⟨h2,_⟩ | ⟨g,cap,cur,a1,_⟩
 ·exact ⟨_,_,_,h2⟩
 ·exact ⟨_,_,_,a1⟩
def ExX (w : World) (X : Nat → Prop) : Nat → Ex → Value → Prop
 | 0,_,_ => False
 | m + 1,e,sl => (e.args = [] ∧ sl = .slice none 0 0) ∨ ∃ (g cap : Nat),sl = .slice (some ⟨g,0,none⟩) e.args.length cap ∧ e.args.length ≤ cap ∧ e.args.length ≤ 281474976710656 ∧ X g ∧
   ∀ j a,e.args[j]? = some a → ∃ sl',ExAt w g (0 + j * 4) a sl' ∧ ExX w X m a sl'
theorem ExX.keep {w w' : World} {X : Nat → Prop} (hb : ∀ i,X i → w'.heap[i]? = w.heap[i]?) : ∀ {m : Nat} {e : Ex} {sl : Value},ExX w X m e sl → ExX w' X m e sl
 | 0,_,_,h => h
 | m + 1,e,sl,h => by
  rcases h with h | ⟨g,cap,h1,h2,h5,h3,h4⟩
  ·exact .inl h
  ·refine .inr ⟨g,cap,h1,h2,h5,h3,fun j a hj => ?_⟩
   obtain ⟨sl',k1,k2⟩ := h4 j a hj
   have key : ∀ i,w'.cell? ⟨g,i,none⟩ = w.cell? ⟨g,i,none⟩ := fun i => by unfold World.cell?; simp only [hb g h3]
   exact ⟨sl',⟨by rw [key]; exact k1.c0,by rw [key]; exact k1.c1,by rw [key]; exact k1.c2,by rw [key]; exact k1.c3⟩,k2.keep hb⟩
theorem ExX.mono {w : World} {X Y : Nat → Prop} (hb : ∀ i,X i → Y i) : ∀ {m : Nat} {e : Ex} {sl : Value},ExX w X m e sl → ExX w Y m e sl
 | 0,_,_,h => h
 | m + 1,e,sl,h => by
  rcases h with h | ⟨g,cap,h1,h2,h5,h3,h4⟩
  ·exact .inl h
  ·refine .inr ⟨g,cap,h1,h2,h5,hb g h3,fun j a hj => ?_⟩
   obtain ⟨sl',k1,k2⟩ := h4 j a hj
   exact ⟨sl',k1,k2.mono hb⟩
theorem ExX.slice {w : World} {X : Nat → Prop} : ∀ {m : Nat} {e : Ex} {sl : Value},ExX w X m e sl → ∃ p n cap,sl = .slice p n cap
 | 0,_,_,h => h.elim
 | m + 1,e,sl,h => by
  rcases h with ⟨_,h⟩ | ⟨g,cap,h1,_⟩
  ·exact ⟨_,_,_,h⟩
  ·exact ⟨_,_,_,h1⟩
theorem ExX.args {w : World} {X : Nat → Prop} {m : Nat} {e e' : Ex} {sl : Value} (h : ExX w X m e sl) (he : e'.args = e.args) : ExX w X m e' sl := by
 cases m with
 | zero => exact h
 | succ m =>
  unfold ExX at h ⊢
  rw [he]; exact h
def cellsE (p : Ex × Value) : List Value := [.int .i64 p.1.kind,.int .i64 p.1.n,.string ⟨p.1.name.toArray⟩,p.2]
def nestE (m : Nat) (w : World) (X : Nat → Prop) (p : Ex × Value) : Prop := ExX w X m p.1 p.2
theorem cellsE_len (p : Ex × Value) : (cellsE p).length = 4 := rfl
def RowE (m : Nat) (w : World) (lo : Nat) (v : Value) (es : List (Ex × Value)) : Prop := RowX (nestE m) cellsE 4 150 w lo v es
theorem RowX.args {m : Nat} {w : World} {lo : Nat} {v : Value} {es : List (Ex × Value)} (h : RowE m w lo v es) (hl : es.length ≤ 281474976710656) : ExX w (fun i => lo ≤ i ∧ i < w.heap.size) (m + 1) (ar (es.map (·.1))) v := by
 rcases RowX.form cellsE_len h with ⟨h1,h2⟩ | ⟨g,cap,h1,h2,h3,h4,h5⟩
 ·exact .inl ⟨by rw [h1]; rfl,h2⟩
 ·refine .inr ⟨g,cap,by rw [h1]; show Value.slice _ es.length cap = Value.slice _ (es.map (·.1)).length cap; rw [List.length_map],by show (es.map (·.1)).length ≤ cap; rw [List.length_map]; exact h2,by show (es.map (·.1)).length ≤ _; rw [List.length_map]; exact hl,⟨h3,h4⟩,fun j a hj => ?_⟩
  have hj' : (es.map (·.1))[j]? = some a := hj
  rw [List.getElem?_map,Option.map_eq_some_iff] at hj'
  obtain ⟨p,hp,rfl⟩ := hj'
  refine ⟨p.2,⟨?_,?_,?_,?_⟩,ExX.mono (fun i hi => ⟨hi.1,hi.2.1⟩) (h.sub p (List.mem_of_getElem? hp))⟩
  ·rw [Nat.zero_add]; exact h5 j p 0 _ hp rfl
  ·rw [Nat.zero_add]; exact h5 j p 1 _ hp rfl
  ·rw [Nat.zero_add]; exact h5 j p 2 _ hp rfl
  ·rw [Nat.zero_add]; exact h5 j p 3 _ hp rfl
def StX (w : World) (X : Nat → Prop) : Nat → List St → Value → Prop
 | 0,_,_ => False
 | m + 1,l,sl => (l = [] ∧ sl = .slice none 0 0) ∨ ∃ (g cap : Nat),sl = .slice (some ⟨g,0,none⟩) l.length cap ∧ l.length ≤ cap ∧ l.length ≤ 281474976710656 ∧ X g ∧
   ∀ j t,l[j]? = some t → ∃ s1 s2 s3,StAt w g (0 + j * 7) t s1 s2 s3 ∧ ExX w X 11 (ar t.args) s1 ∧ StX w X m t.thn s2 ∧ StX w X m t.els s3
theorem StX.keep {w w' : World} {X : Nat → Prop} (hb : ∀ i,X i → w'.heap[i]? = w.heap[i]?) : ∀ {m : Nat} {l : List St} {sl : Value},StX w X m l sl → StX w' X m l sl
 | 0,_,_,h => h
 | m + 1,e,sl,h => by
  rcases h with h | ⟨g,cap,h1,h2,h5,h3,h4⟩
  ·exact .inl h
  ·refine .inr ⟨g,cap,h1,h2,h5,h3,fun j a hj => ?_⟩
   obtain ⟨s1,s2,s3,k1,k2,k3,k4⟩ := h4 j a hj
   have key : ∀ i,w'.cell? ⟨g,i,none⟩ = w.cell? ⟨g,i,none⟩ := fun i => by unfold World.cell?; simp only [hb g h3]
   exact ⟨s1,s2,s3,⟨by rw [key]; exact k1.c0,by rw [key]; exact k1.c1,by rw [key]; exact k1.c2,by rw [key]; exact k1.c3,by rw [key]; exact k1.c4,by rw [key]; exact k1.c5,by rw [key]; exact k1.c6⟩,ExX.keep hb k2,k3.keep hb,k4.keep hb⟩
theorem StX.mono {w : World} {X Y : Nat → Prop} (hb : ∀ i,X i → Y i) : ∀ {m : Nat} {l : List St} {sl : Value},StX w X m l sl → StX w Y m l sl
 | 0,_,_,h => h
 | m + 1,e,sl,h => by
  rcases h with h | ⟨g,cap,h1,h2,h5,h3,h4⟩
  ·exact .inl h
  ·refine .inr ⟨g,cap,h1,h2,h5,hb g h3,fun j a hj => ?_⟩
   obtain ⟨s1,s2,s3,k1,k2,k3,k4⟩ := h4 j a hj
   exact ⟨s1,s2,s3,k1,ExX.mono hb k2,k3.mono hb,k4.mono hb⟩
theorem StX.slice {w : World} {X : Nat → Prop} : ∀ {m : Nat} {l : List St} {sl : Value},StX w X m l sl → ∃ p n cap,sl = .slice p n cap
 | 0,_,_,h => h.elim
 | m + 1,e,sl,h => by
  rcases h with ⟨_,h⟩ | ⟨g,cap,h1,_⟩
  ·exact ⟨_,_,_,h⟩
  ·exact ⟨_,_,_,h1⟩
theorem StX.none {w : World} {X : Nat → Prop} (m : Nat) : StX w X (m + 1) [] (.slice none 0 0) := .inl ⟨rfl,rfl⟩
end Go.Proofs.Ytfbmkcogkiejnaa.Lr
namespace Go.Proofs.Ytfbmkcogkiejnaa.Ord
open Go
def wpM (P : Program) (md : Region.Mode) (ops : Array Oper) (Q : Exit → Act → World → Prop) (S : World → Prop) (L : List Nat) : Nat → Array Bool → Act → World → Prop
 | 0,d,a,w => Region.ready md ops d = [] ∧ Q .normal a w
 | n + 1,d,a,w => (Region.ready md ops d = [] → Q .normal a w) ∧ ∀ i ∈ Region.ready md ops d,wpOp P ops Q i (fun a' w' => (L.contains i = true → S w') ∧ wpM P md ops Q S L n (d.setIfInBounds i true) a' w') a w
theorem wpM_any {P : Program} {md : Region.Mode} {ops : Array Oper} {Q : Exit → Act → World → Prop} {S : World → Prop} {L : List Nat} : ∀ (n : Nat) (d : Array Bool) (a : Act) (w : World),wpM P md ops Q S L n d a w → wpAny P md ops Q n d a w
 | 0,_,_,_,h => h
 | n + 1,_,_,_,h => ⟨h.1,fun i hi => wpOp_mono (fun a' w' k => wpM_any n _ a' w' k.2) (h.2 i hi)⟩
def ahead (md : Region.Mode) (ops : Array Oper) (L : List Nat) (d : Array Bool) (i : Nat) : Bool :=
 (List.range ops.size).all fun j => j == i || d.getD j true || L.contains j || match ops[j]? with
  | some oj => oj.after.any fun e => Region.binds md e && e.on == i
  | none => true
theorem ahead_spec {md : Region.Mode} {ops : Array Oper} {L : List Nat} {i j : Nat} {oj : Oper} {d : Array Bool} (h : ahead md ops L d i = true) (hj : ops[j]? = some oj) (hne : j ≠ i) (hun : d.getD j true = false) (hno : ∀ e ∈ oj.after,Region.binds md e = true → e.on ≠ i) : L.contains j = true := by
 unfold ahead at h
 have h1 := List.all_eq_true.1 h j (List.mem_range.2 (Array.getElem?_eq_some_iff.1 hj).1)
 rw [hj,hun,Bool.or_false,Bool.or_eq_true,Bool.or_eq_true] at h1
 rcases h1 with (h1 | h1) | h1
 ·exact absurd (beq_iff_eq.1 h1) hne
 ·exact h1
 ·obtain ⟨e,he,hb⟩ := Array.any_eq_true'.1 h1
  rw [Bool.and_eq_true] at hb
  exact absurd (beq_iff_eq.1 hb.2) (hno e he hb.1)
theorem ahead_set {md : Region.Mode} {ops : Array Oper} {L : List Nat} {i j : Nat} {d : Array Bool} (h : ahead md ops L d i = true) : ahead md ops L (d.setIfInBounds j true) i = true := by
 unfold ahead at h ⊢
 refine List.all_eq_true.2 fun k hk => ?_
 have h1 := List.all_eq_true.1 h k hk
 by_cases hjk : j = k
 ·subst hjk
  have : (d.setIfInBounds j true).getD j true = true := by
   by_cases hlt : j < d.size
   ·simp [Array.getD,hlt]
   ·simp [Array.getD,hlt]
  rw [this]; simp
 ·rw [getD_set_ne true hjk]; exact h1
theorem wpM_first {P : Program} {md : Region.Mode} {ops : Array Oper} {Q : Exit → Act → World → Prop} {S : World → Prop} {L : List Nat} {i : Nat} {oi : Oper} {v : Value} (hi : ops[i]? = some oi) (hsel : ∀ (j : Nat) (o : Oper) cs b,ops[j]? = some o → o.op ≠ .select cs b) (hQ : ∀ c a w,Q (.panic c) (a.put oi.dst v) w → Q (.panic c) a w) :
  ∀ (n : Nat) (d : Array Bool) (a : Act) (w : World),(∀ j oj,ops[j]? = some oj → j ≠ i → d.getD j true = false → (∀ e ∈ oj.after,Region.binds md e = true → e.on ≠ i) → oi.apart ops oj = true) → ahead md ops L d i = true →
   i ∈ Region.ready md ops d → YieldsIf P ops S oi v a → S w → wpM P md ops Q S L n (d.setIfInBounds i true) (a.put oi.dst v) w → wpM P md ops Q S L (n + 1) d a w
 | 0,d,a,w,_,_,hr,hy,hS,H => by
  refine ⟨fun h => (by rw [h] at hr; cases hr),fun j hj => ?_⟩
  by_cases e : j = i
  ·rw [e]; exact hy.wpOp hi hS ⟨fun _ => hS,H⟩
  ·have := ready_mono hj e
   rw [H.1] at this
   cases this
 | n + 1,d,a,w,hfree,hah,hr,hy,hS,H => by
  refine ⟨fun h => (by rw [h] at hr; cases hr),fun j hj => ?_⟩
  by_cases e : j = i
  ·rw [e]; exact hy.wpOp hi hS ⟨fun _ => hS,H⟩
  ·have h1 := H.2 j (ready_mono hj e)
   obtain ⟨hun,oj,hoj,hall⟩ := mem_ready.1 hj
   have hno : ∀ x ∈ oj.after,Region.binds md x = true → x.on ≠ i := fun x hx hb he => by
    have h2 := hall x hx hb
    have h3 := (mem_ready.1 hr).1
    rw [he] at h2
    rcases Nat.lt_or_ge i d.size with g | g
    ·simp [g] at h2 h3; rw [h3] at h2; cases h2
    ·simp [Array.getElem?_eq_none g] at h2
   have hL := ahead_spec hah hoj e hun hno
   have h2 := wpOp_putIf hoj (hfree j oj hoj e hun hno) (fun cs b => hsel i oi cs b hi) (fun cs b => hsel j oj cs b hoj) hQ hy h1
   refine wpOp_mono (fun a' w' k => ?_) h2
   refine ⟨k.2.1,wpM_first hi hsel hQ n (d.setIfInBounds j true) a' w' (fun q oq hq hqi hqu hqn => hfree q oq hq hqi ?_ hqn) (ahead_set hah) (ready_mono hr (Ne.symm e)) k.1 (k.2.1 hL) ?_⟩
   ·by_cases hjq : j = q
    ·rw [← hjq]; exact hun
    ·rw [getD_set_ne true hjq] at hqu; exact hqu
   ·rw [Array.setIfInBounds_comm _ _ e]; exact k.2.2
theorem wpM_take {P : Program} {md : Region.Mode} {ops : Array Oper} {Q : Exit → Act → World → Prop} {S : World → Prop} {L : List Nat} {i : Nat} {oi : Oper} {v : Value} {n : Nat} {d : Array Bool} {a : Act} {w : World} (hi : ops[i]? = some oi) (hs : Region.noSelect ops = true) (hf : Region.free md ops d i = true) (ha : ahead md ops L d i = true)
  (hr : (Region.ready md ops d).contains i = true) (hQ : ∀ c a w,Q (.panic c) (a.put oi.dst v) w → Q (.panic c) a w) (hy : YieldsIf P ops S oi v a) (hS : S w)
  (h : wpM P md ops Q S L n (d.setIfInBounds i true) (a.put oi.dst v) w) : wpM P md ops Q S L (n + 1) d a w :=
 wpM_first hi (Region.noSelect_spec hs) hQ n d a w (Region.free_spec hi hf) ha (by simpa using hr) hy hS h
theorem z {α : Type _} {x : α} {xs : List α} {a : α} : (x :: xs).set 0 a = a :: xs := List.set_cons_zero
theorem s {α : Type _} {x : α} {xs : List α} {n : Nat} {a : α} : (x :: xs).set (n + 1) a = x :: xs.set n a := List.set_cons_succ
theorem t {α : Type _} {l : List α} {i : Nat} {a : α} : l.toArray.setIfInBounds i a = (l.set i a).toArray := by simp
theorem tk {P : Program} {md : Region.Mode} {ops : Array Oper} {Q : Exit → Act → World → Prop} {S : World → Prop} {L : List Nat} {i : Nat} {oi : Oper} {v : Value} {n : Nat} {d : Array Bool} {a : Act} {w : World} (hi : ops[i]? = some oi := by simp only [List.getElem?_toArray,List.getElem?_cons_zero,List.getElem?_cons_succ]; rfl) (hs : Region.noSelect ops = true := by kernel_rfl) (hf : Region.free md ops d i = true := by kernel_rfl) (ha : ahead md ops L d i = true := by kernel_rfl)
  (hr : (Region.ready md ops d).contains i = true := by kernel_rfl) (hQ : ∀ c a w,Q (.panic c) (a.put oi.dst v) w → Q (.panic c) a w := by exact fun _ _ _ h => h) (hy : YieldsIf P ops S oi v a) (hS : S w)
  (h : wpM P md ops Q S L n (d.setIfInBounds i true) (a.put oi.dst v) w) : wpM P md ops Q S L (n + 1) d a w := wpM_take hi hs hf ha hr hQ hy hS h
theorem wpM_one {P : Program} {md : Region.Mode} {ops : Array Oper} {Q : Exit → Act → World → Prop} {S : World → Prop} {L : List Nat} {i : Nat} {o : Oper} {n : Nat} {d : Array Bool} {a : Act} {w : World} (hr : Region.ready md ops d = [i]) (ho : ops[i]? = some o)
  (h : ∀ K : Act → World → Prop,Shut (∀ a w,(L.contains i = true → S w) → wpM P md ops Q S L n (d.setIfInBounds i true) a w → K a w) → if Region.wanted o (yielded ops a.tmps) = true then Oper.wp P o a w K Q else K (a.put o.dst undef) w) : wpM P md ops Q S L (n + 1) d a w :=
 ⟨fun h0 => (by rw [hr] at h0; cases h0),fun j hj => by
  rw [hr,List.mem_singleton] at hj
  subst hj
  exact wpOp_step ho fun K hK => h K fun a w h1 h2 => hK a w ⟨h1,h2⟩⟩
theorem on {P : Program} {md : Region.Mode} {ops : Array Oper} {Q : Exit → Act → World → Prop} {S : World → Prop} {L : List Nat} {i : Nat} {o : Oper} {n : Nat} {d : Array Bool} {a : Act} {w : World} (hr : Region.ready md ops d = [i] := by kernel_rfl) (ho : ops[i]? = some o := by simp only [List.getElem?_toArray,List.getElem?_cons_zero,List.getElem?_cons_succ]; rfl)
  (h : ∀ K : Act → World → Prop,Shut (∀ a w,(L.contains i = true → S w) → wpM P md ops Q S L n (d.setIfInBounds i true) a w → K a w) → if Region.wanted o (yielded ops a.tmps) = true then Oper.wp P o a w K Q else K (a.put o.dst undef) w) : wpM P md ops Q S L (n + 1) d a w := wpM_one hr ho h
theorem wpM_two {P : Program} {md : Region.Mode} {ops : Array Oper} {Q : Exit → Act → World → Prop} {S : World → Prop} {L : List Nat} {i j : Nat} {oi oj : Oper} {n : Nat} {d : Array Bool} {a : Act} {w : World} (hr : Region.ready md ops d = [i,j]) (hi : ops[i]? = some oi) (hj : ops[j]? = some oj)
  (h : ∀ K : Act → World → Prop,Shut (∀ a w,(L.contains i = true → S w) → wpM P md ops Q S L n (d.setIfInBounds i true) a w → K a w) → if Region.wanted oi (yielded ops a.tmps) = true then Oper.wp P oi a w K Q else K (a.put oi.dst undef) w)
  (k : ∀ K : Act → World → Prop,Shut (∀ a w,(L.contains j = true → S w) → wpM P md ops Q S L n (d.setIfInBounds j true) a w → K a w) → if Region.wanted oj (yielded ops a.tmps) = true then Oper.wp P oj a w K Q else K (a.put oj.dst undef) w) : wpM P md ops Q S L (n + 1) d a w :=
 ⟨fun h0 => (by rw [hr] at h0; cases h0),fun x hx => by
  rw [hr,List.mem_cons,List.mem_singleton] at hx
  rcases hx with e | e
  ·subst e; exact wpOp_step hi fun K hK => h K fun a w h1 h2 => hK a w ⟨h1,h2⟩
  ·subst e; exact wpOp_step hj fun K hK => k K fun a w h1 h2 => hK a w ⟨h1,h2⟩⟩
theorem wpM_done {P : Program} {md : Region.Mode} {ops : Array Oper} {Q : Exit → Act → World → Prop} {S : World → Prop} {L : List Nat} {d : Array Bool} {a : Act} {w : World} (hr : Region.ready md ops d = []) (h : Q .normal a w) : ∀ n,wpM P md ops Q S L n d a w
 | 0 => ⟨hr,h⟩
 | _ + 1 => ⟨fun _ => h,by rw [hr]; simp⟩
theorem wpM_begin {P : Program} {ops : Array Oper} {Q : Exit → Act → World → Prop} {id : Nat} {a : Act} {w : World} (S : World → Prop) (L : List Nat) (hm : P.follows .mixedOrders = true) (h : wpM P .any ops Q S L ops.size (Array.replicate ops.size false) a w.drew) : (Code.region id ops true).wp P Q a w :=
 wp_region_any hm (wpM_any _ _ _ _ h)
end Go.Proofs.Ytfbmkcogkiejnaa.Ord
