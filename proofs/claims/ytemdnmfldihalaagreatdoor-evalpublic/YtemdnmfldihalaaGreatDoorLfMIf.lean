/- What a program's parts become: a choice: both blocks are made, and boxed. Written by tools/gen_fmif.py. -/
import Derived.Test.YtemdnmfldihalaaGreatDoorGr18
namespace Go.Proofs.YtemdnmfldihalaaGreatDoor.Lr
set_option maxHeartbeats 32000000
set_option maxRecDepth 100000
set_option linter.unusedVariables false
set_option linter.unusedSimpArgs false
open Go.ChangeShapes Go.WideShapes Go.ChangeAt Go.RowKit Lg
structure StI (t : Rt) (B : Nat) (rs : List Vr) (A : Value) (sc : List (List UInt8 × Nat)) (nv : Value) (w w' : World) (bs : List Nat) (nvj : Value) : Prop where
 ms : MSt w' t B rs A sc nvj
 fc : Fc t.M nv nvj w w'
 bs : ∀ b ∈ bs,w.heap.size ≤ b ∧ b < w'.heap.size ∧ ¬ nvj.ownBlock = some b
 m : t.M < w.heap.size
structure MadeA (t : Rt) (rs : List Vr) (sc : List (List UInt8 × Nat)) (lo top : Nat) (w' : World) (bs : List Nat) (nvj u : Value) (C : Mm → Prop) (f : Mm → Rs) (l h : Nat) (Ls : List Nat) : Prop where
 a : lo ≤ l
 b : l ≤ h
 c : h ≤ top
 d : top ≤ w'.heap.size
 good : GoodA t sc sc rs w' l h Ls (rowX nvj) u C f
 bs : ∀ b ∈ bs,b < l ∨ h ≤ b
 ints : ∀ b ∈ Ls,IntAt w' b
def MadeX (t : Rt) (rs : List Vr) (sc : List (List UInt8 × Nat)) (lo top : Nat) (w' : World) (bs : List Nat) (nvj u : Value) (C : Mm → Prop) (f : Mm → Rs) : Prop := ∃ l h Ls,MadeA t rs sc lo top w' bs nvj u C f l h Ls
section
variable {t : Rt} {B : Nat} {rs : List Vr} {A : Value} {sc : List (List UInt8 × Nat)} {nv : Value} {w w' : World} {bs : List Nat} {nvj : Value}
theorem StI.call {w2 : World} {C : Mm → Prop} {f : Mm → Rs} {r : Ending} {v nv' : Value} {Ls : List Nat} (h : StI t B rs A sc nv w w' bs nvj) (hd : MdsP t B rs A sc nvj C f w' r w2 v nv' sc Ls) : StI t B rs A sc nv w w2 bs nv' :=
 ⟨hd.ms,h.fc.trans hd.fc,fun b hb => ⟨(h.bs b hb).1,Nat.lt_of_lt_of_le (h.bs b hb).2.1 hd.fc.size,fun e => by
  rcases hd.fc.own b e with q | q
  ·exact (h.bs b hb).2.2 q
  ·have := (h.bs b hb).2.1; omega⟩,h.m⟩
theorem StI.alloc (h : StI t B rs A sc nv w w' bs nvj) (o : Obj) : StI t B rs A sc nv w (w'.alloc o) (w'.heap.size :: bs) nvj := by
 have hb : Below w'.heap.size w' (w'.alloc o) := (Below.refl _ _).alloc (Nat.le_refl _) _
 have hs : (w'.alloc o).heap.size = w'.heap.size + 1 := Array.size_push ..
 refine ⟨h.ms.below hb,h.fc.trans (Fc.of_below hb nvj),fun b hx => ?_,h.m⟩
 rcases List.mem_cons.1 hx with rfl | hx
 ·exact ⟨h.fc.size,by omega,fun e => by have := (h.ms.own _ e).2; omega⟩
 ·exact ⟨(h.bs b hx).1,by have := (h.bs b hx).2.1; omega,(h.bs b hx).2.2⟩
theorem StI.set (h : StI t B rs A sc nv w w' bs nvj) {b : Nat} (hb : b ∈ bs) (v : Value) : StI t B rs A sc nv w (w'.setCell ⟨b,0,none⟩ v) bs nvj := by
 have hB := h.ms.hB
 have hm := h.m
 obtain ⟨h1,h2,h3⟩ := h.bs b hb
 have hs : (w'.setCell ⟨b,0,none⟩ v).heap.size = w'.heap.size := by simp [World.setCell]
 have hset : ∀ i,i ≠ b → (w'.setCell ⟨b,0,none⟩ v).heap[i]? = w'.heap[i]? := fun i hi => Below.heap_setCell _ _ _ _ hi
 refine ⟨h.ms.stay (by rw [hs]; exact Nat.le_refl _) (hset _ (by omega)) (fun i hi => hset i (by omega)) (fun i hi => hset i (fun e => h3 (e ▸ hi))),⟨h.fc.os,h.fc.tape,h.fc.output,by rw [hs]; exact h.fc.size,fun k hk hc hn => ?_,h.fc.own⟩,fun c hc => by rw [hs]; exact h.bs c hc,h.m⟩
 rw [hset k (by omega)]; exact h.fc.block k hk hc hn
variable {lo top : Nat} {u : Value} {C : Mm → Prop} {f : Mm → Rs}
theorem MadeX.call {w2 : World} {C' : Mm → Prop} {f' : Mm → Rs} {r : Ending} {v nv' : Value} {Ls' : List Nat} (h : MadeX t rs sc lo top w' bs nvj u C f) (hs : StI t B rs A sc nv w w' bs nvj) (hlo : w.heap.size ≤ lo) (hd : MdsP t B rs A sc nvj C' f' w' r w2 v nv' sc Ls') : MadeX t rs sc lo top w2 bs nv' u C f := by
 obtain ⟨l,k,Ls,h⟩ := h
 have ha := h.a
 have hc := h.c
 have hd' := h.d
 have hm := hs.m
 have hz := hd.fc.size
 refine ⟨l,k,Ls,ha,h.b,hc,by omega,?_,h.bs,fun b hb => (h.ints b hb).fc hs.ms hd.fc⟩
 refine h.good.more (Nat.le_refl _) (Nat.le_refl _) (fun i a b _ d _ _ => hd.fc.block i (by omega) (by omega) (fun e => d (rowX_mem.2 e))) (fun b hb => hb) h.good.1 (fun b hb _ _ => hb) (fun b hb a c => ?_) (fun _ _ _ _ _ hs _ => hs)
 rcases hd.fc.own b (rowX_mem.1 hb) with q | q
 ·exact rowX_mem.2 q
 ·omega
theorem MadeX.alloc (h : MadeX t rs sc lo top w' bs nvj u C f) (o : Obj) : MadeX t rs sc lo top (w'.alloc o) (w'.heap.size :: bs) nvj u C f := by
 obtain ⟨l,k,Ls,h⟩ := h
 have hc := h.c
 have hd' := h.d
 have hb : Below w'.heap.size w' (w'.alloc o) := (Below.refl _ _).alloc (Nat.le_refl _) _
 have hs : (w'.alloc o).heap.size = w'.heap.size + 1 := Array.size_push ..
 refine ⟨l,k,Ls,h.a,h.b,hc,by omega,h.good.more (Nat.le_refl _) (Nat.le_refl _) (fun i a b _ _ _ _ => hb.block i (by omega)) (fun b hb => hb) h.good.1 (fun b hb _ _ => hb) (fun b hb _ _ => hb) (fun _ _ _ _ _ hs _ => hs),fun b hx => ?_,fun b hx => (h.ints b hx).below hb⟩
 rcases List.mem_cons.1 hx with rfl | hx
 ·exact .inr (by omega)
 ·exact h.bs b hx
theorem MadeX.set (h : MadeX t rs sc lo top w' bs nvj u C f) {b : Nat} (hb : b ∈ bs) (v : Value) : MadeX t rs sc lo top (w'.setCell ⟨b,0,none⟩ v) bs nvj u C f := by
 obtain ⟨l,k,Ls,h⟩ := h
 have hx := h.bs b hb
 refine ⟨l,k,Ls,h.a,h.b,h.c,by simp [World.setCell]; exact h.d,h.good.more (Nat.le_refl _) (Nat.le_refl _) (fun i a c _ _ _ _ => Below.heap_setCell _ _ _ _ (by show i ≠ b; omega)) (fun b hb => hb) h.good.1 (fun b hb _ _ => hb) (fun b hb _ _ => hb) (fun _ _ _ _ _ hs _ => hs),h.bs,fun c hc => (h.ints c hc).set (by have := h.good.1 c hc; omega)⟩
theorem MadeX.func (h : MadeX t rs sc lo top w' bs nvj u C f) : ∃ k d,u = .func (.func k) #[] d := by
 obtain ⟨l,k,Ls,h⟩ := h
 obtain ⟨_,k,d,hv,_⟩ := h.good
 exact ⟨k,d,hv.1⟩
theorem Boxed.call {w2 : World} {ty : TypeId} {b : Nat} {x : Value} {C' : Mm → Prop} {f' : Mm → Rs} {r : Ending} {v nv' : Value} {Ls' : List Nat} (h : Boxed lo w' ty b u x) (hb : b ∈ bs) (hs : StI t B rs A sc nv w w' bs nvj) (hd : MdsP t B rs A sc nvj C' f' w' r w2 v nv' sc Ls') : Boxed lo w2 ty b u x :=
 ⟨h.1,h.2.1,h.2.2.fc hd.fc (by have := (hs.bs b hb).1; have := hs.m; omega) (hs.bs b hb).2.2⟩
end
noncomputable def mIfCode : Code := Tryz.f65.body.getD .skip
noncomputable def mIfOps : Array Oper := opsC (fstC (sndC (sndC mIfCode)))
theorem mIf_rdy : ∀ (c0 c1 a0 a1 s0 s1 : Bool),(!((!c1 || c0) && (!s0 || (c1 && a0)) && (!s1 || (s0 && a1))) || (Region.ready .any mIfOps #[true,true,true,c0,true,true,true,c1,a0,a1,s0,s1]).all (fun i => match i with
   | 3 => !c0
   | 7 => c0 && !c1
   | 8 => !a0
   | 9 => !a1
   | 10 => c0 && c1 && a0 && !s0
   | 11 => c0 && c1 && a1 && s0 && !s1
   | _ => false)) = true := by decide +kernel
theorem mIf_end : ∀ (c0 c1 a0 a1 s0 s1 : Bool),(!((!c1 || c0) && (!s0 || (c1 && a0)) && (!s1 || (s0 && a1))) || !(Region.ready .any mIfOps #[true,true,true,c0,true,true,true,c1,a0,a1,s0,s1]).isEmpty || (c0 && c1 && a0 && a1 && s0 && s1)) = true := by decide +kernel
def mIfJ (t : Rt) (B : Nat) (rs : List Vr) (A : Value) (sc : List (List UInt8 × Nat)) (nv : Value) (bT : Nat) (p2 : Option Addr) (n2 k2 : Nat) (p3 : Option Addr) (n3 k3 : Nat) (C0 C1 : Mm → Prop) (f0 f1 : Mm → Rs) (g : Nat → Value) (w : World) (d : Array Bool) (a : Act) (w' : World) : Prop := ∃ (c0 c1 a0 a1 s0 s1 : Bool) (u15 u19 u6 u7 : Value) (b0 b1 : Nat) (bs : List Nat) (nvj : Value) (mid top : Nat),d = #[true,true,true,c0,true,true,true,c1,a0,a1,s0,s1] ∧ a = ⟨#[.pointer (some ⟨t.M,0,none⟩),g 1,g 2,.pointer (some ⟨bT,0,none⟩),g 4,g 5,u6,u7,g 8,g 9,g 10,g 11,.pointer (some ⟨t.M,0,none⟩),.pointer (some ⟨bT,5,none⟩),.slice p2 n2 k2,u15,.pointer (some ⟨t.M,0,none⟩),.pointer (some ⟨bT,6,none⟩),.slice p3 n3 k3,u19,g 20,g 21,g 22,g 23],[]⟩ ∧ ((!c1 || c0) && (!s0 || (c1 && a0)) && (!s1 || (s0 && a1))) = true ∧ StI t B rs A sc nv w w' bs nvj ∧ w.heap.size ≤ mid ∧ mid ≤ w'.heap.size ∧ (c0 = true → MadeX t rs sc w.heap.size mid w' bs nvj u15 C0 f0) ∧ (c1 = true → MadeX t rs sc mid top w' bs nvj u19 C1 f1) ∧ (a0 = true → b0 ∈ bs ∧ Boxed w.heap.size w' 75 b0 u6 (if s0 = true then u15 else .nilFunc)) ∧ (a1 = true → b1 ∈ bs ∧ Boxed w.heap.size w' 75 b1 u7 (if s1 = true then u19 else .nilFunc)) ∧ (a0 = true → a1 = true → b0 ≠ b1)
def mIfP (t : Rt) (B : Nat) (rs : List Vr) (A : Value) (sc : List (List UInt8 × Nat)) (nv : Value) (bT : Nat) (p2 : Option Addr) (n2 k2 : Nat) (p3 : Option Addr) (n3 k3 : Nat) (C0 C1 : Mm → Prop) (f0 f1 : Mm → Rs) (g : Nat → Value) (w : World) (e : Exit) (a' : Act) (w' : World) : Prop := e = .normal ∧ ∃ (u15 u19 : Value) (b0 b1 : Nat) (nvj : Value) (bs : List Nat) (mid top : Nat),a' = ⟨#[.pointer (some ⟨t.M,0,none⟩),g 1,g 2,.pointer (some ⟨bT,0,none⟩),g 4,g 5,.pointer (some ⟨b0,0,none⟩),.pointer (some ⟨b1,0,none⟩),g 8,g 9,g 10,g 11,.pointer (some ⟨t.M,0,none⟩),.pointer (some ⟨bT,5,none⟩),.slice p2 n2 k2,u15,.pointer (some ⟨t.M,0,none⟩),.pointer (some ⟨bT,6,none⟩),.slice p3 n3 k3,u19,g 20,g 21,g 22,g 23],[]⟩ ∧ StI t B rs A sc nv w w' bs nvj ∧ MadeX t rs sc w.heap.size mid w' bs nvj u15 C0 f0 ∧ MadeX t rs sc mid top w' bs nvj u19 C1 f1 ∧ (b0 ∈ bs ∧ Bk w' b0 [u15] 75) ∧ (b1 ∈ bs ∧ Bk w' b1 [u19] 75)
theorem mIf_reg (t : Rt) (B : Nat) (rs : List Vr) (A : Value) (sc : List (List UInt8 × Nat)) (nv : Value) (bT : Nat) (p2 : Option Addr) (n2 k2 : Nat) (p3 : Option Addr) (n3 k3 : Nat) (C0 C1 : Mm → Prop) (f0 f1 : Mm → Rs) (g : Nat → Value) (w : World) (hT5 : w.cell? ⟨bT,5,none⟩ = some (.slice p2 n2 k2)) (hT6 : w.cell? ⟨bT,6,none⟩ = some (.slice p3 n3 k3)) (hM : MSt w t B rs A sc nv) (hbT : bT ≠ t.M) (hbN : ¬ nv.ownBlock = some bT) (HC0 : Hid (∀ W nvj,MSt W t B rs A sc nvj → Fc t.M nv nvj w W → Calls Tryz.prog 47 #[.pointer (some ⟨t.M,0,none⟩),.slice p2 n2 k2] W fun r W' => ∃ v nv' Ls,MdsP t B rs A sc nvj C0 f0 W r W' v nv' sc Ls)) (HC1 : Hid (∀ W nvj,MSt W t B rs A sc nvj → Fc t.M nv nvj w W → Calls Tryz.prog 47 #[.pointer (some ⟨t.M,0,none⟩),.slice p3 n3 k3] W fun r W' => ∃ v nv' Ls,MdsP t B rs A sc nvj C1 f1 W r W' v nv' sc Ls)) : (fstC (sndC (sndC mIfCode))).wp Tryz.prog (mIfP t B rs A sc nv bT p2 n2 k2 p3 n3 k3 C0 C1 f0 f1 g w) ⟨#[.pointer (some ⟨t.M,0,none⟩),g 1,g 2,.pointer (some ⟨bT,0,none⟩),g 4,g 5,g 6,g 7,g 8,g 9,g 10,g 11,g 12,g 13,g 14,g 15,g 16,g 17,g 18,g 19,g 20,g 21,g 22,g 23],[]⟩ w := by
 conv => arg 2; whnf
 refine wp_region_noPanic ?_
 refine Ord.wpM_begin (fun W' : World => W'.cell? ⟨bT,5,none⟩ = some (.slice p2 n2 k2) ∧ W'.cell? ⟨bT,6,none⟩ = some (.slice p3 n3 k3)) [0,1,2,3,4,5,6,7,8,9,10,11] (by kernel_rfl) ?_
 have HSS : Hid (∀ (W' : World) nvj,Fc t.M nv nvj w W' → (W'.cell? ⟨bT,5,none⟩ = some (.slice p2 n2 k2) ∧ W'.cell? ⟨bT,6,none⟩ = some (.slice p3 n3 k3))) := fun W' nvj hW => ⟨by rw [World.cell?_of_block (hW.block bT (lt_of_cell hT5) hbT hbN)]; exact hT5,by rw [World.cell?_of_block (hW.block bT (lt_of_cell hT6) hbT hbN)]; exact hT6⟩
 have HD : Hid (Below w.heap.size w w.drew) := Below.drew (Below.refl _ _)
 generalize w.drew = wd at *
 have hS := HSS.out wd nv (Fc.of_below HD.out nv)
 refine Ord.tk (i:=0) (v:=.pointer (some ⟨t.M,0,none⟩)) (hy:=Or.inl ⟨by rfl,by rintro W' ⟨q0,q1⟩; go_simp⟩) (hS:=hS) (h:=?_)
 try simp only [Act.put,Ord.t,Ord.z,Ord.s]
 refine Ord.tk (i:=1) (v:=.pointer (some ⟨bT,5,none⟩)) (hy:=Or.inl ⟨by rfl,by rintro W' ⟨q0,q1⟩; go_simp⟩) (hS:=hS) (h:=?_)
 try simp only [Act.put,Ord.t,Ord.z,Ord.s]
 refine Ord.tk (i:=2) (v:=.slice p2 n2 k2) (hy:=Or.inl ⟨by rfl,by rintro W' ⟨q0,q1⟩; go_simp⟩) (hS:=hS) (h:=?_)
 try simp only [Act.put,Ord.t,Ord.z,Ord.s]
 refine Ord.tk (i:=4) (v:=.pointer (some ⟨t.M,0,none⟩)) (hy:=Or.inl ⟨by rfl,by rintro W' ⟨q0,q1⟩; go_simp⟩) (hS:=hS) (h:=?_)
 try simp only [Act.put,Ord.t,Ord.z,Ord.s]
 refine Ord.tk (i:=5) (v:=.pointer (some ⟨bT,6,none⟩)) (hy:=Or.inl ⟨by rfl,by rintro W' ⟨q0,q1⟩; go_simp⟩) (hS:=hS) (h:=?_)
 try simp only [Act.put,Ord.t,Ord.z,Ord.s]
 refine Ord.tk (i:=6) (v:=.slice p3 n3 k3) (hy:=Or.inl ⟨by rfl,by rintro W' ⟨q0,q1⟩; go_simp⟩) (hS:=hS) (h:=?_)
 try simp only [Act.put,Ord.t,Ord.z,Ord.s]
 refine Ord.wpM_inv (mIfJ t B rs A sc nv bT p2 n2 k2 p3 n3 k3 C0 C1 f0 f1 g w) (fun d a w' h => ?_) (fun d a w' h hr => ?_) (fun d a w' hJ i hi => ?_) _ _ _ _ (of_decide_eq_true (by kernel_rfl)) ?_
 ·obtain ⟨c0,c1,a0,a1,s0,s1,u15,u19,u6,u7,b0,b1,bs,nvj,mid,top,rfl,rfl,hv,hst,hmid,hmid2,hm0,hm1,hx0,hx1,hd01⟩ := h
  exact HSS.out w' nvj hst.fc
 ·refine NoPanic.normal ?_
  obtain ⟨c0,c1,a0,a1,s0,s1,u15,u19,u6,u7,b0,b1,bs,nvj,mid,top,rfl,rfl,hv,hst,hmid,hmid2,hm0,hm1,hx0,hx1,hd01⟩ := h
  have he := mIf_end c0 c1 a0 a1 s0 s1
  rw [hv] at he
  have he2 : (Region.ready .any mIfOps #[true,true,true,c0,true,true,true,c1,a0,a1,s0,s1]).isEmpty = true := by rw [show Region.ready .any mIfOps #[true,true,true,c0,true,true,true,c1,a0,a1,s0,s1] = [] from hr]; rfl
  rw [he2] at he
  simp only [Bool.not_true,Bool.false_or,Bool.and_eq_true] at he
  obtain ⟨⟨⟨⟨⟨rfl,rfl⟩,rfl⟩,rfl⟩,rfl⟩,rfl⟩ := he
  obtain ⟨hi0,rfl,hlo0,hbk0⟩ := hx0 rfl
  obtain ⟨hi1,rfl,hlo1,hbk1⟩ := hx1 rfl
  exact ⟨rfl,u15,u19,b0,b1,nvj,bs,mid,top,rfl,hst,hm0 rfl,hm1 rfl,⟨hi0,hbk0⟩,⟨hi1,hbk1⟩⟩
 ·obtain ⟨c0,c1,a0,a1,s0,s1,u15,u19,u6,u7,b0,b1,bs,nvj,mid,top,rfl,rfl,hv,hst,hmid,hmid2,hm0,hm1,hx0,hx1,hd01⟩ := hJ
  have hcnd := mIf_rdy c0 c1 a0 a1 s0 s1
  rw [hv,Bool.not_true,Bool.false_or] at hcnd
  have hcnd := List.all_eq_true.1 hcnd i hi
  have hlt : i < 12 := List.mem_range.1 (List.mem_filter.1 hi).1
  rcases (show i = 0 ∨ i = 1 ∨ i = 2 ∨ i = 3 ∨ i = 4 ∨ i = 5 ∨ i = 6 ∨ i = 7 ∨ i = 8 ∨ i = 9 ∨ i = 10 ∨ i = 11 by omega) with rfl | rfl | rfl | rfl | rfl | rfl | rfl | rfl | rfl | rfl | rfl | rfl
  ·cases hcnd
  ·cases hcnd
  ·cases hcnd
  ·try dsimp only at hcnd
   have hz0 : s0 = false := by revert hv hcnd; cases s0 <;> cases c0 <;> simp_all
   have hc1 : c1 = false := by revert hv hcnd; cases c1 <;> cases c0 <;> simp_all
   refine wpOp_step (by simp only [List.getElem?_toArray,List.getElem?_cons_zero,List.getElem?_cons_succ]; rfl) (fun K hK => ?_)
   go_simp
   refine (HC0.out w' nvj hst.ms hst.fc).mono ?_
   rintro r w2 ⟨v,nv',Ls,hd⟩
   have hr := hd.r
   subst hr
   have hsz := hd.fc.size
   have hsz0 := hst.fc.size
   go_simp
   refine hK _ _ ?_
   try simp only [Act.put,Ord.t,Ord.z,Ord.s]
   refine ⟨true,c1,a0,a1,s0,s1,v,u19,u6,u7,b0,b1,bs,nv',w2.heap.size,top,rfl,rfl,?_,hst.call hd,by omega,Nat.le_refl _,fun _ => ⟨w'.heap.size,w2.heap.size,Ls,hsz0,hsz,Nat.le_refl _,Nat.le_refl _,hd.good,fun b h => .inl (hst.bs b h).2.1,hd.ints⟩,fun h => (by rw [hc1] at h; cases h),fun h => ⟨(hx0 h).1,by have hq := (hx0 h).2.call (hx0 h).1 hst hd; rw [if_neg (by rw [hz0]; decide)] at hq ⊢; exact hq⟩,fun h => ⟨(hx1 h).1,(hx1 h).2.call (hx1 h).1 hst hd⟩,hd01⟩
   revert hv hcnd; cases c0 <;> cases c1 <;> cases a0 <;> cases a1 <;> cases s0 <;> cases s1 <;> decide
  ·cases hcnd
  ·cases hcnd
  ·cases hcnd
  ·try dsimp only at hcnd
   have hz1 : s1 = false := by revert hv hcnd; cases s1 <;> cases c1 <;> simp_all
   refine wpOp_step (by simp only [List.getElem?_toArray,List.getElem?_cons_zero,List.getElem?_cons_succ]; rfl) (fun K hK => ?_)
   go_simp
   refine (HC1.out w' nvj hst.ms hst.fc).mono ?_
   rintro r w2 ⟨v,nv',Ls,hd⟩
   have hr := hd.r
   subst hr
   have hsz := hd.fc.size
   have hsz0 := hst.fc.size
   go_simp
   refine hK _ _ ?_
   try simp only [Act.put,Ord.t,Ord.z,Ord.s]
   refine ⟨c0,true,a0,a1,s0,s1,u15,v,u6,u7,b0,b1,bs,nv',mid,w2.heap.size,rfl,rfl,?_,hst.call hd,hmid,by omega,fun h => (hm0 h).call hst (Nat.le_refl _) hd,fun _ => ⟨w'.heap.size,w2.heap.size,Ls,hmid2,hsz,Nat.le_refl _,Nat.le_refl _,hd.good,fun b h => .inl (hst.bs b h).2.1,hd.ints⟩,fun h => ⟨(hx0 h).1,(hx0 h).2.call (hx0 h).1 hst hd⟩,fun h => ⟨(hx1 h).1,by have hq := (hx1 h).2.call (hx1 h).1 hst hd; rw [if_neg (by rw [hz1]; decide)] at hq ⊢; exact hq⟩,hd01⟩
   revert hv hcnd; cases c0 <;> cases c1 <;> cases a0 <;> cases a1 <;> cases s0 <;> cases s1 <;> decide
  ·try dsimp only at hcnd
   refine wpOp_step (by simp only [List.getElem?_toArray,List.getElem?_cons_zero,List.getElem?_cons_succ]; rfl) (fun K hK => ?_)
   go_simp
   refine hK _ _ ?_
   try simp only [Act.put,Ord.t,Ord.z,Ord.s]
   have hb2 : Below w'.heap.size w' (w'.alloc (.cells #[.nilFunc] 75)) := (Below.refl _ _).alloc (Nat.le_refl _) _
   have hz : s0 = false := by revert hv hcnd; cases s0 <;> cases a0 <;> simp_all
   refine ⟨c0,c1,true,a1,s0,s1,u15,u19,.pointer (some ⟨w'.heap.size,0,none⟩),u7,w'.heap.size,b1,(w'.heap.size :: bs),nvj,mid,top,rfl,rfl,?_,hst.alloc _,hmid,Nat.le_trans hmid2 hb2.size,fun h => (hm0 h).alloc _,fun h => (hm1 h).alloc _,fun _ => ⟨by simp,rfl,hst.fc.size,by rw [if_neg (by rw [hz]; decide)]; exact Bk.new _ _ _⟩,fun h => ⟨by simp [(hx1 h).1],(hx1 h).2.below hb2⟩,fun _ h => by have := (hst.bs _ (hx1 h).1).2.1; omega⟩
   revert hv hcnd; cases c0 <;> cases c1 <;> cases a0 <;> cases a1 <;> cases s0 <;> cases s1 <;> decide
  ·try dsimp only at hcnd
   refine wpOp_step (by simp only [List.getElem?_toArray,List.getElem?_cons_zero,List.getElem?_cons_succ]; rfl) (fun K hK => ?_)
   go_simp
   refine hK _ _ ?_
   try simp only [Act.put,Ord.t,Ord.z,Ord.s]
   have hb2 : Below w'.heap.size w' (w'.alloc (.cells #[.nilFunc] 75)) := (Below.refl _ _).alloc (Nat.le_refl _) _
   have hz : s1 = false := by revert hv hcnd; cases s1 <;> cases a1 <;> simp_all
   refine ⟨c0,c1,a0,true,s0,s1,u15,u19,u6,.pointer (some ⟨w'.heap.size,0,none⟩),b0,w'.heap.size,(w'.heap.size :: bs),nvj,mid,top,rfl,rfl,?_,hst.alloc _,hmid,Nat.le_trans hmid2 hb2.size,fun h => (hm0 h).alloc _,fun h => (hm1 h).alloc _,fun h => ⟨by simp [(hx0 h).1],(hx0 h).2.below hb2⟩,fun _ => ⟨by simp,rfl,hst.fc.size,by rw [if_neg (by rw [hz]; decide)]; exact Bk.new _ _ _⟩,fun h _ => by have := (hst.bs _ (hx0 h).1).2.1; omega⟩
   revert hv hcnd; cases c0 <;> cases c1 <;> cases a0 <;> cases a1 <;> cases s0 <;> cases s1 <;> decide
  ·try dsimp only at hcnd
   have ha0 : a0 = true := by revert hcnd; cases a0 <;> simp
   have hz : s0 = false := by revert hcnd; cases s0 <;> simp
   have hc : c0 = true := by revert hcnd; cases c0 <;> simp
   obtain ⟨fk,fd,rfl⟩ := (hm0 hc).func
   obtain ⟨hin,rfl,hlo,hbk⟩ := hx0 ha0
   rw [if_neg (by rw [hz]; decide)] at hbk
   have hce := hbk.cell 0 rfl
   have hfr := hbk.fr 0
   refine wpOp_step (by simp only [List.getElem?_toArray,List.getElem?_cons_zero,List.getElem?_cons_succ]; rfl) (fun K hK => ?_)
   go_simp
   refine hK _ _ ?_
   try simp only [Act.put,Ord.t,Ord.z,Ord.s]
   refine ⟨c0,c1,a0,a1,true,s1,.func (.func fk) #[] fd,u19,.pointer (some ⟨b0,0,none⟩),u7,b0,b1,bs,nvj,mid,top,rfl,rfl,?_,hst.set hin _,hmid,by simp [World.setCell]; exact hmid2,fun h => (hm0 h).set hin _,fun h => (hm1 h).set hin _,fun _ => ⟨hin,rfl,hlo,by rw [if_pos rfl]; exact hbk.set 0 _⟩,fun h => ⟨(hx1 h).1,(hx1 h).2.far ((hd01 ha0 h).symm) _⟩,hd01⟩
   revert hv hcnd; cases c0 <;> cases c1 <;> cases a0 <;> cases a1 <;> cases s0 <;> cases s1 <;> decide
  ·try dsimp only at hcnd
   have ha1 : a1 = true := by revert hcnd; cases a1 <;> simp
   have hz : s1 = false := by revert hcnd; cases s1 <;> simp
   have hc : c1 = true := by revert hcnd; cases c1 <;> simp
   obtain ⟨fk,fd,rfl⟩ := (hm1 hc).func
   obtain ⟨hin,rfl,hlo,hbk⟩ := hx1 ha1
   rw [if_neg (by rw [hz]; decide)] at hbk
   have hce := hbk.cell 0 rfl
   have hfr := hbk.fr 0
   refine wpOp_step (by simp only [List.getElem?_toArray,List.getElem?_cons_zero,List.getElem?_cons_succ]; rfl) (fun K hK => ?_)
   go_simp
   refine hK _ _ ?_
   try simp only [Act.put,Ord.t,Ord.z,Ord.s]
   refine ⟨c0,c1,a0,a1,s0,true,u15,.func (.func fk) #[] fd,u6,.pointer (some ⟨b1,0,none⟩),b0,b1,bs,nvj,mid,top,rfl,rfl,?_,hst.set hin _,hmid,by simp [World.setCell]; exact hmid2,fun h => (hm0 h).set hin _,fun h => (hm1 h).set hin _,fun h => ⟨(hx0 h).1,(hx0 h).2.far (hd01 h ha1) _⟩,fun _ => ⟨hin,rfl,hlo,by rw [if_pos rfl]; exact hbk.set 0 _⟩,hd01⟩
   revert hv hcnd; cases c0 <;> cases c1 <;> cases a0 <;> cases a1 <;> cases s0 <;> cases s1 <;> decide
 ·exact ⟨false,false,false,false,false,false,g 15,g 19,g 6,g 7,0,0,[],nv,w.heap.size,0,by kernel_rfl,rfl,rfl,⟨hM.below HD.out,Fc.of_below HD.out nv,fun b h => (by cases h),hM.lt⟩,Nat.le_refl _,HD.out.size,(fun h => by cases h),(fun h => by cases h),(fun h => by cases h),(fun h => by cases h),(fun h => by cases h)⟩
end Go.Proofs.YtemdnmfldihalaaGreatDoor.Lr
