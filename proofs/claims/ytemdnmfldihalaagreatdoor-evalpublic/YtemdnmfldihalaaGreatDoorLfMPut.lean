/- What a program's parts become: put, made. Written by tools/gen_fmput.py. -/
import Derived.Test.YtemdnmfldihalaaGreatDoorGr14
import Derived.Test.YtemdnmfldihalaaGreatDoorGr13
namespace Go.Proofs.YtemdnmfldihalaaGreatDoor.Lr
set_option maxHeartbeats 32000000
set_option maxRecDepth 100000
set_option linter.unusedVariables false
set_option linter.unusedSimpArgs false
open Go.ChangeShapes Go.WideShapes Go.ChangeAt Go.RowKit Lg
noncomputable def mPutCode : Code := Tryz.f64.body.getD .skip
noncomputable def mPutOps : Array Oper := opsC (fstC (sndC (sndC mPutCode)))
theorem mPut_rdy : ∀ (c0 c1 a0 a1 s0 s1 : Bool),(!((!c1 || c0) && (!s0 || (c1 && a0)) && (!s1 || (s0 && a1))) || (Region.ready .any mPutOps #[true,true,true,c0,true,true,true,c1,a0,a1,s0,s1]).all (fun i => match i with
   | 3 => !c0
   | 7 => c0 && !c1
   | 8 => !a0
   | 9 => !a1
   | 10 => c0 && c1 && a0 && !s0
   | 11 => c0 && c1 && a1 && s0 && !s1
   | _ => false)) = true := by decide +kernel
theorem mPut_end : ∀ (c0 c1 a0 a1 s0 s1 : Bool),(!((!c1 || c0) && (!s0 || (c1 && a0)) && (!s1 || (s0 && a1))) || !(Region.ready .any mPutOps #[true,true,true,c0,true,true,true,c1,a0,a1,s0,s1]).isEmpty || (c0 && c1 && a0 && a1 && s0 && s1)) = true := by decide +kernel
def mPutJ (P0 P1 : World → Nat → Nat → Value → Prop) (M bM bT : Nat) (p : Option Addr) (n c : Nat) (g : Nat → Value) (w : World) (d : Array Bool) (a : Act) (w' : World) : Prop := ∃ (c0 c1 a0 a1 s0 s1 : Bool) (u15 u19 u6 u7 : Value) (b0 b1 : Nat) (bs : List Nat),d = #[true,true,true,c0,true,true,true,c1,a0,a1,s0,s1] ∧ a = ⟨#[.pointer (some ⟨M,0,none⟩),g 1,.pointer (some ⟨bM,0,none⟩),.pointer (some ⟨bT,0,none⟩),g 4,g 5,u6,u7,g 8,g 9,g 10,g 11,.pointer (some ⟨M,0,none⟩),.pointer (some ⟨bT,4,none⟩),.slice p n c,u15,.pointer (some ⟨M,0,none⟩),.pointer (some ⟨bT,4,none⟩),.slice p n c,u19,g 20],[]⟩ ∧ ((!c1 || c0) && (!s0 || (c1 && a0)) && (!s1 || (s0 && a1))) = true ∧ Below w.heap.size w w' ∧ (∀ b ∈ bs,b < w'.heap.size) ∧ (c0 = true → Made P0 w.heap.size w' bs u15) ∧ (c1 = true → Made P1 w.heap.size w' bs u19) ∧ (a0 = true → b0 ∈ bs ∧ Boxed w.heap.size w' 125 b0 u6 (if s0 = true then u15 else .nilFunc)) ∧ (a1 = true → b1 ∈ bs ∧ Boxed w.heap.size w' 125 b1 u7 (if s1 = true then u19 else .nilFunc)) ∧ (a0 = true → a1 = true → b0 ≠ b1)
def mPutP (P0 P1 : World → Nat → Nat → Value → Prop) (M bM bT : Nat) (p : Option Addr) (n c : Nat) (g : Nat → Value) (w : World) (e : Exit) (a' : Act) (w' : World) : Prop := e = .normal ∧ ∃ (u15 u19 : Value) (b0 b1 : Nat),a' = ⟨#[.pointer (some ⟨M,0,none⟩),g 1,.pointer (some ⟨bM,0,none⟩),.pointer (some ⟨bT,0,none⟩),g 4,g 5,.pointer (some ⟨b0,0,none⟩),.pointer (some ⟨b1,0,none⟩),g 8,g 9,g 10,g 11,.pointer (some ⟨M,0,none⟩),.pointer (some ⟨bT,4,none⟩),.slice p n c,u15,.pointer (some ⟨M,0,none⟩),.pointer (some ⟨bT,4,none⟩),.slice p n c,u19,g 20],[]⟩ ∧ Below w.heap.size w w' ∧ Made P0 w.heap.size w' [] u15 ∧ Made P1 w.heap.size w' [] u19 ∧ (w.heap.size ≤ b0 ∧ Bk w' b0 [u15] 125) ∧ (w.heap.size ≤ b1 ∧ Bk w' b1 [u19] 125)
theorem mPut_reg (P0 P1 : World → Nat → Nat → Value → Prop) (M bM bT : Nat) (p : Option Addr) (n c : Nat) (g : Nat → Value) (w : World) (hP0 : Stays P0) (hP1 : Stays P1) (hF0 : ∀ w l h u,P0 w l h u → ∃ k d,u = .func (.func k) #[] d) (hF1 : ∀ w l h u,P1 w l h u → ∃ k d,u = .func (.func k) #[] d) (hS0 : w.cell? ⟨bM,0,none⟩ = some (.pointer (some ⟨M,0,none⟩))) (hS3 : w.cell? ⟨bT,4,none⟩ = some (.slice p n c)) (HC0 : Hid (∀ W,Below w.heap.size w W → Calls Tryz.prog 61 #[.pointer (some ⟨M,0,none⟩),.slice p n c,.int .i64 0] W fun r W' => ∃ v,r = .returned v ∧ Below W.heap.size W W' ∧ P0 W' W.heap.size W'.heap.size v)) (HC1 : Hid (∀ W,Below w.heap.size w W → Calls Tryz.prog 61 #[.pointer (some ⟨M,0,none⟩),.slice p n c,.int .i64 1] W fun r W' => ∃ v,r = .returned v ∧ Below W.heap.size W W' ∧ P1 W' W.heap.size W'.heap.size v)) : (fstC (sndC (sndC mPutCode))).wp Tryz.prog (mPutP P0 P1 M bM bT p n c g w) ⟨#[.pointer (some ⟨M,0,none⟩),g 1,.pointer (some ⟨bM,0,none⟩),.pointer (some ⟨bT,0,none⟩),g 4,g 5,g 6,g 7,g 8,g 9,g 10,g 11,g 12,g 13,g 14,g 15,g 16,g 17,g 18,g 19,g 20],[]⟩ w := by
 conv => arg 2; whnf
 refine wp_region_noPanic ?_
 refine Ord.wpM_begin (fun W' : World => W'.cell? ⟨bM,0,none⟩ = some (.pointer (some ⟨M,0,none⟩)) ∧ W'.cell? ⟨bT,4,none⟩ = some (.slice p n c)) [0,1,2,3,4,5,6,7,8,9,10,11] (by kernel_rfl) ?_
 have HSS : Hid (∀ W' : World,Below w.heap.size w W' → (W'.cell? ⟨bM,0,none⟩ = some (.pointer (some ⟨M,0,none⟩)) ∧ W'.cell? ⟨bT,4,none⟩ = some (.slice p n c))) := fun W' hW => ⟨keep_cell hW hS0,keep_cell hW hS3⟩
 have HD : Hid (Below w.heap.size w w.drew) := Below.drew (Below.refl _ _)
 generalize w.drew = wd at *
 have hS := HSS.out wd HD.out
 refine Ord.tk (i:=0) (v:=.pointer (some ⟨M,0,none⟩)) (hy:=Or.inl ⟨by rfl,by rintro W' ⟨q0,q1⟩; go_simp⟩) (hS:=hS) (h:=?_)
 try simp only [Act.put,Ord.t,Ord.z,Ord.s]
 refine Ord.tk (i:=1) (v:=.pointer (some ⟨bT,4,none⟩)) (hy:=Or.inl ⟨by rfl,by rintro W' ⟨q0,q1⟩; go_simp⟩) (hS:=hS) (h:=?_)
 try simp only [Act.put,Ord.t,Ord.z,Ord.s]
 refine Ord.tk (i:=2) (v:=.slice p n c) (hy:=Or.inl ⟨by rfl,by rintro W' ⟨q0,q1⟩; go_simp⟩) (hS:=hS) (h:=?_)
 try simp only [Act.put,Ord.t,Ord.z,Ord.s]
 refine Ord.tk (i:=4) (v:=.pointer (some ⟨M,0,none⟩)) (hy:=Or.inl ⟨by rfl,by rintro W' ⟨q0,q1⟩; go_simp⟩) (hS:=hS) (h:=?_)
 try simp only [Act.put,Ord.t,Ord.z,Ord.s]
 refine Ord.tk (i:=5) (v:=.pointer (some ⟨bT,4,none⟩)) (hy:=Or.inl ⟨by rfl,by rintro W' ⟨q0,q1⟩; go_simp⟩) (hS:=hS) (h:=?_)
 try simp only [Act.put,Ord.t,Ord.z,Ord.s]
 refine Ord.tk (i:=6) (v:=.slice p n c) (hy:=Or.inl ⟨by rfl,by rintro W' ⟨q0,q1⟩; go_simp⟩) (hS:=hS) (h:=?_)
 try simp only [Act.put,Ord.t,Ord.z,Ord.s]
 refine Ord.wpM_inv (mPutJ P0 P1 M bM bT p n c g w) (fun d a w' h => ?_) (fun d a w' h hr => ?_) (fun d a w' hJ i hi => ?_) _ _ _ _ (of_decide_eq_true (by kernel_rfl)) ?_
 ·obtain ⟨c0,c1,a0,a1,s0,s1,u15,u19,u6,u7,b0,b1,bs,_,_,_,hb,_⟩ := h
  exact HSS.out w' hb
 ·refine NoPanic.normal ?_
  obtain ⟨c0,c1,a0,a1,s0,s1,u15,u19,u6,u7,b0,b1,bs,rfl,rfl,hv,hb,hbs,hm0,hm1,hx0,hx1,hd01⟩ := h
  have he := mPut_end c0 c1 a0 a1 s0 s1
  rw [hv] at he
  have he2 : (Region.ready .any mPutOps #[true,true,true,c0,true,true,true,c1,a0,a1,s0,s1]).isEmpty = true := by rw [show Region.ready .any mPutOps #[true,true,true,c0,true,true,true,c1,a0,a1,s0,s1] = [] from hr]; rfl
  rw [he2] at he
  simp only [Bool.not_true,Bool.false_or,Bool.and_eq_true] at he
  obtain ⟨⟨⟨⟨⟨rfl,rfl⟩,rfl⟩,rfl⟩,rfl⟩,rfl⟩ := he
  skip
  obtain ⟨_,rfl,hlo0,hbk0⟩ := hx0 rfl
  obtain ⟨_,rfl,hlo1,hbk1⟩ := hx1 rfl
  exact ⟨rfl,u15,u19,b0,b1,rfl,hb,nobox (hm0 rfl),nobox (hm1 rfl),⟨hlo0,hbk0⟩,⟨hlo1,hbk1⟩⟩
 ·obtain ⟨c0,c1,a0,a1,s0,s1,u15,u19,u6,u7,b0,b1,bs,rfl,rfl,hv,hb,hbs,hm0,hm1,hx0,hx1,hd01⟩ := hJ
  have hcnd := mPut_rdy c0 c1 a0 a1 s0 s1
  rw [hv,Bool.not_true,Bool.false_or] at hcnd
  have hcnd := List.all_eq_true.1 hcnd i hi
  have hlt : i < 12 := List.mem_range.1 (List.mem_filter.1 hi).1
  rcases (show i = 0 ∨ i = 1 ∨ i = 2 ∨ i = 3 ∨ i = 4 ∨ i = 5 ∨ i = 6 ∨ i = 7 ∨ i = 8 ∨ i = 9 ∨ i = 10 ∨ i = 11 by omega) with rfl | rfl | rfl | rfl | rfl | rfl | rfl | rfl | rfl | rfl | rfl | rfl
  ·cases hcnd
  ·cases hcnd
  ·cases hcnd
  ·try dsimp only at hcnd
   have hz0 : s0 = false := by revert hv hcnd; cases s0 <;> cases c0 <;> simp_all
   refine wpOp_step (by simp only [List.getElem?_toArray,List.getElem?_cons_zero,List.getElem?_cons_succ]; rfl) (fun K hK => ?_)
   go_simp
   refine (HC0.out w' hb).mono ?_
   rintro r w2 ⟨v,rfl,hb2,hp2⟩
   go_simp
   refine hK _ _ ?_
   try simp only [Act.put,Ord.t,Ord.z,Ord.s]
   refine ⟨true,c1,a0,a1,s0,s1,v,u19,u6,u7,b0,b1,bs,rfl,rfl,?_,hb.trans (hb2.mono hb.size),fun b h => Nat.lt_of_lt_of_le (hbs b h) hb2.size,fun _ => ⟨w'.heap.size,w2.heap.size,hb.size,hb2.size,Nat.le_refl _,hp2,fun b h => .inl (hbs b h)⟩,fun h => (hm1 h).below hP1 hb2,fun h => ⟨(hx0 h).1,by have hq := (hx0 h).2.below hb2; rw [if_neg (by rw [hz0]; decide)] at hq ⊢; exact hq⟩,fun h => ⟨(hx1 h).1,(hx1 h).2.below hb2⟩,hd01⟩
   revert hv hcnd; cases c0 <;> cases c1 <;> cases a0 <;> cases a1 <;> cases s0 <;> cases s1 <;> decide
  ·cases hcnd
  ·cases hcnd
  ·cases hcnd
  ·try dsimp only at hcnd
   have hz1 : s1 = false := by revert hv hcnd; cases s1 <;> cases c1 <;> simp_all
   refine wpOp_step (by simp only [List.getElem?_toArray,List.getElem?_cons_zero,List.getElem?_cons_succ]; rfl) (fun K hK => ?_)
   go_simp
   refine (HC1.out w' hb).mono ?_
   rintro r w2 ⟨v,rfl,hb2,hp2⟩
   go_simp
   refine hK _ _ ?_
   try simp only [Act.put,Ord.t,Ord.z,Ord.s]
   refine ⟨c0,true,a0,a1,s0,s1,u15,v,u6,u7,b0,b1,bs,rfl,rfl,?_,hb.trans (hb2.mono hb.size),fun b h => Nat.lt_of_lt_of_le (hbs b h) hb2.size,fun h => (hm0 h).below hP0 hb2,fun _ => ⟨w'.heap.size,w2.heap.size,hb.size,hb2.size,Nat.le_refl _,hp2,fun b h => .inl (hbs b h)⟩,fun h => ⟨(hx0 h).1,(hx0 h).2.below hb2⟩,fun h => ⟨(hx1 h).1,by have hq := (hx1 h).2.below hb2; rw [if_neg (by rw [hz1]; decide)] at hq ⊢; exact hq⟩,hd01⟩
   revert hv hcnd; cases c0 <;> cases c1 <;> cases a0 <;> cases a1 <;> cases s0 <;> cases s1 <;> decide
  ·try dsimp only at hcnd
   refine wpOp_step (by simp only [List.getElem?_toArray,List.getElem?_cons_zero,List.getElem?_cons_succ]; rfl) (fun K hK => ?_)
   go_simp
   refine hK _ _ ?_
   try simp only [Act.put,Ord.t,Ord.z,Ord.s]
   have hb2 : Below w'.heap.size w' (w'.alloc (.cells #[.nilFunc] 125)) := (Below.refl _ _).alloc (Nat.le_refl _) _
   have hz : s0 = false := by revert hv hcnd; cases s0 <;> cases a0 <;> simp_all
   refine ⟨c0,c1,true,a1,s0,s1,u15,u19,.pointer (some ⟨w'.heap.size,0,none⟩),u7,w'.heap.size,b1,(w'.heap.size :: bs),rfl,rfl,?_,hb.trans (hb2.mono hb.size),fun c h => by rcases List.mem_cons.1 h with rfl | h; exact (by simp); exact Nat.lt_of_lt_of_le (hbs c h) hb2.size,fun h => ((hm0 h).more (Nat.le_refl _)).below hP0 hb2,fun h => ((hm1 h).more (Nat.le_refl _)).below hP1 hb2,fun _ => ⟨by simp,rfl,hb.size,by rw [if_neg (by rw [hz]; decide)]; exact Bk.new _ _ _⟩,fun h => ⟨by simp [(hx1 h).1],(hx1 h).2.below hb2⟩,fun _ h => by have := hbs _ (hx1 h).1; omega⟩
   revert hv hcnd; cases c0 <;> cases c1 <;> cases a0 <;> cases a1 <;> cases s0 <;> cases s1 <;> decide
  ·try dsimp only at hcnd
   refine wpOp_step (by simp only [List.getElem?_toArray,List.getElem?_cons_zero,List.getElem?_cons_succ]; rfl) (fun K hK => ?_)
   go_simp
   refine hK _ _ ?_
   try simp only [Act.put,Ord.t,Ord.z,Ord.s]
   have hb2 : Below w'.heap.size w' (w'.alloc (.cells #[.nilFunc] 125)) := (Below.refl _ _).alloc (Nat.le_refl _) _
   have hz : s1 = false := by revert hv hcnd; cases s1 <;> cases a1 <;> simp_all
   refine ⟨c0,c1,a0,true,s0,s1,u15,u19,u6,.pointer (some ⟨w'.heap.size,0,none⟩),b0,w'.heap.size,(w'.heap.size :: bs),rfl,rfl,?_,hb.trans (hb2.mono hb.size),fun c h => by rcases List.mem_cons.1 h with rfl | h; exact (by simp); exact Nat.lt_of_lt_of_le (hbs c h) hb2.size,fun h => ((hm0 h).more (Nat.le_refl _)).below hP0 hb2,fun h => ((hm1 h).more (Nat.le_refl _)).below hP1 hb2,fun h => ⟨by simp [(hx0 h).1],(hx0 h).2.below hb2⟩,fun _ => ⟨by simp,rfl,hb.size,by rw [if_neg (by rw [hz]; decide)]; exact Bk.new _ _ _⟩,fun h _ => by have := hbs _ (hx0 h).1; omega⟩
   revert hv hcnd; cases c0 <;> cases c1 <;> cases a0 <;> cases a1 <;> cases s0 <;> cases s1 <;> decide
  ·try dsimp only at hcnd
   have ha0 : a0 = true := by revert hcnd; cases a0 <;> simp
   have hz : s0 = false := by revert hcnd; cases s0 <;> simp
   have hc : c0 = true := by revert hcnd; cases c0 <;> simp
   obtain ⟨l,h,hl1,hl2,hl3,hp,hl4⟩ := hm0 hc
   obtain ⟨fk,fd,rfl⟩ := hF0 _ _ _ _ hp
   have hm0 := fun (_ : c0 = true) => (⟨l,h,hl1,hl2,hl3,hp,hl4⟩ : Made P0 w.heap.size w' bs (.func (.func fk) #[] fd))
   obtain ⟨hin,rfl,hlo,hbk⟩ := hx0 ha0
   rw [if_neg (by rw [hz]; decide)] at hbk
   have hce := hbk.cell 0 rfl
   have hfr := hbk.fr 0
   refine wpOp_step (by simp only [List.getElem?_toArray,List.getElem?_cons_zero,List.getElem?_cons_succ]; rfl) (fun K hK => ?_)
   go_simp
   refine hK _ _ ?_
   try simp only [Act.put,Ord.t,Ord.z,Ord.s]
   refine ⟨c0,c1,a0,a1,true,s1,.func (.func fk) #[] fd,u19,.pointer (some ⟨b0,0,none⟩),u7,b0,b1,bs,rfl,rfl,?_,(hb.setCell hlo _),fun c h => by simp [World.setCell]; exact hbs c h,fun h => Made.set hP0 (hm0 h) hin _,fun h => Made.set hP1 (hm1 h) hin _,fun _ => ⟨hin,rfl,hlo,by rw [if_pos rfl]; exact hbk.set 0 _⟩,fun h => ⟨(hx1 h).1,(hx1 h).2.far ((hd01 ha0 h).symm) _⟩,hd01⟩
   revert hv hcnd; cases c0 <;> cases c1 <;> cases a0 <;> cases a1 <;> cases s0 <;> cases s1 <;> decide
  ·try dsimp only at hcnd
   have ha1 : a1 = true := by revert hcnd; cases a1 <;> simp
   have hz : s1 = false := by revert hcnd; cases s1 <;> simp
   have hc : c1 = true := by revert hcnd; cases c1 <;> simp
   obtain ⟨l,h,hl1,hl2,hl3,hp,hl4⟩ := hm1 hc
   obtain ⟨fk,fd,rfl⟩ := hF1 _ _ _ _ hp
   have hm1 := fun (_ : c1 = true) => (⟨l,h,hl1,hl2,hl3,hp,hl4⟩ : Made P1 w.heap.size w' bs (.func (.func fk) #[] fd))
   obtain ⟨hin,rfl,hlo,hbk⟩ := hx1 ha1
   rw [if_neg (by rw [hz]; decide)] at hbk
   have hce := hbk.cell 0 rfl
   have hfr := hbk.fr 0
   refine wpOp_step (by simp only [List.getElem?_toArray,List.getElem?_cons_zero,List.getElem?_cons_succ]; rfl) (fun K hK => ?_)
   go_simp
   refine hK _ _ ?_
   try simp only [Act.put,Ord.t,Ord.z,Ord.s]
   refine ⟨c0,c1,a0,a1,s0,true,u15,.func (.func fk) #[] fd,u6,.pointer (some ⟨b1,0,none⟩),b0,b1,bs,rfl,rfl,?_,(hb.setCell hlo _),fun c h => by simp [World.setCell]; exact hbs c h,fun h => Made.set hP0 (hm0 h) hin _,fun h => Made.set hP1 (hm1 h) hin _,fun h => ⟨(hx0 h).1,(hx0 h).2.far (hd01 h ha1) _⟩,fun _ => ⟨hin,rfl,hlo,by rw [if_pos rfl]; exact hbk.set 0 _⟩,hd01⟩
   revert hv hcnd; cases c0 <;> cases c1 <;> cases a0 <;> cases a1 <;> cases s0 <;> cases s1 <;> decide
 ·refine ⟨false,false,false,false,false,false,g 15,g 19,g 6,g 7,0,0,[],by kernel_rfl,rfl,rfl,HD.out,fun b h => (by cases h),(fun h => by cases h),(fun h => by cases h),(fun h => by cases h),(fun h => by cases h),(fun h => by cases h)⟩
def MdA (t : Rt) (sc : List (List UInt8 × Nat)) (rs : List Vr) (C : Mm → Prop) (f : Mm → Rs) (w : World) (r : Ending) (w' : World) : Prop := ∃ v,r = .returned v ∧ Below w.heap.size w w' ∧ GoodA t sc sc rs w' w.heap.size w'.heap.size [] [] v C f
theorem put_make (m : Nat) (ih : MakeE m) (K B : Nat) (t : Rt) (rs : List Vr) (A : Value) (sc : List (List UInt8 × Nat)) (nv : Value) (ns : List Nm) (tk tn : Int) (x : List UInt8) (tsec : Bool) (C : Mm → Prop) (hCx : ∀ mm,C mm → ∃ ix,atV rs x = some ix) (ep ev : Ex) (s1 s2 s3 : Value) (w : World) (hK : m ≤ K) (hM : Mkd w t B rs A sc nv ns) (hSep : Sep t sc) (hi : ExIs w B (K + 1) (ar [ep,ev]) s1) (hs2 : ∃ p n c,s2 = .slice p n c) (hs3 : ∃ p n c,s3 = .slice p n c) (hwf : ∀ a ∈ [ep,ev],wfE m a) :
  Calls Tryz.prog 64 #[.pointer (some ⟨t.M,0,none⟩),.agg #[.int .i64 tk,.int .i64 tn,.string ⟨x.toArray⟩,.bool tsec,s1,s2,s3]] w fun r w' => MdA t sc rs C (fun mm => putR rs x (evE rs mm.env mm.arr m ep) (evE rs mm.env mm.arr m ev) mm) w r w' := by
 obtain ⟨p,n,c,rfl⟩ := ex_slice hi
 obtain ⟨p2,n2,c2,rfl⟩ := hs2
 obtain ⟨p3,n3,c3,rfl⟩ := hs3
 obtain ⟨w1,hw1⟩ : ∃ y,(w.alloc (.cells #[.pointer (some ⟨t.M,0,none⟩)] 100)).alloc (.cells #[.int .i64 tk,.int .i64 tn,.string ⟨x.toArray⟩,.bool tsec,.slice p n c,.slice p2 n2 c2,.slice p3 n3 c3] 89) = y := ⟨_,rfl⟩
 have hb1 : Below w.heap.size w w1 := by rw [← hw1]; exact ((Below.refl _ _).alloc (Nat.le_refl _) _).alloc (by simp) _
 have hbM : Bk w1 w.heap.size [.pointer (some ⟨t.M,0,none⟩)] 100 := by rw [← hw1]; exact (Bk.new _ _ _).up _
 have hbE : Bk w1 (w.heap.size + 1) [.int .i64 tk,.int .i64 tn,.string ⟨x.toArray⟩,.bool tsec,.slice p n c,.slice p2 n2 c2,.slice p3 n3 c3] 89 := by
  have h := Bk.new (w.alloc (.cells #[.pointer (some ⟨t.M,0,none⟩)] 100)) [.int .i64 tk,.int .i64 tn,.string ⟨x.toArray⟩,.bool tsec,.slice p n c,.slice p2 n2 c2,.slice p3 n3 c3] 89
  rw [show (w.alloc (.cells #[.pointer (some ⟨t.M,0,none⟩)] 100)).heap.size = w.heap.size + 1 by simp] at h
  rw [← hw1]; exact h
 have hn : n ≤ 1000 := by have := (ex_args hi).1; dsimp [ar] at this; omega
 obtain ⟨ix,hIx,hix⟩ := idx_ex rs x
 have HCA : Hid (Calls Tryz.prog 80 #[.pointer (some ⟨t.M,0,none⟩),.string ⟨x.toArray⟩] w1 fun r W' => r = .returned (.int .i64 ix) ∧ Below w1.heap.size w1 W') := by
  refine (array_any t B rs A sc nv x w1 (hM.below hb1).mkr).mono ?_
  rintro r W' ⟨i,rfl,hi,hb⟩
  exact ⟨by rw [hix i hi],hb⟩
 have HP := keep (fun w3 (hb : Below w.heap.size w w3) => And.intro (part_call m ih hK hM hi hn hwf hb 0 ep rfl) (part_call m ih hK hM hi hn hwf hb 1 ev rfl))
 have HW1 := keep hw1
 have HB1 := keep hb1
 have HbM := keep hbM
 have HbE := keep hbE
 have HM := keep hM
 have HS := keep hSep
 have hwf0 := hwf ep (by simp)
 have x0 := hbM.cell 0 rfl
 have x2 := hbE.cell 2 rfl
 clear hw1 hb1 hbE hbM hi hM hwf ih hSep hix
 go_enter Tryz.func64,Tryz.ntmps64
 show (Code.seq (fstC mPutCode) (Code.seq (fstC (sndC mPutCode)) (Code.seq (fstC (sndC (sndC mPutCode))) (sndC (sndC (sndC mPutCode)))))).wp Tryz.prog _ _ w
 refine wp_seq (wp_mono (Q:=fun e a' w' => Hid (e = .normal ∧ a' = ⟨#[.pointer (some ⟨t.M,0,none⟩),.agg #[.int .i64 tk,.int .i64 tn,.string ⟨x.toArray⟩,.bool tsec,.slice p n c,.slice p2 n2 c2,.slice p3 n3 c3],.pointer (some ⟨w.heap.size,0,none⟩),.pointer (some ⟨w.heap.size + 1,0,none⟩),.nilFunc,undef,undef,undef,undef,undef,undef,undef,undef,undef,undef,undef,undef,undef,undef,undef,undef],[]⟩ ∧ w' = w1)) ?_ ?_)
 ·conv => arg 2; whnf
  go_wp2_with (first | rw [HW1.out])
  first | trivial | exact ⟨rfl,rfl,rfl⟩
 intro e a1 w1' h1
 obtain ⟨rfl,rfl,rfl⟩ := h1.out
 refine wp_seq (wp_mono (Q:=fun e a' w' => Hid (e = .normal ∧ ∃ w2,Below w1'.heap.size w1' w2 ∧ a' = ⟨#[.pointer (some ⟨t.M,0,none⟩),.agg #[.int .i64 tk,.int .i64 tn,.string ⟨x.toArray⟩,.bool tsec,.slice p n c,.slice p2 n2 c2,.slice p3 n3 c3],.pointer (some ⟨w.heap.size,0,none⟩),.pointer (some ⟨w.heap.size + 1,0,none⟩),.nilFunc,.pointer (some ⟨w2.heap.size,0,none⟩),undef,undef,.pointer (some ⟨t.M,0,none⟩),.pointer (some ⟨w.heap.size + 1,2,none⟩),.string ⟨x.toArray⟩,.int .i64 ix,undef,undef,undef,undef,undef,undef,undef,undef,undef],[]⟩ ∧ w' = w2.alloc (.cells #[.int .i64 ix] 3))) ?_ ?_)
 ·conv => arg 2; whnf
  go_wp2_with fail
  refine HCA.out.mono ?_
  rintro r w2 ⟨rfl,hb2⟩
  have HB2 := keep hb2
  clear hb2
  go_wp2
  first | exact ⟨rfl,w2,HB2.out,rfl,rfl⟩ | exact ⟨w2,HB2.out,rfl,rfl⟩ | exact ⟨w2,HB2.out,rfl⟩
 intro e a1 w3 h1
 obtain ⟨rfl,w2,hb2,rfl,hw3⟩ := h1.out
 have hb3 : Below w2.heap.size w2 w3 := by rw [hw3]; exact (Below.refl _ _).alloc (Nat.le_refl _) _
 have hk5 : Bk w3 w2.heap.size [.int .i64 ix] 3 := by rw [hw3]; exact Bk.new _ _ _
 have hb23 := hb2.trans (hb3.mono hb2.size)
 have hb03 := HB1.out.trans (hb23.mono HB1.out.size)
 have hM3 := HbM.out.fs (Fs.of_below (l:=[]) hb23) (by simp)
 have hE3 := HbE.out.fs (Fs.of_below (l:=[]) hb23) (by simp)
 obtain ⟨q0,q1⟩ := HP.out w3 hb03
 refine wp_seq (wp_mono (mPut_reg (fun w l h u => GoodE t sc rs m w l h u ep) (fun w l h u => GoodE t sc rs m w l h u ev) t.M w.heap.size (w.heap.size + 1) p n c (fun i => match i with | 1 => .agg #[.int .i64 tk,.int .i64 tn,.string ⟨x.toArray⟩,.bool tsec,.slice p n c,.slice p2 n2 c2,.slice p3 n3 c3] | 4 => .nilFunc | 5 => .pointer (some ⟨w2.heap.size,0,none⟩) | 8 => .pointer (some ⟨t.M,0,none⟩) | 9 => .pointer (some ⟨w.heap.size + 1,2,none⟩) | 10 => .string ⟨x.toArray⟩ | 11 => .int .i64 ix | _ => undef) w3 goodE_stays goodE_stays goodE_func goodE_func (hM3.cell 0 rfl) (hE3.cell 4 rfl) q0 q1) ?_)
 rintro e a2 w4 ⟨rfl,u15,u19,b0,b1,rfl,hb4,hm0,hm1,⟨hl0,hk0⟩,⟨hl1,hk1⟩⟩
 have hM4 := hM3.fs (Fs.of_below (l:=[]) hb4) (by simp)
 have hI4 := hk5.fs (Fs.of_below (l:=[]) hb4) (by simp)
 have hsz := hb03.size
 have hs2 := HB1.out.size
 have hs3 := hb2.size
 have HE : Hid (MdA t sc rs C (fun mm => putR rs x (evE rs mm.env mm.arr m ep) (evE rs mm.env mm.arr m ev) mm) w (.returned (.func (.func 81) #[] #[.pointer (some ⟨b0,0,none⟩),.pointer (some ⟨b1,0,none⟩),.pointer (some ⟨w.heap.size,0,none⟩),.pointer (some ⟨w2.heap.size,0,none⟩)])) w4) := by
  refine ⟨_,rfl,hb03.trans (hb4.mono hsz),by simp,_,_,⟨rfl,enters_of Tryz.func81 (by kernel_rfl) rfl⟩,?_⟩
  intro W hW hs mm hR hE hG hcc
  obtain ⟨jx,hjx⟩ := hCx mm hcc
  have hje : ix = (jx : Int) := by
   rcases hIx with ⟨i,h1,h2⟩ | ⟨_,h2⟩
   ·rw [hjx] at h2; injection h2 with h2; rw [h1,h2]
   ·rw [hjx] at h2; cases h2
  exact put_val t sc rs HM.out.few HM.out.small m x jx hjx ep ev hwf0 b0 b1 w.heap.size w2.heap.size w.heap.size w4.heap.size u15 u19 w4 HS.out HM.out.run ⟨by omega,hk0.lt⟩ ⟨by omega,hk1.lt⟩ ⟨by omega,hM4.lt⟩ ⟨by omega,hI4.lt⟩ (hk0.cell 0 rfl) (hk1.cell 0 rfl) (hM4.cell 0 rfl) (by rw [← hje]; exact hI4.cell 0 rfl) (goodE_made hm0 hsz) (goodE_made hm1 hsz) W (fun i h1 h2 => hW.1 i h1 h2 (by simp) (by simp)) hs mm hR hE hG
 clear hb4 hm0 hm1 hk0 hk1 HM HP hM4 hI4 hM3 hE3 q0 q1 hb2 hb3 hb23 hb03 hk5 hw3
 show (sndC (sndC (sndC mPutCode))).wp Tryz.prog _ _ w4
 conv => arg 2; whnf
 go_wp2
 go_ret
 exact HE.out
end Go.Proofs.YtemdnmfldihalaaGreatDoor.Lr
