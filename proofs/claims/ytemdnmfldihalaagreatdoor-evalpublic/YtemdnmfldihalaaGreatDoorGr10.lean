/- Laid together: LfMAt, LfMake. -/
import Derived.Test.YtemdnmfldihalaaGreatDoorGr9
import Derived.Test.YtemdnmfldihalaaGreatDoorGr8
import Derived.Shelf.Abstract
namespace Go.Proofs.YtemdnmfldihalaaGreatDoor.Lr
set_option maxHeartbeats 32000000
set_option maxRecDepth 100000
set_option linter.unusedVariables false
set_option linter.unusedSimpArgs false
open Go.ChangeShapes Go.WideShapes Go.ChangeAt Go.RowKit Lg
noncomputable def mAtCode : Code := Tryz.f98.body.getD .skip
noncomputable def mAtOps : Array Oper := opsC (fstC (sndC mAtCode))
theorem mAt_rdy : ∀ (c0 c1 a0 a1 s0 s1 : Bool),(!((!c1 || c0) && (!s0 || (c1 && a0)) && (!s1 || (s0 && a1))) || (Region.ready .any mAtOps #[true,true,true,c0,true,true,true,c1,a0,a1,s0,s1]).all (fun i => match i with
   | 3 => !c0
   | 7 => c0 && !c1
   | 8 => !a0
   | 9 => !a1
   | 10 => c0 && c1 && a0 && !s0
   | 11 => c0 && c1 && a1 && s0 && !s1
   | _ => false)) = true := by decide +kernel
theorem mAt_end : ∀ (c0 c1 a0 a1 s0 s1 : Bool),(!((!c1 || c0) && (!s0 || (c1 && a0)) && (!s1 || (s0 && a1))) || !(Region.ready .any mAtOps #[true,true,true,c0,true,true,true,c1,a0,a1,s0,s1]).isEmpty || (c0 && c1 && a0 && a1 && s0 && s1)) = true := by decide +kernel
def mAtJ (P0 P1 : World → Nat → Nat → Value → Prop) (M bM bE : Nat) (x : List UInt8) (p : Option Addr) (n c : Nat) (g : Nat → Value) (w : World) (d : Array Bool) (a : Act) (w' : World) : Prop := ∃ (c0 c1 a0 a1 s0 s1 : Bool) (u10 u14 u5 u6 : Value) (b0 b1 : Nat) (bs : List Nat),d = #[true,true,true,c0,true,true,true,c1,a0,a1,s0,s1] ∧ a = ⟨#[.pointer (some ⟨M,0,none⟩),g 1,.pointer (some ⟨bM,0,none⟩),.pointer (some ⟨bE,0,none⟩),g 4,u5,u6,.pointer (some ⟨M,0,none⟩),.pointer (some ⟨bE,2,none⟩),.string ⟨x.toArray⟩,u10,.pointer (some ⟨M,0,none⟩),.pointer (some ⟨bE,3,none⟩),.slice p n c,u14,g 15],[]⟩ ∧ ((!c1 || c0) && (!s0 || (c1 && a0)) && (!s1 || (s0 && a1))) = true ∧ Below w.heap.size w w' ∧ (∀ b ∈ bs,b < w'.heap.size) ∧ (c0 = true → Made P0 w.heap.size w' bs u10) ∧ (c1 = true → Made P1 w.heap.size w' bs u14) ∧ (a0 = true → b0 ∈ bs ∧ Boxed w.heap.size w' 3 b0 u5 (if s0 = true then u10 else .int .i64 0)) ∧ (a1 = true → b1 ∈ bs ∧ Boxed w.heap.size w' 125 b1 u6 (if s1 = true then u14 else .nilFunc)) ∧ (a0 = true → a1 = true → b0 ≠ b1)
def mAtP (P0 P1 : World → Nat → Nat → Value → Prop) (M bM bE : Nat) (x : List UInt8) (p : Option Addr) (n c : Nat) (g : Nat → Value) (w : World) (e : Exit) (a' : Act) (w' : World) : Prop := e = .normal ∧ ∃ (u10 u14 : Value) (b0 b1 : Nat),a' = ⟨#[.pointer (some ⟨M,0,none⟩),g 1,.pointer (some ⟨bM,0,none⟩),.pointer (some ⟨bE,0,none⟩),g 4,.pointer (some ⟨b0,0,none⟩),.pointer (some ⟨b1,0,none⟩),.pointer (some ⟨M,0,none⟩),.pointer (some ⟨bE,2,none⟩),.string ⟨x.toArray⟩,u10,.pointer (some ⟨M,0,none⟩),.pointer (some ⟨bE,3,none⟩),.slice p n c,u14,g 15],[]⟩ ∧ Below w.heap.size w w' ∧ Made P0 w.heap.size w' [] u10 ∧ Made P1 w.heap.size w' [] u14 ∧ (w.heap.size ≤ b0 ∧ Bk w' b0 [u10] 3) ∧ (w.heap.size ≤ b1 ∧ Bk w' b1 [u14] 125)
theorem mAt_reg (P0 P1 : World → Nat → Nat → Value → Prop) (M bM bE : Nat) (x : List UInt8) (p : Option Addr) (n c : Nat) (g : Nat → Value) (w : World) (hP0 : Stays P0) (hP1 : Stays P1) (hF0 : ∀ w l h u,P0 w l h u → ∃ k,u = .int .i64 k) (hF1 : ∀ w l h u,P1 w l h u → ∃ k d,u = .func (.func k) #[] d) (hS0 : w.cell? ⟨bM,0,none⟩ = some (.pointer (some ⟨M,0,none⟩))) (hS2 : w.cell? ⟨bE,2,none⟩ = some (.string ⟨x.toArray⟩)) (hS3 : w.cell? ⟨bE,3,none⟩ = some (.slice p n c)) (HC0 : Hid (∀ W,Below w.heap.size w W → Calls Tryz.prog 80 #[.pointer (some ⟨M,0,none⟩),.string ⟨x.toArray⟩] W fun r W' => ∃ v,r = .returned v ∧ Below W.heap.size W W' ∧ P0 W' W.heap.size W'.heap.size v)) (HC1 : Hid (∀ W,Below w.heap.size w W → Calls Tryz.prog 61 #[.pointer (some ⟨M,0,none⟩),.slice p n c,.int .i64 0] W fun r W' => ∃ v,r = .returned v ∧ Below W.heap.size W W' ∧ P1 W' W.heap.size W'.heap.size v)) : (fstC (sndC mAtCode)).wp Tryz.prog (mAtP P0 P1 M bM bE x p n c g w) ⟨#[.pointer (some ⟨M,0,none⟩),g 1,.pointer (some ⟨bM,0,none⟩),.pointer (some ⟨bE,0,none⟩),g 4,g 5,g 6,g 7,g 8,g 9,g 10,g 11,g 12,g 13,g 14,g 15],[]⟩ w := by
 conv => arg 2; whnf
 refine wp_region_noPanic ?_
 refine Ord.wpM_begin (fun W' : World => W'.cell? ⟨bM,0,none⟩ = some (.pointer (some ⟨M,0,none⟩)) ∧ W'.cell? ⟨bE,2,none⟩ = some (.string ⟨x.toArray⟩) ∧ W'.cell? ⟨bE,3,none⟩ = some (.slice p n c)) [0,1,2,3,4,5,6,7,8,9,10,11] (by kernel_rfl) ?_
 have HSS : Hid (∀ W' : World,Below w.heap.size w W' → (W'.cell? ⟨bM,0,none⟩ = some (.pointer (some ⟨M,0,none⟩)) ∧ W'.cell? ⟨bE,2,none⟩ = some (.string ⟨x.toArray⟩) ∧ W'.cell? ⟨bE,3,none⟩ = some (.slice p n c))) := fun W' hW => ⟨keep_cell hW hS0,keep_cell hW hS2,keep_cell hW hS3⟩
 have HD : Hid (Below w.heap.size w w.drew) := Below.drew (Below.refl _ _)
 generalize w.drew = wd at *
 have hS := HSS.out wd HD.out
 refine Ord.tk (i:=0) (v:=.pointer (some ⟨M,0,none⟩)) (hy:=Or.inl ⟨by rfl,by rintro W' ⟨q0,q1,q2⟩; go_simp⟩) (hS:=hS) (h:=?_)
 try simp only [Act.put,Ord.t,Ord.z,Ord.s]
 refine Ord.tk (i:=1) (v:=.pointer (some ⟨bE,2,none⟩)) (hy:=Or.inl ⟨by rfl,by rintro W' ⟨q0,q1,q2⟩; go_simp⟩) (hS:=hS) (h:=?_)
 try simp only [Act.put,Ord.t,Ord.z,Ord.s]
 refine Ord.tk (i:=2) (v:=.string ⟨x.toArray⟩) (hy:=Or.inl ⟨by rfl,by rintro W' ⟨q0,q1,q2⟩; go_simp⟩) (hS:=hS) (h:=?_)
 try simp only [Act.put,Ord.t,Ord.z,Ord.s]
 refine Ord.tk (i:=4) (v:=.pointer (some ⟨M,0,none⟩)) (hy:=Or.inl ⟨by rfl,by rintro W' ⟨q0,q1,q2⟩; go_simp⟩) (hS:=hS) (h:=?_)
 try simp only [Act.put,Ord.t,Ord.z,Ord.s]
 refine Ord.tk (i:=5) (v:=.pointer (some ⟨bE,3,none⟩)) (hy:=Or.inl ⟨by rfl,by rintro W' ⟨q0,q1,q2⟩; go_simp⟩) (hS:=hS) (h:=?_)
 try simp only [Act.put,Ord.t,Ord.z,Ord.s]
 refine Ord.tk (i:=6) (v:=.slice p n c) (hy:=Or.inl ⟨by rfl,by rintro W' ⟨q0,q1,q2⟩; go_simp⟩) (hS:=hS) (h:=?_)
 try simp only [Act.put,Ord.t,Ord.z,Ord.s]
 refine Ord.wpM_inv (mAtJ P0 P1 M bM bE x p n c g w) (fun d a w' h => ?_) (fun d a w' h hr => ?_) (fun d a w' hJ i hi => ?_) _ _ _ _ (of_decide_eq_true (by kernel_rfl)) ?_
 ·obtain ⟨c0,c1,a0,a1,s0,s1,u10,u14,u5,u6,b0,b1,bs,_,_,_,hb,_⟩ := h
  exact HSS.out w' hb
 ·refine NoPanic.normal ?_
  obtain ⟨c0,c1,a0,a1,s0,s1,u10,u14,u5,u6,b0,b1,bs,rfl,rfl,hv,hb,hbs,hm0,hm1,hx0,hx1,hd01⟩ := h
  have he := mAt_end c0 c1 a0 a1 s0 s1
  rw [hv] at he
  have he2 : (Region.ready .any mAtOps #[true,true,true,c0,true,true,true,c1,a0,a1,s0,s1]).isEmpty = true := by rw [show Region.ready .any mAtOps #[true,true,true,c0,true,true,true,c1,a0,a1,s0,s1] = [] from hr]; rfl
  rw [he2] at he
  simp only [Bool.not_true,Bool.false_or,Bool.and_eq_true] at he
  obtain ⟨⟨⟨⟨⟨rfl,rfl⟩,rfl⟩,rfl⟩,rfl⟩,rfl⟩ := he
  skip
  obtain ⟨_,rfl,hlo0,hbk0⟩ := hx0 rfl
  obtain ⟨_,rfl,hlo1,hbk1⟩ := hx1 rfl
  exact ⟨rfl,u10,u14,b0,b1,rfl,hb,nobox (hm0 rfl),nobox (hm1 rfl),⟨hlo0,hbk0⟩,⟨hlo1,hbk1⟩⟩
 ·obtain ⟨c0,c1,a0,a1,s0,s1,u10,u14,u5,u6,b0,b1,bs,rfl,rfl,hv,hb,hbs,hm0,hm1,hx0,hx1,hd01⟩ := hJ
  have hcnd := mAt_rdy c0 c1 a0 a1 s0 s1
  rw [hv,Bool.not_true,Bool.false_or] at hcnd
  have hcnd := List.all_eq_true.1 hcnd i hi
  have hlt : i < 12 := List.mem_range.1 (List.mem_filter.1 hi).1
  rcases (show i = 0 ∨ i = 1 ∨ i = 2 ∨ i = 3 ∨ i = 4 ∨ i = 5 ∨ i = 6 ∨ i = 7 ∨ i = 8 ∨ i = 9 ∨ i = 10 ∨ i = 11 by omega) with rfl | rfl | rfl | rfl | rfl | rfl | rfl | rfl | rfl | rfl | rfl | rfl
  ·cases hcnd
  ·cases hcnd
  ·cases hcnd
  ·try dsimp only at hcnd
   have hz0 : s0 = false := by revert hv hcnd; cases s0 <;> cases c0 <;> simp_all
   refine wpOp_step (by simp only [List.getElem?_toArray,List.getElem?_cons_zero,List.getElem?_cons_succ]; rfl) (fun K hK => ?_)
   go_simp
   refine (HC0.out w' hb).mono ?_
   rintro r w2 ⟨v,rfl,hb2,hp2⟩
   go_simp
   refine hK _ _ ?_
   try simp only [Act.put,Ord.t,Ord.z,Ord.s]
   refine ⟨true,c1,a0,a1,s0,s1,v,u14,u5,u6,b0,b1,bs,rfl,rfl,?_,hb.trans (hb2.mono hb.size),fun b h => Nat.lt_of_lt_of_le (hbs b h) hb2.size,fun _ => ⟨w'.heap.size,w2.heap.size,hb.size,hb2.size,Nat.le_refl _,hp2,fun b h => .inl (hbs b h)⟩,fun h => (hm1 h).below hP1 hb2,fun h => ⟨(hx0 h).1,by have hq := (hx0 h).2.below hb2; rw [if_neg (by rw [hz0]; decide)] at hq ⊢; exact hq⟩,fun h => ⟨(hx1 h).1,(hx1 h).2.below hb2⟩,hd01⟩
   revert hv hcnd; cases c0 <;> cases c1 <;> cases a0 <;> cases a1 <;> cases s0 <;> cases s1 <;> decide
  ·cases hcnd
  ·cases hcnd
  ·cases hcnd
  ·try dsimp only at hcnd
   have hz1 : s1 = false := by revert hv hcnd; cases s1 <;> cases c1 <;> simp_all
   refine wpOp_step (by simp only [List.getElem?_toArray,List.getElem?_cons_zero,List.getElem?_cons_succ]; rfl) (fun K hK => ?_)
   go_simp
   refine (HC1.out w' hb).mono ?_
   rintro r w2 ⟨v,rfl,hb2,hp2⟩
   go_simp
   refine hK _ _ ?_
   try simp only [Act.put,Ord.t,Ord.z,Ord.s]
   refine ⟨c0,true,a0,a1,s0,s1,u10,v,u5,u6,b0,b1,bs,rfl,rfl,?_,hb.trans (hb2.mono hb.size),fun b h => Nat.lt_of_lt_of_le (hbs b h) hb2.size,fun h => (hm0 h).below hP0 hb2,fun _ => ⟨w'.heap.size,w2.heap.size,hb.size,hb2.size,Nat.le_refl _,hp2,fun b h => .inl (hbs b h)⟩,fun h => ⟨(hx0 h).1,(hx0 h).2.below hb2⟩,fun h => ⟨(hx1 h).1,by have hq := (hx1 h).2.below hb2; rw [if_neg (by rw [hz1]; decide)] at hq ⊢; exact hq⟩,hd01⟩
   revert hv hcnd; cases c0 <;> cases c1 <;> cases a0 <;> cases a1 <;> cases s0 <;> cases s1 <;> decide
  ·try dsimp only at hcnd
   refine wpOp_step (by simp only [List.getElem?_toArray,List.getElem?_cons_zero,List.getElem?_cons_succ]; rfl) (fun K hK => ?_)
   go_simp
   refine hK _ _ ?_
   try simp only [Act.put,Ord.t,Ord.z,Ord.s]
   have hb2 : Below w'.heap.size w' (w'.alloc (.cells #[.int .i64 0] 3)) := (Below.refl _ _).alloc (Nat.le_refl _) _
   have hz : s0 = false := by revert hv hcnd; cases s0 <;> cases a0 <;> simp_all
   refine ⟨c0,c1,true,a1,s0,s1,u10,u14,.pointer (some ⟨w'.heap.size,0,none⟩),u6,w'.heap.size,b1,(w'.heap.size :: bs),rfl,rfl,?_,hb.trans (hb2.mono hb.size),fun c h => by rcases List.mem_cons.1 h with rfl | h; exact (by simp); exact Nat.lt_of_lt_of_le (hbs c h) hb2.size,fun h => ((hm0 h).more (Nat.le_refl _)).below hP0 hb2,fun h => ((hm1 h).more (Nat.le_refl _)).below hP1 hb2,fun _ => ⟨by simp,rfl,hb.size,by rw [if_neg (by rw [hz]; decide)]; exact Bk.new _ _ _⟩,fun h => ⟨by simp [(hx1 h).1],(hx1 h).2.below hb2⟩,fun _ h => by have := hbs _ (hx1 h).1; omega⟩
   revert hv hcnd; cases c0 <;> cases c1 <;> cases a0 <;> cases a1 <;> cases s0 <;> cases s1 <;> decide
  ·try dsimp only at hcnd
   refine wpOp_step (by simp only [List.getElem?_toArray,List.getElem?_cons_zero,List.getElem?_cons_succ]; rfl) (fun K hK => ?_)
   go_simp
   refine hK _ _ ?_
   try simp only [Act.put,Ord.t,Ord.z,Ord.s]
   have hb2 : Below w'.heap.size w' (w'.alloc (.cells #[.nilFunc] 125)) := (Below.refl _ _).alloc (Nat.le_refl _) _
   have hz : s1 = false := by revert hv hcnd; cases s1 <;> cases a1 <;> simp_all
   refine ⟨c0,c1,a0,true,s0,s1,u10,u14,u5,.pointer (some ⟨w'.heap.size,0,none⟩),b0,w'.heap.size,(w'.heap.size :: bs),rfl,rfl,?_,hb.trans (hb2.mono hb.size),fun c h => by rcases List.mem_cons.1 h with rfl | h; exact (by simp); exact Nat.lt_of_lt_of_le (hbs c h) hb2.size,fun h => ((hm0 h).more (Nat.le_refl _)).below hP0 hb2,fun h => ((hm1 h).more (Nat.le_refl _)).below hP1 hb2,fun h => ⟨by simp [(hx0 h).1],(hx0 h).2.below hb2⟩,fun _ => ⟨by simp,rfl,hb.size,by rw [if_neg (by rw [hz]; decide)]; exact Bk.new _ _ _⟩,fun h _ => by have := hbs _ (hx0 h).1; omega⟩
   revert hv hcnd; cases c0 <;> cases c1 <;> cases a0 <;> cases a1 <;> cases s0 <;> cases s1 <;> decide
  ·try dsimp only at hcnd
   have ha0 : a0 = true := by revert hcnd; cases a0 <;> simp
   have hz : s0 = false := by revert hcnd; cases s0 <;> simp
   have hc : c0 = true := by revert hcnd; cases c0 <;> simp
   obtain ⟨l,h,hl1,hl2,hl3,hp,hl4⟩ := hm0 hc
   obtain ⟨fk,rfl⟩ := hF0 _ _ _ _ hp
   have hm0 := fun (_ : c0 = true) => (⟨l,h,hl1,hl2,hl3,hp,hl4⟩ : Made P0 w.heap.size w' bs (.int .i64 fk))
   obtain ⟨hin,rfl,hlo,hbk⟩ := hx0 ha0
   rw [if_neg (by rw [hz]; decide)] at hbk
   have hce := hbk.cell 0 rfl
   have hfr := hbk.fr 0
   refine wpOp_step (by simp only [List.getElem?_toArray,List.getElem?_cons_zero,List.getElem?_cons_succ]; rfl) (fun K hK => ?_)
   go_simp
   refine hK _ _ ?_
   try simp only [Act.put,Ord.t,Ord.z,Ord.s]
   refine ⟨c0,c1,a0,a1,true,s1,.int .i64 fk,u14,.pointer (some ⟨b0,0,none⟩),u6,b0,b1,bs,rfl,rfl,?_,(hb.setCell hlo _),fun c h => by simp [World.setCell]; exact hbs c h,fun h => Made.set hP0 (hm0 h) hin _,fun h => Made.set hP1 (hm1 h) hin _,fun _ => ⟨hin,rfl,hlo,by rw [if_pos rfl]; exact hbk.set 0 _⟩,fun h => ⟨(hx1 h).1,(hx1 h).2.far ((hd01 ha0 h).symm) _⟩,hd01⟩
   revert hv hcnd; cases c0 <;> cases c1 <;> cases a0 <;> cases a1 <;> cases s0 <;> cases s1 <;> decide
  ·try dsimp only at hcnd
   have ha1 : a1 = true := by revert hcnd; cases a1 <;> simp
   have hz : s1 = false := by revert hcnd; cases s1 <;> simp
   have hc : c1 = true := by revert hcnd; cases c1 <;> simp
   obtain ⟨l,h,hl1,hl2,hl3,hp,hl4⟩ := hm1 hc
   obtain ⟨fk,fd,rfl⟩ := hF1 _ _ _ _ hp
   have hm1 := fun (_ : c1 = true) => (⟨l,h,hl1,hl2,hl3,hp,hl4⟩ : Made P1 w.heap.size w' bs (.func (.func fk) #[] fd))
   obtain ⟨hin,rfl,hlo,hbk⟩ := hx1 ha1
   rw [if_neg (by rw [hz]; decide)] at hbk
   have hce := hbk.cell 0 rfl
   have hfr := hbk.fr 0
   refine wpOp_step (by simp only [List.getElem?_toArray,List.getElem?_cons_zero,List.getElem?_cons_succ]; rfl) (fun K hK => ?_)
   go_simp
   refine hK _ _ ?_
   try simp only [Act.put,Ord.t,Ord.z,Ord.s]
   refine ⟨c0,c1,a0,a1,s0,true,u10,.func (.func fk) #[] fd,u5,.pointer (some ⟨b1,0,none⟩),b0,b1,bs,rfl,rfl,?_,(hb.setCell hlo _),fun c h => by simp [World.setCell]; exact hbs c h,fun h => Made.set hP0 (hm0 h) hin _,fun h => Made.set hP1 (hm1 h) hin _,fun h => ⟨(hx0 h).1,(hx0 h).2.far (hd01 h ha1) _⟩,fun _ => ⟨hin,rfl,hlo,by rw [if_pos rfl]; exact hbk.set 0 _⟩,hd01⟩
   revert hv hcnd; cases c0 <;> cases c1 <;> cases a0 <;> cases a1 <;> cases s0 <;> cases s1 <;> decide
 ·refine ⟨false,false,false,false,false,false,g 10,g 14,g 5,g 6,0,0,[],by kernel_rfl,rfl,rfl,HD.out,fun b h => (by cases h),(fun h => by cases h),(fun h => by cases h),(fun h => by cases h),(fun h => by cases h),(fun h => by cases h)⟩
structure Mkd (w : World) (t : Rt) (B : Nat) (rs : List Vr) (A : Value) (sc : List (List UInt8 × Nat)) (nv : Value) (ns : List Nm) : Prop where
 mkr : MK w t B rs A sc nv
 ap : Apart t sc
 run : t.R < w.heap.size
 few : rs.length ≤ 1000
 small : ∀ v ∈ rs,v.size ≤ 8
 names : sc.map Prod.fst = ns.map Nm.name
theorem Mkd.below {w w' : World} {t : Rt} {B : Nat} {rs : List Vr} {A : Value} {sc : List (List UInt8 × Nat)} {nv : Value} {ns : List Nm} (h : Mkd w t B rs A sc nv ns) (hb : Below w.heap.size w w') : Mkd w' t B rs A sc nv ns := ⟨h.mkr.below hb,h.ap,Nat.lt_of_lt_of_le h.run hb.size,h.few,h.small,h.names⟩
def MdE (t : Rt) (sc : List (List UInt8 × Nat)) (rs : List Vr) (m : Nat) (e : Ex) (w : World) (r : Ending) (w' : World) : Prop := ∃ v,r = .returned v ∧ Below w.heap.size w w' ∧ GoodE t sc rs m w' w.heap.size w'.heap.size v e
def MakeE (m : Nat) : Prop := ∀ (K B : Nat) (t : Rt) (rs : List Vr) (A : Value) (sc : List (List UInt8 × Nat)) (nv : Value) (ns : List Nm) (e : Ex) (sl : Value) (w : World),m ≤ K → wfE m e → Mkd w t B rs A sc nv ns → ExIs w B K e sl →
 Calls Tryz.prog 76 #[.pointer (some ⟨t.M,0,none⟩),.agg (exA e sl)] w fun r w' => MdE t sc rs m e w r w'
theorem EnvM.look {W : World} {x : List UInt8} {p : List UInt8 × Nat} : ∀ {sc : List (List UInt8 × Nat)} {env : Env},EnvM W sc env → sc.find? (fun v => v.1 == x) = some p → W.cell? ⟨p.2,0,none⟩ = some (.int .i64 (lookE env x))
 | [],[],_,h => by cases h
 | q :: sc,r :: env,⟨h1,h2,h3⟩,h => by
  rw [List.find?_cons] at h
  unfold lookE
  rw [List.find?_cons,← h1]
  cases hx : q.1 == x with
  | true =>
   rw [hx] at h
   cases h
   exact h2.cell 0 rfl
  | false =>
   rw [hx] at h
   exact EnvM.look h3 h
theorem find_names {x : List UInt8} {v : Nm} : ∀ {sc : List (List UInt8 × Nat)} {ns : List Nm},sc.map Prod.fst = ns.map Nm.name → byN ns x = some v → ∃ p,sc.find? (fun v => v.1 == x) = some p
 | [],[],_,h => by cases h
 | [],_ :: _,h,_ => by cases h
 | _ :: _,[],h,_ => by cases h
 | q :: sc,u :: ns,h,hb => by
  rw [List.map_cons,List.map_cons] at h
  injection h with h1 h2
  unfold byN at hb
  rw [List.find?_cons] at hb
  rw [List.find?_cons,h1]
  cases hx : u.name == x with
  | true => exact ⟨q,rfl⟩
  | false =>
   rw [hx] at hb
   exact find_names h2 hb
theorem find_arr {x : List UInt8} {v : Vr} : ∀ {rs : List Vr},byV rs x = some v → ∃ i,atV rs x = some i
 | [],h => by cases h
 | u :: rs,h => by
  unfold byV at h
  rw [List.find?_cons] at h
  rw [atV_cons]
  cases hx : u.name == x with
  | true => exact ⟨0,rfl⟩
  | false =>
   rw [hx] at h
   obtain ⟨i,hi⟩ := find_arr h
   exact ⟨i + 1,by rw [hi]; rfl⟩
theorem ex_slice {w : World} {B m : Nat} {e : Ex} {sl : Value} (h : ExIs w B m e sl) : ∃ p n c,sl = .slice p n c := by
 cases m with
 | zero => exact h.elim
 | succ m =>
  obtain ⟨p,n,c,h1,_⟩ := h.parts
  exact ⟨p,n,c,h1⟩
theorem goodE_stays {t : Rt} {sc : List (List UInt8 × Nat)} {rs : List Vr} {m : Nat} {e : Ex} : Stays fun w l h u => GoodE t sc rs m w l h u e := fun w w' lo hi u h hk => h.more (Nat.le_refl _) (Nat.le_refl _) hk
theorem goodE_func {t : Rt} {sc : List (List UInt8 × Nat)} {rs : List Vr} {m : Nat} {e : Ex} (w : World) (l h : Nat) (u : Value) (hg : GoodE t sc rs m w l h u e) : ∃ k d,u = .func (.func k) #[] d := by
 obtain ⟨k,d,hv,_⟩ := hg
 exact ⟨k,d,hv.1⟩
theorem goodE_made {t : Rt} {sc : List (List UInt8 × Nat)} {rs : List Vr} {m : Nat} {e : Ex} {lo lo' : Nat} {w : World} {u : Value} (h : Made (fun w l h u => GoodE t sc rs m w l h u e) lo w [] u) (hlo : lo' ≤ lo) : GoodE t sc rs m w lo' w.heap.size u e := by
 obtain ⟨l,k,h1,h2,h3,h4,_⟩ := h
 exact h4.more (by omega) h3 (fun i _ _ => rfl)
theorem part_any (m : Nat) (ih : MakeE m) (K B : Nat) (t : Rt) (rs : List Vr) (A : Value) (sc : List (List UInt8 × Nat)) (nv : Value) (ns : List Nm) (g o n c j : Nat) (e : Ex) (sa : Value) (w : World) (hK : m ≤ K) (hwf : wfE m e) (hM : Mkd w t B rs A sc nv ns) (hj : j < n) (hn : n ≤ 1000) (hat : ExAt w g (o + j * 4) e sa) (hi : ExIs w B K e sa) :
  Calls Tryz.prog 61 #[.pointer (some ⟨t.M,0,none⟩),.slice (some ⟨g,o,none⟩) n c,.int .i64 (j : Int)] w fun r w' => MdE t sc rs m e w r w' := by
 obtain ⟨tp,tq,tc,rfl⟩ := ex_slice hi
 have HC := keep (ih K B t rs A sc nv ns e (.slice tp tq tc) w hK hwf hM hi)
 have a0 := hat.c0
 have a1 := hat.c1
 have a2 := hat.c2
 have a3 := hat.c3
 obtain ⟨ek,en,x,l⟩ := e
 simp only at a0 a1 a2 a3
 have hjz : (j : Int) < (n : Int) := by omega
 have hj0 : (0 : Int) ≤ (j : Int) := by omega
 have d1 : decide ((j : Int) < (n : Int)) = true := decide_eq_true hjz
 unfold exA at HC
 clear hM hi hat hwf ih
 go_enter Tryz.func61,Tryz.ntmps61
 go_wp2_with fail
 refine HC.out.mono ?_
 rintro r w2 ⟨v,rfl,hb,hg⟩
 have HE : Hid (MdE t sc rs m ⟨ek,en,x,l⟩ w (.returned v) w2) := ⟨v,rfl,hb,hg⟩
 obtain ⟨k,d,⟨rfl,_⟩,_⟩ := hg
 clear hb HC
 go_wp2
 go_ret
 exact HE.out
theorem ex_args {w : World} {B K : Nat} {e : Ex} {p : Option Addr} {n c : Nat} (hi : ExIs w B (K + 1) e (.slice p n c)) : e.args.length = n ∧ ∀ j a,e.args[j]? = some a → ∃ g o sl,p = some ⟨g,o,none⟩ ∧ g < B ∧ ExAt w g (o + j * 4) a sl ∧ ExIs w B K a sl := by
 obtain ⟨p',n',c',h1,h2,_,_,h5⟩ := hi.parts
 cases h1
 exact ⟨h2,h5⟩
theorem part_call (m : Nat) (ih : MakeE m) {K B : Nat} {t : Rt} {rs : List Vr} {A : Value} {sc : List (List UInt8 × Nat)} {nv : Value} {ns : List Nm} {e : Ex} {p : Option Addr} {n c : Nat} {w w1 : World} (hK : m ≤ K) (hM : Mkd w t B rs A sc nv ns) (hi : ExIs w B (K + 1) e (.slice p n c)) (hn : n ≤ 1000) (hwf : ∀ a ∈ e.args,wfE m a) (hb1 : Below w.heap.size w w1) (j : Nat) (a : Ex) (ha : e.args[j]? = some a) :
  ∀ W,Below w1.heap.size w1 W → Calls Tryz.prog 61 #[.pointer (some ⟨t.M,0,none⟩),.slice p n c,.int .i64 (j : Int)] W fun r W' => ∃ v,r = .returned v ∧ Below W.heap.size W W' ∧ GoodE t sc rs m W' W.heap.size W'.heap.size v a := by
 intro W hW
 have hb : Below w.heap.size w W := hb1.trans (hW.mono hb1.size)
 obtain ⟨hl,hq⟩ := ex_args hi
 obtain ⟨g,o,sl,rfl,hg,hat,hs⟩ := hq j a ha
 have hB : B ≤ w.heap.size := by have := hM.mkr.hB; have := hM.mkr.box.lt; omega
 exact part_any m ih K B t rs A sc nv ns g o n c j a sl W hK (hwf a (List.mem_of_getElem? ha)) (hM.below hb) (by have := (List.getElem?_eq_some_iff.1 ha).1; omega) hn (hat.below (hb.mono hB) hg) (hs.below (hb.mono hB))
theorem two_make (m : Nat) (ih : MakeE m) (K B : Nat) (t : Rt) (rs : List Vr) (A : Value) (sc : List (List UInt8 × Nat)) (nv : Value) (ns : List Nm) (op : Int) (hop1 : 1 ≤ op) (hop2 : op ≤ 12) (ea eb : Ex) (sl : Value) (w : World) (hK : m ≤ K) (hM : Mkd w t B rs A sc nv ns) (hi : ExIs w B (K + 1) ⟨3,op,[],[ea,eb]⟩ sl) (hwf : ∀ a ∈ [ea,eb],wfE m a) :
  Calls Tryz.prog 96 #[.pointer (some ⟨t.M,0,none⟩),.agg (exA ⟨3,op,[],[ea,eb]⟩ sl)] w fun r w' => MdE t sc rs (m + 1) ⟨3,op,[],[ea,eb]⟩ w r w' := by
 obtain ⟨p,n,c,rfl⟩ := ex_slice hi
 obtain ⟨w1,hw1⟩ : ∃ x,w.alloc (.cells #[.int .i64 3,.int .i64 op,.string ⟨([] : List UInt8).toArray⟩,.slice p n c] 93) = x := ⟨_,rfl⟩
 have hb1 : Below w.heap.size w w1 := by rw [← hw1]; exact (Below.refl _ _).alloc (Nat.le_refl _) _
 have hbE : Bk w1 w.heap.size [.int .i64 3,.int .i64 op,.string ⟨([] : List UInt8).toArray⟩,.slice p n c] 93 := by rw [← hw1]; exact Bk.new _ _ _
 have hn : n ≤ 1000 := by have := (ex_args hi).1; dsimp at this; omega
 have HC0 := keep (part_call m ih hK hM hi hn hwf hb1 0 ea rfl)
 have HC1 := keep (part_call m ih hK hM hi hn hwf hb1 1 eb rfl)
 have HReg := keep (fun g => mTwo_reg (fun w l h u => GoodE t sc rs m w l h u ea) (fun w l h u => GoodE t sc rs m w l h u eb) t.M w.heap.size op p n c g w1 goodE_stays goodE_stays goodE_func goodE_func (hbE.cell 1 rfl) (hbE.cell 3 rfl) HC0.out HC1.out)
 have HW1 := keep hw1
 have HB1 := keep hb1
 have HM := keep hM
 unfold exA
 clear hw1 hb1 hbE HC0 HC1 hi hM hwf ih
 go_enter Tryz.func96,Tryz.ntmps96
 show (Code.seq (fstC mTwoCode) (Code.seq (fstC (sndC mTwoCode)) (sndC (sndC mTwoCode)))).wp Tryz.prog _ _ w
 refine wp_seq (wp_mono (Q:=fun e a' w' => Hid (e = .normal ∧ a' = ⟨#[.pointer (some ⟨t.M,0,none⟩),.agg #[.int .i64 3,.int .i64 op,.string ⟨([] : List UInt8).toArray⟩,.slice p n c],undef,.pointer (some ⟨w.heap.size,0,none⟩),.nilFunc,undef,undef,undef,undef,undef,undef,undef,undef,undef,undef,undef,undef,undef,undef],[]⟩ ∧ w' = w1)) ?_ ?_)
 ·conv => arg 2; whnf
  go_wp2_with (first | rw [HW1.out])
  first | trivial | exact ⟨rfl,rfl,rfl⟩
 intro e a1 w1' h1
 obtain ⟨rfl,rfl,rfl⟩ := h1.out
 refine wp_seq (wp_mono (HReg.out (fun i => match i with | 1 => .agg #[.int .i64 3,.int .i64 op,.string ⟨([] : List UInt8).toArray⟩,.slice p n c] | 4 => .nilFunc | _ => undef)) ?_)
 rintro e a2 w2 ⟨rfl,u13,u17,b0,b1,b2,rfl,hb2,hm0,hm1,⟨hl0,hk0⟩,⟨hl1,hk1⟩,⟨hl2,hk2⟩⟩
 have hsz := HB1.out.size
 have HE : Hid (MdE t sc rs (m + 1) ⟨3,op,[],[ea,eb]⟩ w (.returned (.func (.func 110) #[] #[.pointer (some ⟨b0,0,none⟩),.pointer (some ⟨b1,0,none⟩),.pointer (some ⟨b2,0,none⟩)])) w2) := by
  refine ⟨_,rfl,HB1.out.trans (hb2.mono hsz),_,_,⟨rfl,enters_of Tryz.func110 (by kernel_rfl) rfl⟩,?_⟩
  intro W hW hs env arr s hR hE hG
  exact two_val t sc rs m op hop1 hop2 ea eb b0 b1 b2 w.heap.size w2.heap.size u13 u17 w2 HM.out.ap HM.out.run (by omega) (by omega) (by omega) hk0.lt hk1.lt hk2.lt (hk0.cell 0 rfl) (hk1.cell 0 rfl) (hk2.cell 0 rfl) (goodE_made hm0 hsz) (goodE_made hm1 hsz) W hW hs env arr s hR hE hG
 clear hb2 hm0 hm1 hk0 hk1 hk2 HReg HM
 show (sndC (sndC mTwoCode)).wp Tryz.prog _ _ w2
 conv => arg 2; whnf
 go_wp2
 go_ret
 exact HE.out
end Go.Proofs.YtemdnmfldihalaaGreatDoor.Lr
