/- Laid together: LfMTwo, LfMSel. -/
import Derived.Test.YtemdnmfldihalaaGreatDoorGr8
namespace Go.Proofs.YtemdnmfldihalaaGreatDoor.Lr
set_option maxHeartbeats 32000000
set_option maxRecDepth 100000
set_option linter.unusedVariables false
set_option linter.unusedSimpArgs false
open Go.ChangeShapes Go.WideShapes Go.ChangeAt Go.RowKit Lg
theorem nobox {P : World → Nat → Nat → Value → Prop} {lo : Nat} {w : World} {bs : List Nat} {u : Value} (h : Made P lo w bs u) : Made P lo w [] u := by
 obtain ⟨l,k,h1,h2,h3,h4,_⟩ := h
 exact ⟨l,k,h1,h2,h3,h4,fun b hb => by cases hb⟩
noncomputable def mTwoCode : Code := Tryz.f96.body.getD .skip
noncomputable def mTwoOps : Array Oper := opsC (fstC (sndC mTwoCode))
theorem mTwo_rdy : ∀ (c0 c1 a0 a1 a2 s0 s1 s2 : Bool),(!((!c1 || c0) && (!s0 || (c1 && a0)) && (!s1 || (s0 && a1)) && (!s2 || (s1 && a2))) || (Region.ready .any mTwoOps #[true,true,true,true,true,c0,true,true,true,c1,a0,a1,a2,s0,s1,s2]).all (fun i => match i with
   | 5 => !c0
   | 9 => c0 && !c1
   | 10 => !a0
   | 11 => !a1
   | 12 => !a2
   | 13 => c0 && c1 && a0 && !s0
   | 14 => c0 && c1 && a1 && s0 && !s1
   | 15 => c0 && c1 && a2 && s0 && s1 && !s2
   | _ => false)) = true := by decide +kernel
theorem mTwo_end : ∀ (c0 c1 a0 a1 a2 s0 s1 s2 : Bool),(!((!c1 || c0) && (!s0 || (c1 && a0)) && (!s1 || (s0 && a1)) && (!s2 || (s1 && a2))) || !(Region.ready .any mTwoOps #[true,true,true,true,true,c0,true,true,true,c1,a0,a1,a2,s0,s1,s2]).isEmpty || (c0 && c1 && a0 && a1 && a2 && s0 && s1 && s2)) = true := by decide +kernel
def mTwoJ (P0 P1 : World → Nat → Nat → Value → Prop) (M bE : Nat) (op : Int) (p : Option Addr) (n c : Nat) (g : Nat → Value) (w : World) (d : Array Bool) (a : Act) (w' : World) : Prop := ∃ (c0 c1 a0 a1 a2 s0 s1 s2 : Bool) (u13 u17 u5 u6 u7 : Value) (b0 b1 b2 : Nat) (bs : List Nat),d = #[true,true,true,true,true,c0,true,true,true,c1,a0,a1,a2,s0,s1,s2] ∧ a = ⟨#[.pointer (some ⟨M,0,none⟩),g 1,g 2,.pointer (some ⟨bE,0,none⟩),g 4,u5,u6,u7,.pointer (some ⟨bE,1,none⟩),.int .i64 op,.pointer (some ⟨M,0,none⟩),.pointer (some ⟨bE,3,none⟩),.slice p n c,u13,.pointer (some ⟨M,0,none⟩),.pointer (some ⟨bE,3,none⟩),.slice p n c,u17,g 18],[]⟩ ∧ ((!c1 || c0) && (!s0 || (c1 && a0)) && (!s1 || (s0 && a1)) && (!s2 || (s1 && a2))) = true ∧ Below w.heap.size w w' ∧ (∀ b ∈ bs,b < w'.heap.size) ∧ (c0 = true → Made P0 w.heap.size w' bs u13) ∧ (c1 = true → Made P1 w.heap.size w' bs u17) ∧ (a0 = true → b0 ∈ bs ∧ Boxed w.heap.size w' 3 b0 u5 (if s0 = true then .int .i64 op else .int .i64 0)) ∧ (a1 = true → b1 ∈ bs ∧ Boxed w.heap.size w' 125 b1 u6 (if s1 = true then u13 else .nilFunc)) ∧ (a2 = true → b2 ∈ bs ∧ Boxed w.heap.size w' 125 b2 u7 (if s2 = true then u17 else .nilFunc)) ∧ (a0 = true → a1 = true → b0 ≠ b1) ∧ (a0 = true → a2 = true → b0 ≠ b2) ∧ (a1 = true → a2 = true → b1 ≠ b2)
def mTwoP (P0 P1 : World → Nat → Nat → Value → Prop) (M bE : Nat) (op : Int) (p : Option Addr) (n c : Nat) (g : Nat → Value) (w : World) (e : Exit) (a' : Act) (w' : World) : Prop := e = .normal ∧ ∃ (u13 u17 : Value) (b0 b1 b2 : Nat),a' = ⟨#[.pointer (some ⟨M,0,none⟩),g 1,g 2,.pointer (some ⟨bE,0,none⟩),g 4,.pointer (some ⟨b0,0,none⟩),.pointer (some ⟨b1,0,none⟩),.pointer (some ⟨b2,0,none⟩),.pointer (some ⟨bE,1,none⟩),.int .i64 op,.pointer (some ⟨M,0,none⟩),.pointer (some ⟨bE,3,none⟩),.slice p n c,u13,.pointer (some ⟨M,0,none⟩),.pointer (some ⟨bE,3,none⟩),.slice p n c,u17,g 18],[]⟩ ∧ Below w.heap.size w w' ∧ Made P0 w.heap.size w' [] u13 ∧ Made P1 w.heap.size w' [] u17 ∧ (w.heap.size ≤ b0 ∧ Bk w' b0 [.int .i64 op] 3) ∧ (w.heap.size ≤ b1 ∧ Bk w' b1 [u13] 125) ∧ (w.heap.size ≤ b2 ∧ Bk w' b2 [u17] 125)
theorem mTwo_reg (P0 P1 : World → Nat → Nat → Value → Prop) (M bE : Nat) (op : Int) (p : Option Addr) (n c : Nat) (g : Nat → Value) (w : World) (hP0 : Stays P0) (hP1 : Stays P1) (hF0 : ∀ w l h u,P0 w l h u → ∃ k d,u = .func (.func k) #[] d) (hF1 : ∀ w l h u,P1 w l h u → ∃ k d,u = .func (.func k) #[] d) (hS1 : w.cell? ⟨bE,1,none⟩ = some (.int .i64 op)) (hS3 : w.cell? ⟨bE,3,none⟩ = some (.slice p n c)) (HC0 : Hid (∀ W,Below w.heap.size w W → Calls Tryz.prog 61 #[.pointer (some ⟨M,0,none⟩),.slice p n c,.int .i64 0] W fun r W' => ∃ v,r = .returned v ∧ Below W.heap.size W W' ∧ P0 W' W.heap.size W'.heap.size v)) (HC1 : Hid (∀ W,Below w.heap.size w W → Calls Tryz.prog 61 #[.pointer (some ⟨M,0,none⟩),.slice p n c,.int .i64 1] W fun r W' => ∃ v,r = .returned v ∧ Below W.heap.size W W' ∧ P1 W' W.heap.size W'.heap.size v)) : (fstC (sndC mTwoCode)).wp Tryz.prog (mTwoP P0 P1 M bE op p n c g w) ⟨#[.pointer (some ⟨M,0,none⟩),g 1,g 2,.pointer (some ⟨bE,0,none⟩),g 4,g 5,g 6,g 7,g 8,g 9,g 10,g 11,g 12,g 13,g 14,g 15,g 16,g 17,g 18],[]⟩ w := by
 conv => arg 2; whnf
 refine wp_region_noPanic ?_
 refine Ord.wpM_begin (fun W' : World => W'.cell? ⟨bE,1,none⟩ = some (.int .i64 op) ∧ W'.cell? ⟨bE,3,none⟩ = some (.slice p n c)) [0,1,2,3,4,5,6,7,8,9,10,11,12,13,14,15] (by kernel_rfl) ?_
 have HSS : Hid (∀ W' : World,Below w.heap.size w W' → (W'.cell? ⟨bE,1,none⟩ = some (.int .i64 op) ∧ W'.cell? ⟨bE,3,none⟩ = some (.slice p n c))) := fun W' hW => ⟨keep_cell hW hS1,keep_cell hW hS3⟩
 have HD : Hid (Below w.heap.size w w.drew) := Below.drew (Below.refl _ _)
 generalize w.drew = wd at *
 have hS := HSS.out wd HD.out
 refine Ord.tk (i:=0) (v:=.pointer (some ⟨bE,1,none⟩)) (hy:=Or.inl ⟨by rfl,by rintro W' ⟨q0,q1⟩; go_simp⟩) (hS:=hS) (h:=?_)
 try simp only [Act.put,Ord.t,Ord.z,Ord.s]
 refine Ord.tk (i:=1) (v:=.int .i64 op) (hy:=Or.inl ⟨by rfl,by rintro W' ⟨q0,q1⟩; go_simp⟩) (hS:=hS) (h:=?_)
 try simp only [Act.put,Ord.t,Ord.z,Ord.s]
 refine Ord.tk (i:=2) (v:=.pointer (some ⟨M,0,none⟩)) (hy:=Or.inl ⟨by rfl,by rintro W' ⟨q0,q1⟩; go_simp⟩) (hS:=hS) (h:=?_)
 try simp only [Act.put,Ord.t,Ord.z,Ord.s]
 refine Ord.tk (i:=3) (v:=.pointer (some ⟨bE,3,none⟩)) (hy:=Or.inl ⟨by rfl,by rintro W' ⟨q0,q1⟩; go_simp⟩) (hS:=hS) (h:=?_)
 try simp only [Act.put,Ord.t,Ord.z,Ord.s]
 refine Ord.tk (i:=4) (v:=.slice p n c) (hy:=Or.inl ⟨by rfl,by rintro W' ⟨q0,q1⟩; go_simp⟩) (hS:=hS) (h:=?_)
 try simp only [Act.put,Ord.t,Ord.z,Ord.s]
 refine Ord.tk (i:=6) (v:=.pointer (some ⟨M,0,none⟩)) (hy:=Or.inl ⟨by rfl,by rintro W' ⟨q0,q1⟩; go_simp⟩) (hS:=hS) (h:=?_)
 try simp only [Act.put,Ord.t,Ord.z,Ord.s]
 refine Ord.tk (i:=7) (v:=.pointer (some ⟨bE,3,none⟩)) (hy:=Or.inl ⟨by rfl,by rintro W' ⟨q0,q1⟩; go_simp⟩) (hS:=hS) (h:=?_)
 try simp only [Act.put,Ord.t,Ord.z,Ord.s]
 refine Ord.tk (i:=8) (v:=.slice p n c) (hy:=Or.inl ⟨by rfl,by rintro W' ⟨q0,q1⟩; go_simp⟩) (hS:=hS) (h:=?_)
 try simp only [Act.put,Ord.t,Ord.z,Ord.s]
 refine Ord.wpM_inv (mTwoJ P0 P1 M bE op p n c g w) (fun d a w' h => ?_) (fun d a w' h hr => ?_) (fun d a w' hJ i hi => ?_) _ _ _ _ (of_decide_eq_true (by kernel_rfl)) ?_
 ·obtain ⟨c0,c1,a0,a1,a2,s0,s1,s2,u13,u17,u5,u6,u7,b0,b1,b2,bs,_,_,_,hb,_⟩ := h
  exact HSS.out w' hb
 ·refine NoPanic.normal ?_
  obtain ⟨c0,c1,a0,a1,a2,s0,s1,s2,u13,u17,u5,u6,u7,b0,b1,b2,bs,rfl,rfl,hv,hb,hbs,hm0,hm1,hx0,hx1,hx2,hd01,hd02,hd12⟩ := h
  have he := mTwo_end c0 c1 a0 a1 a2 s0 s1 s2
  rw [hv] at he
  have he2 : (Region.ready .any mTwoOps #[true,true,true,true,true,c0,true,true,true,c1,a0,a1,a2,s0,s1,s2]).isEmpty = true := by rw [show Region.ready .any mTwoOps #[true,true,true,true,true,c0,true,true,true,c1,a0,a1,a2,s0,s1,s2] = [] from hr]; rfl
  rw [he2] at he
  simp only [Bool.not_true,Bool.false_or,Bool.and_eq_true] at he
  obtain ⟨⟨⟨⟨⟨⟨⟨rfl,rfl⟩,rfl⟩,rfl⟩,rfl⟩,rfl⟩,rfl⟩,rfl⟩ := he
  skip
  obtain ⟨_,rfl,hlo0,hbk0⟩ := hx0 rfl
  obtain ⟨_,rfl,hlo1,hbk1⟩ := hx1 rfl
  obtain ⟨_,rfl,hlo2,hbk2⟩ := hx2 rfl
  exact ⟨rfl,u13,u17,b0,b1,b2,rfl,hb,nobox (hm0 rfl),nobox (hm1 rfl),⟨hlo0,hbk0⟩,⟨hlo1,hbk1⟩,⟨hlo2,hbk2⟩⟩
 ·obtain ⟨c0,c1,a0,a1,a2,s0,s1,s2,u13,u17,u5,u6,u7,b0,b1,b2,bs,rfl,rfl,hv,hb,hbs,hm0,hm1,hx0,hx1,hx2,hd01,hd02,hd12⟩ := hJ
  have hcnd := mTwo_rdy c0 c1 a0 a1 a2 s0 s1 s2
  rw [hv,Bool.not_true,Bool.false_or] at hcnd
  have hcnd := List.all_eq_true.1 hcnd i hi
  have hlt : i < 16 := List.mem_range.1 (List.mem_filter.1 hi).1
  rcases (show i = 0 ∨ i = 1 ∨ i = 2 ∨ i = 3 ∨ i = 4 ∨ i = 5 ∨ i = 6 ∨ i = 7 ∨ i = 8 ∨ i = 9 ∨ i = 10 ∨ i = 11 ∨ i = 12 ∨ i = 13 ∨ i = 14 ∨ i = 15 by omega) with rfl | rfl | rfl | rfl | rfl | rfl | rfl | rfl | rfl | rfl | rfl | rfl | rfl | rfl | rfl | rfl
  ·cases hcnd
  ·cases hcnd
  ·cases hcnd
  ·cases hcnd
  ·cases hcnd
  ·try dsimp only at hcnd
   have hz1 : s1 = false := by revert hv hcnd; cases s1 <;> cases c0 <;> simp_all
   refine wpOp_step (by simp only [List.getElem?_toArray,List.getElem?_cons_zero,List.getElem?_cons_succ]; rfl) (fun K hK => ?_)
   go_simp
   refine (HC0.out w' hb).mono ?_
   rintro r w2 ⟨v,rfl,hb2,hp2⟩
   go_simp
   refine hK _ _ ?_
   try simp only [Act.put,Ord.t,Ord.z,Ord.s]
   refine ⟨true,c1,a0,a1,a2,s0,s1,s2,v,u17,u5,u6,u7,b0,b1,b2,bs,rfl,rfl,?_,hb.trans (hb2.mono hb.size),fun b h => Nat.lt_of_lt_of_le (hbs b h) hb2.size,fun _ => ⟨w'.heap.size,w2.heap.size,hb.size,hb2.size,Nat.le_refl _,hp2,fun b h => .inl (hbs b h)⟩,fun h => (hm1 h).below hP1 hb2,fun h => ⟨(hx0 h).1,(hx0 h).2.below hb2⟩,fun h => ⟨(hx1 h).1,by have hq := (hx1 h).2.below hb2; rw [if_neg (by rw [hz1]; decide)] at hq ⊢; exact hq⟩,fun h => ⟨(hx2 h).1,(hx2 h).2.below hb2⟩,hd01,hd02,hd12⟩
   revert hv hcnd; cases c0 <;> cases c1 <;> cases a0 <;> cases a1 <;> cases a2 <;> cases s0 <;> cases s1 <;> cases s2 <;> decide
  ·cases hcnd
  ·cases hcnd
  ·cases hcnd
  ·try dsimp only at hcnd
   have hz2 : s2 = false := by revert hv hcnd; cases s2 <;> cases c1 <;> simp_all
   refine wpOp_step (by simp only [List.getElem?_toArray,List.getElem?_cons_zero,List.getElem?_cons_succ]; rfl) (fun K hK => ?_)
   go_simp
   refine (HC1.out w' hb).mono ?_
   rintro r w2 ⟨v,rfl,hb2,hp2⟩
   go_simp
   refine hK _ _ ?_
   try simp only [Act.put,Ord.t,Ord.z,Ord.s]
   refine ⟨c0,true,a0,a1,a2,s0,s1,s2,u13,v,u5,u6,u7,b0,b1,b2,bs,rfl,rfl,?_,hb.trans (hb2.mono hb.size),fun b h => Nat.lt_of_lt_of_le (hbs b h) hb2.size,fun h => (hm0 h).below hP0 hb2,fun _ => ⟨w'.heap.size,w2.heap.size,hb.size,hb2.size,Nat.le_refl _,hp2,fun b h => .inl (hbs b h)⟩,fun h => ⟨(hx0 h).1,(hx0 h).2.below hb2⟩,fun h => ⟨(hx1 h).1,(hx1 h).2.below hb2⟩,fun h => ⟨(hx2 h).1,by have hq := (hx2 h).2.below hb2; rw [if_neg (by rw [hz2]; decide)] at hq ⊢; exact hq⟩,hd01,hd02,hd12⟩
   revert hv hcnd; cases c0 <;> cases c1 <;> cases a0 <;> cases a1 <;> cases a2 <;> cases s0 <;> cases s1 <;> cases s2 <;> decide
  ·try dsimp only at hcnd
   refine wpOp_step (by simp only [List.getElem?_toArray,List.getElem?_cons_zero,List.getElem?_cons_succ]; rfl) (fun K hK => ?_)
   go_simp
   refine hK _ _ ?_
   try simp only [Act.put,Ord.t,Ord.z,Ord.s]
   have hb2 : Below w'.heap.size w' (w'.alloc (.cells #[.int .i64 0] 3)) := (Below.refl _ _).alloc (Nat.le_refl _) _
   have hz : s0 = false := by revert hv hcnd; cases s0 <;> cases a0 <;> simp_all
   refine ⟨c0,c1,true,a1,a2,s0,s1,s2,u13,u17,.pointer (some ⟨w'.heap.size,0,none⟩),u6,u7,w'.heap.size,b1,b2,(w'.heap.size :: bs),rfl,rfl,?_,hb.trans (hb2.mono hb.size),fun c h => by rcases List.mem_cons.1 h with rfl | h; exact (by simp); exact Nat.lt_of_lt_of_le (hbs c h) hb2.size,fun h => ((hm0 h).more (Nat.le_refl _)).below hP0 hb2,fun h => ((hm1 h).more (Nat.le_refl _)).below hP1 hb2,fun _ => ⟨by simp,rfl,hb.size,by rw [if_neg (by rw [hz]; decide)]; exact Bk.new _ _ _⟩,fun h => ⟨by simp [(hx1 h).1],(hx1 h).2.below hb2⟩,fun h => ⟨by simp [(hx2 h).1],(hx2 h).2.below hb2⟩,fun _ h => by have := hbs _ (hx1 h).1; omega,fun _ h => by have := hbs _ (hx2 h).1; omega,hd12⟩
   revert hv hcnd; cases c0 <;> cases c1 <;> cases a0 <;> cases a1 <;> cases a2 <;> cases s0 <;> cases s1 <;> cases s2 <;> decide
  ·try dsimp only at hcnd
   refine wpOp_step (by simp only [List.getElem?_toArray,List.getElem?_cons_zero,List.getElem?_cons_succ]; rfl) (fun K hK => ?_)
   go_simp
   refine hK _ _ ?_
   try simp only [Act.put,Ord.t,Ord.z,Ord.s]
   have hb2 : Below w'.heap.size w' (w'.alloc (.cells #[.nilFunc] 125)) := (Below.refl _ _).alloc (Nat.le_refl _) _
   have hz : s1 = false := by revert hv hcnd; cases s1 <;> cases a1 <;> simp_all
   refine ⟨c0,c1,a0,true,a2,s0,s1,s2,u13,u17,u5,.pointer (some ⟨w'.heap.size,0,none⟩),u7,b0,w'.heap.size,b2,(w'.heap.size :: bs),rfl,rfl,?_,hb.trans (hb2.mono hb.size),fun c h => by rcases List.mem_cons.1 h with rfl | h; exact (by simp); exact Nat.lt_of_lt_of_le (hbs c h) hb2.size,fun h => ((hm0 h).more (Nat.le_refl _)).below hP0 hb2,fun h => ((hm1 h).more (Nat.le_refl _)).below hP1 hb2,fun h => ⟨by simp [(hx0 h).1],(hx0 h).2.below hb2⟩,fun _ => ⟨by simp,rfl,hb.size,by rw [if_neg (by rw [hz]; decide)]; exact Bk.new _ _ _⟩,fun h => ⟨by simp [(hx2 h).1],(hx2 h).2.below hb2⟩,fun h _ => by have := hbs _ (hx0 h).1; omega,hd02,fun _ h => by have := hbs _ (hx2 h).1; omega⟩
   revert hv hcnd; cases c0 <;> cases c1 <;> cases a0 <;> cases a1 <;> cases a2 <;> cases s0 <;> cases s1 <;> cases s2 <;> decide
  ·try dsimp only at hcnd
   refine wpOp_step (by simp only [List.getElem?_toArray,List.getElem?_cons_zero,List.getElem?_cons_succ]; rfl) (fun K hK => ?_)
   go_simp
   refine hK _ _ ?_
   try simp only [Act.put,Ord.t,Ord.z,Ord.s]
   have hb2 : Below w'.heap.size w' (w'.alloc (.cells #[.nilFunc] 125)) := (Below.refl _ _).alloc (Nat.le_refl _) _
   have hz : s2 = false := by revert hv hcnd; cases s2 <;> cases a2 <;> simp_all
   refine ⟨c0,c1,a0,a1,true,s0,s1,s2,u13,u17,u5,u6,.pointer (some ⟨w'.heap.size,0,none⟩),b0,b1,w'.heap.size,(w'.heap.size :: bs),rfl,rfl,?_,hb.trans (hb2.mono hb.size),fun c h => by rcases List.mem_cons.1 h with rfl | h; exact (by simp); exact Nat.lt_of_lt_of_le (hbs c h) hb2.size,fun h => ((hm0 h).more (Nat.le_refl _)).below hP0 hb2,fun h => ((hm1 h).more (Nat.le_refl _)).below hP1 hb2,fun h => ⟨by simp [(hx0 h).1],(hx0 h).2.below hb2⟩,fun h => ⟨by simp [(hx1 h).1],(hx1 h).2.below hb2⟩,fun _ => ⟨by simp,rfl,hb.size,by rw [if_neg (by rw [hz]; decide)]; exact Bk.new _ _ _⟩,hd01,fun h _ => by have := hbs _ (hx0 h).1; omega,fun h _ => by have := hbs _ (hx1 h).1; omega⟩
   revert hv hcnd; cases c0 <;> cases c1 <;> cases a0 <;> cases a1 <;> cases a2 <;> cases s0 <;> cases s1 <;> cases s2 <;> decide
  ·try dsimp only at hcnd
   have ha0 : a0 = true := by revert hcnd; cases a0 <;> simp
   have hz : s0 = false := by revert hcnd; cases s0 <;> simp
   obtain ⟨hin,rfl,hlo,hbk⟩ := hx0 ha0
   rw [if_neg (by rw [hz]; decide)] at hbk
   have hce := hbk.cell 0 rfl
   have hfr := hbk.fr 0
   refine wpOp_step (by simp only [List.getElem?_toArray,List.getElem?_cons_zero,List.getElem?_cons_succ]; rfl) (fun K hK => ?_)
   go_simp
   refine hK _ _ ?_
   try simp only [Act.put,Ord.t,Ord.z,Ord.s]
   refine ⟨c0,c1,a0,a1,a2,true,s1,s2,u13,u17,.pointer (some ⟨b0,0,none⟩),u6,u7,b0,b1,b2,bs,rfl,rfl,?_,(hb.setCell hlo _),fun c h => by simp [World.setCell]; exact hbs c h,fun h => Made.set hP0 (hm0 h) hin _,fun h => Made.set hP1 (hm1 h) hin _,fun _ => ⟨hin,rfl,hlo,by rw [if_pos rfl]; exact hbk.set 0 _⟩,fun h => ⟨(hx1 h).1,(hx1 h).2.far ((hd01 ha0 h).symm) _⟩,fun h => ⟨(hx2 h).1,(hx2 h).2.far ((hd02 ha0 h).symm) _⟩,hd01,hd02,hd12⟩
   revert hv hcnd; cases c0 <;> cases c1 <;> cases a0 <;> cases a1 <;> cases a2 <;> cases s0 <;> cases s1 <;> cases s2 <;> decide
  ·try dsimp only at hcnd
   have ha1 : a1 = true := by revert hcnd; cases a1 <;> simp
   have hz : s1 = false := by revert hcnd; cases s1 <;> simp
   have hc : c0 = true := by revert hcnd; cases c0 <;> simp
   obtain ⟨l,h,hl1,hl2,hl3,hp,hl4⟩ := hm0 hc
   obtain ⟨fk,fd,rfl⟩ := hF0 _ _ _ _ hp
   have hm0 := fun (_ : c0 = true) => (⟨l,h,hl1,hl2,hl3,hp,hl4⟩ : Made P0 w.heap.size w' bs (.func (.func fk) #[] fd))
   obtain ⟨hin,rfl,hlo,hbk⟩ := hx1 ha1
   rw [if_neg (by rw [hz]; decide)] at hbk
   have hce := hbk.cell 0 rfl
   have hfr := hbk.fr 0
   refine wpOp_step (by simp only [List.getElem?_toArray,List.getElem?_cons_zero,List.getElem?_cons_succ]; rfl) (fun K hK => ?_)
   go_simp
   refine hK _ _ ?_
   try simp only [Act.put,Ord.t,Ord.z,Ord.s]
   refine ⟨c0,c1,a0,a1,a2,s0,true,s2,.func (.func fk) #[] fd,u17,u5,.pointer (some ⟨b1,0,none⟩),u7,b0,b1,b2,bs,rfl,rfl,?_,(hb.setCell hlo _),fun c h => by simp [World.setCell]; exact hbs c h,fun h => Made.set hP0 (hm0 h) hin _,fun h => Made.set hP1 (hm1 h) hin _,fun h => ⟨(hx0 h).1,(hx0 h).2.far (hd01 h ha1) _⟩,fun _ => ⟨hin,rfl,hlo,by rw [if_pos rfl]; exact hbk.set 0 _⟩,fun h => ⟨(hx2 h).1,(hx2 h).2.far ((hd12 ha1 h).symm) _⟩,hd01,hd02,hd12⟩
   revert hv hcnd; cases c0 <;> cases c1 <;> cases a0 <;> cases a1 <;> cases a2 <;> cases s0 <;> cases s1 <;> cases s2 <;> decide
  ·try dsimp only at hcnd
   have ha2 : a2 = true := by revert hcnd; cases a2 <;> simp
   have hz : s2 = false := by revert hcnd; cases s2 <;> simp
   have hc : c1 = true := by revert hcnd; cases c1 <;> simp
   obtain ⟨l,h,hl1,hl2,hl3,hp,hl4⟩ := hm1 hc
   obtain ⟨fk,fd,rfl⟩ := hF1 _ _ _ _ hp
   have hm1 := fun (_ : c1 = true) => (⟨l,h,hl1,hl2,hl3,hp,hl4⟩ : Made P1 w.heap.size w' bs (.func (.func fk) #[] fd))
   obtain ⟨hin,rfl,hlo,hbk⟩ := hx2 ha2
   rw [if_neg (by rw [hz]; decide)] at hbk
   have hce := hbk.cell 0 rfl
   have hfr := hbk.fr 0
   refine wpOp_step (by simp only [List.getElem?_toArray,List.getElem?_cons_zero,List.getElem?_cons_succ]; rfl) (fun K hK => ?_)
   go_simp
   refine hK _ _ ?_
   try simp only [Act.put,Ord.t,Ord.z,Ord.s]
   refine ⟨c0,c1,a0,a1,a2,s0,s1,true,u13,.func (.func fk) #[] fd,u5,u6,.pointer (some ⟨b2,0,none⟩),b0,b1,b2,bs,rfl,rfl,?_,(hb.setCell hlo _),fun c h => by simp [World.setCell]; exact hbs c h,fun h => Made.set hP0 (hm0 h) hin _,fun h => Made.set hP1 (hm1 h) hin _,fun h => ⟨(hx0 h).1,(hx0 h).2.far (hd02 h ha2) _⟩,fun h => ⟨(hx1 h).1,(hx1 h).2.far (hd12 h ha2) _⟩,fun _ => ⟨hin,rfl,hlo,by rw [if_pos rfl]; exact hbk.set 0 _⟩,hd01,hd02,hd12⟩
   revert hv hcnd; cases c0 <;> cases c1 <;> cases a0 <;> cases a1 <;> cases a2 <;> cases s0 <;> cases s1 <;> cases s2 <;> decide
 ·refine ⟨false,false,false,false,false,false,false,false,g 13,g 17,g 5,g 6,g 7,0,0,0,[],by kernel_rfl,rfl,rfl,HD.out,fun b h => (by cases h),(fun h => by cases h),(fun h => by cases h),(fun h => by cases h),(fun h => by cases h),(fun h => by cases h),(fun h => by cases h),(fun h => by cases h),(fun h => by cases h)⟩
noncomputable def mSelCode : Code := Tryz.f97.body.getD .skip
noncomputable def mSelOps : Array Oper := opsC (fstC (sndC mSelCode))
theorem mSel_rdy : ∀ (c0 c1 c2 a0 a1 a2 s0 s1 s2 : Bool),(!((!c1 || c0) && (!c2 || c1) && (!s0 || (c2 && a0)) && (!s1 || (s0 && a1)) && (!s2 || (s1 && a2))) || (Region.ready .any mSelOps #[true,true,true,c0,true,true,true,c1,true,true,true,c2,a0,a1,a2,s0,s1,s2]).all (fun i => match i with
   | 3 => !c0
   | 7 => c0 && !c1
   | 11 => c0 && c1 && !c2
   | 12 => !a0
   | 13 => !a1
   | 14 => !a2
   | 15 => c0 && c1 && c2 && a0 && !s0
   | 16 => c0 && c1 && c2 && a1 && s0 && !s1
   | 17 => c0 && c1 && c2 && a2 && s0 && s1 && !s2
   | _ => false)) = true := by decide +kernel
theorem mSel_end : ∀ (c0 c1 c2 a0 a1 a2 s0 s1 s2 : Bool),(!((!c1 || c0) && (!c2 || c1) && (!s0 || (c2 && a0)) && (!s1 || (s0 && a1)) && (!s2 || (s1 && a2))) || !(Region.ready .any mSelOps #[true,true,true,c0,true,true,true,c1,true,true,true,c2,a0,a1,a2,s0,s1,s2]).isEmpty || (c0 && c1 && c2 && a0 && a1 && a2 && s0 && s1 && s2)) = true := by decide +kernel
def mSelJ (P0 P1 P2 : World → Nat → Nat → Value → Prop) (M bE : Nat) (p : Option Addr) (n c : Nat) (g : Nat → Value) (w : World) (d : Array Bool) (a : Act) (w' : World) : Prop := ∃ (c0 c1 c2 a0 a1 a2 s0 s1 s2 : Bool) (u11 u15 u19 u5 u6 u7 : Value) (b0 b1 b2 : Nat) (bs : List Nat),d = #[true,true,true,c0,true,true,true,c1,true,true,true,c2,a0,a1,a2,s0,s1,s2] ∧ a = ⟨#[.pointer (some ⟨M,0,none⟩),g 1,g 2,.pointer (some ⟨bE,0,none⟩),g 4,u5,u6,u7,.pointer (some ⟨M,0,none⟩),.pointer (some ⟨bE,3,none⟩),.slice p n c,u11,.pointer (some ⟨M,0,none⟩),.pointer (some ⟨bE,3,none⟩),.slice p n c,u15,.pointer (some ⟨M,0,none⟩),.pointer (some ⟨bE,3,none⟩),.slice p n c,u19,g 20],[]⟩ ∧ ((!c1 || c0) && (!c2 || c1) && (!s0 || (c2 && a0)) && (!s1 || (s0 && a1)) && (!s2 || (s1 && a2))) = true ∧ Below w.heap.size w w' ∧ (∀ b ∈ bs,b < w'.heap.size) ∧ (c0 = true → Made P0 w.heap.size w' bs u11) ∧ (c1 = true → Made P1 w.heap.size w' bs u15) ∧ (c2 = true → Made P2 w.heap.size w' bs u19) ∧ (a0 = true → b0 ∈ bs ∧ Boxed w.heap.size w' 125 b0 u5 (if s0 = true then u11 else .nilFunc)) ∧ (a1 = true → b1 ∈ bs ∧ Boxed w.heap.size w' 125 b1 u6 (if s1 = true then u15 else .nilFunc)) ∧ (a2 = true → b2 ∈ bs ∧ Boxed w.heap.size w' 125 b2 u7 (if s2 = true then u19 else .nilFunc)) ∧ (a0 = true → a1 = true → b0 ≠ b1) ∧ (a0 = true → a2 = true → b0 ≠ b2) ∧ (a1 = true → a2 = true → b1 ≠ b2)
def mSelP (P0 P1 P2 : World → Nat → Nat → Value → Prop) (M bE : Nat) (p : Option Addr) (n c : Nat) (g : Nat → Value) (w : World) (e : Exit) (a' : Act) (w' : World) : Prop := e = .normal ∧ ∃ (u11 u15 u19 : Value) (b0 b1 b2 : Nat),a' = ⟨#[.pointer (some ⟨M,0,none⟩),g 1,g 2,.pointer (some ⟨bE,0,none⟩),g 4,.pointer (some ⟨b0,0,none⟩),.pointer (some ⟨b1,0,none⟩),.pointer (some ⟨b2,0,none⟩),.pointer (some ⟨M,0,none⟩),.pointer (some ⟨bE,3,none⟩),.slice p n c,u11,.pointer (some ⟨M,0,none⟩),.pointer (some ⟨bE,3,none⟩),.slice p n c,u15,.pointer (some ⟨M,0,none⟩),.pointer (some ⟨bE,3,none⟩),.slice p n c,u19,g 20],[]⟩ ∧ Below w.heap.size w w' ∧ Made P0 w.heap.size w' [] u11 ∧ Made P1 w.heap.size w' [] u15 ∧ Made P2 w.heap.size w' [] u19 ∧ (w.heap.size ≤ b0 ∧ Bk w' b0 [u11] 125) ∧ (w.heap.size ≤ b1 ∧ Bk w' b1 [u15] 125) ∧ (w.heap.size ≤ b2 ∧ Bk w' b2 [u19] 125)
theorem mSel_reg (P0 P1 P2 : World → Nat → Nat → Value → Prop) (M bE : Nat) (p : Option Addr) (n c : Nat) (g : Nat → Value) (w : World) (hP0 : Stays P0) (hP1 : Stays P1) (hP2 : Stays P2) (hF0 : ∀ w l h u,P0 w l h u → ∃ k d,u = .func (.func k) #[] d) (hF1 : ∀ w l h u,P1 w l h u → ∃ k d,u = .func (.func k) #[] d) (hF2 : ∀ w l h u,P2 w l h u → ∃ k d,u = .func (.func k) #[] d) (hS3 : w.cell? ⟨bE,3,none⟩ = some (.slice p n c)) (HC0 : Hid (∀ W,Below w.heap.size w W → Calls Tryz.prog 61 #[.pointer (some ⟨M,0,none⟩),.slice p n c,.int .i64 0] W fun r W' => ∃ v,r = .returned v ∧ Below W.heap.size W W' ∧ P0 W' W.heap.size W'.heap.size v)) (HC1 : Hid (∀ W,Below w.heap.size w W → Calls Tryz.prog 61 #[.pointer (some ⟨M,0,none⟩),.slice p n c,.int .i64 1] W fun r W' => ∃ v,r = .returned v ∧ Below W.heap.size W W' ∧ P1 W' W.heap.size W'.heap.size v)) (HC2 : Hid (∀ W,Below w.heap.size w W → Calls Tryz.prog 61 #[.pointer (some ⟨M,0,none⟩),.slice p n c,.int .i64 2] W fun r W' => ∃ v,r = .returned v ∧ Below W.heap.size W W' ∧ P2 W' W.heap.size W'.heap.size v)) : (fstC (sndC mSelCode)).wp Tryz.prog (mSelP P0 P1 P2 M bE p n c g w) ⟨#[.pointer (some ⟨M,0,none⟩),g 1,g 2,.pointer (some ⟨bE,0,none⟩),g 4,g 5,g 6,g 7,g 8,g 9,g 10,g 11,g 12,g 13,g 14,g 15,g 16,g 17,g 18,g 19,g 20],[]⟩ w := by
 conv => arg 2; whnf
 refine wp_region_noPanic ?_
 refine Ord.wpM_begin (fun W' : World => W'.cell? ⟨bE,3,none⟩ = some (.slice p n c)) [0,1,2,3,4,5,6,7,8,9,10,11,12,13,14,15,16,17] (by kernel_rfl) ?_
 have HSS : Hid (∀ W' : World,Below w.heap.size w W' → (W'.cell? ⟨bE,3,none⟩ = some (.slice p n c))) := fun W' hW => keep_cell hW hS3
 have HD : Hid (Below w.heap.size w w.drew) := Below.drew (Below.refl _ _)
 generalize w.drew = wd at *
 have hS := HSS.out wd HD.out
 refine Ord.tk (i:=0) (v:=.pointer (some ⟨M,0,none⟩)) (hy:=Or.inl ⟨by rfl,by intro W' hW; have q0 := hW; go_simp⟩) (hS:=hS) (h:=?_)
 try simp only [Act.put,Ord.t,Ord.z,Ord.s]
 refine Ord.tk (i:=1) (v:=.pointer (some ⟨bE,3,none⟩)) (hy:=Or.inl ⟨by rfl,by intro W' hW; have q0 := hW; go_simp⟩) (hS:=hS) (h:=?_)
 try simp only [Act.put,Ord.t,Ord.z,Ord.s]
 refine Ord.tk (i:=2) (v:=.slice p n c) (hy:=Or.inl ⟨by rfl,by intro W' hW; have q0 := hW; go_simp⟩) (hS:=hS) (h:=?_)
 try simp only [Act.put,Ord.t,Ord.z,Ord.s]
 refine Ord.tk (i:=4) (v:=.pointer (some ⟨M,0,none⟩)) (hy:=Or.inl ⟨by rfl,by intro W' hW; have q0 := hW; go_simp⟩) (hS:=hS) (h:=?_)
 try simp only [Act.put,Ord.t,Ord.z,Ord.s]
 refine Ord.tk (i:=5) (v:=.pointer (some ⟨bE,3,none⟩)) (hy:=Or.inl ⟨by rfl,by intro W' hW; have q0 := hW; go_simp⟩) (hS:=hS) (h:=?_)
 try simp only [Act.put,Ord.t,Ord.z,Ord.s]
 refine Ord.tk (i:=6) (v:=.slice p n c) (hy:=Or.inl ⟨by rfl,by intro W' hW; have q0 := hW; go_simp⟩) (hS:=hS) (h:=?_)
 try simp only [Act.put,Ord.t,Ord.z,Ord.s]
 refine Ord.tk (i:=8) (v:=.pointer (some ⟨M,0,none⟩)) (hy:=Or.inl ⟨by rfl,by intro W' hW; have q0 := hW; go_simp⟩) (hS:=hS) (h:=?_)
 try simp only [Act.put,Ord.t,Ord.z,Ord.s]
 refine Ord.tk (i:=9) (v:=.pointer (some ⟨bE,3,none⟩)) (hy:=Or.inl ⟨by rfl,by intro W' hW; have q0 := hW; go_simp⟩) (hS:=hS) (h:=?_)
 try simp only [Act.put,Ord.t,Ord.z,Ord.s]
 refine Ord.tk (i:=10) (v:=.slice p n c) (hy:=Or.inl ⟨by rfl,by intro W' hW; have q0 := hW; go_simp⟩) (hS:=hS) (h:=?_)
 try simp only [Act.put,Ord.t,Ord.z,Ord.s]
 refine Ord.wpM_inv (mSelJ P0 P1 P2 M bE p n c g w) (fun d a w' h => ?_) (fun d a w' h hr => ?_) (fun d a w' hJ i hi => ?_) _ _ _ _ (of_decide_eq_true (by kernel_rfl)) ?_
 ·obtain ⟨c0,c1,c2,a0,a1,a2,s0,s1,s2,u11,u15,u19,u5,u6,u7,b0,b1,b2,bs,_,_,_,hb,_⟩ := h
  exact HSS.out w' hb
 ·refine NoPanic.normal ?_
  obtain ⟨c0,c1,c2,a0,a1,a2,s0,s1,s2,u11,u15,u19,u5,u6,u7,b0,b1,b2,bs,rfl,rfl,hv,hb,hbs,hm0,hm1,hm2,hx0,hx1,hx2,hd01,hd02,hd12⟩ := h
  have he := mSel_end c0 c1 c2 a0 a1 a2 s0 s1 s2
  rw [hv] at he
  have he2 : (Region.ready .any mSelOps #[true,true,true,c0,true,true,true,c1,true,true,true,c2,a0,a1,a2,s0,s1,s2]).isEmpty = true := by rw [show Region.ready .any mSelOps #[true,true,true,c0,true,true,true,c1,true,true,true,c2,a0,a1,a2,s0,s1,s2] = [] from hr]; rfl
  rw [he2] at he
  simp only [Bool.not_true,Bool.false_or,Bool.and_eq_true] at he
  obtain ⟨⟨⟨⟨⟨⟨⟨⟨rfl,rfl⟩,rfl⟩,rfl⟩,rfl⟩,rfl⟩,rfl⟩,rfl⟩,rfl⟩ := he
  skip
  obtain ⟨_,rfl,hlo0,hbk0⟩ := hx0 rfl
  obtain ⟨_,rfl,hlo1,hbk1⟩ := hx1 rfl
  obtain ⟨_,rfl,hlo2,hbk2⟩ := hx2 rfl
  exact ⟨rfl,u11,u15,u19,b0,b1,b2,rfl,hb,nobox (hm0 rfl),nobox (hm1 rfl),nobox (hm2 rfl),⟨hlo0,hbk0⟩,⟨hlo1,hbk1⟩,⟨hlo2,hbk2⟩⟩
 ·obtain ⟨c0,c1,c2,a0,a1,a2,s0,s1,s2,u11,u15,u19,u5,u6,u7,b0,b1,b2,bs,rfl,rfl,hv,hb,hbs,hm0,hm1,hm2,hx0,hx1,hx2,hd01,hd02,hd12⟩ := hJ
  have hcnd := mSel_rdy c0 c1 c2 a0 a1 a2 s0 s1 s2
  rw [hv,Bool.not_true,Bool.false_or] at hcnd
  have hcnd := List.all_eq_true.1 hcnd i hi
  have hlt : i < 18 := List.mem_range.1 (List.mem_filter.1 hi).1
  rcases (show i = 0 ∨ i = 1 ∨ i = 2 ∨ i = 3 ∨ i = 4 ∨ i = 5 ∨ i = 6 ∨ i = 7 ∨ i = 8 ∨ i = 9 ∨ i = 10 ∨ i = 11 ∨ i = 12 ∨ i = 13 ∨ i = 14 ∨ i = 15 ∨ i = 16 ∨ i = 17 by omega) with rfl | rfl | rfl | rfl | rfl | rfl | rfl | rfl | rfl | rfl | rfl | rfl | rfl | rfl | rfl | rfl | rfl | rfl
  ·cases hcnd
  ·cases hcnd
  ·cases hcnd
  ·try dsimp only at hcnd
   have hz0 : s0 = false := by revert hv hcnd; cases s0 <;> cases c0 <;> simp_all
   refine wpOp_step (by simp only [List.getElem?_toArray,List.getElem?_cons_zero,List.getElem?_cons_succ]; rfl) (fun K hK => ?_)
   go_simp
   refine (HC0.out w' hb).mono ?_
   rintro r w2 ⟨v,rfl,hb2,hp2⟩
   go_simp
   refine hK _ _ ?_
   try simp only [Act.put,Ord.t,Ord.z,Ord.s]
   refine ⟨true,c1,c2,a0,a1,a2,s0,s1,s2,v,u15,u19,u5,u6,u7,b0,b1,b2,bs,rfl,rfl,?_,hb.trans (hb2.mono hb.size),fun b h => Nat.lt_of_lt_of_le (hbs b h) hb2.size,fun _ => ⟨w'.heap.size,w2.heap.size,hb.size,hb2.size,Nat.le_refl _,hp2,fun b h => .inl (hbs b h)⟩,fun h => (hm1 h).below hP1 hb2,fun h => (hm2 h).below hP2 hb2,fun h => ⟨(hx0 h).1,by have hq := (hx0 h).2.below hb2; rw [if_neg (by rw [hz0]; decide)] at hq ⊢; exact hq⟩,fun h => ⟨(hx1 h).1,(hx1 h).2.below hb2⟩,fun h => ⟨(hx2 h).1,(hx2 h).2.below hb2⟩,hd01,hd02,hd12⟩
   revert hv hcnd; cases c0 <;> cases c1 <;> cases c2 <;> cases a0 <;> cases a1 <;> cases a2 <;> cases s0 <;> cases s1 <;> cases s2 <;> decide
  ·cases hcnd
  ·cases hcnd
  ·cases hcnd
  ·try dsimp only at hcnd
   have hz1 : s1 = false := by revert hv hcnd; cases s1 <;> cases c1 <;> simp_all
   refine wpOp_step (by simp only [List.getElem?_toArray,List.getElem?_cons_zero,List.getElem?_cons_succ]; rfl) (fun K hK => ?_)
   go_simp
   refine (HC1.out w' hb).mono ?_
   rintro r w2 ⟨v,rfl,hb2,hp2⟩
   go_simp
   refine hK _ _ ?_
   try simp only [Act.put,Ord.t,Ord.z,Ord.s]
   refine ⟨c0,true,c2,a0,a1,a2,s0,s1,s2,u11,v,u19,u5,u6,u7,b0,b1,b2,bs,rfl,rfl,?_,hb.trans (hb2.mono hb.size),fun b h => Nat.lt_of_lt_of_le (hbs b h) hb2.size,fun h => (hm0 h).below hP0 hb2,fun _ => ⟨w'.heap.size,w2.heap.size,hb.size,hb2.size,Nat.le_refl _,hp2,fun b h => .inl (hbs b h)⟩,fun h => (hm2 h).below hP2 hb2,fun h => ⟨(hx0 h).1,(hx0 h).2.below hb2⟩,fun h => ⟨(hx1 h).1,by have hq := (hx1 h).2.below hb2; rw [if_neg (by rw [hz1]; decide)] at hq ⊢; exact hq⟩,fun h => ⟨(hx2 h).1,(hx2 h).2.below hb2⟩,hd01,hd02,hd12⟩
   revert hv hcnd; cases c0 <;> cases c1 <;> cases c2 <;> cases a0 <;> cases a1 <;> cases a2 <;> cases s0 <;> cases s1 <;> cases s2 <;> decide
  ·cases hcnd
  ·cases hcnd
  ·cases hcnd
  ·try dsimp only at hcnd
   have hz2 : s2 = false := by revert hv hcnd; cases s2 <;> cases c2 <;> simp_all
   refine wpOp_step (by simp only [List.getElem?_toArray,List.getElem?_cons_zero,List.getElem?_cons_succ]; rfl) (fun K hK => ?_)
   go_simp
   refine (HC2.out w' hb).mono ?_
   rintro r w2 ⟨v,rfl,hb2,hp2⟩
   go_simp
   refine hK _ _ ?_
   try simp only [Act.put,Ord.t,Ord.z,Ord.s]
   refine ⟨c0,c1,true,a0,a1,a2,s0,s1,s2,u11,u15,v,u5,u6,u7,b0,b1,b2,bs,rfl,rfl,?_,hb.trans (hb2.mono hb.size),fun b h => Nat.lt_of_lt_of_le (hbs b h) hb2.size,fun h => (hm0 h).below hP0 hb2,fun h => (hm1 h).below hP1 hb2,fun _ => ⟨w'.heap.size,w2.heap.size,hb.size,hb2.size,Nat.le_refl _,hp2,fun b h => .inl (hbs b h)⟩,fun h => ⟨(hx0 h).1,(hx0 h).2.below hb2⟩,fun h => ⟨(hx1 h).1,(hx1 h).2.below hb2⟩,fun h => ⟨(hx2 h).1,by have hq := (hx2 h).2.below hb2; rw [if_neg (by rw [hz2]; decide)] at hq ⊢; exact hq⟩,hd01,hd02,hd12⟩
   revert hv hcnd; cases c0 <;> cases c1 <;> cases c2 <;> cases a0 <;> cases a1 <;> cases a2 <;> cases s0 <;> cases s1 <;> cases s2 <;> decide
  ·try dsimp only at hcnd
   refine wpOp_step (by simp only [List.getElem?_toArray,List.getElem?_cons_zero,List.getElem?_cons_succ]; rfl) (fun K hK => ?_)
   go_simp
   refine hK _ _ ?_
   try simp only [Act.put,Ord.t,Ord.z,Ord.s]
   have hb2 : Below w'.heap.size w' (w'.alloc (.cells #[.nilFunc] 125)) := (Below.refl _ _).alloc (Nat.le_refl _) _
   have hz : s0 = false := by revert hv hcnd; cases s0 <;> cases a0 <;> simp_all
   refine ⟨c0,c1,c2,true,a1,a2,s0,s1,s2,u11,u15,u19,.pointer (some ⟨w'.heap.size,0,none⟩),u6,u7,w'.heap.size,b1,b2,(w'.heap.size :: bs),rfl,rfl,?_,hb.trans (hb2.mono hb.size),fun c h => by rcases List.mem_cons.1 h with rfl | h; exact (by simp); exact Nat.lt_of_lt_of_le (hbs c h) hb2.size,fun h => ((hm0 h).more (Nat.le_refl _)).below hP0 hb2,fun h => ((hm1 h).more (Nat.le_refl _)).below hP1 hb2,fun h => ((hm2 h).more (Nat.le_refl _)).below hP2 hb2,fun _ => ⟨by simp,rfl,hb.size,by rw [if_neg (by rw [hz]; decide)]; exact Bk.new _ _ _⟩,fun h => ⟨by simp [(hx1 h).1],(hx1 h).2.below hb2⟩,fun h => ⟨by simp [(hx2 h).1],(hx2 h).2.below hb2⟩,fun _ h => by have := hbs _ (hx1 h).1; omega,fun _ h => by have := hbs _ (hx2 h).1; omega,hd12⟩
   revert hv hcnd; cases c0 <;> cases c1 <;> cases c2 <;> cases a0 <;> cases a1 <;> cases a2 <;> cases s0 <;> cases s1 <;> cases s2 <;> decide
  ·try dsimp only at hcnd
   refine wpOp_step (by simp only [List.getElem?_toArray,List.getElem?_cons_zero,List.getElem?_cons_succ]; rfl) (fun K hK => ?_)
   go_simp
   refine hK _ _ ?_
   try simp only [Act.put,Ord.t,Ord.z,Ord.s]
   have hb2 : Below w'.heap.size w' (w'.alloc (.cells #[.nilFunc] 125)) := (Below.refl _ _).alloc (Nat.le_refl _) _
   have hz : s1 = false := by revert hv hcnd; cases s1 <;> cases a1 <;> simp_all
   refine ⟨c0,c1,c2,a0,true,a2,s0,s1,s2,u11,u15,u19,u5,.pointer (some ⟨w'.heap.size,0,none⟩),u7,b0,w'.heap.size,b2,(w'.heap.size :: bs),rfl,rfl,?_,hb.trans (hb2.mono hb.size),fun c h => by rcases List.mem_cons.1 h with rfl | h; exact (by simp); exact Nat.lt_of_lt_of_le (hbs c h) hb2.size,fun h => ((hm0 h).more (Nat.le_refl _)).below hP0 hb2,fun h => ((hm1 h).more (Nat.le_refl _)).below hP1 hb2,fun h => ((hm2 h).more (Nat.le_refl _)).below hP2 hb2,fun h => ⟨by simp [(hx0 h).1],(hx0 h).2.below hb2⟩,fun _ => ⟨by simp,rfl,hb.size,by rw [if_neg (by rw [hz]; decide)]; exact Bk.new _ _ _⟩,fun h => ⟨by simp [(hx2 h).1],(hx2 h).2.below hb2⟩,fun h _ => by have := hbs _ (hx0 h).1; omega,hd02,fun _ h => by have := hbs _ (hx2 h).1; omega⟩
   revert hv hcnd; cases c0 <;> cases c1 <;> cases c2 <;> cases a0 <;> cases a1 <;> cases a2 <;> cases s0 <;> cases s1 <;> cases s2 <;> decide
  ·try dsimp only at hcnd
   refine wpOp_step (by simp only [List.getElem?_toArray,List.getElem?_cons_zero,List.getElem?_cons_succ]; rfl) (fun K hK => ?_)
   go_simp
   refine hK _ _ ?_
   try simp only [Act.put,Ord.t,Ord.z,Ord.s]
   have hb2 : Below w'.heap.size w' (w'.alloc (.cells #[.nilFunc] 125)) := (Below.refl _ _).alloc (Nat.le_refl _) _
   have hz : s2 = false := by revert hv hcnd; cases s2 <;> cases a2 <;> simp_all
   refine ⟨c0,c1,c2,a0,a1,true,s0,s1,s2,u11,u15,u19,u5,u6,.pointer (some ⟨w'.heap.size,0,none⟩),b0,b1,w'.heap.size,(w'.heap.size :: bs),rfl,rfl,?_,hb.trans (hb2.mono hb.size),fun c h => by rcases List.mem_cons.1 h with rfl | h; exact (by simp); exact Nat.lt_of_lt_of_le (hbs c h) hb2.size,fun h => ((hm0 h).more (Nat.le_refl _)).below hP0 hb2,fun h => ((hm1 h).more (Nat.le_refl _)).below hP1 hb2,fun h => ((hm2 h).more (Nat.le_refl _)).below hP2 hb2,fun h => ⟨by simp [(hx0 h).1],(hx0 h).2.below hb2⟩,fun h => ⟨by simp [(hx1 h).1],(hx1 h).2.below hb2⟩,fun _ => ⟨by simp,rfl,hb.size,by rw [if_neg (by rw [hz]; decide)]; exact Bk.new _ _ _⟩,hd01,fun h _ => by have := hbs _ (hx0 h).1; omega,fun h _ => by have := hbs _ (hx1 h).1; omega⟩
   revert hv hcnd; cases c0 <;> cases c1 <;> cases c2 <;> cases a0 <;> cases a1 <;> cases a2 <;> cases s0 <;> cases s1 <;> cases s2 <;> decide
  ·try dsimp only at hcnd
   have ha0 : a0 = true := by revert hcnd; cases a0 <;> simp
   have hz : s0 = false := by revert hcnd; cases s0 <;> simp
   have hc : c0 = true := by revert hcnd; cases c0 <;> simp
   obtain ⟨l,h,hl1,hl2,hl3,hp,hl4⟩ := hm0 hc
   obtain ⟨fk,fd,rfl⟩ := hF0 _ _ _ _ hp
   have hm0 := fun (_ : c0 = true) => (⟨l,h,hl1,hl2,hl3,hp,hl4⟩ : Made P0 w.heap.size w' bs (.func (.func fk) #[] fd))
   obtain ⟨hin,rfl,hlo,hbk⟩ := hx0 ha0
   rw [if_neg (by rw [hz]; decide)] at hbk
   have hce := hbk.cell 0 rfl
   have hfr := hbk.fr 0
   refine wpOp_step (by simp only [List.getElem?_toArray,List.getElem?_cons_zero,List.getElem?_cons_succ]; rfl) (fun K hK => ?_)
   go_simp
   refine hK _ _ ?_
   try simp only [Act.put,Ord.t,Ord.z,Ord.s]
   refine ⟨c0,c1,c2,a0,a1,a2,true,s1,s2,.func (.func fk) #[] fd,u15,u19,.pointer (some ⟨b0,0,none⟩),u6,u7,b0,b1,b2,bs,rfl,rfl,?_,(hb.setCell hlo _),fun c h => by simp [World.setCell]; exact hbs c h,fun h => Made.set hP0 (hm0 h) hin _,fun h => Made.set hP1 (hm1 h) hin _,fun h => Made.set hP2 (hm2 h) hin _,fun _ => ⟨hin,rfl,hlo,by rw [if_pos rfl]; exact hbk.set 0 _⟩,fun h => ⟨(hx1 h).1,(hx1 h).2.far ((hd01 ha0 h).symm) _⟩,fun h => ⟨(hx2 h).1,(hx2 h).2.far ((hd02 ha0 h).symm) _⟩,hd01,hd02,hd12⟩
   revert hv hcnd; cases c0 <;> cases c1 <;> cases c2 <;> cases a0 <;> cases a1 <;> cases a2 <;> cases s0 <;> cases s1 <;> cases s2 <;> decide
  ·try dsimp only at hcnd
   have ha1 : a1 = true := by revert hcnd; cases a1 <;> simp
   have hz : s1 = false := by revert hcnd; cases s1 <;> simp
   have hc : c1 = true := by revert hcnd; cases c1 <;> simp
   obtain ⟨l,h,hl1,hl2,hl3,hp,hl4⟩ := hm1 hc
   obtain ⟨fk,fd,rfl⟩ := hF1 _ _ _ _ hp
   have hm1 := fun (_ : c1 = true) => (⟨l,h,hl1,hl2,hl3,hp,hl4⟩ : Made P1 w.heap.size w' bs (.func (.func fk) #[] fd))
   obtain ⟨hin,rfl,hlo,hbk⟩ := hx1 ha1
   rw [if_neg (by rw [hz]; decide)] at hbk
   have hce := hbk.cell 0 rfl
   have hfr := hbk.fr 0
   refine wpOp_step (by simp only [List.getElem?_toArray,List.getElem?_cons_zero,List.getElem?_cons_succ]; rfl) (fun K hK => ?_)
   go_simp
   refine hK _ _ ?_
   try simp only [Act.put,Ord.t,Ord.z,Ord.s]
   refine ⟨c0,c1,c2,a0,a1,a2,s0,true,s2,u11,.func (.func fk) #[] fd,u19,u5,.pointer (some ⟨b1,0,none⟩),u7,b0,b1,b2,bs,rfl,rfl,?_,(hb.setCell hlo _),fun c h => by simp [World.setCell]; exact hbs c h,fun h => Made.set hP0 (hm0 h) hin _,fun h => Made.set hP1 (hm1 h) hin _,fun h => Made.set hP2 (hm2 h) hin _,fun h => ⟨(hx0 h).1,(hx0 h).2.far (hd01 h ha1) _⟩,fun _ => ⟨hin,rfl,hlo,by rw [if_pos rfl]; exact hbk.set 0 _⟩,fun h => ⟨(hx2 h).1,(hx2 h).2.far ((hd12 ha1 h).symm) _⟩,hd01,hd02,hd12⟩
   revert hv hcnd; cases c0 <;> cases c1 <;> cases c2 <;> cases a0 <;> cases a1 <;> cases a2 <;> cases s0 <;> cases s1 <;> cases s2 <;> decide
  ·try dsimp only at hcnd
   have ha2 : a2 = true := by revert hcnd; cases a2 <;> simp
   have hz : s2 = false := by revert hcnd; cases s2 <;> simp
   have hc : c2 = true := by revert hcnd; cases c2 <;> simp
   obtain ⟨l,h,hl1,hl2,hl3,hp,hl4⟩ := hm2 hc
   obtain ⟨fk,fd,rfl⟩ := hF2 _ _ _ _ hp
   have hm2 := fun (_ : c2 = true) => (⟨l,h,hl1,hl2,hl3,hp,hl4⟩ : Made P2 w.heap.size w' bs (.func (.func fk) #[] fd))
   obtain ⟨hin,rfl,hlo,hbk⟩ := hx2 ha2
   rw [if_neg (by rw [hz]; decide)] at hbk
   have hce := hbk.cell 0 rfl
   have hfr := hbk.fr 0
   refine wpOp_step (by simp only [List.getElem?_toArray,List.getElem?_cons_zero,List.getElem?_cons_succ]; rfl) (fun K hK => ?_)
   go_simp
   refine hK _ _ ?_
   try simp only [Act.put,Ord.t,Ord.z,Ord.s]
   refine ⟨c0,c1,c2,a0,a1,a2,s0,s1,true,u11,u15,.func (.func fk) #[] fd,u5,u6,.pointer (some ⟨b2,0,none⟩),b0,b1,b2,bs,rfl,rfl,?_,(hb.setCell hlo _),fun c h => by simp [World.setCell]; exact hbs c h,fun h => Made.set hP0 (hm0 h) hin _,fun h => Made.set hP1 (hm1 h) hin _,fun h => Made.set hP2 (hm2 h) hin _,fun h => ⟨(hx0 h).1,(hx0 h).2.far (hd02 h ha2) _⟩,fun h => ⟨(hx1 h).1,(hx1 h).2.far (hd12 h ha2) _⟩,fun _ => ⟨hin,rfl,hlo,by rw [if_pos rfl]; exact hbk.set 0 _⟩,hd01,hd02,hd12⟩
   revert hv hcnd; cases c0 <;> cases c1 <;> cases c2 <;> cases a0 <;> cases a1 <;> cases a2 <;> cases s0 <;> cases s1 <;> cases s2 <;> decide
 ·refine ⟨false,false,false,false,false,false,false,false,false,g 11,g 15,g 19,g 5,g 6,g 7,0,0,0,[],by kernel_rfl,rfl,rfl,HD.out,fun b h => (by cases h),(fun h => by cases h),(fun h => by cases h),(fun h => by cases h),(fun h => by cases h),(fun h => by cases h),(fun h => by cases h),(fun h => by cases h),(fun h => by cases h),(fun h => by cases h)⟩
end Go.Proofs.YtemdnmfldihalaaGreatDoor.Lr
