/- Laid together: LfProg, LfProgA. -/
import Derived.Test.YtemdnmfldihalaaGreatDoorLfFits
namespace Go.Proofs.YtemdnmfldihalaaGreatDoor.Lr
set_option maxHeartbeats 32000000
set_option maxRecDepth 100000
set_option linter.unusedVariables false
set_option linter.unusedSimpArgs false
open Go.ChangeShapes Go.WideShapes Go.ChangeAt Go.RowKit Lg
noncomputable def pCode : Code := Tryz.f33.body.getD .skip
noncomputable def pRnd : Code := rndC (inC (sndC (fstC (sndC (sndC pCode)))))
structure WdP (a : Act) : Prop where
 len : a.tmps.toList.length = 37
 dfr : a.defers = []
theorem WdP.opens {a : Act} (h : WdP a) : a = ⟨#[slot a 0,slot a 1,slot a 2,slot a 3,slot a 4,slot a 5,slot a 6,slot a 7,slot a 8,slot a 9,slot a 10,slot a 11,slot a 12,slot a 13,slot a 14,slot a 15,slot a 16,slot a 17,slot a 18,slot a 19,slot a 20,slot a 21,slot a 22,slot a 23,slot a 24,slot a 25,slot a 26,slot a 27,slot a 28,slot a 29,slot a 30,slot a 31,slot a 32,slot a 33,slot a 34,slot a 35,slot a 36],[]⟩ := by
 obtain ⟨⟨l⟩,d⟩ := a
 obtain ⟨h1,h2⟩ := h
 dsimp only at h1 h2
 subst h2
 have e0 : l = (List.range 37).map (fun i => l.getD i undef) := by
  refine List.ext_getElem (by simp [h1]) fun i h1 h2 => ?_
  rw [List.getElem_map,List.getElem_range,List.getD_eq_getElem?_getD,List.getElem?_eq_getElem h1,Option.getD_some]
 have e : (List.range 37).map (fun i => l.getD i undef) = [l.getD 0 undef,l.getD 1 undef,l.getD 2 undef,l.getD 3 undef,l.getD 4 undef,l.getD 5 undef,l.getD 6 undef,l.getD 7 undef,l.getD 8 undef,l.getD 9 undef,l.getD 10 undef,l.getD 11 undef,l.getD 12 undef,l.getD 13 undef,l.getD 14 undef,l.getD 15 undef,l.getD 16 undef,l.getD 17 undef,l.getD 18 undef,l.getD 19 undef,l.getD 20 undef,l.getD 21 undef,l.getD 22 undef,l.getD 23 undef,l.getD 24 undef,l.getD 25 undef,l.getD 26 undef,l.getD 27 undef,l.getD 28 undef,l.getD 29 undef,l.getD 30 undef,l.getD 31 undef,l.getD 32 undef,l.getD 33 undef,l.getD 34 undef,l.getD 35 undef,l.getD 36 undef] := by kernel_rfl
 exact congrArg (fun x : List Value => (⟨⟨x⟩,[]⟩ : Act)) (e0.trans e)
structure Fp1 (a : Act) (sw : Value) (R bF : Nat) : Prop where
 wide : WdP a
 s1 : slot a 1 = sw
 s2 : slot a 2 = .pointer (some ⟨R,0,none⟩)
 s3 : slot a 3 = .pointer (some ⟨bF,0,none⟩)
 s6 : slot a 6 = .nilFunc
theorem Fp1.opens {a : Act} {sw : Value} {R bF : Nat} (h : Fp1 a sw R bF) : ∃ g : Nat → Value,a = ⟨#[g 0,sw,.pointer (some ⟨R,0,none⟩),.pointer (some ⟨bF,0,none⟩),g 4,g 5,.nilFunc,g 7,g 8,g 9,g 10,g 11,g 12,g 13,g 14,g 15,g 16,g 17,g 18,g 19,g 20,g 21,g 22,g 23,g 24,g 25,g 26,g 27,g 28,g 29,g 30,g 31,g 32,g 33,g 34,g 35,g 36],[]⟩ := by
 refine ⟨slot a,?_⟩
 have e := h.wide.opens
 rw [h.s1,h.s2,h.s3,h.s6] at e
 exact e
structure Fp2 (a : Act) (sw : Value) (R bF M : Nat) : Prop where
 wide : WdP a
 s1 : slot a 1 = sw
 s2 : slot a 2 = .pointer (some ⟨R,0,none⟩)
 s3 : slot a 3 = .pointer (some ⟨bF,0,none⟩)
 s6 : slot a 6 = .nilFunc
 s7 : slot a 7 = .pointer (some ⟨M,0,none⟩)
theorem Fp2.opens {a : Act} {sw : Value} {R bF M : Nat} (h : Fp2 a sw R bF M) : ∃ g : Nat → Value,a = ⟨#[g 0,sw,.pointer (some ⟨R,0,none⟩),.pointer (some ⟨bF,0,none⟩),g 4,g 5,.nilFunc,.pointer (some ⟨M,0,none⟩),g 8,g 9,g 10,g 11,g 12,g 13,g 14,g 15,g 16,g 17,g 18,g 19,g 20,g 21,g 22,g 23,g 24,g 25,g 26,g 27,g 28,g 29,g 30,g 31,g 32,g 33,g 34,g 35,g 36],[]⟩ := by
 refine ⟨slot a,?_⟩
 have e := h.wide.opens
 rw [h.s1,h.s2,h.s3,h.s6,h.s7] at e
 exact e
structure Fp3 (a : Act) (sw : Value) (R bF M : Nat) (sp : Value) (n j : Nat) : Prop where
 wide : WdP a
 s1 : slot a 1 = sw
 s2 : slot a 2 = .pointer (some ⟨R,0,none⟩)
 s3 : slot a 3 = .pointer (some ⟨bF,0,none⟩)
 s6 : slot a 6 = .nilFunc
 s7 : slot a 7 = .pointer (some ⟨M,0,none⟩)
 s16 : slot a 16 = sp
 s17 : slot a 17 = .int .i64 (n : Int)
 s18 : slot a 18 = .int .i64 (j : Int)
theorem Fp3.opens {a : Act} {sw : Value} {R bF M : Nat} {sp : Value} {n j : Nat} (h : Fp3 a sw R bF M sp n j) : ∃ g : Nat → Value,a = ⟨#[g 0,sw,.pointer (some ⟨R,0,none⟩),.pointer (some ⟨bF,0,none⟩),g 4,g 5,.nilFunc,.pointer (some ⟨M,0,none⟩),g 8,g 9,g 10,g 11,g 12,g 13,g 14,g 15,sp,.int .i64 (n : Int),.int .i64 (j : Int),g 19,g 20,g 21,g 22,g 23,g 24,g 25,g 26,g 27,g 28,g 29,g 30,g 31,g 32,g 33,g 34,g 35,g 36],[]⟩ := by
 refine ⟨slot a,?_⟩
 have e := h.wide.opens
 rw [h.s1,h.s2,h.s3,h.s6,h.s7,h.s16,h.s17,h.s18] at e
 exact e
structure Fp4 (a : Act) (sw : Value) (R bF M : Nat) (sp : Value) (n j bv : Nat) : Prop where
 wide : WdP a
 s1 : slot a 1 = sw
 s2 : slot a 2 = .pointer (some ⟨R,0,none⟩)
 s3 : slot a 3 = .pointer (some ⟨bF,0,none⟩)
 s6 : slot a 6 = .nilFunc
 s7 : slot a 7 = .pointer (some ⟨M,0,none⟩)
 s8 : slot a 8 = .int .i64 (j : Int)
 s9 : slot a 9 = .pointer (some ⟨bv,0,none⟩)
 s16 : slot a 16 = sp
 s17 : slot a 17 = .int .i64 (n : Int)
 s18 : slot a 18 = .int .i64 (j : Int)
theorem Fp4.rnd {a : Act} {sw : Value} {R bF M : Nat} {sp : Value} {n j bv : Nat} (h : Fp4 a sw R bF M sp n j bv) : a = ⟨#[slot a 0,sw,slot a 2,slot a 3,slot a 4,slot a 5,slot a 6,.pointer (some ⟨M,0,none⟩),.int .i64 (j : Int),.pointer (some ⟨bv,0,none⟩),slot a 10,slot a 11,slot a 12,slot a 13,slot a 14,slot a 15,slot a 16,slot a 17,slot a 18,slot a 19,slot a 20,slot a 21,slot a 22,slot a 23,slot a 24,slot a 25,slot a 26,slot a 27,slot a 28,slot a 29,slot a 30,slot a 31,slot a 32,slot a 33,slot a 34,slot a 35,slot a 36],[]⟩ := by
 have e := h.wide.opens
 rw [h.s1,h.s7,h.s8,h.s9] at e
 exact e
theorem prog_r0 (p1 : Option Addr) (n1 c1 : Nat) (p2 : Option Addr) (n2 c2 : Nat) (p3 : Option Addr) (n3 c3 : Nat) (sw : Value) (R : Nat) (w : World) (g : Nat → Value) : (fstC pCode).wp Tryz.prog (OnB fun a' w' => Fp1 a' sw R w.heap.size ∧ w' = w.alloc (.cells #[.slice p1 n1 c1,.slice p2 n2 c2,.slice p3 n3 c3] 29)) ⟨#[.agg #[.slice p1 n1 c1,.slice p2 n2 c2,.slice p3 n3 c3],sw,.pointer (some ⟨R,0,none⟩),g 3,g 4,g 5,g 6,g 7,g 8,g 9,g 10,g 11,g 12,g 13,g 14,g 15,g 16,g 17,g 18,g 19,g 20,g 21,g 22,g 23,g 24,g 25,g 26,g 27,g 28,g 29,g 30,g 31,g 32,g 33,g 34,g 35,g 36],[]⟩ w := by
 conv => arg 2; whnf
 go_wp2
 exact ⟨rfl,⟨⟨rfl,rfl⟩,rfl,rfl,rfl,rfl⟩,rfl⟩
theorem prog_r1 {a : Act} {sw : Value} {R bF : Nat} (hF : Fp1 a sw R bF) (w : World) (p2 : Option Addr) (n2 c2 : Nat) (hb : w.cell? ⟨bF,1,none⟩ = some (.slice p2 n2 c2)) : (fstC (sndC pCode)).wp Tryz.prog (OnB fun a' w' => Fp2 a' sw R bF w.heap.size ∧ w' = w.alloc (.cells #[.pointer (some ⟨R,0,none⟩),.slice p2 n2 c2,.slice none 0 0] 103)) a w := by
 obtain ⟨gg,rfl⟩ := hF.opens
 clear hF
 conv => arg 2; whnf
 go_wp2
 exact ⟨rfl,⟨⟨rfl,rfl⟩,rfl,rfl,rfl,rfl,rfl⟩,rfl⟩
theorem prog_r2 {a : Act} {sw : Value} {R bF M : Nat} (hF : Fp2 a sw R bF M) (w : World) (p1 : Option Addr) (n1 c1 : Nat) (hb : w.cell? ⟨bF,0,none⟩ = some (.slice p1 n1 c1)) : (fstC (fstC (sndC (sndC pCode)))).wp Tryz.prog (OnB fun a' w' => Fp3 a' sw R bF M (.slice p1 n1 c1) n1 0 ∧ w' = w) a w := by
 obtain ⟨gg,rfl⟩ := hF.opens
 clear hF
 conv => arg 2; whnf
 go_wp2
 exact ⟨rfl,⟨⟨rfl,rfl⟩,rfl,rfl,rfl,rfl,rfl,rfl,rfl,rfl⟩,rfl⟩
theorem prog_test {a : Act} {sw : Value} {R bF M : Nat} {sp : Value} {n j : Nat} {b : Bool} (hF : Fp3 a sw R bF M sp n j) (w : World) (hb : decide (j < n) = b) : (fstC pRnd).wp Tryz.prog (OnB fun a' w' => Fp3 a' sw R bF M sp n j ∧ slot a' 19 = .bool b ∧ w' = w) a w := by
 obtain ⟨gg,rfl⟩ := hF.opens
 clear hF
 conv => arg 2; whnf
 go_wp2
 exact ⟨rfl,⟨⟨rfl,rfl⟩,rfl,rfl,rfl,rfl,rfl,rfl,rfl,rfl⟩,rfl,rfl⟩
theorem prog_next {a : Act} {sw : Value} {R bF M : Nat} {sp : Value} {n j : Nat} (hF : Fp3 a sw R bF M sp n j) (hj : j < n) (hn : n ≤ 1000) (w : World) : (sndC (sndC (sndC pRnd))).wp Tryz.prog (OnB fun a' w' => Fp3 a' sw R bF M sp n (j + 1) ∧ w' = w) a w := by
 obtain ⟨gg,rfl⟩ := hF.opens
 have hwr : IntKind.i64.wrap ((j : Int) + 1) = (j : Int) + 1 := by rw [IntKind.wrap_i64]; omega
 clear hF
 conv => arg 2; whnf
 go_wp2
 exact ⟨rfl,⟨⟨rfl,rfl⟩,rfl,rfl,rfl,rfl,rfl,rfl,rfl,rfl⟩,rfl⟩
theorem prog_take {a : Act} {sw : Value} {R bF M : Nat} {gl o n c j : Nat} (hF : Fp3 a sw R bF M (.slice (some ⟨gl,o,none⟩) n c) n j) (hj : j < n) (w : World) (tx : List UInt8) (ts : Bool) (tz : Int)
  (a0 : w.cell? ⟨gl,o + j * 3,none⟩ = some (.string ⟨tx.toArray⟩)) (a1 : w.cell? ⟨gl,o + j * 3 + 1,none⟩ = some (.bool ts)) (a2 : w.cell? ⟨gl,o + j * 3 + 2,none⟩ = some (.int .i64 tz)) :
  (fstC (inC (fstC (sndC (sndC pRnd))))).wp Tryz.prog (OnB fun a' w' => Fp4 a' sw R bF M (.slice (some ⟨gl,o,none⟩) n c) n j w.heap.size ∧ w' = w.alloc (.cells #[.string ⟨tx.toArray⟩,.bool ts,.int .i64 tz] 46)) a w := by
 obtain ⟨gg,rfl⟩ := hF.opens
 have hjz : (j : Int) < (n : Int) := by omega
 have hj0 : (0 : Int) ≤ (j : Int) := by omega
 clear hF
 conv => arg 2; whnf
 go_wp2
 exact ⟨rfl,⟨⟨rfl,rfl⟩,rfl,rfl,rfl,rfl,rfl,rfl,rfl,rfl,rfl,rfl⟩,rfl⟩
def pRegP (M bv gw ow n4 c4 j : Nat) (tx : List UInt8) (x : Int) (R : World → World → Nat → Prop) (g : Nat → Value) (w : World) (e : Exit) (a' : Act) (w' : World) : Prop := e = .normal ∧ ∃ (W W' : World) (gn : Nat),Below w.heap.size w W ∧ R W W' gn ∧ a' = ⟨#[g 0,.slice (some ⟨gw,ow,none⟩) n4 c4,g 2,g 3,g 4,g 5,g 6,.pointer (some ⟨M,0,none⟩),.int .i64 (j : Int),.pointer (some ⟨bv,0,none⟩),g 10,g 11,g 12,g 13,g 14,g 15,g 16,g 17,g 18,g 19,g 20,g 21,g 22,.pointer (some ⟨M,0,none⟩),.pointer (some ⟨bv,0,none⟩),.string ⟨tx.toArray⟩,.pointer (some ⟨gn,0,none⟩),.slice (some ⟨gw,ow,none⟩) n4 c4,.int .i64 (j : Int),.pointer (some ⟨gw,ow + j,none⟩),.int .i64 x,.pointer (some ⟨gn,0,none⟩),g 32,g 33,g 34,g 35,g 36],[]⟩ ∧ w' = W'.setCell ⟨gn,0,none⟩ (.int .i64 x)
theorem prog_reg (M bv gw ow n4 c4 j : Nat) (tx : List UInt8) (x : Int) (R : World → World → Nat → Prop) (g : Nat → Value) (w : World) (hj : j < n4) (hv : w.cell? ⟨bv,0,none⟩ = some (.string ⟨tx.toArray⟩)) (hx : w.cell? ⟨gw,ow + j,none⟩ = some (.int .i64 x)) (HC : Hid (∀ W,Below w.heap.size w W → Calls Tryz.prog 46 #[.pointer (some ⟨M,0,none⟩),.string ⟨tx.toArray⟩] W fun r W' => ∃ gn,r = .returned (.pointer (some ⟨gn,0,none⟩)) ∧ R W W' gn ∧ (W'.cell? ⟨bv,0,none⟩ = some (.string ⟨tx.toArray⟩) ∧ W'.cell? ⟨gw,ow + j,none⟩ = some (.int .i64 x)) ∧ ∃ y,Bk W' gn [.int .i64 y] 3)) : (sndC (inC (fstC (sndC (sndC pRnd))))).wp Tryz.prog (pRegP M bv gw ow n4 c4 j tx x R g w) ⟨#[g 0,.slice (some ⟨gw,ow,none⟩) n4 c4,g 2,g 3,g 4,g 5,g 6,.pointer (some ⟨M,0,none⟩),.int .i64 (j : Int),.pointer (some ⟨bv,0,none⟩),g 10,g 11,g 12,g 13,g 14,g 15,g 16,g 17,g 18,g 19,g 20,g 21,g 22,g 23,g 24,g 25,g 26,g 27,g 28,g 29,g 30,g 31,g 32,g 33,g 34,g 35,g 36],[]⟩ w := by
 have hjz : (j : Int) < (n4 : Int) := by omega
 have hj0 : (0 : Int) ≤ (j : Int) := by omega
 conv => arg 2; whnf
 refine wp_region_noPanic ?_
 refine Ord.wpM_begin (fun W' : World => W'.cell? ⟨bv,0,none⟩ = some (.string ⟨tx.toArray⟩) ∧ W'.cell? ⟨gw,ow + j,none⟩ = some (.int .i64 x)) [0,1,2,3,4,5,6,7,8] (by kernel_rfl) ?_
 have HD : Hid (Below w.heap.size w w.drew) := Below.drew (Below.refl _ _)
 generalize w.drew = wd at *
 have hS : wd.cell? ⟨bv,0,none⟩ = some (.string ⟨tx.toArray⟩) ∧ wd.cell? ⟨gw,ow + j,none⟩ = some (.int .i64 x) := ⟨keep_cell HD.out hv,keep_cell HD.out hx⟩
 clear hv hx
 refine Ord.tk (i:=0) (v:=.pointer (some ⟨M,0,none⟩)) (hy:=Or.inl ⟨by rfl,by rintro W' ⟨q0,q1⟩; go_simp⟩) (hS:=hS) (h:=?_)
 try simp only [Act.put,Ord.t,Ord.z,Ord.s]
 refine Ord.tk (i:=1) (v:=.pointer (some ⟨bv,0,none⟩)) (hy:=Or.inl ⟨by rfl,by rintro W' ⟨q0,q1⟩; go_simp⟩) (hS:=hS) (h:=?_)
 try simp only [Act.put,Ord.t,Ord.z,Ord.s]
 refine Ord.tk (i:=2) (v:=.string ⟨tx.toArray⟩) (hy:=Or.inl ⟨by rfl,by rintro W' ⟨q0,q1⟩; go_simp⟩) (hS:=hS) (h:=?_)
 try simp only [Act.put,Ord.t,Ord.z,Ord.s]
 refine Ord.tk (i:=4) (v:=.slice (some ⟨gw,ow,none⟩) n4 c4) (hy:=Or.inl ⟨by rfl,by rintro W' ⟨q0,q1⟩; go_simp⟩) (hS:=hS) (h:=?_)
 try simp only [Act.put,Ord.t,Ord.z,Ord.s]
 refine Ord.tk (i:=5) (v:=.int .i64 (j : Int)) (hy:=Or.inl ⟨by rfl,by rintro W' ⟨q0,q1⟩; go_simp⟩) (hS:=hS) (h:=?_)
 try simp only [Act.put,Ord.t,Ord.z,Ord.s]
 refine Ord.tk (i:=6) (v:=.pointer (some ⟨gw,ow + j,none⟩)) (hy:=Or.inl ⟨by rfl,by rintro W' ⟨q0,q1⟩; go_simp⟩) (hS:=hS) (h:=?_)
 try simp only [Act.put,Ord.t,Ord.z,Ord.s]
 refine Ord.tk (i:=7) (v:=.int .i64 x) (hy:=Or.inl ⟨by rfl,by rintro W' ⟨q0,q1⟩; go_simp⟩) (hS:=hS) (h:=?_)
 try simp only [Act.put,Ord.t,Ord.z,Ord.s]
 refine Ord.on (i:=3) (h:=fun K hK => ?_)
 go_simp
 refine (HC.out wd HD.out).mono ?_
 rintro r w2 ⟨gn,rfl,hR,hz,y,hrow⟩
 have HR := keep hR
 have cu := hrow.cell 0 rfl
 have fu := hrow.fr 0
 have HZ := keep hz
 clear hR hrow hS HC hz
 go_simp
 refine hK.out _ _ (fun _ => HZ.out) ?_
 clear hK K
 try simp only [Act.put,Ord.t,Ord.z,Ord.s]
 refine Ord.on (i:=8) (h:=fun K hK => ?_)
 go_simp
 refine hK.out _ _ (fun _ => HZ.out) ?_
 clear hK K
 try simp only [Act.put,Ord.t,Ord.z,Ord.s]
 refine Ord.on (i:=9) (h:=fun K hK => ?_)
 go_simp
 refine hK.out _ _ (fun h => absurd h (by decide)) ?_
 clear hK K
 try simp only [Act.put,Ord.t,Ord.z,Ord.s]
 refine Ord.wpM_done (by kernel_rfl) ?_ _
 refine NoPanic.normal ?_
 exact ⟨rfl,wd,w2,gn,HD.out,HR.out,rfl,rfl⟩
theorem prog_end {a : Act} {sw : Value} {R bF M : Nat} {sp : Value} {n j : Nat} (hF : Fp3 a sw R bF M sp n j) (w : World) (p3 : Option Addr) (n3 c3 : Nat) (hb : w.cell? ⟨bF,2,none⟩ = some (.slice p3 n3 c3)) (Q : Value → World → Prop) (HC : Hid (Calls Tryz.prog 47 #[.pointer (some ⟨M,0,none⟩),.slice p3 n3 c3] w fun r w' => ∃ k d,r = .returned (.func (.func k) #[] d) ∧ Q (.func (.func k) #[] d) w')) : (sndC (sndC (sndC pCode))).wp Tryz.prog (fun e a' w' => Hid (e = .ret ∧ WdP a' ∧ Q (slot a' 6) w' ∧ ∃ k d,slot a' 6 = .func (.func k) #[] d)) a w := by
 obtain ⟨gg,rfl⟩ := hF.opens
 clear hF
 conv => arg 2; whnf
 go_wp2_with fail
 refine HC.out.mono ?_
 rintro r w2 ⟨k,d,rfl,hq⟩
 have HQ := keep hq
 clear hq HC hb
 go_wp2
 first | exact ⟨rfl,⟨rfl,rfl⟩,HQ.out,k,d,rfl⟩ | exact ⟨⟨rfl,rfl⟩,HQ.out,k,d,rfl⟩ | exact ⟨⟨rfl,rfl⟩,HQ.out,k,d,rfl,rfl⟩
def envOf (ps : List Vr) (ws : List Int) : Env := List.zipWith (fun p x => (p.name,x)) ps ws
theorem EnvM.snoc2 {W : World} {q : List UInt8 × Nat} {x : Int} (hb : Bk W q.2 [.int .i64 x] 3) : ∀ {sc : List (List UInt8 × Nat)} {env : Env},EnvM W sc env → EnvM W (sc ++ [q]) (env ++ [(q.1,x)])
 | [],[],_ => ⟨rfl,hb,trivial⟩
 | p :: sc,r :: env,⟨h1,h2,h3⟩ => ⟨h1,h2,EnvM.snoc2 hb h3⟩
theorem EnvM.stay {W W' : World} : ∀ {sc : List (List UInt8 × Nat)} {env : Env},EnvM W sc env → (∀ b,IntAt W b → b ∈ sc.map Prod.snd → W'.heap[b]? = W.heap[b]?) → EnvM W' sc env
 | [],[],_,_ => trivial
 | p :: sc,r :: env,⟨h1,h2,h3⟩,h => ⟨h1,by
   have := h p.2 ⟨_,h2⟩ (by simp)
   unfold Bk at h2 ⊢
   rw [this]; exact h2,EnvM.stay h3 (fun b hb hm => h b hb (by simp only [List.map_cons,List.mem_cons]; exact .inr hm))⟩
structure PrI (t : Rt) (B : Nat) (rs : List Vr) (A : Value) (ps : List Vr) (ws : List Int) (w2 : World) (j : Nat) (sc : List (List UInt8 × Nat)) (nv : Value) (w' : World) : Prop where
 ms : MSt w' t B rs A sc nv
 fc : Fc t.M (.slice none 0 0) nv w2 w'
 nm : sc.map Prod.fst = (ps.take j).map Vr.name
 env : EnvM w' sc (envOf (ps.take j) (ws.take j))
 nw : ∀ c ∈ sc.map Prod.snd,w2.heap.size ≤ c
theorem envOf_snoc {ps : List Vr} {ws : List Int} {j : Nat} {v : Vr} {x : Int} (h1 : ps[j]? = some v) (h2 : ws[j]? = some x) : envOf (ps.take (j + 1)) (ws.take (j + 1)) = envOf (ps.take j) (ws.take j) ++ [(v.name,x)] := by
 unfold envOf
 rw [List.take_add_one,List.take_add_one,h1,h2,Option.toList_some,Option.toList_some,List.zipWith_append (by
  have := (List.getElem?_eq_some_iff.1 h1).1
  have := (List.getElem?_eq_some_iff.1 h2).1
  rw [List.length_take,List.length_take]; omega)]
 rfl
theorem PrI.step {t : Rt} {B : Nat} {rs : List Vr} {A : Value} {ps : List Vr} {ws : List Int} {w2 : World} {j : Nat} {sc : List (List UInt8 × Nat)} {nv nv1 : Value} {w' W W' : World} {v : Vr} {x : Int} {g : Nat} (h : PrI t B rs A ps ws w2 j sc nv w') (hv : ps[j]? = some v) (hx : ws[j]? = some x) (hM2 : t.M < w2.heap.size) (hb : Below w'.heap.size w' W) (hN : NameP W t B rs A sc nv v.name (.returned (.pointer (some ⟨g,0,none⟩))) W' g nv1) :
  PrI t B rs A ps ws w2 (j + 1) (sc ++ [(v.name,g)]) nv1 (W'.setCell ⟨g,0,none⟩ (.int .i64 x)) := by
 have hB := h.ms.hB
 have hlt := h.ms.lt
 have hz := hb.size
 have hgn := hN.new
 have hz2 := h.fc.size
 obtain ⟨g1,g2⟩ := IntAt.ms ⟨0,hN.int⟩ hN.ms
 have hs : (W'.setCell ⟨g,0,none⟩ (.int .i64 x)).heap.size = W'.heap.size := by simp [World.setCell]
 have hset : ∀ i,i ≠ g → (W'.setCell ⟨g,0,none⟩ (.int .i64 x)).heap[i]? = W'.heap[i]? := fun i hi => Below.heap_setCell _ _ _ _ hi
 refine ⟨hN.ms.stay (by rw [hs]; exact Nat.le_refl _) (hset _ (Ne.symm g1)) (fun i hi => hset i (by omega)) (fun i hi => hset i (fun e => g2 (e ▸ hi))),?_,?_,?_,fun c hc => ?_⟩
 ·have h1 := (h.fc.trans (Fc.of_below hb nv)).trans hN.fc
  exact ⟨h1.os,h1.tape,h1.output,by rw [hs]; exact h1.size,fun k hk hc hn => by rw [hset k (by omega)]; exact h1.block k hk hc hn,h1.own⟩
 ·rw [List.map_append,List.take_add_one,hv,Option.toList_some,List.map_append,h.nm]; rfl
 ·rw [envOf_snoc hv hx]
  refine EnvM.snoc2 (q:=(v.name,g)) (hN.int.set 0 _) (h.env.stay fun b hi hm => ?_)
  have hbl : b < w'.heap.size := by obtain ⟨n,hn⟩ := hi; exact hn.lt
  obtain ⟨q1,q2⟩ := (hi.below hb).ms (h.ms.below hb)
  rw [hset b (by omega),hN.fc.block b (by omega) q1 q2,hb.block b hbl]
 ·rw [List.map_append,List.mem_append] at hc
  rcases hc with hc | hc
  ·exact h.nw c hc
  ·simp at hc; omega
def PrQ (t : Rt) (B : Nat) (rs : List Vr) (A : Value) (ps : List Vr) (ws : List Int) (w2 : World) (sw : Value) (bF : Nat) (sp : Value) (n j : Nat) (a' : Act) (w' : World) : Prop := Fp3 a' sw t.R bF t.M sp n j ∧ ∃ sc nv,PrI t B rs A ps ws w2 j sc nv w'
structure PgP (t : Rt) (rs ps : List Vr) (ws : List Int) (body : List St) (w : World) (v : Value) (w' : World) (sc : List (List UInt8 × Nat)) (nv' : Value) (Ls : List Nat) (lo : Nat) : Prop where
 bel : Below w.heap.size w w'
 mkr : w'.cell? ⟨t.M,0,none⟩ = some (.pointer (some ⟨t.R,0,none⟩))
 env : EnvM w' sc (envOf ps ws)
 sep : Sep t sc
 good : GoodA t sc sc rs w' lo w'.heap.size Ls (rowX nv') v (CkB rs 9 false (ps.map nmOf) body) (evB (evS rs 9) body)
 ints : ∀ b ∈ Ls,IntAt w' b
 new : ∀ c ∈ sc.map Prod.snd ++ Ls,w.heap.size ≤ c
theorem program_make (B R AO : Nat) (ab : List Nat) (ps rs : List Vr) (body : List St) (s1 s2 s3 : Value) (ws : List Int) (sw : Value) (w : World) (hB : B ≤ w.heap.size) (h1 : VrIs w B ps s1) (h2 : VrIs w B rs s2) (h3 : StIs w B 10 11 body s3) (hw : IntsIs w B ws sw) (hlen : ws.length = ps.length) (hp4 : ps.length ≤ 100) (hroom : ps.length + szL 9 body ≤ 900) (hr : rs.length ≤ 1000) (hsm : ∀ v ∈ rs,v.size ≤ 8) (hwf : ∀ s ∈ body,wfS 9 s) (hnd : (R :: AO :: ab).Nodup) (hold : ∀ b ∈ R :: AO :: ab,b < w.heap.size) :
  Calls Tryz.prog 33 #[.agg #[s1,s2,s3],sw,.pointer (some ⟨R,0,none⟩)] w fun r w' => ∃ v sc nv' Ls lo,r = .returned v ∧ PgP ⟨R,w.heap.size + 1,AO,ab⟩ rs ps ws body w v w' sc nv' Ls lo := by
 obtain ⟨p1,n1,c1,hs1,hl1,_,_,hq1⟩ := id h1
 obtain ⟨p2,n2,c2,rfl⟩ := h2.slice
 obtain ⟨p3,n3,c3,rfl⟩ := h3.slice
 obtain ⟨p4,n4,c4,hs4,hl4,_,_,hq4⟩ := id hw
 subst hs1 hs4
 obtain ⟨w1,hw1⟩ : ∃ x,w.alloc (.cells #[.slice p1 n1 c1,.slice p2 n2 c2,.slice p3 n3 c3] 29) = x := ⟨_,rfl⟩
 obtain ⟨w2,hw2⟩ : ∃ x,w1.alloc (.cells #[.pointer (some ⟨R,0,none⟩),.slice p2 n2 c2,.slice none 0 0] 103) = x := ⟨_,rfl⟩
 have z1 : w1.heap.size = w.heap.size + 1 := by rw [← hw1]; exact Array.size_push ..
 have z2 : w2.heap.size = w.heap.size + 2 := by rw [← hw2]; exact (Array.size_push ..).trans (by omega)
 have b1 : Below w.heap.size w w1 := by rw [← hw1]; exact (Below.refl _ _).alloc (Nat.le_refl _) _
 have b2 : Below w1.heap.size w1 w2 := by rw [← hw2]; exact (Below.refl _ _).alloc (Nat.le_refl _) _
 have b02 := b1.trans (b2.mono b1.size)
 have k1 : Bk w1 w.heap.size [.slice p1 n1 c1,.slice p2 n2 c2,.slice p3 n3 c3] 29 := by rw [← hw1]; exact Bk.new _ _ _
 have k12 := k1.fs (Fs.of_below (l:=[]) b2) (by simp)
 have kM : Bk w2 w1.heap.size [.pointer (some ⟨R,0,none⟩),.slice p2 n2 c2,.slice none 0 0] 103 := by rw [← hw2]; exact Bk.new _ _ _
 obtain ⟨t,ht⟩ : ∃ t : Rt,t = ⟨R,w.heap.size + 1,AO,ab⟩ := ⟨_,rfl⟩
 have tR : t.R = R := by rw [ht]
 have tM : t.M = w1.heap.size := by rw [ht,z1]
 have tO : ∀ b ∈ Own t [],b < w2.heap.size := fun b hb => by
  rw [ht] at hb
  simp only [Own,List.mem_cons,List.map_nil,List.append_nil] at hb
  rcases hb with hb | hb | hb | hb
  ·have := hold b (by simp [hb]); omega
  ·omega
  ·have := hold b (by simp [hb]); omega
  ·have := hold b (by simp [hb]); omega
 have tS : Sep t [] := by
  unfold Sep
  rw [ht]
  simp only [List.map_nil,List.append_nil]
  rw [List.nodup_cons] at hnd ⊢
  refine ⟨?_,?_⟩
  ·rw [List.mem_cons]
   rintro (e | e)
   ·have := hold R (by simp); omega
   ·exact hnd.1 e
  ·rw [List.nodup_cons]
   refine ⟨fun e => ?_,hnd.2⟩
   have := hold (w.heap.size + 1) (by rw [List.mem_cons]; exact .inr e)
   omega
 have hM0 : MSt w2 t B rs (.slice p2 n2 c2) [] (.slice none 0 0) := by
  refine ⟨by rw [tM,tR]; exact kM,RowX.nil _ _,h2.below (b02.mono hB),by rw [tM]; omega,by simp,tS,tO,fun b hb => (by cases hb),hr,hsm⟩
 rw [← ht]
 have hMw2 : t.M < w2.heap.size := by omega
 have hI0 : PrI t B rs (.slice p2 n2 c2) ps ws w2 0 [] (.slice none 0 0) w2 := ⟨hM0,⟨rfl,rfl,rfl,Nat.le_refl _,fun _ _ _ _ => rfl,fun k hk => .inl hk⟩,rfl,trivial,fun c hc => by cases hc⟩
 rw [← tR]
 go_enter Tryz.func33,Tryz.ntmps33
 show (Code.seq (fstC pCode) (Code.seq (fstC (sndC pCode)) (Code.seq (Code.seq (fstC (fstC (sndC (sndC pCode)))) (Code.block 0 (Code.loop pRnd))) (sndC (sndC (sndC pCode)))))).wp Tryz.prog _ _ w
 refine OnB.go (prog_r0 p1 n1 c1 p2 n2 c2 p3 n3 c3 (.slice p4 n4 c4) t.R w (fun _ => undef)) ?_
 rintro a1 w1' ⟨hF1,hx1⟩
 rw [hw1] at hx1
 subst hx1
 refine OnB.go (prog_r1 hF1 w1' p2 n2 c2 (k1.cell 1 rfl)) ?_
 rintro a2 w2' ⟨hF2,hx2⟩
 rw [tR,hw2] at hx2
 subst hx2
 rw [← tM] at hF2
 refine OnB.go (c1:=Code.seq (fstC (fstC (sndC (sndC pCode)))) (Code.block 0 (Code.loop pRnd))) (Q:=PrQ t B rs (.slice p2 n2 c2) ps ws w2' (.slice p4 n4 c4) w.heap.size (.slice p1 n1 c1) n1 n1) ?_ ?_
 ·refine OnB.go (prog_r2 hF2 w2' p1 n1 c1 (k12.cell 0 rfl)) ?_
  rintro a3 w3 ⟨hF3,rfl⟩
  refine wp_block (wp_loop (fun a' w' => ∃ j,j ≤ n1 ∧ PrQ t B rs (.slice p2 n2 c2) ps ws w3 (.slice p4 n4 c4) w.heap.size (.slice p1 n1 c1) n1 j a' w') (fun a' _ => n1 - (intOf (slot a' 18)).toNat) ⟨0,Nat.zero_le _,hF3,_,_,hI0⟩ ?_)
  rintro a5 w5 ⟨j,hj,hF5,sc,nv,hI⟩
  have h18 := hF5.s18
  show (Code.seq (fstC pRnd) (Code.seq (Code.cond (.tmp 19) Code.skip (Code.exit 0)) (Code.seq (Code.block 1 (Code.seq (fstC (inC (fstC (sndC (sndC pRnd))))) (sndC (inC (fstC (sndC (sndC pRnd))))))) (sndC (sndC (sndC pRnd)))))).wp Tryz.prog _ a5 w5
  by_cases hjl : j < n1
  ·refine OnB.go (prog_test hF5 w5 (b:=true) (decide_eq_true hjl)) ?_
   rintro a6 w6 ⟨hF6,hs6,rfl⟩
   refine wp_seq (wp_cond_true (by rw [evalB]; exact hs6) (wp_skip ?_))
   refine wp_seq (wp_block ?_)
   obtain ⟨v,hv⟩ : ∃ v,ps[j]? = some v := ⟨_,List.getElem?_eq_getElem (by omega)⟩
   obtain ⟨x,hx⟩ : ∃ x,ws[j]? = some x := ⟨_,List.getElem?_eq_getElem (by omega)⟩
   obtain ⟨g,o,rfl,hg,hat⟩ := hq1 j v hv
   obtain ⟨gw,ow,rfl,hgw,hcw⟩ := hq4 j x hx
   have hMB := hM0.hB
   have hb6 : Below B w w6 := (b02.mono hB).trans (hI.fc.below hMB hMw2 (fun i e => by cases e))
   have hat := hat.below hb6 hg
   refine OnB.go (prog_take hF6 hjl w6 v.name v.secret v.size hat.c0 hat.c1 hat.c2) ?_
   rintro a7 w7 ⟨hF7,hw7⟩
   have b7 : Below w6.heap.size w6 w7 := by rw [hw7]; exact (Below.refl _ _).alloc (Nat.le_refl _) _
   have k7 : Bk w7 w6.heap.size [.string ⟨v.name.toArray⟩,.bool v.secret,.int .i64 v.size] 46 := by rw [hw7]; exact Bk.new _ _ _
   have hlt6 := hI.ms.lt
   have z7 : w7.heap.size = w6.heap.size + 1 := by rw [hw7]; exact Array.size_push ..
   have cx7 : w7.cell? ⟨gw,ow + j,none⟩ = some (.int .i64 x) := by
    rw [World.cell?_of_block (b7.block gw (by omega)),cell_below hb6 hgw]; exact hcw
   have HC : Hid (∀ W,Below w7.heap.size w7 W → Calls Tryz.prog 46 #[.pointer (some ⟨t.M,0,none⟩),.string ⟨v.name.toArray⟩] W fun r W' => ∃ gn,r = .returned (.pointer (some ⟨gn,0,none⟩)) ∧ (∃ nv1,NameP W t B rs (.slice p2 n2 c2) sc nv v.name (.returned (.pointer (some ⟨gn,0,none⟩))) W' gn nv1) ∧ (W'.cell? ⟨w6.heap.size,0,none⟩ = some (.string ⟨v.name.toArray⟩) ∧ W'.cell? ⟨gw,ow + j,none⟩ = some (.int .i64 x)) ∧ ∃ y,Bk W' gn [.int .i64 y] 3) := by
    intro W hW
    have hb6W := b7.trans (hW.mono b7.size)
    have hscl : sc.length = j := by
     have := congrArg List.length hI.nm
     rw [List.length_map,List.length_map,List.length_take] at this
     omega
    refine (name_lay t B rs (.slice p2 n2 c2) sc nv v.name W (hI.ms.below hb6W) (by omega)).mono ?_
    rintro r W' ⟨gn,nv1,hN⟩
    have hr' := hN.r
    subst hr'
    have hzW := hW.size
    have hn6 : ¬ nv.ownBlock = some w6.heap.size := fun e => by have := (hI.ms.own _ e).2; omega
    have hng : ¬ nv.ownBlock = some gw := fun e => by have := (hI.ms.own _ e).1; omega
    refine ⟨gn,rfl,⟨nv1,hN⟩,⟨?_,?_⟩,0,hN.int⟩
    ·rw [World.cell?_of_block (hN.fc.block w6.heap.size (by omega) (by omega) hn6),World.cell?_of_block (hW.block w6.heap.size (by omega))]; exact k7.cell 0 rfl
    ·rw [World.cell?_of_block (hN.fc.block gw (by omega) (by omega) hng),World.cell?_of_block (hW.block gw (by omega))]; exact cx7
   have hreg := prog_reg t.M w6.heap.size gw ow n4 c4 j v.name x (fun W W' gn => ∃ nv1,NameP W t B rs (.slice p2 n2 c2) sc nv v.name (.returned (.pointer (some ⟨gn,0,none⟩))) W' gn nv1) (slot a7) w7 (by omega) (k7.cell 0 rfl) cx7 HC
   rw [← hF7.rnd] at hreg
   refine wp_mono hreg ?_
   rintro e a8 w8 ⟨rfl,W,W',gn,hbW,⟨nv1,hN⟩,rfl,rfl⟩
   have hst := hI.step hv hx hMw2 (b7.trans (hbW.mono b7.size)) hN
   refine wp_mono (prog_next (sw:=.slice (some ⟨gw,ow,none⟩) n4 c4) (R:=t.R) (bF:=w.heap.size) (M:=t.M) (sp:=.slice (some ⟨g,o,none⟩) n1 c1) (n:=n1) (j:=j) ?_ hjl (by omega) _) ?_
   ·exact ⟨⟨rfl,rfl⟩,rfl,hF7.s2,hF7.s3,hF7.s6,rfl,hF7.s16,hF7.s17,hF7.s18⟩
   rintro e a9 w9 ⟨rfl,hF9,rfl⟩
   refine ⟨⟨j + 1,hjl,hF9,_,_,hst⟩,?_⟩
   show n1 - (intOf (slot a9 18)).toNat < n1 - (intOf (slot a5 18)).toNat
   rw [h18,hF9.s18]
   simp only [intOf]
   omega
  ·have hje : j = n1 := by omega
   subst hje
   refine OnB.go (prog_test hF5 w5 (b:=false) (decide_eq_false (by omega))) ?_
   rintro a6 w6 ⟨hF6,hs6,rfl⟩
   refine wp_seq (wp_cond_false (by rw [evalB]; exact hs6) (wp_exit ?_))
   refine exitB (exitB (inB ?_))
   exact ⟨rfl,hF6,_,_,hI⟩
 rintro a6 w6 ⟨hF6,sc,nv,hI⟩
 have hMB := hM0.hB
 have hb6 : Below B w w6 := (b02.mono hB).trans (hI.fc.below hMB hMw2 (fun i e => by cases e))
 have hz6 := hI.fc.size
 have kF6 : Bk w6 w.heap.size [.slice p1 n1 c1,.slice p2 n2 c2,.slice p3 n3 c3] 29 := k12.fc hI.fc (by omega) (fun e => by cases e)
 have hnm : sc.map Prod.fst = (ps.map nmOf).map Nm.name := by
  rw [hI.nm,← hl1,List.take_length,List.map_map]; rfl
 have hscl : sc.length = ps.length := by
  have := congrArg List.length hnm
  simpa using this
 refine wp_mono (prog_end hF6 w6 p3 n3 c3 (kF6.cell 2 rfl) (fun v w' => ∃ sc nv' Ls lo,PgP t rs ps ws body w v w' sc nv' Ls lo) ?_) ?_
 ·refine (blk_make 9 10 B t rs (.slice p2 n2 c2) sc nv (ps.map nmOf) false body (.slice p3 n3 c3) w6 (by omega) (by omega) hwf hI.ms hnm (by omega) (h3.below hb6)).mono ?_
  rintro r w' ⟨v,nv',Ls,hd⟩
  obtain ⟨_,k,d,⟨hv,_⟩,_⟩ := id hd.good
  have hr' := hd.r
  subst hv
  subst hr'
  refine ⟨k,d,rfl,sc,nv',Ls,w6.heap.size,?_,?_,?_,hd.ms.sep,hd.good,hd.ints,fun c hc => ?_⟩
  ·have hfc := hI.fc.trans hd.fc
   refine b02.trans ⟨hfc.os,hfc.tape,hfc.output,hfc.size,fun k hk => hfc.block k (by omega) (by omega) (fun e => by cases e)⟩
  ·exact hd.ms.box.cell 0 rfl
  ·have h0 := hI.env
   have e1 : ps.take n1 = ps := by rw [← hl1,List.take_length]
   have e2 : ws.take n1 = ws := by rw [show n1 = ws.length by omega,List.take_length]
   rw [e1,e2] at h0
   exact h0.stay fun b hi hm => by
    obtain ⟨q1,q2⟩ := hi.ms hI.ms
    obtain ⟨n,hn⟩ := hi
    exact hd.fc.block b hn.lt q1 q2
  ·rcases List.mem_append.1 hc with hc | hc
   ·have := hI.nw c hc; omega
   ·have := (hd.good.1 c hc).1; omega
 rintro e a8 w8 h8
 obtain ⟨rfl,hW8,⟨sc8,nv8,Ls8,lo8,hP⟩,k,d,hs8⟩ := h8.out
 rw [hs8] at hP
 have HE : Hid (∃ v sc nv' Ls lo,Ending.returned (.func (.func k) #[] d) = .returned v ∧ PgP t rs ps ws body w v w8 sc nv' Ls lo) := ⟨_,_,_,_,_,rfl,hP⟩
 have hop8 := hW8.opens
 rw [hs8] at hop8
 generalize slot a8 = gg at hop8
 subst hop8
 clear hP h8 hW8 hs8 hI hI0 hq1 hq4 hF6 hF2 hF1 k12 k1 kM b1 b2 b02 hM0 hw1 hw2 h1 h2 h3 hw tO tS kF6 hb6
 go_ret
 exact HE.out
end Go.Proofs.YtemdnmfldihalaaGreatDoor.Lr
