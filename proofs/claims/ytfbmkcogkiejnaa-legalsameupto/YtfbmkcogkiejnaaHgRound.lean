/- Rounds of the maker: product; a step of a division. Written by tools/gen_hground.py. -/
import Derived.Test.YtfbmkcogkiejnaaHgWays
namespace Go.Proofs.Ytfbmkcogkiejnaa.Hg
set_option maxHeartbeats 32000000
set_option maxRecDepth 100000
set_option linter.unusedVariables false
set_option linter.unusedSimpArgs false
open Go.ChangeShapes Go.WideShapes Go.ChangeAt Go.RowKit Go.Maps Lg Lr Fl
def Lst (R : Int × Mk) : Prop := ∃ l,R.2.code.getLast? = some l ∧ l.d = R.1
theorem two_lst (T : Nat → Int) (op a b : Int) (m : Mk) : Lst (twoM T op a b m) := ⟨_,List.getLast?_concat,rfl⟩
def Wv (k K lo MB NB : Nat) (T : Nat → Int) (cv sv : Value) (m : Mk) (R : Mk) (w : World) (r : Ending) (w' : World) : Prop := ∃ cv' sv' p,r = .returned (.tuple #[]) ∧ Rdy lo MB NB T cv' sv' R w' K ∧ MF MB NB cv sv w cv' sv' w' ∧ Stp k m (p,R) ∧ Lst (p,R)
theorem PrOk.ins {k : Nat} {m : Mk} {s a b : Int} {q : Mk} (h : PrOk k m ⟨s,a,b,q⟩) : In s q ∧ In a q ∧ In b q := ⟨⟨h.s.p0,h.s.p1⟩,⟨h.a0,h.a1⟩,⟨h.b0,h.b1⟩⟩
theorem prods_lst (T : Nat → Int) (n : Nat) (p : Pr) : Lst ((prodsM T (n + 1) p).sum,(prodsM T (n + 1) p).m) := two_lst T 1 _ _ _
theorem mul_v (K : Nat) {lo MB NB : Nat} {T : Nat → Int} {cv sv : Value} {m : Mk} {w : World} (a b : Int) (h : Rdy lo MB NB T cv sv m w (289 + K)) (ha : In a m) (hb : In b m) : Calls Try.prog 79 #[.pointer (some ⟨MB,0,none⟩),.int .i64 a,.int .i64 b] w fun r w' => Wv 289 K lo MB NB T cv sv m (mulM T a b m) w r w' := by
 have HR0 := keep h
 have Ia := keep ha
 have Ib := keep hb
 clear h ha hb
 have HC0 := keep (num_q (288 + K) 0 (HR0.out.le (by omega)) (by decide))
 obtain ⟨z,hz⟩ : ∃ z,numM T 0 m = z := ⟨_,rfl⟩
 rw [hz] at HC0
 have HZ := keep hz
 clear hz
 go_enter Try.func79,Try.ntmps79
 go_wp2_with fail
 refine HC0.out.mono ?_
 rintro r w0 ⟨cvz,svz,rfl,hrz,hfz,hsz⟩
 have HRz := keep hrz
 have HFz := keep hfz
 have HP0 : Hid (PrOk 1 m ⟨z.1,a,b,z.2⟩) := ⟨hsz,(Ia.out.stp hsz).p0,(Ia.out.stp hsz).p1,(Ib.out.stp hsz).p0,(Ib.out.stp hsz).p1⟩
 clear hrz hfz hsz HC0
 go_wp2_with fail
 go_loopw [10,6,1,2] (fun j s x y wx => ∃ k : Nat,k ≤ 32 ∧ j = .int .i64 (k : Int) ∧ s = .int .i64 (prodsM T k ⟨z.1,a,b,z.2⟩).sum ∧ x = .int .i64 (prodsM T k ⟨z.1,a,b,z.2⟩).a ∧ y = .int .i64 (prodsM T k ⟨z.1,a,b,z.2⟩).b ∧ ∃ cv' sv',Rdy lo MB NB T cv' sv' (prodsM T k ⟨z.1,a,b,z.2⟩).m wx ((32 - k) * 9 + K) ∧ MF MB NB cv sv w cv' sv' wx ∧ PrOk (1 + k * 9) m (prodsM T k ⟨z.1,a,b,z.2⟩)) (fun j _ _ _ _ => 32 - (intOf j).toNat)
 case atStart => exact ⟨0,by omega,rfl,rfl,rfl,rfl,_,_,HRz.out.le (by omega),HFz.out,HP0.out⟩
 case round =>
  obtain ⟨k,hkn,rfl,rfl,rfl,rfl,cv0,sv0,hr0,hf0,hp0⟩ := hrel
  by_cases hkl : k < 32
  ·have d1 : decide ((k : Int) < 32) = true := decide_eq_true (by omega)
   have hwr : IntKind.i64.wrap ((k : Int) + 1) = (k : Int) + 1 := by rw [IntKind.wrap_i64]; omega
   have HPx : Hid (prodsM T (k + 1) ⟨z.1,a,b,z.2⟩ = prodM T (prodsM T k ⟨z.1,a,b,z.2⟩)) := rfl
   have HPn := keep (prod_stp T hp0)
   obtain ⟨pp,hpp⟩ : ∃ pp,prodsM T k ⟨z.1,a,b,z.2⟩ = pp := ⟨_,rfl⟩
   rw [hpp] at hr0 hp0 HPx HPn ⊢
   obtain ⟨sum,aa,bb,q⟩ := pp
   dsimp only at hr0 ⊢
   obtain ⟨i1,i2,i3⟩ := hp0.ins
   have Is := keep i1
   have Iaa := keep i2
   have Ibb := keep i3
   have HR := keep hr0
   have HF := keep hf0
   clear hr0 hf0 hp0 hpp i1 i2 i3
   have HC1 := keep (num_q (8 + ((31 - k) * 9 + K)) 1 (HR.out.le (by omega)) (by decide))
   obtain ⟨R1,hR⟩ : ∃ Q,numM T 1 q = Q := ⟨_,rfl⟩
   rw [hR] at HC1
   have HE1 := keep hR
   clear hR
   go_wp2_with fail
   refine HC1.out.mono ?_
   rintro r w1 ⟨cv1,sv1,rfl,hr',hf',hs'⟩
   have HR1 := keep hr'
   have HS1 := keep hs'
   have HF1 := keep hf'
   have HT1 := keep hs'
   clear hr' hf' hs' HC1
   have HC2 := keep (two_q (7 + ((31 - k) * 9 + K)) 3 bb R1.1 (HR1.out.le (by omega)) (by decide) (Ibb.out.stp HT1.out) HT1.out.in')
   obtain ⟨R2,hR⟩ : ∃ Q,twoM T 3 bb R1.1 R1.2 = Q := ⟨_,rfl⟩
   rw [hR] at HC2
   have HE2 := keep hR
   clear hR
   go_wp2_with fail
   refine HC2.out.mono ?_
   rintro r w2 ⟨cv2,sv2,rfl,hr',hf',hs'⟩
   have HR2 := keep hr'
   have HS2 := keep (HS1.out.then hs')
   have HF2 := keep (HF1.out.trans hf')
   have HT2 := keep hs'
   clear hr' hf' hs' HC2
   have HC3 := keep (all_q (5 + ((31 - k) * 9 + K)) R2.1 (HR2.out.le (by omega)) HT2.out.in')
   obtain ⟨R3,hR⟩ : ∃ Q,allM T R2.1 R2.2 = Q := ⟨_,rfl⟩
   rw [hR] at HC3
   have HE3 := keep hR
   clear hR
   go_wp2_with fail
   refine HC3.out.mono ?_
   rintro r w3 ⟨cv3,sv3,rfl,hr',hf',hs'⟩
   have HR3 := keep hr'
   have HS3 := keep (HS2.out.then hs')
   have HF3 := keep (HF2.out.trans hf')
   have HT3 := keep hs'
   clear hr' hf' hs' HC3
   have HC4 := keep (two_q (4 + ((31 - k) * 9 + K)) 3 aa R3.1 (HR3.out.le (by omega)) (by decide) (((Iaa.out.stp HT1.out).stp HT2.out).stp HT3.out) HT3.out.in')
   obtain ⟨R4,hR⟩ : ∃ Q,twoM T 3 aa R3.1 R3.2 = Q := ⟨_,rfl⟩
   rw [hR] at HC4
   have HE4 := keep hR
   clear hR
   go_wp2_with fail
   refine HC4.out.mono ?_
   rintro r w4 ⟨cv4,sv4,rfl,hr',hf',hs'⟩
   have HR4 := keep hr'
   have HS4 := keep (HS3.out.then hs')
   have HF4 := keep (HF3.out.trans hf')
   have HT4 := keep hs'
   clear hr' hf' hs' HC4
   have HC5 := keep (double_q (3 + ((31 - k) * 9 + K)) aa (HR4.out.le (by omega)) ((((Iaa.out.stp HT1.out).stp HT2.out).stp HT3.out).stp HT4.out))
   obtain ⟨R5,hR⟩ : ∃ Q,doubleM T aa R4.2 = Q := ⟨_,rfl⟩
   rw [hR] at HC5
   have HE5 := keep hR
   clear hR
   go_wp2_with fail
   refine HC5.out.mono ?_
   rintro r w5 ⟨cv5,sv5,rfl,hr',hf',hs'⟩
   have HR5 := keep hr'
   have HS5 := keep (HS4.out.then hs')
   have HF5 := keep (HF4.out.trans hf')
   have HT5 := keep hs'
   clear hr' hf' hs' HC5
   have HC6 := keep (down_q (1 + ((31 - k) * 9 + K)) bb 1 (HR5.out.le (by omega)) (((((Ibb.out.stp HT1.out).stp HT2.out).stp HT3.out).stp HT4.out).stp HT5.out) (by decide))
   obtain ⟨R6,hR⟩ : ∃ Q,downM T bb 1 R5.2 = Q := ⟨_,rfl⟩
   rw [hR] at HC6
   have HE6 := keep hR
   clear hR
   go_wp2_with fail
   refine HC6.out.mono ?_
   rintro r w6 ⟨cv6,sv6,rfl,hr',hf',hs'⟩
   have HR6 := keep hr'
   have HS6 := keep (HS5.out.then hs')
   have HF6 := keep (HF5.out.trans hf')
   have HT6 := keep hs'
   clear hr' hf' hs' HC6
   have HC7 := keep (two_q (0 + ((31 - k) * 9 + K)) 1 sum R4.1 (HR6.out.le (by omega)) (by decide) ((((((Is.out.stp HT1.out).stp HT2.out).stp HT3.out).stp HT4.out).stp HT5.out).stp HT6.out) ((HT4.out.in'.stp HT5.out).stp HT6.out))
   obtain ⟨R7,hR⟩ : ∃ Q,twoM T 1 sum R4.1 R6.2 = Q := ⟨_,rfl⟩
   rw [hR] at HC7
   have HE7 := keep hR
   clear hR
   go_wp2_with fail
   refine HC7.out.mono ?_
   rintro r w7 ⟨cv7,sv7,rfl,hr',hf',hs'⟩
   have HR7 := keep hr'
   have HS7 := keep (HS6.out.then hs')
   have HF7 := keep (HF6.out.trans hf')
   have HT7 := keep hs'
   clear hr' hf' hs' HC7
   have HPe : Hid (prodsM T (k + 1) ⟨z.1,a,b,z.2⟩ = ⟨R7.1,R5.1,R6.1,R7.2⟩) := by
    show _ = _
    rw [HPx.out]
    unfold prodM
    dsimp only
    rw [HE1.out,HE2.out,HE3.out,HE4.out,HE5.out,HE6.out,HE7.out]
   rw [← HPx.out,HPe.out] at HPn
   go_wp2
   go_roundw
   case rel => exact ⟨k + 1,by omega,by go_num,by rw [HPe.out],by rw [HPe.out],by rw [HPe.out],_,_,by rw [HPe.out]; exact HR7.out.le (by omega),HF.out.trans HF7.out,by rw [HPe.out,show 1 + (k + 1) * 9 = 1 + k * 9 + 9 by omega]; exact HPn.out⟩
   case measure => simp [intOf] <;> omega
  ·have hke : k = 32 := by omega
   subst hke
   have HL : Hid (Lst ((prodsM T 32 ⟨z.1,a,b,z.2⟩).sum,(prodsM T 32 ⟨z.1,a,b,z.2⟩).m)) := prods_lst T 31 _
   have HM : Hid (mulM T a b m = (prodsM T 32 ⟨z.1,a,b,z.2⟩).m) := by show _ = _; unfold mulM; dsimp only; rw [HZ.out]
   have HR := keep hr0
   have HF := keep hf0
   have HP := keep hp0.s
   clear hr0 hf0 hp0 hkl hkn
   go_wp2
   refine bodyPost_end (results_none rfl _ _ _) rfl ?_
   exact ⟨_,_,_,rfl,by rw [HM.out]; exact HR.out.le (by omega),HF.out,by rw [HM.out]; exact HP.out,by rw [HM.out]; exact HL.out⟩
structure MFx (X MB NB : Nat) (cv sv : Value) (w : World) (cv' sv' : Value) (w' : World) : Prop where
 os : w'.os = w.os
 tape : w'.tape = w.tape
 output : w'.output = w.output
 size : w.heap.size ≤ w'.heap.size
 block : ∀ k,k < w.heap.size → k ≠ X → k ≠ MB → k ≠ NB → cv.ownBlock ≠ some k → sv.ownBlock ≠ some k → w'.heap[k]? = w.heap[k]?
 cn : ∀ k,cv'.ownBlock = some k → cv.ownBlock = some k ∨ w.heap.size ≤ k
 sn : ∀ k,sv'.ownBlock = some k → sv.ownBlock = some k ∨ w.heap.size ≤ k
theorem MF.x {X MB NB : Nat} {cv sv cv' sv' : Value} {w w' : World} (h : MF MB NB cv sv w cv' sv' w') : MFx X MB NB cv sv w cv' sv' w' := ⟨h.os,h.tape,h.output,h.size,fun k hk _ a b c d => h.block k hk a b c d,h.cn,h.sn⟩
theorem MFx.trans {X MB NB : Nat} {cv sv cv' sv' cv2 sv2 : Value} {w w' w2 : World} (h : MFx X MB NB cv sv w cv' sv' w') (h' : MFx X MB NB cv' sv' w' cv2 sv2 w2) : MFx X MB NB cv sv w cv2 sv2 w2 := by
 refine ⟨h'.os.trans h.os,h'.tape.trans h.tape,h'.output.trans h.output,Nat.le_trans h.size h'.size,fun k hk hx h1 h2 h3 h4 => ?_,fun k hk => ?_,fun k hk => ?_⟩
 ·rw [h'.block k (Nat.lt_of_lt_of_le hk h.size) hx h1 h2 (fun e => ?_) (fun e => ?_)]
  ·exact h.block k hk hx h1 h2 h3 h4
  ·rcases h.cn k e with e | e
   ·exact h3 e
   ·omega
  ·rcases h.sn k e with e | e
   ·exact h4 e
   ·omega
 ·rcases h'.cn k hk with e | e
  ·exact h.cn k e
  ·exact .inr (Nat.le_trans h.size e)
 ·rcases h'.sn k hk with e | e
  ·exact h.sn k e
  ·exact .inr (Nat.le_trans h.size e)
theorem MF.after {X MB NB : Nat} {cv sv cv' sv' cv2 sv2 : Value} {w w' w2 : World} (h : MF MB NB cv sv w cv' sv' w') (h' : MFx X MB NB cv' sv' w' cv2 sv2 w2) (hX : w.heap.size ≤ X) : MF MB NB cv sv w cv2 sv2 w2 := by
 have := (h.x (X:=X)).trans h'
 exact ⟨this.os,this.tape,this.output,this.size,fun k hk a b c d => this.block k hk (by omega) a b c d,this.cn,this.sn⟩
theorem MFx.aside {X MB NB : Nat} {cv sv : Value} (w : World) (j : Nat) (v : Value) : MFx X MB NB cv sv w cv sv (w.setCell ⟨X,j,none⟩ v) := by
 have hs : (w.setCell ⟨X,j,none⟩ v).heap.size = w.heap.size := by simp [World.setCell]
 exact ⟨rfl,rfl,rfl,by rw [hs]; exact Nat.le_refl _,fun k _ hx _ _ _ _ => Below.heap_setCell _ _ _ _ hx,fun k e => .inl e,fun k e => .inl e⟩
theorem Rdy.aside {lo MB NB : Nat} {T : Nat → Int} {cv sv : Value} {m : Mk} {w : World} {K X : Nat} (h : Rdy lo MB NB T cv sv m w K) (hf : Far lo MB NB cv sv X) (j : Nat) (v : Value) : Rdy lo MB NB T cv sv m (w.setCell ⟨X,j,none⟩ v) K := ⟨by rw [show (w.setCell ⟨X,j,none⟩ v).heap.size = w.heap.size by simp [World.setCell]]; exact h.l0,h.it.aside hf j v,h.t,h.g,h.s,h.c,h.n⟩
def dvL (MB : Nat) (rest by' left : Int) : List Value := [.pointer (some ⟨MB,0,none⟩),.int .i64 rest,.int .i64 by',.int .i64 left]
def Dq (K lo MB NB DB : Nat) (T : Nat → Int) (cv sv : Value) (by' : Int) (R : Int × Dv) (w : World) (r : Ending) (w' : World) : Prop := ∃ cv' sv',r = .returned (.int .i64 R.1) ∧ Rdy lo MB NB T cv' sv' R.2.m w' K ∧ MFx DB MB NB cv sv w cv' sv' w' ∧ Bk w' DB (dvL MB R.2.rest by' R.2.left) 127 ∧ Far lo MB NB cv' sv' DB
theorem step_q (K : Nat) {lo MB NB DB : Nat} {T : Nat → Int} {cv sv : Value} {q : Mk} {w : World} (rest by' left : Int) (h : Rdy lo MB NB T cv sv q w (16 + K)) (hd : Bk w DB (dvL MB rest by' left) 127) (hf : Far lo MB NB cv sv DB) (hr : In rest q) (hb : In by' q) (hl : In left q) : Calls Try.prog 95 #[.pointer (some ⟨DB,0,none⟩)] w fun r w' => Dq K lo MB NB DB T cv sv by' (stepM T by' ⟨rest,left,q⟩) w r w' := by
 have HR0 := keep h
 have HD0 := keep hd
 have HFa0 := keep hf
 have Ir := keep hr
 have Ib := keep hb
 have Il := keep hl
 clear h hd hf hr hb hl
 go_enter Try.func95,Try.ntmps95
 go_wp2_with fail
 refine wp_region_noPanic ?_
 refine Ord.wpM_begin (fun W' : World => W'.cell? ⟨DB,0,none⟩ = some (.pointer (some ⟨MB,0,none⟩)) ∧ W'.cell? ⟨DB,1,none⟩ = some (.int .i64 rest) ∧ W'.cell? ⟨DB,2,none⟩ = some (.int .i64 by') ∧ W'.cell? ⟨DB,3,none⟩ = some (.int .i64 left)) [0,1,2,3,4,5,6,7,8,9,10,11,12,13,14,15,16,17,18,19,20,21,22,23] (by kernel_rfl) ?_
 have HB1 : Hid (Below w.heap.size w w.drew) := Below.drew (Below.refl _ _)
 have HDd1 : Hid (Bk w.drew DB (dvL MB rest by' left) 127) := HD0.out.fs (Fs.of_below (l:=[]) HB1.out) (by simp)
 have HRd1 := keep (HR0.out.below HB1.out)
 generalize w.drew = wd1 at *
 have hS : (fun W' : World => W'.cell? ⟨DB,0,none⟩ = some (.pointer (some ⟨MB,0,none⟩)) ∧ W'.cell? ⟨DB,1,none⟩ = some (.int .i64 rest) ∧ W'.cell? ⟨DB,2,none⟩ = some (.int .i64 by') ∧ W'.cell? ⟨DB,3,none⟩ = some (.int .i64 left)) wd1 := ⟨HDd1.out.cell 0 rfl,HDd1.out.cell 1 rfl,HDd1.out.cell 2 rfl,HDd1.out.cell 3 rfl⟩
 refine Ord.tk (i:=0) (v:=.pointer (some ⟨DB,0,none⟩)) (hy:=Or.inl ⟨by rfl,by rintro W' ⟨q0,q1,q2,q3⟩; go_simp⟩) (hS:=hS) (h:=?_)
 try simp only [Act.put,Ord.t,Ord.z,Ord.s]
 refine Ord.tk (i:=1) (v:=.pointer (some ⟨DB,0,none⟩)) (hy:=Or.inl ⟨by rfl,by rintro W' ⟨q0,q1,q2,q3⟩; go_simp⟩) (hS:=hS) (h:=?_)
 try simp only [Act.put,Ord.t,Ord.z,Ord.s]
 refine Ord.tk (i:=2) (v:=.pointer (some ⟨DB,0,none⟩)) (hy:=Or.inl ⟨by rfl,by rintro W' ⟨q0,q1,q2,q3⟩; go_simp⟩) (hS:=hS) (h:=?_)
 try simp only [Act.put,Ord.t,Ord.z,Ord.s]
 refine Ord.tk (i:=3) (v:=.pointer (some ⟨MB,0,none⟩)) (hy:=Or.inl ⟨by rfl,by rintro W' ⟨q0,q1,q2,q3⟩; go_simp⟩) (hS:=hS) (h:=?_)
 try simp only [Act.put,Ord.t,Ord.z,Ord.s]
 refine Ord.tk (i:=4) (v:=.pointer (some ⟨DB,0,none⟩)) (hy:=Or.inl ⟨by rfl,by rintro W' ⟨q0,q1,q2,q3⟩; go_simp⟩) (hS:=hS) (h:=?_)
 try simp only [Act.put,Ord.t,Ord.z,Ord.s]
 refine Ord.tk (i:=5) (v:=.pointer (some ⟨DB,0,none⟩)) (hy:=Or.inl ⟨by rfl,by rintro W' ⟨q0,q1,q2,q3⟩; go_simp⟩) (hS:=hS) (h:=?_)
 try simp only [Act.put,Ord.t,Ord.z,Ord.s]
 refine Ord.tk (i:=6) (v:=.pointer (some ⟨DB,0,none⟩)) (hy:=Or.inl ⟨by rfl,by rintro W' ⟨q0,q1,q2,q3⟩; go_simp⟩) (hS:=hS) (h:=?_)
 try simp only [Act.put,Ord.t,Ord.z,Ord.s]
 refine Ord.tk (i:=7) (v:=.pointer (some ⟨MB,0,none⟩)) (hy:=Or.inl ⟨by rfl,by rintro W' ⟨q0,q1,q2,q3⟩; go_simp⟩) (hS:=hS) (h:=?_)
 try simp only [Act.put,Ord.t,Ord.z,Ord.s]
 refine Ord.tk (i:=8) (v:=.pointer (some ⟨DB,0,none⟩)) (hy:=Or.inl ⟨by rfl,by rintro W' ⟨q0,q1,q2,q3⟩; go_simp⟩) (hS:=hS) (h:=?_)
 try simp only [Act.put,Ord.t,Ord.z,Ord.s]
 refine Ord.tk (i:=9) (v:=.pointer (some ⟨DB,0,none⟩)) (hy:=Or.inl ⟨by rfl,by rintro W' ⟨q0,q1,q2,q3⟩; go_simp⟩) (hS:=hS) (h:=?_)
 try simp only [Act.put,Ord.t,Ord.z,Ord.s]
 refine Ord.tk (i:=10) (v:=.pointer (some ⟨DB,3,none⟩)) (hy:=Or.inl ⟨by rfl,by rintro W' ⟨q0,q1,q2,q3⟩; go_simp⟩) (hS:=hS) (h:=?_)
 try simp only [Act.put,Ord.t,Ord.z,Ord.s]
 refine Ord.tk (i:=11) (v:=.int .i64 left) (hy:=Or.inl ⟨by rfl,by rintro W' ⟨q0,q1,q2,q3⟩; go_simp⟩) (hS:=hS) (h:=?_)
 try simp only [Act.put,Ord.t,Ord.z,Ord.s]
 refine Ord.tk (i:=13) (v:=.pointer (some ⟨DB,0,none⟩)) (hy:=Or.inl ⟨by rfl,by rintro W' ⟨q0,q1,q2,q3⟩; go_simp⟩) (hS:=hS) (h:=?_)
 try simp only [Act.put,Ord.t,Ord.z,Ord.s]
 refine Ord.tk (i:=14) (v:=.pointer (some ⟨DB,0,none⟩)) (hy:=Or.inl ⟨by rfl,by rintro W' ⟨q0,q1,q2,q3⟩; go_simp⟩) (hS:=hS) (h:=?_)
 try simp only [Act.put,Ord.t,Ord.z,Ord.s]
 refine Ord.tk (i:=15) (v:=.pointer (some ⟨DB,0,none⟩)) (hy:=Or.inl ⟨by rfl,by rintro W' ⟨q0,q1,q2,q3⟩; go_simp⟩) (hS:=hS) (h:=?_)
 try simp only [Act.put,Ord.t,Ord.z,Ord.s]
 refine Ord.tk (i:=16) (v:=.pointer (some ⟨MB,0,none⟩)) (hy:=Or.inl ⟨by rfl,by rintro W' ⟨q0,q1,q2,q3⟩; go_simp⟩) (hS:=hS) (h:=?_)
 try simp only [Act.put,Ord.t,Ord.z,Ord.s]
 refine Ord.tk (i:=17) (v:=.pointer (some ⟨DB,0,none⟩)) (hy:=Or.inl ⟨by rfl,by rintro W' ⟨q0,q1,q2,q3⟩; go_simp⟩) (hS:=hS) (h:=?_)
 try simp only [Act.put,Ord.t,Ord.z,Ord.s]
 refine Ord.tk (i:=18) (v:=.pointer (some ⟨DB,0,none⟩)) (hy:=Or.inl ⟨by rfl,by rintro W' ⟨q0,q1,q2,q3⟩; go_simp⟩) (hS:=hS) (h:=?_)
 try simp only [Act.put,Ord.t,Ord.z,Ord.s]
 refine Ord.tk (i:=19) (v:=.pointer (some ⟨DB,1,none⟩)) (hy:=Or.inl ⟨by rfl,by rintro W' ⟨q0,q1,q2,q3⟩; go_simp⟩) (hS:=hS) (h:=?_)
 try simp only [Act.put,Ord.t,Ord.z,Ord.s]
 refine Ord.tk (i:=20) (v:=.int .i64 rest) (hy:=Or.inl ⟨by rfl,by rintro W' ⟨q0,q1,q2,q3⟩; go_simp⟩) (hS:=hS) (h:=?_)
 try simp only [Act.put,Ord.t,Ord.z,Ord.s]
 have HC1 := keep (double_q (15 + K) left (HRd1.out.le (by omega)) Il.out)
 obtain ⟨R1,hR⟩ : ∃ R,doubleM T left q = R := ⟨_,rfl⟩
 rw [hR] at HC1
 have HE1 := keep hR
 clear hR
 refine Ord.on (i:=12) (h:=fun K hK => ?_)
 go_simp
 refine HC1.out.mono ?_
 rintro r w1 ⟨cv1,sv1,rfl,hr',hf',hs'⟩
 have HR1 := keep hr'
 have HT1 := keep hs'
 have HF1 := keep hf'
 have HD1 := keep (hf'.far HDd1.out HFa0.out)
 have HFa1 := keep (HFa0.out.step hf' HDd1.out.lt)
 clear hr' hf' hs' HC1
 go_simp
 refine hK.out _ _ (fun _ => ⟨HD1.out.cell 0 rfl,HD1.out.cell 1 rfl,HD1.out.cell 2 rfl,HD1.out.cell 3 rfl⟩) ?_
 clear hK K
 try simp only [Act.put,Ord.t,Ord.z,Ord.s]
 have hS : (fun W' : World => W'.cell? ⟨DB,0,none⟩ = some (.pointer (some ⟨MB,0,none⟩)) ∧ W'.cell? ⟨DB,1,none⟩ = some (.int .i64 rest) ∧ W'.cell? ⟨DB,2,none⟩ = some (.int .i64 by') ∧ W'.cell? ⟨DB,3,none⟩ = some (.int .i64 left)) w1 := ⟨HD1.out.cell 0 rfl,HD1.out.cell 1 rfl,HD1.out.cell 2 rfl,HD1.out.cell 3 rfl⟩
 have HC2 := keep (top_q (13 + K) rest (HR1.out.le (by omega)) (Ir.out.stp HT1.out))
 obtain ⟨R2,hR⟩ : ∃ R,topM T rest R1.2 = R := ⟨_,rfl⟩
 rw [hR] at HC2
 have HE2 := keep hR
 clear hR
 refine Ord.on (i:=21) (h:=fun K hK => ?_)
 go_simp
 refine HC2.out.mono ?_
 rintro r w2 ⟨cv2,sv2,rfl,hr',hf',hs'⟩
 have HR2 := keep hr'
 have HT2 := keep hs'
 have HF2 := keep hf'
 have HD2 := keep (hf'.far HD1.out HFa1.out)
 have HFa2 := keep (HFa1.out.step hf' HD1.out.lt)
 clear hr' hf' hs' HC2
 go_simp
 refine hK.out _ _ (fun _ => ⟨HD2.out.cell 0 rfl,HD2.out.cell 1 rfl,HD2.out.cell 2 rfl,HD2.out.cell 3 rfl⟩) ?_
 clear hK K
 try simp only [Act.put,Ord.t,Ord.z,Ord.s]
 have hS : (fun W' : World => W'.cell? ⟨DB,0,none⟩ = some (.pointer (some ⟨MB,0,none⟩)) ∧ W'.cell? ⟨DB,1,none⟩ = some (.int .i64 rest) ∧ W'.cell? ⟨DB,2,none⟩ = some (.int .i64 by') ∧ W'.cell? ⟨DB,3,none⟩ = some (.int .i64 left)) w2 := ⟨HD2.out.cell 0 rfl,HD2.out.cell 1 rfl,HD2.out.cell 2 rfl,HD2.out.cell 3 rfl⟩
 have HC3 := keep (two_q (12 + K) 4 R1.1 R2.1 (HR2.out.le (by omega)) (by decide) (HT1.out.in'.stp HT2.out) HT2.out.in')
 obtain ⟨R3,hR⟩ : ∃ R,twoM T 4 R1.1 R2.1 R2.2 = R := ⟨_,rfl⟩
 rw [hR] at HC3
 have HE3 := keep hR
 clear hR
 refine Ord.on (i:=22) (h:=fun K hK => ?_)
 go_simp
 refine HC3.out.mono ?_
 rintro r w3 ⟨cv3,sv3,rfl,hr',hf',hs'⟩
 have HR3 := keep hr'
 have HT3 := keep hs'
 have HF3 := keep hf'
 have HD3 := keep (hf'.far HD2.out HFa2.out)
 have HFa3 := keep (HFa2.out.step hf' HD2.out.lt)
 clear hr' hf' hs' HC3
 go_simp
 refine hK.out _ _ (fun _ => ⟨HD3.out.cell 0 rfl,HD3.out.cell 1 rfl,HD3.out.cell 2 rfl,HD3.out.cell 3 rfl⟩) ?_
 clear hK K
 try simp only [Act.put,Ord.t,Ord.z,Ord.s]
 have hS : (fun W' : World => W'.cell? ⟨DB,0,none⟩ = some (.pointer (some ⟨MB,0,none⟩)) ∧ W'.cell? ⟨DB,1,none⟩ = some (.int .i64 rest) ∧ W'.cell? ⟨DB,2,none⟩ = some (.int .i64 by') ∧ W'.cell? ⟨DB,3,none⟩ = some (.int .i64 left)) w3 := ⟨HD3.out.cell 0 rfl,HD3.out.cell 1 rfl,HD3.out.cell 2 rfl,HD3.out.cell 3 rfl⟩
 refine Ord.on (i:=23) (h:=fun K hK => ?_)
 go_simp
 refine hK.out _ _ (fun _ => hS) ?_
 clear hK K
 try simp only [Act.put,Ord.t,Ord.z,Ord.s]
 refine Ord.wpM_done (by kernel_rfl) ?_ _
 refine NoPanic.normal ?_
 clear hS
 go_wp2_with fail
 refine wp_region_noPanic ?_
 refine Ord.wpM_begin (fun W' : World => W'.cell? ⟨DB,0,none⟩ = some (.pointer (some ⟨MB,0,none⟩)) ∧ W'.cell? ⟨DB,1,none⟩ = some (.int .i64 rest) ∧ W'.cell? ⟨DB,2,none⟩ = some (.int .i64 by') ∧ W'.cell? ⟨DB,3,none⟩ = some (.int .i64 left)) [0,1,2,3,4,5,6,7,8,9,10,11] (by kernel_rfl) ?_
 have HB2 : Hid (Below w3.heap.size w3 w3.drew) := Below.drew (Below.refl _ _)
 have HDd2 : Hid (Bk w3.drew DB (dvL MB rest by' left) 127) := HD3.out.fs (Fs.of_below (l:=[]) HB2.out) (by simp)
 have HRd2 := keep (HR3.out.below HB2.out)
 generalize w3.drew = wd2 at *
 have hS : (fun W' : World => W'.cell? ⟨DB,0,none⟩ = some (.pointer (some ⟨MB,0,none⟩)) ∧ W'.cell? ⟨DB,1,none⟩ = some (.int .i64 rest) ∧ W'.cell? ⟨DB,2,none⟩ = some (.int .i64 by') ∧ W'.cell? ⟨DB,3,none⟩ = some (.int .i64 left)) wd2 := ⟨HDd2.out.cell 0 rfl,HDd2.out.cell 1 rfl,HDd2.out.cell 2 rfl,HDd2.out.cell 3 rfl⟩
 refine Ord.tk (i:=0) (v:=.pointer (some ⟨DB,0,none⟩)) (hy:=Or.inl ⟨by rfl,by rintro W' ⟨q0,q1,q2,q3⟩; go_simp⟩) (hS:=hS) (h:=?_)
 try simp only [Act.put,Ord.t,Ord.z,Ord.s]
 refine Ord.tk (i:=1) (v:=.pointer (some ⟨DB,0,none⟩)) (hy:=Or.inl ⟨by rfl,by rintro W' ⟨q0,q1,q2,q3⟩; go_simp⟩) (hS:=hS) (h:=?_)
 try simp only [Act.put,Ord.t,Ord.z,Ord.s]
 refine Ord.tk (i:=2) (v:=.pointer (some ⟨DB,0,none⟩)) (hy:=Or.inl ⟨by rfl,by rintro W' ⟨q0,q1,q2,q3⟩; go_simp⟩) (hS:=hS) (h:=?_)
 try simp only [Act.put,Ord.t,Ord.z,Ord.s]
 refine Ord.tk (i:=3) (v:=.pointer (some ⟨DB,0,none⟩)) (hy:=Or.inl ⟨by rfl,by rintro W' ⟨q0,q1,q2,q3⟩; go_simp⟩) (hS:=hS) (h:=?_)
 try simp only [Act.put,Ord.t,Ord.z,Ord.s]
 refine Ord.tk (i:=4) (v:=.pointer (some ⟨MB,0,none⟩)) (hy:=Or.inl ⟨by rfl,by rintro W' ⟨q0,q1,q2,q3⟩; go_simp⟩) (hS:=hS) (h:=?_)
 try simp only [Act.put,Ord.t,Ord.z,Ord.s]
 refine Ord.tk (i:=5) (v:=.pointer (some ⟨DB,0,none⟩)) (hy:=Or.inl ⟨by rfl,by rintro W' ⟨q0,q1,q2,q3⟩; go_simp⟩) (hS:=hS) (h:=?_)
 try simp only [Act.put,Ord.t,Ord.z,Ord.s]
 refine Ord.tk (i:=6) (v:=.pointer (some ⟨DB,0,none⟩)) (hy:=Or.inl ⟨by rfl,by rintro W' ⟨q0,q1,q2,q3⟩; go_simp⟩) (hS:=hS) (h:=?_)
 try simp only [Act.put,Ord.t,Ord.z,Ord.s]
 refine Ord.tk (i:=7) (v:=.pointer (some ⟨DB,1,none⟩)) (hy:=Or.inl ⟨by rfl,by rintro W' ⟨q0,q1,q2,q3⟩; go_simp⟩) (hS:=hS) (h:=?_)
 try simp only [Act.put,Ord.t,Ord.z,Ord.s]
 refine Ord.tk (i:=8) (v:=.int .i64 rest) (hy:=Or.inl ⟨by rfl,by rintro W' ⟨q0,q1,q2,q3⟩; go_simp⟩) (hS:=hS) (h:=?_)
 try simp only [Act.put,Ord.t,Ord.z,Ord.s]
 have HC4 := keep (double_q (11 + K) rest (HRd2.out.le (by omega)) (((Ir.out.stp HT1.out).stp HT2.out).stp HT3.out))
 obtain ⟨R4,hR⟩ : ∃ R,doubleM T rest R3.2 = R := ⟨_,rfl⟩
 rw [hR] at HC4
 have HE4 := keep hR
 clear hR
 refine Ord.on (i:=9) (h:=fun K hK => ?_)
 go_simp
 refine HC4.out.mono ?_
 rintro r w4 ⟨cv4,sv4,rfl,hr',hf',hs'⟩
 have HR4 := keep hr'
 have HT4 := keep hs'
 have HF4 := keep hf'
 have HD4 := keep (hf'.far HDd2.out HFa3.out)
 have HFa4 := keep (HFa3.out.step hf' HDd2.out.lt)
 clear hr' hf' hs' HC4
 go_simp
 refine hK.out _ _ (fun _ => ⟨HD4.out.cell 0 rfl,HD4.out.cell 1 rfl,HD4.out.cell 2 rfl,HD4.out.cell 3 rfl⟩) ?_
 clear hK K
 try simp only [Act.put,Ord.t,Ord.z,Ord.s]
 have hS : (fun W' : World => W'.cell? ⟨DB,0,none⟩ = some (.pointer (some ⟨MB,0,none⟩)) ∧ W'.cell? ⟨DB,1,none⟩ = some (.int .i64 rest) ∧ W'.cell? ⟨DB,2,none⟩ = some (.int .i64 by') ∧ W'.cell? ⟨DB,3,none⟩ = some (.int .i64 left)) w4 := ⟨HD4.out.cell 0 rfl,HD4.out.cell 1 rfl,HD4.out.cell 2 rfl,HD4.out.cell 3 rfl⟩
 refine Ord.on (i:=10) (h:=fun K hK => ?_)
 go_simp
 refine hK.out _ _ (fun _ => hS) ?_
 clear hK K
 try simp only [Act.put,Ord.t,Ord.z,Ord.s]
 refine Ord.on (i:=11) (h:=fun K hK => ?_)
 go_simp
 refine hK.out _ _ (fun _ => hS) ?_
 clear hK K
 try simp only [Act.put,Ord.t,Ord.z,Ord.s]
 have z1 := HD4.out.cell 1 rfl
 have z2 := HD4.out.fr 1
 refine Ord.on (i:=12) (h:=fun K hK => ?_)
 go_simp
 refine hK.out _ _ (fun h => absurd h (by decide)) ?_
 clear hK K
 try simp only [Act.put,Ord.t,Ord.z,Ord.s]
 refine Ord.wpM_done (by kernel_rfl) ?_ _
 refine NoPanic.normal ?_
 have HR5' := keep (HR4.out.aside HFa4.out 1 (.int .i64 R4.1))
 have HD5' : Hid (Bk (w4.setCell ⟨DB,1,none⟩ (.int .i64 R4.1)) DB (dvL MB R4.1 by' left) 127) := HD4.out.set 1 _
 have HX5 : Hid (MFx DB MB NB cv4 sv4 w4 cv4 sv4 (w4.setCell ⟨DB,1,none⟩ (.int .i64 R4.1))) := MFx.aside _ _ _
 clear hS z1 z2
 generalize w4.setCell ⟨DB,1,none⟩ (.int .i64 R4.1) = ws at *
 go_wp2_with fail
 refine wp_region_noPanic ?_
 refine Ord.wpM_begin (fun W' : World => W'.cell? ⟨DB,0,none⟩ = some (.pointer (some ⟨MB,0,none⟩)) ∧ W'.cell? ⟨DB,1,none⟩ = some (.int .i64 R4.1) ∧ W'.cell? ⟨DB,2,none⟩ = some (.int .i64 by') ∧ W'.cell? ⟨DB,3,none⟩ = some (.int .i64 left)) [0,1,2,3,4,5,6,7,8,9,10,11,12,13,14,15,16,17,18,19,20] (by kernel_rfl) ?_
 have HB3 : Hid (Below ws.heap.size ws ws.drew) := Below.drew (Below.refl _ _)
 have HDd3 : Hid (Bk ws.drew DB (dvL MB R4.1 by' left) 127) := HD5'.out.fs (Fs.of_below (l:=[]) HB3.out) (by simp)
 have HRd3 := keep (HR5'.out.below HB3.out)
 generalize ws.drew = wd3 at *
 have hS : (fun W' : World => W'.cell? ⟨DB,0,none⟩ = some (.pointer (some ⟨MB,0,none⟩)) ∧ W'.cell? ⟨DB,1,none⟩ = some (.int .i64 R4.1) ∧ W'.cell? ⟨DB,2,none⟩ = some (.int .i64 by') ∧ W'.cell? ⟨DB,3,none⟩ = some (.int .i64 left)) wd3 := ⟨HDd3.out.cell 0 rfl,HDd3.out.cell 1 rfl,HDd3.out.cell 2 rfl,HDd3.out.cell 3 rfl⟩
 refine Ord.tk (i:=0) (v:=.pointer (some ⟨DB,0,none⟩)) (hy:=Or.inl ⟨by rfl,by rintro W' ⟨q0,q1,q2,q3⟩; go_simp⟩) (hS:=hS) (h:=?_)
 try simp only [Act.put,Ord.t,Ord.z,Ord.s]
 refine Ord.tk (i:=1) (v:=.pointer (some ⟨DB,0,none⟩)) (hy:=Or.inl ⟨by rfl,by rintro W' ⟨q0,q1,q2,q3⟩; go_simp⟩) (hS:=hS) (h:=?_)
 try simp only [Act.put,Ord.t,Ord.z,Ord.s]
 refine Ord.tk (i:=2) (v:=.pointer (some ⟨DB,0,none⟩)) (hy:=Or.inl ⟨by rfl,by rintro W' ⟨q0,q1,q2,q3⟩; go_simp⟩) (hS:=hS) (h:=?_)
 try simp only [Act.put,Ord.t,Ord.z,Ord.s]
 refine Ord.tk (i:=3) (v:=.pointer (some ⟨MB,0,none⟩)) (hy:=Or.inl ⟨by rfl,by rintro W' ⟨q0,q1,q2,q3⟩; go_simp⟩) (hS:=hS) (h:=?_)
 try simp only [Act.put,Ord.t,Ord.z,Ord.s]
 refine Ord.tk (i:=4) (v:=.pointer (some ⟨DB,0,none⟩)) (hy:=Or.inl ⟨by rfl,by rintro W' ⟨q0,q1,q2,q3⟩; go_simp⟩) (hS:=hS) (h:=?_)
 try simp only [Act.put,Ord.t,Ord.z,Ord.s]
 refine Ord.tk (i:=5) (v:=.pointer (some ⟨DB,0,none⟩)) (hy:=Or.inl ⟨by rfl,by rintro W' ⟨q0,q1,q2,q3⟩; go_simp⟩) (hS:=hS) (h:=?_)
 try simp only [Act.put,Ord.t,Ord.z,Ord.s]
 refine Ord.tk (i:=6) (v:=.pointer (some ⟨DB,0,none⟩)) (hy:=Or.inl ⟨by rfl,by rintro W' ⟨q0,q1,q2,q3⟩; go_simp⟩) (hS:=hS) (h:=?_)
 try simp only [Act.put,Ord.t,Ord.z,Ord.s]
 refine Ord.tk (i:=7) (v:=.pointer (some ⟨MB,0,none⟩)) (hy:=Or.inl ⟨by rfl,by rintro W' ⟨q0,q1,q2,q3⟩; go_simp⟩) (hS:=hS) (h:=?_)
 try simp only [Act.put,Ord.t,Ord.z,Ord.s]
 refine Ord.tk (i:=8) (v:=.int .i64 R3.1) (hy:=Or.inl ⟨by rfl,by rintro W' ⟨q0,q1,q2,q3⟩; go_simp⟩) (hS:=hS) (h:=?_)
 try simp only [Act.put,Ord.t,Ord.z,Ord.s]
 refine Ord.tk (i:=9) (v:=.pointer (some ⟨DB,0,none⟩)) (hy:=Or.inl ⟨by rfl,by rintro W' ⟨q0,q1,q2,q3⟩; go_simp⟩) (hS:=hS) (h:=?_)
 try simp only [Act.put,Ord.t,Ord.z,Ord.s]
 refine Ord.tk (i:=10) (v:=.pointer (some ⟨DB,0,none⟩)) (hy:=Or.inl ⟨by rfl,by rintro W' ⟨q0,q1,q2,q3⟩; go_simp⟩) (hS:=hS) (h:=?_)
 try simp only [Act.put,Ord.t,Ord.z,Ord.s]
 refine Ord.tk (i:=11) (v:=.pointer (some ⟨DB,2,none⟩)) (hy:=Or.inl ⟨by rfl,by rintro W' ⟨q0,q1,q2,q3⟩; go_simp⟩) (hS:=hS) (h:=?_)
 try simp only [Act.put,Ord.t,Ord.z,Ord.s]
 refine Ord.tk (i:=12) (v:=.int .i64 by') (hy:=Or.inl ⟨by rfl,by rintro W' ⟨q0,q1,q2,q3⟩; go_simp⟩) (hS:=hS) (h:=?_)
 try simp only [Act.put,Ord.t,Ord.z,Ord.s]
 refine Ord.tk (i:=14) (v:=.pointer (some ⟨DB,0,none⟩)) (hy:=Or.inl ⟨by rfl,by rintro W' ⟨q0,q1,q2,q3⟩; go_simp⟩) (hS:=hS) (h:=?_)
 try simp only [Act.put,Ord.t,Ord.z,Ord.s]
 refine Ord.tk (i:=15) (v:=.pointer (some ⟨DB,0,none⟩)) (hy:=Or.inl ⟨by rfl,by rintro W' ⟨q0,q1,q2,q3⟩; go_simp⟩) (hS:=hS) (h:=?_)
 try simp only [Act.put,Ord.t,Ord.z,Ord.s]
 refine Ord.tk (i:=16) (v:=.pointer (some ⟨DB,0,none⟩)) (hy:=Or.inl ⟨by rfl,by rintro W' ⟨q0,q1,q2,q3⟩; go_simp⟩) (hS:=hS) (h:=?_)
 try simp only [Act.put,Ord.t,Ord.z,Ord.s]
 refine Ord.tk (i:=17) (v:=.pointer (some ⟨MB,0,none⟩)) (hy:=Or.inl ⟨by rfl,by rintro W' ⟨q0,q1,q2,q3⟩; go_simp⟩) (hS:=hS) (h:=?_)
 try simp only [Act.put,Ord.t,Ord.z,Ord.s]
 have HC5 := keep (below_q (4 + K) R3.1 by' (HRd3.out.le (by omega)) (HT3.out.in'.stp HT4.out) ((((Ib.out.stp HT1.out).stp HT2.out).stp HT3.out).stp HT4.out))
 obtain ⟨R5,hR⟩ : ∃ R,belowM T R3.1 by' R4.2 = R := ⟨_,rfl⟩
 rw [hR] at HC5
 have HE5 := keep hR
 clear hR
 refine Ord.on (i:=13) (h:=fun K hK => ?_)
 go_simp
 refine HC5.out.mono ?_
 rintro r w5 ⟨cv5,sv5,rfl,hr',hf',hs'⟩
 have HR5 := keep hr'
 have HT5 := keep hs'
 have HF5 := keep hf'
 have HD5 := keep (hf'.far HDd3.out HFa4.out)
 have HFa5 := keep (HFa4.out.step hf' HDd3.out.lt)
 clear hr' hf' hs' HC5
 go_simp
 refine hK.out _ _ (fun _ => ⟨HD5.out.cell 0 rfl,HD5.out.cell 1 rfl,HD5.out.cell 2 rfl,HD5.out.cell 3 rfl⟩) ?_
 clear hK K
 try simp only [Act.put,Ord.t,Ord.z,Ord.s]
 have hS : (fun W' : World => W'.cell? ⟨DB,0,none⟩ = some (.pointer (some ⟨MB,0,none⟩)) ∧ W'.cell? ⟨DB,1,none⟩ = some (.int .i64 R4.1) ∧ W'.cell? ⟨DB,2,none⟩ = some (.int .i64 by') ∧ W'.cell? ⟨DB,3,none⟩ = some (.int .i64 left)) w5 := ⟨HD5.out.cell 0 rfl,HD5.out.cell 1 rfl,HD5.out.cell 2 rfl,HD5.out.cell 3 rfl⟩
 have HC6 := keep (num_q (3 + K) 1 (HR5.out.le (by omega)) (by decide))
 obtain ⟨R6,hR⟩ : ∃ R,numM T 1 R5.2 = R := ⟨_,rfl⟩
 rw [hR] at HC6
 have HE6 := keep hR
 clear hR
 refine Ord.on (i:=18) (h:=fun K hK => ?_)
 go_simp
 refine HC6.out.mono ?_
 rintro r w6 ⟨cv6,sv6,rfl,hr',hf',hs'⟩
 have HR6 := keep hr'
 have HT6 := keep hs'
 have HF6 := keep hf'
 have HD6 := keep (hf'.far HD5.out HFa5.out)
 have HFa6 := keep (HFa5.out.step hf' HD5.out.lt)
 clear hr' hf' hs' HC6
 go_simp
 refine hK.out _ _ (fun _ => ⟨HD6.out.cell 0 rfl,HD6.out.cell 1 rfl,HD6.out.cell 2 rfl,HD6.out.cell 3 rfl⟩) ?_
 clear hK K
 try simp only [Act.put,Ord.t,Ord.z,Ord.s]
 have hS : (fun W' : World => W'.cell? ⟨DB,0,none⟩ = some (.pointer (some ⟨MB,0,none⟩)) ∧ W'.cell? ⟨DB,1,none⟩ = some (.int .i64 R4.1) ∧ W'.cell? ⟨DB,2,none⟩ = some (.int .i64 by') ∧ W'.cell? ⟨DB,3,none⟩ = some (.int .i64 left)) w6 := ⟨HD6.out.cell 0 rfl,HD6.out.cell 1 rfl,HD6.out.cell 2 rfl,HD6.out.cell 3 rfl⟩
 have HC7 := keep (two_q (2 + K) 2 R5.1 R6.1 (HR6.out.le (by omega)) (by decide) (HT5.out.in'.stp HT6.out) HT6.out.in')
 obtain ⟨R7,hR⟩ : ∃ R,twoM T 2 R5.1 R6.1 R6.2 = R := ⟨_,rfl⟩
 rw [hR] at HC7
 have HE7 := keep hR
 clear hR
 refine Ord.on (i:=19) (h:=fun K hK => ?_)
 go_simp
 refine HC7.out.mono ?_
 rintro r w7 ⟨cv7,sv7,rfl,hr',hf',hs'⟩
 have HR7 := keep hr'
 have HT7 := keep hs'
 have HF7 := keep hf'
 have HD7 := keep (hf'.far HD6.out HFa6.out)
 have HFa7 := keep (HFa6.out.step hf' HD6.out.lt)
 clear hr' hf' hs' HC7
 go_simp
 refine hK.out _ _ (fun _ => ⟨HD7.out.cell 0 rfl,HD7.out.cell 1 rfl,HD7.out.cell 2 rfl,HD7.out.cell 3 rfl⟩) ?_
 clear hK K
 try simp only [Act.put,Ord.t,Ord.z,Ord.s]
 have hS : (fun W' : World => W'.cell? ⟨DB,0,none⟩ = some (.pointer (some ⟨MB,0,none⟩)) ∧ W'.cell? ⟨DB,1,none⟩ = some (.int .i64 R4.1) ∧ W'.cell? ⟨DB,2,none⟩ = some (.int .i64 by') ∧ W'.cell? ⟨DB,3,none⟩ = some (.int .i64 left)) w7 := ⟨HD7.out.cell 0 rfl,HD7.out.cell 1 rfl,HD7.out.cell 2 rfl,HD7.out.cell 3 rfl⟩
 refine Ord.on (i:=20) (h:=fun K hK => ?_)
 go_simp
 refine hK.out _ _ (fun _ => hS) ?_
 clear hK K
 try simp only [Act.put,Ord.t,Ord.z,Ord.s]
 refine Ord.wpM_done (by kernel_rfl) ?_ _
 refine NoPanic.normal ?_
 clear hS
 go_wp2_with fail
 refine wp_region_noPanic ?_
 refine Ord.wpM_begin (fun W' : World => W'.cell? ⟨DB,0,none⟩ = some (.pointer (some ⟨MB,0,none⟩)) ∧ W'.cell? ⟨DB,1,none⟩ = some (.int .i64 R4.1) ∧ W'.cell? ⟨DB,2,none⟩ = some (.int .i64 by') ∧ W'.cell? ⟨DB,3,none⟩ = some (.int .i64 left)) [0,1,2,3,4,5,6,7,8,9,10,11,12,13,14,15,16,17,18] (by kernel_rfl) ?_
 have HB4 : Hid (Below w7.heap.size w7 w7.drew) := Below.drew (Below.refl _ _)
 have HDd4 : Hid (Bk w7.drew DB (dvL MB R4.1 by' left) 127) := HD7.out.fs (Fs.of_below (l:=[]) HB4.out) (by simp)
 have HRd4 := keep (HR7.out.below HB4.out)
 generalize w7.drew = wd4 at *
 have hS : (fun W' : World => W'.cell? ⟨DB,0,none⟩ = some (.pointer (some ⟨MB,0,none⟩)) ∧ W'.cell? ⟨DB,1,none⟩ = some (.int .i64 R4.1) ∧ W'.cell? ⟨DB,2,none⟩ = some (.int .i64 by') ∧ W'.cell? ⟨DB,3,none⟩ = some (.int .i64 left)) wd4 := ⟨HDd4.out.cell 0 rfl,HDd4.out.cell 1 rfl,HDd4.out.cell 2 rfl,HDd4.out.cell 3 rfl⟩
 refine Ord.tk (i:=0) (v:=.pointer (some ⟨DB,0,none⟩)) (hy:=Or.inl ⟨by rfl,by rintro W' ⟨q0,q1,q2,q3⟩; go_simp⟩) (hS:=hS) (h:=?_)
 try simp only [Act.put,Ord.t,Ord.z,Ord.s]
 refine Ord.tk (i:=1) (v:=.pointer (some ⟨DB,0,none⟩)) (hy:=Or.inl ⟨by rfl,by rintro W' ⟨q0,q1,q2,q3⟩; go_simp⟩) (hS:=hS) (h:=?_)
 try simp only [Act.put,Ord.t,Ord.z,Ord.s]
 refine Ord.tk (i:=2) (v:=.pointer (some ⟨DB,0,none⟩)) (hy:=Or.inl ⟨by rfl,by rintro W' ⟨q0,q1,q2,q3⟩; go_simp⟩) (hS:=hS) (h:=?_)
 try simp only [Act.put,Ord.t,Ord.z,Ord.s]
 refine Ord.tk (i:=3) (v:=.pointer (some ⟨DB,0,none⟩)) (hy:=Or.inl ⟨by rfl,by rintro W' ⟨q0,q1,q2,q3⟩; go_simp⟩) (hS:=hS) (h:=?_)
 try simp only [Act.put,Ord.t,Ord.z,Ord.s]
 refine Ord.tk (i:=4) (v:=.pointer (some ⟨MB,0,none⟩)) (hy:=Or.inl ⟨by rfl,by rintro W' ⟨q0,q1,q2,q3⟩; go_simp⟩) (hS:=hS) (h:=?_)
 try simp only [Act.put,Ord.t,Ord.z,Ord.s]
 refine Ord.tk (i:=5) (v:=.int .i64 R3.1) (hy:=Or.inl ⟨by rfl,by rintro W' ⟨q0,q1,q2,q3⟩; go_simp⟩) (hS:=hS) (h:=?_)
 try simp only [Act.put,Ord.t,Ord.z,Ord.s]
 refine Ord.tk (i:=6) (v:=.pointer (some ⟨DB,0,none⟩)) (hy:=Or.inl ⟨by rfl,by rintro W' ⟨q0,q1,q2,q3⟩; go_simp⟩) (hS:=hS) (h:=?_)
 try simp only [Act.put,Ord.t,Ord.z,Ord.s]
 refine Ord.tk (i:=7) (v:=.pointer (some ⟨DB,0,none⟩)) (hy:=Or.inl ⟨by rfl,by rintro W' ⟨q0,q1,q2,q3⟩; go_simp⟩) (hS:=hS) (h:=?_)
 try simp only [Act.put,Ord.t,Ord.z,Ord.s]
 refine Ord.tk (i:=8) (v:=.pointer (some ⟨DB,0,none⟩)) (hy:=Or.inl ⟨by rfl,by rintro W' ⟨q0,q1,q2,q3⟩; go_simp⟩) (hS:=hS) (h:=?_)
 try simp only [Act.put,Ord.t,Ord.z,Ord.s]
 refine Ord.tk (i:=9) (v:=.pointer (some ⟨MB,0,none⟩)) (hy:=Or.inl ⟨by rfl,by rintro W' ⟨q0,q1,q2,q3⟩; go_simp⟩) (hS:=hS) (h:=?_)
 try simp only [Act.put,Ord.t,Ord.z,Ord.s]
 refine Ord.tk (i:=10) (v:=.pointer (some ⟨DB,0,none⟩)) (hy:=Or.inl ⟨by rfl,by rintro W' ⟨q0,q1,q2,q3⟩; go_simp⟩) (hS:=hS) (h:=?_)
 try simp only [Act.put,Ord.t,Ord.z,Ord.s]
 refine Ord.tk (i:=11) (v:=.pointer (some ⟨DB,0,none⟩)) (hy:=Or.inl ⟨by rfl,by rintro W' ⟨q0,q1,q2,q3⟩; go_simp⟩) (hS:=hS) (h:=?_)
 try simp only [Act.put,Ord.t,Ord.z,Ord.s]
 refine Ord.tk (i:=12) (v:=.pointer (some ⟨DB,2,none⟩)) (hy:=Or.inl ⟨by rfl,by rintro W' ⟨q0,q1,q2,q3⟩; go_simp⟩) (hS:=hS) (h:=?_)
 try simp only [Act.put,Ord.t,Ord.z,Ord.s]
 refine Ord.tk (i:=13) (v:=.int .i64 by') (hy:=Or.inl ⟨by rfl,by rintro W' ⟨q0,q1,q2,q3⟩; go_simp⟩) (hS:=hS) (h:=?_)
 try simp only [Act.put,Ord.t,Ord.z,Ord.s]
 refine Ord.tk (i:=14) (v:=.int .i64 R7.1) (hy:=Or.inl ⟨by rfl,by rintro W' ⟨q0,q1,q2,q3⟩; go_simp⟩) (hS:=hS) (h:=?_)
 try simp only [Act.put,Ord.t,Ord.z,Ord.s]
 have HC8 := keep (two_q (1 + K) 3 by' R7.1 (HRd4.out.le (by omega)) (by decide) (((((((Ib.out.stp HT1.out).stp HT2.out).stp HT3.out).stp HT4.out).stp HT5.out).stp HT6.out).stp HT7.out) HT7.out.in')
 obtain ⟨R8,hR⟩ : ∃ R,twoM T 3 by' R7.1 R7.2 = R := ⟨_,rfl⟩
 rw [hR] at HC8
 have HE8 := keep hR
 clear hR
 refine Ord.on (i:=15) (h:=fun K hK => ?_)
 go_simp
 refine HC8.out.mono ?_
 rintro r w8 ⟨cv8,sv8,rfl,hr',hf',hs'⟩
 have HR8 := keep hr'
 have HT8 := keep hs'
 have HF8 := keep hf'
 have HD8 := keep (hf'.far HDd4.out HFa7.out)
 have HFa8 := keep (HFa7.out.step hf' HDd4.out.lt)
 clear hr' hf' hs' HC8
 go_simp
 refine hK.out _ _ (fun _ => ⟨HD8.out.cell 0 rfl,HD8.out.cell 1 rfl,HD8.out.cell 2 rfl,HD8.out.cell 3 rfl⟩) ?_
 clear hK K
 try simp only [Act.put,Ord.t,Ord.z,Ord.s]
 have hS : (fun W' : World => W'.cell? ⟨DB,0,none⟩ = some (.pointer (some ⟨MB,0,none⟩)) ∧ W'.cell? ⟨DB,1,none⟩ = some (.int .i64 R4.1) ∧ W'.cell? ⟨DB,2,none⟩ = some (.int .i64 by') ∧ W'.cell? ⟨DB,3,none⟩ = some (.int .i64 left)) w8 := ⟨HD8.out.cell 0 rfl,HD8.out.cell 1 rfl,HD8.out.cell 2 rfl,HD8.out.cell 3 rfl⟩
 have HC9 := keep (two_q (0 + K) 2 R3.1 R8.1 (HR8.out.le (by omega)) (by decide) (((((HT3.out.in'.stp HT4.out).stp HT5.out).stp HT6.out).stp HT7.out).stp HT8.out) HT8.out.in')
 obtain ⟨R9,hR⟩ : ∃ R,twoM T 2 R3.1 R8.1 R8.2 = R := ⟨_,rfl⟩
 rw [hR] at HC9
 have HE9 := keep hR
 clear hR
 refine Ord.on (i:=16) (h:=fun K hK => ?_)
 go_simp
 refine HC9.out.mono ?_
 rintro r w9 ⟨cv9,sv9,rfl,hr',hf',hs'⟩
 have HR9 := keep hr'
 have HT9 := keep hs'
 have HF9 := keep hf'
 have HD9 := keep (hf'.far HD8.out HFa8.out)
 have HFa9 := keep (HFa8.out.step hf' HD8.out.lt)
 clear hr' hf' hs' HC9
 go_simp
 refine hK.out _ _ (fun _ => ⟨HD9.out.cell 0 rfl,HD9.out.cell 1 rfl,HD9.out.cell 2 rfl,HD9.out.cell 3 rfl⟩) ?_
 clear hK K
 try simp only [Act.put,Ord.t,Ord.z,Ord.s]
 have hS : (fun W' : World => W'.cell? ⟨DB,0,none⟩ = some (.pointer (some ⟨MB,0,none⟩)) ∧ W'.cell? ⟨DB,1,none⟩ = some (.int .i64 R4.1) ∧ W'.cell? ⟨DB,2,none⟩ = some (.int .i64 by') ∧ W'.cell? ⟨DB,3,none⟩ = some (.int .i64 left)) w9 := ⟨HD9.out.cell 0 rfl,HD9.out.cell 1 rfl,HD9.out.cell 2 rfl,HD9.out.cell 3 rfl⟩
 refine Ord.on (i:=17) (h:=fun K hK => ?_)
 go_simp
 refine hK.out _ _ (fun _ => hS) ?_
 clear hK K
 try simp only [Act.put,Ord.t,Ord.z,Ord.s]
 refine Ord.on (i:=18) (h:=fun K hK => ?_)
 go_simp
 refine hK.out _ _ (fun _ => hS) ?_
 clear hK K
 try simp only [Act.put,Ord.t,Ord.z,Ord.s]
 have z1 := HD9.out.cell 3 rfl
 have z2 := HD9.out.fr 3
 refine Ord.on (i:=19) (h:=fun K hK => ?_)
 go_simp
 refine hK.out _ _ (fun h => absurd h (by decide)) ?_
 clear hK K
 try simp only [Act.put,Ord.t,Ord.z,Ord.s]
 refine Ord.wpM_done (by kernel_rfl) ?_ _
 refine NoPanic.normal ?_
 have HRe := keep (HR9.out.aside HFa9.out 3 (.int .i64 R9.1))
 have HDe : Hid (Bk (w9.setCell ⟨DB,3,none⟩ (.int .i64 R9.1)) DB (dvL MB R4.1 by' R9.1) 127) := HD9.out.set 3 _
 have HXe : Hid (MFx DB MB NB cv sv w cv9 sv9 (w9.setCell ⟨DB,3,none⟩ (.int .i64 R9.1))) := by
  have a1 := (((MF.of_below (MB:=MB) (NB:=NB) (cv:=cv) (sv:=sv) HB1.out).trans HF1.out).trans HF2.out).trans HF3.out
  have a2 := (a1.trans ((MF.of_below HB2.out).trans HF4.out)).x (X:=DB)
  have a3 := (((MF.of_below (MB:=MB) (NB:=NB) (cv:=cv4) (sv:=sv4) HB3.out).trans HF5.out).trans HF6.out).trans HF7.out
  have a4 := (a3.trans (((MF.of_below HB4.out).trans HF8.out).trans HF9.out)).x (X:=DB)
  exact ((a2.trans HX5.out).trans a4).trans (MFx.aside _ _ _)
 have HEq : Hid (stepM T by' ⟨rest,left,q⟩ = (R7.1,⟨R4.1,R9.1,R9.2⟩)) := by show _ = _; unfold stepM; dsimp only; rw [HE1.out,HE2.out,HE3.out,HE4.out,HE5.out,HE6.out,HE7.out,HE8.out,HE9.out]
 clear hS z1 z2
 generalize w9.setCell ⟨DB,3,none⟩ (.int .i64 R9.1) = we at *
 go_wp2
 go_ret
 exact ⟨_,_,by rw [HEq.out]; rfl,by rw [HEq.out]; exact HRe.out.le (by omega),HXe.out,by rw [HEq.out]; exact HDe.out,HFa9.out⟩
end Go.Proofs.Ytfbmkcogkiejnaa.Hg
