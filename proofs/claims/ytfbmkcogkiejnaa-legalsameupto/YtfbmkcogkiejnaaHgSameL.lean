/- DONE OTHERWISE IT IS THE SAME: LegalSame, walked. Written by tools/gen_hgsml.py. -/
import Derived.Test.YtfbmkcogkiejnaaGr49
import Derived.Test.YtfbmkcogkiejnaaGr51
import Derived.Test.YtfbmkcogkiejnaaGr15
namespace Go.Proofs.Ytfbmkcogkiejnaa.Hg
set_option maxHeartbeats 32000000
set_option maxRecDepth 100000
set_option linter.unusedVariables false
set_option linter.unusedSimpArgs false
open Go.ChangeShapes Go.WideShapes Go.ChangeAt Go.RowKit Go.Maps Lg Lr Fl
theorem vr_len {w : World} {B : Nat} {l : List Vr} {p : Option Addr} {n c : Nat} (h : VrIs w B l (.slice p n c)) : l.length = n := by
 obtain ⟨p',n',c',e,hn,_⟩ := h
 cases e; exact hn
theorem same8_any (B : Nat) (f : Fx) (s1 s2 s3 : Value) (T : Nat → Int) (ws : List Int) (aa : List (List Int)) (gv : Value) (w : World) (hB : B ≤ w.heap.size) (h : FxIs w B f s1 s2 s3) (hTI : Tb.I64 T) (hg : GvIs w B ws aa gv) (hN2 : f.sec.length ≤ 1048576) (hN3 : f.arrs.length ≤ 1048576) (hT1 : ws.length + sumL aa ≤ 1048576) :
  Calls Try.prog 7 #[.agg (fxA f s1 s2 s3),.agg (Tb.tabA T),gv] w fun r w' => r = .returned (.bool true) ∧ Below w.heap.size w w' := by
 obtain ⟨p1,n1,c1,hs1,hx1⟩ := id h.code
 obtain ⟨p2,n2,c2,hs2,hx2⟩ := id h.sec
 obtain ⟨p3,n3,c3,hs3,hx3⟩ := id h.arrs
 subst hs1 hs2 hs3
 have HG0 := keep hg
 obtain ⟨t1,t2,rfl,hi,ha⟩ := hg
 obtain ⟨p4,n4,c4,hs4,hx4⟩ := id hi
 obtain ⟨p5,n5,c5,hs5,hx5⟩ := id ha
 subst hs4 hs5
 obtain ⟨pr,hpr⟩ : ∃ k : Int,f.params = k := ⟨f.params,rfl⟩
 obtain ⟨w1,hw1⟩ : ∃ y,w.alloc (.cells #[.slice p1 n1 c1,.slice p2 n2 c2,.int .i64 pr,.slice p3 n3 c3] 26) = y := ⟨_,rfl⟩
 obtain ⟨w2,hw2⟩ : ∃ y,w1.alloc (.cells (Tb.tabA T) 29) = y := ⟨_,rfl⟩
 obtain ⟨w3,hw3⟩ : ∃ y,w2.alloc (.cells #[.slice p4 n4 c4,.slice p5 n5 c5] 33) = y := ⟨_,rfl⟩
 obtain ⟨F,hF⟩ : ∃ y,w.heap.size = y := ⟨_,rfl⟩
 obtain ⟨TB,hTB⟩ : ∃ y,w1.heap.size = y := ⟨_,rfl⟩
 obtain ⟨G,hG⟩ : ∃ y,w2.heap.size = y := ⟨_,rfl⟩
 have b1 : Below w.heap.size w w1 := by rw [← hw1]; exact (Below.refl _ _).alloc (Nat.le_refl _) _
 have b2 : Below w1.heap.size w1 w2 := by rw [← hw2]; exact (Below.refl _ _).alloc (Nat.le_refl _) _
 have b3 : Below w2.heap.size w2 w3 := by rw [← hw3]; exact (Below.refl _ _).alloc (Nat.le_refl _) _
 have b23 := b2.trans (b3.mono b2.size)
 have b13 := b1.trans (b23.mono b1.size)
 have kF1 : Bk w1 F [.slice p1 n1 c1,.slice p2 n2 c2,.int .i64 pr,.slice p3 n3 c3] 26 := by rw [← hw1,← hF]; exact Bk.new _ _ _
 have kF := kF1.fs (Fs.of_below (l:=[]) b23) (by simp)
 have kT2 : Tb.Blk w2 TB T := by rw [← hw2,← hTB]; exact Tb.blk_alloc w1 T
 have kT : Tb.Blk w3 TB T := kT2.below b3 kT2.lt
 have kG : Bk w3 G [.slice p4 n4 c4,.slice p5 n5 c5] 33 := by rw [← hw3,← hG]; exact Bk.new _ _ _
 have HBx : Hid (∀ W,Below w3.heap.size w3 W → Bk W F [.slice p1 n1 c1,.slice p2 n2 c2,.int .i64 pr,.slice p3 n3 c3] 26 ∧ Bk W G [.slice p4 n4 c4,.slice p5 n5 c5] 33) := fun W hW => ⟨kF.fs (Fs.of_below (l:=[]) hW) (by simp),kG.fs (Fs.of_below (l:=[]) hW) (by simp)⟩
 have HTk : Hid (∀ W,Below w3.heap.size w3 W → Tb.Blk W TB T) := fun W hW => kT.below hW kT.lt
 have HIn : Hid (∀ W,Below w3.heap.size w3 W → B ≤ W.heap.size ∧ FxIs W B f (.slice p1 n1 c1) (.slice p2 n2 c2) (.slice p3 n3 c3) ∧ GvIs W B ws aa (.agg #[.slice p4 n4 c4,.slice p5 n5 c5])) := fun W hW => by
  have hb := b13.trans (hW.mono b13.size)
  exact ⟨Nat.le_trans hB hb.size,h.below (hb.mono hB),HG0.out.below (hb.mono hB)⟩
 have HBw : Hid (∀ W,Below w3.heap.size w3 W → Below w.heap.size w W) := fun W hW => b13.trans (hW.mono b13.size)
 have HW1 := keep hw1
 have HW2 := keep hw2
 have HW3 := keep hw3
 have HF := keep hF
 have HTB := keep hTB
 have HG := keep hG
 have HN := keep (And.intro hN2 hN3)
 have HT1 := keep hT1
 have HPr := keep hpr
 have HTI := keep hTI
 have HAl := keep (fun W => alive_any W)
 unfold fxA
 rw [hpr]
 clear hw1 hw2 hw3 hF hTB hG b1 b2 b3 b23 b13 kF1 kF kT2 kT kG hi ha hx1 hx2 hx3 hx4 hx5 h hB hN2 hN3 hT1 hpr hTI HG0
 go_enter Try.func7,Try.ntmps7
 go_wp2_with (first | rw [HW1.out] | rw [HW2.out] | rw [HW3.out] | rw [HF.out] | rw [HTB.out] | rw [HG.out] | fail)
 refine (HAl.out w3).mono ?_
 rintro r w5 ⟨rfl,hb5⟩
 have HB5 := keep hb5
 obtain ⟨kF,kG⟩ := HBx.out w5 hb5
 have f0 := kF.cell 0 rfl
 have f1 := kF.cell 1 rfl
 have f2 := kF.cell 2 rfl
 have f3 := kF.cell 3 rfl
 have g0 := kG.cell 0 rfl
 have g1 := kG.cell 1 rfl
 clear kF kG
 obtain ⟨i1,i2,_⟩ := HIn.out w5 hb5
 have HCk := keep (rcheck_any B f _ _ _ w5 i1 i2)
 unfold fxA at HCk
 rw [HPr.out] at HCk
 clear hb5 HAl i1 i2
 go_wp2_with fail
 refine HCk.out.mono ?_
 rintro r w6 ⟨rfl,hb6⟩
 have HB6 := keep (HB5.out.trans (hb6.mono HB5.out.size))
 clear hb6 HCk f0 f1 f2 f3 g0 g1 HB5
 by_cases hc : (checkF f).1 = 0
 rotate_left
 ·obtain ⟨e,he⟩ : ∃ e,(checkF f).1 = e := ⟨_,rfl⟩
  obtain ⟨e',he'⟩ : ∃ e,(checkF f).2 = e := ⟨_,rfl⟩
  rw [he,he']
  rw [he] at hc
  have hb : (e != 0) = true := by rw [bne_iff_ne]; exact hc
  clear hc he he'
  obtain ⟨kF,kG⟩ := HBx.out w6 HB6.out
  have f0 := kF.cell 0 rfl
  have f1 := kF.cell 1 rfl
  have f2 := kF.cell 2 rfl
  have f3 := kF.cell 3 rfl
  have g0 := kG.cell 0 rfl
  have g1 := kG.cell 1 rfl
  clear kF kG
  go_wp2
  go_quiet (fail)
  go_wp2
  go_ret
  exact ⟨rfl,HBw.out _ (HB6.out.trans ((below_drewN (Below.refl _ _) nq).mono HB6.out.size))⟩
 have hck := check_zero hc
 have HC0 := keep hc
 have HCC := keep hck
 rw [hck]
 have HR := keep (right_of (f:=f) hc)
 obtain ⟨np,hnp⟩ : ∃ k : Nat,pr = (k : Int) := ⟨pr.toNat,by have := HR.out.p0; rw [HPr.out] at this; omega⟩
 subst hnp
 have hmm : np ≤ 1048576 := by have h1 := HR.out.p1; have h2 := HPr.out; have h3 := HN.out.1; omega
 have hmz : (0 : Int) ≤ (np : Int) := by omega
 have HMk := keep (fun W => make_vars np (by omega) W)
 obtain ⟨z,hz⟩ : ∃ z,Tb.wrongT T = z := ⟨_,rfl⟩
 have HZ := keep hz
 clear hz hc hck
 go_wp2_with fail
 have HSS : Hid (∀ W',Below w3.heap.size w3 W' → Tb.Blk W' TB T ∧ W'.cell? ⟨F,0,none⟩ = some (.slice p1 n1 c1) ∧ W'.cell? ⟨F,1,none⟩ = some (.slice p2 n2 c2) ∧ W'.cell? ⟨F,2,none⟩ = some (.int .i64 (np : Int)) ∧ W'.cell? ⟨F,3,none⟩ = some (.slice p3 n3 c3) ∧ W'.cell? ⟨G,0,none⟩ = some (.slice p4 n4 c4) ∧ W'.cell? ⟨G,1,none⟩ = some (.slice p5 n5 c5)) := fun W' hW => by
  obtain ⟨kF,kG⟩ := HBx.out W' hW
  exact ⟨HTk.out W' hW,kF.cell 0 rfl,kF.cell 1 rfl,kF.cell 2 rfl,kF.cell 3 rfl,kG.cell 0 rfl,kG.cell 1 rfl⟩
 refine wp_region_noPanic ?_
 refine Ord.wpM_begin (fun W' : World => Tb.Blk W' TB T ∧ W'.cell? ⟨F,0,none⟩ = some (.slice p1 n1 c1) ∧ W'.cell? ⟨F,1,none⟩ = some (.slice p2 n2 c2) ∧ W'.cell? ⟨F,2,none⟩ = some (.int .i64 (np : Int)) ∧ W'.cell? ⟨F,3,none⟩ = some (.slice p3 n3 c3) ∧ W'.cell? ⟨G,0,none⟩ = some (.slice p4 n4 c4) ∧ W'.cell? ⟨G,1,none⟩ = some (.slice p5 n5 c5)) [0,1,2,3,4,5,6,7,8,9,10,11,12,13,14,15,16,17] (by kernel_rfl) ?_
 have HD : Hid (Below w3.heap.size w3 w6.drew) := HB6.out.trans ((Below.drew (Below.refl _ _)).mono HB6.out.size)
 generalize w6.drew = wd at *
 have hS := HSS.out wd HD.out
 have HWr := keep (Rt.wrong_any T HTI.out wd)
 rw [HZ.out] at HWr
 refine Ord.tk (i:=0) (v:=.int .i64 0) (hy:=Or.inl ⟨by rfl,by rintro W' ⟨q0,q1,q2,q3,q4,q5,q6⟩; go_simp⟩) (hS:=hS) (h:=?_)
 try simp only [Act.put,Ord.t,Ord.z,Ord.s]
 refine Ord.tk (i:=1) (v:=.bool false) (hy:=Or.inl ⟨by rfl,by rintro W' ⟨q0,q1,q2,q3,q4,q5,q6⟩; go_simp⟩) (hS:=hS) (h:=?_)
 try simp only [Act.put,Ord.t,Ord.z,Ord.s]
 refine Ord.tk (i:=2) (v:=.bool false) (hy:=Or.inl ⟨by rfl,by rintro W' ⟨q0,q1,q2,q3,q4,q5,q6⟩; go_simp⟩) (hS:=hS) (h:=?_)
 try simp only [Act.put,Ord.t,Ord.z,Ord.s]
 refine Ord.wpM_take (i:=3) (v:=.agg (Tb.tabA T)) (by simp only [List.getElem?_toArray,List.getElem?_cons_zero,List.getElem?_cons_succ]; rfl) (by kernel_rfl) (by kernel_rfl) (by kernel_rfl) (by kernel_rfl) (fun _ _ _ h => h) (tab_yieldsG (by rfl) (.tmp 4) rfl TB rfl T (fun W hW => hW.1)) hS ?_
 try simp only [Act.put,Ord.t,Ord.z,Ord.s]
 refine Ord.on (i:=4) (h:=fun K hK => ?_)
 go_simp
 refine HWr.out.mono ?_
 rintro r wa ⟨rfl,hba⟩
 have HBa := keep (HD.out.trans (hba.mono HD.out.size))
 clear hba HWr
 go_simp
 refine hK.out _ _ (fun _ => HSS.out wa HBa.out) ?_
 clear hK K
 try simp only [Act.put,Ord.t,Ord.z,Ord.s]
 have hS := HSS.out wa HBa.out
 by_cases hz0 : z = 0
 rotate_left
 ·have hb : (z != 0) = true := by rw [bne_iff_ne]; exact hz0
  clear hz0
  refine Ord.tk (i:=5) (v:=.bool (z != 0)) (hy:=Or.inl ⟨by rfl,by intro W' hW; go_simp⟩) (hS:=hS) (h:=?_)
  try simp only [Act.put,Ord.t,Ord.z,Ord.s]
  rw [hb]
  refine Ord.tk (i:=6) (v:=.bool true) (hy:=Or.inl ⟨by rfl,by rintro W' ⟨q0,q1,q2,q3,q4,q5,q6⟩; go_simp⟩) (hS:=hS) (h:=?_)
  try simp only [Act.put,Ord.t,Ord.z,Ord.s]
  refine Ord.tk (i:=7) (v:=.bool true) (hy:=Or.inl ⟨by rfl,by rintro W' ⟨q0,q1,q2,q3,q4,q5,q6⟩; go_simp⟩) (hS:=hS) (h:=?_)
  try simp only [Act.put,Ord.t,Ord.z,Ord.s]
  refine Ord.tk (i:=8) (v:=undef) (hy:=Or.inr ⟨by rfl,rfl⟩) (hS:=hS) (h:=?_)
  try simp only [Act.put,Ord.t,Ord.z,Ord.s]
  refine Ord.tk (i:=9) (v:=undef) (hy:=Or.inr ⟨by rfl,rfl⟩) (hS:=hS) (h:=?_)
  try simp only [Act.put,Ord.t,Ord.z,Ord.s]
  refine Ord.tk (i:=10) (v:=undef) (hy:=Or.inr ⟨by rfl,rfl⟩) (hS:=hS) (h:=?_)
  try simp only [Act.put,Ord.t,Ord.z,Ord.s]
  refine Ord.tk (i:=11) (v:=undef) (hy:=Or.inr ⟨by rfl,rfl⟩) (hS:=hS) (h:=?_)
  try simp only [Act.put,Ord.t,Ord.z,Ord.s]
  refine Ord.tk (i:=12) (v:=undef) (hy:=Or.inr ⟨by rfl,rfl⟩) (hS:=hS) (h:=?_)
  try simp only [Act.put,Ord.t,Ord.z,Ord.s]
  refine Ord.tk (i:=13) (v:=undef) (hy:=Or.inr ⟨by rfl,rfl⟩) (hS:=hS) (h:=?_)
  try simp only [Act.put,Ord.t,Ord.z,Ord.s]
  refine Ord.tk (i:=14) (v:=undef) (hy:=Or.inr ⟨by rfl,rfl⟩) (hS:=hS) (h:=?_)
  try simp only [Act.put,Ord.t,Ord.z,Ord.s]
  refine Ord.tk (i:=15) (v:=undef) (hy:=Or.inr ⟨by rfl,rfl⟩) (hS:=hS) (h:=?_)
  try simp only [Act.put,Ord.t,Ord.z,Ord.s]
  refine Ord.tk (i:=16) (v:=undef) (hy:=Or.inr ⟨by rfl,rfl⟩) (hS:=hS) (h:=?_)
  try simp only [Act.put,Ord.t,Ord.z,Ord.s]
  refine Ord.tk (i:=17) (v:=.bool true) (hy:=Or.inl ⟨by rfl,by rintro W' ⟨q0,q1,q2,q3,q4,q5,q6⟩; go_simp⟩) (hS:=hS) (h:=?_)
  try simp only [Act.put,Ord.t,Ord.z,Ord.s]
  refine Ord.wpM_done (by kernel_rfl) ?_ _
  refine NoPanic.normal ?_
  clear HSS hS
  go_wp2
  go_ret
  exact ⟨rfl,HBw.out _ HBa.out⟩
 subst hz0
 have HTR := keep (tabR_of HZ.out)
 refine Ord.tk (i:=5) (v:=.bool false) (hy:=Or.inl ⟨by rfl,by rintro W' ⟨q0,q1,q2,q3,q4,q5,q6⟩; go_simp⟩) (hS:=hS) (h:=?_)
 try simp only [Act.put,Ord.t,Ord.z,Ord.s]
 refine Ord.tk (i:=6) (v:=.bool false) (hy:=Or.inl ⟨by rfl,by rintro W' ⟨q0,q1,q2,q3,q4,q5,q6⟩; go_simp⟩) (hS:=hS) (h:=?_)
 try simp only [Act.put,Ord.t,Ord.z,Ord.s]
 refine Ord.tk (i:=7) (v:=.bool false) (hy:=Or.inl ⟨by rfl,by rintro W' ⟨q0,q1,q2,q3,q4,q5,q6⟩; go_simp⟩) (hS:=hS) (h:=?_)
 try simp only [Act.put,Ord.t,Ord.z,Ord.s]
 refine Ord.tk (i:=8) (v:=.pointer (some ⟨F,2,none⟩)) (hy:=Or.inl ⟨by rfl,by rintro W' ⟨q0,q1,q2,q3,q4,q5,q6⟩; go_simp⟩) (hS:=hS) (h:=?_)
 try simp only [Act.put,Ord.t,Ord.z,Ord.s]
 refine Ord.tk (i:=9) (v:=.int .i64 (np : Int)) (hy:=Or.inl ⟨by rfl,by rintro W' ⟨q0,q1,q2,q3,q4,q5,q6⟩; go_simp⟩) (hS:=hS) (h:=?_)
 try simp only [Act.put,Ord.t,Ord.z,Ord.s]
 refine Ord.tk (i:=11) (v:=.pointer (some ⟨F,3,none⟩)) (hy:=Or.inl ⟨by rfl,by rintro W' ⟨q0,q1,q2,q3,q4,q5,q6⟩; go_simp⟩) (hS:=hS) (h:=?_)
 try simp only [Act.put,Ord.t,Ord.z,Ord.s]
 refine Ord.tk (i:=12) (v:=.slice p3 n3 c3) (hy:=Or.inl ⟨by rfl,by rintro W' ⟨q0,q1,q2,q3,q4,q5,q6⟩; go_simp⟩) (hS:=hS) (h:=?_)
 try simp only [Act.put,Ord.t,Ord.z,Ord.s]
 refine Ord.tk (i:=14) (v:=.agg #[.slice p4 n4 c4,.slice p5 n5 c5]) (hy:=Or.inl ⟨by rfl,by rintro W' ⟨q0,q1,q2,q3,q4,q5,q6⟩; go_simp⟩) (hS:=hS) (h:=?_)
 try simp only [Act.put,Ord.t,Ord.z,Ord.s]
 have hmk := HMk.out wa
 obtain ⟨wv,hwv⟩ : ∃ y,wa.alloc (.cells (madeCells #[.string ⟨#[]⟩,.bool false,.int .i64 0] (np * 3)) 75) = y := ⟨_,rfl⟩
 obtain ⟨VB,hVB⟩ : ∃ y,wa.heap.size = y := ⟨_,rfl⟩
 have HBv : Hid (Below w3.heap.size w3 wv) := by show Below _ _ _; rw [← hwv]; exact HBa.out.trans ((Below.refl _ _).alloc HBa.out.size _)
 have HVr : Hid (VrIs wv wv.heap.size (List.replicate np zV) (.slice (some ⟨VB,0,none⟩) np np)) := by
  have h1 := vars_zero wa np (by omega)
  rw [hwv,hVB] at h1
  have h2 : wv.heap.size = wa.heap.size + 1 := by rw [← hwv]; simp
  rw [h2,hVB]; exact h1
 rw [hwv,hVB] at hmk
 have HFt := keep (rfits_any wv.heap.size (List.replicate np zV) f.arrs _ _ (.slice none 0 0) ws aa _ wv (Nat.le_refl _) HVr.out (VrIs_mono (HIn.out wv HBv.out).2.1.arrs (HIn.out wv HBv.out).1) ⟨_,_,_,rfl⟩ (GvIs_mono (HIn.out wv HBv.out).2.2 (HIn.out wv HBv.out).1) (fun _ _ j _ => by have h1 := sumL_le aa j; have h2 := HT1.out; omega))
 clear hwv hVB
 refine Ord.on (i:=10) (h:=fun K hK => ?_)
 go_simp
 refine hK.out _ _ (fun _ => HSS.out wv HBv.out) ?_
 clear hK K hmk
 try simp only [Act.put,Ord.t,Ord.z,Ord.s]
 have hS := HSS.out wv HBv.out
 refine Ord.tk (i:=13) (v:=.agg #[.slice (some ⟨VB,0,none⟩) np np,.slice p3 n3 c3,.slice none 0 0]) (hy:=Or.inl ⟨by rfl,by rintro W' ⟨q0,q1,q2,q3,q4,q5,q6⟩; go_simp⟩) (hS:=hS) (h:=?_)
 try simp only [Act.put,Ord.t,Ord.z,Ord.s]
 refine Ord.on (i:=15) (h:=fun K hK => ?_)
 go_simp
 refine HFt.out.mono ?_
 rintro r wf ⟨cc,rfl,hcc,hbf⟩
 have HBf := keep (HBv.out.trans (hbf.mono HBv.out.size))
 clear hbf HFt
 go_simp
 refine hK.out _ _ (fun _ => HSS.out wf HBf.out) ?_
 clear hK K
 try simp only [Act.put,Ord.t,Ord.z,Ord.s]
 have hS := HSS.out wf HBf.out
 cases hcc with
 | many hh =>
  refine Ord.tk (i:=16) (v:=.bool true) (hy:=Or.inl ⟨by rfl,by rintro W' ⟨q0,q1,q2,q3,q4,q5,q6⟩; go_simp⟩) (hS:=hS) (h:=?_)
  try simp only [Act.put,Ord.t,Ord.z,Ord.s]
  refine Ord.tk (i:=17) (v:=.bool true) (hy:=Or.inl ⟨by rfl,by rintro W' ⟨q0,q1,q2,q3,q4,q5,q6⟩; go_simp⟩) (hS:=hS) (h:=?_)
  try simp only [Act.put,Ord.t,Ord.z,Ord.s]
  refine Ord.wpM_done (by kernel_rfl) ?_ _
  refine NoPanic.normal ?_
  clear HSS hS
  go_wp2
  go_ret
  exact ⟨rfl,HBw.out _ HBf.out⟩
 | range hh1 hh2 =>
  refine Ord.tk (i:=16) (v:=.bool true) (hy:=Or.inl ⟨by rfl,by rintro W' ⟨q0,q1,q2,q3,q4,q5,q6⟩; go_simp⟩) (hS:=hS) (h:=?_)
  try simp only [Act.put,Ord.t,Ord.z,Ord.s]
  refine Ord.tk (i:=17) (v:=.bool true) (hy:=Or.inl ⟨by rfl,by rintro W' ⟨q0,q1,q2,q3,q4,q5,q6⟩; go_simp⟩) (hS:=hS) (h:=?_)
  try simp only [Act.put,Ord.t,Ord.z,Ord.s]
  refine Ord.wpM_done (by kernel_rfl) ?_ _
  refine NoPanic.normal ?_
  clear HSS hS
  go_wp2
  go_ret
  exact ⟨rfl,HBw.out _ HBf.out⟩
 | ok hh1 hh2 =>
  refine Ord.tk (i:=16) (v:=.bool false) (hy:=Or.inl ⟨by rfl,by rintro W' ⟨q0,q1,q2,q3,q4,q5,q6⟩; go_simp⟩) (hS:=hS) (h:=?_)
  try simp only [Act.put,Ord.t,Ord.z,Ord.s]
  refine Ord.tk (i:=17) (v:=.bool false) (hy:=Or.inl ⟨by rfl,by rintro W' ⟨q0,q1,q2,q3,q4,q5,q6⟩; go_simp⟩) (hS:=hS) (h:=?_)
  try simp only [Act.put,Ord.t,Ord.z,Ord.s]
  refine Ord.wpM_done (by kernel_rfl) ?_ _
  refine NoPanic.normal ?_
  clear HSS hS
  have HSh : Hid (Shape (List.replicate f.params.toNat zV) f.arrs ws aa) := by show Shape _ _ _ _; rw [HPr.out,Int.toNat_natCast]; exact hh1
  have HAW := keep hh2
  clear hh1 hh2
  have HSu : Hid (sumL aa ≤ 1048576) := by have := HT1.out; show _ ≤ _; omega
  have HNp : Hid (f.sec.length ≤ 17592186044416 ∧ aa.length ≤ 1048576 ∧ ws.length ≤ f.sec.length) := by
   have h1 := HN.out
   have h2 := HSh.out.a
   have h3 := HSh.out.w
   rw [List.length_replicate] at h3
   have h4 := HR.out.p1
   have h5 := HR.out.p0
   exact ⟨by omega,by omega,by omega⟩
  have HGA : Hid (GA f.arrs aa) := ⟨HSh.out.a,fun j row v hj hv => HSh.out.s j v row hv hj,HAW.out.2⟩
  obtain ⟨i1,i2,_⟩ := HIn.out wf HBf.out
  have HLg := keep (legal_whole B f _ _ _ T wf i1 i2 HN.out.1 HN.out.2 HTI.out)
  unfold fxA at HLg
  rw [HPr.out] at HLg
  obtain ⟨kF,kG⟩ := HBx.out wf HBf.out
  have f0 := kF.cell 0 rfl
  have f1 := kF.cell 1 rfl
  have f2 := kF.cell 2 rfl
  have f3 := kF.cell 3 rfl
  have g0 := kG.cell 0 rfl
  have g1 := kG.cell 1 rfl
  clear kF kG
  have HTf := keep (HTk.out wf HBf.out)
  clear i1 i2
  go_wp2_with (first | refine Tb.load_tab rfl _ rfl TB rfl T HTf.out ?_ | fail)
  refine HLg.out.mono ?_
  rintro r w11 hwg
  clear HLg f0 f1 f2 f3 g0 g1 HTf
  by_cases he : err8 f T = 0
  rotate_left
  ·obtain ⟨hb11,⟨_,rfl⟩ | ⟨he',_⟩⟩ := hwg
   rotate_left
   ·exact absurd he' he
   have HB11 := keep (HBf.out.trans (hb11.mono HBf.out.size))
   have HBo := keep (fun o => HBw.out _ (HB11.out.alloc HB11.out.size o))
   rcases err_cases HC0.out HZ.out he with e | e
   ·rw [e]
    clear he e hb11
    go_wp2_with fail
    go_ret
    exact ⟨rfl,HBo.out _⟩
   ·rw [e]
    clear he e hb11
    go_wp2_with fail
    go_ret
    exact ⟨rfl,HBo.out _⟩
  have hex : ∃ s,run8 f T = some s ∧ s.much = false := by
   obtain ⟨_,⟨he',_⟩ | ⟨_,s,hs,hm,_⟩⟩ := hwg
   ·exact absurd he he'
   ·exact ⟨s,hs,hm⟩
  obtain ⟨s,hs,hm⟩ := hex
  have hinv := inv_run HR.out HTR.out hs hm
  have hmr := made_right HR.out HTR.out hs hm
  have hsl : s.m.sec.length ≤ 100000000 := by
   obtain ⟨S,h1,h2⟩ := hinv.ok.sec
   have h3 := HR.out.len2
   have h4 := HN.out.1
   rw [h1,List.length_append,List.length_map]; omega
  have hsl2 : (mX f s).sec.length ≤ 17592186044416 := by unfold mX is1; dsimp only; rw [List.length_map]; omega
  obtain ⟨hb11,p7,N,c7,LB,M,p6,n6,c6,rfl,hfx,hN,hM⟩ := wg_fx hwg he hs (by unfold leadM; rw [List.length_map]; have := hinv.ok.code; omega) hsl HN.out.2
  rw [HPr.out]
  have HFX := keep (show ∀ (l : List Nat) (W : World),Fs l w11 W → (∀ k ∈ l,k < wf.heap.size) → FxIs W W.heap.size (mX f s) (.slice p7 N c7) (.slice (some ⟨LB,0,none⟩) M M) (.slice p6 n6 c6) from hfx)
  have HSame : Hid (∀ ls ls' e e',Runs f.code T 0 (firstP f.sec.length ws) aa ls e → Runs (mX f s).code T 0 (firstP (mX f s).sec.length ws) aa ls' e' → e' = e) := fun ls ls' e e' h1 h2 => same_end HR.out HTR.out hs hm HNp.out.2.2 HAW.out.1 HGA.out h1 h2
  have HXa : Hid (checkF (mX f s) = (0,-1) ∧ (mX f s).params = (np : Int) ∧ (mX f s).arrs = f.arrs ∧ (mX f s).sec.length ≤ 17592186044416 ∧ (mX f s).params = f.params) := ⟨hmr.1,HPr.out,rfl,hsl2,rfl⟩
  obtain ⟨x,hx⟩ : ∃ x,mX f s = x := ⟨_,rfl⟩
  rw [hx] at HFX HSame HXa
  have HB11 := keep (HBf.out.trans (hb11.mono HBf.out.size))
  clear hwg hs hm hinv hmr hsl hsl2 he hfx hN hM hx hb11
  obtain ⟨w12,hw12⟩ : ∃ y,w11.alloc (.cells #[.slice p7 N c7,.slice (some ⟨LB,0,none⟩) M M,.int .i64 (np : Int),.slice p6 n6 c6] 26) = y := ⟨_,rfl⟩
  obtain ⟨Y,hY⟩ : ∃ y,w11.heap.size = y := ⟨_,rfl⟩
  have hb12 : Below w11.heap.size w11 w12 := by rw [← hw12]; exact (Below.refl _ _).alloc (Nat.le_refl _) _
  have kY : Bk w12 Y [.slice p7 N c7,.slice (some ⟨LB,0,none⟩) M M,.int .i64 (np : Int),.slice p6 n6 c6] 26 := by rw [← hw12,← hY]; exact Bk.new _ _ _
  have HB12 := keep (HB11.out.trans (hb12.mono HB11.out.size))
  have HYx : Hid (∀ W,Below w12.heap.size w12 W → Bk W Y [.slice p7 N c7,.slice (some ⟨LB,0,none⟩) M M,.int .i64 (np : Int),.slice p6 n6 c6] 26) := fun W hW => kY.fs (Fs.of_below (l:=[]) hW) (by simp)
  have HXI : Hid (∀ W,Below w12.heap.size w12 W → FxIs W W.heap.size x (.slice p7 N c7) (.slice (some ⟨LB,0,none⟩) M M) (.slice p6 n6 c6)) := fun W hW => HFX.out [] W (Fs.of_below (hb12.trans (hW.mono hb12.size))) (by simp)
  have HCk := keep (rcheck_any w12.heap.size x _ _ _ w12 (Nat.le_refl _) (HXI.out w12 (Below.refl _ _)))
  unfold fxA at HCk
  rw [HXa.out.2.1] at HCk
  have y0 := kY.cell 0 rfl
  have y1 := kY.cell 1 rfl
  have y2 := kY.cell 2 rfl
  have y3 := kY.cell 3 rfl
  have HW12 := keep hw12
  have HYn := keep hY
  clear hw12 hY hb12 kY HFX
  go_wp2_with (first | rw [HW12.out,HYn.out] | fail)
  refine HCk.out.mono ?_
  rintro r w13 ⟨rfl,hb13⟩
  rw [HXa.out.1]
  have HB13 := keep (HB12.out.trans (hb13.mono HB12.out.size))
  have HY13 := keep hb13
  clear HCk hb13 y0 y1 y2 y3
  have hn6 : n6 = n3 := by
   have h1 := vr_len (HXI.out w13 HY13.out).arrs
   have h2 := vr_len (HIn.out w13 HB13.out).2.1.arrs
   rw [HXa.out.2.2.1] at h1
   omega
  subst hn6
  obtain ⟨kF,kG⟩ := HBx.out w13 HB13.out
  have f0 := kF.cell 0 rfl
  have f1 := kF.cell 1 rfl
  have f2 := kF.cell 2 rfl
  have f3 := kF.cell 3 rfl
  have g0 := kG.cell 0 rfl
  have g1 := kG.cell 1 rfl
  clear kF kG
  have kY := HYx.out w13 HY13.out
  have y0 := kY.cell 0 rfl
  have y1 := kY.cell 1 rfl
  have y2 := kY.cell 2 rfl
  have y3 := kY.cell 3 rfl
  clear kY
  have HT13 := keep (HTk.out w13 HB13.out)
  obtain ⟨i1,i2,i3⟩ := HIn.out w13 HB13.out
  have HRn := keep (rrun_any B f T _ _ _ ws aa _ w13 i1 i2 i3 HCC.out HTR.out HNp.out.1 HSh.out HAW.out HSu.out HNp.out.2.1)
  unfold fxA at HRn
  rw [HPr.out] at HRn
  clear i1 i2 i3
  go_wp2_with (first | refine Tb.load_tab rfl _ rfl TB rfl T HT13.out ?_ | fail)
  refine HRn.out.mono ?_
  rintro r w15 ⟨ls,e,v,sA,hr1,rfl,hlk1,har1,hb15⟩
  obtain ⟨pl,cl,rfl⟩ := lks_slice hlk1
  obtain ⟨pa,na,ca,rfl⟩ := har1.slice
  have HB15 := keep (HB13.out.trans (hb15.mono HB13.out.size))
  have HY15 := keep (HY13.out.trans (hb15.mono HY13.out.size))
  obtain ⟨w16,hw16⟩ : ∃ y,w15.alloc (.cells #[.int .i64 e.word,.bool e.trap,.slice pa na ca] 51) = y := ⟨_,rfl⟩
  obtain ⟨E1,hE1⟩ : ∃ y,w15.heap.size = y := ⟨_,rfl⟩
  have hb16 : Below w15.heap.size w15 w16 := by rw [← hw16]; exact (Below.refl _ _).alloc (Nat.le_refl _) _
  have kE1 : Bk w16 E1 [.int .i64 e.word,.bool e.trap,.slice pa na ca] 51 := by rw [← hw16,← hE1]; exact Bk.new _ _ _
  have HB16 := keep (HB15.out.trans (hb16.mono HB15.out.size))
  have HY16 := keep (HY15.out.trans (hb16.mono HY15.out.size))
  have HAr1 := keep (har1.below hb16)
  have HL1s : Hid (w15.heap.size ≤ w16.heap.size) := hb16.size
  have HRu1 := keep hr1
  have HW16 := keep hw16
  have HE1 := keep hE1
  have HkE1 := keep kE1
  obtain ⟨nl,hnl⟩ : ∃ y,ls.length = y := ⟨_,rfl⟩
  rw [hnl]
  clear hb15 HRn hr1 hlk1 har1 hw16 hE1 hb16 HT13 kE1 f0 f1 f2 f3 g0 g1 y0 y1 y2 y3 hnl
  obtain ⟨kF,kG⟩ := HBx.out w16 HB16.out
  have f0 := kF.cell 0 rfl
  have f1 := kF.cell 1 rfl
  have f2 := kF.cell 2 rfl
  have f3 := kF.cell 3 rfl
  have g0 := kG.cell 0 rfl
  have g1 := kG.cell 1 rfl
  clear kF kG
  have kY := HYx.out w16 HY16.out
  have y0 := kY.cell 0 rfl
  have y1 := kY.cell 1 rfl
  have y2 := kY.cell 2 rfl
  have y3 := kY.cell 3 rfl
  clear kY
  have HT16 := keep (HTk.out w16 HB16.out)
  have HRn := keep (rrun_any w16.heap.size x T _ _ _ ws aa _ w16 (Nat.le_refl _) (HXI.out w16 HY16.out) (GvIs_mono (HIn.out w16 HB16.out).2.2 (HIn.out w16 HB16.out).1) HXa.out.1 HTR.out HXa.out.2.2.2.1 (by rw [HXa.out.2.2.2.2,HXa.out.2.2.1]; exact HSh.out) HAW.out HSu.out HNp.out.2.1)
  unfold fxA at HRn
  rw [HXa.out.2.1] at HRn
  go_wp2_with (first | rw [HW16.out,HE1.out] | refine Tb.load_tab rfl _ rfl TB rfl T HT16.out ?_ | fail)
  refine HRn.out.mono ?_
  rintro r w17 ⟨ls',e',v',sA',hr2,rfl,hlk2,har2,hb17⟩
  obtain rfl : e' = e := HSame.out _ _ _ _ HRu1.out hr2
  obtain ⟨pl',cl',rfl⟩ := lks_slice hlk2
  obtain ⟨pa',na',ca',rfl⟩ := har2.slice
  have HB17 := keep (HB16.out.trans (hb17.mono HB16.out.size))
  obtain ⟨w18,hw18⟩ : ∃ y,w17.alloc (.cells #[.int .i64 e'.word,.bool e'.trap,.slice pa' na' ca'] 51) = y := ⟨_,rfl⟩
  obtain ⟨E2,hE2⟩ : ∃ y,w17.heap.size = y := ⟨_,rfl⟩
  have hb18 : Below w17.heap.size w17 w18 := by rw [← hw18]; exact (Below.refl _ _).alloc (Nat.le_refl _) _
  have kE2 : Bk w18 E2 [.int .i64 e'.word,.bool e'.trap,.slice pa' na' ca'] 51 := by rw [← hw18,← hE2]; exact Bk.new _ _ _
  have HB18 := keep (HB17.out.trans (hb18.mono HB17.out.size))
  have hb1618 : Below w16.heap.size w16 w18 := hb17.trans (hb18.mono hb17.size)
  have kE1 := HkE1.out.fs (Fs.of_below (l:=[]) hb1618) (by simp)
  have e0 := kE1.cell 0 rfl
  have e1 := kE1.cell 1 rfl
  have e2 := kE1.cell 2 rfl
  have e3 := kE2.cell 0 rfl
  have e4 := kE2.cell 1 rfl
  have e5 := kE2.cell 2 rfl
  have HSe := keep (sameEnded_any w18.heap.size e' _ _ w18 (Nat.le_refl _) (ArrsIs_mono (HAr1.out.below (hb1618.mono HL1s.out)) (by have h1 := hb1618.size; have h3 := HL1s.out; omega)) (ArrsIs_mono (har2.below hb18) hb18.size))
  obtain ⟨nl2,hnl2⟩ : ∃ y,ls'.length = y := ⟨_,rfl⟩
  rw [hnl2]
  have HW18 := keep hw18
  have HE2 := keep hE2
  clear HRn hr2 hlk2 har2 hb17 hw18 hE2 hb18 HT16 hb1618 kE1 kE2 f0 f1 f2 f3 g0 g1 y0 y1 y2 y3 hnl2
  go_wp2_with (first | rw [HW18.out,HE2.out] | fail)
  refine HSe.out.mono ?_
  rintro r w19 ⟨rfl,hb19⟩
  have HB19 := keep (HB18.out.trans (hb19.mono HB18.out.size))
  clear hb19 HSe e0 e1 e2 e3 e4 e5
  go_wp2
  go_ret
  exact ⟨rfl,HBw.out _ HB19.out⟩
end Go.Proofs.Ytfbmkcogkiejnaa.Hg
