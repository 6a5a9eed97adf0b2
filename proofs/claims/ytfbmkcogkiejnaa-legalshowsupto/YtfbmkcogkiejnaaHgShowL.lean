/- NOTHING SECRET IS SEEN: LegalShows, walked. Written by tools/gen_hgshl.py. -/
import Derived.Test.YtfbmkcogkiejnaaGr47
import Derived.Test.YtfbmkcogkiejnaaGr51
namespace Go.Proofs.Ytfbmkcogkiejnaa.Hg
set_option maxHeartbeats 32000000
set_option maxRecDepth 100000
set_option linter.unusedVariables false
set_option linter.unusedSimpArgs false
open Go.ChangeShapes Go.WideShapes Go.ChangeAt Go.RowKit Go.Maps Lg Lr Fl
theorem err_cases {f : Fx} {T : Nat → Int} (hc : (checkF f).1 = 0) (hw : Tb.wrongT T = 0) (he : err8 f T ≠ 0) : err8 f T = 4 ∨ err8 f T = 11 := by
 unfold err8 at he ⊢
 rw [if_neg (by rw [hc]; simp),if_neg (by rw [hw]; simp)] at he ⊢
 split
 ·exact .inr rfl
 ·rename_i s h
  rw [h] at he
  dsimp only at he
  split
  ·exact .inl rfl
  ·rename_i h'; rw [if_neg h'] at he; exact absurd rfl he
theorem bools_at {w : World} {B : Nat} {l : List Bool} {p : Option Addr} {n c : Nat} (h : BoolsIs w B l (.slice p n c)) {j : Nat} (hj : j < n) : l.length = n ∧ ∃ g o,p = some ⟨g,o,none⟩ ∧ w.cell? ⟨g,o + j,none⟩ = some (.bool (gB l j)) := by
 obtain ⟨p',n',c',e,hn,_,_,hx⟩ := h
 cases e
 have hb : l[j]? = some l[j] := List.getElem?_eq_getElem (by omega)
 obtain ⟨g,o,h1,_,h3⟩ := hx j _ hb
 refine ⟨hn,g,o,h1,?_⟩
 rw [h3]
 unfold gB
 rw [Int.toNat_natCast,List.getD_eq_getElem?_getD,hb]; rfl
theorem shows8_any (B : Nat) (f : Fx) (s1 s2 s3 : Value) (T : Nat → Int) (w : World) (hB : B ≤ w.heap.size) (h : FxIs w B f s1 s2 s3) (hTI : Tb.I64 T) (hN2 : f.sec.length ≤ 1048576) (hN3 : f.arrs.length ≤ 1048576) :
  Calls Try.prog 6 #[.agg (fxA f s1 s2 s3),.agg (Tb.tabA T)] w fun r w' => r = .returned (.bool true) ∧ Below w.heap.size w w' := by
 obtain ⟨p1,n1,c1,hs1,hx1⟩ := id h.code
 obtain ⟨p2,n2,c2,hs2,hx2⟩ := id h.sec
 obtain ⟨p3,n3,c3,hs3,hx3⟩ := id h.arrs
 subst hs1 hs2 hs3
 have HNC : Hid (f.code.length = n1 ∧ n1 ≤ 17592186044416) := ⟨hx1.1,hx1.2.2.1⟩
 obtain ⟨pr,hpr⟩ : ∃ k : Int,f.params = k := ⟨f.params,rfl⟩
 obtain ⟨w1,hw1⟩ : ∃ y,w.alloc (.cells #[.slice p1 n1 c1,.slice p2 n2 c2,.int .i64 pr,.slice p3 n3 c3] 26) = y := ⟨_,rfl⟩
 obtain ⟨w2,hw2⟩ : ∃ y,w1.alloc (.cells (Tb.tabA T) 29) = y := ⟨_,rfl⟩
 obtain ⟨F,hF⟩ : ∃ y,w.heap.size = y := ⟨_,rfl⟩
 obtain ⟨TB,hTB⟩ : ∃ y,w1.heap.size = y := ⟨_,rfl⟩
 have b1 : Below w.heap.size w w1 := by rw [← hw1]; exact (Below.refl _ _).alloc (Nat.le_refl _) _
 have b2 : Below w1.heap.size w1 w2 := by rw [← hw2]; exact (Below.refl _ _).alloc (Nat.le_refl _) _
 have b12 := b1.trans (b2.mono b1.size)
 have kF1 : Bk w1 F [.slice p1 n1 c1,.slice p2 n2 c2,.int .i64 pr,.slice p3 n3 c3] 26 := by rw [← hw1,← hF]; exact Bk.new _ _ _
 have kF := kF1.fs (Fs.of_below (l:=[]) b2) (by simp)
 have kT : Tb.Blk w2 TB T := by rw [← hw2,← hTB]; exact Tb.blk_alloc w1 T
 have HBx : Hid (∀ W,Below w2.heap.size w2 W → Bk W F [.slice p1 n1 c1,.slice p2 n2 c2,.int .i64 pr,.slice p3 n3 c3] 26) := fun W hW => kF.fs (Fs.of_below (l:=[]) hW) (by simp)
 have HTk : Hid (∀ W,Below w2.heap.size w2 W → Tb.Blk W TB T) := fun W hW => kT.below hW kT.lt
 have HIn : Hid (∀ W,Below w2.heap.size w2 W → B ≤ W.heap.size ∧ FxIs W B f (.slice p1 n1 c1) (.slice p2 n2 c2) (.slice p3 n3 c3)) := fun W hW => by
  have hb := b12.trans (hW.mono b12.size)
  exact ⟨Nat.le_trans hB hb.size,h.below (hb.mono hB)⟩
 have HBw : Hid (∀ W,Below w2.heap.size w2 W → Below w.heap.size w W) := fun W hW => b12.trans (hW.mono b12.size)
 have HW1 := keep hw1
 have HW2 := keep hw2
 have HF := keep hF
 have HTB := keep hTB
 have HN := keep (And.intro hN2 hN3)
 have HPr := keep hpr
 have HTI := keep hTI
 have HAl := keep (fun W => alive_any W)
 unfold fxA
 rw [hpr]
 clear hw1 hw2 hF hTB b1 b2 b12 kF1 kF kT hx1 hx2 hx3 h hB hN2 hN3 hpr hTI
 go_enter Try.func6,Try.ntmps6
 go_wp2_with (first | rw [HW1.out] | rw [HW2.out] | rw [HF.out] | rw [HTB.out] | fail)
 refine (HAl.out w2).mono ?_
 rintro r w5 ⟨rfl,hb5⟩
 have HB5 := keep hb5
 have kF := HBx.out w5 hb5
 have f0 := kF.cell 0 rfl
 have f1 := kF.cell 1 rfl
 have f2 := kF.cell 2 rfl
 have f3 := kF.cell 3 rfl
 obtain ⟨i1,i2⟩ := HIn.out w5 hb5
 have HCk := keep (rcheck_any B f _ _ _ w5 i1 i2)
 unfold fxA at HCk
 rw [HPr.out] at HCk
 clear hb5 kF HAl i1 i2
 go_wp2_with fail
 refine HCk.out.mono ?_
 rintro r w6 ⟨rfl,hb6⟩
 have HB6 := keep (HB5.out.trans (hb6.mono HB5.out.size))
 clear hb6 HCk f0 f1 f2 f3 HB5
 by_cases hc : (checkF f).1 = 0
 rotate_left
 ·obtain ⟨e,he⟩ : ∃ e,(checkF f).1 = e := ⟨_,rfl⟩
  obtain ⟨e',he'⟩ : ∃ e,(checkF f).2 = e := ⟨_,rfl⟩
  rw [he,he']
  rw [he] at hc
  have hb : (e != 0) = true := by rw [bne_iff_ne]; exact hc
  clear hc he he'
  go_wp2
  go_ret
  exact ⟨rfl,HBw.out _ HB6.out⟩
 have hck := check_zero hc
 have HC0 := keep hc
 rw [hck]
 have HR := keep (right_of (f:=f) hc)
 have HT6 := keep (HTk.out w6 HB6.out)
 obtain ⟨z,hz⟩ : ∃ z,Tb.wrongT T = z := ⟨_,rfl⟩
 have HWr := keep (Rt.wrong_any T HTI.out w6)
 rw [hz] at HWr
 have HZ := keep hz
 clear hz hc hck
 go_wp2_with (first | refine Tb.load_want rfl _ rfl TB rfl T HT6.out ?_ | fail)
 refine HWr.out.mono ?_
 rintro r w8 ⟨rfl,hb8⟩
 have HB8 := keep (HB6.out.trans (hb8.mono HB6.out.size))
 clear hb8 HWr HT6 HB6
 by_cases hz0 : z = 0
 rotate_left
 ·have hb : (z != 0) = true := by rw [bne_iff_ne]; exact hz0
  clear hz0
  go_wp2
  go_ret
  exact ⟨rfl,HBw.out _ HB8.out⟩
 subst hz0
 have HTR := keep (tabR_of HZ.out)
 obtain ⟨i1,i2⟩ := HIn.out w8 HB8.out
 have HLg := keep (legal_whole B f _ _ _ T w8 i1 i2 HN.out.1 HN.out.2 HTI.out)
 unfold fxA at HLg
 rw [HPr.out] at HLg
 have kF := HBx.out w8 HB8.out
 have f0 := kF.cell 0 rfl
 have f1 := kF.cell 1 rfl
 have f2 := kF.cell 2 rfl
 have f3 := kF.cell 3 rfl
 clear kF
 have HT8 := keep (HTk.out w8 HB8.out)
 clear i1 i2
 go_wp2_with (first | refine Tb.load_tab rfl _ rfl TB rfl T HT8.out ?_ | fail)
 refine HLg.out.mono ?_
 rintro r w11 hwg
 clear HLg f0 f1 f2 f3 HT8
 by_cases he : err8 f T = 0
 rotate_left
 ·obtain ⟨hb11,⟨_,rfl⟩ | ⟨he',_⟩⟩ := hwg
  rotate_left
  ·exact absurd he' he
  have HB11 := keep (HB8.out.trans (hb11.mono HB8.out.size))
  have HBo := keep (fun o => HBw.out _ (HB11.out.alloc HB11.out.size o))
  rcases err_cases HC0.out HZ.out he with e | e
  ·rw [e]
   clear he e hb11
   go_wp2_with fail
   go_ret
   exact ⟨rfl,HBo.out _⟩
  ·rw [e]
   clear he e hb11
   go_wp2_with fail
   go_ret
   exact ⟨rfl,HBo.out _⟩
 have hex : ∃ s,run8 f T = some s ∧ s.much = false := by
  obtain ⟨_,⟨he',_⟩ | ⟨_,s,hs,hm,_⟩⟩ := hwg
  ·exact absurd he he'
  ·exact ⟨s,hs,hm⟩
 obtain ⟨s,hs,hm⟩ := hex
 have hinv := inv_run HR.out HTR.out hs hm
 have hmr := made_right HR.out HTR.out hs hm
 have hsl : s.m.sec.length ≤ 100000000 := by
  obtain ⟨S,h1,h2⟩ := hinv.ok.sec
  have h3 := HR.out.len2
  have h4 := HN.out.1
  rw [h1,List.length_append,List.length_map]; omega
 obtain ⟨hb11,p5,N,c5,LB,M,p6,n6,c6,rfl,hfx,hN,hM⟩ := wg_fx hwg he hs (by unfold leadM; rw [List.length_map]; have := hinv.ok.code; omega) hsl HN.out.2
 rw [HPr.out]
 have HFX := keep (show ∀ (l : List Nat) (W : World),Fs l w11 W → (∀ k ∈ l,k < w8.heap.size) → FxIs W W.heap.size (mX f s) (.slice p5 N c5) (.slice (some ⟨LB,0,none⟩) M M) (.slice p6 n6 c6) from hfx)
 have HMR := keep hmr
 have HNN : Hid ((mX f s).code.length = N ∧ (mX f s).sec.length = M) := ⟨hN,hM⟩
 have HXa : Hid ((mX f s).arrs = f.arrs ∧ (mX f s).params = pr) := ⟨rfl,HPr.out⟩
 obtain ⟨x,hx⟩ : ∃ x,mX f s = x := ⟨_,rfl⟩
 rw [hx] at HFX HMR HNN HXa
 have HB11 := keep (HB8.out.trans (hb11.mono HB8.out.size))
 have HB8' := keep hb11
 clear hwg hs hm hinv hmr hsl he hfx hN hM hx hb11
 obtain ⟨w12,hw12⟩ : ∃ y,w11.alloc (.cells #[.slice p5 N c5,.slice (some ⟨LB,0,none⟩) M M,.int .i64 pr,.slice p6 n6 c6] 26) = y := ⟨_,rfl⟩
 obtain ⟨Y,hY⟩ : ∃ y,w11.heap.size = y := ⟨_,rfl⟩
 have hb12 : Below w11.heap.size w11 w12 := by rw [← hw12]; exact (Below.refl _ _).alloc (Nat.le_refl _) _
 have kY : Bk w12 Y [.slice p5 N c5,.slice (some ⟨LB,0,none⟩) M M,.int .i64 pr,.slice p6 n6 c6] 26 := by rw [← hw12,← hY]; exact Bk.new _ _ _
 have HB12 := keep (HB11.out.trans (hb12.mono HB11.out.size))
 have HYx : Hid (∀ W,Below w12.heap.size w12 W → Bk W Y [.slice p5 N c5,.slice (some ⟨LB,0,none⟩) M M,.int .i64 pr,.slice p6 n6 c6] 26) := fun W hW => kY.fs (Fs.of_below (l:=[]) hW) (by simp)
 have HXI : Hid (∀ W,Below w12.heap.size w12 W → FxIs W W.heap.size x (.slice p5 N c5) (.slice (some ⟨LB,0,none⟩) M M) (.slice p6 n6 c6)) := fun W hW => HFX.out [] W (Fs.of_below (hb12.trans (hW.mono hb12.size))) (by simp)
 have HCk := keep (rcheck_any w12.heap.size x _ _ _ w12 (Nat.le_refl _) (HXI.out w12 (Below.refl _ _)))
 unfold fxA at HCk
 rw [HXa.out.2] at HCk
 have y0 := kY.cell 0 rfl
 have y1 := kY.cell 1 rfl
 have y2 := kY.cell 2 rfl
 have y3 := kY.cell 3 rfl
 have HW12 := keep hw12
 have HYn := keep hY
 clear hw12 hY hb12 kY HFX
 go_wp2_with (first | rw [HW12.out,HYn.out] | fail)
 refine HCk.out.mono ?_
 rintro r w13 ⟨rfl,hb13⟩
 rw [HMR.out.1]
 have HB13 := keep (HB12.out.trans (hb13.mono HB12.out.size))
 have HY13 := keep hb13
 clear HCk hb13 y0 y1 y2 y3
 have kF := HBx.out w13 HB13.out
 have f0 := kF.cell 0 rfl
 have f1 := kF.cell 1 rfl
 have f2 := kF.cell 2 rfl
 have f3 := kF.cell 3 rfl
 clear kF
 have kY := HYx.out w13 HY13.out
 have y0 := kY.cell 0 rfl
 have y1 := kY.cell 1 rfl
 have y2 := kY.cell 2 rfl
 have y3 := kY.cell 3 rfl
 clear kY
 have hv1 : VrIs w13 w13.heap.size f.arrs (.slice p6 n6 c6) := by rw [← HXa.out.1]; exact (HXI.out w13 HY13.out).arrs
 obtain ⟨i1,i2⟩ := HIn.out w13 HB13.out
 have HSv := keep (sameV_any w13.heap.size f.arrs f.arrs _ _ w13 (Nat.le_refl _) hv1 (VrIs_mono i2.arrs i1))
 have hpp : (pr != pr) = false := by simp
 clear hv1 i1 i2
 go_wp2_with fail
 refine HSv.out.mono ?_
 rintro r w14 ⟨v,rfl,hv,hb14⟩
 have hv' : v = true := hv.2 trivial
 subst hv'
 have HB14 := keep (HB13.out.trans (hb14.mono HB13.out.size))
 have HY14 := keep (HY13.out.trans (hb14.mono HY13.out.size))
 clear HSv hb14 hv f0 f1 f2 f3 y0 y1 y2 y3 hpp
 obtain ⟨q,hq⟩ : ∃ q : Nat,pr = (q : Int) := ⟨pr.toNat,by have := HR.out.p0; rw [HPr.out] at this; omega⟩
 have hPq : f.params = (q : Int) := HPr.out.trans hq
 subst hq
 have HQM : Hid (q ≤ M ∧ q ≤ f.sec.length) := by
  have h1 := HMR.out.2.2.1
  have h2 := HR.out.p1
  rw [hPq] at h1 h2
  rw [HNN.out.2] at h1
  exact ⟨by omega,by omega⟩
 have dM : ¬ M < q := by have := HQM.out; omega
 clear hPq
 have kF := HBx.out w14 HB14.out
 have f0 := kF.cell 0 rfl
 have f1 := kF.cell 1 rfl
 have f2 := kF.cell 2 rfl
 have f3 := kF.cell 3 rfl
 clear kF
 have kY := HYx.out w14 HY14.out
 have y0 := kY.cell 0 rfl
 have y1 := kY.cell 1 rfl
 have y2 := kY.cell 2 rfl
 have y3 := kY.cell 3 rfl
 clear kY
 go_wp2_with fail
 clear f0 f1 f2 f3 y0 y1 y2 y3 dM
 go_loopw [80] (fun i wx => ∃ j : Nat,j ≤ q ∧ i = .int .i64 (j : Int) ∧ Below w14.heap.size w14 wx) (fun i _ => q - (intOf i).toNat)
 case atStart => exact ⟨0,by omega,rfl,Below.refl _ _⟩
 case round =>
  obtain ⟨j,hjn,rfl,hbx⟩ := hrel
  have HX := keep (HB14.out.trans (hbx.mono HB14.out.size))
  have HXY := keep (HY14.out.trans (hbx.mono HY14.out.size))
  have HXw := keep hbx
  clear hbx
  by_cases hjl : j < q
  ·have d1 : decide ((j : Int) < (q : Int)) = true := decide_eq_true (by omega)
   have hj0 : (0 : Int) ≤ (j : Int) := by omega
   have hwr : IntKind.i64.wrap ((j : Int) + 1) = (j : Int) + 1 := by rw [IntKind.wrap_i64]; have := HQM.out; have := HN.out.1; omega
   obtain ⟨e1,g1,o1,e2,z1⟩ := bools_at (HXI.out wr HXY.out).sec (j:=j) (by have := HQM.out; omega)
   obtain ⟨i1,i2⟩ := HIn.out wr HX.out
   have hn2 : n2 = f.sec.length := by
    obtain ⟨p',n',c',e,hn,_⟩ := i2.sec
    cases e; exact hn.symm
   obtain ⟨e3,g2,o2,e4,z2⟩ := bools_at i2.sec (j:=j) (by rw [hn2]; have := HQM.out; omega)
   cases e2
   subst e4
   rw [HMR.out.2.2.2.1 j (by omega) (by have := HQM.out; omega)] at z1
   obtain ⟨bb,hbb⟩ : ∃ y,gB f.sec (j : Int) = y := ⟨_,rfl⟩
   rw [hbb] at z1 z2
   have hj1 : (j : Int) < (M : Int) := by have := HQM.out; omega
   have hj2 : (j : Int) < (n2 : Int) := by rw [hn2]; have := HQM.out; omega
   rw [Nat.zero_add] at z1
   clear hbb e1 e3 i1 i2 hn2
   have kF := HBx.out wr HX.out
   have f0 := kF.cell 0 rfl
   have f1 := kF.cell 1 rfl
   have f2 := kF.cell 2 rfl
   have f3 := kF.cell 3 rfl
   clear kF
   have kY := HYx.out wr HXY.out
   have y0 := kY.cell 0 rfl
   have y1 := kY.cell 1 rfl
   have y2 := kY.cell 2 rfl
   have y3 := kY.cell 3 rfl
   clear kY
   go_wp2_with fail
   go_quiet (fail)
   have HBd : Hid (∀ k,Below w14.heap.size w14 (wr.drewN k)) := fun k => ⟨HXw.out.os,HXw.out.tape,HXw.out.output,HXw.out.size,HXw.out.block⟩
   go_wp2_with fail
   go_roundw
   case rel => exact ⟨j + 1,by omega,by go_num,HBd.out _⟩
   case measure => simp [intOf]; omega
  ·have hje : j = q := by omega
   subst hje
   have dl : decide ((j : Int) < (j : Int)) = false := decide_eq_false (by omega)
   clear hjl hjn
   have kY := HYx.out wr HXY.out
   have y0 := kY.cell 0 rfl
   have y1 := kY.cell 1 rfl
   have y2 := kY.cell 2 rfl
   have y3 := kY.cell 3 rfl
   clear kY
   obtain ⟨wa,hwa⟩ : ∃ y,y = wr := ⟨_,rfl⟩
   subst hwa
   go_wp2_with fail
   clear y0 y1 y2 y3
   go_loopw [98] (fun i wx => ∃ k : Nat,k ≤ N ∧ i = .int .i64 (k : Int) ∧ Below wa.heap.size wa wx) (fun i _ => N - (intOf i).toNat)
   case atStart => exact ⟨0,by omega,rfl,Below.refl _ _⟩
   case round =>
    obtain ⟨k,hkn,rfl,hbx⟩ := hrel
    have HB := keep (HX.out.trans (hbx.mono HX.out.size))
    have HY := keep (HXY.out.trans (hbx.mono HXY.out.size))
    have HW := keep hbx
    clear hbx
    by_cases hkl : k < N
    ·have d1 : decide ((k : Int) < (N : Int)) = true := decide_eq_true (by omega)
     have hk0 : (0 : Int) ≤ (k : Int) := by omega
     have hkz : (k : Int) < (N : Int) := by omega
     have hxi := HXI.out wr HY.out
     obtain ⟨x0,hx0⟩ : ∃ y,x.code[k]? = some y := ⟨_,List.getElem?_eq_getElem (by rw [HNN.out.1]; exact hkl)⟩
     obtain ⟨t1,t2,t3,t4,t5,t6,t7,t8⟩ := hxi.code
     cases t4
     obtain ⟨g,o,rfl,hgB,hix⟩ := t8 k x0 hx0
     have hRX := right_of (f:=x) (by rw [HMR.out.1])
     have HFine : Hid (Fine x k x0) := fine_of (hRX.each k x0 hx0)
     have HSx : Hid (shw x T x0 = false) := HMR.out.2.1 x0 (List.mem_of_getElem? hx0)
     have hwr : IntKind.i64.wrap ((k : Int) + 1) = (k : Int) + 1 := by rw [IntKind.wrap_i64]; have := HMR.out.2.2.2.2.1; have := HNN.out.1; omega
     obtain ⟨op,d,a,b,c,imm⟩ := x0
     have z0 := hix.c0
     have z1 := hix.c1
     have z2 := hix.c2
     have z3 := hix.c3
     have z4 := hix.c4
     have z5 := hix.c5
     dsimp only at z0 z1 z2 z3 z4 z5
     obtain ⟨w9,hw9⟩ : ∃ y,wr.alloc (.cells #[.int .i64 op,.int .i64 d,.int .i64 a,.int .i64 b,.int .i64 c,.int .i64 imm] 35) = y := ⟨_,rfl⟩
     obtain ⟨X,hX⟩ : ∃ y,wr.heap.size = y := ⟨_,rfl⟩
     have hb9 : Below wr.heap.size wr w9 := by rw [← hw9]; exact (Below.refl _ _).alloc (Nat.le_refl _) _
     have kX : Bk w9 X [.int .i64 op,.int .i64 d,.int .i64 a,.int .i64 b,.int .i64 c,.int .i64 imm] 35 := by rw [← hw9,← hX]; exact Bk.new _ _ _
     have x0 := kX.cell 0 rfl
     have x1 := kX.cell 1 rfl
     have x2 := kX.cell 2 rfl
     have x3 := kX.cell 3 rfl
     have x4 := kX.cell 4 rfl
     have x5 := kX.cell 5 rfl
     have HB9 := keep (HB.out.trans (hb9.mono HB.out.size))
     have HY9 := keep (HY.out.trans (hb9.mono HY.out.size))
     have HW9w := keep (HW.out.trans (hb9.mono HW.out.size))
     have kY := HYx.out w9 HY9.out
     have y0 := kY.cell 0 rfl
     have y1 := kY.cell 1 rfl
     have y2 := kY.cell 2 rfl
     have y3 := kY.cell 3 rfl
     clear kY
     have HT9 := keep (HTk.out w9 HB9.out)
     have HSw := keep (Fl.shows_any w9.heap.size x _ _ _ T ⟨op,d,a,b,c,imm⟩ k w9 (Nat.le_refl _) (HXI.out w9 HY9.out) HFine.out HTR.out)
     unfold fxA ixA at HSw
     rw [HXa.out.2,HSx.out] at HSw
     dsimp only at HSw
     have HW9 := keep hw9
     have HXn := keep hX
     clear hix t8 hgB hxi hx0 kX hw9 hX hb9 hRX
     go_wp2_with (first | rw [HW9.out,HXn.out] | refine Tb.load_tab rfl _ rfl TB rfl T HT9.out ?_ | fail)
     refine HSw.out.mono ?_
     rintro r w10 ⟨rfl,hb10⟩
     have HW10 := keep (HW9w.out.trans (hb10.mono HW9w.out.size))
     clear hb10 HSw x0 x1 x2 x3 x4 x5 z0 z1 z2 z3 z4 z5 y0 y1 y2 y3
     go_wp2
     go_roundw
     case rel => exact ⟨k + 1,by omega,by go_num,HW10.out⟩
     case measure => simp [intOf]; omega
    ·have hke : k = N := by omega
     subst hke
     have dl : decide ((k : Int) < (k : Int)) = false := decide_eq_false (by omega)
     clear hkl hkn
     go_wp2_with fail
     go_ret
     exact ⟨rfl,HBw.out _ HB.out⟩
end Go.Proofs.Ytfbmkcogkiejnaa.Hg
