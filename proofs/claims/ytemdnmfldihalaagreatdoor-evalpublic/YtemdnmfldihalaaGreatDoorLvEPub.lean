/- EvalPublic: the way of the law, whatever is given. Written by tools/gen_vepub.py. -/
import Derived.Test.YtemdnmfldihalaaGreatDoorGr49
import Derived.Test.YtemdnmfldihalaaGreatDoorLvAlike
import Derived.Test.YtemdnmfldihalaaGreatDoorGr6
namespace Go.Proofs.YtemdnmfldihalaaGreatDoor.Lr
set_option maxHeartbeats 32000000
set_option maxRecDepth 100000
set_option linter.unusedVariables false
set_option linter.unusedSimpArgs false
open Go.ChangeShapes Go.WideShapes Go.ChangeAt Go.RowKit Lg Rf
theorem same_end {rs ps : List Vr} {body : List St} {ws vs : List Int} {aa bb : List (List Int)} {ks' : Ks} (hwf : ∀ s ∈ body,wfS 9 s) (hal : AlikeR ps rs ws aa vs bb) (hck : blockK (stmtK rs 9 false) body ⟨ps.map nmOf,0,0⟩ = .ok ks') {wd wd' : Int} {tr tr' : Bool} {arr arr' : List (List Int)} (h1 : EndR (evB (evS rs 9) body ⟨envOf ps ws,aa,0⟩) wd tr arr) (h2 : EndR (evB (evS rs 9) body ⟨envOf ps vs,bb,0⟩) wd' tr' arr') : tr' = tr ∧ LkA rs arr arr' := by
 have h := (evB_same body (fun t ht ks ks' a b c => evS_same 9 t (hwf t ht) ks ks' a b c) (Nat.zero_le _) (Nat.zero_le _) hck).2 ⟨envOf ps ws,aa,0⟩ ⟨envOf ps vs,bb,0⟩ (envOf_like hal.s1.w hal.s2.w hal.p) (arrs_like hal.s1.a hal.s2.a hal.s1.s hal.s2.s hal.a)
 rcases h with ⟨k1,k2,e1,e2,_,hl⟩ | ⟨t,w1,w2,a1,a2,n1,n2,e1,e2,hl⟩
 ·rw [e1] at h1
  rw [e2] at h2
  obtain ⟨_,rfl,rfl⟩ := h1
  obtain ⟨_,rfl,rfl⟩ := h2
  exact ⟨rfl,hl⟩
 ·rw [e1] at h1
  rw [e2] at h2
  obtain ⟨_,rfl,rfl⟩ := h1
  obtain ⟨_,rfl,rfl⟩ := h2
  exact ⟨rfl,hl⟩
theorem public5_any (s : ByteArray) (hs : s.size ≤ 281474976710656) (ws : List Int) (aa : List (List Int)) (gv : Value) (vs : List Int) (bb : List (List Int)) (hv : Value) (w : World) (hg : GvIs w w.heap.size ws aa gv) (hh : GvIs w w.heap.size vs bb hv) (ht : Tabs w) :
  Calls Tryz.prog 4 #[.string s,gv,hv] w fun r w' => r = .returned (.bool true) ∧ Below w.heap.size w w' := by
 obtain ⟨t1,t2,rfl,hi,ha⟩ := hg
 obtain ⟨p4,n4,c4,rfl⟩ := hi.slice
 obtain ⟨p5,n5,c5,rfl⟩ := ha.slice
 obtain ⟨t3,t4,rfl,hi',ha'⟩ := hh
 obtain ⟨p6,n6,c6,rfl⟩ := hi'.slice
 obtain ⟨p7,n7,c7,rfl⟩ := ha'.slice
 obtain ⟨w0,hw0⟩ : ∃ y,w.alloc (.cells #[.slice p4 n4 c4,.slice p5 n5 c5] 25) = y := ⟨_,rfl⟩
 obtain ⟨w1,hw1⟩ : ∃ y,w0.alloc (.cells #[.slice p6 n6 c6,.slice p7 n7 c7] 25) = y := ⟨_,rfl⟩
 have b0 : Below w.heap.size w w0 := by rw [← hw0]; exact (Below.refl _ _).alloc (Nat.le_refl _) _
 have b01 : Below w0.heap.size w0 w1 := by rw [← hw1]; exact (Below.refl _ _).alloc (Nat.le_refl _) _
 have b1 := b0.trans (b01.mono b0.size)
 have k0 : Bk w0 w.heap.size [.slice p4 n4 c4,.slice p5 n5 c5] 25 := by rw [← hw0]; exact Bk.new _ _ _
 have k1 := k0.fs (Fs.of_below (l:=[]) b01) (by simp)
 have kh : Bk w1 w0.heap.size [.slice p6 n6 c6,.slice p7 n7 c7] 25 := by rw [← hw1]; exact Bk.new _ _ _
 have HGv : Hid (∀ W,Below w1.heap.size w1 W → (IntsIs W w.heap.size ws (.slice p4 n4 c4) ∧ ArrsIs W w.heap.size aa (.slice p5 n5 c5)) ∧ (IntsIs W w.heap.size vs (.slice p6 n6 c6) ∧ ArrsIs W w.heap.size bb (.slice p7 n7 c7))) := fun W hW => by
  have hb := b1.trans (hW.mono b1.size)
  exact ⟨⟨hi.below hb,ha.below hb⟩,⟨hi'.below hb,ha'.below hb⟩⟩
 have HAl := keep (alive_any w1 (ht.below b1))
 have HPs : Hid (∀ W,Below w1.heap.size w1 W → Calls Tryz.prog 6 #[.string s] W fun r w' => ∃ v1 v2 v3,r = .returned (.tuple #[.agg #[v1,v2,v3],.int .i64 (parseT s.data.toList).2]) ∧ FnX w' W.heap.size w'.heap.size (parseT s.data.toList).1 (.agg #[v1,v2,v3]) ∧ Below W.heap.size W w') := fun W hW => parse_any s hs W (ht.below (b1.trans (hW.mono b1.size)))
 have HWf := keep (parse_wf s.data.toList)
 have HSz := keep (parse_size s.data.toList)
 have HB1 := keep b1
 have HK1 := keep k1
 have HKh := keep kh
 have HW0 := keep hw0
 have HW1 := keep hw1
 generalize parseT s.data.toList = pt at *
 obtain ⟨f,e⟩ := pt
 dsimp only at HPs HWf HSz
 clear ht hi ha hi' ha' hw0 hw1 b0 b01 b1 k0 k1 kh
 go_enter Tryz.func4,Tryz.ntmps4
 go_wp2_with (first | rw [HW0.out] | rw [HW1.out])
 refine HAl.out.mono ?_
 rintro r w2 ⟨rfl,hb2⟩
 have HB2 := keep hb2
 clear hb2 HAl
 go_wp2_with fail
 refine (HPs.out w2 HB2.out).mono ?_
 rintro r w3 ⟨v1,v2,v3,rfl,hx3,hb3⟩
 obtain ⟨⟨p1,n1,c1,rfl⟩,⟨p2,n2,c2,rfl⟩,p3,n3,c3,rfl⟩ := hx3.slices
 obtain ⟨w4,hw4⟩ : ∃ y,w3.alloc (.cells #[.slice p1 n1 c1,.slice p2 n2 c2,.slice p3 n3 c3] 29) = y := ⟨_,rfl⟩
 have b4 : Below w3.heap.size w3 w4 := by rw [← hw4]; exact (Below.refl _ _).alloc (Nat.le_refl _) _
 have k4 : Bk w4 w3.heap.size [.slice p1 n1 c1,.slice p2 n2 c2,.slice p3 n3 c3] 29 := by rw [← hw4]; exact Bk.new _ _ _
 have b13 := HB2.out.trans (hb3.mono HB2.out.size)
 have b14 := b13.trans (b4.mono b13.size)
 have HB14 := keep b14
 have HK4 := keep k4
 have HX4 : Hid (∀ W,Below w4.heap.size w4 W → FnIs W w4.heap.size 10 11 f (.agg #[.slice p1 n1 c1,.slice p2 n2 c2,.slice p3 n3 c3])) := fun W hW =>
  (hx3.keep (fun i _ hi => (hW.block i (by have := b4.size; omega)).trans (b4.block i hi))).fnIs b4.size
 have f0 := k4.cell 0 rfl
 have f1 := k4.cell 1 rfl
 have f2 := k4.cell 2 rfl
 have HW4 := keep hw4
 clear hx3 hb3 b4 k4 b13 b14 hw4 HPs
 by_cases he : e = 0
 ·subst he
  have HCk := keep (kcheck_any w4.heap.size f _ _ _ w4 (Nat.le_refl _) HWf.out (HX4.out w4 (Below.refl _ _)))
  go_wp2_with (first | rw [HW4.out])
  refine HCk.out.mono ?_
  rintro r w5 ⟨rfl,hb5⟩
  have HB45 := keep hb5
  have HB5 := keep (HB14.out.trans (hb5.mono HB14.out.size))
  clear hb5 HCk f0 f1 f2
  by_cases hck : checkK f = 0
  ·rw [hck]
   have HRt := keep (right_ok hck)
   have k5 := HK4.out.fs (Fs.of_below (l:=[]) HB45.out) (by simp)
   have g5 := HK1.out.fs (Fs.of_below (l:=[]) HB5.out) (by simp)
   have h5 := HKh.out.fs (Fs.of_below (l:=[]) HB5.out) (by simp)
   have f0 := k5.cell 0 rfl
   have f1 := k5.cell 1 rfl
   have f2 := k5.cell 2 rfl
   have g0 := g5.cell 0 rfl
   have g1 := g5.cell 1 rfl
   have m0 := h5.cell 0 rfl
   have m1 := h5.cell 1 rfl
   have HSm : Hid (∀ v ∈ f.arrays,v.size ≤ 8) := fun v hv => (HWf.out.2.1 v hv).2.2
   have HPw : Hid (∀ W,Below w4.heap.size w4 W → VrIs W w4.heap.size f.params (.slice p1 n1 c1) ∧ VrIs W w4.heap.size f.arrays (.slice p2 n2 c2) ∧ StIs W w4.heap.size 10 11 f.body (.slice p3 n3 c3)) := fun W hW => fn_parts (HX4.out W hW)
   have HZ : Hid (w.heap.size ≤ w4.heap.size) := Nat.le_trans HB1.out.size HB14.out.size
   have HGg : Hid (∀ W,Below w1.heap.size w1 W → GvIs W w4.heap.size ws aa (.agg #[.slice p4 n4 c4,.slice p5 n5 c5]) ∧ GvIs W w4.heap.size vs bb (.agg #[.slice p6 n6 c6,.slice p7 n7 c7])) := fun W hW =>
    ⟨⟨_,_,rfl,(HGv.out W hW).1.1.mono HZ.out,(HGv.out W hW).1.2.mono HZ.out⟩,⟨_,_,rfl,(HGv.out W hW).2.1.mono HZ.out,(HGv.out W hW).2.2.mono HZ.out⟩⟩
   have HAk := keep (alike_any w4.heap.size f.params f.arrays (.slice p1 n1 c1) (.slice p2 n2 c2) (.slice p3 n3 c3) ws aa _ vs bb _ w5 HB45.out.size (HPw.out w5 HB45.out).1 (HPw.out w5 HB45.out).2.1 ⟨_,_,_,rfl⟩ (HGg.out w5 HB5.out).1 (HGg.out w5 HB5.out).2 HRt.out.1 HRt.out.2.1 HSm.out)
   have HKk5 := keep k5
   have HKg5 := keep g5
   have HKh5 := keep h5
   clear hck k5 g5 h5
   go_wp2_with fail
   refine HAk.out.mono ?_
   rintro r w6 ⟨b,rfl,hb,hb6⟩
   have HB46 := keep (HB45.out.trans (hb6.mono HB45.out.size))
   have HB6 := keep (HB5.out.trans (hb6.mono HB5.out.size))
   have HB56 := keep hb6
   clear hb6 HAk f0 f1 f2 g0 g1 m0 m1
   cases b with
   | false =>
    clear hb
    go_wp2
    go_ret
    exact ⟨rfl,HB1.out.trans (HB6.out.mono HB1.out.size)⟩
   | true =>
    have HAR := keep (hb rfl)
    clear hb
    have k6 := HKk5.out.fs (Fs.of_below (l:=[]) HB56.out) (by simp)
    have g6 := HKg5.out.fs (Fs.of_below (l:=[]) HB56.out) (by simp)
    have h6 := HKh5.out.fs (Fs.of_below (l:=[]) HB56.out) (by simp)
    have f0 := k6.cell 0 rfl
    have f1 := k6.cell 1 rfl
    have f2 := k6.cell 2 rfl
    have g0 := g6.cell 0 rfl
    have g1 := g6.cell 1 rfl
    obtain ⟨q1,q2,ks',q3⟩ := HRt.out
    obtain ⟨p',n',c',ee,hl2,_,_,hq2⟩ := (HPw.out w4 (Below.refl _ _)).2.1
    injection ee with ee1 ee2 ee3
    subst ee1 ee2 ee3
    have HL2 := keep hl2
    have HQ2 := keep hq2
    have HRun : Hid (∀ W,Below w4.heap.size w4 W → Below w1.heap.size w1 W → Calls Tryz.prog 12 #[.agg #[.slice p1 n1 c1,.slice p2 n2 c2,.slice p3 n3 c3],.agg #[.slice p4 n4 c4,.slice p5 n5 c5]] W fun r w' => RunP f.arrays f.params ws aa f.body W r w') := fun W h4 h1 =>
     run_fits w4.heap.size f.params f.arrays f.body _ _ _ ws aa _ W h4.size (HPw.out W h4).1 (HPw.out W h4).2.1 (HPw.out W h4).2.2 (HGg.out W h1).1 (shape_room q1 q2 HSm.out HAR.out.s1) (by omega) (by have := HSz.out; omega) (by omega) HSm.out HWf.out.2.2 HAR.out.s1 HAR.out.w1 ks' q3
    have HRun2 : Hid (∀ W,Below w4.heap.size w4 W → Below w1.heap.size w1 W → Calls Tryz.prog 12 #[.agg #[.slice p1 n1 c1,.slice p2 n2 c2,.slice p3 n3 c3],.agg #[.slice p6 n6 c6,.slice p7 n7 c7]] W fun r w' => RunP f.arrays f.params vs bb f.body W r w') := fun W h4 h1 =>
     run_fits w4.heap.size f.params f.arrays f.body _ _ _ vs bb _ W h4.size (HPw.out W h4).1 (HPw.out W h4).2.1 (HPw.out W h4).2.2 (HGg.out W h1).2 (shape_room q1 q2 HSm.out HAR.out.s2) (by omega) (by have := HSz.out; omega) (by omega) HSm.out HWf.out.2.2 HAR.out.s2 HAR.out.w2 ks' q3
    have HG1 : Hid (GM f.arrays ⟨envOf f.params ws,aa,0⟩) := ⟨envOf_words HAR.out.w1,GA.of HAR.out.s1 HAR.out.w1⟩
    have HG2 : Hid (GM f.arrays ⟨envOf f.params vs,bb,0⟩) := ⟨envOf_words HAR.out.w2,GA.of HAR.out.s2 HAR.out.w2⟩
    have HQ := keep q2
    have HQ3 := keep q3
    have HKk6 := keep k6
    have HKh6 := keep h6
    clear k6 g6 h6 hl2 hq2 q1 q2 q3
    go_wp2_with fail
    refine (HRun.out w6 HB46.out HB6.out).mono ?_
    rintro r w7 ⟨wd,tr,arr,AO,ab,hR⟩
    have hr := hR.r
    have e1 := (end_good HWf.out.2.2 HG1.out hR.ev).1
    obtain ⟨e4,e5⟩ := ga_small e1 HQ.out HSm.out
    have la : arr.length = n2 := by rw [← HL2.out]; exact e1.len
    have hArr7 : ArrsIs w7 w7.heap.size arr (.slice (some ⟨AO,0,none⟩) arr.length arr.length) := arrs_of (hR.arr 0 0) (by omega) (fun a ha => by have := e5 a ha; omega) (fun b hb => (hR.new b hb).2)
    rw [la] at hr hArr7
    obtain ⟨pA,hpA⟩ : ∃ p : Option Addr,some ⟨AO,0,none⟩ = p := ⟨_,rfl⟩
    rw [hpA] at hr hArr7
    subst hr
    obtain ⟨w8,hw8⟩ : ∃ y,w7.alloc (.cells #[.int .i64 wd,.bool tr,.slice pA n2 n2] 38) = y := ⟨_,rfl⟩
    have b8 : Below w7.heap.size w7 w8 := by rw [← hw8]; exact (Below.refl _ _).alloc (Nat.le_refl _) _
    have k8 : Bk w8 w7.heap.size [.int .i64 wd,.bool tr,.slice pA n2 n2] 38 := by rw [← hw8]; exact Bk.new _ _ _
    have b68 := hR.bel.trans (b8.mono hR.bel.size)
    have HB48 := keep (HB46.out.trans (b68.mono HB46.out.size))
    have HB8 := keep (HB6.out.trans (b68.mono HB6.out.size))
    have kf8 := HKk6.out.fs (Fs.of_below (l:=[]) b68) (by simp)
    have kh8 := HKh6.out.fs (Fs.of_below (l:=[]) b68) (by simp)
    have HArr8 : Hid (ArrsIs w8 w8.heap.size arr (.slice pA n2 n2)) := (hArr7.below b8).mono b8.size
    have HEv := keep hR.ev
    have HGa := keep e1
    have HK8 := keep k8
    have HKf8 := keep kf8
    have HW8 := keep hw8
    have f0 := kf8.cell 0 rfl
    have f1 := kf8.cell 1 rfl
    have f2 := kf8.cell 2 rfl
    have m0 := kh8.cell 0 rfl
    have m1 := kh8.cell 1 rfl
    clear hR e1 e4 e5 la hArr7 hpA hw8 b8 k8 b68 kf8 kh8 HRun g0 g1
    go_wp2_with (first | rw [HW8.out])
    refine (HRun2.out w8 HB48.out HB8.out).mono ?_
    rintro r w9 ⟨wd',tr',arr',AO',ab',hR⟩
    have hr := hR.r
    have e1 := (end_good HWf.out.2.2 HG2.out hR.ev).1
    obtain ⟨e4,e5⟩ := ga_small e1 HQ.out HSm.out
    have la : arr'.length = n2 := by rw [← HL2.out]; exact e1.len
    obtain ⟨htr,hlk⟩ := same_end HWf.out.2.2 HAR.out HQ3.out HEv.out hR.ev
    subst htr
    have hArr9 : ArrsIs w9 w9.heap.size arr' (.slice (some ⟨AO',0,none⟩) arr'.length arr'.length) := arrs_of (hR.arr 0 0) (by omega) (fun a ha => by have := e5 a ha; omega) (fun b hb => (hR.new b hb).2)
    rw [la] at hr hArr9
    obtain ⟨pB,hpB⟩ : ∃ p : Option Addr,some ⟨AO',0,none⟩ = p := ⟨_,rfl⟩
    rw [hpB] at hr hArr9
    subst hr
    obtain ⟨wx,hwx⟩ : ∃ y,w9.alloc (.cells #[.int .i64 wd',.bool tr',.slice pB n2 n2] 38) = y := ⟨_,rfl⟩
    have bx : Below w9.heap.size w9 wx := by rw [← hwx]; exact (Below.refl _ _).alloc (Nat.le_refl _) _
    have kx : Bk wx w9.heap.size [.int .i64 wd',.bool tr',.slice pB n2 n2] 38 := by rw [← hwx]; exact Bk.new _ _ _
    have b8x := hR.bel.trans (bx.mono hR.bel.size)
    have HBx := keep (HB8.out.trans (b8x.mono HB8.out.size))
    have HB4x := keep (HB48.out.trans (b8x.mono HB48.out.size))
    have k8x := HK8.out.fs (Fs.of_below (l:=[]) b8x) (by simp)
    have kfx := HKf8.out.fs (Fs.of_below (l:=[]) b8x) (by simp)
    have HAx : Hid (ArrsIs wx wx.heap.size arr (.slice pA n2 n2)) := (HArr8.out.below b8x).mono b8x.size
    have HAy : Hid (ArrsIs wx wx.heap.size arr' (.slice pB n2 n2)) := (hArr9.below bx).mono bx.size
    have HLk := keep hlk
    have HLa : Hid (arr.length = n2) := by
     show _ = _
     rw [← HL2.out]; exact HGa.out.len
    have HLb := keep la
    have HKa := keep k8x
    have HKb := keep kx
    have HWx := keep hwx
    have r1 := k8x.cell 1 rfl
    have r2 := k8x.cell 2 rfl
    have s1 := kx.cell 1 rfl
    have s2 := kx.cell 2 rfl
    have f1 := kfx.cell 1 rfl
    have dt : (tr' != tr') = false := by cases tr' <;> rfl
    clear hR e1 e4 e5 la hArr9 hpB hwx bx kx b8x k8x kfx HRun2 hlk m0 m1 f0 f2
    obtain ⟨pa0,na0,ca0,ea,_,_,_,hqa⟩ := HAx.out
    injection ea with ea1 ea2 ea3
    subst ea1 ea2 ea3
    obtain ⟨pb0,nb0,cb0,eb,_,_,_,hqb⟩ := HAy.out
    injection eb with eb1 eb2 eb3
    subst eb1 eb2 eb3
    have HQA := keep hqa
    have HQB := keep hqb
    clear hqa hqb
    go_wp2_with (first | rw [HWx.out])
    go_loopw [81] (fun i wy => ∃ j : Nat,j ≤ n2 ∧ i = .int .i64 (j : Int) ∧ Below wx.heap.size wx wy) (fun i _ => n2 - (intOf i).toNat)
    case atStart => exact ⟨0,by omega,rfl,Below.refl _ _⟩
    case round =>
     clear r1 r2 s1 s2 f1
     obtain ⟨j,hjn,rfl,hbx⟩ := hrel
     have HX := keep hbx
     clear hbx
     by_cases hjl : j < n2
     ·have d1 : decide ((j : Int) < (n2 : Int)) = true := decide_eq_true (by omega)
      have hjz : (j : Int) < (n2 : Int) := by omega
      have hj0 : (0 : Int) ≤ (j : Int) := by omega
      have hwr : IntKind.i64.wrap ((j : Int) + 1) = (j : Int) + 1 := by rw [IntKind.wrap_i64]; omega
      obtain ⟨v,hv⟩ : ∃ v,f.arrays[j]? = some v := ⟨_,List.getElem?_eq_getElem (by rw [HL2.out]; exact hjl)⟩
      obtain ⟨x,hx⟩ : ∃ x,arr[j]? = some x := ⟨_,List.getElem?_eq_getElem (by rw [HLa.out]; exact hjl)⟩
      obtain ⟨y,hy⟩ : ∃ y,arr'[j]? = some y := ⟨_,List.getElem?_eq_getElem (by rw [HLb.out]; exact hjl)⟩
      obtain ⟨g,o,rfl,hgB,hat⟩ := HQ2.out j v hv
      obtain ⟨gx,ox,sx,rfl,hgx,hcx,hix⟩ := HQA.out j x hx
      obtain ⟨gy,oy,sy,rfl,hgy,hcy,hiy⟩ := HQB.out j y hy
      obtain ⟨px,nx,cx,rfl⟩ := hix.slice
      obtain ⟨py,ny,cy,rfl⟩ := hiy.slice
      have HB4r : Hid (Below w4.heap.size w4 wr) := HB4x.out.trans (HX.out.mono HB4x.out.size)
      have hat := hat.below HB4r.out hgB
      have a0 := hat.c0
      have a1 := hat.c1
      have a2 := hat.c2
      have HSame : Hid (v.secret = false → x = y) := fun h => LkA.at' HLk.out j v x y hv hx hy h
      obtain ⟨xn,xs,xz⟩ := v
      dsimp only at a0 a1 a2 HSame
      obtain ⟨wv,hwv⟩ : ∃ wv,wr.alloc (.cells #[.string ⟨xn.toArray⟩,.bool xs,.int .i64 xz] 46) = wv := ⟨_,rfl⟩
      have hb5 : Below wr.heap.size wr wv := by rw [← hwv]; exact (Below.refl _ _).alloc (Nat.le_refl _) _
      have hz5 : Bk wv wr.heap.size [.string ⟨xn.toArray⟩,.bool xs,.int .i64 xz] 46 := by rw [← hwv]; exact Bk.new _ _ _
      have b5x : Below wx.heap.size wx wv := HX.out.trans (hb5.mono HX.out.size)
      have HS5 : Hid (∀ W,Below wv.heap.size wv W → W.cell? ⟨wr.heap.size,1,none⟩ = some (.bool xs) ∧ W.cell? ⟨w7.heap.size,2,none⟩ = some (.slice (some ⟨gx,ox,none⟩) n2 n2) ∧ W.cell? ⟨w9.heap.size,2,none⟩ = some (.slice (some ⟨gy,oy,none⟩) n2 n2) ∧ W.cell? ⟨gx,ox + j,none⟩ = some (.slice px nx cx) ∧ W.cell? ⟨gy,oy + j,none⟩ = some (.slice py ny cy)) := fun W hW => by
       have c1 := b5x.trans (hW.mono b5x.size)
       exact ⟨(hz5.fs (Fs.of_below (l:=[]) hW) (by simp)).cell 1 rfl,(HKa.out.fs (Fs.of_below (l:=[]) c1) (by simp)).cell 2 rfl,(HKb.out.fs (Fs.of_below (l:=[]) c1) (by simp)).cell 2 rfl,by rw [cell_below c1 hgx]; exact hcx,by rw [cell_below c1 hgy]; exact hcy⟩
      have HSi : Hid (∀ W,Below wv.heap.size wv W → Calls Tryz.prog 17 #[.slice px nx cx,.slice py ny cy] W fun r w' => ∃ b : Bool,r = .returned (.bool b) ∧ (b = true ↔ x = y) ∧ Below W.heap.size W w') := fun W hW => by
       have c1 := b5x.trans (hW.mono b5x.size)
       exact sameInts_any wx.heap.size x y _ _ W c1.size (hix.below c1) (hiy.below c1)
      have HB5 := keep b5x
      have HW5 := keep hwv
      clear hv hx hy hat hcx hcy hwv hb5 hz5 b5x hgB hgx hgy hix hiy
      cases xs with
      | true =>
       clear HSi HSame
       go_wp2_with (first | rw [HW5.out])
       refine wp_region_noPanic ?_
       refine Ord.wpM_begin (fun W' : World => W'.cell? ⟨wr.heap.size,1,none⟩ = some (.bool true) ∧ W'.cell? ⟨w7.heap.size,2,none⟩ = some (.slice (some ⟨gx,ox,none⟩) n2 n2) ∧ W'.cell? ⟨w9.heap.size,2,none⟩ = some (.slice (some ⟨gy,oy,none⟩) n2 n2) ∧ W'.cell? ⟨gx,ox + j,none⟩ = some (.slice px nx cx) ∧ W'.cell? ⟨gy,oy + j,none⟩ = some (.slice py ny cy)) [0,1,2,3,4,5,6,7,8,9,10,11,12,13,14,15,16] (by kernel_rfl) ?_
       have HD : Hid (Below wv.heap.size wv wv.drew) := Below.drew (Below.refl _ _)
       have HB6 := keep (HB5.out.trans (HD.out.mono HB5.out.size))
       generalize wv.drew = wd0 at *
       have hS : wd0.cell? ⟨wr.heap.size,1,none⟩ = some (.bool true) ∧ wd0.cell? ⟨w7.heap.size,2,none⟩ = some (.slice (some ⟨gx,ox,none⟩) n2 n2) ∧ wd0.cell? ⟨w9.heap.size,2,none⟩ = some (.slice (some ⟨gy,oy,none⟩) n2 n2) ∧ wd0.cell? ⟨gx,ox + j,none⟩ = some (.slice px nx cx) ∧ wd0.cell? ⟨gy,oy + j,none⟩ = some (.slice py ny cy) := HS5.out wd0 HD.out
       refine Ord.tk (i:=0) (v:=.pointer (some ⟨wr.heap.size,1,none⟩)) (hy:=Or.inl ⟨by rfl,by rintro W' ⟨q0,q1,q2,q3,q4⟩; go_simp⟩) (hS:=hS) (h:=?_)
       try simp only [Act.put,Ord.t,Ord.z,Ord.s]
       refine Ord.tk (i:=1) (v:=.bool true) (hy:=Or.inl ⟨by rfl,by rintro W' ⟨q0,q1,q2,q3,q4⟩; go_simp⟩) (hS:=hS) (h:=?_)
       try simp only [Act.put,Ord.t,Ord.z,Ord.s]
       refine Ord.tk (i:=2) (v:=.bool false) (hy:=Or.inl ⟨by rfl,by rintro W' ⟨q0,q1,q2,q3,q4⟩; go_simp⟩) (hS:=hS) (h:=?_)
       try simp only [Act.put,Ord.t,Ord.z,Ord.s]
       refine Ord.tk (i:=3) (v:=.bool false) (hy:=Or.inl ⟨by rfl,by rintro W' ⟨q0,q1,q2,q3,q4⟩; go_simp⟩) (hS:=hS) (h:=?_)
       try simp only [Act.put,Ord.t,Ord.z,Ord.s]
       refine Ord.tk (i:=4) (v:=undef) (hy:=Or.inr ⟨by rfl,rfl⟩) (hS:=hS) (h:=?_)
       try simp only [Act.put,Ord.t,Ord.z,Ord.s]
       refine Ord.tk (i:=5) (v:=undef) (hy:=Or.inr ⟨by rfl,rfl⟩) (hS:=hS) (h:=?_)
       try simp only [Act.put,Ord.t,Ord.z,Ord.s]
       refine Ord.tk (i:=6) (v:=undef) (hy:=Or.inr ⟨by rfl,rfl⟩) (hS:=hS) (h:=?_)
       try simp only [Act.put,Ord.t,Ord.z,Ord.s]
       refine Ord.tk (i:=7) (v:=undef) (hy:=Or.inr ⟨by rfl,rfl⟩) (hS:=hS) (h:=?_)
       try simp only [Act.put,Ord.t,Ord.z,Ord.s]
       refine Ord.tk (i:=8) (v:=undef) (hy:=Or.inr ⟨by rfl,rfl⟩) (hS:=hS) (h:=?_)
       try simp only [Act.put,Ord.t,Ord.z,Ord.s]
       refine Ord.tk (i:=9) (v:=undef) (hy:=Or.inr ⟨by rfl,rfl⟩) (hS:=hS) (h:=?_)
       try simp only [Act.put,Ord.t,Ord.z,Ord.s]
       refine Ord.tk (i:=10) (v:=undef) (hy:=Or.inr ⟨by rfl,rfl⟩) (hS:=hS) (h:=?_)
       try simp only [Act.put,Ord.t,Ord.z,Ord.s]
       refine Ord.tk (i:=11) (v:=undef) (hy:=Or.inr ⟨by rfl,rfl⟩) (hS:=hS) (h:=?_)
       try simp only [Act.put,Ord.t,Ord.z,Ord.s]
       refine Ord.tk (i:=12) (v:=undef) (hy:=Or.inr ⟨by rfl,rfl⟩) (hS:=hS) (h:=?_)
       try simp only [Act.put,Ord.t,Ord.z,Ord.s]
       refine Ord.tk (i:=13) (v:=undef) (hy:=Or.inr ⟨by rfl,rfl⟩) (hS:=hS) (h:=?_)
       try simp only [Act.put,Ord.t,Ord.z,Ord.s]
       refine Ord.tk (i:=14) (v:=undef) (hy:=Or.inr ⟨by rfl,rfl⟩) (hS:=hS) (h:=?_)
       try simp only [Act.put,Ord.t,Ord.z,Ord.s]
       refine Ord.tk (i:=15) (v:=undef) (hy:=Or.inr ⟨by rfl,rfl⟩) (hS:=hS) (h:=?_)
       try simp only [Act.put,Ord.t,Ord.z,Ord.s]
       refine Ord.tk (i:=16) (v:=.bool false) (hy:=Or.inl ⟨by rfl,by rintro W' ⟨q0,q1,q2,q3,q4⟩; go_simp⟩) (hS:=hS) (h:=?_)
       try simp only [Act.put,Ord.t,Ord.z,Ord.s]
       refine Ord.wpM_done (by kernel_rfl) ?_ _
       refine NoPanic.normal ?_
       clear hS
       go_wp2
       go_roundw
       case rel => exact ⟨j + 1,by omega,by go_num,HB6.out⟩
       case measure => simp [intOf]; omega
      | false =>
       go_wp2_with (first | rw [HW5.out])
       refine wp_region_noPanic ?_
       refine Ord.wpM_begin (fun W' : World => W'.cell? ⟨wr.heap.size,1,none⟩ = some (.bool false) ∧ W'.cell? ⟨w7.heap.size,2,none⟩ = some (.slice (some ⟨gx,ox,none⟩) n2 n2) ∧ W'.cell? ⟨w9.heap.size,2,none⟩ = some (.slice (some ⟨gy,oy,none⟩) n2 n2) ∧ W'.cell? ⟨gx,ox + j,none⟩ = some (.slice px nx cx) ∧ W'.cell? ⟨gy,oy + j,none⟩ = some (.slice py ny cy)) [0,1,2,3,4,5,6,7,8,9,10,11,12,13,14,15,16] (by kernel_rfl) ?_
       have HD : Hid (Below wv.heap.size wv wv.drew) := Below.drew (Below.refl _ _)
       have HB6 := keep (HB5.out.trans (HD.out.mono HB5.out.size))
       generalize wv.drew = wd0 at *
       have hS : wd0.cell? ⟨wr.heap.size,1,none⟩ = some (.bool false) ∧ wd0.cell? ⟨w7.heap.size,2,none⟩ = some (.slice (some ⟨gx,ox,none⟩) n2 n2) ∧ wd0.cell? ⟨w9.heap.size,2,none⟩ = some (.slice (some ⟨gy,oy,none⟩) n2 n2) ∧ wd0.cell? ⟨gx,ox + j,none⟩ = some (.slice px nx cx) ∧ wd0.cell? ⟨gy,oy + j,none⟩ = some (.slice py ny cy) := HS5.out wd0 HD.out
       refine Ord.tk (i:=0) (v:=.pointer (some ⟨wr.heap.size,1,none⟩)) (hy:=Or.inl ⟨by rfl,by rintro W' ⟨q0,q1,q2,q3,q4⟩; go_simp⟩) (hS:=hS) (h:=?_)
       try simp only [Act.put,Ord.t,Ord.z,Ord.s]
       refine Ord.tk (i:=1) (v:=.bool false) (hy:=Or.inl ⟨by rfl,by rintro W' ⟨q0,q1,q2,q3,q4⟩; go_simp⟩) (hS:=hS) (h:=?_)
       try simp only [Act.put,Ord.t,Ord.z,Ord.s]
       refine Ord.tk (i:=2) (v:=.bool true) (hy:=Or.inl ⟨by rfl,by rintro W' ⟨q0,q1,q2,q3,q4⟩; go_simp⟩) (hS:=hS) (h:=?_)
       try simp only [Act.put,Ord.t,Ord.z,Ord.s]
       refine Ord.tk (i:=3) (v:=.bool true) (hy:=Or.inl ⟨by rfl,by rintro W' ⟨q0,q1,q2,q3,q4⟩; go_simp⟩) (hS:=hS) (h:=?_)
       try simp only [Act.put,Ord.t,Ord.z,Ord.s]
       refine Ord.tk (i:=4) (v:=.pointer (some ⟨w7.heap.size,2,none⟩)) (hy:=Or.inl ⟨by rfl,by rintro W' ⟨q0,q1,q2,q3,q4⟩; go_simp⟩) (hS:=hS) (h:=?_)
       try simp only [Act.put,Ord.t,Ord.z,Ord.s]
       refine Ord.tk (i:=5) (v:=.slice (some ⟨gx,ox,none⟩) n2 n2) (hy:=Or.inl ⟨by rfl,by rintro W' ⟨q0,q1,q2,q3,q4⟩; go_simp⟩) (hS:=hS) (h:=?_)
       try simp only [Act.put,Ord.t,Ord.z,Ord.s]
       refine Ord.tk (i:=6) (v:=.int .i64 (j : Int)) (hy:=Or.inl ⟨by rfl,by rintro W' ⟨q0,q1,q2,q3,q4⟩; go_simp⟩) (hS:=hS) (h:=?_)
       try simp only [Act.put,Ord.t,Ord.z,Ord.s]
       refine Ord.tk (i:=7) (v:=.pointer (some ⟨gx,ox + j,none⟩)) (hy:=Or.inl ⟨by rfl,by rintro W' ⟨q0,q1,q2,q3,q4⟩; go_simp⟩) (hS:=hS) (h:=?_)
       try simp only [Act.put,Ord.t,Ord.z,Ord.s]
       refine Ord.tk (i:=8) (v:=.slice px nx cx) (hy:=Or.inl ⟨by rfl,by rintro W' ⟨q0,q1,q2,q3,q4⟩; go_simp⟩) (hS:=hS) (h:=?_)
       try simp only [Act.put,Ord.t,Ord.z,Ord.s]
       refine Ord.tk (i:=9) (v:=.pointer (some ⟨w9.heap.size,2,none⟩)) (hy:=Or.inl ⟨by rfl,by rintro W' ⟨q0,q1,q2,q3,q4⟩; go_simp⟩) (hS:=hS) (h:=?_)
       try simp only [Act.put,Ord.t,Ord.z,Ord.s]
       refine Ord.tk (i:=10) (v:=.slice (some ⟨gy,oy,none⟩) n2 n2) (hy:=Or.inl ⟨by rfl,by rintro W' ⟨q0,q1,q2,q3,q4⟩; go_simp⟩) (hS:=hS) (h:=?_)
       try simp only [Act.put,Ord.t,Ord.z,Ord.s]
       refine Ord.tk (i:=11) (v:=.int .i64 (j : Int)) (hy:=Or.inl ⟨by rfl,by rintro W' ⟨q0,q1,q2,q3,q4⟩; go_simp⟩) (hS:=hS) (h:=?_)
       try simp only [Act.put,Ord.t,Ord.z,Ord.s]
       refine Ord.tk (i:=12) (v:=.pointer (some ⟨gy,oy + j,none⟩)) (hy:=Or.inl ⟨by rfl,by rintro W' ⟨q0,q1,q2,q3,q4⟩; go_simp⟩) (hS:=hS) (h:=?_)
       try simp only [Act.put,Ord.t,Ord.z,Ord.s]
       refine Ord.tk (i:=13) (v:=.slice py ny cy) (hy:=Or.inl ⟨by rfl,by rintro W' ⟨q0,q1,q2,q3,q4⟩; go_simp⟩) (hS:=hS) (h:=?_)
       try simp only [Act.put,Ord.t,Ord.z,Ord.s]
       refine Ord.on (i:=14) (h:=fun K hK => ?_)
       go_simp
       refine (HSi.out wd0 HD.out).mono ?_
       rintro r wz ⟨q,rfl,hq,hb7⟩
       have HE := keep hq
       have HB7 := keep (HD.out.trans (hb7.mono HD.out.size))
       have HB6 := keep (HB5.out.trans (HB7.out.mono HB5.out.size))
       have hS : wz.cell? ⟨wr.heap.size,1,none⟩ = some (.bool false) ∧ wz.cell? ⟨w7.heap.size,2,none⟩ = some (.slice (some ⟨gx,ox,none⟩) n2 n2) ∧ wz.cell? ⟨w9.heap.size,2,none⟩ = some (.slice (some ⟨gy,oy,none⟩) n2 n2) ∧ wz.cell? ⟨gx,ox + j,none⟩ = some (.slice px nx cx) ∧ wz.cell? ⟨gy,oy + j,none⟩ = some (.slice py ny cy) := HS5.out wz HB7.out
       clear hb7 hq
       go_simp
       refine hK.out _ _ (fun _ => hS) ?_
       clear hK K
       try simp only [Act.put,Ord.t,Ord.z,Ord.s]
       have hqt : q = true := HE.out.2 (HSame.out (by first | trivial | rfl))
       subst hqt
       clear HE
       refine Ord.tk (i:=15) (v:=.bool false) (hy:=Or.inl ⟨by rfl,by rintro W' ⟨q0,q1,q2,q3,q4⟩; go_simp⟩) (hS:=hS) (h:=?_)
       try simp only [Act.put,Ord.t,Ord.z,Ord.s]
       refine Ord.tk (i:=16) (v:=.bool false) (hy:=Or.inl ⟨by rfl,by rintro W' ⟨q0,q1,q2,q3,q4⟩; go_simp⟩) (hS:=hS) (h:=?_)
       try simp only [Act.put,Ord.t,Ord.z,Ord.s]
       refine Ord.wpM_done (by kernel_rfl) ?_ _
       refine NoPanic.normal ?_
       clear hS
       go_wp2
       go_roundw
       case rel => exact ⟨j + 1,by omega,by go_num,HB6.out⟩
       case measure => simp [intOf]; omega
     ·have hje : j = n2 := by omega
      subst hje
      have dl : decide ((j : Int) < (j : Int)) = false := decide_eq_false (by omega)
      have HE := keep (HB1.out.trans ((HBx.out.trans (HX.out.mono HBx.out.size)).mono HB1.out.size))
      clear hjl
      go_wp2
      go_ret
      exact ⟨rfl,HE.out⟩
  ·have hne : (checkK f != 0) = true := by rw [bne_iff_ne]; exact hck
   clear hck
   generalize checkK f = ck at *
   go_wp2
   go_ret
   exact ⟨rfl,HB1.out.trans (HB5.out.mono HB1.out.size)⟩
 ·have hne : (e != 0) = true := by rw [bne_iff_ne]; exact he
  clear he
  go_wp2_with (first | rw [HW4.out])
  go_ret
  exact ⟨rfl,HB1.out.trans (HB14.out.mono HB1.out.size)⟩
end Go.Proofs.YtemdnmfldihalaaGreatDoor.Lr
