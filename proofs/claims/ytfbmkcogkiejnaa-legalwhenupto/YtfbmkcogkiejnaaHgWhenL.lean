/- WHEN THERE IS A WAY: LegalWhen, walked. Written by tools/gen_hgwhl.py. -/
import Derived.Test.YtfbmkcogkiejnaaHgAlive
namespace Go.Proofs.Ytfbmkcogkiejnaa.Hg
set_option maxHeartbeats 32000000
set_option maxRecDepth 100000
set_option linter.unusedVariables false
set_option linter.unusedSimpArgs false
open Go.ChangeShapes Go.WideShapes Go.ChangeAt Go.RowKit Go.Maps Lg Lr Fl
theorem wg_form {f : Fx} {T : Nat → Int} {w w' : World} {r : Ending} (h : Wg f T w r w') : Below w.heap.size w w' ∧ ∃ (q1 : Option Addr) (m1 d1 : Nat) (q2 : Option Addr) (m2 d2 : Nat) (k : Int) (q3 : Option Addr) (m3 d3 : Nat),r = .returned (.tuple #[.agg #[.slice q1 m1 d1,.slice q2 m2 d2,.int .i64 k,.slice q3 m3 d3],.int .i64 (err8 f T)]) := by
 obtain ⟨hb,⟨he,rfl⟩ | ⟨he,s,hs,hm,v1,LB,v3,lo1,lo3,rfl,h1,h2,h3,hr1,hk,hr3⟩⟩ := h
 ·exact ⟨hb,_,_,_,_,_,_,_,_,_,_,rfl⟩
 ·obtain ⟨p1,n1,c1,rfl⟩ := RowX.slice hr1
  obtain ⟨p3,n3,c3,rfl⟩ := RowX.slice hr3
  rw [he]
  exact ⟨hb,_,_,_,_,_,_,_,_,_,_,rfl⟩
theorem cnt_le (f : Fx) (T : Nat → Int) (j : Nat) : cnt f T (f.code.take j) ≤ j := by
 unfold cnt
 exact Nat.le_trans List.countP_le_length (by rw [List.length_take]; omega)
theorem none_step (f : Fx) (T : Nat → Int) {j : Nat} {i : Ix} (hi : f.code[j]? = some i) : noneF f T (f.code.take (j + 1)) = (noneF f T (f.code.take j) || (shw f T i && noWay i.op)) := by
 unfold noneF
 rw [List.take_add_one,hi,List.any_append]
 simp
theorem when_any (B : Nat) (f : Fx) (s1 s2 s3 : Value) (T : Nat → Int) (w : World) (hB : B ≤ w.heap.size) (h : FxIs w B f s1 s2 s3) (hTI : Tb.I64 T) (hN2 : f.sec.length ≤ 1048576) (hN3 : f.arrs.length ≤ 1048576) :
  Calls Try.prog 8 #[.agg (fxA f s1 s2 s3),.agg (Tb.tabA T)] w fun r w' => r = .returned (.bool true) ∧ Below w.heap.size w w' := by
 obtain ⟨p1,n1,c1,hs1,hx1⟩ := id h.code
 obtain ⟨p2,n2,c2,hs2,hx2⟩ := id h.sec
 obtain ⟨p3,n3,c3,hs3,hx3⟩ := id h.arrs
 subst hs1 hs2 hs3
 have HNC : Hid (f.code.length = n1 ∧ n1 ≤ 17592186044416) := ⟨hx1.1,hx1.2.2.1⟩
 obtain ⟨pr,hpr⟩ : ∃ k : Int,f.params = k := ⟨f.params,rfl⟩
 obtain ⟨w1,hw1⟩ : ∃ y,w.alloc (.cells #[.slice p1 n1 c1,.slice p2 n2 c2,.int .i64 pr,.slice p3 n3 c3] 26) = y := ⟨_,rfl⟩
 obtain ⟨w2,hw2⟩ : ∃ y,w1.alloc (.cells (Tb.tabA T) 29) = y := ⟨_,rfl⟩
 obtain ⟨F,hF⟩ : ∃ y,w.heap.size = y := ⟨_,rfl⟩
 obtain ⟨TB,hTB⟩ : ∃ y,w1.heap.size = y := ⟨_,rfl⟩
 have b1 : Below w.heap.size w w1 := by rw [← hw1]; exact (Below.refl _ _).alloc (Nat.le_refl _) _
 have b2 : Below w1.heap.size w1 w2 := by rw [← hw2]; exact (Below.refl _ _).alloc (Nat.le_refl _) _
 have b12 := b1.trans (b2.mono b1.size)
 have kF1 : Bk w1 F [.slice p1 n1 c1,.slice p2 n2 c2,.int .i64 pr,.slice p3 n3 c3] 26 := by rw [← hw1,← hF]; exact Bk.new _ _ _
 have kF := kF1.fs (Fs.of_below (l:=[]) b2) (by simp)
 have kT : Tb.Blk w2 TB T := by rw [← hw2,← hTB]; exact Tb.blk_alloc w1 T
 have HBx : Hid (∀ W,Below w2.heap.size w2 W → Bk W F [.slice p1 n1 c1,.slice p2 n2 c2,.int .i64 pr,.slice p3 n3 c3] 26) := fun W hW => kF.fs (Fs.of_below (l:=[]) hW) (by simp)
 have HTk : Hid (∀ W,Below w2.heap.size w2 W → Tb.Blk W TB T) := fun W hW => kT.below hW kT.lt
 have HIn : Hid (∀ W,Below w2.heap.size w2 W → B ≤ W.heap.size ∧ FxIs W B f (.slice p1 n1 c1) (.slice p2 n2 c2) (.slice p3 n3 c3)) := fun W hW => by
  have hb := b12.trans (hW.mono b12.size)
  exact ⟨Nat.le_trans hB hb.size,h.below (hb.mono hB)⟩
 have HBw : Hid (∀ W,Below w2.heap.size w2 W → Below w.heap.size w W) := fun W hW => b12.trans (hW.mono b12.size)
 have HW1 := keep hw1
 have HW2 := keep hw2
 have HF := keep hF
 have HTB := keep hTB
 have HN := keep (And.intro hN2 hN3)
 have HPr := keep hpr
 have HTI := keep hTI
 have HAl := keep (fun W => alive_any W)
 unfold fxA
 rw [hpr]
 clear hw1 hw2 hF hTB b1 b2 b12 kF1 kF kT hx1 hx2 hx3 h hB hN2 hN3 hpr hTI
 go_enter Try.func8,Try.ntmps8
 go_wp2_with (first | rw [HW1.out] | rw [HW2.out] | rw [HF.out] | rw [HTB.out] | fail)
 refine (HAl.out w2).mono ?_
 rintro r w5 ⟨rfl,hb5⟩
 have HB5 := keep hb5
 have kF := HBx.out w5 hb5
 have f0 := kF.cell 0 rfl
 have f1 := kF.cell 1 rfl
 have f2 := kF.cell 2 rfl
 have f3 := kF.cell 3 rfl
 obtain ⟨i1,i2⟩ := HIn.out w5 hb5
 have HCk := keep (rcheck_any B f _ _ _ w5 i1 i2)
 unfold fxA at HCk
 rw [HPr.out] at HCk
 clear hb5 kF HAl i1 i2
 go_wp2_with fail
 refine HCk.out.mono ?_
 rintro r w6 ⟨rfl,hb6⟩
 have HB6 := keep (HB5.out.trans (hb6.mono HB5.out.size))
 clear hb6 HCk f0 f1 f2 f3 HB5
 by_cases hc : (checkF f).1 = 0
 rotate_left
 ·obtain ⟨e,he⟩ : ∃ e,(checkF f).1 = e := ⟨_,rfl⟩
  obtain ⟨e',he'⟩ : ∃ e,(checkF f).2 = e := ⟨_,rfl⟩
  rw [he,he']
  rw [he] at hc
  have hb : (e != 0) = true := by rw [bne_iff_ne]; exact hc
  clear hc he he'
  go_wp2
  go_ret
  exact ⟨rfl,HBw.out _ HB6.out⟩
 have hck := check_zero hc
 have HC0 := keep hc
 rw [hck]
 have HR := keep (right_of (f:=f) hc)
 have HT6 := keep (HTk.out w6 HB6.out)
 obtain ⟨z,hz⟩ : ∃ z,Tb.wrongT T = z := ⟨_,rfl⟩
 have HWr := keep (Rt.wrong_any T HTI.out w6)
 rw [hz] at HWr
 have HZ := keep hz
 clear hz hc hck
 go_wp2_with (first | refine Tb.load_want rfl _ rfl TB rfl T HT6.out ?_ | fail)
 refine HWr.out.mono ?_
 rintro r w8 ⟨rfl,hb8⟩
 have HB8 := keep (HB6.out.trans (hb8.mono HB6.out.size))
 clear hb8 HWr HT6 HB6
 by_cases hz0 : z = 0
 rotate_left
 ·have hb : (z != 0) = true := by rw [bne_iff_ne]; exact hz0
  clear hz0
  go_wp2
  go_ret
  exact ⟨rfl,HBw.out _ HB8.out⟩
 subst hz0
 have HTR := keep (tabR_of HZ.out)
 have kF := HBx.out w8 HB8.out
 have f0 := kF.cell 0 rfl
 have f1 := kF.cell 1 rfl
 have f2 := kF.cell 2 rfl
 have f3 := kF.cell 3 rfl
 clear kF
 go_wp2_with fail
 clear f0 f1 f2 f3
 go_loopw [7,8,30] (fun a b i wx => ∃ j : Nat,j ≤ n1 ∧ i = .int .i64 (j : Int) ∧ a = .int .i64 (cnt f T (f.code.take j) : Int) ∧ b = .bool (noneF f T (f.code.take j)) ∧ Below w8.heap.size w8 wx) (fun _ _ i _ => n1 - (intOf i).toNat)
 case atStart => exact ⟨0,by omega,rfl,rfl,rfl,Below.refl _ _⟩
 case round =>
  obtain ⟨j,hjn,rfl,rfl,rfl,hbx⟩ := hrel
  have HX := keep (HB8.out.trans (hbx.mono HB8.out.size))
  have HXx := keep hbx
  clear hbx
  have HCl := keep (cnt_le f T j)
  by_cases hjl : j < n1
  ·have d1 : decide ((j : Int) < (n1 : Int)) = true := decide_eq_true (by omega)
   have hjz : (j : Int) < (n1 : Int) := by omega
   have hj0 : (0 : Int) ≤ (j : Int) := by omega
   have hwr : IntKind.i64.wrap ((j : Int) + 1) = (j : Int) + 1 := by rw [IntKind.wrap_i64]; have := HNC.out; omega
   obtain ⟨x,hx⟩ : ∃ x,f.code[j]? = some x := ⟨_,List.getElem?_eq_getElem (by rw [HNC.out.1]; exact hjl)⟩
   have HCs := keep (cnt_step f T hx)
   have HNs := keep (none_step f T hx)
   obtain ⟨C,hC⟩ : ∃ y,cnt f T (f.code.take j) = y := ⟨_,rfl⟩
   obtain ⟨Z,hZ⟩ : ∃ y,noneF f T (f.code.take j) = y := ⟨_,rfl⟩
   rw [hC] at HCs HCl ⊢
   rw [hZ] at HNs ⊢
   clear hC hZ
   have hwc : IntKind.i64.wrap ((C : Int) + 1) = (C : Int) + 1 := by rw [IntKind.wrap_i64]; have := HNC.out; have := HCl.out; omega
   obtain ⟨i1,i2⟩ := HIn.out wr HX.out
   obtain ⟨y1,y2,y3,y4,y5,y6,y7,y8⟩ := i2.code
   cases y4
   obtain ⟨g,o,rfl,hgB,hix⟩ := y8 j x hx
   have HFine : Hid (Fine f j x) := fine_of (HR.out.each j x hx)
   obtain ⟨op,d,a,b,c,imm⟩ := x
   have z0 := hix.c0
   have z1 := hix.c1
   have z2 := hix.c2
   have z3 := hix.c3
   have z4 := hix.c4
   have z5 := hix.c5
   dsimp only at z0 z1 z2 z3 z4 z5
   obtain ⟨w9,hw9⟩ : ∃ y,wr.alloc (.cells #[.int .i64 op,.int .i64 d,.int .i64 a,.int .i64 b,.int .i64 c,.int .i64 imm] 35) = y := ⟨_,rfl⟩
   obtain ⟨X,hX⟩ : ∃ y,wr.heap.size = y := ⟨_,rfl⟩
   have hb9 : Below wr.heap.size wr w9 := by rw [← hw9]; exact (Below.refl _ _).alloc (Nat.le_refl _) _
   have kX : Bk w9 X [.int .i64 op,.int .i64 d,.int .i64 a,.int .i64 b,.int .i64 c,.int .i64 imm] 35 := by rw [← hw9,← hX]; exact Bk.new _ _ _
   have x0 := kX.cell 0 rfl
   have x1 := kX.cell 1 rfl
   have x2 := kX.cell 2 rfl
   have x3 := kX.cell 3 rfl
   have x4 := kX.cell 4 rfl
   have x5 := kX.cell 5 rfl
   have HkX := keep kX
   have HB9 := keep (HX.out.trans (hb9.mono HX.out.size))
   have HX9 := keep (HXx.out.trans (hb9.mono HXx.out.size))
   have kF := HBx.out w9 HB9.out
   have f0 := kF.cell 0 rfl
   have f1 := kF.cell 1 rfl
   have f2 := kF.cell 2 rfl
   have f3 := kF.cell 3 rfl
   clear kF
   have HT9 := keep (HTk.out w9 HB9.out)
   obtain ⟨i1',i2'⟩ := HIn.out w9 HB9.out
   have HSw := keep (Fl.shows_any B f _ _ _ T ⟨op,d,a,b,c,imm⟩ j w9 i1' i2' HFine.out HTR.out)
   unfold fxA ixA at HSw
   rw [HPr.out] at HSw
   dsimp only at HSw
   obtain ⟨q,hq⟩ : ∃ q,shw f T ⟨op,d,a,b,c,imm⟩ = q := ⟨_,rfl⟩
   rw [hq] at HSw HCs HNs
   have HW9 := keep hw9
   have HXn := keep hX
   clear hix y8 hgB i1 i2 i1' i2' hx kX hw9 hX hb9 hq
   go_wp2_with (first | rw [HW9.out,HXn.out] | refine Tb.load_tab rfl _ rfl TB rfl T HT9.out ?_ | fail)
   refine HSw.out.mono ?_
   rintro r w10 ⟨rfl,hb10⟩
   have HB10 := keep (HB9.out.trans (hb10.mono HB9.out.size))
   have HX10 := keep (HX9.out.trans (hb10.mono HX9.out.size))
   have x0 := (HkX.out.fs (Fs.of_below (l:=[]) hb10) (by simp)).cell 0 rfl
   clear hb10 HSw x1 x2 x3 x4 x5 z0 z1 z2 z3 z4 z5 f0 f1 f2 f3 HkX
   cases q with
   | false =>
    go_wp2
    go_roundw
    case rel => exact ⟨j + 1,by omega,by go_num,by rw [HCs.out]; rfl,by rw [HNs.out,Bool.false_and,Bool.or_false],HX10.out⟩
    case measure => simp [intOf]; omega
   | true =>
    by_cases h1 : op = 1
    ·have e1 : (op == 1) = true := by simpa using h1
     have HNo : Hid ((Z || (true && noWay op)) = true) := by
      show _ = _
      rw [show noWay op = true by rw [h1]; rfl]; simp
     clear h1
     go_wp2
     go_roundw
     case rel => exact ⟨j + 1,by omega,by go_num,by rw [HCs.out]; rfl,by rw [HNs.out,HNo.out],HX10.out⟩
     case measure => simp [intOf]; omega
    have e1 : (op == 1) = false := by simpa using h1
    by_cases h2 : op = 2
    ·have e2 : (op == 2) = true := by simpa using h2
     have HNo : Hid ((Z || (true && noWay op)) = true) := by
      show _ = _
      rw [show noWay op = true by rw [h2]; rfl]; simp
     clear h1 h2
     go_wp2
     go_roundw
     case rel => exact ⟨j + 1,by omega,by go_num,by rw [HCs.out]; rfl,by rw [HNs.out,HNo.out],HX10.out⟩
     case measure => simp [intOf]; omega
    have e2 : (op == 2) = false := by simpa using h2
    by_cases h3 : op = 3
    ·have e3 : (op == 3) = true := by simpa using h3
     have HNo : Hid ((Z || (true && noWay op)) = true) := by
      show _ = _
      rw [show noWay op = true by rw [h3]; rfl]; simp
     clear h1 h2 h3
     go_wp2
     go_roundw
     case rel => exact ⟨j + 1,by omega,by go_num,by rw [HCs.out]; rfl,by rw [HNs.out,HNo.out],HX10.out⟩
     case measure => simp [intOf]; omega
    have e3 : (op == 3) = false := by simpa using h3
    by_cases h4 : op = 4
    ·have e4 : (op == 4) = true := by simpa using h4
     have HNo : Hid ((Z || (true && noWay op)) = true) := by
      show _ = _
      rw [show noWay op = true by rw [h4]; rfl]; simp
     clear h1 h2 h3 h4
     go_wp2
     go_roundw
     case rel => exact ⟨j + 1,by omega,by go_num,by rw [HCs.out]; rfl,by rw [HNs.out,HNo.out],HX10.out⟩
     case measure => simp [intOf]; omega
    have e4 : (op == 4) = false := by simpa using h4
    by_cases h5 : op = 5
    ·have e5 : (op == 5) = true := by simpa using h5
     have HNo : Hid ((Z || (true && noWay op)) = true) := by
      show _ = _
      rw [show noWay op = true by rw [h5]; rfl]; simp
     clear h1 h2 h3 h4 h5
     go_wp2
     go_roundw
     case rel => exact ⟨j + 1,by omega,by go_num,by rw [HCs.out]; rfl,by rw [HNs.out,HNo.out],HX10.out⟩
     case measure => simp [intOf]; omega
    have e5 : (op == 5) = false := by simpa using h5
    by_cases h15 : op = 15
    ·have e15 : (op == 15) = true := by simpa using h15
     have HNo : Hid ((Z || (true && noWay op)) = true) := by
      show _ = _
      rw [show noWay op = true by rw [h15]; rfl]; simp
     clear h1 h2 h3 h4 h5 h15
     go_wp2
     go_roundw
     case rel => exact ⟨j + 1,by omega,by go_num,by rw [HCs.out]; rfl,by rw [HNs.out,HNo.out],HX10.out⟩
     case measure => simp [intOf]; omega
    have e15 : (op == 15) = false := by simpa using h15
    by_cases h17 : op = 17
    ·have e17 : (op == 17) = true := by simpa using h17
     have HNo : Hid ((Z || (true && noWay op)) = true) := by
      show _ = _
      rw [show noWay op = true by rw [h17]; rfl]; simp
     clear h1 h2 h3 h4 h5 h15 h17
     go_wp2
     go_roundw
     case rel => exact ⟨j + 1,by omega,by go_num,by rw [HCs.out]; rfl,by rw [HNs.out,HNo.out],HX10.out⟩
     case measure => simp [intOf]; omega
    have e17 : (op == 17) = false := by simpa using h17
    have HNo : Hid (noWay op = false) := by
     show _ = _
     unfold noWay
     rw [e1,e2,e3,e4,e5,e15,e17]; rfl
    clear h1 h2 h3 h4 h5 h15 h17
    go_wp2
    go_roundw
    case rel => exact ⟨j + 1,by omega,by go_num,by rw [HCs.out]; rfl,by rw [HNs.out,HNo.out,Bool.and_false,Bool.or_false],HX10.out⟩
    case measure => simp [intOf]; omega
  ·have hje : j = n1 := by omega
   subst hje
   have dl : decide ((j : Int) < (j : Int)) = false := decide_eq_false (by omega)
   have ht : f.code.take j = f.code := List.take_of_length_le (by rw [HNC.out.1]; exact Nat.le_refl _)
   rw [ht] at HCl ⊢
   obtain ⟨C,hC⟩ : ∃ y,cnt f T f.code = y := ⟨_,rfl⟩
   obtain ⟨Z,hZ⟩ : ∃ y,noneF f T f.code = y := ⟨_,rfl⟩
   rw [hC,hZ]
   rw [hC] at HCl
   obtain ⟨i1,i2⟩ := HIn.out wr HX.out
   have HLg := keep (legal_whole B f _ _ _ T wr i1 i2 HN.out.1 HN.out.2 HTI.out)
   unfold fxA at HLg
   rw [HPr.out] at HLg
   have kF := HBx.out wr HX.out
   have f0 := kF.cell 0 rfl
   have f1 := kF.cell 1 rfl
   have f2 := kF.cell 2 rfl
   have f3 := kF.cell 3 rfl
   clear kF
   have HTr := keep (HTk.out wr HX.out)
   have HCz := keep hC
   have HZz := keep hZ
   have hw0 : IntKind.i64.wrap (1000 * (C : Int)) = 1000 * (C : Int) := by rw [IntKind.wrap_i64]; have := HNC.out; have := HCl.out; omega
   have hw1 : IntKind.i64.wrap ((j : Int) + 1000 * (C : Int)) = (j : Int) + 1000 * (C : Int) := by rw [IntKind.wrap_i64]; have := HNC.out; have := HCl.out; omega
   clear hjl hjn ht hC hZ i1 i2
   go_wp2_with (first | refine Tb.load_tab rfl _ rfl TB rfl T HTr.out ?_ | fail)
   refine HLg.out.mono ?_
   rintro r w11 hwg
   obtain ⟨hb11,q1,m1,e1,q2,m2,e2,k,q3,m3,e3,rfl⟩ := wg_form hwg
   have HB11 := keep (HX.out.trans (hb11.mono HX.out.size))
   have HBo := keep (fun o => HB11.out.alloc HB11.out.size o)
   obtain ⟨er,her⟩ : ∃ y,err8 f T = y := ⟨_,rfl⟩
   rw [her]
   have HEr := keep her
   clear HLg hwg hb11 her f0 f1 f2 f3 HTr
   obtain ⟨w12,hw12⟩ : ∃ y,w11.alloc (.cells #[.slice q1 m1 e1,.slice q2 m2 e2,.int .i64 k,.slice q3 m3 e3] 26) = y := ⟨_,rfl⟩
   obtain ⟨Y,hY⟩ : ∃ y,w11.heap.size = y := ⟨_,rfl⟩
   have HB12 : Hid (Below w2.heap.size w2 w12) := by rw [← hw12]; exact HBo.out _
   have kF := HBx.out w12 HB12.out
   have f0 := kF.cell 0 rfl
   have f1 := kF.cell 1 rfl
   have f2 := kF.cell 2 rfl
   have f3 := kF.cell 3 rfl
   clear kF
   have HW12 := keep hw12
   have HYn := keep hY
   have HT12 := keep (HTk.out w12 HB12.out)
   clear hw12 hY HBo
   by_cases hbig : 12000 < (j : Int) + 1000 * (C : Int)
   ·have db : decide (12000 < (j : Int) + 1000 * (C : Int)) = true := decide_eq_true hbig
    clear hbig
    go_wp2_with (first | rw [HW12.out,HYn.out] | fail)
    go_ret
    exact ⟨rfl,HBw.out _ HB12.out⟩
   have db : decide (12000 < (j : Int) + 1000 * (C : Int)) = false := decide_eq_false hbig
   have HLe : Hid (f.code.length + 1000 * cnt f T f.code ≤ 12000) := by show _ ≤ _; rw [HNC.out.1,HCz.out]; omega
   clear hbig
   by_cases hc0 : C = 0
   ·have dc : ((C : Int) == 0) = true := by rw [hc0]; rfl
    have de : (er == 0) = true := by rw [← HEr.out,when_zero HC0.out HZ.out HTR.out HLe.out (by rw [HCz.out]; exact hc0)]; rfl
    clear hc0
    go_wp2_with (first | rw [HW12.out,HYn.out] | fail)
    go_ret
    exact ⟨rfl,HBw.out _ HB12.out⟩
   have dc : ((C : Int) == 0) = false := by rw [beq_eq_false_iff_ne]; omega
   clear hc0
   cases Z with
   | true =>
    have de : (er == 11) = true := by rw [← HEr.out,when_none HC0.out HZ.out HTR.out HZz.out]; rfl
    go_wp2_with (first | rw [HW12.out,HYn.out] | fail)
    go_ret
    exact ⟨rfl,HBw.out _ HB12.out⟩
   | false =>
    have HPl := keep (plain_any T HTI.out w12)
    go_wp2_with (first | rw [HW12.out,HYn.out] | refine Tb.load_tab rfl _ rfl TB rfl T HT12.out ?_ | fail)
    refine HPl.out.mono ?_
    rintro r w13 ⟨rfl,hb13⟩
    have HB13 := keep (HB12.out.trans (hb13.mono HB12.out.size))
    obtain ⟨q,hq⟩ : ∃ q,plainT T = q := ⟨_,rfl⟩
    rw [hq]
    clear hb13 HPl
    cases q with
    | false =>
     clear hq
     go_wp2
     go_ret
     exact ⟨rfl,HBw.out _ HB13.out⟩
    | true =>
     have de : (er == 0) = true := by rw [← HEr.out,when_plain HC0.out HZ.out HTR.out HLe.out HZz.out hq]; rfl
     clear hq
     go_wp2
     go_ret
     exact ⟨rfl,HBw.out _ HB13.out⟩
end Go.Proofs.Ytfbmkcogkiejnaa.Hg
