/- MACH TELLS: MachTells, walked. Written by tools/gen_mhtells.py. -/
import Derived.Test.YtpnacanbknejiaaGr40
import Derived.Test.YtpnacanbknejiaaMhRrun
import Derived.Test.YtpnacanbknejiaaGr50
namespace Go.Proofs.Ytpnacanbknejiaa.Mh
set_option maxHeartbeats 32000000
set_option maxRecDepth 100000
set_option linter.unusedVariables false
set_option linter.unusedSimpArgs false
open Go.ChangeShapes Go.WideShapes Go.ChangeAt Go.RowKit Lg Lr Fl
theorem loadM_len {m : Int} {l : List Int} : (loadM m l).1.length ≤ l.length := by
 unfold loadM
 split
 ·exact Nat.zero_le _
 ·split
  ·rw [List.length_map,List.length_range]; omega
  ·exact Nat.zero_le _
theorem tells_law (B : Nat) (l : List Int) (sb : Value) (pr : Int) (pa : Option Addr) (m ca : Nat) (T : Nat → Int) (ws : List Int) (aa : List (List Int)) (gv : Value) (mode most : Int) (w : World) (hB : B ≤ w.heap.size) (hby : BysW w B l sb) (hl : l.length ≤ 1048576) (hg : GvIs w B ws aa gv) (hT : Tb.I64 T) (hsum : sumL aa ≤ 1048576) (haa : aa.length ≤ 1048576) :
  Calls Try.prog 6 #[.agg #[sb,.int .i64 pr,.slice pa m ca],.agg (Tb.tabA T),gv,.int .i64 mode,.int .i64 most] w fun r w' => r = .returned (.bool true) ∧ Below w.heap.size w w' := by
 obtain ⟨g1,g2,rfl,hgi,hga⟩ := id hg
 obtain ⟨p4,n4,c4,rfl⟩ := hgi.slice
 obtain ⟨p5,n5,c5,rfl⟩ := hga.slice
 obtain ⟨psb,csb,rfl,hcsb,hbb,hby0⟩ := id hby
 obtain ⟨nb,hnb⟩ : ∃ y,l.length = y := ⟨_,rfl⟩
 rw [hnb] at hl ⊢
 obtain ⟨w1,hw1⟩ : ∃ y,w.alloc (.cells #[.slice psb nb csb,.int .i64 pr,.slice pa m ca] 66) = y := ⟨_,rfl⟩
 obtain ⟨w2,hw2⟩ : ∃ y,w1.alloc (.cells (Tb.tabA T) 29) = y := ⟨_,rfl⟩
 obtain ⟨w3,hw3⟩ : ∃ y,w2.alloc (.cells #[.slice p4 n4 c4,.slice p5 n5 c5] 33) = y := ⟨_,rfl⟩
 obtain ⟨X,hX⟩ : ∃ y,w.heap.size = y := ⟨_,rfl⟩
 obtain ⟨TB,hTB⟩ : ∃ y,w1.heap.size = y := ⟨_,rfl⟩
 obtain ⟨G,hG⟩ : ∃ y,w2.heap.size = y := ⟨_,rfl⟩
 have b1 : Below w.heap.size w w1 := by rw [← hw1]; exact (Below.refl _ _).alloc (Nat.le_refl _) _
 have b2 : Below w1.heap.size w1 w2 := by rw [← hw2]; exact (Below.refl _ _).alloc (Nat.le_refl _) _
 have b3 : Below w2.heap.size w2 w3 := by rw [← hw3]; exact (Below.refl _ _).alloc (Nat.le_refl _) _
 have b23 := b2.trans (b3.mono b2.size)
 have b13 := b1.trans (b23.mono b1.size)
 have kX1 : Bk w1 X [.slice psb nb csb,.int .i64 pr,.slice pa m ca] 66 := by rw [← hw1,← hX]; exact Bk.new _ _ _
 have kX := kX1.fs (Fs.of_below (l:=[]) b23) (by simp)
 have kT2 : Tb.Blk w2 TB T := by rw [← hw2,← hTB]; exact Tb.blk_alloc w1 T
 have kT : Tb.Blk w3 TB T := kT2.below b3 kT2.lt
 have kG : Bk w3 G [.slice p4 n4 c4,.slice p5 n5 c5] 33 := by rw [← hw3,← hG]; exact Bk.new _ _ _
 have HB3 := keep b13
 have HBx : Hid (∀ W,Below w3.heap.size w3 W → Bk W X [.slice psb nb csb,.int .i64 pr,.slice pa m ca] 66 ∧ Tb.Blk W TB T ∧ Bk W G [.slice p4 n4 c4,.slice p5 n5 c5] 33) := fun W hW => ⟨kX.fs (Fs.of_below (l:=[]) hW) (by simp),kT.below hW kT.lt,kG.fs (Fs.of_below (l:=[]) hW) (by simp)⟩
 have HBw : Hid (∀ W,Below w3.heap.size w3 W → Below w.heap.size w W) := fun W hW' => b13.trans (hW'.mono b13.size)
 have HGv : Hid (∀ W,Below w3.heap.size w3 W → GvIs W B ws aa (.agg #[.slice p4 n4 c4,.slice p5 n5 c5])) := fun W hW => hg.below ((b13.trans (hW.mono b13.size)).mono hB)
 have HBB : Hid (∀ W,Below w3.heap.size w3 W → B ≤ W.heap.size) := fun W hW => Nat.le_trans hB (Nat.le_trans b13.size hW.size)
 have HBys : Hid (∀ W,Below w3.heap.size w3 W → BysW W B l (.slice psb nb csb)) := fun W hW => by rw [← hnb]; exact hby.below ((b13.trans (hW.mono b13.size)).mono hB)
 have HNb : Hid (l.length ≤ 1048576) := by show _ ≤ _; rw [hnb]; exact hl
 have HW1 := keep hw1
 have HW2 := keep hw2
 have HW3 := keep hw3
 have HX := keep hX
 have HTB := keep hTB
 have HG := keep hG
 have HTI := keep hT
 have HSum := keep hsum
 have HAa := keep haa
 clear hw1 hw2 hw3 hX hTB hG b1 b2 b3 b23 b13 kX1 kX kT2 kT kG hg hgi hga hby hby0 hcsb hbb hl hnb hT hB hsum haa
 have HL1 := keep (load_any B l (.slice psb nb csb) pr pa m ca w3 (HBB.out w3 (Below.refl _ _)) (HBys.out w3 (Below.refl _ _)) HNb.out)
 obtain ⟨q1,q2,q3⟩ := HBx.out w3 (Below.refl _ _)
 have x0 := q1.cell 0 rfl
 have x1 := q1.cell 1 rfl
 have x2 := q1.cell 2 rfl
 clear q1 q2 q3
 go_enter Try.func6,Try.ntmps6
 go_wp2_with (first | rw [HW1.out] | rw [HW2.out] | rw [HW3.out] | rw [HX.out] | rw [HTB.out] | rw [HG.out] | fail)
 refine HL1.out.mono ?_
 rintro r wa ⟨v1,lo1,rfl,hlo1,hlo2,hrow1,hba⟩
 obtain ⟨code,hcode⟩ : ∃ y,(loadM (m : Int) l).1 = y := ⟨_,rfl⟩
 obtain ⟨e0,he0⟩ : ∃ y,(loadM (m : Int) l).2 = y := ⟨_,rfl⟩
 have HLen : Hid (code.length ≤ 1048576) := by show _ ≤ _; rw [← hcode]; have h1 := loadM_len (m:=(m : Int)) (l:=l); have h2 := HNb.out; omega
 have HCode := keep hcode
 have HE0 := keep he0
 rw [hcode] at hrow1
 rw [he0]
 have HC1 := keep (rowX_code hrow1 (by have := HLen.out; omega))
 obtain ⟨p1,n1,c1,rfl⟩ := RowX.slice hrow1
 obtain rfl : n1 = code.length := RowX.len hrow1
 obtain ⟨nn,hnn⟩ : ∃ y,code.length = y := ⟨_,rfl⟩
 have HNn := keep hnn
 rw [hnn] at HC1 ⊢
 have HBa := keep hba
 have HL2 := keep (rload_any B l (.slice psb nb csb) pr pa m ca wa (HBB.out wa hba) (HBys.out wa hba) HNb.out)
 obtain ⟨q1,q2,q3⟩ := HBx.out wa hba
 clear x0 x1 x2 HL1 hlo1 hlo2 hrow1 hba hcode he0 hnn
 have x0 := q1.cell 0 rfl
 have x1 := q1.cell 1 rfl
 have x2 := q1.cell 2 rfl
 clear q1 q2 q3
 go_wp2_with fail
 refine HL2.out.mono ?_
 rintro r wb ⟨v2,lo2,rfl,hlo1,hlo2,hrow2,hbb⟩
 rw [HCode.out] at hrow2
 rw [HE0.out]
 have HC2 := keep (rowX_code hrow2 (by have := HLen.out; omega))
 obtain ⟨p2,n2,c2,rfl⟩ := RowX.slice hrow2
 obtain rfl : n2 = code.length := RowX.len hrow2
 rw [HNn.out] at HC2 ⊢
 have HBb := keep (HBa.out.trans (hbb.mono HBa.out.size))
 have HC1b := keep ((HC1.out.below hbb).mono hbb.size)
 clear x0 x1 x2 HL2 hlo1 hlo2 hrow2 hbb HC1
 go_wp2_with fail
 go_loopw [38] (fun i wx => ∃ j : Nat,j ≤ nn ∧ i = .int .i64 (j : Int) ∧ Below wb.heap.size wb wx) (fun i _ => nn - (intOf i).toNat)
 case atStart => exact ⟨0,by omega,rfl,Below.refl _ _⟩
 case round =>
  obtain ⟨j,hjn,rfl,hbx⟩ := hrel
  have HX2 := keep hbx
  by_cases hjl : j < nn
  ·have d1 : decide ((j : Int) < (nn : Int)) = true := decide_eq_true (by omega)
   have hjz : (j : Int) < (nn : Int) := by omega
   have hj0 : (0 : Int) ≤ (j : Int) := by omega
   have hwr : IntKind.i64.wrap ((j : Int) + 1) = (j : Int) + 1 := by rw [IntKind.wrap_i64]; have := HLen.out; have := HNn.out; omega
   obtain ⟨t,hl⟩ : ∃ t,code[j]? = some t := ⟨_,List.getElem?_eq_getElem (by rw [HNn.out]; exact hjl)⟩
   have i2 := HC1b.out.below hbx
   have i3 := (HC2.out.below hbx)
   obtain ⟨g,o,rfl,_,hx⟩ := codes_at i2 hl
   obtain ⟨g',o',rfl,_,hx'⟩ := codes_at i3 hl
   obtain ⟨op,d,a,b,c,imm⟩ := t
   have HSS : Hid (∀ W',Below wr.heap.size wr W' → W'.cell? ⟨g,o + j * 6,none⟩ = some (.int .i64 op) ∧ W'.cell? ⟨g,o + j * 6 + 1,none⟩ = some (.int .i64 d) ∧ W'.cell? ⟨g,o + j * 6 + 2,none⟩ = some (.int .i64 a) ∧ W'.cell? ⟨g,o + j * 6 + 3,none⟩ = some (.int .i64 b) ∧ W'.cell? ⟨g,o + j * 6 + 4,none⟩ = some (.int .i64 c) ∧ W'.cell? ⟨g,o + j * 6 + 5,none⟩ = some (.int .i64 imm) ∧ W'.cell? ⟨g',o' + j * 6,none⟩ = some (.int .i64 op) ∧ W'.cell? ⟨g',o' + j * 6 + 1,none⟩ = some (.int .i64 d) ∧ W'.cell? ⟨g',o' + j * 6 + 2,none⟩ = some (.int .i64 a) ∧ W'.cell? ⟨g',o' + j * 6 + 3,none⟩ = some (.int .i64 b) ∧ W'.cell? ⟨g',o' + j * 6 + 4,none⟩ = some (.int .i64 c) ∧ W'.cell? ⟨g',o' + j * 6 + 5,none⟩ = some (.int .i64 imm)) := fun W' hW => ⟨keep_cell hW hx.c0,keep_cell hW hx.c1,keep_cell hW hx.c2,keep_cell hW hx.c3,keep_cell hW hx.c4,keep_cell hW hx.c5,keep_cell hW hx'.c0,keep_cell hW hx'.c1,keep_cell hW hx'.c2,keep_cell hW hx'.c3,keep_cell hW hx'.c4,keep_cell hW hx'.c5⟩
   clear hx hx' i2 i3 hl hbx
   go_wp2_with fail
   refine wp_region_noPanic ?_
   refine Ord.wpM_begin (fun W' : World => W'.cell? ⟨g,o + j * 6,none⟩ = some (.int .i64 op) ∧ W'.cell? ⟨g,o + j * 6 + 1,none⟩ = some (.int .i64 d) ∧ W'.cell? ⟨g,o + j * 6 + 2,none⟩ = some (.int .i64 a) ∧ W'.cell? ⟨g,o + j * 6 + 3,none⟩ = some (.int .i64 b) ∧ W'.cell? ⟨g,o + j * 6 + 4,none⟩ = some (.int .i64 c) ∧ W'.cell? ⟨g,o + j * 6 + 5,none⟩ = some (.int .i64 imm) ∧ W'.cell? ⟨g',o' + j * 6,none⟩ = some (.int .i64 op) ∧ W'.cell? ⟨g',o' + j * 6 + 1,none⟩ = some (.int .i64 d) ∧ W'.cell? ⟨g',o' + j * 6 + 2,none⟩ = some (.int .i64 a) ∧ W'.cell? ⟨g',o' + j * 6 + 3,none⟩ = some (.int .i64 b) ∧ W'.cell? ⟨g',o' + j * 6 + 4,none⟩ = some (.int .i64 c) ∧ W'.cell? ⟨g',o' + j * 6 + 5,none⟩ = some (.int .i64 imm)) [0,1,2,3,4,5,6,7,8] (by kernel_rfl) ?_
   have HD : Hid (Below wr.heap.size wr wr.drew) := Below.drew (Below.refl _ _)
   generalize wr.drew = wd at *
   have hS := HSS.out wd HD.out
   refine Ord.tk (i:=0) (v:=.slice (some ⟨g,o,none⟩) nn c1) (hy:=Or.inl ⟨by rfl,by rintro W' ⟨q0,q1,q2,q3,q4,q5,q6,q7,q8,q9,q10,q11⟩; go_simp⟩) (hS:=hS) (h:=?_)
   try simp only [Act.put,Ord.t,Ord.z,Ord.s]
   refine Ord.tk (i:=1) (v:=.int .i64 (j : Int)) (hy:=Or.inl ⟨by rfl,by rintro W' ⟨q0,q1,q2,q3,q4,q5,q6,q7,q8,q9,q10,q11⟩; go_simp⟩) (hS:=hS) (h:=?_)
   try simp only [Act.put,Ord.t,Ord.z,Ord.s]
   refine Ord.tk (i:=2) (v:=.pointer (some ⟨g,o + j * 6,none⟩)) (hy:=Or.inl ⟨by rfl,by rintro W' ⟨q0,q1,q2,q3,q4,q5,q6,q7,q8,q9,q10,q11⟩; go_simp⟩) (hS:=hS) (h:=?_)
   try simp only [Act.put,Ord.t,Ord.z,Ord.s]
   refine Ord.tk (i:=3) (v:=.agg #[.int .i64 op,.int .i64 d,.int .i64 a,.int .i64 b,.int .i64 c,.int .i64 imm]) (hy:=Or.inl ⟨by rfl,by rintro W' ⟨q0,q1,q2,q3,q4,q5,q6,q7,q8,q9,q10,q11⟩; go_simp⟩) (hS:=hS) (h:=?_)
   try simp only [Act.put,Ord.t,Ord.z,Ord.s]
   refine Ord.tk (i:=4) (v:=.slice (some ⟨g',o',none⟩) nn c2) (hy:=Or.inl ⟨by rfl,by rintro W' ⟨q0,q1,q2,q3,q4,q5,q6,q7,q8,q9,q10,q11⟩; go_simp⟩) (hS:=hS) (h:=?_)
   try simp only [Act.put,Ord.t,Ord.z,Ord.s]
   refine Ord.tk (i:=5) (v:=.int .i64 (j : Int)) (hy:=Or.inl ⟨by rfl,by rintro W' ⟨q0,q1,q2,q3,q4,q5,q6,q7,q8,q9,q10,q11⟩; go_simp⟩) (hS:=hS) (h:=?_)
   try simp only [Act.put,Ord.t,Ord.z,Ord.s]
   refine Ord.tk (i:=6) (v:=.pointer (some ⟨g',o' + j * 6,none⟩)) (hy:=Or.inl ⟨by rfl,by rintro W' ⟨q0,q1,q2,q3,q4,q5,q6,q7,q8,q9,q10,q11⟩; go_simp⟩) (hS:=hS) (h:=?_)
   try simp only [Act.put,Ord.t,Ord.z,Ord.s]
   refine Ord.tk (i:=7) (v:=.agg #[.int .i64 op,.int .i64 d,.int .i64 a,.int .i64 b,.int .i64 c,.int .i64 imm]) (hy:=Or.inl ⟨by rfl,by rintro W' ⟨q0,q1,q2,q3,q4,q5,q6,q7,q8,q9,q10,q11⟩; go_simp⟩) (hS:=hS) (h:=?_)
   try simp only [Act.put,Ord.t,Ord.z,Ord.s]
   refine Ord.tk (i:=8) (v:=.bool false) (hy:=Or.inl ⟨by rfl,by rintro W' ⟨q0,q1,q2,q3,q4,q5,q6,q7,q8,q9,q10,q11⟩; go_simp⟩) (hS:=hS) (h:=?_)
   try simp only [Act.put,Ord.t,Ord.z,Ord.s]
   refine Ord.wpM_done (by kernel_rfl) ?_ _
   refine NoPanic.normal ?_
   clear HSS hS
   go_wp2
   go_roundw
   case rel => exact ⟨j + 1,by omega,by go_num,HX2.out.trans (HD.out.mono HX2.out.size)⟩
   case measure => simp [intOf]; omega
  ·have hje : j = nn := by omega
   have dl : decide ((j : Int) < (nn : Int)) = false := decide_eq_false (by omega)
   have HBr := keep (HBb.out.trans (hbx.mono HBb.out.size))
   clear hjl hbx hjn
   obtain ⟨z,hz⟩ : ∃ z,Tb.wrongT T = z := ⟨_,rfl⟩
   have HWr := keep (Rt.wrong_any T HTI.out wr)
   rw [hz] at HWr
   have HZ := keep hz
   have HT4 := keep (HBx.out wr HBr.out).2.1
   clear hz
   go_wp2_with (first | refine Tb.load_want rfl _ rfl TB rfl T HT4.out ?_ | fail)
   refine HWr.out.mono ?_
   rintro r w5 ⟨rfl,hb5⟩
   have HB5 := keep (HBr.out.trans (hb5.mono HBr.out.size))
   clear hb5 HWr HT4
   by_cases hz0 : z = 0
   ·subst hz0
    have HTR := keep (tabR_of HZ.out)
    obtain ⟨q1,q2,q3⟩ := HBx.out w5 HB5.out
    have g0 := q3.cell 0 rfl
    have g1 := q3.cell 1 rfl
    have HWd := keep (words_any B ws aa _ w5 (HBB.out w5 HB5.out) (HGv.out w5 HB5.out) HAa.out)
    obtain ⟨qw,hqw⟩ : ∃ y,wordsB ws aa = y := ⟨_,rfl⟩
    rw [hqw] at HWd
    have HQw := keep hqw
    clear q1 q2 q3 hqw
    go_wp2_with fail
    refine HWd.out.mono ?_
    rintro r w6 ⟨rfl,hb6⟩
    have HB6 := keep (HB5.out.trans (hb6.mono HB5.out.size))
    clear hb6 HWd g0 g1
    obtain ⟨q1,q2,q3⟩ := HBx.out w6 HB6.out
    have x1 := q1.cell 1 rfl
    have x2 := q1.cell 2 rfl
    clear q1 q2 q3
    have HTrue : Hid (Below w.heap.size w w6) := HBw.out w6 HB6.out
    obtain ⟨p1,hp1⟩ : ∃ y,decide (36000 < most) = y := ⟨_,rfl⟩
    obtain ⟨p3,hp3⟩ : ∃ y,decide (pr < 0) = y := ⟨_,rfl⟩
    obtain ⟨p4',hp4⟩ : ∃ y,decide ((100 : Int) < (m : Int)) = y := ⟨_,rfl⟩
    have HP1 := keep hp1
    have HP3 := keep hp3
    have HP4 := keep hp4
    have hcs : qw = false ∨ (qw = true ∧ p1 = true) ∨ (qw = true ∧ p1 = false ∧ p3 = true) ∨ (qw = true ∧ p1 = false ∧ p3 = false ∧ p4' = true) ∨ (qw = true ∧ p1 = false ∧ p3 = false ∧ p4' = false) := by
     cases qw <;> cases p1 <;> cases p3 <;> cases p4' <;> simp
    rcases hcs with rfl | ⟨rfl,rfl⟩ | ⟨rfl,rfl,rfl⟩ | ⟨rfl,rfl,rfl,rfl⟩ | ⟨rfl,rfl,rfl,rfl⟩
    ·go_wp2
     go_ret
     exact ⟨rfl,HTrue.out⟩
    ·go_wp2
     go_ret
     exact ⟨rfl,HTrue.out⟩
    ·go_wp2
     go_ret
     exact ⟨rfl,HTrue.out⟩
    ·go_wp2
     go_ret
     exact ⟨rfl,HTrue.out⟩
    ·have HM : Hid (most ≤ 36000) := by have := of_decide_eq_false HP1.out; show _ ≤ _; omega
     have HAW := keep (wordsB_all HQw.out)
     obtain ⟨R,hR⟩ : ∃ y,ranM T l pr m ws aa mode most = y := ⟨_,rfl⟩
     have HCa := keep (fun W (hW : Below w3.heap.size w3 W) => mran_any B l (.slice psb nb csb) pr pa m ca T ws aa _ mode most W (HBB.out W hW) (HBys.out W hW) HNb.out (HGv.out W hW) HAW.out HTR.out.t7 HM.out HSum.out)
     have HCb := keep (fun W (hW : Below w3.heap.size w3 W) => rran_any B l (.slice psb nb csb) pr pa m ca T ws aa _ mode most W (HBB.out W hW) (HBys.out W hW) HNb.out (HGv.out W hW) HAW.out HTR.out HM.out HSum.out HAa.out)
     rw [hR] at HCa HCb
     clear hR
     have HSS : Hid (∀ W',Below w6.heap.size w6 W' → Tb.Blk W' TB T ∧ W'.cell? ⟨X,0,none⟩ = some (.slice psb nb csb) ∧ W'.cell? ⟨X,1,none⟩ = some (.int .i64 pr) ∧ W'.cell? ⟨X,2,none⟩ = some (.slice pa m ca) ∧ W'.cell? ⟨G,0,none⟩ = some (.slice p4 n4 c4) ∧ W'.cell? ⟨G,1,none⟩ = some (.slice p5 n5 c5)) := fun W' hW => by
      obtain ⟨q1,q2,q3⟩ := HBx.out W' (HB6.out.trans (hW.mono HB6.out.size))
      exact ⟨q2,q1.cell 0 rfl,q1.cell 1 rfl,q1.cell 2 rfl,q3.cell 0 rfl,q3.cell 1 rfl⟩
     go_wp2_with fail
     refine wp_region_noPanic ?_
     refine Ord.wpM_begin (fun W' : World => Tb.Blk W' TB T ∧ W'.cell? ⟨X,0,none⟩ = some (.slice psb nb csb) ∧ W'.cell? ⟨X,1,none⟩ = some (.int .i64 pr) ∧ W'.cell? ⟨X,2,none⟩ = some (.slice pa m ca) ∧ W'.cell? ⟨G,0,none⟩ = some (.slice p4 n4 c4) ∧ W'.cell? ⟨G,1,none⟩ = some (.slice p5 n5 c5)) [0,1,2,3,4,5,6,7,8,9,10,11,12] (by kernel_rfl) ?_
     have HD : Hid (Below w6.heap.size w6 w6.drew) := Below.drew (Below.refl _ _)
     generalize w6.drew = wd at *
     have hS := HSS.out wd HD.out
     refine Ord.tk (i:=0) (v:=.agg #[.slice psb nb csb,.int .i64 pr,.slice pa m ca]) (hy:=Or.inl ⟨by rfl,by rintro W' ⟨q0,q1,q2,q3,q4,q5⟩; go_simp⟩) (hS:=hS) (h:=?_)
     try simp only [Act.put,Ord.t,Ord.z,Ord.s]
     refine Ord.wpM_take (i:=1) (v:=.agg (Tb.tabA T)) (by simp only [List.getElem?_toArray,List.getElem?_cons_zero,List.getElem?_cons_succ]; rfl) (by kernel_rfl) (by kernel_rfl) (by kernel_rfl) (by kernel_rfl) (fun _ _ _ h => h) (tab_yields rfl (.tmp 6) rfl TB rfl T (fun W hW => hW.1)) hS ?_
     try simp only [Act.put,Ord.t,Ord.z,Ord.s]
     refine Ord.tk (i:=2) (v:=.agg #[.slice p4 n4 c4,.slice p5 n5 c5]) (hy:=Or.inl ⟨by rfl,by rintro W' ⟨q0,q1,q2,q3,q4,q5⟩; go_simp⟩) (hS:=hS) (h:=?_)
     try simp only [Act.put,Ord.t,Ord.z,Ord.s]
     refine Ord.tk (i:=3) (v:=.int .i64 mode) (hy:=Or.inl ⟨by rfl,by rintro W' ⟨q0,q1,q2,q3,q4,q5⟩; go_simp⟩) (hS:=hS) (h:=?_)
     try simp only [Act.put,Ord.t,Ord.z,Ord.s]
     refine Ord.tk (i:=4) (v:=.int .i64 most) (hy:=Or.inl ⟨by rfl,by rintro W' ⟨q0,q1,q2,q3,q4,q5⟩; go_simp⟩) (hS:=hS) (h:=?_)
     try simp only [Act.put,Ord.t,Ord.z,Ord.s]
     refine Ord.tk (i:=6) (v:=.agg #[.slice psb nb csb,.int .i64 pr,.slice pa m ca]) (hy:=Or.inl ⟨by rfl,by rintro W' ⟨q0,q1,q2,q3,q4,q5⟩; go_simp⟩) (hS:=hS) (h:=?_)
     try simp only [Act.put,Ord.t,Ord.z,Ord.s]
     refine Ord.wpM_take (i:=7) (v:=.agg (Tb.tabA T)) (by simp only [List.getElem?_toArray,List.getElem?_cons_zero,List.getElem?_cons_succ]; rfl) (by kernel_rfl) (by kernel_rfl) (by kernel_rfl) (by kernel_rfl) (fun _ _ _ h => h) (tab_yields rfl (.tmp 6) rfl TB rfl T (fun W hW => hW.1)) hS ?_
     try simp only [Act.put,Ord.t,Ord.z,Ord.s]
     refine Ord.tk (i:=8) (v:=.agg #[.slice p4 n4 c4,.slice p5 n5 c5]) (hy:=Or.inl ⟨by rfl,by rintro W' ⟨q0,q1,q2,q3,q4,q5⟩; go_simp⟩) (hS:=hS) (h:=?_)
     try simp only [Act.put,Ord.t,Ord.z,Ord.s]
     refine Ord.tk (i:=9) (v:=.int .i64 mode) (hy:=Or.inl ⟨by rfl,by rintro W' ⟨q0,q1,q2,q3,q4,q5⟩; go_simp⟩) (hS:=hS) (h:=?_)
     try simp only [Act.put,Ord.t,Ord.z,Ord.s]
     refine Ord.tk (i:=10) (v:=.int .i64 most) (hy:=Or.inl ⟨by rfl,by rintro W' ⟨q0,q1,q2,q3,q4,q5⟩; go_simp⟩) (hS:=hS) (h:=?_)
     try simp only [Act.put,Ord.t,Ord.z,Ord.s]
     refine Ord.on (i:=5) (h:=fun K hK => ?_)
     go_simp
     refine (HCa.out wd (HB6.out.trans (HD.out.mono HB6.out.size))).mono ?_
     rintro r we ⟨s1,v1,rfl,hst1,hb⟩
     have HST1 := keep hst1
     have HBe := keep (HD.out.trans (hb.mono HD.out.size))
     clear hst1 hb
     go_simp
     refine hK.out _ _ (fun _ => HSS.out we HBe.out) ?_
     clear hK K
     try simp only [Act.put,Ord.t,Ord.z,Ord.s]
     have hS := HSS.out we HBe.out
     refine Ord.on (i:=11) (h:=fun K hK => ?_)
     go_simp
     refine (HCb.out we (HB6.out.trans (HBe.out.mono HB6.out.size))).mono ?_
     rintro r wf ⟨s2,v2,rfl,hst2,hb⟩
     have HST2 := keep hst2
     have Hb := keep hb
     have HBf := keep (HBe.out.trans (hb.mono HBe.out.size))
     clear hst2 hb
     go_simp
     refine hK.out _ _ (fun _ => HSS.out wf HBf.out) ?_
     clear hK K
     try simp only [Act.put,Ord.t,Ord.z,Ord.s]
     obtain ⟨k1,k2⟩ := HST1.out wf [] (Fs.of_below Hb.out) (by simp)
     obtain ⟨k3,k4⟩ := HST2.out wf [] (Fs.refl _ _) (by simp)
     have HSm := keep (sameRan_any wf.heap.size R _ _ _ _ wf (Nat.le_refl _) k1 k2 k3 k4)
     clear k1 k2 k3 k4 hS
     refine Ord.on (i:=12) (h:=fun K hK => ?_)
     go_simp
     refine HSm.out.mono ?_
     rintro r wg ⟨rfl,hb⟩
     have HBg := keep (HBf.out.trans (hb.mono HBf.out.size))
     clear hb HSm
     go_simp
     refine hK.out _ _ (fun _ => HSS.out wg HBg.out) ?_
     clear hK K
     try simp only [Act.put,Ord.t,Ord.z,Ord.s]
     refine Ord.on (i:=13) (h:=fun K hK => ?_)
     go_simp
     refine hK.out _ _ (fun h => absurd h (by decide)) ?_
     clear hK K
     try simp only [Act.put,Ord.t,Ord.z,Ord.s]
     refine Ord.wpM_done (by kernel_rfl) ?_ _
     refine NoPanic.normal ?_
     clear HSS
     go_wp2
     go_ret
     exact ⟨rfl,HBw.out _ (HB6.out.trans (HBg.out.mono HB6.out.size))⟩
   ·have hne : (z != 0) = true := by rw [bne_iff_ne]; exact hz0
    clear hz0 HZ
    go_wp2
    go_ret
    exact ⟨rfl,HBw.out _ HB5.out⟩
end Go.Proofs.Ytpnacanbknejiaa.Mh
