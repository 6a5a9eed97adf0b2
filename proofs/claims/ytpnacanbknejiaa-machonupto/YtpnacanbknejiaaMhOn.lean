/- ON, LESS IS SEEN: MachOn, walked. Written by tools/gen_mhon.py. -/
import Derived.Test.YtpnacanbknejiaaGr50
namespace Go.Proofs.Ytpnacanbknejiaa.Mh
set_option maxHeartbeats 32000000
set_option maxRecDepth 100000
set_option linter.unusedVariables false
set_option linter.unusedSimpArgs false
open Go.ChangeShapes Go.WideShapes Go.ChangeAt Go.RowKit Lg Lr Fl
structure Boxes (R1 R2 : Rn) (w0 wz : World) (RA RB : Nat) (ps1 : Option Addr) (ns1 cs1 : Nat) (pl1 : Option Addr) (cl1 : Nat) (ps2 : Option Addr) (ns2 cs2 : Nat) (pl2 : Option Addr) (cl2 : Nat) : Prop where
 a : Bk wz RA [.int .i64 R1.en.word,.bool R1.en.trap,.slice ps1 ns1 cs1,.int .i64 R1.e,.int .i64 (R1.ls.length : Int),.int .i64 R1.m,.slice pl1 R1.ls.length cl1] 72
 b : Bk wz RB [.int .i64 R2.en.word,.bool R2.en.trap,.slice ps2 ns2 cs2,.int .i64 R2.e,.int .i64 (R2.ls.length : Int),.int .i64 R2.m,.slice pl2 R2.ls.length cl2] 72
 w : Below w0.heap.size w0 wz
 s1 : ∀ W,Below wz.heap.size wz W → ArrsIs W W.heap.size R1.en.arr (.slice ps1 ns1 cs1) ∧ LksIs W W.heap.size R1.ls (.slice pl1 R1.ls.length cl1)
 s2 : ∀ W,Below wz.heap.size wz W → ArrsIs W W.heap.size R2.en.arr (.slice ps2 ns2 cs2) ∧ LksIs W W.heap.size R2.ls (.slice pl2 R2.ls.length cl2)
theorem one_tail {F G : World → Nat → Nat → Option Addr → Nat → Nat → Option Addr → Nat → Option Addr → Nat → Nat → Option Addr → Nat → Prop} {R : Prop} (region : (∀ a b c d e f g h i j k l m,F a b c d e f g h i j k l m → G a b c d e f g h i j k l m) → R) (tail : ∀ a b c d e f g h i j k l m,F a b c d e f g h i j k l m → G a b c d e f g h i j k l m) : R := region tail
theorem on_law (B : Nat) (l : List Int) (sb : Value) (pr : Int) (pa : Option Addr) (m ca : Nat) (T : Nat → Int) (ws : List Int) (aa : List (List Int)) (gv : Value) (most : Int) (w : World) (hB : B ≤ w.heap.size) (hby : BysW w B l sb) (hl : l.length ≤ 1048576) (hg : GvIs w B ws aa gv) (hT : Tb.I64 T) (hsum : sumL aa ≤ 1048576) (haa : aa.length ≤ 1048576) :
  Calls Try.prog 8 #[.agg #[sb,.int .i64 pr,.slice pa m ca],.agg (Tb.tabA T),gv,.int .i64 most] w fun r w' => r = .returned (.bool true) ∧ Below w.heap.size w w' := by
 obtain ⟨g1,g2,rfl,hgi,hga⟩ := id hg
 obtain ⟨p4,n4,c4,rfl⟩ := hgi.slice
 obtain ⟨p5,n5,c5,rfl⟩ := hga.slice
 obtain ⟨psb,csb,rfl,hcsb,hbb,hby0⟩ := id hby
 obtain ⟨nb,hnb⟩ : ∃ y,l.length = y := ⟨_,rfl⟩
 rw [hnb] at hl ⊢
 obtain ⟨w1,hw1⟩ : ∃ y,w.alloc (.cells #[.slice psb nb csb,.int .i64 pr,.slice pa m ca] 66) = y := ⟨_,rfl⟩
 obtain ⟨w2,hw2⟩ : ∃ y,w1.alloc (.cells (Tb.tabA T) 29) = y := ⟨_,rfl⟩
 obtain ⟨w3,hw3⟩ : ∃ y,w2.alloc (.cells #[.slice p4 n4 c4,.slice p5 n5 c5] 33) = y := ⟨_,rfl⟩
 obtain ⟨X,hX⟩ : ∃ y,w.heap.size = y := ⟨_,rfl⟩
 obtain ⟨TB,hTB⟩ : ∃ y,w1.heap.size = y := ⟨_,rfl⟩
 obtain ⟨G,hG⟩ : ∃ y,w2.heap.size = y := ⟨_,rfl⟩
 have b1 : Below w.heap.size w w1 := by rw [← hw1]; exact (Below.refl _ _).alloc (Nat.le_refl _) _
 have b2 : Below w1.heap.size w1 w2 := by rw [← hw2]; exact (Below.refl _ _).alloc (Nat.le_refl _) _
 have b3 : Below w2.heap.size w2 w3 := by rw [← hw3]; exact (Below.refl _ _).alloc (Nat.le_refl _) _
 have b23 := b2.trans (b3.mono b2.size)
 have b13 := b1.trans (b23.mono b1.size)
 have kX1 : Bk w1 X [.slice psb nb csb,.int .i64 pr,.slice pa m ca] 66 := by rw [← hw1,← hX]; exact Bk.new _ _ _
 have kX := kX1.fs (Fs.of_below (l:=[]) b23) (by simp)
 have kT2 : Tb.Blk w2 TB T := by rw [← hw2,← hTB]; exact Tb.blk_alloc w1 T
 have kT : Tb.Blk w3 TB T := kT2.below b3 kT2.lt
 have kG : Bk w3 G [.slice p4 n4 c4,.slice p5 n5 c5] 33 := by rw [← hw3,← hG]; exact Bk.new _ _ _
 have HB3 := keep b13
 have HBx : Hid (∀ W,Below w3.heap.size w3 W → Bk W X [.slice psb nb csb,.int .i64 pr,.slice pa m ca] 66 ∧ Tb.Blk W TB T ∧ Bk W G [.slice p4 n4 c4,.slice p5 n5 c5] 33) := fun W hW => ⟨kX.fs (Fs.of_below (l:=[]) hW) (by simp),kT.below hW kT.lt,kG.fs (Fs.of_below (l:=[]) hW) (by simp)⟩
 have HBw : Hid (∀ W,Below w3.heap.size w3 W → Below w.heap.size w W) := fun W hW' => b13.trans (hW'.mono b13.size)
 have HGv : Hid (∀ W,Below w3.heap.size w3 W → GvIs W B ws aa (.agg #[.slice p4 n4 c4,.slice p5 n5 c5])) := fun W hW => hg.below ((b13.trans (hW.mono b13.size)).mono hB)
 have HBB : Hid (∀ W,Below w3.heap.size w3 W → B ≤ W.heap.size) := fun W hW => Nat.le_trans hB (Nat.le_trans b13.size hW.size)
 have HBys : Hid (∀ W,Below w3.heap.size w3 W → BysW W B l (.slice psb nb csb)) := fun W hW => by rw [← hnb]; exact hby.below ((b13.trans (hW.mono b13.size)).mono hB)
 have HNb : Hid (l.length ≤ 1048576) := by show _ ≤ _; rw [hnb]; exact hl
 have HW1 := keep hw1
 have HW2 := keep hw2
 have HW3 := keep hw3
 have HX := keep hX
 have HTB := keep hTB
 have HG := keep hG
 have HTI := keep hT
 have HSum := keep hsum
 have HAa := keep haa
 have HAl := keep (alive_any w3)
 clear hw1 hw2 hw3 hX hTB hG b1 b2 b3 b23 b13 kX1 kX kT2 kT kG hg hgi hga hby hby0 hcsb hbb hl hnb hT hB hsum haa
 go_enter Try.func8,Try.ntmps8
 go_wp2_with (first | rw [HW1.out] | rw [HW2.out] | rw [HW3.out] | rw [HX.out] | rw [HTB.out] | rw [HG.out] | fail)
 refine HAl.out.mono ?_
 rintro r w4 ⟨rfl,hb4⟩
 have HB4 := keep hb4
 clear hb4 HAl
 obtain ⟨z,hz⟩ : ∃ z,Tb.wrongT T = z := ⟨_,rfl⟩
 have HWr := keep (Rt.wrong_any T HTI.out w4)
 rw [hz] at HWr
 have HZ := keep hz
 have HT4 := keep (HBx.out w4 HB4.out).2.1
 clear hz
 go_wp2_with (first | refine Tb.load_want rfl _ rfl TB rfl T HT4.out ?_ | fail)
 refine HWr.out.mono ?_
 rintro r w5 ⟨rfl,hb5⟩
 have HB5 := keep (HB4.out.trans (hb5.mono HB4.out.size))
 clear hb5 HWr HT4
 by_cases hz0 : z = 0
 ·subst hz0
  have HTR := keep (tabR_of HZ.out)
  obtain ⟨q1,q2,q3⟩ := HBx.out w5 HB5.out
  have g0 := q3.cell 0 rfl
  have g1 := q3.cell 1 rfl
  have HWd := keep (words_any B ws aa _ w5 (HBB.out w5 HB5.out) (HGv.out w5 HB5.out) HAa.out)
  obtain ⟨qw,hqw⟩ : ∃ y,wordsB ws aa = y := ⟨_,rfl⟩
  rw [hqw] at HWd
  have HQw := keep hqw
  clear q1 q2 q3 hqw
  go_wp2_with fail
  refine HWd.out.mono ?_
  rintro r w6 ⟨rfl,hb6⟩
  have HB6 := keep (HB5.out.trans (hb6.mono HB5.out.size))
  clear hb6 HWd g0 g1
  obtain ⟨q1,q2,q3⟩ := HBx.out w6 HB6.out
  have x1 := q1.cell 1 rfl
  have x2 := q1.cell 2 rfl
  clear q1 q2 q3
  have HTrue : Hid (Below w.heap.size w w6) := HBw.out w6 HB6.out
  obtain ⟨p1,hp1⟩ : ∃ y,decide (36000 < most) = y := ⟨_,rfl⟩
  obtain ⟨p3,hp3⟩ : ∃ y,decide (pr < 0) = y := ⟨_,rfl⟩
  obtain ⟨p4',hp4⟩ : ∃ y,decide ((100 : Int) < (m : Int)) = y := ⟨_,rfl⟩
  have HP1 := keep hp1
  have HP3 := keep hp3
  have HP4 := keep hp4
  have hcs : qw = false ∨ (qw = true ∧ p1 = true) ∨ (qw = true ∧ p1 = false ∧ p3 = true) ∨ (qw = true ∧ p1 = false ∧ p3 = false ∧ p4' = true) ∨ (qw = true ∧ p1 = false ∧ p3 = false ∧ p4' = false) := by
   cases qw <;> cases p1 <;> cases p3 <;> cases p4' <;> simp
  rcases hcs with rfl | ⟨rfl,rfl⟩ | ⟨rfl,rfl,rfl⟩ | ⟨rfl,rfl,rfl,rfl⟩ | ⟨rfl,rfl,rfl,rfl⟩
  ·go_wp2
   go_ret
   exact ⟨rfl,HTrue.out⟩
  ·go_wp2
   go_ret
   exact ⟨rfl,HTrue.out⟩
  ·go_wp2
   go_ret
   exact ⟨rfl,HTrue.out⟩
  ·go_wp2
   go_ret
   exact ⟨rfl,HTrue.out⟩
  ·have HM : Hid (most ≤ 36000) := by have := of_decide_eq_false HP1.out; show _ ≤ _; omega
   have HAW := keep (wordsB_all HQw.out)
   have HL1 := keep (load_any B l (.slice psb nb csb) pr pa m ca w6 (HBB.out w6 HB6.out) (HBys.out w6 HB6.out) HNb.out)
   have x0 := (HBx.out w6 HB6.out).1.cell 0 rfl
   go_wp2_with fail
   refine HL1.out.mono ?_
   rintro r wb ⟨v1,lo1,rfl,hlo1,hlo2,hrow1,hbb⟩
   obtain ⟨code,hcode⟩ : ∃ y,(loadM (m : Int) l).1 = y := ⟨_,rfl⟩
   obtain ⟨e0,he0⟩ : ∃ y,(loadM (m : Int) l).2 = y := ⟨_,rfl⟩
   have HLen : Hid (code.length ≤ 1048576) := by show _ ≤ _; rw [← hcode]; have h1 := loadM_len (m:=(m : Int)) (l:=l); have h2 := HNb.out; omega
   have HCode := keep hcode
   have HE0 := keep he0
   rw [hcode] at hrow1
   rw [he0]
   have HC1 := keep (rowX_code hrow1 (by have := HLen.out; omega))
   obtain ⟨p1',n1,c1,rfl⟩ := RowX.slice hrow1
   obtain rfl : n1 = code.length := RowX.len hrow1
   obtain ⟨nn,hnn⟩ : ∃ y,code.length = y := ⟨_,rfl⟩
   have HNn := keep hnn
   rw [hnn] at HC1 ⊢
   have HBb := keep (HB6.out.trans (hbb.mono HB6.out.size))
   clear x0 x1 x2 HL1 hlo1 hlo2 hrow1 hbb hcode he0 hnn
   by_cases h0 : e0 = 0
   ·subst h0
    go_wp2_with fail
    go_loopw [57] (fun i wx => ∃ j : Nat,j ≤ nn ∧ i = .int .i64 (j : Int) ∧ (∀ (k : Nat) (x : Ix),k < j → code[k]? = some x → x.op ≠ 22 ∧ x.op ≠ 23) ∧ Below wb.heap.size wb wx) (fun i _ => nn - (intOf i).toNat)
    case atStart => exact ⟨0,by omega,rfl,fun k x hk => by omega,Below.refl _ _⟩
    case round =>
     obtain ⟨j,hjn,rfl,hno,hbx⟩ := hrel
     have HX2 := keep hbx
     have HNo := keep hno
     clear hno
     by_cases hjl : j < nn
     ·have d1 : decide ((j : Int) < (nn : Int)) = true := decide_eq_true (by omega)
      have hjz : (j : Int) < (nn : Int) := by omega
      have hj0 : (0 : Int) ≤ (j : Int) := by omega
      have hwr : IntKind.i64.wrap ((j : Int) + 1) = (j : Int) + 1 := by rw [IntKind.wrap_i64]; have := HLen.out; have := HNn.out; omega
      obtain ⟨t,hl⟩ : ∃ t,code[j]? = some t := ⟨_,List.getElem?_eq_getElem (by rw [HNn.out]; exact hjl)⟩
      have HTl := keep hl
      have i2 := HC1.out.below hbx
      obtain ⟨g,o,rfl,_,hix⟩ := codes_at i2 hl
      obtain ⟨op,d,a,b,c,imm⟩ := t
      have z0 := hix.c0
      have z1 := hix.c1
      have z2 := hix.c2
      have z3 := hix.c3
      have z4 := hix.c4
      have z5 := hix.c5
      dsimp only at z0 z1 z2 z3 z4 z5
      obtain ⟨wA,hwA⟩ : ∃ y,wr.alloc (.cells #[.int .i64 op,.int .i64 d,.int .i64 a,.int .i64 b,.int .i64 c,.int .i64 imm] 35) = y := ⟨_,rfl⟩
      obtain ⟨IB,hIB⟩ : ∃ y,wr.heap.size = y := ⟨_,rfl⟩
      have bA : Below wr.heap.size wr wA := by rw [← hwA]; exact (Below.refl _ _).alloc (Nat.le_refl _) _
      have kI : Bk wA IB [.int .i64 op,.int .i64 d,.int .i64 a,.int .i64 b,.int .i64 c,.int .i64 imm] 35 := by rw [← hwA,← hIB]; exact Bk.new _ _ _
      have HBA := keep (HX2.out.trans (bA.mono HX2.out.size))
      have y0 := kI.cell 0 rfl
      have HWA := keep hwA
      have HIB := keep hIB
      clear i2 hix hl hbx hwA hIB bA kI
      by_cases ho : op = 22 ∨ op = 23
      ·have HRet := keep (HBw.out _ (HBb.out.trans (HBA.out.mono HBb.out.size)))
       rcases ho with rfl | rfl
       ·go_wp2_with (first | rw [HWA.out,HIB.out] | fail)
        go_ret
        exact ⟨rfl,HRet.out⟩
       ·go_wp2_with (first | rw [HWA.out,HIB.out] | fail)
        go_ret
        exact ⟨rfl,HRet.out⟩
      ·have k22 : (op == 22) = false := by have : op ≠ 22 := fun e => ho (.inl e); simpa using this
       have k23 : (op == 23) = false := by have : op ≠ 23 := fun e => ho (.inr e); simpa using this
       have HOp : Hid (∀ (k : Nat) (x : Ix),k < j + 1 → code[k]? = some x → x.op ≠ 22 ∧ x.op ≠ 23) := fun k x hk hx => by
        by_cases e : k = j
        ·subst e
         rw [HTl.out] at hx
         cases hx
         exact ⟨fun e => ho (.inl e),fun e => ho (.inr e)⟩
        ·exact HNo.out k x (by omega) hx
       clear ho
       go_wp2_with (first | rw [HWA.out,HIB.out] | fail)
       go_roundw
       case rel => exact ⟨j + 1,by omega,by go_num,HOp.out,HBA.out⟩
       case measure => simp [intOf]; omega
     ·have hje : j = nn := by omega
      have dl : decide ((j : Int) < (nn : Int)) = false := decide_eq_false (by omega)
      have HBr := keep (HBb.out.trans (hbx.mono HBb.out.size))
      have HNot : Hid (∀ x ∈ code,x.op ≠ 22 ∧ x.op ≠ 23) := fun x hx => by
       obtain ⟨k,hk⟩ := List.getElem?_of_mem hx
       exact HNo.out k x (by have := (List.getElem?_eq_some_iff.1 hk).1; rw [HNn.out] at this; omega) hk
      clear hjl hbx hjn
      obtain ⟨R1,hR1⟩ : ∃ y,ranM T l pr m ws aa 0 most = y := ⟨_,rfl⟩
      obtain ⟨R2,hR2⟩ : ∃ y,ranM T l pr m ws aa 1 most = y := ⟨_,rfl⟩
      have HR1 := keep hR1
      have HR2 := keep hR2
      have HC1 := keep (fun W (hW : Below w3.heap.size w3 W) => mran_any B l (.slice psb nb csb) pr pa m ca T ws aa _ 0 most W (HBB.out W hW) (HBys.out W hW) HNb.out (HGv.out W hW) HAW.out HTR.out.t7 HM.out HSum.out)
      have HC2 := keep (fun W (hW : Below w3.heap.size w3 W) => mran_any B l (.slice psb nb csb) pr pa m ca T ws aa _ 1 most W (HBB.out W hW) (HBys.out W hW) HNb.out (HGv.out W hW) HAW.out HTR.out.t7 HM.out HSum.out)
      rw [hR1] at HC1
      rw [hR2] at HC2
      clear hR1 hR2
      have HSS : Hid (∀ W',Below wr.heap.size wr W' → Tb.Blk W' TB T ∧ W'.cell? ⟨X,0,none⟩ = some (.slice psb nb csb) ∧ W'.cell? ⟨X,1,none⟩ = some (.int .i64 pr) ∧ W'.cell? ⟨X,2,none⟩ = some (.slice pa m ca) ∧ W'.cell? ⟨G,0,none⟩ = some (.slice p4 n4 c4) ∧ W'.cell? ⟨G,1,none⟩ = some (.slice p5 n5 c5)) := fun W' hW => by
       obtain ⟨q1,q2,q3⟩ := HBx.out W' (HBr.out.trans (hW.mono HBr.out.size))
       exact ⟨q2,q1.cell 0 rfl,q1.cell 1 rfl,q1.cell 2 rfl,q3.cell 0 rfl,q3.cell 1 rfl⟩
      go_wp2_with fail
      apply one_tail (F:=fun wz RA RB ps1 ns1 cs1 pl1 cl1 ps2 ns2 cs2 pl2 cl2 => Boxes R1 R2 wr wz RA RB ps1 ns1 cs1 pl1 cl1 ps2 ns2 cs2 pl2 cl2)
      ·intro hT
       have HTk := keep hT
       clear hT
       refine wp_region_noPanic ?_
       refine Ord.wpM_begin (fun W' : World => Tb.Blk W' TB T ∧ W'.cell? ⟨X,0,none⟩ = some (.slice psb nb csb) ∧ W'.cell? ⟨X,1,none⟩ = some (.int .i64 pr) ∧ W'.cell? ⟨X,2,none⟩ = some (.slice pa m ca) ∧ W'.cell? ⟨G,0,none⟩ = some (.slice p4 n4 c4) ∧ W'.cell? ⟨G,1,none⟩ = some (.slice p5 n5 c5)) [0,1,2,3,4,5,6,7,8,9,10,11,12,13] (by kernel_rfl) ?_
       have HD : Hid (Below wr.heap.size wr wr.drew) := Below.drew (Below.refl _ _)
       generalize wr.drew = wd at *
       have hS := HSS.out wd HD.out
       refine Ord.tk (i:=0) (v:=.agg #[.slice psb nb csb,.int .i64 pr,.slice pa m ca]) (hy:=Or.inl ⟨by rfl,by rintro W' ⟨q0,q1,q2,q3,q4,q5⟩; go_simp⟩) (hS:=hS) (h:=?_)
       try simp only [Act.put,Ord.t,Ord.z,Ord.s]
       refine Ord.wpM_take (i:=1) (v:=.agg (Tb.tabA T)) (by simp only [List.getElem?_toArray,List.getElem?_cons_zero,List.getElem?_cons_succ]; rfl) (by kernel_rfl) (by kernel_rfl) (by kernel_rfl) (by kernel_rfl) (fun _ _ _ h => h) (tab_yields rfl (.tmp 5) rfl TB rfl T (fun W hW => hW.1)) hS ?_
       try simp only [Act.put,Ord.t,Ord.z,Ord.s]
       refine Ord.tk (i:=2) (v:=.agg #[.slice p4 n4 c4,.slice p5 n5 c5]) (hy:=Or.inl ⟨by rfl,by rintro W' ⟨q0,q1,q2,q3,q4,q5⟩; go_simp⟩) (hS:=hS) (h:=?_)
       try simp only [Act.put,Ord.t,Ord.z,Ord.s]
       refine Ord.tk (i:=3) (v:=.int .i64 most) (hy:=Or.inl ⟨by rfl,by rintro W' ⟨q0,q1,q2,q3,q4,q5⟩; go_simp⟩) (hS:=hS) (h:=?_)
       try simp only [Act.put,Ord.t,Ord.z,Ord.s]
       refine Ord.tk (i:=5) (v:=.agg #[.slice psb nb csb,.int .i64 pr,.slice pa m ca]) (hy:=Or.inl ⟨by rfl,by rintro W' ⟨q0,q1,q2,q3,q4,q5⟩; go_simp⟩) (hS:=hS) (h:=?_)
       try simp only [Act.put,Ord.t,Ord.z,Ord.s]
       refine Ord.wpM_take (i:=6) (v:=.agg (Tb.tabA T)) (by simp only [List.getElem?_toArray,List.getElem?_cons_zero,List.getElem?_cons_succ]; rfl) (by kernel_rfl) (by kernel_rfl) (by kernel_rfl) (by kernel_rfl) (fun _ _ _ h => h) (tab_yields rfl (.tmp 5) rfl TB rfl T (fun W hW => hW.1)) hS ?_
       try simp only [Act.put,Ord.t,Ord.z,Ord.s]
       refine Ord.tk (i:=7) (v:=.agg #[.slice p4 n4 c4,.slice p5 n5 c5]) (hy:=Or.inl ⟨by rfl,by rintro W' ⟨q0,q1,q2,q3,q4,q5⟩; go_simp⟩) (hS:=hS) (h:=?_)
       try simp only [Act.put,Ord.t,Ord.z,Ord.s]
       refine Ord.tk (i:=8) (v:=.int .i64 most) (hy:=Or.inl ⟨by rfl,by rintro W' ⟨q0,q1,q2,q3,q4,q5⟩; go_simp⟩) (hS:=hS) (h:=?_)
       try simp only [Act.put,Ord.t,Ord.z,Ord.s]
       refine Ord.wpM_three (i:=4) (j:=10) (k:=11) (by kernel_rfl) (by simp only [List.getElem?_toArray,List.getElem?_cons_zero,List.getElem?_cons_succ]; rfl) (by simp only [List.getElem?_toArray,List.getElem?_cons_zero,List.getElem?_cons_succ]; rfl) (by simp only [List.getElem?_toArray,List.getElem?_cons_zero,List.getElem?_cons_succ]; rfl) (fun K hK => ?_) (fun K hK => ?_) (fun K hK => ?_)
       ·go_simp
        refine (HC1.out wd (HBr.out.trans (HD.out.mono HBr.out.size))).mono ?_
        rintro r u1 ⟨s1,v1,rfl,hst,hb⟩
        obtain ⟨wc1,hwc⟩ : ∃ y,wd = y := ⟨_,rfl⟩
        obtain ⟨we1,hwe⟩ : ∃ y,u1 = y := ⟨_,rfl⟩
        have HST1 := keep hst
        rw [hwc,hwe] at HST1
        have HCE1 : Hid (wc1.heap.size ≤ we1.heap.size) := by show _ ≤ _; rw [← hwc,← hwe]; exact hb.size
        obtain ⟨ps1,ns1,cs1,hs1⟩ := (hst u1 [] (Fs.refl _ _) (by simp)).1.slice
        obtain ⟨pl1,cl1,hv1⟩ := lks_slice (hst u1 [] (Fs.refl _ _) (by simp)).2
        have HB_1 := keep (HD.out.trans (hb.mono HD.out.size))
        have F1_1 : Hid (Fs [] we1 u1) := by show Fs _ _ _; rw [← hwe]; exact Fs.refl _ _
        subst hs1 hv1
        clear hst hb hwc hwe
        go_simp
        refine hK.out _ _ (fun _ => HSS.out u1 HB_1.out) ?_
        clear hK K
        try simp only [Act.put,Ord.t,Ord.z,Ord.s]
        have hS := HSS.out u1 HB_1.out
        refine Ord.wpM_three (i:=9) (j:=10) (k:=11) (by kernel_rfl) (by simp only [List.getElem?_toArray,List.getElem?_cons_zero,List.getElem?_cons_succ]; rfl) (by simp only [List.getElem?_toArray,List.getElem?_cons_zero,List.getElem?_cons_succ]; rfl) (by simp only [List.getElem?_toArray,List.getElem?_cons_zero,List.getElem?_cons_succ]; rfl) (fun K hK => ?_) (fun K hK => ?_) (fun K hK => ?_)
        ·go_simp
         refine (HC2.out u1 (HBr.out.trans (HB_1.out.mono HBr.out.size))).mono ?_
         rintro r u2 ⟨s2,v2,rfl,hst,hb⟩
         obtain ⟨wc2,hwc⟩ : ∃ y,u1 = y := ⟨_,rfl⟩
         obtain ⟨we2,hwe⟩ : ∃ y,u2 = y := ⟨_,rfl⟩
         have HST2 := keep hst
         rw [hwc,hwe] at HST2
         have HCE2 : Hid (wc2.heap.size ≤ we2.heap.size) := by show _ ≤ _; rw [← hwc,← hwe]; exact hb.size
         obtain ⟨ps2,ns2,cs2,hs2⟩ := (hst u2 [] (Fs.refl _ _) (by simp)).1.slice
         obtain ⟨pl2,cl2,hv2⟩ := lks_slice (hst u2 [] (Fs.refl _ _) (by simp)).2
         have HB_2 := keep (HB_1.out.trans (hb.mono HB_1.out.size))
         have F1_3 := keep (F1_1.out.trans (Fs.of_below hb))
         have F2_2 : Hid (Fs [] we2 u2) := by show Fs _ _ _; rw [← hwe]; exact Fs.refl _ _
         subst hs2 hv2
         clear hst hb hwc hwe
         go_simp
         refine hK.out _ _ (fun _ => HSS.out u2 HB_2.out) ?_
         clear hK K
         try simp only [Act.put,Ord.t,Ord.z,Ord.s]
         have hS := HSS.out u2 HB_2.out
         refine Ord.wpM_two (i:=10) (j:=11) (by kernel_rfl) (by simp only [List.getElem?_toArray,List.getElem?_cons_zero,List.getElem?_cons_succ]; rfl) (by simp only [List.getElem?_toArray,List.getElem?_cons_zero,List.getElem?_cons_succ]; rfl) (fun K hK => ?_) (fun K hK => ?_)
         ·obtain ⟨u4,hu4⟩ : ∃ y,u2.alloc (.cells #[.int .i64 0,.bool false,.slice none 0 0,.int .i64 0,.int .i64 0,.int .i64 0,.slice none 0 0] 72) = y := ⟨_,rfl⟩
          obtain ⟨RA,hRA⟩ : ∃ y,u2.heap.size = y := ⟨_,rfl⟩
          have hb : Below u2.heap.size u2 u4 := by rw [← hu4]; exact (Below.refl _ _).alloc (Nat.le_refl _) _
          have A_4 : Hid (Bk u4 RA [.int .i64 0,.bool false,.slice none 0 0,.int .i64 0,.int .i64 0,.int .i64 0,.slice none 0 0] 72) := by show Bk _ _ _ _; rw [← hu4,← hRA]; exact Bk.new _ _ _
          have HB_4 := keep (HB_2.out.trans (hb.mono HB_2.out.size))
          have HRAlo : Hid (wr.heap.size ≤ RA) := by have := HB_2.out.size; show _ ≤ _; omega
          have HRAf1 : Hid (RA < wc1.heap.size ∨ we1.heap.size ≤ RA) := .inr (by have := F1_3.out.size; omega)
          have HRAf2 : Hid (RA < wc2.heap.size ∨ we2.heap.size ≤ RA) := .inr (by have := F2_2.out.size; omega)
          have F1_5 := keep (F1_3.out.trans (Fs.of_below hb))
          have F2_6 := keep (F2_2.out.trans (Fs.of_below hb))
          go_simp
          try rw [hu4]
          try rw [hRA]
          clear hu4 hRA hb
          refine hK.out _ _ (fun _ => HSS.out u4 HB_4.out) ?_
          clear hK K
          try simp only [Act.put,Ord.t,Ord.z,Ord.s]
          have hS := HSS.out u4 HB_4.out
          refine Ord.on (i:=11) (h:=fun K hK => ?_)
          obtain ⟨u7,hu7⟩ : ∃ y,u4.alloc (.cells #[.int .i64 0,.bool false,.slice none 0 0,.int .i64 0,.int .i64 0,.int .i64 0,.slice none 0 0] 72) = y := ⟨_,rfl⟩
          obtain ⟨RB,hRB⟩ : ∃ y,u4.heap.size = y := ⟨_,rfl⟩
          have hb : Below u4.heap.size u4 u7 := by rw [← hu7]; exact (Below.refl _ _).alloc (Nat.le_refl _) _
          have B_7 : Hid (Bk u7 RB [.int .i64 0,.bool false,.slice none 0 0,.int .i64 0,.int .i64 0,.int .i64 0,.slice none 0 0] 72) := by show Bk _ _ _ _; rw [← hu7,← hRB]; exact Bk.new _ _ _
          have HB_7 := keep (HB_4.out.trans (hb.mono HB_4.out.size))
          have HRBlo : Hid (wr.heap.size ≤ RB) := by have := HB_4.out.size; show _ ≤ _; omega
          have HNab : Hid (RA ≠ RB) := by have := A_4.out.lt; show _ ≠ _; omega
          have HRBf1 : Hid (RB < wc1.heap.size ∨ we1.heap.size ≤ RB) := .inr (by have := F1_5.out.size; omega)
          have HRBf2 : Hid (RB < wc2.heap.size ∨ we2.heap.size ≤ RB) := .inr (by have := F2_6.out.size; omega)
          have F1_8 := keep (F1_5.out.trans (Fs.of_below hb))
          have F2_9 := keep (F2_6.out.trans (Fs.of_below hb))
          have A_10 := keep (A_4.out.fs (Fs.of_below (l:=[]) hb) (by simp))
          go_simp
          try rw [hu7]
          try rw [hRB]
          clear hu7 hRB hb
          refine hK.out _ _ (fun _ => HSS.out u7 HB_7.out) ?_
          clear hK K
          try simp only [Act.put,Ord.t,Ord.z,Ord.s]
          have hS := HSS.out u7 HB_7.out
          obtain ⟨ka1,ka2⟩ := set_seven A_10.out (.int .i64 R1.en.word) (.bool R1.en.trap) (.slice ps1 ns1 cs1) (.int .i64 R1.e) (.int .i64 (R1.ls.length : Int)) (.int .i64 R1.m) (.slice pl1 R1.ls.length cl1)
          have KA1 := keep ka1
          have KA2 := keep ka2
          clear ka1 ka2
          have HBa : Hid (Below wr.heap.size wr (u7.setCells RA 0 [.int .i64 R1.en.word,.bool R1.en.trap,.slice ps1 ns1 cs1,.int .i64 R1.e,.int .i64 (R1.ls.length : Int),.int .i64 R1.m,.slice pl1 R1.ls.length cl1])) := HB_7.out.trans (KA2.out.below HB_7.out.size (fun k hk => by simp at hk; have := HRAlo.out; omega))
          refine Ord.on (i:=12) (h:=fun K hK => ?_)
          refine step_store_mid rfl 72 (.tmp 13) (.tmp 74) rfl RA 0 #[.int .i64 R1.en.word,.bool R1.en.trap,.slice ps1 ns1 cs1,.int .i64 R1.e,.int .i64 (R1.ls.length : Int),.int .i64 R1.m,.slice pl1 R1.ls.length cl1] rfl rfl (seven_there A_10.out) (by kernel_rfl) (by simp [Value.oneCell']) ?_
          refine hK.out _ (u7.setCells RA 0 [.int .i64 R1.en.word,.bool R1.en.trap,.slice ps1 ns1 cs1,.int .i64 R1.e,.int .i64 (R1.ls.length : Int),.int .i64 R1.m,.slice pl1 R1.ls.length cl1]) (fun _ => HSS.out _ HBa.out) ?_
          clear hK K
          try simp only [Act.put,Ord.t,Ord.z,Ord.s]
          obtain ⟨wy,hwy⟩ : ∃ y,u7.setCells RA 0 [.int .i64 R1.en.word,.bool R1.en.trap,.slice ps1 ns1 cs1,.int .i64 R1.e,.int .i64 (R1.ls.length : Int),.int .i64 R1.m,.slice pl1 R1.ls.length cl1] = y := ⟨_,rfl⟩
          rw [hwy] at KA1 KA2 HBa ⊢
          clear hwy
          have hB2 := B_7.out.fs KA2.out (by simpa using Ne.symm HNab.out)
          have HB2k := keep hB2
          obtain ⟨kb1,kb2⟩ := set_seven hB2 (.int .i64 R2.en.word) (.bool R2.en.trap) (.slice ps2 ns2 cs2) (.int .i64 R2.e) (.int .i64 (R2.ls.length : Int)) (.int .i64 R2.m) (.slice pl2 R2.ls.length cl2)
          have KB1 := keep kb1
          have KB2 := keep kb2
          clear kb1 kb2 hB2
          refine Ord.on (i:=13) (h:=fun K hK => ?_)
          refine step_store_mid rfl 72 (.tmp 14) (.tmp 79) rfl RB 0 #[.int .i64 R2.en.word,.bool R2.en.trap,.slice ps2 ns2 cs2,.int .i64 R2.e,.int .i64 (R2.ls.length : Int),.int .i64 R2.m,.slice pl2 R2.ls.length cl2] rfl rfl (seven_there HB2k.out) (by kernel_rfl) (by simp [Value.oneCell']) ?_
          refine hK.out _ (wy.setCells RB 0 [.int .i64 R2.en.word,.bool R2.en.trap,.slice ps2 ns2 cs2,.int .i64 R2.e,.int .i64 (R2.ls.length : Int),.int .i64 R2.m,.slice pl2 R2.ls.length cl2]) (fun _ => HSS.out _ (HBa.out.trans (KB2.out.below HBa.out.size (fun k hk => by simp at hk; have := HRBlo.out; omega)))) ?_
          clear hK K
          try simp only [Act.put,Ord.t,Ord.z,Ord.s]
          refine Ord.wpM_done (by kernel_rfl) ?_ _
          refine NoPanic.normal ?_
          obtain ⟨wz,hwz⟩ : ∃ y,wy.setCells RB 0 [.int .i64 R2.en.word,.bool R2.en.trap,.slice ps2 ns2 cs2,.int .i64 R2.e,.int .i64 (R2.ls.length : Int),.int .i64 R2.m,.slice pl2 R2.ls.length cl2] = y := ⟨_,rfl⟩
          have HAz : Hid (Bk wz RA [.int .i64 R1.en.word,.bool R1.en.trap,.slice ps1 ns1 cs1,.int .i64 R1.e,.int .i64 (R1.ls.length : Int),.int .i64 R1.m,.slice pl1 R1.ls.length cl1] 72) := by show Bk _ _ _ _; rw [← hwz]; exact KA1.out.fs KB2.out (by simpa using HNab.out)
          have HBz : Hid (Bk wz RB [.int .i64 R2.en.word,.bool R2.en.trap,.slice ps2 ns2 cs2,.int .i64 R2.e,.int .i64 (R2.ls.length : Int),.int .i64 R2.m,.slice pl2 R2.ls.length cl2] 72) := by show Bk _ _ _ _; rw [← hwz]; exact KB1.out
          have HFz : Hid (Fs [RA,RB] u7 wz) := by show Fs _ _ _; rw [← hwz]; exact (KA2.out.mono (by simp)).trans (KB2.out.mono (by simp))
          have HWz : Hid (Below wr.heap.size wr wz) := HB_7.out.trans (HFz.out.below HB_7.out.size (fun k hk => by simp at hk; have := HRAlo.out; have := HRBlo.out; omega))
          have HS1 : Hid (∀ W,Below wz.heap.size wz W → ArrsIs W W.heap.size R1.en.arr (.slice ps1 ns1 cs1) ∧ LksIs W W.heap.size R1.ls (.slice pl1 R1.ls.length cl1)) := fun W hW => HST1.out W [RA,RB] (((F1_8.out.mono (by simp)).trans HFz.out).trans (Fs.of_below hW)) (fun b hb => by simp at hb; rcases hb with q | q <;> rw [q]; exact HRAf1.out; exact HRBf1.out)
          have HS2 : Hid (∀ W,Below wz.heap.size wz W → ArrsIs W W.heap.size R2.en.arr (.slice ps2 ns2 cs2) ∧ LksIs W W.heap.size R2.ls (.slice pl2 R2.ls.length cl2)) := fun W hW => HST2.out W [RA,RB] (((F2_9.out.mono (by simp)).trans HFz.out).trans (Fs.of_below hW)) (fun b hb => by simp at hb; rcases hb with q | q <;> rw [q]; exact HRAf2.out; exact HRBf2.out)
          rw [hwz]
          clear hwz
          exact HTk.out wz RA RB ps1 ns1 cs1 pl1 cl1 ps2 ns2 cs2 pl2 cl2 ⟨HAz.out,HBz.out,HWz.out,HS1.out,HS2.out⟩
         ·obtain ⟨u11,hu11⟩ : ∃ y,u2.alloc (.cells #[.int .i64 0,.bool false,.slice none 0 0,.int .i64 0,.int .i64 0,.int .i64 0,.slice none 0 0] 72) = y := ⟨_,rfl⟩
          obtain ⟨RB,hRB⟩ : ∃ y,u2.heap.size = y := ⟨_,rfl⟩
          have hb : Below u2.heap.size u2 u11 := by rw [← hu11]; exact (Below.refl _ _).alloc (Nat.le_refl _) _
          have B_11 : Hid (Bk u11 RB [.int .i64 0,.bool false,.slice none 0 0,.int .i64 0,.int .i64 0,.int .i64 0,.slice none 0 0] 72) := by show Bk _ _ _ _; rw [← hu11,← hRB]; exact Bk.new _ _ _
          have HB_11 := keep (HB_2.out.trans (hb.mono HB_2.out.size))
          have HRBlo : Hid (wr.heap.size ≤ RB) := by have := HB_2.out.size; show _ ≤ _; omega
          have HRBf1 : Hid (RB < wc1.heap.size ∨ we1.heap.size ≤ RB) := .inr (by have := F1_3.out.size; omega)
          have HRBf2 : Hid (RB < wc2.heap.size ∨ we2.heap.size ≤ RB) := .inr (by have := F2_2.out.size; omega)
          have F1_12 := keep (F1_3.out.trans (Fs.of_below hb))
          have F2_13 := keep (F2_2.out.trans (Fs.of_below hb))
          go_simp
          try rw [hu11]
          try rw [hRB]
          clear hu11 hRB hb
          refine hK.out _ _ (fun _ => HSS.out u11 HB_11.out) ?_
          clear hK K
          try simp only [Act.put,Ord.t,Ord.z,Ord.s]
          have hS := HSS.out u11 HB_11.out
          refine Ord.on (i:=10) (h:=fun K hK => ?_)
          obtain ⟨u14,hu14⟩ : ∃ y,u11.alloc (.cells #[.int .i64 0,.bool false,.slice none 0 0,.int .i64 0,.int .i64 0,.int .i64 0,.slice none 0 0] 72) = y := ⟨_,rfl⟩
          obtain ⟨RA,hRA⟩ : ∃ y,u11.heap.size = y := ⟨_,rfl⟩
          have hb : Below u11.heap.size u11 u14 := by rw [← hu14]; exact (Below.refl _ _).alloc (Nat.le_refl _) _
          have A_14 : Hid (Bk u14 RA [.int .i64 0,.bool false,.slice none 0 0,.int .i64 0,.int .i64 0,.int .i64 0,.slice none 0 0] 72) := by show Bk _ _ _ _; rw [← hu14,← hRA]; exact Bk.new _ _ _
          have HB_14 := keep (HB_11.out.trans (hb.mono HB_11.out.size))
          have HRAlo : Hid (wr.heap.size ≤ RA) := by have := HB_11.out.size; show _ ≤ _; omega
          have HNab : Hid (RA ≠ RB) := by have := B_11.out.lt; show _ ≠ _; omega
          have HRAf1 : Hid (RA < wc1.heap.size ∨ we1.heap.size ≤ RA) := .inr (by have := F1_12.out.size; omega)
          have HRAf2 : Hid (RA < wc2.heap.size ∨ we2.heap.size ≤ RA) := .inr (by have := F2_13.out.size; omega)
          have F1_15 := keep (F1_12.out.trans (Fs.of_below hb))
          have F2_16 := keep (F2_13.out.trans (Fs.of_below hb))
          have B_17 := keep (B_11.out.fs (Fs.of_below (l:=[]) hb) (by simp))
          go_simp
          try rw [hu14]
          try rw [hRA]
          clear hu14 hRA hb
          refine hK.out _ _ (fun _ => HSS.out u14 HB_14.out) ?_
          clear hK K
          try simp only [Act.put,Ord.t,Ord.z,Ord.s]
          have hS := HSS.out u14 HB_14.out
          obtain ⟨ka1,ka2⟩ := set_seven A_14.out (.int .i64 R1.en.word) (.bool R1.en.trap) (.slice ps1 ns1 cs1) (.int .i64 R1.e) (.int .i64 (R1.ls.length : Int)) (.int .i64 R1.m) (.slice pl1 R1.ls.length cl1)
          have KA1 := keep ka1
          have KA2 := keep ka2
          clear ka1 ka2
          have HBa : Hid (Below wr.heap.size wr (u14.setCells RA 0 [.int .i64 R1.en.word,.bool R1.en.trap,.slice ps1 ns1 cs1,.int .i64 R1.e,.int .i64 (R1.ls.length : Int),.int .i64 R1.m,.slice pl1 R1.ls.length cl1])) := HB_14.out.trans (KA2.out.below HB_14.out.size (fun k hk => by simp at hk; have := HRAlo.out; omega))
          refine Ord.on (i:=12) (h:=fun K hK => ?_)
          refine step_store_mid rfl 72 (.tmp 13) (.tmp 74) rfl RA 0 #[.int .i64 R1.en.word,.bool R1.en.trap,.slice ps1 ns1 cs1,.int .i64 R1.e,.int .i64 (R1.ls.length : Int),.int .i64 R1.m,.slice pl1 R1.ls.length cl1] rfl rfl (seven_there A_14.out) (by kernel_rfl) (by simp [Value.oneCell']) ?_
          refine hK.out _ (u14.setCells RA 0 [.int .i64 R1.en.word,.bool R1.en.trap,.slice ps1 ns1 cs1,.int .i64 R1.e,.int .i64 (R1.ls.length : Int),.int .i64 R1.m,.slice pl1 R1.ls.length cl1]) (fun _ => HSS.out _ HBa.out) ?_
          clear hK K
          try simp only [Act.put,Ord.t,Ord.z,Ord.s]
          obtain ⟨wy,hwy⟩ : ∃ y,u14.setCells RA 0 [.int .i64 R1.en.word,.bool R1.en.trap,.slice ps1 ns1 cs1,.int .i64 R1.e,.int .i64 (R1.ls.length : Int),.int .i64 R1.m,.slice pl1 R1.ls.length cl1] = y := ⟨_,rfl⟩
          rw [hwy] at KA1 KA2 HBa ⊢
          clear hwy
          have hB2 := B_17.out.fs KA2.out (by simpa using Ne.symm HNab.out)
          have HB2k := keep hB2
          obtain ⟨kb1,kb2⟩ := set_seven hB2 (.int .i64 R2.en.word) (.bool R2.en.trap) (.slice ps2 ns2 cs2) (.int .i64 R2.e) (.int .i64 (R2.ls.length : Int)) (.int .i64 R2.m) (.slice pl2 R2.ls.length cl2)
          have KB1 := keep kb1
          have KB2 := keep kb2
          clear kb1 kb2 hB2
          refine Ord.on (i:=13) (h:=fun K hK => ?_)
          refine step_store_mid rfl 72 (.tmp 14) (.tmp 79) rfl RB 0 #[.int .i64 R2.en.word,.bool R2.en.trap,.slice ps2 ns2 cs2,.int .i64 R2.e,.int .i64 (R2.ls.length : Int),.int .i64 R2.m,.slice pl2 R2.ls.length cl2] rfl rfl (seven_there HB2k.out) (by kernel_rfl) (by simp [Value.oneCell']) ?_
          refine hK.out _ (wy.setCells RB 0 [.int .i64 R2.en.word,.bool R2.en.trap,.slice ps2 ns2 cs2,.int .i64 R2.e,.int .i64 (R2.ls.length : Int),.int .i64 R2.m,.slice pl2 R2.ls.length cl2]) (fun _ => HSS.out _ (HBa.out.trans (KB2.out.below HBa.out.size (fun k hk => by simp at hk; have := HRBlo.out; omega)))) ?_
          clear hK K
          try simp only [Act.put,Ord.t,Ord.z,Ord.s]
          refine Ord.wpM_done (by kernel_rfl) ?_ _
          refine NoPanic.normal ?_
          obtain ⟨wz,hwz⟩ : ∃ y,wy.setCells RB 0 [.int .i64 R2.en.word,.bool R2.en.trap,.slice ps2 ns2 cs2,.int .i64 R2.e,.int .i64 (R2.ls.length : Int),.int .i64 R2.m,.slice pl2 R2.ls.length cl2] = y := ⟨_,rfl⟩
          have HAz : Hid (Bk wz RA [.int .i64 R1.en.word,.bool R1.en.trap,.slice ps1 ns1 cs1,.int .i64 R1.e,.int .i64 (R1.ls.length : Int),.int .i64 R1.m,.slice pl1 R1.ls.length cl1] 72) := by show Bk _ _ _ _; rw [← hwz]; exact KA1.out.fs KB2.out (by simpa using HNab.out)
          have HBz : Hid (Bk wz RB [.int .i64 R2.en.word,.bool R2.en.trap,.slice ps2 ns2 cs2,.int .i64 R2.e,.int .i64 (R2.ls.length : Int),.int .i64 R2.m,.slice pl2 R2.ls.length cl2] 72) := by show Bk _ _ _ _; rw [← hwz]; exact KB1.out
          have HFz : Hid (Fs [RA,RB] u14 wz) := by show Fs _ _ _; rw [← hwz]; exact (KA2.out.mono (by simp)).trans (KB2.out.mono (by simp))
          have HWz : Hid (Below wr.heap.size wr wz) := HB_14.out.trans (HFz.out.below HB_14.out.size (fun k hk => by simp at hk; have := HRAlo.out; have := HRBlo.out; omega))
          have HS1 : Hid (∀ W,Below wz.heap.size wz W → ArrsIs W W.heap.size R1.en.arr (.slice ps1 ns1 cs1) ∧ LksIs W W.heap.size R1.ls (.slice pl1 R1.ls.length cl1)) := fun W hW => HST1.out W [RA,RB] (((F1_15.out.mono (by simp)).trans HFz.out).trans (Fs.of_below hW)) (fun b hb => by simp at hb; rcases hb with q | q <;> rw [q]; exact HRAf1.out; exact HRBf1.out)
          have HS2 : Hid (∀ W,Below wz.heap.size wz W → ArrsIs W W.heap.size R2.en.arr (.slice ps2 ns2 cs2) ∧ LksIs W W.heap.size R2.ls (.slice pl2 R2.ls.length cl2)) := fun W hW => HST2.out W [RA,RB] (((F2_16.out.mono (by simp)).trans HFz.out).trans (Fs.of_below hW)) (fun b hb => by simp at hb; rcases hb with q | q <;> rw [q]; exact HRAf2.out; exact HRBf2.out)
          rw [hwz]
          clear hwz
          exact HTk.out wz RA RB ps1 ns1 cs1 pl1 cl1 ps2 ns2 cs2 pl2 cl2 ⟨HAz.out,HBz.out,HWz.out,HS1.out,HS2.out⟩
        ·obtain ⟨u18,hu18⟩ : ∃ y,u1.alloc (.cells #[.int .i64 0,.bool false,.slice none 0 0,.int .i64 0,.int .i64 0,.int .i64 0,.slice none 0 0] 72) = y := ⟨_,rfl⟩
         obtain ⟨RA,hRA⟩ : ∃ y,u1.heap.size = y := ⟨_,rfl⟩
         have hb : Below u1.heap.size u1 u18 := by rw [← hu18]; exact (Below.refl _ _).alloc (Nat.le_refl _) _
         have A_18 : Hid (Bk u18 RA [.int .i64 0,.bool false,.slice none 0 0,.int .i64 0,.int .i64 0,.int .i64 0,.slice none 0 0] 72) := by show Bk _ _ _ _; rw [← hu18,← hRA]; exact Bk.new _ _ _
         have HB_18 := keep (HB_1.out.trans (hb.mono HB_1.out.size))
         have HRAlo : Hid (wr.heap.size ≤ RA) := by have := HB_1.out.size; show _ ≤ _; omega
         have HRAf1 : Hid (RA < wc1.heap.size ∨ we1.heap.size ≤ RA) := .inr (by have := F1_1.out.size; omega)
         have F1_19 := keep (F1_1.out.trans (Fs.of_below hb))
         go_simp
         try rw [hu18]
         try rw [hRA]
         clear hu18 hRA hb
         refine hK.out _ _ (fun _ => HSS.out u18 HB_18.out) ?_
         clear hK K
         try simp only [Act.put,Ord.t,Ord.z,Ord.s]
         have hS := HSS.out u18 HB_18.out
         refine Ord.wpM_two (i:=9) (j:=11) (by kernel_rfl) (by simp only [List.getElem?_toArray,List.getElem?_cons_zero,List.getElem?_cons_succ]; rfl) (by simp only [List.getElem?_toArray,List.getElem?_cons_zero,List.getElem?_cons_succ]; rfl) (fun K hK => ?_) (fun K hK => ?_)
         ·go_simp
          refine (HC2.out u18 (HBr.out.trans (HB_18.out.mono HBr.out.size))).mono ?_
          rintro r u20 ⟨s2,v2,rfl,hst,hb⟩
          obtain ⟨wc2,hwc⟩ : ∃ y,u18 = y := ⟨_,rfl⟩
          obtain ⟨we2,hwe⟩ : ∃ y,u20 = y := ⟨_,rfl⟩
          have HST2 := keep hst
          rw [hwc,hwe] at HST2
          have HCE2 : Hid (wc2.heap.size ≤ we2.heap.size) := by show _ ≤ _; rw [← hwc,← hwe]; exact hb.size
          obtain ⟨ps2,ns2,cs2,hs2⟩ := (hst u20 [] (Fs.refl _ _) (by simp)).1.slice
          obtain ⟨pl2,cl2,hv2⟩ := lks_slice (hst u20 [] (Fs.refl _ _) (by simp)).2
          have HB_20 := keep (HB_18.out.trans (hb.mono HB_18.out.size))
          have HRAf2 : Hid (RA < wc2.heap.size ∨ we2.heap.size ≤ RA) := .inl (by rw [← hwc]; exact A_18.out.lt)
          have F1_21 := keep (F1_19.out.trans (Fs.of_below hb))
          have A_22 := keep (A_18.out.fs (Fs.of_below (l:=[]) hb) (by simp))
          have F2_20 : Hid (Fs [] we2 u20) := by show Fs _ _ _; rw [← hwe]; exact Fs.refl _ _
          subst hs2 hv2
          clear hst hb hwc hwe
          go_simp
          refine hK.out _ _ (fun _ => HSS.out u20 HB_20.out) ?_
          clear hK K
          try simp only [Act.put,Ord.t,Ord.z,Ord.s]
          have hS := HSS.out u20 HB_20.out
          refine Ord.on (i:=11) (h:=fun K hK => ?_)
          obtain ⟨u23,hu23⟩ : ∃ y,u20.alloc (.cells #[.int .i64 0,.bool false,.slice none 0 0,.int .i64 0,.int .i64 0,.int .i64 0,.slice none 0 0] 72) = y := ⟨_,rfl⟩
          obtain ⟨RB,hRB⟩ : ∃ y,u20.heap.size = y := ⟨_,rfl⟩
          have hb : Below u20.heap.size u20 u23 := by rw [← hu23]; exact (Below.refl _ _).alloc (Nat.le_refl _) _
          have B_23 : Hid (Bk u23 RB [.int .i64 0,.bool false,.slice none 0 0,.int .i64 0,.int .i64 0,.int .i64 0,.slice none 0 0] 72) := by show Bk _ _ _ _; rw [← hu23,← hRB]; exact Bk.new _ _ _
          have HB_23 := keep (HB_20.out.trans (hb.mono HB_20.out.size))
          have HRBlo : Hid (wr.heap.size ≤ RB) := by have := HB_20.out.size; show _ ≤ _; omega
          have HNab : Hid (RA ≠ RB) := by have := A_22.out.lt; show _ ≠ _; omega
          have HRBf1 : Hid (RB < wc1.heap.size ∨ we1.heap.size ≤ RB) := .inr (by have := F1_21.out.size; omega)
          have HRBf2 : Hid (RB < wc2.heap.size ∨ we2.heap.size ≤ RB) := .inr (by have := F2_20.out.size; omega)
          have F1_24 := keep (F1_21.out.trans (Fs.of_below hb))
          have A_25 := keep (A_22.out.fs (Fs.of_below (l:=[]) hb) (by simp))
          have F2_26 := keep (F2_20.out.trans (Fs.of_below hb))
          go_simp
          try rw [hu23]
          try rw [hRB]
          clear hu23 hRB hb
          refine hK.out _ _ (fun _ => HSS.out u23 HB_23.out) ?_
          clear hK K
          try simp only [Act.put,Ord.t,Ord.z,Ord.s]
          have hS := HSS.out u23 HB_23.out
          obtain ⟨ka1,ka2⟩ := set_seven A_25.out (.int .i64 R1.en.word) (.bool R1.en.trap) (.slice ps1 ns1 cs1) (.int .i64 R1.e) (.int .i64 (R1.ls.length : Int)) (.int .i64 R1.m) (.slice pl1 R1.ls.length cl1)
          have KA1 := keep ka1
          have KA2 := keep ka2
          clear ka1 ka2
          have HBa : Hid (Below wr.heap.size wr (u23.setCells RA 0 [.int .i64 R1.en.word,.bool R1.en.trap,.slice ps1 ns1 cs1,.int .i64 R1.e,.int .i64 (R1.ls.length : Int),.int .i64 R1.m,.slice pl1 R1.ls.length cl1])) := HB_23.out.trans (KA2.out.below HB_23.out.size (fun k hk => by simp at hk; have := HRAlo.out; omega))
          refine Ord.on (i:=12) (h:=fun K hK => ?_)
          refine step_store_mid rfl 72 (.tmp 13) (.tmp 74) rfl RA 0 #[.int .i64 R1.en.word,.bool R1.en.trap,.slice ps1 ns1 cs1,.int .i64 R1.e,.int .i64 (R1.ls.length : Int),.int .i64 R1.m,.slice pl1 R1.ls.length cl1] rfl rfl (seven_there A_25.out) (by kernel_rfl) (by simp [Value.oneCell']) ?_
          refine hK.out _ (u23.setCells RA 0 [.int .i64 R1.en.word,.bool R1.en.trap,.slice ps1 ns1 cs1,.int .i64 R1.e,.int .i64 (R1.ls.length : Int),.int .i64 R1.m,.slice pl1 R1.ls.length cl1]) (fun _ => HSS.out _ HBa.out) ?_
          clear hK K
          try simp only [Act.put,Ord.t,Ord.z,Ord.s]
          obtain ⟨wy,hwy⟩ : ∃ y,u23.setCells RA 0 [.int .i64 R1.en.word,.bool R1.en.trap,.slice ps1 ns1 cs1,.int .i64 R1.e,.int .i64 (R1.ls.length : Int),.int .i64 R1.m,.slice pl1 R1.ls.length cl1] = y := ⟨_,rfl⟩
          rw [hwy] at KA1 KA2 HBa ⊢
          clear hwy
          have hB2 := B_23.out.fs KA2.out (by simpa using Ne.symm HNab.out)
          have HB2k := keep hB2
          obtain ⟨kb1,kb2⟩ := set_seven hB2 (.int .i64 R2.en.word) (.bool R2.en.trap) (.slice ps2 ns2 cs2) (.int .i64 R2.e) (.int .i64 (R2.ls.length : Int)) (.int .i64 R2.m) (.slice pl2 R2.ls.length cl2)
          have KB1 := keep kb1
          have KB2 := keep kb2
          clear kb1 kb2 hB2
          refine Ord.on (i:=13) (h:=fun K hK => ?_)
          refine step_store_mid rfl 72 (.tmp 14) (.tmp 79) rfl RB 0 #[.int .i64 R2.en.word,.bool R2.en.trap,.slice ps2 ns2 cs2,.int .i64 R2.e,.int .i64 (R2.ls.length : Int),.int .i64 R2.m,.slice pl2 R2.ls.length cl2] rfl rfl (seven_there HB2k.out) (by kernel_rfl) (by simp [Value.oneCell']) ?_
          refine hK.out _ (wy.setCells RB 0 [.int .i64 R2.en.word,.bool R2.en.trap,.slice ps2 ns2 cs2,.int .i64 R2.e,.int .i64 (R2.ls.length : Int),.int .i64 R2.m,.slice pl2 R2.ls.length cl2]) (fun _ => HSS.out _ (HBa.out.trans (KB2.out.below HBa.out.size (fun k hk => by simp at hk; have := HRBlo.out; omega)))) ?_
          clear hK K
          try simp only [Act.put,Ord.t,Ord.z,Ord.s]
          refine Ord.wpM_done (by kernel_rfl) ?_ _
          refine NoPanic.normal ?_
          obtain ⟨wz,hwz⟩ : ∃ y,wy.setCells RB 0 [.int .i64 R2.en.word,.bool R2.en.trap,.slice ps2 ns2 cs2,.int .i64 R2.e,.int .i64 (R2.ls.length : Int),.int .i64 R2.m,.slice pl2 R2.ls.length cl2] = y := ⟨_,rfl⟩
          have HAz : Hid (Bk wz RA [.int .i64 R1.en.word,.bool R1.en.trap,.slice ps1 ns1 cs1,.int .i64 R1.e,.int .i64 (R1.ls.length : Int),.int .i64 R1.m,.slice pl1 R1.ls.length cl1] 72) := by show Bk _ _ _ _; rw [← hwz]; exact KA1.out.fs KB2.out (by simpa using HNab.out)
          have HBz : Hid (Bk wz RB [.int .i64 R2.en.word,.bool R2.en.trap,.slice ps2 ns2 cs2,.int .i64 R2.e,.int .i64 (R2.ls.length : Int),.int .i64 R2.m,.slice pl2 R2.ls.length cl2] 72) := by show Bk _ _ _ _; rw [← hwz]; exact KB1.out
          have HFz : Hid (Fs [RA,RB] u23 wz) := by show Fs _ _ _; rw [← hwz]; exact (KA2.out.mono (by simp)).trans (KB2.out.mono (by simp))
          have HWz : Hid (Below wr.heap.size wr wz) := HB_23.out.trans (HFz.out.below HB_23.out.size (fun k hk => by simp at hk; have := HRAlo.out; have := HRBlo.out; omega))
          have HS1 : Hid (∀ W,Below wz.heap.size wz W → ArrsIs W W.heap.size R1.en.arr (.slice ps1 ns1 cs1) ∧ LksIs W W.heap.size R1.ls (.slice pl1 R1.ls.length cl1)) := fun W hW => HST1.out W [RA,RB] (((F1_24.out.mono (by simp)).trans HFz.out).trans (Fs.of_below hW)) (fun b hb => by simp at hb; rcases hb with q | q <;> rw [q]; exact HRAf1.out; exact HRBf1.out)
          have HS2 : Hid (∀ W,Below wz.heap.size wz W → ArrsIs W W.heap.size R2.en.arr (.slice ps2 ns2 cs2) ∧ LksIs W W.heap.size R2.ls (.slice pl2 R2.ls.length cl2)) := fun W hW => HST2.out W [RA,RB] (((F2_26.out.mono (by simp)).trans HFz.out).trans (Fs.of_below hW)) (fun b hb => by simp at hb; rcases hb with q | q <;> rw [q]; exact HRAf2.out; exact HRBf2.out)
          rw [hwz]
          clear hwz
          exact HTk.out wz RA RB ps1 ns1 cs1 pl1 cl1 ps2 ns2 cs2 pl2 cl2 ⟨HAz.out,HBz.out,HWz.out,HS1.out,HS2.out⟩
         ·obtain ⟨u27,hu27⟩ : ∃ y,u18.alloc (.cells #[.int .i64 0,.bool false,.slice none 0 0,.int .i64 0,.int .i64 0,.int .i64 0,.slice none 0 0] 72) = y := ⟨_,rfl⟩
          obtain ⟨RB,hRB⟩ : ∃ y,u18.heap.size = y := ⟨_,rfl⟩
          have hb : Below u18.heap.size u18 u27 := by rw [← hu27]; exact (Below.refl _ _).alloc (Nat.le_refl _) _
          have B_27 : Hid (Bk u27 RB [.int .i64 0,.bool false,.slice none 0 0,.int .i64 0,.int .i64 0,.int .i64 0,.slice none 0 0] 72) := by show Bk _ _ _ _; rw [← hu27,← hRB]; exact Bk.new _ _ _
          have HB_27 := keep (HB_18.out.trans (hb.mono HB_18.out.size))
          have HRBlo : Hid (wr.heap.size ≤ RB) := by have := HB_18.out.size; show _ ≤ _; omega
          have HNab : Hid (RA ≠ RB) := by have := A_18.out.lt; show _ ≠ _; omega
          have HRBf1 : Hid (RB < wc1.heap.size ∨ we1.heap.size ≤ RB) := .inr (by have := F1_19.out.size; omega)
          have F1_28 := keep (F1_19.out.trans (Fs.of_below hb))
          have A_29 := keep (A_18.out.fs (Fs.of_below (l:=[]) hb) (by simp))
          go_simp
          try rw [hu27]
          try rw [hRB]
          clear hu27 hRB hb
          refine hK.out _ _ (fun _ => HSS.out u27 HB_27.out) ?_
          clear hK K
          try simp only [Act.put,Ord.t,Ord.z,Ord.s]
          have hS := HSS.out u27 HB_27.out
          refine Ord.on (i:=9) (h:=fun K hK => ?_)
          go_simp
          refine (HC2.out u27 (HBr.out.trans (HB_27.out.mono HBr.out.size))).mono ?_
          rintro r u30 ⟨s2,v2,rfl,hst,hb⟩
          obtain ⟨wc2,hwc⟩ : ∃ y,u27 = y := ⟨_,rfl⟩
          obtain ⟨we2,hwe⟩ : ∃ y,u30 = y := ⟨_,rfl⟩
          have HST2 := keep hst
          rw [hwc,hwe] at HST2
          have HCE2 : Hid (wc2.heap.size ≤ we2.heap.size) := by show _ ≤ _; rw [← hwc,← hwe]; exact hb.size
          obtain ⟨ps2,ns2,cs2,hs2⟩ := (hst u30 [] (Fs.refl _ _) (by simp)).1.slice
          obtain ⟨pl2,cl2,hv2⟩ := lks_slice (hst u30 [] (Fs.refl _ _) (by simp)).2
          have HB_30 := keep (HB_27.out.trans (hb.mono HB_27.out.size))
          have HRAf2 : Hid (RA < wc2.heap.size ∨ we2.heap.size ≤ RA) := .inl (by rw [← hwc]; exact A_29.out.lt)
          have HRBf2 : Hid (RB < wc2.heap.size ∨ we2.heap.size ≤ RB) := .inl (by rw [← hwc]; exact B_27.out.lt)
          have F1_31 := keep (F1_28.out.trans (Fs.of_below hb))
          have A_32 := keep (A_29.out.fs (Fs.of_below (l:=[]) hb) (by simp))
          have B_33 := keep (B_27.out.fs (Fs.of_below (l:=[]) hb) (by simp))
          have F2_30 : Hid (Fs [] we2 u30) := by show Fs _ _ _; rw [← hwe]; exact Fs.refl _ _
          subst hs2 hv2
          clear hst hb hwc hwe
          go_simp
          refine hK.out _ _ (fun _ => HSS.out u30 HB_30.out) ?_
          clear hK K
          try simp only [Act.put,Ord.t,Ord.z,Ord.s]
          have hS := HSS.out u30 HB_30.out
          obtain ⟨ka1,ka2⟩ := set_seven A_32.out (.int .i64 R1.en.word) (.bool R1.en.trap) (.slice ps1 ns1 cs1) (.int .i64 R1.e) (.int .i64 (R1.ls.length : Int)) (.int .i64 R1.m) (.slice pl1 R1.ls.length cl1)
          have KA1 := keep ka1
          have KA2 := keep ka2
          clear ka1 ka2
          have HBa : Hid (Below wr.heap.size wr (u30.setCells RA 0 [.int .i64 R1.en.word,.bool R1.en.trap,.slice ps1 ns1 cs1,.int .i64 R1.e,.int .i64 (R1.ls.length : Int),.int .i64 R1.m,.slice pl1 R1.ls.length cl1])) := HB_30.out.trans (KA2.out.below HB_30.out.size (fun k hk => by simp at hk; have := HRAlo.out; omega))
          refine Ord.on (i:=12) (h:=fun K hK => ?_)
          refine step_store_mid rfl 72 (.tmp 13) (.tmp 74) rfl RA 0 #[.int .i64 R1.en.word,.bool R1.en.trap,.slice ps1 ns1 cs1,.int .i64 R1.e,.int .i64 (R1.ls.length : Int),.int .i64 R1.m,.slice pl1 R1.ls.length cl1] rfl rfl (seven_there A_32.out) (by kernel_rfl) (by simp [Value.oneCell']) ?_
          refine hK.out _ (u30.setCells RA 0 [.int .i64 R1.en.word,.bool R1.en.trap,.slice ps1 ns1 cs1,.int .i64 R1.e,.int .i64 (R1.ls.length : Int),.int .i64 R1.m,.slice pl1 R1.ls.length cl1]) (fun _ => HSS.out _ HBa.out) ?_
          clear hK K
          try simp only [Act.put,Ord.t,Ord.z,Ord.s]
          obtain ⟨wy,hwy⟩ : ∃ y,u30.setCells RA 0 [.int .i64 R1.en.word,.bool R1.en.trap,.slice ps1 ns1 cs1,.int .i64 R1.e,.int .i64 (R1.ls.length : Int),.int .i64 R1.m,.slice pl1 R1.ls.length cl1] = y := ⟨_,rfl⟩
          rw [hwy] at KA1 KA2 HBa ⊢
          clear hwy
          have hB2 := B_33.out.fs KA2.out (by simpa using Ne.symm HNab.out)
          have HB2k := keep hB2
          obtain ⟨kb1,kb2⟩ := set_seven hB2 (.int .i64 R2.en.word) (.bool R2.en.trap) (.slice ps2 ns2 cs2) (.int .i64 R2.e) (.int .i64 (R2.ls.length : Int)) (.int .i64 R2.m) (.slice pl2 R2.ls.length cl2)
          have KB1 := keep kb1
          have KB2 := keep kb2
          clear kb1 kb2 hB2
          refine Ord.on (i:=13) (h:=fun K hK => ?_)
          refine step_store_mid rfl 72 (.tmp 14) (.tmp 79) rfl RB 0 #[.int .i64 R2.en.word,.bool R2.en.trap,.slice ps2 ns2 cs2,.int .i64 R2.e,.int .i64 (R2.ls.length : Int),.int .i64 R2.m,.slice pl2 R2.ls.length cl2] rfl rfl (seven_there HB2k.out) (by kernel_rfl) (by simp [Value.oneCell']) ?_
          refine hK.out _ (wy.setCells RB 0 [.int .i64 R2.en.word,.bool R2.en.trap,.slice ps2 ns2 cs2,.int .i64 R2.e,.int .i64 (R2.ls.length : Int),.int .i64 R2.m,.slice pl2 R2.ls.length cl2]) (fun _ => HSS.out _ (HBa.out.trans (KB2.out.below HBa.out.size (fun k hk => by simp at hk; have := HRBlo.out; omega)))) ?_
          clear hK K
          try simp only [Act.put,Ord.t,Ord.z,Ord.s]
          refine Ord.wpM_done (by kernel_rfl) ?_ _
          refine NoPanic.normal ?_
          obtain ⟨wz,hwz⟩ : ∃ y,wy.setCells RB 0 [.int .i64 R2.en.word,.bool R2.en.trap,.slice ps2 ns2 cs2,.int .i64 R2.e,.int .i64 (R2.ls.length : Int),.int .i64 R2.m,.slice pl2 R2.ls.length cl2] = y := ⟨_,rfl⟩
          have HAz : Hid (Bk wz RA [.int .i64 R1.en.word,.bool R1.en.trap,.slice ps1 ns1 cs1,.int .i64 R1.e,.int .i64 (R1.ls.length : Int),.int .i64 R1.m,.slice pl1 R1.ls.length cl1] 72) := by show Bk _ _ _ _; rw [← hwz]; exact KA1.out.fs KB2.out (by simpa using HNab.out)
          have HBz : Hid (Bk wz RB [.int .i64 R2.en.word,.bool R2.en.trap,.slice ps2 ns2 cs2,.int .i64 R2.e,.int .i64 (R2.ls.length : Int),.int .i64 R2.m,.slice pl2 R2.ls.length cl2] 72) := by show Bk _ _ _ _; rw [← hwz]; exact KB1.out
          have HFz : Hid (Fs [RA,RB] u30 wz) := by show Fs _ _ _; rw [← hwz]; exact (KA2.out.mono (by simp)).trans (KB2.out.mono (by simp))
          have HWz : Hid (Below wr.heap.size wr wz) := HB_30.out.trans (HFz.out.below HB_30.out.size (fun k hk => by simp at hk; have := HRAlo.out; have := HRBlo.out; omega))
          have HS1 : Hid (∀ W,Below wz.heap.size wz W → ArrsIs W W.heap.size R1.en.arr (.slice ps1 ns1 cs1) ∧ LksIs W W.heap.size R1.ls (.slice pl1 R1.ls.length cl1)) := fun W hW => HST1.out W [RA,RB] (((F1_31.out.mono (by simp)).trans HFz.out).trans (Fs.of_below hW)) (fun b hb => by simp at hb; rcases hb with q | q <;> rw [q]; exact HRAf1.out; exact HRBf1.out)
          have HS2 : Hid (∀ W,Below wz.heap.size wz W → ArrsIs W W.heap.size R2.en.arr (.slice ps2 ns2 cs2) ∧ LksIs W W.heap.size R2.ls (.slice pl2 R2.ls.length cl2)) := fun W hW => HST2.out W [RA,RB] (((F2_30.out.mono (by simp)).trans HFz.out).trans (Fs.of_below hW)) (fun b hb => by simp at hb; rcases hb with q | q <;> rw [q]; exact HRAf2.out; exact HRBf2.out)
          rw [hwz]
          clear hwz
          exact HTk.out wz RA RB ps1 ns1 cs1 pl1 cl1 ps2 ns2 cs2 pl2 cl2 ⟨HAz.out,HBz.out,HWz.out,HS1.out,HS2.out⟩
        ·obtain ⟨u34,hu34⟩ : ∃ y,u1.alloc (.cells #[.int .i64 0,.bool false,.slice none 0 0,.int .i64 0,.int .i64 0,.int .i64 0,.slice none 0 0] 72) = y := ⟨_,rfl⟩
         obtain ⟨RB,hRB⟩ : ∃ y,u1.heap.size = y := ⟨_,rfl⟩
         have hb : Below u1.heap.size u1 u34 := by rw [← hu34]; exact (Below.refl _ _).alloc (Nat.le_refl _) _
         have B_34 : Hid (Bk u34 RB [.int .i64 0,.bool false,.slice none 0 0,.int .i64 0,.int .i64 0,.int .i64 0,.slice none 0 0] 72) := by show Bk _ _ _ _; rw [← hu34,← hRB]; exact Bk.new _ _ _
         have HB_34 := keep (HB_1.out.trans (hb.mono HB_1.out.size))
         have HRBlo : Hid (wr.heap.size ≤ RB) := by have := HB_1.out.size; show _ ≤ _; omega
         have HRBf1 : Hid (RB < wc1.heap.size ∨ we1.heap.size ≤ RB) := .inr (by have := F1_1.out.size; omega)
         have F1_35 := keep (F1_1.out.trans (Fs.of_below hb))
         go_simp
         try rw [hu34]
         try rw [hRB]
         clear hu34 hRB hb
         refine hK.out _ _ (fun _ => HSS.out u34 HB_34.out) ?_
         clear hK K
         try simp only [Act.put,Ord.t,Ord.z,Ord.s]
         have hS := HSS.out u34 HB_34.out
         refine Ord.wpM_two (i:=9) (j:=10) (by kernel_rfl) (by simp only [List.getElem?_toArray,List.getElem?_cons_zero,List.getElem?_cons_succ]; rfl) (by simp only [List.getElem?_toArray,List.getElem?_cons_zero,List.getElem?_cons_succ]; rfl) (fun K hK => ?_) (fun K hK => ?_)
         ·go_simp
          refine (HC2.out u34 (HBr.out.trans (HB_34.out.mono HBr.out.size))).mono ?_
          rintro r u36 ⟨s2,v2,rfl,hst,hb⟩
          obtain ⟨wc2,hwc⟩ : ∃ y,u34 = y := ⟨_,rfl⟩
          obtain ⟨we2,hwe⟩ : ∃ y,u36 = y := ⟨_,rfl⟩
          have HST2 := keep hst
          rw [hwc,hwe] at HST2
          have HCE2 : Hid (wc2.heap.size ≤ we2.heap.size) := by show _ ≤ _; rw [← hwc,← hwe]; exact hb.size
          obtain ⟨ps2,ns2,cs2,hs2⟩ := (hst u36 [] (Fs.refl _ _) (by simp)).1.slice
          obtain ⟨pl2,cl2,hv2⟩ := lks_slice (hst u36 [] (Fs.refl _ _) (by simp)).2
          have HB_36 := keep (HB_34.out.trans (hb.mono HB_34.out.size))
          have HRBf2 : Hid (RB < wc2.heap.size ∨ we2.heap.size ≤ RB) := .inl (by rw [← hwc]; exact B_34.out.lt)
          have F1_37 := keep (F1_35.out.trans (Fs.of_below hb))
          have B_38 := keep (B_34.out.fs (Fs.of_below (l:=[]) hb) (by simp))
          have F2_36 : Hid (Fs [] we2 u36) := by show Fs _ _ _; rw [← hwe]; exact Fs.refl _ _
          subst hs2 hv2
          clear hst hb hwc hwe
          go_simp
          refine hK.out _ _ (fun _ => HSS.out u36 HB_36.out) ?_
          clear hK K
          try simp only [Act.put,Ord.t,Ord.z,Ord.s]
          have hS := HSS.out u36 HB_36.out
          refine Ord.on (i:=10) (h:=fun K hK => ?_)
          obtain ⟨u39,hu39⟩ : ∃ y,u36.alloc (.cells #[.int .i64 0,.bool false,.slice none 0 0,.int .i64 0,.int .i64 0,.int .i64 0,.slice none 0 0] 72) = y := ⟨_,rfl⟩
          obtain ⟨RA,hRA⟩ : ∃ y,u36.heap.size = y := ⟨_,rfl⟩
          have hb : Below u36.heap.size u36 u39 := by rw [← hu39]; exact (Below.refl _ _).alloc (Nat.le_refl _) _
          have A_39 : Hid (Bk u39 RA [.int .i64 0,.bool false,.slice none 0 0,.int .i64 0,.int .i64 0,.int .i64 0,.slice none 0 0] 72) := by show Bk _ _ _ _; rw [← hu39,← hRA]; exact Bk.new _ _ _
          have HB_39 := keep (HB_36.out.trans (hb.mono HB_36.out.size))
          have HRAlo : Hid (wr.heap.size ≤ RA) := by have := HB_36.out.size; show _ ≤ _; omega
          have HNab : Hid (RA ≠ RB) := by have := B_38.out.lt; show _ ≠ _; omega
          have HRAf1 : Hid (RA < wc1.heap.size ∨ we1.heap.size ≤ RA) := .inr (by have := F1_37.out.size; omega)
          have HRAf2 : Hid (RA < wc2.heap.size ∨ we2.heap.size ≤ RA) := .inr (by have := F2_36.out.size; omega)
          have F1_40 := keep (F1_37.out.trans (Fs.of_below hb))
          have B_41 := keep (B_38.out.fs (Fs.of_below (l:=[]) hb) (by simp))
          have F2_42 := keep (F2_36.out.trans (Fs.of_below hb))
          go_simp
          try rw [hu39]
          try rw [hRA]
          clear hu39 hRA hb
          refine hK.out _ _ (fun _ => HSS.out u39 HB_39.out) ?_
          clear hK K
          try simp only [Act.put,Ord.t,Ord.z,Ord.s]
          have hS := HSS.out u39 HB_39.out
          obtain ⟨ka1,ka2⟩ := set_seven A_39.out (.int .i64 R1.en.word) (.bool R1.en.trap) (.slice ps1 ns1 cs1) (.int .i64 R1.e) (.int .i64 (R1.ls.length : Int)) (.int .i64 R1.m) (.slice pl1 R1.ls.length cl1)
          have KA1 := keep ka1
          have KA2 := keep ka2
          clear ka1 ka2
          have HBa : Hid (Below wr.heap.size wr (u39.setCells RA 0 [.int .i64 R1.en.word,.bool R1.en.trap,.slice ps1 ns1 cs1,.int .i64 R1.e,.int .i64 (R1.ls.length : Int),.int .i64 R1.m,.slice pl1 R1.ls.length cl1])) := HB_39.out.trans (KA2.out.below HB_39.out.size (fun k hk => by simp at hk; have := HRAlo.out; omega))
          refine Ord.on (i:=12) (h:=fun K hK => ?_)
          refine step_store_mid rfl 72 (.tmp 13) (.tmp 74) rfl RA 0 #[.int .i64 R1.en.word,.bool R1.en.trap,.slice ps1 ns1 cs1,.int .i64 R1.e,.int .i64 (R1.ls.length : Int),.int .i64 R1.m,.slice pl1 R1.ls.length cl1] rfl rfl (seven_there A_39.out) (by kernel_rfl) (by simp [Value.oneCell']) ?_
          refine hK.out _ (u39.setCells RA 0 [.int .i64 R1.en.word,.bool R1.en.trap,.slice ps1 ns1 cs1,.int .i64 R1.e,.int .i64 (R1.ls.length : Int),.int .i64 R1.m,.slice pl1 R1.ls.length cl1]) (fun _ => HSS.out _ HBa.out) ?_
          clear hK K
          try simp only [Act.put,Ord.t,Ord.z,Ord.s]
          obtain ⟨wy,hwy⟩ : ∃ y,u39.setCells RA 0 [.int .i64 R1.en.word,.bool R1.en.trap,.slice ps1 ns1 cs1,.int .i64 R1.e,.int .i64 (R1.ls.length : Int),.int .i64 R1.m,.slice pl1 R1.ls.length cl1] = y := ⟨_,rfl⟩
          rw [hwy] at KA1 KA2 HBa ⊢
          clear hwy
          have hB2 := B_41.out.fs KA2.out (by simpa using Ne.symm HNab.out)
          have HB2k := keep hB2
          obtain ⟨kb1,kb2⟩ := set_seven hB2 (.int .i64 R2.en.word) (.bool R2.en.trap) (.slice ps2 ns2 cs2) (.int .i64 R2.e) (.int .i64 (R2.ls.length : Int)) (.int .i64 R2.m) (.slice pl2 R2.ls.length cl2)
          have KB1 := keep kb1
          have KB2 := keep kb2
          clear kb1 kb2 hB2
          refine Ord.on (i:=13) (h:=fun K hK => ?_)
          refine step_store_mid rfl 72 (.tmp 14) (.tmp 79) rfl RB 0 #[.int .i64 R2.en.word,.bool R2.en.trap,.slice ps2 ns2 cs2,.int .i64 R2.e,.int .i64 (R2.ls.length : Int),.int .i64 R2.m,.slice pl2 R2.ls.length cl2] rfl rfl (seven_there HB2k.out) (by kernel_rfl) (by simp [Value.oneCell']) ?_
          refine hK.out _ (wy.setCells RB 0 [.int .i64 R2.en.word,.bool R2.en.trap,.slice ps2 ns2 cs2,.int .i64 R2.e,.int .i64 (R2.ls.length : Int),.int .i64 R2.m,.slice pl2 R2.ls.length cl2]) (fun _ => HSS.out _ (HBa.out.trans (KB2.out.below HBa.out.size (fun k hk => by simp at hk; have := HRBlo.out; omega)))) ?_
          clear hK K
          try simp only [Act.put,Ord.t,Ord.z,Ord.s]
          refine Ord.wpM_done (by kernel_rfl) ?_ _
          refine NoPanic.normal ?_
          obtain ⟨wz,hwz⟩ : ∃ y,wy.setCells RB 0 [.int .i64 R2.en.word,.bool R2.en.trap,.slice ps2 ns2 cs2,.int .i64 R2.e,.int .i64 (R2.ls.length : Int),.int .i64 R2.m,.slice pl2 R2.ls.length cl2] = y := ⟨_,rfl⟩
          have HAz : Hid (Bk wz RA [.int .i64 R1.en.word,.bool R1.en.trap,.slice ps1 ns1 cs1,.int .i64 R1.e,.int .i64 (R1.ls.length : Int),.int .i64 R1.m,.slice pl1 R1.ls.length cl1] 72) := by show Bk _ _ _ _; rw [← hwz]; exact KA1.out.fs KB2.out (by simpa using HNab.out)
          have HBz : Hid (Bk wz RB [.int .i64 R2.en.word,.bool R2.en.trap,.slice ps2 ns2 cs2,.int .i64 R2.e,.int .i64 (R2.ls.length : Int),.int .i64 R2.m,.slice pl2 R2.ls.length cl2] 72) := by show Bk _ _ _ _; rw [← hwz]; exact KB1.out
          have HFz : Hid (Fs [RA,RB] u39 wz) := by show Fs _ _ _; rw [← hwz]; exact (KA2.out.mono (by simp)).trans (KB2.out.mono (by simp))
          have HWz : Hid (Below wr.heap.size wr wz) := HB_39.out.trans (HFz.out.below HB_39.out.size (fun k hk => by simp at hk; have := HRAlo.out; have := HRBlo.out; omega))
          have HS1 : Hid (∀ W,Below wz.heap.size wz W → ArrsIs W W.heap.size R1.en.arr (.slice ps1 ns1 cs1) ∧ LksIs W W.heap.size R1.ls (.slice pl1 R1.ls.length cl1)) := fun W hW => HST1.out W [RA,RB] (((F1_40.out.mono (by simp)).trans HFz.out).trans (Fs.of_below hW)) (fun b hb => by simp at hb; rcases hb with q | q <;> rw [q]; exact HRAf1.out; exact HRBf1.out)
          have HS2 : Hid (∀ W,Below wz.heap.size wz W → ArrsIs W W.heap.size R2.en.arr (.slice ps2 ns2 cs2) ∧ LksIs W W.heap.size R2.ls (.slice pl2 R2.ls.length cl2)) := fun W hW => HST2.out W [RA,RB] (((F2_42.out.mono (by simp)).trans HFz.out).trans (Fs.of_below hW)) (fun b hb => by simp at hb; rcases hb with q | q <;> rw [q]; exact HRAf2.out; exact HRBf2.out)
          rw [hwz]
          clear hwz
          exact HTk.out wz RA RB ps1 ns1 cs1 pl1 cl1 ps2 ns2 cs2 pl2 cl2 ⟨HAz.out,HBz.out,HWz.out,HS1.out,HS2.out⟩
         ·obtain ⟨u43,hu43⟩ : ∃ y,u34.alloc (.cells #[.int .i64 0,.bool false,.slice none 0 0,.int .i64 0,.int .i64 0,.int .i64 0,.slice none 0 0] 72) = y := ⟨_,rfl⟩
          obtain ⟨RA,hRA⟩ : ∃ y,u34.heap.size = y := ⟨_,rfl⟩
          have hb : Below u34.heap.size u34 u43 := by rw [← hu43]; exact (Below.refl _ _).alloc (Nat.le_refl _) _
          have A_43 : Hid (Bk u43 RA [.int .i64 0,.bool false,.slice none 0 0,.int .i64 0,.int .i64 0,.int .i64 0,.slice none 0 0] 72) := by show Bk _ _ _ _; rw [← hu43,← hRA]; exact Bk.new _ _ _
          have HB_43 := keep (HB_34.out.trans (hb.mono HB_34.out.size))
          have HRAlo : Hid (wr.heap.size ≤ RA) := by have := HB_34.out.size; show _ ≤ _; omega
          have HNab : Hid (RA ≠ RB) := by have := B_34.out.lt; show _ ≠ _; omega
          have HRAf1 : Hid (RA < wc1.heap.size ∨ we1.heap.size ≤ RA) := .inr (by have := F1_35.out.size; omega)
          have F1_44 := keep (F1_35.out.trans (Fs.of_below hb))
          have B_45 := keep (B_34.out.fs (Fs.of_below (l:=[]) hb) (by simp))
          go_simp
          try rw [hu43]
          try rw [hRA]
          clear hu43 hRA hb
          refine hK.out _ _ (fun _ => HSS.out u43 HB_43.out) ?_
          clear hK K
          try simp only [Act.put,Ord.t,Ord.z,Ord.s]
          have hS := HSS.out u43 HB_43.out
          refine Ord.on (i:=9) (h:=fun K hK => ?_)
          go_simp
          refine (HC2.out u43 (HBr.out.trans (HB_43.out.mono HBr.out.size))).mono ?_
          rintro r u46 ⟨s2,v2,rfl,hst,hb⟩
          obtain ⟨wc2,hwc⟩ : ∃ y,u43 = y := ⟨_,rfl⟩
          obtain ⟨we2,hwe⟩ : ∃ y,u46 = y := ⟨_,rfl⟩
          have HST2 := keep hst
          rw [hwc,hwe] at HST2
          have HCE2 : Hid (wc2.heap.size ≤ we2.heap.size) := by show _ ≤ _; rw [← hwc,← hwe]; exact hb.size
          obtain ⟨ps2,ns2,cs2,hs2⟩ := (hst u46 [] (Fs.refl _ _) (by simp)).1.slice
          obtain ⟨pl2,cl2,hv2⟩ := lks_slice (hst u46 [] (Fs.refl _ _) (by simp)).2
          have HB_46 := keep (HB_43.out.trans (hb.mono HB_43.out.size))
          have HRAf2 : Hid (RA < wc2.heap.size ∨ we2.heap.size ≤ RA) := .inl (by rw [← hwc]; exact A_43.out.lt)
          have HRBf2 : Hid (RB < wc2.heap.size ∨ we2.heap.size ≤ RB) := .inl (by rw [← hwc]; exact B_45.out.lt)
          have F1_47 := keep (F1_44.out.trans (Fs.of_below hb))
          have B_48 := keep (B_45.out.fs (Fs.of_below (l:=[]) hb) (by simp))
          have A_49 := keep (A_43.out.fs (Fs.of_below (l:=[]) hb) (by simp))
          have F2_46 : Hid (Fs [] we2 u46) := by show Fs _ _ _; rw [← hwe]; exact Fs.refl _ _
          subst hs2 hv2
          clear hst hb hwc hwe
          go_simp
          refine hK.out _ _ (fun _ => HSS.out u46 HB_46.out) ?_
          clear hK K
          try simp only [Act.put,Ord.t,Ord.z,Ord.s]
          have hS := HSS.out u46 HB_46.out
          obtain ⟨ka1,ka2⟩ := set_seven A_49.out (.int .i64 R1.en.word) (.bool R1.en.trap) (.slice ps1 ns1 cs1) (.int .i64 R1.e) (.int .i64 (R1.ls.length : Int)) (.int .i64 R1.m) (.slice pl1 R1.ls.length cl1)
          have KA1 := keep ka1
          have KA2 := keep ka2
          clear ka1 ka2
          have HBa : Hid (Below wr.heap.size wr (u46.setCells RA 0 [.int .i64 R1.en.word,.bool R1.en.trap,.slice ps1 ns1 cs1,.int .i64 R1.e,.int .i64 (R1.ls.length : Int),.int .i64 R1.m,.slice pl1 R1.ls.length cl1])) := HB_46.out.trans (KA2.out.below HB_46.out.size (fun k hk => by simp at hk; have := HRAlo.out; omega))
          refine Ord.on (i:=12) (h:=fun K hK => ?_)
          refine step_store_mid rfl 72 (.tmp 13) (.tmp 74) rfl RA 0 #[.int .i64 R1.en.word,.bool R1.en.trap,.slice ps1 ns1 cs1,.int .i64 R1.e,.int .i64 (R1.ls.length : Int),.int .i64 R1.m,.slice pl1 R1.ls.length cl1] rfl rfl (seven_there A_49.out) (by kernel_rfl) (by simp [Value.oneCell']) ?_
          refine hK.out _ (u46.setCells RA 0 [.int .i64 R1.en.word,.bool R1.en.trap,.slice ps1 ns1 cs1,.int .i64 R1.e,.int .i64 (R1.ls.length : Int),.int .i64 R1.m,.slice pl1 R1.ls.length cl1]) (fun _ => HSS.out _ HBa.out) ?_
          clear hK K
          try simp only [Act.put,Ord.t,Ord.z,Ord.s]
          obtain ⟨wy,hwy⟩ : ∃ y,u46.setCells RA 0 [.int .i64 R1.en.word,.bool R1.en.trap,.slice ps1 ns1 cs1,.int .i64 R1.e,.int .i64 (R1.ls.length : Int),.int .i64 R1.m,.slice pl1 R1.ls.length cl1] = y := ⟨_,rfl⟩
          rw [hwy] at KA1 KA2 HBa ⊢
          clear hwy
          have hB2 := B_48.out.fs KA2.out (by simpa using Ne.symm HNab.out)
          have HB2k := keep hB2
          obtain ⟨kb1,kb2⟩ := set_seven hB2 (.int .i64 R2.en.word) (.bool R2.en.trap) (.slice ps2 ns2 cs2) (.int .i64 R2.e) (.int .i64 (R2.ls.length : Int)) (.int .i64 R2.m) (.slice pl2 R2.ls.length cl2)
          have KB1 := keep kb1
          have KB2 := keep kb2
          clear kb1 kb2 hB2
          refine Ord.on (i:=13) (h:=fun K hK => ?_)
          refine step_store_mid rfl 72 (.tmp 14) (.tmp 79) rfl RB 0 #[.int .i64 R2.en.word,.bool R2.en.trap,.slice ps2 ns2 cs2,.int .i64 R2.e,.int .i64 (R2.ls.length : Int),.int .i64 R2.m,.slice pl2 R2.ls.length cl2] rfl rfl (seven_there HB2k.out) (by kernel_rfl) (by simp [Value.oneCell']) ?_
          refine hK.out _ (wy.setCells RB 0 [.int .i64 R2.en.word,.bool R2.en.trap,.slice ps2 ns2 cs2,.int .i64 R2.e,.int .i64 (R2.ls.length : Int),.int .i64 R2.m,.slice pl2 R2.ls.length cl2]) (fun _ => HSS.out _ (HBa.out.trans (KB2.out.below HBa.out.size (fun k hk => by simp at hk; have := HRBlo.out; omega)))) ?_
          clear hK K
          try simp only [Act.put,Ord.t,Ord.z,Ord.s]
          refine Ord.wpM_done (by kernel_rfl) ?_ _
          refine NoPanic.normal ?_
          obtain ⟨wz,hwz⟩ : ∃ y,wy.setCells RB 0 [.int .i64 R2.en.word,.bool R2.en.trap,.slice ps2 ns2 cs2,.int .i64 R2.e,.int .i64 (R2.ls.length : Int),.int .i64 R2.m,.slice pl2 R2.ls.length cl2] = y := ⟨_,rfl⟩
          have HAz : Hid (Bk wz RA [.int .i64 R1.en.word,.bool R1.en.trap,.slice ps1 ns1 cs1,.int .i64 R1.e,.int .i64 (R1.ls.length : Int),.int .i64 R1.m,.slice pl1 R1.ls.length cl1] 72) := by show Bk _ _ _ _; rw [← hwz]; exact KA1.out.fs KB2.out (by simpa using HNab.out)
          have HBz : Hid (Bk wz RB [.int .i64 R2.en.word,.bool R2.en.trap,.slice ps2 ns2 cs2,.int .i64 R2.e,.int .i64 (R2.ls.length : Int),.int .i64 R2.m,.slice pl2 R2.ls.length cl2] 72) := by show Bk _ _ _ _; rw [← hwz]; exact KB1.out
          have HFz : Hid (Fs [RA,RB] u46 wz) := by show Fs _ _ _; rw [← hwz]; exact (KA2.out.mono (by simp)).trans (KB2.out.mono (by simp))
          have HWz : Hid (Below wr.heap.size wr wz) := HB_46.out.trans (HFz.out.below HB_46.out.size (fun k hk => by simp at hk; have := HRAlo.out; have := HRBlo.out; omega))
          have HS1 : Hid (∀ W,Below wz.heap.size wz W → ArrsIs W W.heap.size R1.en.arr (.slice ps1 ns1 cs1) ∧ LksIs W W.heap.size R1.ls (.slice pl1 R1.ls.length cl1)) := fun W hW => HST1.out W [RA,RB] (((F1_47.out.mono (by simp)).trans HFz.out).trans (Fs.of_below hW)) (fun b hb => by simp at hb; rcases hb with q | q <;> rw [q]; exact HRAf1.out; exact HRBf1.out)
          have HS2 : Hid (∀ W,Below wz.heap.size wz W → ArrsIs W W.heap.size R2.en.arr (.slice ps2 ns2 cs2) ∧ LksIs W W.heap.size R2.ls (.slice pl2 R2.ls.length cl2)) := fun W hW => HST2.out W [RA,RB] (((F2_46.out.mono (by simp)).trans HFz.out).trans (Fs.of_below hW)) (fun b hb => by simp at hb; rcases hb with q | q <;> rw [q]; exact HRAf2.out; exact HRBf2.out)
          rw [hwz]
          clear hwz
          exact HTk.out wz RA RB ps1 ns1 cs1 pl1 cl1 ps2 ns2 cs2 pl2 cl2 ⟨HAz.out,HBz.out,HWz.out,HS1.out,HS2.out⟩
       ·obtain ⟨u50,hu50⟩ : ∃ y,wd.alloc (.cells #[.int .i64 0,.bool false,.slice none 0 0,.int .i64 0,.int .i64 0,.int .i64 0,.slice none 0 0] 72) = y := ⟨_,rfl⟩
        obtain ⟨RA,hRA⟩ : ∃ y,wd.heap.size = y := ⟨_,rfl⟩
        have hb : Below wd.heap.size wd u50 := by rw [← hu50]; exact (Below.refl _ _).alloc (Nat.le_refl _) _
        have A_50 : Hid (Bk u50 RA [.int .i64 0,.bool false,.slice none 0 0,.int .i64 0,.int .i64 0,.int .i64 0,.slice none 0 0] 72) := by show Bk _ _ _ _; rw [← hu50,← hRA]; exact Bk.new _ _ _
        have HB_50 := keep (HD.out.trans (hb.mono HD.out.size))
        have HRAlo : Hid (wr.heap.size ≤ RA) := by have := HD.out.size; show _ ≤ _; omega
        go_simp
        try rw [hu50]
        try rw [hRA]
        clear hu50 hRA hb
        refine hK.out _ _ (fun _ => HSS.out u50 HB_50.out) ?_
        clear hK K
        try simp only [Act.put,Ord.t,Ord.z,Ord.s]
        have hS := HSS.out u50 HB_50.out
        refine Ord.wpM_two (i:=4) (j:=11) (by kernel_rfl) (by simp only [List.getElem?_toArray,List.getElem?_cons_zero,List.getElem?_cons_succ]; rfl) (by simp only [List.getElem?_toArray,List.getElem?_cons_zero,List.getElem?_cons_succ]; rfl) (fun K hK => ?_) (fun K hK => ?_)
        ·go_simp
         refine (HC1.out u50 (HBr.out.trans (HB_50.out.mono HBr.out.size))).mono ?_
         rintro r u51 ⟨s1,v1,rfl,hst,hb⟩
         obtain ⟨wc1,hwc⟩ : ∃ y,u50 = y := ⟨_,rfl⟩
         obtain ⟨we1,hwe⟩ : ∃ y,u51 = y := ⟨_,rfl⟩
         have HST1 := keep hst
         rw [hwc,hwe] at HST1
         have HCE1 : Hid (wc1.heap.size ≤ we1.heap.size) := by show _ ≤ _; rw [← hwc,← hwe]; exact hb.size
         obtain ⟨ps1,ns1,cs1,hs1⟩ := (hst u51 [] (Fs.refl _ _) (by simp)).1.slice
         obtain ⟨pl1,cl1,hv1⟩ := lks_slice (hst u51 [] (Fs.refl _ _) (by simp)).2
         have HB_51 := keep (HB_50.out.trans (hb.mono HB_50.out.size))
         have HRAf1 : Hid (RA < wc1.heap.size ∨ we1.heap.size ≤ RA) := .inl (by rw [← hwc]; exact A_50.out.lt)
         have A_52 := keep (A_50.out.fs (Fs.of_below (l:=[]) hb) (by simp))
         have F1_51 : Hid (Fs [] we1 u51) := by show Fs _ _ _; rw [← hwe]; exact Fs.refl _ _
         subst hs1 hv1
         clear hst hb hwc hwe
         go_simp
         refine hK.out _ _ (fun _ => HSS.out u51 HB_51.out) ?_
         clear hK K
         try simp only [Act.put,Ord.t,Ord.z,Ord.s]
         have hS := HSS.out u51 HB_51.out
         refine Ord.wpM_two (i:=9) (j:=11) (by kernel_rfl) (by simp only [List.getElem?_toArray,List.getElem?_cons_zero,List.getElem?_cons_succ]; rfl) (by simp only [List.getElem?_toArray,List.getElem?_cons_zero,List.getElem?_cons_succ]; rfl) (fun K hK => ?_) (fun K hK => ?_)
         ·go_simp
          refine (HC2.out u51 (HBr.out.trans (HB_51.out.mono HBr.out.size))).mono ?_
          rintro r u53 ⟨s2,v2,rfl,hst,hb⟩
          obtain ⟨wc2,hwc⟩ : ∃ y,u51 = y := ⟨_,rfl⟩
          obtain ⟨we2,hwe⟩ : ∃ y,u53 = y := ⟨_,rfl⟩
          have HST2 := keep hst
          rw [hwc,hwe] at HST2
          have HCE2 : Hid (wc2.heap.size ≤ we2.heap.size) := by show _ ≤ _; rw [← hwc,← hwe]; exact hb.size
          obtain ⟨ps2,ns2,cs2,hs2⟩ := (hst u53 [] (Fs.refl _ _) (by simp)).1.slice
          obtain ⟨pl2,cl2,hv2⟩ := lks_slice (hst u53 [] (Fs.refl _ _) (by simp)).2
          have HB_53 := keep (HB_51.out.trans (hb.mono HB_51.out.size))
          have HRAf2 : Hid (RA < wc2.heap.size ∨ we2.heap.size ≤ RA) := .inl (by rw [← hwc]; exact A_52.out.lt)
          have A_54 := keep (A_52.out.fs (Fs.of_below (l:=[]) hb) (by simp))
          have F1_55 := keep (F1_51.out.trans (Fs.of_below hb))
          have F2_53 : Hid (Fs [] we2 u53) := by show Fs _ _ _; rw [← hwe]; exact Fs.refl _ _
          subst hs2 hv2
          clear hst hb hwc hwe
          go_simp
          refine hK.out _ _ (fun _ => HSS.out u53 HB_53.out) ?_
          clear hK K
          try simp only [Act.put,Ord.t,Ord.z,Ord.s]
          have hS := HSS.out u53 HB_53.out
          refine Ord.on (i:=11) (h:=fun K hK => ?_)
          obtain ⟨u56,hu56⟩ : ∃ y,u53.alloc (.cells #[.int .i64 0,.bool false,.slice none 0 0,.int .i64 0,.int .i64 0,.int .i64 0,.slice none 0 0] 72) = y := ⟨_,rfl⟩
          obtain ⟨RB,hRB⟩ : ∃ y,u53.heap.size = y := ⟨_,rfl⟩
          have hb : Below u53.heap.size u53 u56 := by rw [← hu56]; exact (Below.refl _ _).alloc (Nat.le_refl _) _
          have B_56 : Hid (Bk u56 RB [.int .i64 0,.bool false,.slice none 0 0,.int .i64 0,.int .i64 0,.int .i64 0,.slice none 0 0] 72) := by show Bk _ _ _ _; rw [← hu56,← hRB]; exact Bk.new _ _ _
          have HB_56 := keep (HB_53.out.trans (hb.mono HB_53.out.size))
          have HRBlo : Hid (wr.heap.size ≤ RB) := by have := HB_53.out.size; show _ ≤ _; omega
          have HNab : Hid (RA ≠ RB) := by have := A_54.out.lt; show _ ≠ _; omega
          have HRBf1 : Hid (RB < wc1.heap.size ∨ we1.heap.size ≤ RB) := .inr (by have := F1_55.out.size; omega)
          have HRBf2 : Hid (RB < wc2.heap.size ∨ we2.heap.size ≤ RB) := .inr (by have := F2_53.out.size; omega)
          have A_57 := keep (A_54.out.fs (Fs.of_below (l:=[]) hb) (by simp))
          have F1_58 := keep (F1_55.out.trans (Fs.of_below hb))
          have F2_59 := keep (F2_53.out.trans (Fs.of_below hb))
          go_simp
          try rw [hu56]
          try rw [hRB]
          clear hu56 hRB hb
          refine hK.out _ _ (fun _ => HSS.out u56 HB_56.out) ?_
          clear hK K
          try simp only [Act.put,Ord.t,Ord.z,Ord.s]
          have hS := HSS.out u56 HB_56.out
          obtain ⟨ka1,ka2⟩ := set_seven A_57.out (.int .i64 R1.en.word) (.bool R1.en.trap) (.slice ps1 ns1 cs1) (.int .i64 R1.e) (.int .i64 (R1.ls.length : Int)) (.int .i64 R1.m) (.slice pl1 R1.ls.length cl1)
          have KA1 := keep ka1
          have KA2 := keep ka2
          clear ka1 ka2
          have HBa : Hid (Below wr.heap.size wr (u56.setCells RA 0 [.int .i64 R1.en.word,.bool R1.en.trap,.slice ps1 ns1 cs1,.int .i64 R1.e,.int .i64 (R1.ls.length : Int),.int .i64 R1.m,.slice pl1 R1.ls.length cl1])) := HB_56.out.trans (KA2.out.below HB_56.out.size (fun k hk => by simp at hk; have := HRAlo.out; omega))
          refine Ord.on (i:=12) (h:=fun K hK => ?_)
          refine step_store_mid rfl 72 (.tmp 13) (.tmp 74) rfl RA 0 #[.int .i64 R1.en.word,.bool R1.en.trap,.slice ps1 ns1 cs1,.int .i64 R1.e,.int .i64 (R1.ls.length : Int),.int .i64 R1.m,.slice pl1 R1.ls.length cl1] rfl rfl (seven_there A_57.out) (by kernel_rfl) (by simp [Value.oneCell']) ?_
          refine hK.out _ (u56.setCells RA 0 [.int .i64 R1.en.word,.bool R1.en.trap,.slice ps1 ns1 cs1,.int .i64 R1.e,.int .i64 (R1.ls.length : Int),.int .i64 R1.m,.slice pl1 R1.ls.length cl1]) (fun _ => HSS.out _ HBa.out) ?_
          clear hK K
          try simp only [Act.put,Ord.t,Ord.z,Ord.s]
          obtain ⟨wy,hwy⟩ : ∃ y,u56.setCells RA 0 [.int .i64 R1.en.word,.bool R1.en.trap,.slice ps1 ns1 cs1,.int .i64 R1.e,.int .i64 (R1.ls.length : Int),.int .i64 R1.m,.slice pl1 R1.ls.length cl1] = y := ⟨_,rfl⟩
          rw [hwy] at KA1 KA2 HBa ⊢
          clear hwy
          have hB2 := B_56.out.fs KA2.out (by simpa using Ne.symm HNab.out)
          have HB2k := keep hB2
          obtain ⟨kb1,kb2⟩ := set_seven hB2 (.int .i64 R2.en.word) (.bool R2.en.trap) (.slice ps2 ns2 cs2) (.int .i64 R2.e) (.int .i64 (R2.ls.length : Int)) (.int .i64 R2.m) (.slice pl2 R2.ls.length cl2)
          have KB1 := keep kb1
          have KB2 := keep kb2
          clear kb1 kb2 hB2
          refine Ord.on (i:=13) (h:=fun K hK => ?_)
          refine step_store_mid rfl 72 (.tmp 14) (.tmp 79) rfl RB 0 #[.int .i64 R2.en.word,.bool R2.en.trap,.slice ps2 ns2 cs2,.int .i64 R2.e,.int .i64 (R2.ls.length : Int),.int .i64 R2.m,.slice pl2 R2.ls.length cl2] rfl rfl (seven_there HB2k.out) (by kernel_rfl) (by simp [Value.oneCell']) ?_
          refine hK.out _ (wy.setCells RB 0 [.int .i64 R2.en.word,.bool R2.en.trap,.slice ps2 ns2 cs2,.int .i64 R2.e,.int .i64 (R2.ls.length : Int),.int .i64 R2.m,.slice pl2 R2.ls.length cl2]) (fun _ => HSS.out _ (HBa.out.trans (KB2.out.below HBa.out.size (fun k hk => by simp at hk; have := HRBlo.out; omega)))) ?_
          clear hK K
          try simp only [Act.put,Ord.t,Ord.z,Ord.s]
          refine Ord.wpM_done (by kernel_rfl) ?_ _
          refine NoPanic.normal ?_
          obtain ⟨wz,hwz⟩ : ∃ y,wy.setCells RB 0 [.int .i64 R2.en.word,.bool R2.en.trap,.slice ps2 ns2 cs2,.int .i64 R2.e,.int .i64 (R2.ls.length : Int),.int .i64 R2.m,.slice pl2 R2.ls.length cl2] = y := ⟨_,rfl⟩
          have HAz : Hid (Bk wz RA [.int .i64 R1.en.word,.bool R1.en.trap,.slice ps1 ns1 cs1,.int .i64 R1.e,.int .i64 (R1.ls.length : Int),.int .i64 R1.m,.slice pl1 R1.ls.length cl1] 72) := by show Bk _ _ _ _; rw [← hwz]; exact KA1.out.fs KB2.out (by simpa using HNab.out)
          have HBz : Hid (Bk wz RB [.int .i64 R2.en.word,.bool R2.en.trap,.slice ps2 ns2 cs2,.int .i64 R2.e,.int .i64 (R2.ls.length : Int),.int .i64 R2.m,.slice pl2 R2.ls.length cl2] 72) := by show Bk _ _ _ _; rw [← hwz]; exact KB1.out
          have HFz : Hid (Fs [RA,RB] u56 wz) := by show Fs _ _ _; rw [← hwz]; exact (KA2.out.mono (by simp)).trans (KB2.out.mono (by simp))
          have HWz : Hid (Below wr.heap.size wr wz) := HB_56.out.trans (HFz.out.below HB_56.out.size (fun k hk => by simp at hk; have := HRAlo.out; have := HRBlo.out; omega))
          have HS1 : Hid (∀ W,Below wz.heap.size wz W → ArrsIs W W.heap.size R1.en.arr (.slice ps1 ns1 cs1) ∧ LksIs W W.heap.size R1.ls (.slice pl1 R1.ls.length cl1)) := fun W hW => HST1.out W [RA,RB] (((F1_58.out.mono (by simp)).trans HFz.out).trans (Fs.of_below hW)) (fun b hb => by simp at hb; rcases hb with q | q <;> rw [q]; exact HRAf1.out; exact HRBf1.out)
          have HS2 : Hid (∀ W,Below wz.heap.size wz W → ArrsIs W W.heap.size R2.en.arr (.slice ps2 ns2 cs2) ∧ LksIs W W.heap.size R2.ls (.slice pl2 R2.ls.length cl2)) := fun W hW => HST2.out W [RA,RB] (((F2_59.out.mono (by simp)).trans HFz.out).trans (Fs.of_below hW)) (fun b hb => by simp at hb; rcases hb with q | q <;> rw [q]; exact HRAf2.out; exact HRBf2.out)
          rw [hwz]
          clear hwz
          exact HTk.out wz RA RB ps1 ns1 cs1 pl1 cl1 ps2 ns2 cs2 pl2 cl2 ⟨HAz.out,HBz.out,HWz.out,HS1.out,HS2.out⟩
         ·obtain ⟨u60,hu60⟩ : ∃ y,u51.alloc (.cells #[.int .i64 0,.bool false,.slice none 0 0,.int .i64 0,.int .i64 0,.int .i64 0,.slice none 0 0] 72) = y := ⟨_,rfl⟩
          obtain ⟨RB,hRB⟩ : ∃ y,u51.heap.size = y := ⟨_,rfl⟩
          have hb : Below u51.heap.size u51 u60 := by rw [← hu60]; exact (Below.refl _ _).alloc (Nat.le_refl _) _
          have B_60 : Hid (Bk u60 RB [.int .i64 0,.bool false,.slice none 0 0,.int .i64 0,.int .i64 0,.int .i64 0,.slice none 0 0] 72) := by show Bk _ _ _ _; rw [← hu60,← hRB]; exact Bk.new _ _ _
          have HB_60 := keep (HB_51.out.trans (hb.mono HB_51.out.size))
          have HRBlo : Hid (wr.heap.size ≤ RB) := by have := HB_51.out.size; show _ ≤ _; omega
          have HNab : Hid (RA ≠ RB) := by have := A_52.out.lt; show _ ≠ _; omega
          have HRBf1 : Hid (RB < wc1.heap.size ∨ we1.heap.size ≤ RB) := .inr (by have := F1_51.out.size; omega)
          have A_61 := keep (A_52.out.fs (Fs.of_below (l:=[]) hb) (by simp))
          have F1_62 := keep (F1_51.out.trans (Fs.of_below hb))
          go_simp
          try rw [hu60]
          try rw [hRB]
          clear hu60 hRB hb
          refine hK.out _ _ (fun _ => HSS.out u60 HB_60.out) ?_
          clear hK K
          try simp only [Act.put,Ord.t,Ord.z,Ord.s]
          have hS := HSS.out u60 HB_60.out
          refine Ord.on (i:=9) (h:=fun K hK => ?_)
          go_simp
          refine (HC2.out u60 (HBr.out.trans (HB_60.out.mono HBr.out.size))).mono ?_
          rintro r u63 ⟨s2,v2,rfl,hst,hb⟩
          obtain ⟨wc2,hwc⟩ : ∃ y,u60 = y := ⟨_,rfl⟩
          obtain ⟨we2,hwe⟩ : ∃ y,u63 = y := ⟨_,rfl⟩
          have HST2 := keep hst
          rw [hwc,hwe] at HST2
          have HCE2 : Hid (wc2.heap.size ≤ we2.heap.size) := by show _ ≤ _; rw [← hwc,← hwe]; exact hb.size
          obtain ⟨ps2,ns2,cs2,hs2⟩ := (hst u63 [] (Fs.refl _ _) (by simp)).1.slice
          obtain ⟨pl2,cl2,hv2⟩ := lks_slice (hst u63 [] (Fs.refl _ _) (by simp)).2
          have HB_63 := keep (HB_60.out.trans (hb.mono HB_60.out.size))
          have HRAf2 : Hid (RA < wc2.heap.size ∨ we2.heap.size ≤ RA) := .inl (by rw [← hwc]; exact A_61.out.lt)
          have HRBf2 : Hid (RB < wc2.heap.size ∨ we2.heap.size ≤ RB) := .inl (by rw [← hwc]; exact B_60.out.lt)
          have A_64 := keep (A_61.out.fs (Fs.of_below (l:=[]) hb) (by simp))
          have F1_65 := keep (F1_62.out.trans (Fs.of_below hb))
          have B_66 := keep (B_60.out.fs (Fs.of_below (l:=[]) hb) (by simp))
          have F2_63 : Hid (Fs [] we2 u63) := by show Fs _ _ _; rw [← hwe]; exact Fs.refl _ _
          subst hs2 hv2
          clear hst hb hwc hwe
          go_simp
          refine hK.out _ _ (fun _ => HSS.out u63 HB_63.out) ?_
          clear hK K
          try simp only [Act.put,Ord.t,Ord.z,Ord.s]
          have hS := HSS.out u63 HB_63.out
          obtain ⟨ka1,ka2⟩ := set_seven A_64.out (.int .i64 R1.en.word) (.bool R1.en.trap) (.slice ps1 ns1 cs1) (.int .i64 R1.e) (.int .i64 (R1.ls.length : Int)) (.int .i64 R1.m) (.slice pl1 R1.ls.length cl1)
          have KA1 := keep ka1
          have KA2 := keep ka2
          clear ka1 ka2
          have HBa : Hid (Below wr.heap.size wr (u63.setCells RA 0 [.int .i64 R1.en.word,.bool R1.en.trap,.slice ps1 ns1 cs1,.int .i64 R1.e,.int .i64 (R1.ls.length : Int),.int .i64 R1.m,.slice pl1 R1.ls.length cl1])) := HB_63.out.trans (KA2.out.below HB_63.out.size (fun k hk => by simp at hk; have := HRAlo.out; omega))
          refine Ord.on (i:=12) (h:=fun K hK => ?_)
          refine step_store_mid rfl 72 (.tmp 13) (.tmp 74) rfl RA 0 #[.int .i64 R1.en.word,.bool R1.en.trap,.slice ps1 ns1 cs1,.int .i64 R1.e,.int .i64 (R1.ls.length : Int),.int .i64 R1.m,.slice pl1 R1.ls.length cl1] rfl rfl (seven_there A_64.out) (by kernel_rfl) (by simp [Value.oneCell']) ?_
          refine hK.out _ (u63.setCells RA 0 [.int .i64 R1.en.word,.bool R1.en.trap,.slice ps1 ns1 cs1,.int .i64 R1.e,.int .i64 (R1.ls.length : Int),.int .i64 R1.m,.slice pl1 R1.ls.length cl1]) (fun _ => HSS.out _ HBa.out) ?_
          clear hK K
          try simp only [Act.put,Ord.t,Ord.z,Ord.s]
          obtain ⟨wy,hwy⟩ : ∃ y,u63.setCells RA 0 [.int .i64 R1.en.word,.bool R1.en.trap,.slice ps1 ns1 cs1,.int .i64 R1.e,.int .i64 (R1.ls.length : Int),.int .i64 R1.m,.slice pl1 R1.ls.length cl1] = y := ⟨_,rfl⟩
          rw [hwy] at KA1 KA2 HBa ⊢
          clear hwy
          have hB2 := B_66.out.fs KA2.out (by simpa using Ne.symm HNab.out)
          have HB2k := keep hB2
          obtain ⟨kb1,kb2⟩ := set_seven hB2 (.int .i64 R2.en.word) (.bool R2.en.trap) (.slice ps2 ns2 cs2) (.int .i64 R2.e) (.int .i64 (R2.ls.length : Int)) (.int .i64 R2.m) (.slice pl2 R2.ls.length cl2)
          have KB1 := keep kb1
          have KB2 := keep kb2
          clear kb1 kb2 hB2
          refine Ord.on (i:=13) (h:=fun K hK => ?_)
          refine step_store_mid rfl 72 (.tmp 14) (.tmp 79) rfl RB 0 #[.int .i64 R2.en.word,.bool R2.en.trap,.slice ps2 ns2 cs2,.int .i64 R2.e,.int .i64 (R2.ls.length : Int),.int .i64 R2.m,.slice pl2 R2.ls.length cl2] rfl rfl (seven_there HB2k.out) (by kernel_rfl) (by simp [Value.oneCell']) ?_
          refine hK.out _ (wy.setCells RB 0 [.int .i64 R2.en.word,.bool R2.en.trap,.slice ps2 ns2 cs2,.int .i64 R2.e,.int .i64 (R2.ls.length : Int),.int .i64 R2.m,.slice pl2 R2.ls.length cl2]) (fun _ => HSS.out _ (HBa.out.trans (KB2.out.below HBa.out.size (fun k hk => by simp at hk; have := HRBlo.out; omega)))) ?_
          clear hK K
          try simp only [Act.put,Ord.t,Ord.z,Ord.s]
          refine Ord.wpM_done (by kernel_rfl) ?_ _
          refine NoPanic.normal ?_
          obtain ⟨wz,hwz⟩ : ∃ y,wy.setCells RB 0 [.int .i64 R2.en.word,.bool R2.en.trap,.slice ps2 ns2 cs2,.int .i64 R2.e,.int .i64 (R2.ls.length : Int),.int .i64 R2.m,.slice pl2 R2.ls.length cl2] = y := ⟨_,rfl⟩
          have HAz : Hid (Bk wz RA [.int .i64 R1.en.word,.bool R1.en.trap,.slice ps1 ns1 cs1,.int .i64 R1.e,.int .i64 (R1.ls.length : Int),.int .i64 R1.m,.slice pl1 R1.ls.length cl1] 72) := by show Bk _ _ _ _; rw [← hwz]; exact KA1.out.fs KB2.out (by simpa using HNab.out)
          have HBz : Hid (Bk wz RB [.int .i64 R2.en.word,.bool R2.en.trap,.slice ps2 ns2 cs2,.int .i64 R2.e,.int .i64 (R2.ls.length : Int),.int .i64 R2.m,.slice pl2 R2.ls.length cl2] 72) := by show Bk _ _ _ _; rw [← hwz]; exact KB1.out
          have HFz : Hid (Fs [RA,RB] u63 wz) := by show Fs _ _ _; rw [← hwz]; exact (KA2.out.mono (by simp)).trans (KB2.out.mono (by simp))
          have HWz : Hid (Below wr.heap.size wr wz) := HB_63.out.trans (HFz.out.below HB_63.out.size (fun k hk => by simp at hk; have := HRAlo.out; have := HRBlo.out; omega))
          have HS1 : Hid (∀ W,Below wz.heap.size wz W → ArrsIs W W.heap.size R1.en.arr (.slice ps1 ns1 cs1) ∧ LksIs W W.heap.size R1.ls (.slice pl1 R1.ls.length cl1)) := fun W hW => HST1.out W [RA,RB] (((F1_65.out.mono (by simp)).trans HFz.out).trans (Fs.of_below hW)) (fun b hb => by simp at hb; rcases hb with q | q <;> rw [q]; exact HRAf1.out; exact HRBf1.out)
          have HS2 : Hid (∀ W,Below wz.heap.size wz W → ArrsIs W W.heap.size R2.en.arr (.slice ps2 ns2 cs2) ∧ LksIs W W.heap.size R2.ls (.slice pl2 R2.ls.length cl2)) := fun W hW => HST2.out W [RA,RB] (((F2_63.out.mono (by simp)).trans HFz.out).trans (Fs.of_below hW)) (fun b hb => by simp at hb; rcases hb with q | q <;> rw [q]; exact HRAf2.out; exact HRBf2.out)
          rw [hwz]
          clear hwz
          exact HTk.out wz RA RB ps1 ns1 cs1 pl1 cl1 ps2 ns2 cs2 pl2 cl2 ⟨HAz.out,HBz.out,HWz.out,HS1.out,HS2.out⟩
        ·obtain ⟨u67,hu67⟩ : ∃ y,u50.alloc (.cells #[.int .i64 0,.bool false,.slice none 0 0,.int .i64 0,.int .i64 0,.int .i64 0,.slice none 0 0] 72) = y := ⟨_,rfl⟩
         obtain ⟨RB,hRB⟩ : ∃ y,u50.heap.size = y := ⟨_,rfl⟩
         have hb : Below u50.heap.size u50 u67 := by rw [← hu67]; exact (Below.refl _ _).alloc (Nat.le_refl _) _
         have B_67 : Hid (Bk u67 RB [.int .i64 0,.bool false,.slice none 0 0,.int .i64 0,.int .i64 0,.int .i64 0,.slice none 0 0] 72) := by show Bk _ _ _ _; rw [← hu67,← hRB]; exact Bk.new _ _ _
         have HB_67 := keep (HB_50.out.trans (hb.mono HB_50.out.size))
         have HRBlo : Hid (wr.heap.size ≤ RB) := by have := HB_50.out.size; show _ ≤ _; omega
         have HNab : Hid (RA ≠ RB) := by have := A_50.out.lt; show _ ≠ _; omega
         have A_68 := keep (A_50.out.fs (Fs.of_below (l:=[]) hb) (by simp))
         go_simp
         try rw [hu67]
         try rw [hRB]
         clear hu67 hRB hb
         refine hK.out _ _ (fun _ => HSS.out u67 HB_67.out) ?_
         clear hK K
         try simp only [Act.put,Ord.t,Ord.z,Ord.s]
         have hS := HSS.out u67 HB_67.out
         refine Ord.on (i:=4) (h:=fun K hK => ?_)
         go_simp
         refine (HC1.out u67 (HBr.out.trans (HB_67.out.mono HBr.out.size))).mono ?_
         rintro r u69 ⟨s1,v1,rfl,hst,hb⟩
         obtain ⟨wc1,hwc⟩ : ∃ y,u67 = y := ⟨_,rfl⟩
         obtain ⟨we1,hwe⟩ : ∃ y,u69 = y := ⟨_,rfl⟩
         have HST1 := keep hst
         rw [hwc,hwe] at HST1
         have HCE1 : Hid (wc1.heap.size ≤ we1.heap.size) := by show _ ≤ _; rw [← hwc,← hwe]; exact hb.size
         obtain ⟨ps1,ns1,cs1,hs1⟩ := (hst u69 [] (Fs.refl _ _) (by simp)).1.slice
         obtain ⟨pl1,cl1,hv1⟩ := lks_slice (hst u69 [] (Fs.refl _ _) (by simp)).2
         have HB_69 := keep (HB_67.out.trans (hb.mono HB_67.out.size))
         have HRAf1 : Hid (RA < wc1.heap.size ∨ we1.heap.size ≤ RA) := .inl (by rw [← hwc]; exact A_68.out.lt)
         have HRBf1 : Hid (RB < wc1.heap.size ∨ we1.heap.size ≤ RB) := .inl (by rw [← hwc]; exact B_67.out.lt)
         have A_70 := keep (A_68.out.fs (Fs.of_below (l:=[]) hb) (by simp))
         have B_71 := keep (B_67.out.fs (Fs.of_below (l:=[]) hb) (by simp))
         have F1_69 : Hid (Fs [] we1 u69) := by show Fs _ _ _; rw [← hwe]; exact Fs.refl _ _
         subst hs1 hv1
         clear hst hb hwc hwe
         go_simp
         refine hK.out _ _ (fun _ => HSS.out u69 HB_69.out) ?_
         clear hK K
         try simp only [Act.put,Ord.t,Ord.z,Ord.s]
         have hS := HSS.out u69 HB_69.out
         refine Ord.on (i:=9) (h:=fun K hK => ?_)
         go_simp
         refine (HC2.out u69 (HBr.out.trans (HB_69.out.mono HBr.out.size))).mono ?_
         rintro r u72 ⟨s2,v2,rfl,hst,hb⟩
         obtain ⟨wc2,hwc⟩ : ∃ y,u69 = y := ⟨_,rfl⟩
         obtain ⟨we2,hwe⟩ : ∃ y,u72 = y := ⟨_,rfl⟩
         have HST2 := keep hst
         rw [hwc,hwe] at HST2
         have HCE2 : Hid (wc2.heap.size ≤ we2.heap.size) := by show _ ≤ _; rw [← hwc,← hwe]; exact hb.size
         obtain ⟨ps2,ns2,cs2,hs2⟩ := (hst u72 [] (Fs.refl _ _) (by simp)).1.slice
         obtain ⟨pl2,cl2,hv2⟩ := lks_slice (hst u72 [] (Fs.refl _ _) (by simp)).2
         have HB_72 := keep (HB_69.out.trans (hb.mono HB_69.out.size))
         have HRAf2 : Hid (RA < wc2.heap.size ∨ we2.heap.size ≤ RA) := .inl (by rw [← hwc]; exact A_70.out.lt)
         have HRBf2 : Hid (RB < wc2.heap.size ∨ we2.heap.size ≤ RB) := .inl (by rw [← hwc]; exact B_71.out.lt)
         have A_73 := keep (A_70.out.fs (Fs.of_below (l:=[]) hb) (by simp))
         have B_74 := keep (B_71.out.fs (Fs.of_below (l:=[]) hb) (by simp))
         have F1_75 := keep (F1_69.out.trans (Fs.of_below hb))
         have F2_72 : Hid (Fs [] we2 u72) := by show Fs _ _ _; rw [← hwe]; exact Fs.refl _ _
         subst hs2 hv2
         clear hst hb hwc hwe
         go_simp
         refine hK.out _ _ (fun _ => HSS.out u72 HB_72.out) ?_
         clear hK K
         try simp only [Act.put,Ord.t,Ord.z,Ord.s]
         have hS := HSS.out u72 HB_72.out
         obtain ⟨ka1,ka2⟩ := set_seven A_73.out (.int .i64 R1.en.word) (.bool R1.en.trap) (.slice ps1 ns1 cs1) (.int .i64 R1.e) (.int .i64 (R1.ls.length : Int)) (.int .i64 R1.m) (.slice pl1 R1.ls.length cl1)
         have KA1 := keep ka1
         have KA2 := keep ka2
         clear ka1 ka2
         have HBa : Hid (Below wr.heap.size wr (u72.setCells RA 0 [.int .i64 R1.en.word,.bool R1.en.trap,.slice ps1 ns1 cs1,.int .i64 R1.e,.int .i64 (R1.ls.length : Int),.int .i64 R1.m,.slice pl1 R1.ls.length cl1])) := HB_72.out.trans (KA2.out.below HB_72.out.size (fun k hk => by simp at hk; have := HRAlo.out; omega))
         refine Ord.on (i:=12) (h:=fun K hK => ?_)
         refine step_store_mid rfl 72 (.tmp 13) (.tmp 74) rfl RA 0 #[.int .i64 R1.en.word,.bool R1.en.trap,.slice ps1 ns1 cs1,.int .i64 R1.e,.int .i64 (R1.ls.length : Int),.int .i64 R1.m,.slice pl1 R1.ls.length cl1] rfl rfl (seven_there A_73.out) (by kernel_rfl) (by simp [Value.oneCell']) ?_
         refine hK.out _ (u72.setCells RA 0 [.int .i64 R1.en.word,.bool R1.en.trap,.slice ps1 ns1 cs1,.int .i64 R1.e,.int .i64 (R1.ls.length : Int),.int .i64 R1.m,.slice pl1 R1.ls.length cl1]) (fun _ => HSS.out _ HBa.out) ?_
         clear hK K
         try simp only [Act.put,Ord.t,Ord.z,Ord.s]
         obtain ⟨wy,hwy⟩ : ∃ y,u72.setCells RA 0 [.int .i64 R1.en.word,.bool R1.en.trap,.slice ps1 ns1 cs1,.int .i64 R1.e,.int .i64 (R1.ls.length : Int),.int .i64 R1.m,.slice pl1 R1.ls.length cl1] = y := ⟨_,rfl⟩
         rw [hwy] at KA1 KA2 HBa ⊢
         clear hwy
         have hB2 := B_74.out.fs KA2.out (by simpa using Ne.symm HNab.out)
         have HB2k := keep hB2
         obtain ⟨kb1,kb2⟩ := set_seven hB2 (.int .i64 R2.en.word) (.bool R2.en.trap) (.slice ps2 ns2 cs2) (.int .i64 R2.e) (.int .i64 (R2.ls.length : Int)) (.int .i64 R2.m) (.slice pl2 R2.ls.length cl2)
         have KB1 := keep kb1
         have KB2 := keep kb2
         clear kb1 kb2 hB2
         refine Ord.on (i:=13) (h:=fun K hK => ?_)
         refine step_store_mid rfl 72 (.tmp 14) (.tmp 79) rfl RB 0 #[.int .i64 R2.en.word,.bool R2.en.trap,.slice ps2 ns2 cs2,.int .i64 R2.e,.int .i64 (R2.ls.length : Int),.int .i64 R2.m,.slice pl2 R2.ls.length cl2] rfl rfl (seven_there HB2k.out) (by kernel_rfl) (by simp [Value.oneCell']) ?_
         refine hK.out _ (wy.setCells RB 0 [.int .i64 R2.en.word,.bool R2.en.trap,.slice ps2 ns2 cs2,.int .i64 R2.e,.int .i64 (R2.ls.length : Int),.int .i64 R2.m,.slice pl2 R2.ls.length cl2]) (fun _ => HSS.out _ (HBa.out.trans (KB2.out.below HBa.out.size (fun k hk => by simp at hk; have := HRBlo.out; omega)))) ?_
         clear hK K
         try simp only [Act.put,Ord.t,Ord.z,Ord.s]
         refine Ord.wpM_done (by kernel_rfl) ?_ _
         refine NoPanic.normal ?_
         obtain ⟨wz,hwz⟩ : ∃ y,wy.setCells RB 0 [.int .i64 R2.en.word,.bool R2.en.trap,.slice ps2 ns2 cs2,.int .i64 R2.e,.int .i64 (R2.ls.length : Int),.int .i64 R2.m,.slice pl2 R2.ls.length cl2] = y := ⟨_,rfl⟩
         have HAz : Hid (Bk wz RA [.int .i64 R1.en.word,.bool R1.en.trap,.slice ps1 ns1 cs1,.int .i64 R1.e,.int .i64 (R1.ls.length : Int),.int .i64 R1.m,.slice pl1 R1.ls.length cl1] 72) := by show Bk _ _ _ _; rw [← hwz]; exact KA1.out.fs KB2.out (by simpa using HNab.out)
         have HBz : Hid (Bk wz RB [.int .i64 R2.en.word,.bool R2.en.trap,.slice ps2 ns2 cs2,.int .i64 R2.e,.int .i64 (R2.ls.length : Int),.int .i64 R2.m,.slice pl2 R2.ls.length cl2] 72) := by show Bk _ _ _ _; rw [← hwz]; exact KB1.out
         have HFz : Hid (Fs [RA,RB] u72 wz) := by show Fs _ _ _; rw [← hwz]; exact (KA2.out.mono (by simp)).trans (KB2.out.mono (by simp))
         have HWz : Hid (Below wr.heap.size wr wz) := HB_72.out.trans (HFz.out.below HB_72.out.size (fun k hk => by simp at hk; have := HRAlo.out; have := HRBlo.out; omega))
         have HS1 : Hid (∀ W,Below wz.heap.size wz W → ArrsIs W W.heap.size R1.en.arr (.slice ps1 ns1 cs1) ∧ LksIs W W.heap.size R1.ls (.slice pl1 R1.ls.length cl1)) := fun W hW => HST1.out W [RA,RB] (((F1_75.out.mono (by simp)).trans HFz.out).trans (Fs.of_below hW)) (fun b hb => by simp at hb; rcases hb with q | q <;> rw [q]; exact HRAf1.out; exact HRBf1.out)
         have HS2 : Hid (∀ W,Below wz.heap.size wz W → ArrsIs W W.heap.size R2.en.arr (.slice ps2 ns2 cs2) ∧ LksIs W W.heap.size R2.ls (.slice pl2 R2.ls.length cl2)) := fun W hW => HST2.out W [RA,RB] (((F2_72.out.mono (by simp)).trans HFz.out).trans (Fs.of_below hW)) (fun b hb => by simp at hb; rcases hb with q | q <;> rw [q]; exact HRAf2.out; exact HRBf2.out)
         rw [hwz]
         clear hwz
         exact HTk.out wz RA RB ps1 ns1 cs1 pl1 cl1 ps2 ns2 cs2 pl2 cl2 ⟨HAz.out,HBz.out,HWz.out,HS1.out,HS2.out⟩
       ·obtain ⟨u76,hu76⟩ : ∃ y,wd.alloc (.cells #[.int .i64 0,.bool false,.slice none 0 0,.int .i64 0,.int .i64 0,.int .i64 0,.slice none 0 0] 72) = y := ⟨_,rfl⟩
        obtain ⟨RB,hRB⟩ : ∃ y,wd.heap.size = y := ⟨_,rfl⟩
        have hb : Below wd.heap.size wd u76 := by rw [← hu76]; exact (Below.refl _ _).alloc (Nat.le_refl _) _
        have B_76 : Hid (Bk u76 RB [.int .i64 0,.bool false,.slice none 0 0,.int .i64 0,.int .i64 0,.int .i64 0,.slice none 0 0] 72) := by show Bk _ _ _ _; rw [← hu76,← hRB]; exact Bk.new _ _ _
        have HB_76 := keep (HD.out.trans (hb.mono HD.out.size))
        have HRBlo : Hid (wr.heap.size ≤ RB) := by have := HD.out.size; show _ ≤ _; omega
        go_simp
        try rw [hu76]
        try rw [hRB]
        clear hu76 hRB hb
        refine hK.out _ _ (fun _ => HSS.out u76 HB_76.out) ?_
        clear hK K
        try simp only [Act.put,Ord.t,Ord.z,Ord.s]
        have hS := HSS.out u76 HB_76.out
        refine Ord.wpM_two (i:=4) (j:=10) (by kernel_rfl) (by simp only [List.getElem?_toArray,List.getElem?_cons_zero,List.getElem?_cons_succ]; rfl) (by simp only [List.getElem?_toArray,List.getElem?_cons_zero,List.getElem?_cons_succ]; rfl) (fun K hK => ?_) (fun K hK => ?_)
        ·go_simp
         refine (HC1.out u76 (HBr.out.trans (HB_76.out.mono HBr.out.size))).mono ?_
         rintro r u77 ⟨s1,v1,rfl,hst,hb⟩
         obtain ⟨wc1,hwc⟩ : ∃ y,u76 = y := ⟨_,rfl⟩
         obtain ⟨we1,hwe⟩ : ∃ y,u77 = y := ⟨_,rfl⟩
         have HST1 := keep hst
         rw [hwc,hwe] at HST1
         have HCE1 : Hid (wc1.heap.size ≤ we1.heap.size) := by show _ ≤ _; rw [← hwc,← hwe]; exact hb.size
         obtain ⟨ps1,ns1,cs1,hs1⟩ := (hst u77 [] (Fs.refl _ _) (by simp)).1.slice
         obtain ⟨pl1,cl1,hv1⟩ := lks_slice (hst u77 [] (Fs.refl _ _) (by simp)).2
         have HB_77 := keep (HB_76.out.trans (hb.mono HB_76.out.size))
         have HRBf1 : Hid (RB < wc1.heap.size ∨ we1.heap.size ≤ RB) := .inl (by rw [← hwc]; exact B_76.out.lt)
         have B_78 := keep (B_76.out.fs (Fs.of_below (l:=[]) hb) (by simp))
         have F1_77 : Hid (Fs [] we1 u77) := by show Fs _ _ _; rw [← hwe]; exact Fs.refl _ _
         subst hs1 hv1
         clear hst hb hwc hwe
         go_simp
         refine hK.out _ _ (fun _ => HSS.out u77 HB_77.out) ?_
         clear hK K
         try simp only [Act.put,Ord.t,Ord.z,Ord.s]
         have hS := HSS.out u77 HB_77.out
         refine Ord.wpM_two (i:=9) (j:=10) (by kernel_rfl) (by simp only [List.getElem?_toArray,List.getElem?_cons_zero,List.getElem?_cons_succ]; rfl) (by simp only [List.getElem?_toArray,List.getElem?_cons_zero,List.getElem?_cons_succ]; rfl) (fun K hK => ?_) (fun K hK => ?_)
         ·go_simp
          refine (HC2.out u77 (HBr.out.trans (HB_77.out.mono HBr.out.size))).mono ?_
          rintro r u79 ⟨s2,v2,rfl,hst,hb⟩
          obtain ⟨wc2,hwc⟩ : ∃ y,u77 = y := ⟨_,rfl⟩
          obtain ⟨we2,hwe⟩ : ∃ y,u79 = y := ⟨_,rfl⟩
          have HST2 := keep hst
          rw [hwc,hwe] at HST2
          have HCE2 : Hid (wc2.heap.size ≤ we2.heap.size) := by show _ ≤ _; rw [← hwc,← hwe]; exact hb.size
          obtain ⟨ps2,ns2,cs2,hs2⟩ := (hst u79 [] (Fs.refl _ _) (by simp)).1.slice
          obtain ⟨pl2,cl2,hv2⟩ := lks_slice (hst u79 [] (Fs.refl _ _) (by simp)).2
          have HB_79 := keep (HB_77.out.trans (hb.mono HB_77.out.size))
          have HRBf2 : Hid (RB < wc2.heap.size ∨ we2.heap.size ≤ RB) := .inl (by rw [← hwc]; exact B_78.out.lt)
          have B_80 := keep (B_78.out.fs (Fs.of_below (l:=[]) hb) (by simp))
          have F1_81 := keep (F1_77.out.trans (Fs.of_below hb))
          have F2_79 : Hid (Fs [] we2 u79) := by show Fs _ _ _; rw [← hwe]; exact Fs.refl _ _
          subst hs2 hv2
          clear hst hb hwc hwe
          go_simp
          refine hK.out _ _ (fun _ => HSS.out u79 HB_79.out) ?_
          clear hK K
          try simp only [Act.put,Ord.t,Ord.z,Ord.s]
          have hS := HSS.out u79 HB_79.out
          refine Ord.on (i:=10) (h:=fun K hK => ?_)
          obtain ⟨u82,hu82⟩ : ∃ y,u79.alloc (.cells #[.int .i64 0,.bool false,.slice none 0 0,.int .i64 0,.int .i64 0,.int .i64 0,.slice none 0 0] 72) = y := ⟨_,rfl⟩
          obtain ⟨RA,hRA⟩ : ∃ y,u79.heap.size = y := ⟨_,rfl⟩
          have hb : Below u79.heap.size u79 u82 := by rw [← hu82]; exact (Below.refl _ _).alloc (Nat.le_refl _) _
          have A_82 : Hid (Bk u82 RA [.int .i64 0,.bool false,.slice none 0 0,.int .i64 0,.int .i64 0,.int .i64 0,.slice none 0 0] 72) := by show Bk _ _ _ _; rw [← hu82,← hRA]; exact Bk.new _ _ _
          have HB_82 := keep (HB_79.out.trans (hb.mono HB_79.out.size))
          have HRAlo : Hid (wr.heap.size ≤ RA) := by have := HB_79.out.size; show _ ≤ _; omega
          have HNab : Hid (RA ≠ RB) := by have := B_80.out.lt; show _ ≠ _; omega
          have HRAf1 : Hid (RA < wc1.heap.size ∨ we1.heap.size ≤ RA) := .inr (by have := F1_81.out.size; omega)
          have HRAf2 : Hid (RA < wc2.heap.size ∨ we2.heap.size ≤ RA) := .inr (by have := F2_79.out.size; omega)
          have B_83 := keep (B_80.out.fs (Fs.of_below (l:=[]) hb) (by simp))
          have F1_84 := keep (F1_81.out.trans (Fs.of_below hb))
          have F2_85 := keep (F2_79.out.trans (Fs.of_below hb))
          go_simp
          try rw [hu82]
          try rw [hRA]
          clear hu82 hRA hb
          refine hK.out _ _ (fun _ => HSS.out u82 HB_82.out) ?_
          clear hK K
          try simp only [Act.put,Ord.t,Ord.z,Ord.s]
          have hS := HSS.out u82 HB_82.out
          obtain ⟨ka1,ka2⟩ := set_seven A_82.out (.int .i64 R1.en.word) (.bool R1.en.trap) (.slice ps1 ns1 cs1) (.int .i64 R1.e) (.int .i64 (R1.ls.length : Int)) (.int .i64 R1.m) (.slice pl1 R1.ls.length cl1)
          have KA1 := keep ka1
          have KA2 := keep ka2
          clear ka1 ka2
          have HBa : Hid (Below wr.heap.size wr (u82.setCells RA 0 [.int .i64 R1.en.word,.bool R1.en.trap,.slice ps1 ns1 cs1,.int .i64 R1.e,.int .i64 (R1.ls.length : Int),.int .i64 R1.m,.slice pl1 R1.ls.length cl1])) := HB_82.out.trans (KA2.out.below HB_82.out.size (fun k hk => by simp at hk; have := HRAlo.out; omega))
          refine Ord.on (i:=12) (h:=fun K hK => ?_)
          refine step_store_mid rfl 72 (.tmp 13) (.tmp 74) rfl RA 0 #[.int .i64 R1.en.word,.bool R1.en.trap,.slice ps1 ns1 cs1,.int .i64 R1.e,.int .i64 (R1.ls.length : Int),.int .i64 R1.m,.slice pl1 R1.ls.length cl1] rfl rfl (seven_there A_82.out) (by kernel_rfl) (by simp [Value.oneCell']) ?_
          refine hK.out _ (u82.setCells RA 0 [.int .i64 R1.en.word,.bool R1.en.trap,.slice ps1 ns1 cs1,.int .i64 R1.e,.int .i64 (R1.ls.length : Int),.int .i64 R1.m,.slice pl1 R1.ls.length cl1]) (fun _ => HSS.out _ HBa.out) ?_
          clear hK K
          try simp only [Act.put,Ord.t,Ord.z,Ord.s]
          obtain ⟨wy,hwy⟩ : ∃ y,u82.setCells RA 0 [.int .i64 R1.en.word,.bool R1.en.trap,.slice ps1 ns1 cs1,.int .i64 R1.e,.int .i64 (R1.ls.length : Int),.int .i64 R1.m,.slice pl1 R1.ls.length cl1] = y := ⟨_,rfl⟩
          rw [hwy] at KA1 KA2 HBa ⊢
          clear hwy
          have hB2 := B_83.out.fs KA2.out (by simpa using Ne.symm HNab.out)
          have HB2k := keep hB2
          obtain ⟨kb1,kb2⟩ := set_seven hB2 (.int .i64 R2.en.word) (.bool R2.en.trap) (.slice ps2 ns2 cs2) (.int .i64 R2.e) (.int .i64 (R2.ls.length : Int)) (.int .i64 R2.m) (.slice pl2 R2.ls.length cl2)
          have KB1 := keep kb1
          have KB2 := keep kb2
          clear kb1 kb2 hB2
          refine Ord.on (i:=13) (h:=fun K hK => ?_)
          refine step_store_mid rfl 72 (.tmp 14) (.tmp 79) rfl RB 0 #[.int .i64 R2.en.word,.bool R2.en.trap,.slice ps2 ns2 cs2,.int .i64 R2.e,.int .i64 (R2.ls.length : Int),.int .i64 R2.m,.slice pl2 R2.ls.length cl2] rfl rfl (seven_there HB2k.out) (by kernel_rfl) (by simp [Value.oneCell']) ?_
          refine hK.out _ (wy.setCells RB 0 [.int .i64 R2.en.word,.bool R2.en.trap,.slice ps2 ns2 cs2,.int .i64 R2.e,.int .i64 (R2.ls.length : Int),.int .i64 R2.m,.slice pl2 R2.ls.length cl2]) (fun _ => HSS.out _ (HBa.out.trans (KB2.out.below HBa.out.size (fun k hk => by simp at hk; have := HRBlo.out; omega)))) ?_
          clear hK K
          try simp only [Act.put,Ord.t,Ord.z,Ord.s]
          refine Ord.wpM_done (by kernel_rfl) ?_ _
          refine NoPanic.normal ?_
          obtain ⟨wz,hwz⟩ : ∃ y,wy.setCells RB 0 [.int .i64 R2.en.word,.bool R2.en.trap,.slice ps2 ns2 cs2,.int .i64 R2.e,.int .i64 (R2.ls.length : Int),.int .i64 R2.m,.slice pl2 R2.ls.length cl2] = y := ⟨_,rfl⟩
          have HAz : Hid (Bk wz RA [.int .i64 R1.en.word,.bool R1.en.trap,.slice ps1 ns1 cs1,.int .i64 R1.e,.int .i64 (R1.ls.length : Int),.int .i64 R1.m,.slice pl1 R1.ls.length cl1] 72) := by show Bk _ _ _ _; rw [← hwz]; exact KA1.out.fs KB2.out (by simpa using HNab.out)
          have HBz : Hid (Bk wz RB [.int .i64 R2.en.word,.bool R2.en.trap,.slice ps2 ns2 cs2,.int .i64 R2.e,.int .i64 (R2.ls.length : Int),.int .i64 R2.m,.slice pl2 R2.ls.length cl2] 72) := by show Bk _ _ _ _; rw [← hwz]; exact KB1.out
          have HFz : Hid (Fs [RA,RB] u82 wz) := by show Fs _ _ _; rw [← hwz]; exact (KA2.out.mono (by simp)).trans (KB2.out.mono (by simp))
          have HWz : Hid (Below wr.heap.size wr wz) := HB_82.out.trans (HFz.out.below HB_82.out.size (fun k hk => by simp at hk; have := HRAlo.out; have := HRBlo.out; omega))
          have HS1 : Hid (∀ W,Below wz.heap.size wz W → ArrsIs W W.heap.size R1.en.arr (.slice ps1 ns1 cs1) ∧ LksIs W W.heap.size R1.ls (.slice pl1 R1.ls.length cl1)) := fun W hW => HST1.out W [RA,RB] (((F1_84.out.mono (by simp)).trans HFz.out).trans (Fs.of_below hW)) (fun b hb => by simp at hb; rcases hb with q | q <;> rw [q]; exact HRAf1.out; exact HRBf1.out)
          have HS2 : Hid (∀ W,Below wz.heap.size wz W → ArrsIs W W.heap.size R2.en.arr (.slice ps2 ns2 cs2) ∧ LksIs W W.heap.size R2.ls (.slice pl2 R2.ls.length cl2)) := fun W hW => HST2.out W [RA,RB] (((F2_85.out.mono (by simp)).trans HFz.out).trans (Fs.of_below hW)) (fun b hb => by simp at hb; rcases hb with q | q <;> rw [q]; exact HRAf2.out; exact HRBf2.out)
          rw [hwz]
          clear hwz
          exact HTk.out wz RA RB ps1 ns1 cs1 pl1 cl1 ps2 ns2 cs2 pl2 cl2 ⟨HAz.out,HBz.out,HWz.out,HS1.out,HS2.out⟩
         ·obtain ⟨u86,hu86⟩ : ∃ y,u77.alloc (.cells #[.int .i64 0,.bool false,.slice none 0 0,.int .i64 0,.int .i64 0,.int .i64 0,.slice none 0 0] 72) = y := ⟨_,rfl⟩
          obtain ⟨RA,hRA⟩ : ∃ y,u77.heap.size = y := ⟨_,rfl⟩
          have hb : Below u77.heap.size u77 u86 := by rw [← hu86]; exact (Below.refl _ _).alloc (Nat.le_refl _) _
          have A_86 : Hid (Bk u86 RA [.int .i64 0,.bool false,.slice none 0 0,.int .i64 0,.int .i64 0,.int .i64 0,.slice none 0 0] 72) := by show Bk _ _ _ _; rw [← hu86,← hRA]; exact Bk.new _ _ _
          have HB_86 := keep (HB_77.out.trans (hb.mono HB_77.out.size))
          have HRAlo : Hid (wr.heap.size ≤ RA) := by have := HB_77.out.size; show _ ≤ _; omega
          have HNab : Hid (RA ≠ RB) := by have := B_78.out.lt; show _ ≠ _; omega
          have HRAf1 : Hid (RA < wc1.heap.size ∨ we1.heap.size ≤ RA) := .inr (by have := F1_77.out.size; omega)
          have B_87 := keep (B_78.out.fs (Fs.of_below (l:=[]) hb) (by simp))
          have F1_88 := keep (F1_77.out.trans (Fs.of_below hb))
          go_simp
          try rw [hu86]
          try rw [hRA]
          clear hu86 hRA hb
          refine hK.out _ _ (fun _ => HSS.out u86 HB_86.out) ?_
          clear hK K
          try simp only [Act.put,Ord.t,Ord.z,Ord.s]
          have hS := HSS.out u86 HB_86.out
          refine Ord.on (i:=9) (h:=fun K hK => ?_)
          go_simp
          refine (HC2.out u86 (HBr.out.trans (HB_86.out.mono HBr.out.size))).mono ?_
          rintro r u89 ⟨s2,v2,rfl,hst,hb⟩
          obtain ⟨wc2,hwc⟩ : ∃ y,u86 = y := ⟨_,rfl⟩
          obtain ⟨we2,hwe⟩ : ∃ y,u89 = y := ⟨_,rfl⟩
          have HST2 := keep hst
          rw [hwc,hwe] at HST2
          have HCE2 : Hid (wc2.heap.size ≤ we2.heap.size) := by show _ ≤ _; rw [← hwc,← hwe]; exact hb.size
          obtain ⟨ps2,ns2,cs2,hs2⟩ := (hst u89 [] (Fs.refl _ _) (by simp)).1.slice
          obtain ⟨pl2,cl2,hv2⟩ := lks_slice (hst u89 [] (Fs.refl _ _) (by simp)).2
          have HB_89 := keep (HB_86.out.trans (hb.mono HB_86.out.size))
          have HRAf2 : Hid (RA < wc2.heap.size ∨ we2.heap.size ≤ RA) := .inl (by rw [← hwc]; exact A_86.out.lt)
          have HRBf2 : Hid (RB < wc2.heap.size ∨ we2.heap.size ≤ RB) := .inl (by rw [← hwc]; exact B_87.out.lt)
          have B_90 := keep (B_87.out.fs (Fs.of_below (l:=[]) hb) (by simp))
          have F1_91 := keep (F1_88.out.trans (Fs.of_below hb))
          have A_92 := keep (A_86.out.fs (Fs.of_below (l:=[]) hb) (by simp))
          have F2_89 : Hid (Fs [] we2 u89) := by show Fs _ _ _; rw [← hwe]; exact Fs.refl _ _
          subst hs2 hv2
          clear hst hb hwc hwe
          go_simp
          refine hK.out _ _ (fun _ => HSS.out u89 HB_89.out) ?_
          clear hK K
          try simp only [Act.put,Ord.t,Ord.z,Ord.s]
          have hS := HSS.out u89 HB_89.out
          obtain ⟨ka1,ka2⟩ := set_seven A_92.out (.int .i64 R1.en.word) (.bool R1.en.trap) (.slice ps1 ns1 cs1) (.int .i64 R1.e) (.int .i64 (R1.ls.length : Int)) (.int .i64 R1.m) (.slice pl1 R1.ls.length cl1)
          have KA1 := keep ka1
          have KA2 := keep ka2
          clear ka1 ka2
          have HBa : Hid (Below wr.heap.size wr (u89.setCells RA 0 [.int .i64 R1.en.word,.bool R1.en.trap,.slice ps1 ns1 cs1,.int .i64 R1.e,.int .i64 (R1.ls.length : Int),.int .i64 R1.m,.slice pl1 R1.ls.length cl1])) := HB_89.out.trans (KA2.out.below HB_89.out.size (fun k hk => by simp at hk; have := HRAlo.out; omega))
          refine Ord.on (i:=12) (h:=fun K hK => ?_)
          refine step_store_mid rfl 72 (.tmp 13) (.tmp 74) rfl RA 0 #[.int .i64 R1.en.word,.bool R1.en.trap,.slice ps1 ns1 cs1,.int .i64 R1.e,.int .i64 (R1.ls.length : Int),.int .i64 R1.m,.slice pl1 R1.ls.length cl1] rfl rfl (seven_there A_92.out) (by kernel_rfl) (by simp [Value.oneCell']) ?_
          refine hK.out _ (u89.setCells RA 0 [.int .i64 R1.en.word,.bool R1.en.trap,.slice ps1 ns1 cs1,.int .i64 R1.e,.int .i64 (R1.ls.length : Int),.int .i64 R1.m,.slice pl1 R1.ls.length cl1]) (fun _ => HSS.out _ HBa.out) ?_
          clear hK K
          try simp only [Act.put,Ord.t,Ord.z,Ord.s]
          obtain ⟨wy,hwy⟩ : ∃ y,u89.setCells RA 0 [.int .i64 R1.en.word,.bool R1.en.trap,.slice ps1 ns1 cs1,.int .i64 R1.e,.int .i64 (R1.ls.length : Int),.int .i64 R1.m,.slice pl1 R1.ls.length cl1] = y := ⟨_,rfl⟩
          rw [hwy] at KA1 KA2 HBa ⊢
          clear hwy
          have hB2 := B_90.out.fs KA2.out (by simpa using Ne.symm HNab.out)
          have HB2k := keep hB2
          obtain ⟨kb1,kb2⟩ := set_seven hB2 (.int .i64 R2.en.word) (.bool R2.en.trap) (.slice ps2 ns2 cs2) (.int .i64 R2.e) (.int .i64 (R2.ls.length : Int)) (.int .i64 R2.m) (.slice pl2 R2.ls.length cl2)
          have KB1 := keep kb1
          have KB2 := keep kb2
          clear kb1 kb2 hB2
          refine Ord.on (i:=13) (h:=fun K hK => ?_)
          refine step_store_mid rfl 72 (.tmp 14) (.tmp 79) rfl RB 0 #[.int .i64 R2.en.word,.bool R2.en.trap,.slice ps2 ns2 cs2,.int .i64 R2.e,.int .i64 (R2.ls.length : Int),.int .i64 R2.m,.slice pl2 R2.ls.length cl2] rfl rfl (seven_there HB2k.out) (by kernel_rfl) (by simp [Value.oneCell']) ?_
          refine hK.out _ (wy.setCells RB 0 [.int .i64 R2.en.word,.bool R2.en.trap,.slice ps2 ns2 cs2,.int .i64 R2.e,.int .i64 (R2.ls.length : Int),.int .i64 R2.m,.slice pl2 R2.ls.length cl2]) (fun _ => HSS.out _ (HBa.out.trans (KB2.out.below HBa.out.size (fun k hk => by simp at hk; have := HRBlo.out; omega)))) ?_
          clear hK K
          try simp only [Act.put,Ord.t,Ord.z,Ord.s]
          refine Ord.wpM_done (by kernel_rfl) ?_ _
          refine NoPanic.normal ?_
          obtain ⟨wz,hwz⟩ : ∃ y,wy.setCells RB 0 [.int .i64 R2.en.word,.bool R2.en.trap,.slice ps2 ns2 cs2,.int .i64 R2.e,.int .i64 (R2.ls.length : Int),.int .i64 R2.m,.slice pl2 R2.ls.length cl2] = y := ⟨_,rfl⟩
          have HAz : Hid (Bk wz RA [.int .i64 R1.en.word,.bool R1.en.trap,.slice ps1 ns1 cs1,.int .i64 R1.e,.int .i64 (R1.ls.length : Int),.int .i64 R1.m,.slice pl1 R1.ls.length cl1] 72) := by show Bk _ _ _ _; rw [← hwz]; exact KA1.out.fs KB2.out (by simpa using HNab.out)
          have HBz : Hid (Bk wz RB [.int .i64 R2.en.word,.bool R2.en.trap,.slice ps2 ns2 cs2,.int .i64 R2.e,.int .i64 (R2.ls.length : Int),.int .i64 R2.m,.slice pl2 R2.ls.length cl2] 72) := by show Bk _ _ _ _; rw [← hwz]; exact KB1.out
          have HFz : Hid (Fs [RA,RB] u89 wz) := by show Fs _ _ _; rw [← hwz]; exact (KA2.out.mono (by simp)).trans (KB2.out.mono (by simp))
          have HWz : Hid (Below wr.heap.size wr wz) := HB_89.out.trans (HFz.out.below HB_89.out.size (fun k hk => by simp at hk; have := HRAlo.out; have := HRBlo.out; omega))
          have HS1 : Hid (∀ W,Below wz.heap.size wz W → ArrsIs W W.heap.size R1.en.arr (.slice ps1 ns1 cs1) ∧ LksIs W W.heap.size R1.ls (.slice pl1 R1.ls.length cl1)) := fun W hW => HST1.out W [RA,RB] (((F1_91.out.mono (by simp)).trans HFz.out).trans (Fs.of_below hW)) (fun b hb => by simp at hb; rcases hb with q | q <;> rw [q]; exact HRAf1.out; exact HRBf1.out)
          have HS2 : Hid (∀ W,Below wz.heap.size wz W → ArrsIs W W.heap.size R2.en.arr (.slice ps2 ns2 cs2) ∧ LksIs W W.heap.size R2.ls (.slice pl2 R2.ls.length cl2)) := fun W hW => HST2.out W [RA,RB] (((F2_89.out.mono (by simp)).trans HFz.out).trans (Fs.of_below hW)) (fun b hb => by simp at hb; rcases hb with q | q <;> rw [q]; exact HRAf2.out; exact HRBf2.out)
          rw [hwz]
          clear hwz
          exact HTk.out wz RA RB ps1 ns1 cs1 pl1 cl1 ps2 ns2 cs2 pl2 cl2 ⟨HAz.out,HBz.out,HWz.out,HS1.out,HS2.out⟩
        ·obtain ⟨u93,hu93⟩ : ∃ y,u76.alloc (.cells #[.int .i64 0,.bool false,.slice none 0 0,.int .i64 0,.int .i64 0,.int .i64 0,.slice none 0 0] 72) = y := ⟨_,rfl⟩
         obtain ⟨RA,hRA⟩ : ∃ y,u76.heap.size = y := ⟨_,rfl⟩
         have hb : Below u76.heap.size u76 u93 := by rw [← hu93]; exact (Below.refl _ _).alloc (Nat.le_refl _) _
         have A_93 : Hid (Bk u93 RA [.int .i64 0,.bool false,.slice none 0 0,.int .i64 0,.int .i64 0,.int .i64 0,.slice none 0 0] 72) := by show Bk _ _ _ _; rw [← hu93,← hRA]; exact Bk.new _ _ _
         have HB_93 := keep (HB_76.out.trans (hb.mono HB_76.out.size))
         have HRAlo : Hid (wr.heap.size ≤ RA) := by have := HB_76.out.size; show _ ≤ _; omega
         have HNab : Hid (RA ≠ RB) := by have := B_76.out.lt; show _ ≠ _; omega
         have B_94 := keep (B_76.out.fs (Fs.of_below (l:=[]) hb) (by simp))
         go_simp
         try rw [hu93]
         try rw [hRA]
         clear hu93 hRA hb
         refine hK.out _ _ (fun _ => HSS.out u93 HB_93.out) ?_
         clear hK K
         try simp only [Act.put,Ord.t,Ord.z,Ord.s]
         have hS := HSS.out u93 HB_93.out
         refine Ord.on (i:=4) (h:=fun K hK => ?_)
         go_simp
         refine (HC1.out u93 (HBr.out.trans (HB_93.out.mono HBr.out.size))).mono ?_
         rintro r u95 ⟨s1,v1,rfl,hst,hb⟩
         obtain ⟨wc1,hwc⟩ : ∃ y,u93 = y := ⟨_,rfl⟩
         obtain ⟨we1,hwe⟩ : ∃ y,u95 = y := ⟨_,rfl⟩
         have HST1 := keep hst
         rw [hwc,hwe] at HST1
         have HCE1 : Hid (wc1.heap.size ≤ we1.heap.size) := by show _ ≤ _; rw [← hwc,← hwe]; exact hb.size
         obtain ⟨ps1,ns1,cs1,hs1⟩ := (hst u95 [] (Fs.refl _ _) (by simp)).1.slice
         obtain ⟨pl1,cl1,hv1⟩ := lks_slice (hst u95 [] (Fs.refl _ _) (by simp)).2
         have HB_95 := keep (HB_93.out.trans (hb.mono HB_93.out.size))
         have HRAf1 : Hid (RA < wc1.heap.size ∨ we1.heap.size ≤ RA) := .inl (by rw [← hwc]; exact A_93.out.lt)
         have HRBf1 : Hid (RB < wc1.heap.size ∨ we1.heap.size ≤ RB) := .inl (by rw [← hwc]; exact B_94.out.lt)
         have B_96 := keep (B_94.out.fs (Fs.of_below (l:=[]) hb) (by simp))
         have A_97 := keep (A_93.out.fs (Fs.of_below (l:=[]) hb) (by simp))
         have F1_95 : Hid (Fs [] we1 u95) := by show Fs _ _ _; rw [← hwe]; exact Fs.refl _ _
         subst hs1 hv1
         clear hst hb hwc hwe
         go_simp
         refine hK.out _ _ (fun _ => HSS.out u95 HB_95.out) ?_
         clear hK K
         try simp only [Act.put,Ord.t,Ord.z,Ord.s]
         have hS := HSS.out u95 HB_95.out
         refine Ord.on (i:=9) (h:=fun K hK => ?_)
         go_simp
         refine (HC2.out u95 (HBr.out.trans (HB_95.out.mono HBr.out.size))).mono ?_
         rintro r u98 ⟨s2,v2,rfl,hst,hb⟩
         obtain ⟨wc2,hwc⟩ : ∃ y,u95 = y := ⟨_,rfl⟩
         obtain ⟨we2,hwe⟩ : ∃ y,u98 = y := ⟨_,rfl⟩
         have HST2 := keep hst
         rw [hwc,hwe] at HST2
         have HCE2 : Hid (wc2.heap.size ≤ we2.heap.size) := by show _ ≤ _; rw [← hwc,← hwe]; exact hb.size
         obtain ⟨ps2,ns2,cs2,hs2⟩ := (hst u98 [] (Fs.refl _ _) (by simp)).1.slice
         obtain ⟨pl2,cl2,hv2⟩ := lks_slice (hst u98 [] (Fs.refl _ _) (by simp)).2
         have HB_98 := keep (HB_95.out.trans (hb.mono HB_95.out.size))
         have HRAf2 : Hid (RA < wc2.heap.size ∨ we2.heap.size ≤ RA) := .inl (by rw [← hwc]; exact A_97.out.lt)
         have HRBf2 : Hid (RB < wc2.heap.size ∨ we2.heap.size ≤ RB) := .inl (by rw [← hwc]; exact B_96.out.lt)
         have B_99 := keep (B_96.out.fs (Fs.of_below (l:=[]) hb) (by simp))
         have A_100 := keep (A_97.out.fs (Fs.of_below (l:=[]) hb) (by simp))
         have F1_101 := keep (F1_95.out.trans (Fs.of_below hb))
         have F2_98 : Hid (Fs [] we2 u98) := by show Fs _ _ _; rw [← hwe]; exact Fs.refl _ _
         subst hs2 hv2
         clear hst hb hwc hwe
         go_simp
         refine hK.out _ _ (fun _ => HSS.out u98 HB_98.out) ?_
         clear hK K
         try simp only [Act.put,Ord.t,Ord.z,Ord.s]
         have hS := HSS.out u98 HB_98.out
         obtain ⟨ka1,ka2⟩ := set_seven A_100.out (.int .i64 R1.en.word) (.bool R1.en.trap) (.slice ps1 ns1 cs1) (.int .i64 R1.e) (.int .i64 (R1.ls.length : Int)) (.int .i64 R1.m) (.slice pl1 R1.ls.length cl1)
         have KA1 := keep ka1
         have KA2 := keep ka2
         clear ka1 ka2
         have HBa : Hid (Below wr.heap.size wr (u98.setCells RA 0 [.int .i64 R1.en.word,.bool R1.en.trap,.slice ps1 ns1 cs1,.int .i64 R1.e,.int .i64 (R1.ls.length : Int),.int .i64 R1.m,.slice pl1 R1.ls.length cl1])) := HB_98.out.trans (KA2.out.below HB_98.out.size (fun k hk => by simp at hk; have := HRAlo.out; omega))
         refine Ord.on (i:=12) (h:=fun K hK => ?_)
         refine step_store_mid rfl 72 (.tmp 13) (.tmp 74) rfl RA 0 #[.int .i64 R1.en.word,.bool R1.en.trap,.slice ps1 ns1 cs1,.int .i64 R1.e,.int .i64 (R1.ls.length : Int),.int .i64 R1.m,.slice pl1 R1.ls.length cl1] rfl rfl (seven_there A_100.out) (by kernel_rfl) (by simp [Value.oneCell']) ?_
         refine hK.out _ (u98.setCells RA 0 [.int .i64 R1.en.word,.bool R1.en.trap,.slice ps1 ns1 cs1,.int .i64 R1.e,.int .i64 (R1.ls.length : Int),.int .i64 R1.m,.slice pl1 R1.ls.length cl1]) (fun _ => HSS.out _ HBa.out) ?_
         clear hK K
         try simp only [Act.put,Ord.t,Ord.z,Ord.s]
         obtain ⟨wy,hwy⟩ : ∃ y,u98.setCells RA 0 [.int .i64 R1.en.word,.bool R1.en.trap,.slice ps1 ns1 cs1,.int .i64 R1.e,.int .i64 (R1.ls.length : Int),.int .i64 R1.m,.slice pl1 R1.ls.length cl1] = y := ⟨_,rfl⟩
         rw [hwy] at KA1 KA2 HBa ⊢
         clear hwy
         have hB2 := B_99.out.fs KA2.out (by simpa using Ne.symm HNab.out)
         have HB2k := keep hB2
         obtain ⟨kb1,kb2⟩ := set_seven hB2 (.int .i64 R2.en.word) (.bool R2.en.trap) (.slice ps2 ns2 cs2) (.int .i64 R2.e) (.int .i64 (R2.ls.length : Int)) (.int .i64 R2.m) (.slice pl2 R2.ls.length cl2)
         have KB1 := keep kb1
         have KB2 := keep kb2
         clear kb1 kb2 hB2
         refine Ord.on (i:=13) (h:=fun K hK => ?_)
         refine step_store_mid rfl 72 (.tmp 14) (.tmp 79) rfl RB 0 #[.int .i64 R2.en.word,.bool R2.en.trap,.slice ps2 ns2 cs2,.int .i64 R2.e,.int .i64 (R2.ls.length : Int),.int .i64 R2.m,.slice pl2 R2.ls.length cl2] rfl rfl (seven_there HB2k.out) (by kernel_rfl) (by simp [Value.oneCell']) ?_
         refine hK.out _ (wy.setCells RB 0 [.int .i64 R2.en.word,.bool R2.en.trap,.slice ps2 ns2 cs2,.int .i64 R2.e,.int .i64 (R2.ls.length : Int),.int .i64 R2.m,.slice pl2 R2.ls.length cl2]) (fun _ => HSS.out _ (HBa.out.trans (KB2.out.below HBa.out.size (fun k hk => by simp at hk; have := HRBlo.out; omega)))) ?_
         clear hK K
         try simp only [Act.put,Ord.t,Ord.z,Ord.s]
         refine Ord.wpM_done (by kernel_rfl) ?_ _
         refine NoPanic.normal ?_
         obtain ⟨wz,hwz⟩ : ∃ y,wy.setCells RB 0 [.int .i64 R2.en.word,.bool R2.en.trap,.slice ps2 ns2 cs2,.int .i64 R2.e,.int .i64 (R2.ls.length : Int),.int .i64 R2.m,.slice pl2 R2.ls.length cl2] = y := ⟨_,rfl⟩
         have HAz : Hid (Bk wz RA [.int .i64 R1.en.word,.bool R1.en.trap,.slice ps1 ns1 cs1,.int .i64 R1.e,.int .i64 (R1.ls.length : Int),.int .i64 R1.m,.slice pl1 R1.ls.length cl1] 72) := by show Bk _ _ _ _; rw [← hwz]; exact KA1.out.fs KB2.out (by simpa using HNab.out)
         have HBz : Hid (Bk wz RB [.int .i64 R2.en.word,.bool R2.en.trap,.slice ps2 ns2 cs2,.int .i64 R2.e,.int .i64 (R2.ls.length : Int),.int .i64 R2.m,.slice pl2 R2.ls.length cl2] 72) := by show Bk _ _ _ _; rw [← hwz]; exact KB1.out
         have HFz : Hid (Fs [RA,RB] u98 wz) := by show Fs _ _ _; rw [← hwz]; exact (KA2.out.mono (by simp)).trans (KB2.out.mono (by simp))
         have HWz : Hid (Below wr.heap.size wr wz) := HB_98.out.trans (HFz.out.below HB_98.out.size (fun k hk => by simp at hk; have := HRAlo.out; have := HRBlo.out; omega))
         have HS1 : Hid (∀ W,Below wz.heap.size wz W → ArrsIs W W.heap.size R1.en.arr (.slice ps1 ns1 cs1) ∧ LksIs W W.heap.size R1.ls (.slice pl1 R1.ls.length cl1)) := fun W hW => HST1.out W [RA,RB] (((F1_101.out.mono (by simp)).trans HFz.out).trans (Fs.of_below hW)) (fun b hb => by simp at hb; rcases hb with q | q <;> rw [q]; exact HRAf1.out; exact HRBf1.out)
         have HS2 : Hid (∀ W,Below wz.heap.size wz W → ArrsIs W W.heap.size R2.en.arr (.slice ps2 ns2 cs2) ∧ LksIs W W.heap.size R2.ls (.slice pl2 R2.ls.length cl2)) := fun W hW => HST2.out W [RA,RB] (((F2_98.out.mono (by simp)).trans HFz.out).trans (Fs.of_below hW)) (fun b hb => by simp at hb; rcases hb with q | q <;> rw [q]; exact HRAf2.out; exact HRBf2.out)
         rw [hwz]
         clear hwz
         exact HTk.out wz RA RB ps1 ns1 cs1 pl1 cl1 ps2 ns2 cs2 pl2 cl2 ⟨HAz.out,HBz.out,HWz.out,HS1.out,HS2.out⟩
      ·intro wz RA RB ps1 ns1 cs1 pl1 cl1 ps2 ns2 cs2 pl2 cl2 hbox
       have HBox := keep hbox
       have hls : Less R1 R2 := by rw [← HR1.out,← HR2.out]; exact ran_on HTR.out (fun x hx => HNot.out x (by rw [HCode.out] at hx; exact hx))
       obtain ⟨he,hen,hll,hle⟩ := hls
       obtain ⟨nk,hnk⟩ : ∃ y,R2.ls.length = y := ⟨_,rfl⟩
       obtain ⟨ee,hee⟩ : ∃ y,R2.e = y := ⟨_,rfl⟩
       obtain ⟨en,hene⟩ : ∃ y,R2.en = y := ⟨_,rfl⟩
       rw [hnk] at hll
       rw [hee] at he
       rw [hene] at hen
       have HLe : Hid (∀ (k : Nat) (x y : Lk),R1.ls[k]? = some x → R2.ls[k]? = some y → x.at' = y.at' ∧ x.op = y.op ∧ y.vs.length ≤ x.vs.length ∧ ∀ n ∈ y.vs,n ∈ x.vs) := hle
       have ka := hbox.a
       have kb := hbox.b
       rw [he,hen,hll] at ka
       rw [hee,hene,hnk] at kb
       have HKa := keep ka
       have HKb := keep kb
       have HWz := keep hbox.w
       have HS1 : Hid (∀ W,Below wz.heap.size wz W → ArrsIs W W.heap.size en.arr (.slice ps1 ns1 cs1) ∧ LksIs W W.heap.size R1.ls (.slice pl1 nk cl1)) := fun W hW => by
        have h := hbox.s1 W hW
        rw [hen,hll] at h
        exact h
       have HS2 : Hid (∀ W,Below wz.heap.size wz W → ArrsIs W W.heap.size en.arr (.slice ps2 ns2 cs2) ∧ LksIs W W.heap.size R2.ls (.slice pl2 nk cl2)) := fun W hW => by
        have h := hbox.s2 W hW
        rw [hene,hnk] at h
        exact h
       have HLn : Hid (R1.ls.length = nk ∧ R2.ls.length = nk) := ⟨hll,hnk⟩
       have HRet : Hid (∀ W,Below wz.heap.size wz W → Below w.heap.size w W) := fun W hW => HBw.out _ ((HBr.out.trans (hbox.w.mono HBr.out.size)).trans (hW.mono (Nat.le_trans HBr.out.size hbox.w.size)))
       have HSe := keep (sameEnded_any wz.heap.size en _ _ wz (Nat.le_refl _) (HS1.out wz (Below.refl _ _)).1 (HS2.out wz (Below.refl _ _)).1)
       have HSm : Hid (nk ≤ 281474976710656) := by
        obtain ⟨_,_,_,e,_,_,h,_⟩ := (HS2.out wz (Below.refl _ _)).2
        cases e
        exact h
       have a0 := ka.cell 0 rfl
       have a1 := ka.cell 1 rfl
       have a2 := ka.cell 2 rfl
       have a3 := ka.cell 3 rfl
       have a4 := ka.cell 4 rfl
       have a6 := ka.cell 6 rfl
       have c0 := kb.cell 0 rfl
       have c1' := kb.cell 1 rfl
       have c2' := kb.cell 2 rfl
       have c3 := kb.cell 3 rfl
       have c4 := kb.cell 4 rfl
       have c6 := kb.cell 6 rfl
       clear hbox HSS HC1 HC2 hle he hen hll hnk hee hene ka kb HBox
       go_wp2_with fail
       refine HSe.out.mono ?_
       rintro r wy ⟨rfl,hby⟩
       have HBy := keep hby
       have a6y := (HKa.out.fs (Fs.of_below (l:=[]) hby) (by simp)).cell 6 rfl
       have c6y := (HKb.out.fs (Fs.of_below (l:=[]) hby) (by simp)).cell 6 rfl
       clear a0 a1 a2 a3 a4 a6 c0 c1' c2' c3 c4 c6 hby HSe
       go_wp2_with fail
       go_loopw [112] (fun i wx => ∃ k : Nat,k ≤ nk ∧ i = .int .i64 (k : Int) ∧ Below wz.heap.size wz wx) (fun i _ => nk - (intOf i).toNat)
       case atStart => exact ⟨0,by omega,rfl,HBy.out⟩
       case round =>
        clear a6y c6y
        obtain ⟨k,hkn,rfl,hbx⟩ := hrel
        have HX := keep hbx
        by_cases hkl : k < nk
        ·have d1 : decide ((k : Int) < (nk : Int)) = true := decide_eq_true (by omega)
         have hkz : (k : Int) < (nk : Int) := by omega
         have hk0 : (0 : Int) ≤ (k : Int) := by omega
         have hwr : IntKind.i64.wrap ((k : Int) + 1) = (k : Int) + 1 := by rw [IntKind.wrap_i64]; have := HSm.out; omega
         obtain ⟨x,hx⟩ : ∃ x,R1.ls[k]? = some x := ⟨_,List.getElem?_eq_getElem (by rw [HLn.out.1]; exact hkl)⟩
         obtain ⟨y,hy⟩ : ∃ y,R2.ls[k]? = some y := ⟨_,List.getElem?_eq_getElem (by rw [HLn.out.2]; exact hkl)⟩
         obtain ⟨t1,t2,t3,t4⟩ := HLe.out k x y hx hy
         obtain ⟨qa,na,ca',ea,_,_,_,ha⟩ := (HS1.out wr hbx).2
         cases ea
         obtain ⟨qb,nb',cb',eb,_,_,_,hb⟩ := (HS2.out wr hbx).2
         cases eb
         obtain ⟨g1,o1,s1,rfl,hg1,u0,u1,u2,hs1⟩ := ha k x hx
         obtain ⟨g2,o2,s2,rfl,hg2,v0,v1,v2,hs2⟩ := hb k y hy
         obtain ⟨px,nx',cx,rfl,hnx,_,hbx1,hqx⟩ := id hs1
         obtain ⟨py,ny,cy,rfl,hny,_,hbx2,hqy⟩ := id hs2
         obtain ⟨xa,xo,xv⟩ := x
         obtain ⟨ya,yo,yv⟩ := y
         dsimp only at t1 t2 t3 t4 u0 u1 v0 v1 hnx hny hqx hqy
         subst t1 t2
         have HT4 := keep t4
         have HQx := keep hqx
         have HQy := keep hqy
         have HKl : Hid (k < nk) := hkl
         have HNb2 : Hid (nx' ≤ 17592186044416 ∧ ny ≤ 17592186044416) := ⟨hbx1,hbx2⟩
         have HNx : Hid (xv.length = nx' ∧ yv.length = ny ∧ ny ≤ nx') := ⟨hnx,hny,by omega⟩
         obtain ⟨wA,hwA⟩ : ∃ y,wr.alloc (.cells #[.int .i64 (xa : Int),.int .i64 xo,.slice px nx' cx] 61) = y := ⟨_,rfl⟩
         obtain ⟨XB,hXB⟩ : ∃ y,wr.heap.size = y := ⟨_,rfl⟩
         obtain ⟨wB,hwB⟩ : ∃ y,wA.alloc (.cells #[.int .i64 (xa : Int),.int .i64 xo,.slice py ny cy] 61) = y := ⟨_,rfl⟩
         obtain ⟨YB,hYB⟩ : ∃ y,wA.heap.size = y := ⟨_,rfl⟩
         have bA : Below wr.heap.size wr wA := by rw [← hwA]; exact (Below.refl _ _).alloc (Nat.le_refl _) _
         have bB : Below wA.heap.size wA wB := by rw [← hwB]; exact (Below.refl _ _).alloc (Nat.le_refl _) _
         have kX : Bk wA XB [.int .i64 (xa : Int),.int .i64 xo,.slice px nx' cx] 61 := by rw [← hwA,← hXB]; exact Bk.new _ _ _
         have kY : Bk wB YB [.int .i64 (xa : Int),.int .i64 xo,.slice py ny cy] 61 := by rw [← hwB,← hYB]; exact Bk.new _ _ _
         have kX2 := kX.fs (Fs.of_below (l:=[]) bB) (by simp)
         have bAB := bA.trans (bB.mono bA.size)
         have HBAB := keep (HX.out.trans (bAB.mono HX.out.size))
         have r6 := (HKa.out.fs (Fs.of_below (l:=[]) hbx) (by simp)).cell 6 rfl
         have r6' := (HKb.out.fs (Fs.of_below (l:=[]) (hbx.trans (bA.mono hbx.size))) (by simp)).cell 6 rfl
         have v0' := keep_cell bA v0
         have v1' := keep_cell bA v1
         have v2' := keep_cell bA v2
         have m0 := kX2.cell 0 rfl
         have m1 := kX2.cell 1 rfl
         have m2 := kX2.cell 2 rfl
         have l0 := kY.cell 0 rfl
         have l1 := kY.cell 1 rfl
         have l2 := kY.cell 2 rfl
         have HWA := keep hwA
         have HXB := keep hXB
         have HWB := keep hwB
         have HYB := keep hYB
         have HQx2 : Hid (∀ j u,xv[j]? = some u → ∃ g o,px = some ⟨g,o,none⟩ ∧ g < wr.heap.size ∧ wB.cell? ⟨g,o + j,none⟩ = some (.int .i64 u)) := fun j u hj => by
          obtain ⟨g,o,q1,q2,q3⟩ := HQx.out j u hj
          exact ⟨g,o,q1,q2,by rw [cell_below bAB q2]; exact q3⟩
         have HQy2 : Hid (∀ j u,yv[j]? = some u → ∃ g o,py = some ⟨g,o,none⟩ ∧ g < wr.heap.size ∧ wB.cell? ⟨g,o + j,none⟩ = some (.int .i64 u)) := fun j u hj => by
          obtain ⟨g,o,q1,q2,q3⟩ := HQy.out j u hj
          exact ⟨g,o,q1,q2,by rw [cell_below bAB q2]; exact q3⟩
         have hlt : decide ((nx' : Int) < (ny : Int)) = false := decide_eq_false (by have := HNx.out; omega)
         have hlt2 : decide (nx' < ny) = false := decide_eq_false (by have := HNx.out; omega)
         have hlt3 : ¬ nx' < ny := by have := HNx.out; omega
         clear hwA hXB hwB hYB bA bB kX kY kX2 bAB hbx hx hy hs1 hs2 hqx hqy t4 ha hb hg1 hg2 hnx hny v0 v1 v2 t3 hkn hkl hbx1 hbx2
         go_wp2_with (first | rw [HWA.out,HXB.out] | rw [HWB.out,HYB.out] | fail)
         go_loopw [146] (fun i wx => ∃ q : Nat,q ≤ ny ∧ i = .int .i64 (q : Int) ∧ wx = wB) (fun i _ => ny - (intOf i).toNat)
         case atStart => exact ⟨0,by omega,rfl,rfl⟩
         case round =>
          clear r6 r6' v0' v1' v2' u0 u1 u2 l0 l1
          obtain ⟨q,hqn,rfl,hw⟩ := hrel
          subst hw
          by_cases hql : q < ny
          ·have f1 : decide ((q : Int) < (ny : Int)) = true := decide_eq_true (by omega)
           have hqz : (q : Int) < (ny : Int) := by omega
           have hq0 : (0 : Int) ≤ (q : Int) := by omega
           have hwq : IntKind.i64.wrap ((q : Int) + 1) = (q : Int) + 1 := by rw [IntKind.wrap_i64]; have := HNb2.out; omega
           obtain ⟨n,hn⟩ : ∃ n,yv[q]? = some n := ⟨_,List.getElem?_eq_getElem (by rw [HNx.out.2.1]; exact hql)⟩
           obtain ⟨gy,oy,rfl,_,hcy⟩ := HQy2.out q n hn
           have HIn : Hid (n ∈ xv) := HT4.out n (List.mem_of_getElem? hn)
           clear hn
           go_wp2_with fail
           go_loopw [20,153] (fun b i wx => ∃ t : Nat,t ≤ nx' ∧ b = .bool ((xv.take t).any (fun v => decide (v = n))) ∧ i = .int .i64 (t : Int) ∧ wx = wr) (fun _ i _ => nx' - (intOf i).toNat)
           case atStart => exact ⟨0,by omega,by rw [List.take_zero]; rfl,rfl,rfl⟩
           case round =>
            obtain ⟨t,htn,rfl,rfl,hw⟩ := hrel
            subst hw
            obtain ⟨bb,hbb⟩ : ∃ y,(xv.take t).any (fun v => decide (v = n)) = y := ⟨_,rfl⟩
            rw [hbb]
            by_cases htl : t < nx'
            ·have f2 : decide ((t : Int) < (nx' : Int)) = true := decide_eq_true (by omega)
             have htz : (t : Int) < (nx' : Int) := by omega
             have ht0 : (0 : Int) ≤ (t : Int) := by omega
             have hwt : IntKind.i64.wrap ((t : Int) + 1) = (t : Int) + 1 := by rw [IntKind.wrap_i64]; have := HNb2.out; omega
             obtain ⟨v,hv⟩ : ∃ v,xv[t]? = some v := ⟨_,List.getElem?_eq_getElem (by rw [HNx.out.1]; exact htl)⟩
             obtain ⟨gx,ox,rfl,_,hcx⟩ := HQx2.out t v hv
             have HAny : Hid ((xv.take (t + 1)).any (fun v => decide (v = n)) = (bb || decide (v = n))) := by show _ = _; rw [List.take_add_one,hv,List.any_append,hbb]; simp
             have HTn : Hid (t + 1 ≤ nx') := htl
             clear hv hbb htn htl
             cases bb with
             | true =>
              go_wp2_with fail
              go_roundw
              case rel => exact ⟨t + 1,HTn.out,by rw [HAny.out]; rfl,by go_num,by first | rfl | trivial⟩
              case measure => simp [intOf]; have := HTn.out; omega
             | false =>
              obtain ⟨pv',hpv⟩ : ∃ y,(v == n) = y := ⟨_,rfl⟩
              have HPv : Hid (decide (v = n) = pv') := by show _ = _; rw [← hpv]; exact (Bool.beq_eq_decide_eq _ _).symm
              go_wp2_with fail
              go_roundw
              case rel => exact ⟨t + 1,HTn.out,by rw [HAny.out,HPv.out]; simp,by go_num,by first | rfl | trivial⟩
              case measure => simp [intOf]; have := HTn.out; omega
            ·have hte : t = nx' := by omega
             have f2 : decide ((t : Int) < (nx' : Int)) = false := decide_eq_false (by omega)
             have hbt : bb = true := by
              rw [← hbb,List.any_eq_true]
              exact ⟨n,by rw [List.take_of_length_le (by rw [HNx.out.1]; omega)]; exact HIn.out,by simp⟩
             subst hbt
             clear hbb htn htl
             go_wp2_with fail
             go_roundw
             case rel => exact ⟨q + 1,by omega,by go_num,by first | rfl | trivial⟩
             case measure => simp [intOf]; omega
          ·have hqe : q = ny := by omega
           have f1 : decide ((q : Int) < (ny : Int)) = false := decide_eq_false (by omega)
           clear hql hqn
           go_wp2_with fail
           go_roundw
           case rel => exact ⟨k + 1,by have := HKl.out; omega,by go_num,HBAB.out⟩
           case measure => simp [intOf]; have := HKl.out; omega
        ·have hke : k = nk := by omega
         have dl : decide ((k : Int) < (nk : Int)) = false := decide_eq_false (by omega)
         have HR := keep (HRet.out _ hbx)
         clear hkl hbx hkn
         go_wp2_with fail
         go_ret
         exact ⟨rfl,HR.out⟩
   ·have hne : (e0 != 0) = true := by rw [bne_iff_ne]; exact h0
    have HRet := keep (HBw.out _ HBb.out)
    clear h0
    go_wp2
    go_ret
    exact ⟨rfl,HRet.out⟩
 ·have hne : (z != 0) = true := by rw [bne_iff_ne]; exact hz0
  clear hz0 HZ
  go_wp2
  go_ret
  exact ⟨rfl,HBw.out _ HB5.out⟩
end Go.Proofs.Ytpnacanbknejiaa.Mh
