/- What is wrong with an instruction, and with all of them: flow's wrong, Check. Written by tools/gen_flchk.py. -/
import Derived.Test.YtpnacanbknejiaaFlSp
namespace Go.Proofs.Ytpnacanbknejiaa.Fl
set_option maxHeartbeats 32000000
set_option maxRecDepth 100000
set_option linter.unusedVariables false
set_option linter.unusedSimpArgs false
open Go.ChangeShapes Go.WideShapes Go.ChangeAt Go.RowKit Lg Lr
theorem wrg_any (B : Nat) (f : Fx) (s1 s2 s3 : Value) (k : Nat) (i : Ix) (w : World) (hB : B ≤ w.heap.size) (h : FxIs w B f s1 s2 s3) (hi : f.code[k]? = some i) :
  Calls Try.prog 38 #[.agg (fxA f s1 s2 s3),.int .i64 (k : Int)] w fun r w' => r = .returned (.int .i64 (wrg f k i)) ∧ Below w.heap.size w w' := by
 obtain ⟨p1,n1,c1,hs1,hn1,_,hm1,hq1⟩ := id h.code
 obtain ⟨p2,n2,c2,hs2,hn2,_,hm2,_⟩ := id h.sec
 obtain ⟨p3,n3,c3,hs3,hn3,_,hm3,_⟩ := id h.arrs
 subst hs1 hs2 hs3
 obtain ⟨g,o,rfl,hg,hix⟩ := hq1 k i hi
 obtain ⟨op,d,a,b,c,imm⟩ := i
 obtain ⟨w1,hw1⟩ : ∃ y,w.alloc (.cells #[.slice (some ⟨g,o,none⟩) n1 c1,.slice p2 n2 c2,.int .i64 f.params,.slice p3 n3 c3] 26) = y := ⟨_,rfl⟩
 obtain ⟨w2,hw2⟩ : ∃ y,w1.alloc (.cells #[.int .i64 op,.int .i64 d,.int .i64 a,.int .i64 b,.int .i64 c,.int .i64 imm] 35) = y := ⟨_,rfl⟩
 obtain ⟨P,hP⟩ : ∃ y,w.heap.size = y := ⟨_,rfl⟩
 obtain ⟨I,hI⟩ : ∃ y,w1.heap.size = y := ⟨_,rfl⟩
 have b1 : Below w.heap.size w w1 := by rw [← hw1]; exact (Below.refl _ _).alloc (Nat.le_refl _) _
 have b2 : Below w1.heap.size w1 w2 := by rw [← hw2]; exact (Below.refl _ _).alloc (Nat.le_refl _) _
 have b12 := b1.trans (b2.mono b1.size)
 have kP : Bk w1 P [.slice (some ⟨g,o,none⟩) n1 c1,.slice p2 n2 c2,.int .i64 f.params,.slice p3 n3 c3] 26 := by rw [← hw1,← hP]; exact Bk.new _ _ _
 have kP2 := kP.fs (Fs.of_below (l:=[]) b2) (by simp)
 have kI : Bk w2 I [.int .i64 op,.int .i64 d,.int .i64 a,.int .i64 b,.int .i64 c,.int .i64 imm] 35 := by rw [← hw2,← hI]; exact Bk.new _ _ _
 have h2 := h.below (b12.mono hB)
 have hB2 : B ≤ w2.heap.size := by have := b12.size; omega
 have hF : BoxF w2 P B f (.slice (some ⟨g,o,none⟩) n1 c1) (.slice p2 n2 c2) (.slice p3 n3 c3) := ⟨kP2,h2,hB2⟩
 have hx := hix.below (b1.mono hB) hg
 have z0 := hx.c0
 have z1 := hx.c1
 have z2 := hx.c2
 have z3 := hx.c3
 have z4 := hx.c4
 have z5 := hx.c5
 dsimp only at z0 z1 z2 z3 z4 z5
 have y00 := kP.cell 0 rfl
 have y0 := kP2.cell 0 rfl
 have y1 := kP2.cell 1 rfl
 have y2 := kP2.cell 2 rfl
 have y3 := kP2.cell 3 rfl
 have HF := keep hF
 have HI := keep kI
 have HW1 := keep hw1
 have HW2 := keep hw2
 have HP := keep hP
 have HIe := keep hI
 have HBw := keep b12
 have HN1 := keep hn1
 have HN2 := keep hn2
 have HN3 := keep hn3
 have x0 : w2.cell? ⟨w1.heap.size,0,none⟩ = some (.int .i64 op) := by rw [hI]; exact kI.cell 0 rfl
 have HC := keep (inR_any B f _ _ _ k ⟨op,d,a,b,c,imm⟩ w2 hB2 h2 hi)
 unfold fxA at HC
 unfold fxA
 have k0 : (0 : Int) ≤ (k : Int) := by omega
 have k1 : (k : Int) < (n1 : Int) := by
  have := (List.getElem?_eq_some_iff.1 hi).1
  omega
 clear hw1 hw2 hP hI b1 b2 b12 kP kP2 kI hF hx hix hq1 hn1 hn2 hn3 h hi hB hg h2 hB2
 by_cases ho1 : op < 1
 ·have d1 : decide (op < 1) = true := decide_eq_true ho1
  have HE : Hid (wrg f k ⟨op,d,a,b,c,imm⟩ = 1) := by show _ = _; unfold wrg; rw [if_pos (.inl ho1)]
  clear ho1 HC
  go_enter Try.func38,Try.ntmps38
  go_wp2_with (first | rw [HW1.out] | rw [HP.out])
  try rw [HW2.out]
  go_ret
  first | exact ⟨by rw [HE.out]; rfl,by first | exact HBw.out | (rw [← HP.out]; exact HBw.out)⟩ | (rw [HW2.out]; exact ⟨by rw [HE.out]; rfl,by first | exact HBw.out | (rw [← HP.out]; exact HBw.out)⟩)
 ·have d1 : decide (op < 1) = false := decide_eq_false ho1
  by_cases ho2 : 21 < op
  ·have d2 : decide (21 < op) = true := decide_eq_true ho2
   have HE : Hid (wrg f k ⟨op,d,a,b,c,imm⟩ = 1) := by show _ = _; unfold wrg; rw [if_pos (.inr ho2)]
   clear ho1 ho2 HC
   go_enter Try.func38,Try.ntmps38
   go_wp2_with (first | rw [HW1.out] | rw [HP.out])
   try rw [HW2.out]
   go_ret
   first | exact ⟨by rw [HE.out]; rfl,by first | exact HBw.out | (rw [← HP.out]; exact HBw.out)⟩ | (rw [HW2.out]; exact ⟨by rw [HE.out]; rfl,by first | exact HBw.out | (rw [← HP.out]; exact HBw.out)⟩)
  ·have d2 : decide (21 < op) = false := decide_eq_false ho2
   have HE : Hid (wrg f k ⟨op,d,a,b,c,imm⟩ = if inR f k ⟨op,d,a,b,c,imm⟩ = false then 3 else if spl f ⟨op,d,a,b,c,imm⟩ = true then 10 else 0) := by show _ = _; unfold wrg; rw [if_neg (by dsimp only; omega)]
   obtain ⟨q,hq⟩ : ∃ q,inR f k ⟨op,d,a,b,c,imm⟩ = q := ⟨_,rfl⟩
   have HQ := keep hq
   rw [hq] at HC HE
   clear ho1 ho2 hq
   go_enter Try.func38,Try.ntmps38
   go_wp2_with (first | rw [HW1.out] | rw [HP.out] | rw [HW2.out])
   refine HC.out.mono ?_
   rintro r w3 ⟨rfl,hb3⟩
   rw [HIe.out]
   have HB3 := keep hb3
   clear hb3 HC z0 z1 z2 z3 z4 z5 y00 y0 y1 y2 y3 x0
   cases q with
   | false =>
    go_wp2
    go_ret
    exact ⟨by rw [HE.out]; rfl,by first | exact HBw.out.trans (HB3.out.mono HBw.out.size) | (rw [← HP.out]; exact HBw.out.trans (HB3.out.mono HBw.out.size))⟩
   | true =>
    have kI3 := HI.out.fs (Fs.of_below (l:=[]) HB3.out) (by simp)
    have kF3 := HF.out.below HB3.out
    have x0 := kI3.cell 0 rfl
    have x1 := kI3.cell 1 rfl
    have x2 := kI3.cell 2 rfl
    have x3 := kI3.cell 3 rfl
    have x4 := kI3.cell 4 rfl
    have x5 := kI3.cell 5 rfl
    have y0 := kF3.box.cell 0 rfl
    have y1 := kF3.box.cell 1 rfl
    have y2 := kF3.box.cell 2 rfl
    have y3 := kF3.box.cell 3 rfl
    have HC := keep (spl_any B f _ _ _ ⟨op,d,a,b,c,imm⟩ w3 kF3.le kF3.is (there_of HQ.out))
    unfold fxA ixA at HC
    dsimp only at HC
    obtain ⟨q,hq⟩ : ∃ q,spl f ⟨op,d,a,b,c,imm⟩ = q := ⟨_,rfl⟩
    rw [hq] at HC HE
    clear hq kI3 kF3
    go_wp2_with fail
    refine HC.out.mono ?_
    rintro r w4 ⟨rfl,hb4⟩
    have HB4 := keep (HB3.out.trans (hb4.mono HB3.out.size))
    clear hb4 HC x0 x1 x2 x3 x4 x5 y0 y1 y2 y3
    cases q with
    | true =>
     go_wp2
     go_ret
     exact ⟨by rw [HE.out]; rfl,by first | exact HBw.out.trans (HB4.out.mono HBw.out.size) | (rw [← HP.out]; exact HBw.out.trans (HB4.out.mono HBw.out.size))⟩
    | false =>
     go_wp2
     go_ret
     exact ⟨by rw [HE.out]; rfl,by first | exact HBw.out.trans (HB4.out.mono HBw.out.size) | (rw [← HP.out]; exact HBw.out.trans (HB4.out.mono HBw.out.size))⟩
theorem chk_on {f : Fx} {k : Nat} {i : Ix} (h : chkL f 0 f.code = chkL f (k : Int) (f.code.drop k)) (hi : f.code[k]? = some i) (h0 : wrg f k i = 0) : chkL f 0 f.code = chkL f ((k + 1 : Nat) : Int) (f.code.drop (k + 1)) := by
 have hl := (List.getElem?_eq_some_iff.1 hi)
 obtain ⟨hlt,he⟩ := hl
 rw [h,List.drop_eq_getElem_cons hlt,he,chkL,if_pos h0,Int.natCast_add]
 rfl
theorem chk_at {f : Fx} {k : Nat} {i : Ix} (h : chkL f 0 f.code = chkL f (k : Int) (f.code.drop k)) (hi : f.code[k]? = some i) (h0 : wrg f k i ≠ 0) : chkL f 0 f.code = (wrg f k i,(k : Int)) := by
 obtain ⟨hlt,he⟩ := (List.getElem?_eq_some_iff.1 hi)
 rw [h,List.drop_eq_getElem_cons hlt,he,chkL,if_neg h0]
def ChkP (f : Fx) (w : World) (r : Ending) (w' : World) : Prop := r = .returned (.tuple #[.int .i64 (checkF f).1,.int .i64 (checkF f).2]) ∧ Below w.heap.size w w'
theorem ChkP.mk {f : Fx} {w w' : World} {a b : Int} (h : checkF f = (a,b)) (hb : Below w.heap.size w w') : ChkP f w (.returned (.tuple #[.int .i64 a,.int .i64 b])) w' := by
 refine ⟨?_,hb⟩
 rw [h]
theorem check_any (B : Nat) (f : Fx) (s1 s2 s3 : Value) (w : World) (hB : B ≤ w.heap.size) (h : FxIs w B f s1 s2 s3) :
  Calls Try.prog 16 #[.agg (fxA f s1 s2 s3)] w fun r w' => ChkP f w r w' := by
 obtain ⟨p1,n1,c1,hs1,hn1,_,hm1,hq1⟩ := id h.code
 obtain ⟨p2,n2,c2,hs2,hn2,_,hm2,_⟩ := id h.sec
 obtain ⟨p3,n3,c3,hs3,hn3,_,hm3,_⟩ := id h.arrs
 subst hs1 hs2 hs3
 obtain ⟨w1,hw1⟩ : ∃ y,w.alloc (.cells #[.slice p1 n1 c1,.slice p2 n2 c2,.int .i64 f.params,.slice p3 n3 c3] 26) = y := ⟨_,rfl⟩
 obtain ⟨P,hP⟩ : ∃ y,w.heap.size = y := ⟨_,rfl⟩
 have b1 : Below w.heap.size w w1 := by rw [← hw1]; exact (Below.refl _ _).alloc (Nat.le_refl _) _
 have kP : Bk w1 P [.slice p1 n1 c1,.slice p2 n2 c2,.int .i64 f.params,.slice p3 n3 c3] 26 := by rw [← hw1,← hP]; exact Bk.new _ _ _
 have h1 := h.below (b1.mono hB)
 have hF : BoxF w1 P B f (.slice p1 n1 c1) (.slice p2 n2 c2) (.slice p3 n3 c3) := ⟨kP,h1,by have := b1.size; omega⟩
 have y0 := kP.cell 0 rfl
 have y1 := kP.cell 1 rfl
 have y2 := kP.cell 2 rfl
 have y3 := kP.cell 3 rfl
 have HF := keep hF
 have HW1 := keep hw1
 have HP := keep hP
 have HBw := keep b1
 have HN1 := keep hn1
 have HN2 := keep hn2
 have HN3 := keep hn3
 obtain ⟨pr,hpr⟩ : ∃ y,f.params = y := ⟨_,rfl⟩
 have HPr := keep hpr
 rw [hpr] at y2
 have HNo : Hid (n1 < 1 ∨ 12000 < n1 ∨ pr < 0 ∨ (n2 : Int) < pr → checkF f = (4,-1)) := fun ho => by
  unfold checkF
  rw [if_neg]
  unfold room
  rw [HN1.out,HN2.out,HPr.out]
  simp only [Bool.and_eq_true,Bool.not_eq_true',decide_eq_false_iff_not]
  omega
 have HYes : Hid (¬ (n1 < 1 ∨ 12000 < n1 ∨ pr < 0 ∨ (n2 : Int) < pr) → checkF f = chkL f 0 f.code) := fun ho => by
  unfold checkF
  rw [if_pos]
  unfold room
  rw [HN1.out,HN2.out,HPr.out]
  simp only [Bool.and_eq_true,Bool.not_eq_true',decide_eq_false_iff_not]
  omega
 unfold fxA
 rw [hpr]
 rw [hpr] at hw1
 have HW1 := keep hw1
 clear hw1 hP b1 kP hF hq1 hn1 hn2 hn3 h hB h1 hpr
 by_cases g1 : n1 < 1
 ·have d1 : decide ((n1 : Int) < 1) = true := decide_eq_true (by omega)
  have HE := keep (HNo.out (.inl g1))
  clear g1 HNo HYes
  go_enter Try.func16,Try.ntmps16
  go_wp2_with (first | rw [HW1.out] | rw [HP.out])
  refine bodyPost_ret (results_tmp2 rfl _ _ _) rfl ?_
  exact .mk HE.out HBw.out
 ·have d1 : decide ((n1 : Int) < 1) = false := decide_eq_false (by omega)
  by_cases g2 : 12000 < n1
  ·have d2 : decide ((12000 : Int) < (n1 : Int)) = true := decide_eq_true (by omega)
   have HE := keep (HNo.out (.inr (.inl g2)))
   clear g1 g2 HNo HYes
   go_enter Try.func16,Try.ntmps16
   go_wp2_with (first | rw [HW1.out] | rw [HP.out])
   refine bodyPost_ret (results_tmp2 rfl _ _ _) rfl ?_
   exact .mk HE.out HBw.out
  ·have d2 : decide ((12000 : Int) < (n1 : Int)) = false := decide_eq_false (by omega)
   by_cases g3 : pr < 0
   ·have d3 : decide (pr < 0) = true := decide_eq_true g3
    have HE := keep (HNo.out (.inr (.inr (.inl g3))))
    clear g1 g2 g3 HNo HYes
    go_enter Try.func16,Try.ntmps16
    go_wp2_with (first | rw [HW1.out] | rw [HP.out])
    refine bodyPost_ret (results_tmp2 rfl _ _ _) rfl ?_
    exact .mk HE.out HBw.out
   ·have d3 : decide (pr < 0) = false := decide_eq_false g3
    by_cases g4 : (n2 : Int) < pr
    ·have d4 : decide ((n2 : Int) < pr) = true := decide_eq_true g4
     have HE := keep (HNo.out (.inr (.inr (.inr g4))))
     clear g1 g2 g3 g4 HNo HYes
     go_enter Try.func16,Try.ntmps16
     go_wp2_with (first | rw [HW1.out] | rw [HP.out])
     refine bodyPost_ret (results_tmp2 rfl _ _ _) rfl ?_
     exact .mk HE.out HBw.out
    ·have d4 : decide ((n2 : Int) < pr) = false := decide_eq_false g4
     have HE := keep (HYes.out (by omega))
     have HG : Hid (1 ≤ n1 ∧ n1 ≤ 12000) := ⟨by omega,by omega⟩
     clear g1 g2 g3 g4 HNo HYes
     go_enter Try.func16,Try.ntmps16
     go_wp2_with (first | rw [HW1.out] | rw [HP.out])
     clear d1 d2 d3 d4 y0 y1 y2 y3
     go_loopw [33] (fun i wx => ∃ k : Nat,k ≤ n1 ∧ i = .int .i64 (k : Int) ∧ chkL f 0 f.code = chkL f (k : Int) (f.code.drop k) ∧ Below w1.heap.size w1 wx) (fun i _ => n1 - (intOf i).toNat)
     case atStart => exact ⟨0,by omega,rfl,rfl,Below.refl _ _⟩
     case round =>
      obtain ⟨k,hkn,rfl,hch,hbx⟩ := hrel
      have HS := keep hch
      have HX := keep hbx
      have kF := HF.out.below hbx
      have y0 := kF.box.cell 0 rfl
      have y1 := kF.box.cell 1 rfl
      have y2 := kF.box.cell 2 rfl
      have y3 := kF.box.cell 3 rfl
      rw [HPr.out] at y2
      by_cases hkl : k < n1
      ·have d1 : decide ((k : Int) < (n1 : Int)) = true := decide_eq_true (by omega)
       have hkz : (k : Int) < (n1 : Int) := by omega
       have hk0 : (0 : Int) ≤ (k : Int) := by omega
       obtain ⟨x,hx⟩ : ∃ x,f.code[k]? = some x := ⟨_,List.getElem?_eq_getElem (by rw [HN1.out]; exact hkl)⟩
       have HUX := keep hx
       have HC := keep (wrg_any B f _ _ _ k x wr kF.le kF.is hx)
       unfold fxA at HC
       rw [HPr.out] at HC
       obtain ⟨q,hq⟩ : ∃ q,wrg f k x = q := ⟨_,rfl⟩
       have HQ := keep hq
       rw [hq] at HC
       clear hch hbx kF hx hq
       go_wp2_with fail
       refine HC.out.mono ?_
       rintro r w2 ⟨rfl,hb2⟩
       have HB2 := keep (HX.out.trans (hb2.mono HX.out.size))
       clear hb2 HC y0 y1 y2 y3
       by_cases hq0 : q = 0
       ·subst hq0
        go_wp2
        go_roundw
        case rel => exact ⟨k + 1,by omega,by go_num,chk_on HS.out HUX.out HQ.out,HB2.out⟩
        case measure => simp [intOf]; omega
       ·have k0 : (q == 0) = false := by simpa using hq0
        have HK := keep (chk_at HS.out HUX.out (by rw [HQ.out]; exact hq0))
        clear hq0
        go_wp2
        refine bodyPost_ret (results_tmp2 rfl _ _ _) rfl ?_
        exact .mk (by rw [HE.out,HK.out,HQ.out]) (HBw.out.trans (HB2.out.mono HBw.out.size))
      ·have hke : k = n1 := by omega
       subst hke
       have dl : decide ((k : Int) < (k : Int)) = false := decide_eq_false (by omega)
       have hwr : IntKind.i64.wrap ((k : Int) - 1) = ((k - 1 : Nat) : Int) := by
        have := HG.out
        rw [IntKind.wrap_i64]; omega
       have hz0 : (0 : Int) ≤ ((k - 1 : Nat) : Int) := by omega
       have hz1 : ((k - 1 : Nat) : Int) < (k : Int) := by have := HG.out; omega
       obtain ⟨x,hx⟩ : ∃ x,f.code[k - 1]? = some x := ⟨_,List.getElem?_eq_getElem (by rw [HN1.out]; have := HG.out; omega)⟩
       have HUX := keep hx
       obtain ⟨t1,t2,t3,t4,t5,_,_,t8⟩ := kF.is.code
       cases t4
       obtain ⟨g,o,rfl,hg,hix⟩ := t8 (k - 1) x hx
       obtain ⟨op,d,a,b,c,imm⟩ := x
       have z0 := hix.c0
       dsimp only at z0
       have HEnd : Hid (chkL f 0 f.code = if lst op = true then (0,-1) else (8,((k - 1 : Nat) : Int))) := by
        show _ = _
        rw [HS.out,List.drop_eq_nil_of_le (by rw [HN1.out]; exact Nat.le_refl _),chkL]
        unfold endF
        rw [List.getLast?_eq_getElem?,HN1.out,HUX.out]
        dsimp only
        split
        ·rfl
        ·have := HG.out
         congr 1
         omega
       have HL := keep (last_any op wr)
       obtain ⟨q,hq⟩ : ∃ q,lst op = q := ⟨_,rfl⟩
       rw [hq] at HL HEnd
       clear hq hkl hch hbx kF hx hix t8 hg HS hkn
       go_wp2_with fail
       refine HL.out.mono ?_
       rintro r w2 ⟨rfl,rfl⟩
       clear HL
       cases q with
       | true =>
        go_wp2
        refine bodyPost_ret (results_tmp2 rfl _ _ _) rfl ?_
        exact .mk (by rw [HE.out,HEnd.out]; rfl) (HBw.out.trans (HX.out.mono HBw.out.size))
       | false =>
        go_wp2
        refine bodyPost_ret (results_tmp2 rfl _ _ _) rfl ?_
        exact .mk (by rw [HE.out,HEnd.out]; rfl) (HBw.out.trans (HX.out.mono HBw.out.size))
end Go.Proofs.Ytpnacanbknejiaa.Fl
