/- Whether all that an instruction mentions is there: flow's inRange. Written by tools/gen_flin.py. -/
import Derived.Test.YtpnacanbknejiaaGr9
import Derived.Test.YtpnacanbknejiaaFlIdx
namespace Go.Proofs.Ytpnacanbknejiaa.Fl
set_option maxHeartbeats 32000000
set_option maxRecDepth 100000
set_option linter.unusedVariables false
set_option linter.unusedSimpArgs false
open Go.ChangeShapes Go.WideShapes Go.ChangeAt Go.RowKit Lg Lr
theorem inR_no1 {f : Fx} {k : Int} {i : Ix} (hm : mks i = true) (h : wi i.d f.sec.length = false) : inR f k i = false := by
 unfold inR
 rw [hm,h]; rfl
theorem inR_no2 {f : Fx} {k : Int} {i : Ix} (h : ((rds i).any fun x => !wi x f.sec.length) = true) : inR f k i = false := by
 unfold inR
 rw [List.all_eq_not_any_not,h]
 simp
theorem inR_ext {f : Fx} {k : Int} {i : Ix} (h1 : (!mks i || wi i.d f.sec.length) = true) (h2 : ((rds i).any fun x => !wi x f.sec.length) = false) : inR f k i = ext f k i := by
 unfold inR
 rw [h1,List.all_eq_not_any_not,h2]
 simp
theorem inR_any (B : Nat) (f : Fx) (s1 s2 s3 : Value) (k : Nat) (i : Ix) (w : World) (hB : B ≤ w.heap.size) (h : FxIs w B f s1 s2 s3) (hi : f.code[k]? = some i) :
  Calls Try.prog 62 #[.agg (fxA f s1 s2 s3),.int .i64 (k : Int)] w fun r w' => r = .returned (.bool (inR f k i)) ∧ Below w.heap.size w w' := by
 obtain ⟨p1,n1,c1,hs1,hn1,_,hm1,hq1⟩ := id h.code
 obtain ⟨p2,n2,c2,hs2,hn2,_,hm2,_⟩ := id h.sec
 obtain ⟨p3,n3,c3,hs3,hn3,_,hm3,_⟩ := id h.arrs
 subst hs1 hs2 hs3
 obtain ⟨g,o,rfl,hg,hix⟩ := hq1 k i hi
 obtain ⟨op,d,a,b,c,imm⟩ := i
 obtain ⟨w1,hw1⟩ : ∃ y,w.alloc (.cells #[.slice (some ⟨g,o,none⟩) n1 c1,.slice p2 n2 c2,.int .i64 f.params,.slice p3 n3 c3] 26) = y := ⟨_,rfl⟩
 obtain ⟨w2,hw2⟩ : ∃ y,w1.alloc (.cells #[.int .i64 op,.int .i64 d,.int .i64 a,.int .i64 b,.int .i64 c,.int .i64 imm] 35) = y := ⟨_,rfl⟩
 obtain ⟨P,hP⟩ : ∃ y,w.heap.size = y := ⟨_,rfl⟩
 obtain ⟨I,hI⟩ : ∃ y,w1.heap.size = y := ⟨_,rfl⟩
 have b1 : Below w.heap.size w w1 := by rw [← hw1]; exact (Below.refl _ _).alloc (Nat.le_refl _) _
 have b2 : Below w1.heap.size w1 w2 := by rw [← hw2]; exact (Below.refl _ _).alloc (Nat.le_refl _) _
 have b12 := b1.trans (b2.mono b1.size)
 have kP : Bk w1 P [.slice (some ⟨g,o,none⟩) n1 c1,.slice p2 n2 c2,.int .i64 f.params,.slice p3 n3 c3] 26 := by rw [← hw1,← hP]; exact Bk.new _ _ _
 have kP2 := kP.fs (Fs.of_below (l:=[]) b2) (by simp)
 have kI : Bk w2 I [.int .i64 op,.int .i64 d,.int .i64 a,.int .i64 b,.int .i64 c,.int .i64 imm] 35 := by rw [← hw2,← hI]; exact Bk.new _ _ _
 have hF : BoxF w2 P B f (.slice (some ⟨g,o,none⟩) n1 c1) (.slice p2 n2 c2) (.slice p3 n3 c3) := ⟨kP2,h.below (b12.mono hB),by have := b12.size; omega⟩
 have hx := hix.below (b1.mono hB) hg
 have z0 := hx.c0
 have z1 := hx.c1
 have z2 := hx.c2
 have z3 := hx.c3
 have z4 := hx.c4
 have z5 := hx.c5
 dsimp only at z0 z1 z2 z3 z4 z5
 have y1 := kP.cell 0 rfl
 have HF := keep hF
 have HI := keep kI
 have HW1 := keep hw1
 have HW2 := keep hw2
 have HP := keep hP
 have HIe := keep hI
 have HBw := keep b12
 have HN1 := keep hn1
 have HN2 := keep hn2
 have HN3 := keep hn3
 have x0 := kI.cell 0 rfl
 have x1 := kI.cell 1 rfl
 have x2 := kI.cell 2 rfl
 have x3 := kI.cell 3 rfl
 have x4 := kI.cell 4 rfl
 have x5 := kI.cell 5 rfl
 have HM := keep (makes_any ⟨op,d,a,b,c,imm⟩ w2)
 unfold ixA at HM
 dsimp only at HM
 unfold fxA
 have k0 : (0 : Int) ≤ (k : Int) := by omega
 have k1 : (k : Int) < (n1 : Int) := by
  have := (List.getElem?_eq_some_iff.1 hi).1
  omega
 clear hw1 hw2 hP hI b1 b2 b12 kP kP2 kI hF hx hix hq1 hn1 hn2 hn3 h hi hB hg
 go_enter Try.func62,Try.ntmps62
 go_wp2_with (first | rw [HW1.out] | rw [HP.out])
 rw [HW2.out]
 refine HM.out.mono ?_
 rintro r w3 ⟨rfl,hb3⟩
 rw [HIe.out]
 have HB3 := keep hb3
 clear hb3 HM z0 z1 z2 z3 z4 z5 y1 x0 x1 x2 x3 x4 x5
 obtain ⟨m,hm⟩ : ∃ m,mks ⟨op,d,a,b,c,imm⟩ = m := ⟨_,rfl⟩
 have HMk := keep hm
 have kI3 := HI.out.fs (Fs.of_below (l:=[]) HB3.out) (by simp)
 have kF3 := (HF.out.below HB3.out).box
 have x0 := kI3.cell 0 rfl
 have x1 := kI3.cell 1 rfl
 have x2 := kI3.cell 2 rfl
 have x3 := kI3.cell 3 rfl
 have x4 := kI3.cell 4 rfl
 have x5 := kI3.cell 5 rfl
 have y0 := kF3.cell 0 rfl
 have y1 := kF3.cell 1 rfl
 have y3 := kF3.cell 3 rfl
 rw [hm]
 clear hm kI3 kF3
 cases m with
 | true =>
  have HWi := keep (within_any d n2 w3)
  go_wp2_with fail
  refine HWi.out.mono ?_
  rintro r w3 ⟨rfl,rfl⟩
  clear HWi
  obtain ⟨q1,hq1⟩ : ∃ q,wi d n2 = q := ⟨_,rfl⟩
  have HQ := keep hq1
  rw [hq1]
  clear hq1
  cases q1 with
  | false =>
   go_wp2
   go_ret
   exact ⟨by rw [inR_no1 HMk.out (by rw [HN2.out]; exact HQ.out)]; rfl,HBw.out.trans (HB3.out.mono HBw.out.size)⟩
  | true =>
   have HQ1 : Hid ((!mks ⟨op,d,a,b,c,imm⟩ || wi d f.sec.length) = true) := by show _ = _; rw [HMk.out,HN2.out,HQ.out]; rfl
   have HR := keep (reads_any ⟨op,d,a,b,c,imm⟩ w3)
   unfold ixA at HR
   dsimp only at HR
   go_wp2_with fail
   refine HR.out.mono ?_
   rintro r w4 ⟨v,rfl,hv,hb4⟩
   obtain ⟨pv,nv,cv,rfl⟩ := hv.slice
   have HB4 := keep (HB3.out.trans (hb4.mono HB3.out.size))
   have HC := keep (contains_in P B f _ _ _ w4.heap.size (rds ⟨op,d,a,b,c,imm⟩) _ w4 (Nat.le_refl _) hv (HF.out.below HB4.out))
   clear hv hb4 HR x0 x1 x2 x3 x4 x5 y0 y1 y3
   go_wp2_with fail
   refine HC.out.mono ?_
   rintro r w5 ⟨rfl,hb5⟩
   have HB5 := keep (HB4.out.trans (hb5.mono HB4.out.size))
   clear hb5 HC
   obtain ⟨q2,hq2⟩ : ∃ q,((rds ⟨op,d,a,b,c,imm⟩).any fun x => !wi x f.sec.length) = q := ⟨_,rfl⟩
   have HQ2 := keep hq2
   have kI5 := HI.out.fs (Fs.of_below (l:=[]) HB5.out) (by simp)
   have kF5 := (HF.out.below HB5.out).box
   have x0 := kI5.cell 0 rfl
   have x3 := kI5.cell 3 rfl
   have x5 := kI5.cell 5 rfl
   have y0 := kF5.cell 0 rfl
   have y3 := kF5.cell 3 rfl
   rw [hq2]
   clear hq2 kI5 kF5
   cases q2 with
   | true =>
    go_wp2
    go_ret
    exact ⟨by rw [inR_no2 HQ2.out]; rfl,HBw.out.trans (HB5.out.mono HBw.out.size)⟩
   | false =>
    have HE := keep (inR_ext (f:=f) (k:=(k : Int)) HQ1.out HQ2.out)
    by_cases h14 : op = 14
    ·subst h14
     by_cases hw : 0 ≤ imm ∧ imm ≤ 4294967295
     ·have HIs := keep (Wd.is_yes imm hw.1 hw.2 w5)
      have HX : Hid (ext f (k : Int) ⟨14,d,a,b,c,imm⟩ = true) := by show _ = _; unfold ext; rw [if_pos rfl,decide_eq_true hw.1,decide_eq_true hw.2]; rfl
      clear hw
      go_wp2_with fail
      refine HIs.out.mono ?_
      rintro r w6 ⟨rfl,rfl⟩
      clear HIs
      go_wp2
      go_ret
      exact ⟨by rw [HE.out,HX.out]; rfl,HBw.out.trans (HB5.out.mono HBw.out.size)⟩
     ·have HIs := keep (Wd.is_no imm (by omega) w5)
      have HX : Hid (ext f (k : Int) ⟨14,d,a,b,c,imm⟩ = false) := by show _ = _; unfold ext; rw [if_pos rfl,Bool.and_eq_false_iff,decide_eq_false_iff_not,decide_eq_false_iff_not]; dsimp only; omega
      clear hw
      go_wp2_with fail
      refine HIs.out.mono ?_
      rintro r w6 ⟨rfl,rfl⟩
      clear HIs
      go_wp2
      go_ret
      exact ⟨by rw [HE.out,HX.out]; rfl,HBw.out.trans (HB5.out.mono HBw.out.size)⟩
    ·have k14 : (op == 14) = false := by simpa using h14
     by_cases h16 : op = 16
     ·subst h16
      have HIs := keep (within_any b n3 w5)
      have HX : Hid (ext f (k : Int) ⟨16,d,a,b,c,imm⟩ = wi b n3) := by show _ = _; unfold ext; rw [if_neg (by dsimp only; omega),if_pos (.inl rfl),HN3.out]
      clear h14 k14
      go_wp2_with fail
      refine HIs.out.mono ?_
      rintro r w6 ⟨rfl,rfl⟩
      clear HIs
      go_wp2
      go_ret
      exact ⟨by rw [HE.out,HX.out]; rfl,HBw.out.trans (HB5.out.mono HBw.out.size)⟩
     ·have k16 : (op == 16) = false := by simpa using h16
      by_cases h17 : op = 17
      ·subst h17
       have HIs := keep (within_any b n3 w5)
       have HX : Hid (ext f (k : Int) ⟨17,d,a,b,c,imm⟩ = wi b n3) := by show _ = _; unfold ext; rw [if_neg (by dsimp only; omega),if_pos (.inr rfl),HN3.out]
       clear h14 k14 h16 k16
       go_wp2_with fail
       refine HIs.out.mono ?_
       rintro r w6 ⟨rfl,rfl⟩
       clear HIs
       go_wp2
       go_ret
       exact ⟨by rw [HE.out,HX.out]; rfl,HBw.out.trans (HB5.out.mono HBw.out.size)⟩
      ·have k17 : (op == 17) = false := by simpa using h17
       have HX8 : Hid (op = 18 ∨ op = 19 → ext f (k : Int) ⟨op,d,a,b,c,imm⟩ = (decide ((k : Int) < imm) && decide (imm < n1))) := fun ho => by unfold ext; rw [if_neg (by dsimp only; omega),if_neg (by dsimp only; omega),if_pos ho,HN1.out]
       have HX9 : Hid (¬ (op = 18 ∨ op = 19) → ext f (k : Int) ⟨op,d,a,b,c,imm⟩ = true) := fun ho => by unfold ext; rw [if_neg (by dsimp only; omega),if_neg (by dsimp only; omega),if_neg ho]
       by_cases h18 : op = 18
       ·subst h18
        have HY := keep (HX8.out (.inl rfl))
        clear HX8 HX9
        clear h14 k14 h16 k16 h17 k17
        by_cases hk : (k : Int) < imm
        ·have dk : decide ((k : Int) < imm) = true := decide_eq_true hk
         go_wp2
         go_ret
         exact ⟨by rw [HE.out,HY.out,dk]; rfl,HBw.out.trans (HB5.out.mono HBw.out.size)⟩
        ·have dk : decide ((k : Int) < imm) = false := decide_eq_false hk
         go_wp2
         go_ret
         exact ⟨by rw [HE.out,HY.out,dk]; rfl,HBw.out.trans (HB5.out.mono HBw.out.size)⟩
       ·have k18 : (op == 18) = false := by simpa using h18
        by_cases h19 : op = 19
        ·subst h19
         have HY := keep (HX8.out (.inr rfl))
         clear HX8 HX9
         clear h14 k14 h16 k16 h17 k17 h18 k18
         by_cases hk : (k : Int) < imm
         ·have dk : decide ((k : Int) < imm) = true := decide_eq_true hk
          go_wp2
          go_ret
          exact ⟨by rw [HE.out,HY.out,dk]; rfl,HBw.out.trans (HB5.out.mono HBw.out.size)⟩
         ·have dk : decide ((k : Int) < imm) = false := decide_eq_false hk
          go_wp2
          go_ret
          exact ⟨by rw [HE.out,HY.out,dk]; rfl,HBw.out.trans (HB5.out.mono HBw.out.size)⟩
        ·have k19 : (op == 19) = false := by simpa using h19
         have HY := keep (HX9.out (by omega))
         clear h14 h16 h17 h18 h19 HX8 HX9
         go_wp2
         go_ret
         exact ⟨by rw [HE.out,HY.out]; rfl,HBw.out.trans (HB5.out.mono HBw.out.size)⟩
 | false =>
  have HQ1 : Hid ((!mks ⟨op,d,a,b,c,imm⟩ || wi d f.sec.length) = true) := by show _ = _; rw [HMk.out]; rfl
  have HR := keep (reads_any ⟨op,d,a,b,c,imm⟩ w3)
  unfold ixA at HR
  dsimp only at HR
  go_wp2_with fail
  refine HR.out.mono ?_
  rintro r w4 ⟨v,rfl,hv,hb4⟩
  obtain ⟨pv,nv,cv,rfl⟩ := hv.slice
  have HB4 := keep (HB3.out.trans (hb4.mono HB3.out.size))
  have HC := keep (contains_in P B f _ _ _ w4.heap.size (rds ⟨op,d,a,b,c,imm⟩) _ w4 (Nat.le_refl _) hv (HF.out.below HB4.out))
  clear hv hb4 HR x0 x1 x2 x3 x4 x5 y0 y1 y3
  go_wp2_with fail
  refine HC.out.mono ?_
  rintro r w5 ⟨rfl,hb5⟩
  have HB5 := keep (HB4.out.trans (hb5.mono HB4.out.size))
  clear hb5 HC
  obtain ⟨q2,hq2⟩ : ∃ q,((rds ⟨op,d,a,b,c,imm⟩).any fun x => !wi x f.sec.length) = q := ⟨_,rfl⟩
  have HQ2 := keep hq2
  have kI5 := HI.out.fs (Fs.of_below (l:=[]) HB5.out) (by simp)
  have kF5 := (HF.out.below HB5.out).box
  have x0 := kI5.cell 0 rfl
  have x3 := kI5.cell 3 rfl
  have x5 := kI5.cell 5 rfl
  have y0 := kF5.cell 0 rfl
  have y3 := kF5.cell 3 rfl
  rw [hq2]
  clear hq2 kI5 kF5
  cases q2 with
  | true =>
   go_wp2
   go_ret
   exact ⟨by rw [inR_no2 HQ2.out]; rfl,HBw.out.trans (HB5.out.mono HBw.out.size)⟩
  | false =>
   have HE := keep (inR_ext (f:=f) (k:=(k : Int)) HQ1.out HQ2.out)
   by_cases h14 : op = 14
   ·subst h14
    by_cases hw : 0 ≤ imm ∧ imm ≤ 4294967295
    ·have HIs := keep (Wd.is_yes imm hw.1 hw.2 w5)
     have HX : Hid (ext f (k : Int) ⟨14,d,a,b,c,imm⟩ = true) := by show _ = _; unfold ext; rw [if_pos rfl,decide_eq_true hw.1,decide_eq_true hw.2]; rfl
     clear hw
     go_wp2_with fail
     refine HIs.out.mono ?_
     rintro r w6 ⟨rfl,rfl⟩
     clear HIs
     go_wp2
     go_ret
     exact ⟨by rw [HE.out,HX.out]; rfl,HBw.out.trans (HB5.out.mono HBw.out.size)⟩
    ·have HIs := keep (Wd.is_no imm (by omega) w5)
     have HX : Hid (ext f (k : Int) ⟨14,d,a,b,c,imm⟩ = false) := by show _ = _; unfold ext; rw [if_pos rfl,Bool.and_eq_false_iff,decide_eq_false_iff_not,decide_eq_false_iff_not]; dsimp only; omega
     clear hw
     go_wp2_with fail
     refine HIs.out.mono ?_
     rintro r w6 ⟨rfl,rfl⟩
     clear HIs
     go_wp2
     go_ret
     exact ⟨by rw [HE.out,HX.out]; rfl,HBw.out.trans (HB5.out.mono HBw.out.size)⟩
   ·have k14 : (op == 14) = false := by simpa using h14
    by_cases h16 : op = 16
    ·subst h16
     have HIs := keep (within_any b n3 w5)
     have HX : Hid (ext f (k : Int) ⟨16,d,a,b,c,imm⟩ = wi b n3) := by show _ = _; unfold ext; rw [if_neg (by dsimp only; omega),if_pos (.inl rfl),HN3.out]
     clear h14 k14
     go_wp2_with fail
     refine HIs.out.mono ?_
     rintro r w6 ⟨rfl,rfl⟩
     clear HIs
     go_wp2
     go_ret
     exact ⟨by rw [HE.out,HX.out]; rfl,HBw.out.trans (HB5.out.mono HBw.out.size)⟩
    ·have k16 : (op == 16) = false := by simpa using h16
     by_cases h17 : op = 17
     ·subst h17
      have HIs := keep (within_any b n3 w5)
      have HX : Hid (ext f (k : Int) ⟨17,d,a,b,c,imm⟩ = wi b n3) := by show _ = _; unfold ext; rw [if_neg (by dsimp only; omega),if_pos (.inr rfl),HN3.out]
      clear h14 k14 h16 k16
      go_wp2_with fail
      refine HIs.out.mono ?_
      rintro r w6 ⟨rfl,rfl⟩
      clear HIs
      go_wp2
      go_ret
      exact ⟨by rw [HE.out,HX.out]; rfl,HBw.out.trans (HB5.out.mono HBw.out.size)⟩
     ·have k17 : (op == 17) = false := by simpa using h17
      have HX8 : Hid (op = 18 ∨ op = 19 → ext f (k : Int) ⟨op,d,a,b,c,imm⟩ = (decide ((k : Int) < imm) && decide (imm < n1))) := fun ho => by unfold ext; rw [if_neg (by dsimp only; omega),if_neg (by dsimp only; omega),if_pos ho,HN1.out]
      have HX9 : Hid (¬ (op = 18 ∨ op = 19) → ext f (k : Int) ⟨op,d,a,b,c,imm⟩ = true) := fun ho => by unfold ext; rw [if_neg (by dsimp only; omega),if_neg (by dsimp only; omega),if_neg ho]
      by_cases h18 : op = 18
      ·subst h18
       have HY := keep (HX8.out (.inl rfl))
       clear HX8 HX9
       clear h14 k14 h16 k16 h17 k17
       by_cases hk : (k : Int) < imm
       ·have dk : decide ((k : Int) < imm) = true := decide_eq_true hk
        go_wp2
        go_ret
        exact ⟨by rw [HE.out,HY.out,dk]; rfl,HBw.out.trans (HB5.out.mono HBw.out.size)⟩
       ·have dk : decide ((k : Int) < imm) = false := decide_eq_false hk
        go_wp2
        go_ret
        exact ⟨by rw [HE.out,HY.out,dk]; rfl,HBw.out.trans (HB5.out.mono HBw.out.size)⟩
      ·have k18 : (op == 18) = false := by simpa using h18
       by_cases h19 : op = 19
       ·subst h19
        have HY := keep (HX8.out (.inr rfl))
        clear HX8 HX9
        clear h14 k14 h16 k16 h17 k17 h18 k18
        by_cases hk : (k : Int) < imm
        ·have dk : decide ((k : Int) < imm) = true := decide_eq_true hk
         go_wp2
         go_ret
         exact ⟨by rw [HE.out,HY.out,dk]; rfl,HBw.out.trans (HB5.out.mono HBw.out.size)⟩
        ·have dk : decide ((k : Int) < imm) = false := decide_eq_false hk
         go_wp2
         go_ret
         exact ⟨by rw [HE.out,HY.out,dk]; rfl,HBw.out.trans (HB5.out.mono HBw.out.size)⟩
       ·have k19 : (op == 19) = false := by simpa using h19
        have HY := keep (HX9.out (by omega))
        clear h14 h16 h17 h18 h19 HX8 HX9
        go_wp2
        go_ret
        exact ⟨by rw [HE.out,HY.out]; rfl,HBw.out.trans (HB5.out.mono HBw.out.size)⟩
end Go.Proofs.Ytpnacanbknejiaa.Fl
