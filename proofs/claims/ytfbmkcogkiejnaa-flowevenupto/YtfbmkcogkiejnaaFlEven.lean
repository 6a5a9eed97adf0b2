/- WHAT SHOWS NOTHING IS EVEN: FlowEven, walked. Written by tools/gen_fleven.py. -/
import Derived.Test.YtfbmkcogkiejnaaFlWays
import Derived.Test.YtfbmkcogkiejnaaFlShows
import Derived.Test.YtfbmkcogkiejnaaFlLeaks
import Derived.Test.YtfbmkcogkiejnaaRtOps
namespace Go.Proofs.Ytfbmkcogkiejnaa.Fl
set_option linter.unusedVariables false
set_option linter.unusedSimpArgs false
open Go.ChangeShapes Go.WideShapes Go.ChangeAt Go.RowKit Lg Lr

theorem tabR_of {T : Nat → Int} (h : Tb.wrongT T = 0) : TabR T := by
  unfold Tb.wrongT at h
  by_cases h0 : T 0 = 0
  · rw [if_neg (by simpa using h0)] at h
    refine ⟨h0, fun k k1 k2 => ?_⟩
    by_cases hf : ∀ k : Fin 17, Tb.fits T (k.val + 1) = true
    · have := hf ⟨k - 1, by omega⟩
      rw [show (⟨k - 1, by omega⟩ : Fin 17).val + 1 = k by simp; omega] at this
      exact of_decide_eq_true this
    · rw [if_neg hf] at h; cases h
  · rw [if_pos h0] at h; cases h
set_option maxHeartbeats 64000000 in
set_option maxRecDepth 100000 in
theorem even_any (B : Nat) (f : Fx) (s1 s2 s3 : Value) (T : Nat → Int) (ws : List Int) (aa : List (List Int)) (gv : Value) (vs : List Int) (bb : List (List Int)) (hv : Value) (w : World) (hB : B ≤ w.heap.size) (h : FxIs w B f s1 s2 s3) (hTI : Tb.I64 T) (hg : GvIs w B ws aa gv) (hh : GvIs w B vs bb hv) (hN : f.sec.length ≤ 1048576) (hT1 : ws.length + sumL aa ≤ 1048576) (hT2 : vs.length + sumL bb ≤ 1048576) :
    Calls Try.prog 5 #[.agg (fxA f s1 s2 s3), .agg (Tb.tabA T), gv, hv] w fun r w' => r = .returned (.bool true) ∧ Below w.heap.size w w' := by
  obtain ⟨p1, n1, c1, hs1, hx1⟩ := id h.code
  obtain ⟨p2, n2, c2, hs2, hx2⟩ := id h.sec
  obtain ⟨p3, n3, c3, hs3, hx3⟩ := id h.arrs
  subst hs1 hs2 hs3
  have HNC : Hid (f.code.length = n1 ∧ n1 ≤ 17592186044416) := ⟨hx1.1, hx1.2.2.1⟩
  have HG0 := keep hg
  have HH0 := keep hh
  obtain ⟨t1, t2, rfl, hi, ha⟩ := hg
  obtain ⟨p4, n4, c4, hs4, hx4⟩ := id hi
  obtain ⟨p5, n5, c5, hs5, hx5⟩ := id ha
  obtain ⟨t3, t4, rfl, hi', ha'⟩ := hh
  obtain ⟨p6, n6, c6, hs6, hx6⟩ := id hi'
  obtain ⟨p7, n7, c7, hs7, hx7⟩ := id ha'
  subst hs4 hs5 hs6 hs7
  obtain ⟨pr, hpr⟩ : ∃ k : Int, f.params = k := ⟨f.params, rfl⟩
  obtain ⟨w1, hw1⟩ : ∃ y, w.alloc (.cells #[.slice p1 n1 c1, .slice p2 n2 c2, .int .i64 pr, .slice p3 n3 c3] 26) = y := ⟨_, rfl⟩
  obtain ⟨w2, hw2⟩ : ∃ y, w1.alloc (.cells (Tb.tabA T) 29) = y := ⟨_, rfl⟩
  obtain ⟨w3, hw3⟩ : ∃ y, w2.alloc (.cells #[.slice p4 n4 c4, .slice p5 n5 c5] 33) = y := ⟨_, rfl⟩
  obtain ⟨w4, hw4⟩ : ∃ y, w3.alloc (.cells #[.slice p6 n6 c6, .slice p7 n7 c7] 33) = y := ⟨_, rfl⟩
  obtain ⟨F, hF⟩ : ∃ y, w.heap.size = y := ⟨_, rfl⟩
  obtain ⟨TB, hTB⟩ : ∃ y, w1.heap.size = y := ⟨_, rfl⟩
  obtain ⟨G, hG⟩ : ∃ y, w2.heap.size = y := ⟨_, rfl⟩
  obtain ⟨Hh, hHh⟩ : ∃ y, w3.heap.size = y := ⟨_, rfl⟩
  have b1 : Below w.heap.size w w1 := by rw [← hw1]; exact (Below.refl _ _).alloc (Nat.le_refl _) _
  have b2 : Below w1.heap.size w1 w2 := by rw [← hw2]; exact (Below.refl _ _).alloc (Nat.le_refl _) _
  have b3 : Below w2.heap.size w2 w3 := by rw [← hw3]; exact (Below.refl _ _).alloc (Nat.le_refl _) _
  have b4 : Below w3.heap.size w3 w4 := by rw [← hw4]; exact (Below.refl _ _).alloc (Nat.le_refl _) _
  have b34 := b3.trans (b4.mono b3.size)
  have b24 := b2.trans (b34.mono b2.size)
  have b14 := b1.trans (b24.mono b1.size)
  have kF1 : Bk w1 F [.slice p1 n1 c1, .slice p2 n2 c2, .int .i64 pr, .slice p3 n3 c3] 26 := by rw [← hw1, ← hF]; exact Bk.new _ _ _
  have kF := kF1.fs (Fs.of_below (l := []) b24) (by simp)
  have kT2 : Tb.Blk w2 TB T := by rw [← hw2, ← hTB]; exact Tb.blk_alloc w1 T
  have kT : Tb.Blk w4 TB T := kT2.below b34 kT2.lt
  have kG3 : Bk w3 G [.slice p4 n4 c4, .slice p5 n5 c5] 33 := by rw [← hw3, ← hG]; exact Bk.new _ _ _
  have kG := kG3.fs (Fs.of_below (l := []) b4) (by simp)
  have kH : Bk w4 Hh [.slice p6 n6 c6, .slice p7 n7 c7] 33 := by rw [← hw4, ← hHh]; exact Bk.new _ _ _
  have HBx : Hid (∀ W, Below w4.heap.size w4 W → Bk W F [.slice p1 n1 c1, .slice p2 n2 c2, .int .i64 pr, .slice p3 n3 c3] 26 ∧ Bk W G [.slice p4 n4 c4, .slice p5 n5 c5] 33 ∧ Bk W Hh [.slice p6 n6 c6, .slice p7 n7 c7] 33) := fun W hW => ⟨kF.fs (Fs.of_below (l := []) hW) (by simp), kG.fs (Fs.of_below (l := []) hW) (by simp), kH.fs (Fs.of_below (l := []) hW) (by simp)⟩
  have HTk : Hid (∀ W, Below w4.heap.size w4 W → Tb.Blk W TB T) := fun W hW => kT.below hW kT.lt
  have HIn : Hid (∀ W, Below w4.heap.size w4 W → B ≤ W.heap.size ∧ FxIs W B f (.slice p1 n1 c1) (.slice p2 n2 c2) (.slice p3 n3 c3) ∧ GvIs W B ws aa (.agg #[.slice p4 n4 c4, .slice p5 n5 c5]) ∧ GvIs W B vs bb (.agg #[.slice p6 n6 c6, .slice p7 n7 c7])) := fun W hW => by
    have hb := b14.trans (hW.mono b14.size)
    exact ⟨Nat.le_trans hB hb.size, h.below (hb.mono hB), HG0.out.below (hb.mono hB), HH0.out.below (hb.mono hB)⟩
  have HBw : Hid (∀ W, Below w4.heap.size w4 W → Below w.heap.size w W) := fun W hW => b14.trans (hW.mono b14.size)
  have HW1 := keep hw1
  have HW2 := keep hw2
  have HW3 := keep hw3
  have HW4 := keep hw4
  have HF := keep hF
  have HTB := keep hTB
  have HG := keep hG
  have HHe := keep hHh
  have HTT := keep (And.intro hT1 hT2)
  have HN := keep hN
  have HPr := keep hpr
  have HTI := keep hTI
  have HAl := keep (fun W => alive_any W)
  unfold fxA
  rw [hpr]
  clear hw1 hw2 hw3 hw4 hF hTB hG hHh b1 b2 b3 b4 b34 b24 b14 kF1 kF kT2 kT kG3 kG kH hi ha hi' ha' hx1 hx2 hx3 hx4 hx5 hx6 hx7 h hB hT1 hT2 hN hpr hTI
  go_enter Try.func5, Try.ntmps5
  go_wp2_with (first | rw [HW1.out] | rw [HW2.out] | rw [HW3.out] | rw [HW4.out] | rw [HF.out] | rw [HTB.out] | rw [HG.out] | rw [HHe.out] | fail)
  refine (HAl.out w4).mono ?_
  rintro r w5 ⟨rfl, hb5⟩
  have HB5 := keep hb5
  obtain ⟨kF, kG, kH⟩ := HBx.out w5 hb5
  have f0 := kF.cell 0 rfl
  have f1 := kF.cell 1 rfl
  have f2 := kF.cell 2 rfl
  have f3 := kF.cell 3 rfl
  obtain ⟨i1, i2, _, _⟩ := HIn.out w5 hb5
  have HCk := keep (rcheck_any B f _ _ _ w5 i1 i2)
  unfold fxA at HCk
  rw [HPr.out] at HCk
  clear hb5 kF kG kH HAl i1 i2
  go_wp2_with fail
  refine HCk.out.mono ?_
  rintro r w6 ⟨rfl, hb6⟩
  have HB6 := keep (HB5.out.trans (hb6.mono HB5.out.size))
  clear hb6 HCk f0 f1 f2 f3 HB5
  by_cases hc : (checkF f).1 = 0
  · have hck := check_zero hc
    have HC0 := keep hck
    rw [hck]
    have HR := keep (right_of (f := f) hc)
    obtain ⟨kF, kG, kH⟩ := HBx.out w6 HB6.out
    have f0 := kF.cell 0 rfl
    have f1 := kF.cell 1 rfl
    have f2 := kF.cell 2 rfl
    have f3 := kF.cell 3 rfl
    have g0 := kG.cell 0 rfl
    have g1 := kG.cell 1 rfl
    have h0 := kH.cell 0 rfl
    have h1 := kH.cell 1 rfl
    obtain ⟨i1, i2, i3, i4⟩ := HIn.out w6 HB6.out
    have HLk := keep (like_any B f _ _ _ ws aa _ vs bb _ w6 i1 i2 i3 i4 HR.out.p0 HR.out.p1 HN.out HTT.out.1 HTT.out.2)
    unfold fxA at HLk
    rw [HPr.out] at HLk
    clear hc hck kF kG kH i1 i2 i3 i4
    go_wp2_with fail
    refine HLk.out.mono ?_
    rintro r w7 ⟨q, rfl, hq, hb7⟩
    have HB7 := keep (HB6.out.trans (hb7.mono HB6.out.size))
    have HQ := keep hq
    clear hb7 HLk hq f0 f1 f2 f3 g0 g1 h0 h1 HB6
    cases q with
    | false =>
      go_wp2
      go_ret
      exact ⟨rfl, HBw.out _ HB7.out⟩
    | true =>
      have HA := keep (HQ.out rfl)
      have HT7 := keep (HTk.out w7 HB7.out)
      obtain ⟨z, hz⟩ : ∃ z, Tb.wrongT T = z := ⟨_, rfl⟩
      have HWr := keep (Rt.wrong_any T HTI.out w7)
      rw [hz] at HWr
      have HZ := keep hz
      clear HQ hz
      go_wp2_with (first | refine Tb.load_want rfl _ rfl TB rfl T HT7.out ?_ | fail)
      refine HWr.out.mono ?_
      rintro r w8 ⟨rfl, hb8⟩
      have HB8 := keep (HB7.out.trans (hb8.mono HB7.out.size))
      clear hb8 HWr HT7 HB7
      by_cases hz0 : z = 0
      · subst hz0
        have HTR := keep (tabR_of HZ.out)
        obtain ⟨kF, kG, kH⟩ := HBx.out w8 HB8.out
        have f0 := kF.cell 0 rfl
        have f1 := kF.cell 1 rfl
        have f2 := kF.cell 2 rfl
        have f3 := kF.cell 3 rfl
        clear kF kG kH
        go_wp2_with fail
        clear f0 f1 f2 f3
        go_loopw [41] (fun i wx => ∃ j : Nat, j ≤ n1 ∧ i = .int .i64 (j : Int) ∧ Below w8.heap.size w8 wx ∧ ∀ k x, k < j → f.code[k]? = some x → shw f T x = false) (fun i _ => n1 - (intOf i).toNat)
        case atStart => exact ⟨0, by omega, rfl, Below.refl _ _, fun k x hk => absurd hk (by omega)⟩
        case round =>
          obtain ⟨j, hjn, rfl, hbx, hsh⟩ := hrel
          have HX := keep (HB8.out.trans (hbx.mono HB8.out.size))
          have HXx := keep hbx
          have HSh := keep hsh
          clear hbx hsh
          by_cases hjl : j < n1
          · have d1 : decide ((j : Int) < (n1 : Int)) = true := decide_eq_true (by omega)
            have hjz : (j : Int) < (n1 : Int) := by omega
            have hj0 : (0 : Int) ≤ (j : Int) := by omega
            have hwr : IntKind.i64.wrap ((j : Int) + 1) = (j : Int) + 1 := by rw [IntKind.wrap_i64]; have := HNC.out; omega
            obtain ⟨i1, i2, _, _⟩ := HIn.out wr HX.out
            obtain ⟨x, hx⟩ : ∃ x, f.code[j]? = some x := ⟨_, List.getElem?_eq_getElem (by rw [HNC.out.1]; exact hjl)⟩
            obtain ⟨y1, y2, y3, y4, y5, y6, y7, y8⟩ := i2.code
            cases y4
            obtain ⟨g, o, rfl, hgB, hix⟩ := y8 j x hx
            have HFine : Hid (Fine f j x) := fine_of (HR.out.each j x hx)
            have HXX := keep hx
            obtain ⟨op, d, a, b, c, imm⟩ := x
            have z0 := hix.c0
            have z1 := hix.c1
            have z2 := hix.c2
            have z3 := hix.c3
            have z4 := hix.c4
            have z5 := hix.c5
            dsimp only at z0 z1 z2 z3 z4 z5
            obtain ⟨w9, hw9⟩ : ∃ y, wr.alloc (.cells #[.int .i64 op, .int .i64 d, .int .i64 a, .int .i64 b, .int .i64 c, .int .i64 imm] 35) = y := ⟨_, rfl⟩
            obtain ⟨X, hX⟩ : ∃ y, wr.heap.size = y := ⟨_, rfl⟩
            have hb9 : Below wr.heap.size wr w9 := by rw [← hw9]; exact (Below.refl _ _).alloc (Nat.le_refl _) _
            have kX : Bk w9 X [.int .i64 op, .int .i64 d, .int .i64 a, .int .i64 b, .int .i64 c, .int .i64 imm] 35 := by rw [← hw9, ← hX]; exact Bk.new _ _ _
            have x0 := kX.cell 0 rfl
            have x1 := kX.cell 1 rfl
            have x2 := kX.cell 2 rfl
            have x3 := kX.cell 3 rfl
            have x4 := kX.cell 4 rfl
            have x5 := kX.cell 5 rfl
            have HB9 := keep (HX.out.trans (hb9.mono HX.out.size))
            have HX9 := keep (HXx.out.trans (hb9.mono HXx.out.size))
            obtain ⟨kF, kG, kH⟩ := HBx.out w9 HB9.out
            have f0 := kF.cell 0 rfl
            have f1 := kF.cell 1 rfl
            have f2 := kF.cell 2 rfl
            have f3 := kF.cell 3 rfl
            have HT9 := keep (HTk.out w9 HB9.out)
            obtain ⟨i1', i2', _, _⟩ := HIn.out w9 HB9.out
            have HSw := keep (shows_any B f _ _ _ T ⟨op, d, a, b, c, imm⟩ j w9 i1' i2' HFine.out HTR.out)
            unfold fxA ixA at HSw
            rw [HPr.out] at HSw
            dsimp only at HSw
            obtain ⟨q, hq⟩ : ∃ q, shw f T ⟨op, d, a, b, c, imm⟩ = q := ⟨_, rfl⟩
            rw [hq] at HSw
            have HQ := keep hq
            have HW9 := keep hw9
            have HXn := keep hX
            clear hix y8 hgB i1 i2 i1' i2' hx kX kF kG kH hw9 hX hb9 hq
            go_wp2_with (first | rw [HW9.out, HXn.out] | refine Tb.load_tab rfl _ rfl TB rfl T HT9.out ?_ | fail)
            refine HSw.out.mono ?_
            rintro r w10 ⟨rfl, hb10⟩
            have HB10 := keep (HB9.out.trans (hb10.mono HB9.out.size))
            have HX10 := keep (HX9.out.trans (hb10.mono HX9.out.size))
            clear hb10 HSw x0 x1 x2 x3 x4 x5 z0 z1 z2 z3 z4 z5 f0 f1 f2 f3
            cases q with
            | true =>
              go_wp2
              go_ret
              exact ⟨rfl, HBw.out _ HB10.out⟩
            | false =>
              go_wp2
              go_roundw
              case rel => exact ⟨j + 1, by omega, by go_num, HX10.out, fun k x hk hx => by
                by_cases ek : k = j
                · subst ek
                  rw [HXX.out] at hx
                  cases hx
                  exact HQ.out
                · exact HSh.out k x (by omega) hx⟩
              case measure => simp [intOf]; omega
          · have hje : j = n1 := by omega
            subst hje
            have dl : decide ((j : Int) < (j : Int)) = false := decide_eq_false (by omega)
            have HAll : Hid (∀ i ∈ f.code, shw f T i = false) := fun i hi => by
              obtain ⟨k, hk⟩ := List.getElem?_of_mem hi
              exact HSh.out k i (by have := (List.getElem?_eq_some_iff.1 hk).1; have := HNC.out.1; omega) hk
            obtain ⟨kF, kG, kH⟩ := HBx.out wr HX.out
            have f0 := kF.cell 0 rfl
            have f1 := kF.cell 1 rfl
            have f2 := kF.cell 2 rfl
            have f3 := kF.cell 3 rfl
            have g0 := kG.cell 0 rfl
            have g1 := kG.cell 1 rfl
            have HT9 := keep (HTk.out wr HX.out)
            obtain ⟨i1, i2, i3, i4⟩ := HIn.out wr HX.out
            have HPm : Hid (f.sec.length ≤ 17592186044416 ∧ f.params ≤ 8796093022208) := ⟨by have := HN.out; omega, by have h1 := HN.out; have h2 := HR.out.p1; omega⟩
            have HRn := keep (run_any B f T _ _ _ ws aa _ wr i1 i2 i3 HC0.out HTR.out.t7 HPm.out.1 HPm.out.2 (shape_zV HR.out.p1 HA.out.s1) HA.out.w1 (by have := HTT.out.1; omega))
            unfold fxA at HRn
            rw [HPr.out] at HRn
            clear kF kG kH i1 i2 i3 i4 hjl hjn HSh
            go_wp2_with (first | refine Tb.load_tab rfl _ rfl TB rfl T HT9.out ?_ | fail)
            refine HRn.out.mono ?_
            rintro r w9 ⟨ls, e, v, sA, hr1, rfl, hlk1, har1, hb9⟩
            obtain ⟨pl, cl, rfl⟩ := lks_slice hlk1
            obtain ⟨pa, na, ca, rfl⟩ := har1.slice
            have HB9 := keep (HX.out.trans (hb9.mono HX.out.size))
            obtain ⟨w10, hw10⟩ : ∃ y, w9.alloc (.cells #[.int .i64 e.word, .bool e.trap, .slice pa na ca] 51) = y := ⟨_, rfl⟩
            obtain ⟨E1, hE1⟩ : ∃ y, w9.heap.size = y := ⟨_, rfl⟩
            have hb10 : Below w9.heap.size w9 w10 := by rw [← hw10]; exact (Below.refl _ _).alloc (Nat.le_refl _) _
            have HB10 := keep (HB9.out.trans (hb10.mono HB9.out.size))
            have HLk1 := keep (hlk1.below hb10)
            have HL1s : Hid (w9.heap.size ≤ w10.heap.size) := hb10.size
            have HRu1 := keep hr1
            have HW10 := keep hw10
            have HE1 := keep hE1
            clear hb9 HRn hr1 hlk1 har1 hw10 hE1 hb10 HT9 f0 f1 f2 f3 g0 g1
            obtain ⟨kF, kG, kH⟩ := HBx.out w10 HB10.out
            have f0 := kF.cell 0 rfl
            have f1 := kF.cell 1 rfl
            have f2 := kF.cell 2 rfl
            have f3 := kF.cell 3 rfl
            have h0 := kH.cell 0 rfl
            have h1 := kH.cell 1 rfl
            have HT10 := keep (HTk.out w10 HB10.out)
            obtain ⟨i1, i2, i3, i4⟩ := HIn.out w10 HB10.out
            have HRn := keep (run_any B f T _ _ _ vs bb _ w10 i1 i2 i4 HC0.out HTR.out.t7 HPm.out.1 HPm.out.2 (shape_zV HR.out.p1 HA.out.s2) HA.out.w2 (by have := HTT.out.2; omega))
            unfold fxA at HRn
            rw [HPr.out] at HRn
            clear kF kG kH i1 i2 i3 i4
            go_wp2_with (first | rw [HW10.out, HE1.out] | refine Tb.load_tab rfl _ rfl TB rfl T HT10.out ?_ | fail)
            refine HRn.out.mono ?_
            rintro r w11 ⟨ls', e', v', sA', hr2, rfl, hlk2, har2, hb11⟩
            obtain ⟨pl', cl', rfl⟩ := lks_slice hlk2
            obtain ⟨pa', na', ca', rfl⟩ := har2.slice
            obtain ⟨_, _, hsame⟩ := both_ways HC0.out HA.out HRu1.out hr2
            have hls := hsame HAll.out
            subst hls
            have HB11 := keep (HB10.out.trans (hb11.mono HB10.out.size))
            obtain ⟨w12, hw12⟩ : ∃ y, w11.alloc (.cells #[.int .i64 e'.word, .bool e'.trap, .slice pa' na' ca'] 51) = y := ⟨_, rfl⟩
            obtain ⟨E2, hE2⟩ : ∃ y, w11.heap.size = y := ⟨_, rfl⟩
            have hb12 : Below w11.heap.size w11 w12 := by rw [← hw12]; exact (Below.refl _ _).alloc (Nat.le_refl _) _
            have HB12 := keep (HB11.out.trans (hb12.mono HB11.out.size))
            have HSl := keep (sameLeaks_any w12.heap.size ls _ _ w12 (Nat.le_refl _) ((HLk1.out.below ((hb11.trans (hb12.mono hb11.size)).mono HL1s.out)).mono (by have h1 := hb11.size; have h2 := hb12.size; have h3 := HL1s.out; omega)) ((hlk2.below hb12).mono hb12.size))
            have HW12 := keep hw12
            have HE2 := keep hE2
            clear HRn hr2 hlk2 har2 hsame hb11 hw12 hE2 hb12 HT10 f0 f1 f2 f3 h0 h1
            go_wp2_with (first | rw [HW12.out, HE2.out] | fail)
            refine HSl.out.mono ?_
            rintro r w13 ⟨rfl, hb13⟩
            have HB13 := keep (HB12.out.trans (hb13.mono HB12.out.size))
            clear hb13 HSl
            go_wp2
            go_ret
            exact ⟨rfl, HBw.out _ HB13.out⟩
      · have hne : (z != 0) = true := by rw [bne_iff_ne]; exact hz0
        clear hz0 HZ
        go_wp2
        go_ret
        exact ⟨rfl, HBw.out _ HB8.out⟩
  · have hne : ((checkF f).1 != 0) = true := by rw [bne_iff_ne]; exact hc
    clear hc
    go_wp2
    go_ret
    exact ⟨rfl, HBw.out _ HB6.out⟩
end Go.Proofs.Ytfbmkcogkiejnaa.Fl
