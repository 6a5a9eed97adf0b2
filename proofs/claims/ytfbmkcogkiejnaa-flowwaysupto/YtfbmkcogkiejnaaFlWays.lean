/- THE SAME WAY: FlowWays, walked. Written by tools/gen_flways.py. -/
import Derived.Test.YtfbmkcogkiejnaaFlAlive
import Derived.Test.YtfbmkcogkiejnaaFrCheck
namespace Go.Proofs.Ytfbmkcogkiejnaa.Fl
set_option linter.unusedVariables false
set_option linter.unusedSimpArgs false
open Go.ChangeShapes Go.WideShapes Go.ChangeAt Go.RowKit Lg Lr

theorem chkL_zero (f : Fx) : ∀ (l : List Ix) (n : Int), (chkL f n l).1 = 0 → chkL f n l = (0, -1)
  | [], n, h => by
    rw [chkL] at h ⊢
    unfold endF at h ⊢
    split at h
    · rfl
    · split at h
      · rename_i q; rw [if_pos q]
      · cases h
  | i :: l, n, h => by
    rw [chkL] at h ⊢
    split at h
    · rename_i q; rw [if_pos q]; exact chkL_zero f l _ h
    · rename_i q; exact absurd h q
theorem check_zero {f : Fx} (h : (checkF f).1 = 0) : checkF f = (0, -1) := by
  unfold checkF at h ⊢
  split at h
  · rename_i q; rw [if_pos q]; exact chkL_zero f _ _ h
  · cases h
theorem parV_len {f : Fx} (hp : f.params ≤ f.sec.length) : (parV f).length = f.params.toNat := by
  unfold parV
  rw [List.length_map, List.length_take]
  omega
theorem shape_zV {f : Fx} {ws : List Int} {aa : List (List Int)} (hp : f.params ≤ f.sec.length) (h : Shape (parV f) f.arrs ws aa) : Shape (List.replicate f.params.toNat zV) f.arrs ws aa := ⟨by rw [h.w, parV_len hp, List.length_replicate], h.a, h.s⟩
theorem first_at {n : Nat} {ws : List Int} {k : Int} (hk : 0 ≤ k) : gI (firstP n ws) k = if k < ws.length then gI ws k else 0 := by
  unfold gI firstP
  rw [List.getD_eq_getElem?_getD, List.getD_eq_getElem?_getD]
  by_cases h : k < ws.length
  · rw [if_pos h, List.getElem?_append_left (by omega)]
  · rw [if_neg h, List.getElem?_append_right (by omega), List.getElem?_replicate]
    split <;> rfl
theorem like_first {f : Fx} {ws vs : List Int} {aa bb : List (List Int)} (hp : f.params ≤ f.sec.length) (h : AlikeR (parV f) f.arrs ws aa vs bb) : Like f (firstP f.sec.length ws) (firstP f.sec.length vs) aa bb := by
  have hl := parV_len hp
  refine ⟨fun k hk h0 h1 => ?_, fun b hb h0 h1 => ?_⟩
  · rw [first_at h0, first_at h0, h.s1.w, h.s2.w]
    split
    · rename_i hlt
      have hx : (parV f)[k.toNat]? = some (pV (gB f.sec k)) := by
        unfold parV gB
        rw [List.getElem?_map, List.getElem?_take_of_lt (by omega), List.getD_eq_getElem?_getD, List.getElem?_eq_getElem (by omega)]; rfl
      have hw : ws[k.toNat]? = some (gI ws k) := by
        unfold gI
        rw [List.getD_eq_getElem?_getD, List.getElem?_eq_getElem (by have := h.s1.w; omega)]; rfl
      have hv : vs[k.toNat]? = some (gI vs k) := by
        unfold gI
        rw [List.getD_eq_getElem?_getD, List.getElem?_eq_getElem (by have := h.s2.w; omega)]; rfl
      exact h.p k.toNat _ _ _ hx hw hv hk
    · rfl
  · obtain ⟨v, hv⟩ : ∃ v, f.arrs[b.toNat]? = some v := ⟨_, List.getElem?_eq_getElem (by omega)⟩
    have hs : v.secret = false := by
      unfold vB at hb
      rw [hv] at hb
      exact hb
    have h2 : aa[b.toNat]? = some (rowA aa b) := by
      unfold rowA
      rw [List.getD_eq_getElem?_getD, List.getElem?_eq_getElem (by have := h.s1.a; omega)]; rfl
    have h3 : bb[b.toNat]? = some (rowA bb b) := by
      unfold rowA
      rw [List.getD_eq_getElem?_getD, List.getElem?_eq_getElem (by have := h.s2.a; omega)]; rfl
    exact h.a b.toNat v _ _ hv h2 h3 hs
theorem ga_of {rs : List Vr} {ps : List Vr} {ws : List Int} {aa : List (List Int)} (h : Shape ps rs ws aa) (hw : AllW ws aa) : GA rs aa := ⟨h.a, fun j row v hj hv => h.s j v row hv hj, hw.2⟩
theorem gp_of {f : Fx} {ws : List Int} {aa : List (List Int)} (hl : ws.length ≤ f.sec.length) (hw : AllW ws aa) : GP f (firstP f.sec.length ws) := ⟨firstP_len hl, fun x hx => by
    unfold firstP at hx
    rcases List.mem_append.1 hx with q | q
    · exact hw.1 x q
    · rw [(List.mem_replicate.1 q).2]; exact isW_zero⟩
/-- Two runs by a table: what holds of them. -/
theorem both_ways {f : Fx} {T : Nat → Int} {ws vs : List Int} {aa bb : List (List Int)} {ls ls' : List Lk} {e e' : En} (hc : checkF f = (0, -1)) (h : AlikeR (parV f) f.arrs ws aa vs bb) (r1 : Runs f.code T 0 (firstP f.sec.length ws) aa ls e) (r2 : Runs f.code T 0 (firstP f.sec.length vs) bb ls' e') : ls.map ao = ls'.map ao ∧ e.trap = e'.trap ∧ ((∀ i ∈ f.code, shw f T i = false) → ls = ls') := by
  have hR := right_of (f := f) (by rw [hc])
  have hl := parV_len hR.p1
  have hp := hR.p1
  exact ways hR r1 (gp_of (by have := h.s1.w; omega) h.w1) (gp_of (by have := h.s2.w; omega) h.w2) (ga_of h.s1 h.w1) (ga_of h.s2 h.w2) (like_first hR.p1 h) r2
theorem map_ao {ls ls' : List Lk} (h : ls.map ao = ls'.map ao) {j : Nat} {l l' : Lk} (h1 : ls[j]? = some l) (h2 : ls'[j]? = some l') : l.at' = l'.at' ∧ l.op = l'.op := by
  have h3 : (ls.map ao)[j]? = some (ao l) := by rw [List.getElem?_map, h1]; rfl
  have h4 : (ls'.map ao)[j]? = some (ao l') := by rw [List.getElem?_map, h2]; rfl
  rw [h, h4] at h3
  have := Option.some.inj h3
  unfold ao at this
  injection this with a b
  exact ⟨a.symm, b.symm⟩
set_option maxHeartbeats 64000000 in
set_option maxRecDepth 100000 in
theorem ways_any (B : Nat) (f : Fx) (s1 s2 s3 : Value) (ws : List Int) (aa : List (List Int)) (gv : Value) (vs : List Int) (bb : List (List Int)) (hv : Value) (w : World) (hB : B ≤ w.heap.size) (h : FxIs w B f s1 s2 s3) (hg : GvIs w B ws aa gv) (hh : GvIs w B vs bb hv) (hN : f.sec.length ≤ 1048576) (hT1 : ws.length + sumL aa ≤ 1048576) (hT2 : vs.length + sumL bb ≤ 1048576) :
    Calls Try.prog 4 #[.agg (fxA f s1 s2 s3), gv, hv] w fun r w' => r = .returned (.bool true) ∧ Below w.heap.size w w' := by
  obtain ⟨p1, n1, c1, hs1, hx1⟩ := id h.code
  obtain ⟨p2, n2, c2, hs2, hx2⟩ := id h.sec
  obtain ⟨p3, n3, c3, hs3, hx3⟩ := id h.arrs
  subst hs1 hs2 hs3
  have HG0 := keep hg
  have HH0 := keep hh
  obtain ⟨t1, t2, rfl, hi, ha⟩ := hg
  obtain ⟨p4, n4, c4, hs4, hx4⟩ := id hi
  obtain ⟨p5, n5, c5, hs5, hx5⟩ := id ha
  obtain ⟨t3, t4, rfl, hi', ha'⟩ := hh
  obtain ⟨p6, n6, c6, hs6, hx6⟩ := id hi'
  obtain ⟨p7, n7, c7, hs7, hx7⟩ := id ha'
  subst hs4 hs5 hs6 hs7
  obtain ⟨pr, hpr⟩ : ∃ k : Int, f.params = k := ⟨f.params, rfl⟩
  obtain ⟨w1, hw1⟩ : ∃ y, w.alloc (.cells #[.slice p1 n1 c1, .slice p2 n2 c2, .int .i64 pr, .slice p3 n3 c3] 26) = y := ⟨_, rfl⟩
  obtain ⟨w2, hw2⟩ : ∃ y, w1.alloc (.cells #[.slice p4 n4 c4, .slice p5 n5 c5] 33) = y := ⟨_, rfl⟩
  obtain ⟨w3, hw3⟩ : ∃ y, w2.alloc (.cells #[.slice p6 n6 c6, .slice p7 n7 c7] 33) = y := ⟨_, rfl⟩
  obtain ⟨F, hF⟩ : ∃ y, w.heap.size = y := ⟨_, rfl⟩
  obtain ⟨G, hG⟩ : ∃ y, w1.heap.size = y := ⟨_, rfl⟩
  obtain ⟨Hh, hHh⟩ : ∃ y, w2.heap.size = y := ⟨_, rfl⟩
  have b1 : Below w.heap.size w w1 := by rw [← hw1]; exact (Below.refl _ _).alloc (Nat.le_refl _) _
  have b2 : Below w1.heap.size w1 w2 := by rw [← hw2]; exact (Below.refl _ _).alloc (Nat.le_refl _) _
  have b3 : Below w2.heap.size w2 w3 := by rw [← hw3]; exact (Below.refl _ _).alloc (Nat.le_refl _) _
  have b23 := b2.trans (b3.mono b2.size)
  have b13 := b1.trans (b23.mono b1.size)
  have kF1 : Bk w1 F [.slice p1 n1 c1, .slice p2 n2 c2, .int .i64 pr, .slice p3 n3 c3] 26 := by rw [← hw1, ← hF]; exact Bk.new _ _ _
  have kF := kF1.fs (Fs.of_below (l := []) b23) (by simp)
  have kG2 : Bk w2 G [.slice p4 n4 c4, .slice p5 n5 c5] 33 := by rw [← hw2, ← hG]; exact Bk.new _ _ _
  have kG := kG2.fs (Fs.of_below (l := []) b3) (by simp)
  have kH : Bk w3 Hh [.slice p6 n6 c6, .slice p7 n7 c7] 33 := by rw [← hw3, ← hHh]; exact Bk.new _ _ _
  have HBx : Hid (∀ W, Below w3.heap.size w3 W → Bk W F [.slice p1 n1 c1, .slice p2 n2 c2, .int .i64 pr, .slice p3 n3 c3] 26 ∧ Bk W G [.slice p4 n4 c4, .slice p5 n5 c5] 33 ∧ Bk W Hh [.slice p6 n6 c6, .slice p7 n7 c7] 33) := fun W hW => ⟨kF.fs (Fs.of_below (l := []) hW) (by simp), kG.fs (Fs.of_below (l := []) hW) (by simp), kH.fs (Fs.of_below (l := []) hW) (by simp)⟩
  have HIn : Hid (∀ W, Below w3.heap.size w3 W → B ≤ W.heap.size ∧ FxIs W B f (.slice p1 n1 c1) (.slice p2 n2 c2) (.slice p3 n3 c3) ∧ GvIs W B ws aa (.agg #[.slice p4 n4 c4, .slice p5 n5 c5]) ∧ GvIs W B vs bb (.agg #[.slice p6 n6 c6, .slice p7 n7 c7])) := fun W hW => by
    have hb := b13.trans (hW.mono b13.size)
    exact ⟨Nat.le_trans hB hb.size, h.below (hb.mono hB), HG0.out.below (hb.mono hB), HH0.out.below (hb.mono hB)⟩
  have HBw : Hid (∀ W, Below w3.heap.size w3 W → Below w.heap.size w W) := fun W hW => b13.trans (hW.mono b13.size)
  have HW1 := keep hw1
  have HW2 := keep hw2
  have HW3 := keep hw3
  have HF := keep hF
  have HG := keep hG
  have HHe := keep hHh
  have HTT := keep (And.intro hT1 hT2)
  have HN := keep hN
  have HPr := keep hpr
  have HAl := keep (fun W => alive_any W)
  unfold fxA
  rw [hpr]
  clear hw1 hw2 hw3 hF hG hHh b1 b2 b3 b23 b13 kF1 kF kG2 kG kH hi ha hi' ha' hx1 hx2 hx3 hx4 hx5 hx6 hx7 h hB hT1 hT2 hN hpr
  go_enter Try.func4, Try.ntmps4
  go_wp2_with (first | rw [HW1.out] | rw [HW2.out] | rw [HW3.out] | rw [HF.out] | rw [HG.out] | rw [HHe.out] | fail)
  refine (HAl.out w3).mono ?_
  rintro r w4 ⟨rfl, hb4⟩
  have HB4 := keep hb4
  obtain ⟨kF, kG, kH⟩ := HBx.out w4 hb4
  have f0 := kF.cell 0 rfl
  have f1 := kF.cell 1 rfl
  have f2 := kF.cell 2 rfl
  have f3 := kF.cell 3 rfl
  obtain ⟨i1, i2, _, _⟩ := HIn.out w4 hb4
  have HCk := keep (rcheck_any B f _ _ _ w4 i1 i2)
  unfold fxA at HCk
  rw [HPr.out] at HCk
  clear hb4 kF kG kH HAl i1 i2
  go_wp2_with fail
  refine HCk.out.mono ?_
  rintro r w5 ⟨rfl, hb5⟩
  have HB5 := keep (HB4.out.trans (hb5.mono HB4.out.size))
  clear hb5 HCk f0 f1 f2 f3 HB4
  by_cases hc : (checkF f).1 = 0
  · have hck := check_zero hc
    have HC0 := keep hck
    rw [hck]
    have HR := keep (right_of (f := f) hc)
    obtain ⟨kF, kG, kH⟩ := HBx.out w5 HB5.out
    have f0 := kF.cell 0 rfl
    have f1 := kF.cell 1 rfl
    have f2 := kF.cell 2 rfl
    have f3 := kF.cell 3 rfl
    have g0 := kG.cell 0 rfl
    have g1 := kG.cell 1 rfl
    have h0 := kH.cell 0 rfl
    have h1 := kH.cell 1 rfl
    obtain ⟨i1, i2, i3, i4⟩ := HIn.out w5 HB5.out
    have HLk := keep (like_any B f _ _ _ ws aa _ vs bb _ w5 i1 i2 i3 i4 HR.out.p0 HR.out.p1 HN.out HTT.out.1 HTT.out.2)
    unfold fxA at HLk
    rw [HPr.out] at HLk
    clear hc hck kF kG kH i1 i2 i3 i4
    go_wp2_with fail
    refine HLk.out.mono ?_
    rintro r w6 ⟨q, rfl, hq, hb6⟩
    have HB6 := keep (HB5.out.trans (hb6.mono HB5.out.size))
    have HQ := keep hq
    clear hb6 HLk hq f0 f1 f2 f3 g0 g1 h0 h1 HB5
    cases q with
    | false =>
      go_wp2
      go_ret
      exact ⟨rfl, HBw.out _ HB6.out⟩
    | true =>
      have HA := keep (HQ.out rfl)
      obtain ⟨kF, kG, kH⟩ := HBx.out w6 HB6.out
      have f0 := kF.cell 0 rfl
      have f1 := kF.cell 1 rfl
      have f2 := kF.cell 2 rfl
      have f3 := kF.cell 3 rfl
      have g0 := kG.cell 0 rfl
      have g1 := kG.cell 1 rfl
      obtain ⟨i1, i2, i3, i4⟩ := HIn.out w6 HB6.out
      have HPm : Hid (f.sec.length ≤ 17592186044416 ∧ f.params ≤ 8796093022208) := ⟨by have := HN.out; omega, by have h1 := HN.out; have h2 := HR.out.p1; omega⟩
      have HRn := keep (run_any B f tZ _ _ _ ws aa _ w6 i1 i2 i3 HC0.out (fun k _ _ => by unfold tZ; omega) HPm.out.1 HPm.out.2 (shape_zV HR.out.p1 HA.out.s1) HA.out.w1 (by have := HTT.out.1; omega))
      unfold fxA at HRn
      rw [HPr.out] at HRn
      clear kF kG kH i1 i2 i3 i4 HQ
      go_wp2_with fail
      refine HRn.out.mono ?_
      rintro r w7 ⟨ls, e, v, sA, hr1, rfl, hlk1, har1, hb7⟩
      obtain ⟨pl, cl, rfl⟩ := lks_slice hlk1
      obtain ⟨pa, na, ca, rfl⟩ := har1.slice
      have HB7 := keep (HB6.out.trans (hb7.mono HB6.out.size))
      obtain ⟨w8, hw8⟩ : ∃ y, w7.alloc (.cells #[.int .i64 e.word, .bool e.trap, .slice pa na ca] 51) = y := ⟨_, rfl⟩
      obtain ⟨E1, hE1⟩ : ∃ y, w7.heap.size = y := ⟨_, rfl⟩
      have hb8 : Below w7.heap.size w7 w8 := by rw [← hw8]; exact (Below.refl _ _).alloc (Nat.le_refl _) _
      have HB8 := keep (HB7.out.trans (hb8.mono HB7.out.size))
      have kE1 : Bk w8 E1 [.int .i64 e.word, .bool e.trap, .slice pa na ca] 51 := by rw [← hw8, ← hE1]; exact Bk.new _ _ _
      have HkE1 := keep kE1
      have HLk1 := keep (hlk1.below hb8)
      have HL1s : Hid (w7.heap.size ≤ w8.heap.size) := hb8.size
      have HRu1 := keep hr1
      have HW8 := keep hw8
      have HE1 := keep hE1
      clear hb7 HRn hr1 hlk1 har1 hw8 hE1 hb8 kE1 f0 f1 f2 f3 g0 g1
      obtain ⟨kF, kG, kH⟩ := HBx.out w8 HB8.out
      have f0 := kF.cell 0 rfl
      have f1 := kF.cell 1 rfl
      have f2 := kF.cell 2 rfl
      have f3 := kF.cell 3 rfl
      have h0 := kH.cell 0 rfl
      have h1 := kH.cell 1 rfl
      obtain ⟨i1, i2, i3, i4⟩ := HIn.out w8 HB8.out
      have HRn := keep (run_any B f tZ _ _ _ vs bb _ w8 i1 i2 i4 HC0.out (fun k _ _ => by unfold tZ; omega) HPm.out.1 HPm.out.2 (shape_zV HR.out.p1 HA.out.s2) HA.out.w2 (by have := HTT.out.2; omega))
      unfold fxA at HRn
      rw [HPr.out] at HRn
      clear kF kG kH i1 i2 i3 i4
      go_wp2_with (first | rw [HW8.out, HE1.out] | fail)
      refine HRn.out.mono ?_
      rintro r w9 ⟨ls', e', v', sA', hr2, rfl, hlk2, har2, hb9⟩
      obtain ⟨pl', cl', rfl⟩ := lks_slice hlk2
      obtain ⟨pa', na', ca', rfl⟩ := har2.slice
      obtain ⟨hao, htr, _⟩ := both_ways HC0.out HA.out HRu1.out hr2
      have hlen : ls.length = ls'.length := by have := congrArg List.length hao; simpa using this
      rw [← htr, ← hlen]
      have HAo := keep hao
      have HLen := keep hlen
      have HB9 := keep (HB8.out.trans (hb9.mono HB8.out.size))
      obtain ⟨w10, hw10⟩ : ∃ y, w9.alloc (.cells #[.int .i64 e'.word, .bool e.trap, .slice pa' na' ca'] 51) = y := ⟨_, rfl⟩
      obtain ⟨E2, hE2⟩ : ∃ y, w9.heap.size = y := ⟨_, rfl⟩
      have hb10 : Below w9.heap.size w9 w10 := by rw [← hw10]; exact (Below.refl _ _).alloc (Nat.le_refl _) _
      have HB10 := keep (HB9.out.trans (hb10.mono HB9.out.size))
      have kE2 : Bk w10 E2 [.int .i64 e'.word, .bool e.trap, .slice pa' na' ca'] 51 := by rw [← hw10, ← hE2]; exact Bk.new _ _ _
      have kE1' := HkE1.out.fs (Fs.of_below (l := []) (hb9.trans (hb10.mono hb9.size))) (by simp)
      have HL1 : Hid (∀ W, Below w10.heap.size w10 W → LksIs W w7.heap.size ls (.slice pl ls.length cl)) := fun W hW => HLk1.out.below ((hb9.trans ((hb10.trans (hW.mono hb10.size)).mono hb9.size)).mono HL1s.out)
      have HL2 : Hid (∀ W, Below w10.heap.size w10 W → LksIs W w9.heap.size ls' (.slice pl' ls.length cl')) := fun W hW => by rw [hlen]; exact hlk2.below (hb10.trans (hW.mono hb10.size))
      have x0 := kE1'.cell 1 rfl
      have x1 := kE2.cell 1 rfl
      have HW10 := keep hw10
      have HE2 := keep hE2
      clear HRn hr2 hlk2 har2 hao htr hlen hb9 hw10 hE2 hb10 kE2 kE1' f0 f1 f2 f3 h0 h1
      generalize e.trap = tr at *
      cases tr
      all_goals
        go_wp2_with (first | rw [HW10.out, HE2.out] | fail)
        clear x0 x1
        go_loopw [58] (fun i wx => ∃ j : Nat, j ≤ ls.length ∧ i = .int .i64 (j : Int) ∧ Below w10.heap.size w10 wx) (fun i _ => ls.length - (intOf i).toNat)
        case atStart => exact ⟨0, by omega, rfl, Below.refl _ _⟩
        case round =>
          obtain ⟨j, hjn, rfl, hbx⟩ := hrel
          have HX := keep hbx
          by_cases hjl : j < ls.length
          · have d1 : decide ((j : Int) < (ls.length : Int)) = true := decide_eq_true (by omega)
            have hjz : (j : Int) < (ls.length : Int) := by omega
            have hj0 : (0 : Int) ≤ (j : Int) := by omega
            obtain ⟨l, hl⟩ : ∃ l, ls[j]? = some l := ⟨_, List.getElem?_eq_getElem hjl⟩
            obtain ⟨l', hl'⟩ : ∃ l', ls'[j]? = some l' := ⟨_, List.getElem?_eq_getElem (by rw [← HLen.out]; exact hjl)⟩
            obtain ⟨m1, m2⟩ := map_ao HAo.out hl hl'
            obtain ⟨q1, q2, q3, q4, q5, q6, q7, q8⟩ := HL1.out wr hbx
            cases q4
            obtain ⟨g, o, s, hp, hgB, c0, c1, c2, _⟩ := q8 j l hl
            obtain ⟨y1, y2, y3, y4, y5, y6, y7, y8⟩ := HL2.out wr hbx
            cases y4
            obtain ⟨g', o', s', hp', hgB', c0', c1', c2', _⟩ := y8 j l' hl'
            subst hp hp'
            rw [← m1] at c0'
            rw [← m2] at c1'
            have hll : ls.length ≤ 281474976710656 := q7
            have hwr : IntKind.i64.wrap ((j : Int) + 1) = (j : Int) + 1 := by rw [IntKind.wrap_i64]; omega
            have HLl := keep hll
            obtain ⟨la, hla⟩ : ∃ y, (l.at' : Int) = y := ⟨_, rfl⟩
            obtain ⟨lo, hlo⟩ : ∃ y, l.op = y := ⟨_, rfl⟩
            rw [hla] at c0 c0'
            rw [hlo] at c1 c1'
            have HSS : Hid (∀ W', Below wr.heap.size wr W' → W'.cell? ⟨g, o + j * 3, none⟩ = some (.int .i64 la) ∧ W'.cell? ⟨g, o + j * 3 + 1, none⟩ = some (.int .i64 lo) ∧ W'.cell? ⟨g', o' + j * 3, none⟩ = some (.int .i64 la) ∧ W'.cell? ⟨g', o' + j * 3 + 1, none⟩ = some (.int .i64 lo)) := fun W' hW => ⟨keep_cell hW c0, keep_cell hW c1, keep_cell hW c0', keep_cell hW c1'⟩
            clear q8 y8 hl hl' hgB hgB' hbx c2 c2' m1 m2 hla hlo
            generalize ls.length = nL at *
            go_wp2_with fail
            refine wp_region_noPanic ?_
            refine Ord.wpM_begin (fun W' : World => W'.cell? ⟨g, o + j * 3, none⟩ = some (.int .i64 la) ∧ W'.cell? ⟨g, o + j * 3 + 1, none⟩ = some (.int .i64 lo) ∧ W'.cell? ⟨g', o' + j * 3, none⟩ = some (.int .i64 la) ∧ W'.cell? ⟨g', o' + j * 3 + 1, none⟩ = some (.int .i64 lo)) [0, 1, 2, 3, 4, 5, 6, 7, 8, 9, 10, 11, 12, 13, 14, 15, 16, 17, 18, 19, 20, 21, 22, 23] (by kernel_rfl) ?_
            have HD : Hid (Below wr.heap.size wr wr.drew) := Below.drew (Below.refl _ _)
            generalize wr.drew = wd at *
            have hS := HSS.out wd HD.out
            refine Ord.wpM_take (i := 0) (v := .slice (some ⟨g, o, none⟩) nL cl) (by simp only [List.getElem?_toArray, List.getElem?_cons_zero, List.getElem?_cons_succ]; rfl) (by kernel_rfl) (by kernel_rfl) (by kernel_rfl) (by kernel_rfl) (fun _ _ _ h => h) (Or.inl ⟨by rfl, by intro W' hW; obtain ⟨q0, q1, q2, q3⟩ := hW; go_simp⟩) hS ?_
            try simp only [Act.put, List.setIfInBounds_toArray, List.set_cons_zero, List.set_cons_succ]
            refine Ord.wpM_take (i := 1) (v := .int .i64 (j : Int)) (by simp only [List.getElem?_toArray, List.getElem?_cons_zero, List.getElem?_cons_succ]; rfl) (by kernel_rfl) (by kernel_rfl) (by kernel_rfl) (by kernel_rfl) (fun _ _ _ h => h) (Or.inl ⟨by rfl, by intro W' hW; obtain ⟨q0, q1, q2, q3⟩ := hW; go_simp⟩) hS ?_
            try simp only [Act.put, List.setIfInBounds_toArray, List.set_cons_zero, List.set_cons_succ]
            refine Ord.wpM_take (i := 2) (v := .pointer (some ⟨g, o + j * 3, none⟩)) (by simp only [List.getElem?_toArray, List.getElem?_cons_zero, List.getElem?_cons_succ]; rfl) (by kernel_rfl) (by kernel_rfl) (by kernel_rfl) (by kernel_rfl) (fun _ _ _ h => h) (Or.inl ⟨by rfl, by intro W' hW; obtain ⟨q0, q1, q2, q3⟩ := hW; go_simp⟩) hS ?_
            try simp only [Act.put, List.setIfInBounds_toArray, List.set_cons_zero, List.set_cons_succ]
            refine Ord.wpM_take (i := 3) (v := .pointer (some ⟨g, o + j * 3, none⟩)) (by simp only [List.getElem?_toArray, List.getElem?_cons_zero, List.getElem?_cons_succ]; rfl) (by kernel_rfl) (by kernel_rfl) (by kernel_rfl) (by kernel_rfl) (fun _ _ _ h => h) (Or.inl ⟨by rfl, by intro W' hW; obtain ⟨q0, q1, q2, q3⟩ := hW; go_simp⟩) hS ?_
            try simp only [Act.put, List.setIfInBounds_toArray, List.set_cons_zero, List.set_cons_succ]
            refine Ord.wpM_take (i := 4) (v := .int .i64 la) (by simp only [List.getElem?_toArray, List.getElem?_cons_zero, List.getElem?_cons_succ]; rfl) (by kernel_rfl) (by kernel_rfl) (by kernel_rfl) (by kernel_rfl) (fun _ _ _ h => h) (Or.inl ⟨by rfl, by intro W' hW; obtain ⟨q0, q1, q2, q3⟩ := hW; go_simp⟩) hS ?_
            try simp only [Act.put, List.setIfInBounds_toArray, List.set_cons_zero, List.set_cons_succ]
            refine Ord.wpM_take (i := 5) (v := .slice (some ⟨g', o', none⟩) nL cl') (by simp only [List.getElem?_toArray, List.getElem?_cons_zero, List.getElem?_cons_succ]; rfl) (by kernel_rfl) (by kernel_rfl) (by kernel_rfl) (by kernel_rfl) (fun _ _ _ h => h) (Or.inl ⟨by rfl, by intro W' hW; obtain ⟨q0, q1, q2, q3⟩ := hW; go_simp⟩) hS ?_
            try simp only [Act.put, List.setIfInBounds_toArray, List.set_cons_zero, List.set_cons_succ]
            refine Ord.wpM_take (i := 6) (v := .int .i64 (j : Int)) (by simp only [List.getElem?_toArray, List.getElem?_cons_zero, List.getElem?_cons_succ]; rfl) (by kernel_rfl) (by kernel_rfl) (by kernel_rfl) (by kernel_rfl) (fun _ _ _ h => h) (Or.inl ⟨by rfl, by intro W' hW; obtain ⟨q0, q1, q2, q3⟩ := hW; go_simp⟩) hS ?_
            try simp only [Act.put, List.setIfInBounds_toArray, List.set_cons_zero, List.set_cons_succ]
            refine Ord.wpM_take (i := 7) (v := .pointer (some ⟨g', o' + j * 3, none⟩)) (by simp only [List.getElem?_toArray, List.getElem?_cons_zero, List.getElem?_cons_succ]; rfl) (by kernel_rfl) (by kernel_rfl) (by kernel_rfl) (by kernel_rfl) (fun _ _ _ h => h) (Or.inl ⟨by rfl, by intro W' hW; obtain ⟨q0, q1, q2, q3⟩ := hW; go_simp⟩) hS ?_
            try simp only [Act.put, List.setIfInBounds_toArray, List.set_cons_zero, List.set_cons_succ]
            refine Ord.wpM_take (i := 8) (v := .pointer (some ⟨g', o' + j * 3, none⟩)) (by simp only [List.getElem?_toArray, List.getElem?_cons_zero, List.getElem?_cons_succ]; rfl) (by kernel_rfl) (by kernel_rfl) (by kernel_rfl) (by kernel_rfl) (fun _ _ _ h => h) (Or.inl ⟨by rfl, by intro W' hW; obtain ⟨q0, q1, q2, q3⟩ := hW; go_simp⟩) hS ?_
            try simp only [Act.put, List.setIfInBounds_toArray, List.set_cons_zero, List.set_cons_succ]
            refine Ord.wpM_take (i := 9) (v := .int .i64 la) (by simp only [List.getElem?_toArray, List.getElem?_cons_zero, List.getElem?_cons_succ]; rfl) (by kernel_rfl) (by kernel_rfl) (by kernel_rfl) (by kernel_rfl) (fun _ _ _ h => h) (Or.inl ⟨by rfl, by intro W' hW; obtain ⟨q0, q1, q2, q3⟩ := hW; go_simp⟩) hS ?_
            try simp only [Act.put, List.setIfInBounds_toArray, List.set_cons_zero, List.set_cons_succ]
            refine Ord.wpM_take (i := 10) (v := .bool false) (by simp only [List.getElem?_toArray, List.getElem?_cons_zero, List.getElem?_cons_succ]; rfl) (by kernel_rfl) (by kernel_rfl) (by kernel_rfl) (by kernel_rfl) (fun _ _ _ h => h) (Or.inl ⟨by rfl, by intro W' hW; obtain ⟨q0, q1, q2, q3⟩ := hW; go_simp⟩) hS ?_
            try simp only [Act.put, List.setIfInBounds_toArray, List.set_cons_zero, List.set_cons_succ]
            refine Ord.wpM_take (i := 11) (v := .bool false) (by simp only [List.getElem?_toArray, List.getElem?_cons_zero, List.getElem?_cons_succ]; rfl) (by kernel_rfl) (by kernel_rfl) (by kernel_rfl) (by kernel_rfl) (fun _ _ _ h => h) (Or.inl ⟨by rfl, by intro W' hW; obtain ⟨q0, q1, q2, q3⟩ := hW; go_simp⟩) hS ?_
            try simp only [Act.put, List.setIfInBounds_toArray, List.set_cons_zero, List.set_cons_succ]
            refine Ord.wpM_take (i := 12) (v := .slice (some ⟨g, o, none⟩) nL cl) (by simp only [List.getElem?_toArray, List.getElem?_cons_zero, List.getElem?_cons_succ]; rfl) (by kernel_rfl) (by kernel_rfl) (by kernel_rfl) (by kernel_rfl) (fun _ _ _ h => h) (Or.inl ⟨by rfl, by intro W' hW; obtain ⟨q0, q1, q2, q3⟩ := hW; go_simp⟩) hS ?_
            try simp only [Act.put, List.setIfInBounds_toArray, List.set_cons_zero, List.set_cons_succ]
            refine Ord.wpM_take (i := 13) (v := .int .i64 (j : Int)) (by simp only [List.getElem?_toArray, List.getElem?_cons_zero, List.getElem?_cons_succ]; rfl) (by kernel_rfl) (by kernel_rfl) (by kernel_rfl) (by kernel_rfl) (fun _ _ _ h => h) (Or.inl ⟨by rfl, by intro W' hW; obtain ⟨q0, q1, q2, q3⟩ := hW; go_simp⟩) hS ?_
            try simp only [Act.put, List.setIfInBounds_toArray, List.set_cons_zero, List.set_cons_succ]
            refine Ord.wpM_take (i := 14) (v := .pointer (some ⟨g, o + j * 3, none⟩)) (by simp only [List.getElem?_toArray, List.getElem?_cons_zero, List.getElem?_cons_succ]; rfl) (by kernel_rfl) (by kernel_rfl) (by kernel_rfl) (by kernel_rfl) (fun _ _ _ h => h) (Or.inl ⟨by rfl, by intro W' hW; obtain ⟨q0, q1, q2, q3⟩ := hW; go_simp⟩) hS ?_
            try simp only [Act.put, List.setIfInBounds_toArray, List.set_cons_zero, List.set_cons_succ]
            refine Ord.wpM_take (i := 15) (v := .pointer (some ⟨g, o + j * 3 + 1, none⟩)) (by simp only [List.getElem?_toArray, List.getElem?_cons_zero, List.getElem?_cons_succ]; rfl) (by kernel_rfl) (by kernel_rfl) (by kernel_rfl) (by kernel_rfl) (fun _ _ _ h => h) (Or.inl ⟨by rfl, by intro W' hW; obtain ⟨q0, q1, q2, q3⟩ := hW; go_simp⟩) hS ?_
            try simp only [Act.put, List.setIfInBounds_toArray, List.set_cons_zero, List.set_cons_succ]
            refine Ord.wpM_take (i := 16) (v := .int .i64 lo) (by simp only [List.getElem?_toArray, List.getElem?_cons_zero, List.getElem?_cons_succ]; rfl) (by kernel_rfl) (by kernel_rfl) (by kernel_rfl) (by kernel_rfl) (fun _ _ _ h => h) (Or.inl ⟨by rfl, by intro W' hW; obtain ⟨q0, q1, q2, q3⟩ := hW; go_simp⟩) hS ?_
            try simp only [Act.put, List.setIfInBounds_toArray, List.set_cons_zero, List.set_cons_succ]
            refine Ord.wpM_take (i := 17) (v := .slice (some ⟨g', o', none⟩) nL cl') (by simp only [List.getElem?_toArray, List.getElem?_cons_zero, List.getElem?_cons_succ]; rfl) (by kernel_rfl) (by kernel_rfl) (by kernel_rfl) (by kernel_rfl) (fun _ _ _ h => h) (Or.inl ⟨by rfl, by intro W' hW; obtain ⟨q0, q1, q2, q3⟩ := hW; go_simp⟩) hS ?_
            try simp only [Act.put, List.setIfInBounds_toArray, List.set_cons_zero, List.set_cons_succ]
            refine Ord.wpM_take (i := 18) (v := .int .i64 (j : Int)) (by simp only [List.getElem?_toArray, List.getElem?_cons_zero, List.getElem?_cons_succ]; rfl) (by kernel_rfl) (by kernel_rfl) (by kernel_rfl) (by kernel_rfl) (fun _ _ _ h => h) (Or.inl ⟨by rfl, by intro W' hW; obtain ⟨q0, q1, q2, q3⟩ := hW; go_simp⟩) hS ?_
            try simp only [Act.put, List.setIfInBounds_toArray, List.set_cons_zero, List.set_cons_succ]
            refine Ord.wpM_take (i := 19) (v := .pointer (some ⟨g', o' + j * 3, none⟩)) (by simp only [List.getElem?_toArray, List.getElem?_cons_zero, List.getElem?_cons_succ]; rfl) (by kernel_rfl) (by kernel_rfl) (by kernel_rfl) (by kernel_rfl) (fun _ _ _ h => h) (Or.inl ⟨by rfl, by intro W' hW; obtain ⟨q0, q1, q2, q3⟩ := hW; go_simp⟩) hS ?_
            try simp only [Act.put, List.setIfInBounds_toArray, List.set_cons_zero, List.set_cons_succ]
            refine Ord.wpM_take (i := 20) (v := .pointer (some ⟨g', o' + j * 3 + 1, none⟩)) (by simp only [List.getElem?_toArray, List.getElem?_cons_zero, List.getElem?_cons_succ]; rfl) (by kernel_rfl) (by kernel_rfl) (by kernel_rfl) (by kernel_rfl) (fun _ _ _ h => h) (Or.inl ⟨by rfl, by intro W' hW; obtain ⟨q0, q1, q2, q3⟩ := hW; go_simp⟩) hS ?_
            try simp only [Act.put, List.setIfInBounds_toArray, List.set_cons_zero, List.set_cons_succ]
            refine Ord.wpM_take (i := 21) (v := .int .i64 lo) (by simp only [List.getElem?_toArray, List.getElem?_cons_zero, List.getElem?_cons_succ]; rfl) (by kernel_rfl) (by kernel_rfl) (by kernel_rfl) (by kernel_rfl) (fun _ _ _ h => h) (Or.inl ⟨by rfl, by intro W' hW; obtain ⟨q0, q1, q2, q3⟩ := hW; go_simp⟩) hS ?_
            try simp only [Act.put, List.setIfInBounds_toArray, List.set_cons_zero, List.set_cons_succ]
            refine Ord.wpM_take (i := 22) (v := .bool false) (by simp only [List.getElem?_toArray, List.getElem?_cons_zero, List.getElem?_cons_succ]; rfl) (by kernel_rfl) (by kernel_rfl) (by kernel_rfl) (by kernel_rfl) (fun _ _ _ h => h) (Or.inl ⟨by rfl, by intro W' hW; obtain ⟨q0, q1, q2, q3⟩ := hW; go_simp⟩) hS ?_
            try simp only [Act.put, List.setIfInBounds_toArray, List.set_cons_zero, List.set_cons_succ]
            refine Ord.wpM_take (i := 23) (v := .bool false) (by simp only [List.getElem?_toArray, List.getElem?_cons_zero, List.getElem?_cons_succ]; rfl) (by kernel_rfl) (by kernel_rfl) (by kernel_rfl) (by kernel_rfl) (fun _ _ _ h => h) (Or.inl ⟨by rfl, by intro W' hW; obtain ⟨q0, q1, q2, q3⟩ := hW; go_simp⟩) hS ?_
            try simp only [Act.put, List.setIfInBounds_toArray, List.set_cons_zero, List.set_cons_succ]
            refine Ord.wpM_done (by kernel_rfl) ?_ _
            refine NoPanic.normal ?_
            clear HSS hS c0 c1 c0' c1'
            go_wp2
            go_roundw
            case rel => exact ⟨j + 1, by omega, by go_num, HX.out.trans (HD.out.mono HX.out.size)⟩
            case measure => simp [intOf]; omega
          · have hje : j = ls.length := by omega
            subst hje
            have dl : decide ((ls.length : Int) < (ls.length : Int)) = false := decide_eq_false (by omega)
            have HE : Hid (Below w.heap.size w wr) := by
              have h1 := HB10.out.trans (HX.out.mono HB10.out.size)
              exact HBw.out _ h1
            clear hjl
            generalize ls.length = nL at *
            go_wp2
            go_ret
            exact ⟨rfl, HE.out⟩
  · have hne : ((checkF f).1 != 0) = true := by rw [bne_iff_ne]; exact hc
    clear hc
    go_wp2
    go_ret
    exact ⟨rfl, HBw.out _ HB5.out⟩
end Go.Proofs.Ytfbmkcogkiejnaa.Fl
