/- Whether what is given is the same, but for what is secret: the document's Alike. Cut by tools/mk_fralike.py. -/
import Derived.Test.YtfbmkcogkiejnaaLfRfit
namespace Go.Proofs.Ytfbmkcogkiejnaa.Lr
set_option linter.unusedVariables false
set_option linter.unusedSimpArgs false
open Go.ChangeShapes Go.WideShapes Go.ChangeAt Go.RowKit Lg

/-- Both fit, and are the same but for what is secret. -/
structure AlikeR (ps rs : List Vr) (ws : List Int) (aa : List (List Int)) (vs : List Int) (bb : List (List Int)) : Prop where
  s1 : Shape ps rs ws aa
  w1 : AllW ws aa
  s2 : Shape ps rs vs bb
  w2 : AllW vs bb
  p : ∀ (i : Nat) (v : Vr) (x y : Int), ps[i]? = some v → ws[i]? = some x → vs[i]? = some y → v.secret = false → x = y
  a : ∀ (i : Nat) (v : Vr) (x y : List Int), rs[i]? = some v → aa[i]? = some x → bb[i]? = some y → v.secret = false → x = y
theorem VrIs.mono {w : World} {B B' : Nat} {l : List Vr} {v : Value} (h : VrIs w B l v) (hB : B ≤ B') : VrIs w B' l v := by
  obtain ⟨p, n, c, h1, h2, h3, h4, h5⟩ := h
  refine ⟨p, n, c, h1, h2, h3, h4, fun j x hj => ?_⟩
  obtain ⟨g, o, k1, k2, k3⟩ := h5 j x hj
  exact ⟨g, o, k1, by omega, k3⟩
theorem ArrsIs.mono {w : World} {B B' : Nat} {l : List (List Int)} {v : Value} (h : ArrsIs w B l v) (hB : B ≤ B') : ArrsIs w B' l v := by
  obtain ⟨p, n, c, h1, h2, h3, h4, h5⟩ := h
  refine ⟨p, n, c, h1, h2, h3, h4, fun j x hj => ?_⟩
  obtain ⟨g, o, s, k1, k2, k3, k4⟩ := h5 j x hj
  exact ⟨g, o, s, k1, by omega, k3, k4.mono hB⟩
def AlP (ps rs : List Vr) (ws : List Int) (aa : List (List Int)) (vs : List Int) (bb : List (List Int)) (w : World) (r : Ending) (w' : World) : Prop := ∃ b : Bool, r = .returned (.bool b) ∧ (b = true → AlikeR ps rs ws aa vs bb) ∧ Below w.heap.size w w'
theorem AlP.no {ps rs : List Vr} {ws : List Int} {aa : List (List Int)} {vs : List Int} {bb : List (List Int)} {w w' : World} (h : Below w.heap.size w w') : AlP ps rs ws aa vs bb w (.returned (.bool false)) w' := ⟨false, rfl, fun e => (by cases e), h⟩
set_option maxHeartbeats 32000000 in
set_option maxRecDepth 100000 in
theorem alike_any (B : Nat) (ps rs : List Vr) (s1 s2 s3 : Value) (ws : List Int) (aa : List (List Int)) (gv : Value) (vs : List Int) (bb : List (List Int)) (hv : Value) (w : World) (hB : B ≤ w.heap.size) (h1 : VrIs w B ps s1) (h2 : VrIs w B rs s2) (h3 : ∃ p n c, s3 = .slice p n c) (hg : GvIs w B ws aa gv) (hh : GvIs w B vs bb hv) (hT1 : ws.length + sumL aa ≤ 1048576) (hT2 : vs.length + sumL bb ≤ 1048576) :
    Calls Try.prog 47 #[.agg #[s1, s2, s3], gv, hv] w fun r w' => AlP ps rs ws aa vs bb w r w' := by
  obtain ⟨p1, n1, c1, hs1, hl1, _, _, hq1⟩ := id h1
  obtain ⟨p2, n2, c2, hs2, hl2, _, _, hq2⟩ := id h2
  obtain ⟨p3, n3, c3, rfl⟩ := h3
  obtain ⟨t1, t2, rfl, hi, ha⟩ := hg
  obtain ⟨p4, n4, c4, hs4, hl4, _, _, hq4⟩ := id hi
  obtain ⟨p5, n5, c5, hs5, hl5, _, _, hq5⟩ := id ha
  obtain ⟨t3, t4, rfl, hi', ha'⟩ := hh
  obtain ⟨p6, n6, c6, hs6, hl6, _, _, hq6⟩ := id hi'
  obtain ⟨p7, n7, c7, hs7, hl7, _, _, hq7⟩ := id ha'
  subst hs1 hs2 hs4 hs5 hs6 hs7
  obtain ⟨w0, hw0⟩ : ∃ y, w.alloc (.cells #[.slice p1 n1 c1, .slice p2 n2 c2, .slice p3 n3 c3] 49) = y := ⟨_, rfl⟩
  obtain ⟨w1, hw1⟩ : ∃ y, w0.alloc (.cells #[.slice p4 n4 c4, .slice p5 n5 c5] 33) = y := ⟨_, rfl⟩
  obtain ⟨w2, hw2⟩ : ∃ y, w1.alloc (.cells #[.slice p6 n6 c6, .slice p7 n7 c7] 33) = y := ⟨_, rfl⟩
  obtain ⟨bF, hbF⟩ : ∃ y, w.heap.size = y := ⟨_, rfl⟩
  obtain ⟨bG, hbG⟩ : ∃ y, w0.heap.size = y := ⟨_, rfl⟩
  obtain ⟨bH, hbH⟩ : ∃ y, w1.heap.size = y := ⟨_, rfl⟩
  have b0 : Below w.heap.size w w0 := by rw [← hw0]; exact (Below.refl _ _).alloc (Nat.le_refl _) _
  have b1 : Below w0.heap.size w0 w1 := by rw [← hw1]; exact (Below.refl _ _).alloc (Nat.le_refl _) _
  have b2 : Below w1.heap.size w1 w2 := by rw [← hw2]; exact (Below.refl _ _).alloc (Nat.le_refl _) _
  have b12 := b1.trans (b2.mono b1.size)
  have b02 := b0.trans (b12.mono b0.size)
  have kF0 : Bk w0 bF [.slice p1 n1 c1, .slice p2 n2 c2, .slice p3 n3 c3] 49 := by rw [← hw0, ← hbF]; exact Bk.new _ _ _
  have kF := kF0.fs (Fs.of_below (l := []) b12) (by simp)
  have kG0 : Bk w1 bG [.slice p4 n4 c4, .slice p5 n5 c5] 33 := by rw [← hw1, ← hbG]; exact Bk.new _ _ _
  have kG := kG0.fs (Fs.of_below (l := []) b2) (by simp)
  have kH : Bk w2 bH [.slice p6 n6 c6, .slice p7 n7 c7] 33 := by rw [← hw2, ← hbH]; exact Bk.new _ _ _
  have HB2 := keep b02
  have HkF := keep kF
  have HkG := keep kG
  have HkH := keep kH
  have HIn : Hid (∀ W, Below w2.heap.size w2 W → VrIs W W.heap.size ps (.slice p1 n1 c1) ∧ VrIs W W.heap.size rs (.slice p2 n2 c2) ∧ GvIs W W.heap.size ws aa (.agg #[.slice p4 n4 c4, .slice p5 n5 c5]) ∧ GvIs W W.heap.size vs bb (.agg #[.slice p6 n6 c6, .slice p7 n7 c7])) := fun W hW => by
    have hb := b02.trans (hW.mono b02.size)
    have hz : B ≤ W.heap.size := Nat.le_trans hB hb.size
    exact ⟨(h1.below (hb.mono hB)).mono hz, (h2.below (hb.mono hB)).mono hz, ⟨_, _, rfl, (hi.below (hb.mono hB)).mono hz, (ha.below (hb.mono hB)).mono hz⟩, ⟨_, _, rfl, (hi'.below (hb.mono hB)).mono hz, (ha'.below (hb.mono hB)).mono hz⟩⟩
  have HRm : Hid (ws.length + sumL aa ≤ 1048576 ∧ vs.length + sumL bb ≤ 1048576) := ⟨hT1, hT2⟩
  have HQ1 := keep hq1
  have HQ2 := keep hq2
  have HQ4 := keep hq4
  have HQ5 := keep hq5
  have HQ6 := keep hq6
  have HQ7 := keep hq7
  have HL1 := keep hl1
  have HL2 := keep hl2
  have HL4 := keep hl4
  have HL5 := keep hl5
  have HL6 := keep hl6
  have HL7 := keep hl7
  have HB0 := keep hB
  have f0 := kF.cell 0 rfl
  have f1 := kF.cell 1 rfl
  have f2 := kF.cell 2 rfl
  have g0 := kG.cell 0 rfl
  have g1 := kG.cell 1 rfl
  have HW0 := keep hw0
  have HW1 := keep hw1
  have HW2 := keep hw2
  have HbF := keep hbF
  have HbG := keep hbG
  have HbH := keep hbH
  have HF1 := keep (rfits_any w2.heap.size ps rs (.slice p1 n1 c1) (.slice p2 n2 c2) (.slice p3 n3 c3) ws aa _ w2 (Nat.le_refl _) (HIn.out w2 (Below.refl _ _)).1 (HIn.out w2 (Below.refl _ _)).2.1 ⟨_, _, _, rfl⟩ (HIn.out w2 (Below.refl _ _)).2.2.1 (fun h1 h2 j hj => Nat.le_trans (Nat.add_le_add_left (sumL_le aa j) _) HRm.out.1))
  clear hw0 hw1 hw2 b0 b1 b2 b12 b02 kF0 kF kG0 kG kH hi ha hi' ha' hq1 hq2 hq4 hq5 hq6 hq7 hl1 hl2 hl4 hl5 hl6 hl7 hB h1 h2 hT1 hT2 hbF hbG hbH
  go_enter Try.func47, Try.ntmps47
  go_wp2_with (first | rw [HW0.out] | rw [HW1.out] | rw [HW2.out] | rw [HbF.out] | rw [HbG.out] | rw [HbH.out])
  refine HF1.out.mono ?_
  rintro r w3 ⟨c, rfl, hc, hb3⟩
  have HB3 := keep hb3
  clear hb3 HF1 f0 f1 f2 g0 g1
  cases hc with
  | many hS =>
    clear hS
    go_wp2
    go_ret
    exact .no (HB2.out.trans (HB3.out.mono HB2.out.size))
  | range hS hA =>
    clear hS hA
    go_wp2
    go_ret
    exact .no (HB2.out.trans (HB3.out.mono HB2.out.size))
  | ok hS1 hA1 =>
    have HS1 := keep hS1
    have HA1 := keep hA1
    have kF3 := HkF.out.fs (Fs.of_below (l := []) HB3.out) (by simp)
    have kH3 := HkH.out.fs (Fs.of_below (l := []) HB3.out) (by simp)
    have f0 := kF3.cell 0 rfl
    have f1 := kF3.cell 1 rfl
    have f2 := kF3.cell 2 rfl
    have g0 := kH3.cell 0 rfl
    have g1 := kH3.cell 1 rfl
    have HF2 := keep (rfits_any w3.heap.size ps rs (.slice p1 n1 c1) (.slice p2 n2 c2) (.slice p3 n3 c3) vs bb _ w3 (Nat.le_refl _) (HIn.out w3 HB3.out).1 (HIn.out w3 HB3.out).2.1 ⟨_, _, _, rfl⟩ (HIn.out w3 HB3.out).2.2.2 (fun h1 h2 j hj => Nat.le_trans (Nat.add_le_add_left (sumL_le bb j) _) HRm.out.2))
    clear hS1 hA1 kF3 kH3
    go_wp2_with fail
    refine HF2.out.mono ?_
    rintro r w4 ⟨c, rfl, hc, hb4⟩
    have HB4 := keep (HB3.out.trans (hb4.mono HB3.out.size))
    clear hb4 HF2 f0 f1 f2 g0 g1
    cases hc with
    | many hS =>
      clear hS
      go_wp2
      go_ret
      exact .no (HB2.out.trans (HB4.out.mono HB2.out.size))
    | range hS hA =>
      clear hS hA
      go_wp2
      go_ret
      exact .no (HB2.out.trans (HB4.out.mono HB2.out.size))
    | ok hS2 hA2 =>
      have HS2 := keep hS2
      have HA2 := keep hA2
      have f0 := (HkF.out.fs (Fs.of_below (l := []) HB4.out) (by simp)).cell 0 rfl
      have e4 : n4 = n1 := by rw [← HL4.out, ← HL1.out]; exact HS1.out.w
      have e5 : n5 = n2 := by rw [← HL5.out, ← HL2.out]; exact HS1.out.a
      have e6 : n6 = n1 := by rw [← HL6.out, ← HL1.out]; exact HS2.out.w
      have e7 : n7 = n2 := by rw [← HL7.out, ← HL2.out]; exact HS2.out.a
      subst e4 e5 e6 e7
      clear hS2 hA2
      go_wp2
      go_loopw [24] (fun i wx => ∃ j : Nat, j ≤ n6 ∧ i = .int .i64 (j : Int) ∧ (∀ (i : Nat) (v : Vr) (x y : Int), i < j → ps[i]? = some v → ws[i]? = some x → vs[i]? = some y → v.secret = false → x = y) ∧ Below w2.heap.size w2 wx) (fun i _ => n6 - (intOf i).toNat)
      case atStart => exact ⟨0, by omega, rfl, fun i v x y hi => by omega, HB4.out⟩
      case round =>
        clear HB3 HB4 f0
        obtain ⟨j, hjn, rfl, hsm, hbx⟩ := hrel
        have HSm := keep hsm
        have HX := keep hbx
        clear hsm hbx
        by_cases hjl : j < n6
        · have d1 : decide ((j : Int) < (n6 : Int)) = true := decide_eq_true (by omega)
          have hjz : (j : Int) < (n6 : Int) := by omega
          have hj0 : (0 : Int) ≤ (j : Int) := by omega
          have hwr : IntKind.i64.wrap ((j : Int) + 1) = (j : Int) + 1 := by rw [IntKind.wrap_i64]; omega
          obtain ⟨v, hv⟩ : ∃ v, ps[j]? = some v := ⟨_, List.getElem?_eq_getElem (by rw [HL1.out]; exact hjl)⟩
          obtain ⟨x, hx⟩ : ∃ x, ws[j]? = some x := ⟨_, List.getElem?_eq_getElem (by rw [HL4.out]; exact hjl)⟩
          obtain ⟨y, hy⟩ : ∃ y, vs[j]? = some y := ⟨_, List.getElem?_eq_getElem (by rw [HL6.out]; exact hjl)⟩
          obtain ⟨g, o, rfl, hgB, hat⟩ := HQ1.out j v hv
          obtain ⟨gx, ox, rfl, hgx, hcx⟩ := HQ4.out j x hx
          obtain ⟨gy, oy, rfl, hgy, hcy⟩ := HQ6.out j y hy
          have hBw := HB0.out
          have HBx : Hid (Below w.heap.size w wr) := HB2.out.trans (HX.out.mono HB2.out.size)
          have hat := hat.below (HBx.out.mono HB0.out) hgB
          have a0 := hat.c0
          have a1 := hat.c1
          have a2 := hat.c2
          have HV := keep hv
          have HXX := keep hx
          have HYY := keep hy
          obtain ⟨xn, xs, xz⟩ := v
          dsimp only at a0 a1 a2
          obtain ⟨w5, hw5⟩ : ∃ w5, wr.alloc (.cells #[.string ⟨xn.toArray⟩, .bool xs, .int .i64 xz] 75) = w5 := ⟨_, rfl⟩
          have hb5 : Below wr.heap.size wr w5 := by rw [← hw5]; exact (Below.refl _ _).alloc (Nat.le_refl _) _
          have hz5 : Bk w5 wr.heap.size [.string ⟨xn.toArray⟩, .bool xs, .int .i64 xz] 75 := by rw [← hw5]; exact Bk.new _ _ _
          have b5w : Below w.heap.size w w5 := HBx.out.trans (hb5.mono HBx.out.size)
          have b52 : Below w2.heap.size w2 w5 := HX.out.trans (hb5.mono HX.out.size)
          have HS5 : Hid (∀ W, Below w5.heap.size w5 W → W.cell? ⟨wr.heap.size, 1, none⟩ = some (.bool xs) ∧ W.cell? ⟨bG, 0, none⟩ = some (.slice (some ⟨gx, ox, none⟩) n6 c4) ∧ W.cell? ⟨bH, 0, none⟩ = some (.slice (some ⟨gy, oy, none⟩) n6 c6) ∧ W.cell? ⟨gx, ox + j, none⟩ = some (.int .i64 x) ∧ W.cell? ⟨gy, oy + j, none⟩ = some (.int .i64 y)) := fun W hW => by
            have c1 := b52.trans (hW.mono b52.size)
            have c2 := b5w.trans (hW.mono b5w.size)
            exact ⟨(hz5.fs (Fs.of_below (l := []) hW) (by simp)).cell 1 rfl, (HkG.out.fs (Fs.of_below (l := []) c1) (by simp)).cell 0 rfl, (HkH.out.fs (Fs.of_below (l := []) c1) (by simp)).cell 0 rfl, by rw [cell_below c2 (by omega)]; exact hcx, by rw [cell_below c2 (by omega)]; exact hcy⟩
          have HB5 := keep b52
          have HW5 := keep hw5
          clear hv hx hy hat hcx hcy hBw hw5 hb5 hz5 b5w b52 hgB hgx hgy
          cases xs with
          | true =>
            go_wp2_with (first | rw [HW5.out])
            refine wp_region_noPanic ?_
            refine Ord.wpM_begin (fun W' : World => W'.cell? ⟨wr.heap.size, 1, none⟩ = some (.bool true) ∧ W'.cell? ⟨bG, 0, none⟩ = some (.slice (some ⟨gx, ox, none⟩) n6 c4) ∧ W'.cell? ⟨bH, 0, none⟩ = some (.slice (some ⟨gy, oy, none⟩) n6 c6) ∧ W'.cell? ⟨gx, ox + j, none⟩ = some (.int .i64 x) ∧ W'.cell? ⟨gy, oy + j, none⟩ = some (.int .i64 y)) [0, 1, 2, 3, 4, 5, 6, 7, 8, 9, 10, 11, 12, 13, 14, 15] (by kernel_rfl) ?_
            have HD : Hid (Below w5.heap.size w5 w5.drew) := Below.drew (Below.refl _ _)
            have HB6 := keep (HB5.out.trans (HD.out.mono HB5.out.size))
            generalize w5.drew = wd at *
            have hS : wd.cell? ⟨wr.heap.size, 1, none⟩ = some (.bool true) ∧ wd.cell? ⟨bG, 0, none⟩ = some (.slice (some ⟨gx, ox, none⟩) n6 c4) ∧ wd.cell? ⟨bH, 0, none⟩ = some (.slice (some ⟨gy, oy, none⟩) n6 c6) ∧ wd.cell? ⟨gx, ox + j, none⟩ = some (.int .i64 x) ∧ wd.cell? ⟨gy, oy + j, none⟩ = some (.int .i64 y) := HS5.out wd HD.out
            refine Ord.wpM_take (i := 0) (v := .pointer (some ⟨wr.heap.size, 1, none⟩)) (by simp only [List.getElem?_toArray, List.getElem?_cons_zero, List.getElem?_cons_succ]; rfl) (by kernel_rfl) (by kernel_rfl) (by kernel_rfl) (by kernel_rfl) (fun _ _ _ h => h) (Or.inl ⟨by rfl, by intro W' hW; obtain ⟨q0, q1, q2, q3, q4⟩ := hW; go_simp⟩) hS ?_
            try simp only [Act.put, List.setIfInBounds_toArray, List.set_cons_zero, List.set_cons_succ]
            refine Ord.wpM_take (i := 1) (v := .bool true) (by simp only [List.getElem?_toArray, List.getElem?_cons_zero, List.getElem?_cons_succ]; rfl) (by kernel_rfl) (by kernel_rfl) (by kernel_rfl) (by kernel_rfl) (fun _ _ _ h => h) (Or.inl ⟨by rfl, by intro W' hW; obtain ⟨q0, q1, q2, q3, q4⟩ := hW; go_simp⟩) hS ?_
            try simp only [Act.put, List.setIfInBounds_toArray, List.set_cons_zero, List.set_cons_succ]
            refine Ord.wpM_take (i := 2) (v := .bool false) (by simp only [List.getElem?_toArray, List.getElem?_cons_zero, List.getElem?_cons_succ]; rfl) (by kernel_rfl) (by kernel_rfl) (by kernel_rfl) (by kernel_rfl) (fun _ _ _ h => h) (Or.inl ⟨by rfl, by intro W' hW; obtain ⟨q0, q1, q2, q3, q4⟩ := hW; go_simp⟩) hS ?_
            try simp only [Act.put, List.setIfInBounds_toArray, List.set_cons_zero, List.set_cons_succ]
            refine Ord.wpM_take (i := 3) (v := .bool false) (by simp only [List.getElem?_toArray, List.getElem?_cons_zero, List.getElem?_cons_succ]; rfl) (by kernel_rfl) (by kernel_rfl) (by kernel_rfl) (by kernel_rfl) (fun _ _ _ h => h) (Or.inl ⟨by rfl, by intro W' hW; obtain ⟨q0, q1, q2, q3, q4⟩ := hW; go_simp⟩) hS ?_
            try simp only [Act.put, List.setIfInBounds_toArray, List.set_cons_zero, List.set_cons_succ]
            refine Ord.wpM_take (i := 4) (v := undef) (by simp only [List.getElem?_toArray, List.getElem?_cons_zero, List.getElem?_cons_succ]; rfl) (by kernel_rfl) (by kernel_rfl) (by kernel_rfl) (by kernel_rfl) (fun _ _ _ h => h) (Or.inr ⟨by rfl, rfl⟩) hS ?_
            try simp only [Act.put, List.setIfInBounds_toArray, List.set_cons_zero, List.set_cons_succ]
            refine Ord.wpM_take (i := 5) (v := undef) (by simp only [List.getElem?_toArray, List.getElem?_cons_zero, List.getElem?_cons_succ]; rfl) (by kernel_rfl) (by kernel_rfl) (by kernel_rfl) (by kernel_rfl) (fun _ _ _ h => h) (Or.inr ⟨by rfl, rfl⟩) hS ?_
            try simp only [Act.put, List.setIfInBounds_toArray, List.set_cons_zero, List.set_cons_succ]
            refine Ord.wpM_take (i := 6) (v := undef) (by simp only [List.getElem?_toArray, List.getElem?_cons_zero, List.getElem?_cons_succ]; rfl) (by kernel_rfl) (by kernel_rfl) (by kernel_rfl) (by kernel_rfl) (fun _ _ _ h => h) (Or.inr ⟨by rfl, rfl⟩) hS ?_
            try simp only [Act.put, List.setIfInBounds_toArray, List.set_cons_zero, List.set_cons_succ]
            refine Ord.wpM_take (i := 7) (v := undef) (by simp only [List.getElem?_toArray, List.getElem?_cons_zero, List.getElem?_cons_succ]; rfl) (by kernel_rfl) (by kernel_rfl) (by kernel_rfl) (by kernel_rfl) (fun _ _ _ h => h) (Or.inr ⟨by rfl, rfl⟩) hS ?_
            try simp only [Act.put, List.setIfInBounds_toArray, List.set_cons_zero, List.set_cons_succ]
            refine Ord.wpM_take (i := 8) (v := undef) (by simp only [List.getElem?_toArray, List.getElem?_cons_zero, List.getElem?_cons_succ]; rfl) (by kernel_rfl) (by kernel_rfl) (by kernel_rfl) (by kernel_rfl) (fun _ _ _ h => h) (Or.inr ⟨by rfl, rfl⟩) hS ?_
            try simp only [Act.put, List.setIfInBounds_toArray, List.set_cons_zero, List.set_cons_succ]
            refine Ord.wpM_take (i := 9) (v := undef) (by simp only [List.getElem?_toArray, List.getElem?_cons_zero, List.getElem?_cons_succ]; rfl) (by kernel_rfl) (by kernel_rfl) (by kernel_rfl) (by kernel_rfl) (fun _ _ _ h => h) (Or.inr ⟨by rfl, rfl⟩) hS ?_
            try simp only [Act.put, List.setIfInBounds_toArray, List.set_cons_zero, List.set_cons_succ]
            refine Ord.wpM_take (i := 10) (v := undef) (by simp only [List.getElem?_toArray, List.getElem?_cons_zero, List.getElem?_cons_succ]; rfl) (by kernel_rfl) (by kernel_rfl) (by kernel_rfl) (by kernel_rfl) (fun _ _ _ h => h) (Or.inr ⟨by rfl, rfl⟩) hS ?_
            try simp only [Act.put, List.setIfInBounds_toArray, List.set_cons_zero, List.set_cons_succ]
            refine Ord.wpM_take (i := 11) (v := undef) (by simp only [List.getElem?_toArray, List.getElem?_cons_zero, List.getElem?_cons_succ]; rfl) (by kernel_rfl) (by kernel_rfl) (by kernel_rfl) (by kernel_rfl) (fun _ _ _ h => h) (Or.inr ⟨by rfl, rfl⟩) hS ?_
            try simp only [Act.put, List.setIfInBounds_toArray, List.set_cons_zero, List.set_cons_succ]
            refine Ord.wpM_take (i := 12) (v := undef) (by simp only [List.getElem?_toArray, List.getElem?_cons_zero, List.getElem?_cons_succ]; rfl) (by kernel_rfl) (by kernel_rfl) (by kernel_rfl) (by kernel_rfl) (fun _ _ _ h => h) (Or.inr ⟨by rfl, rfl⟩) hS ?_
            try simp only [Act.put, List.setIfInBounds_toArray, List.set_cons_zero, List.set_cons_succ]
            refine Ord.wpM_take (i := 13) (v := undef) (by simp only [List.getElem?_toArray, List.getElem?_cons_zero, List.getElem?_cons_succ]; rfl) (by kernel_rfl) (by kernel_rfl) (by kernel_rfl) (by kernel_rfl) (fun _ _ _ h => h) (Or.inr ⟨by rfl, rfl⟩) hS ?_
            try simp only [Act.put, List.setIfInBounds_toArray, List.set_cons_zero, List.set_cons_succ]
            refine Ord.wpM_take (i := 14) (v := undef) (by simp only [List.getElem?_toArray, List.getElem?_cons_zero, List.getElem?_cons_succ]; rfl) (by kernel_rfl) (by kernel_rfl) (by kernel_rfl) (by kernel_rfl) (fun _ _ _ h => h) (Or.inr ⟨by rfl, rfl⟩) hS ?_
            try simp only [Act.put, List.setIfInBounds_toArray, List.set_cons_zero, List.set_cons_succ]
            refine Ord.wpM_take (i := 15) (v := .bool false) (by simp only [List.getElem?_toArray, List.getElem?_cons_zero, List.getElem?_cons_succ]; rfl) (by kernel_rfl) (by kernel_rfl) (by kernel_rfl) (by kernel_rfl) (fun _ _ _ h => h) (Or.inl ⟨by rfl, by intro W' hW; obtain ⟨q0, q1, q2, q3, q4⟩ := hW; go_simp⟩) hS ?_
            try simp only [Act.put, List.setIfInBounds_toArray, List.set_cons_zero, List.set_cons_succ]
            refine Ord.wpM_done (by kernel_rfl) ?_ _
            refine NoPanic.normal ?_
            clear hS
            go_wp2
            go_roundw
            case rel => exact ⟨j + 1, by omega, by go_num, fun i v x y hi hv hx hy hs => by
              by_cases ei : i = j
              · subst ei
                rw [HV.out] at hv
                cases hv
                cases hs
              · exact HSm.out i v x y (by omega) hv hx hy hs, HB6.out⟩
            case measure => simp [intOf]; omega
          | false =>
            by_cases hxy : x = y
            · subst hxy
              go_wp2_with (first | rw [HW5.out])
              refine wp_region_noPanic ?_
              refine Ord.wpM_begin (fun W' : World => W'.cell? ⟨wr.heap.size, 1, none⟩ = some (.bool false) ∧ W'.cell? ⟨bG, 0, none⟩ = some (.slice (some ⟨gx, ox, none⟩) n6 c4) ∧ W'.cell? ⟨bH, 0, none⟩ = some (.slice (some ⟨gy, oy, none⟩) n6 c6) ∧ W'.cell? ⟨gx, ox + j, none⟩ = some (.int .i64 x) ∧ W'.cell? ⟨gy, oy + j, none⟩ = some (.int .i64 x)) [0, 1, 2, 3, 4, 5, 6, 7, 8, 9, 10, 11, 12, 13, 14, 15] (by kernel_rfl) ?_
              have HD : Hid (Below w5.heap.size w5 w5.drew) := Below.drew (Below.refl _ _)
              have HB6 := keep (HB5.out.trans (HD.out.mono HB5.out.size))
              generalize w5.drew = wd at *
              have hS : wd.cell? ⟨wr.heap.size, 1, none⟩ = some (.bool false) ∧ wd.cell? ⟨bG, 0, none⟩ = some (.slice (some ⟨gx, ox, none⟩) n6 c4) ∧ wd.cell? ⟨bH, 0, none⟩ = some (.slice (some ⟨gy, oy, none⟩) n6 c6) ∧ wd.cell? ⟨gx, ox + j, none⟩ = some (.int .i64 x) ∧ wd.cell? ⟨gy, oy + j, none⟩ = some (.int .i64 x) := HS5.out wd HD.out
              refine Ord.wpM_take (i := 0) (v := .pointer (some ⟨wr.heap.size, 1, none⟩)) (by simp only [List.getElem?_toArray, List.getElem?_cons_zero, List.getElem?_cons_succ]; rfl) (by kernel_rfl) (by kernel_rfl) (by kernel_rfl) (by kernel_rfl) (fun _ _ _ h => h) (Or.inl ⟨by rfl, by intro W' hW; obtain ⟨q0, q1, q2, q3, q4⟩ := hW; go_simp⟩) hS ?_
              try simp only [Act.put, List.setIfInBounds_toArray, List.set_cons_zero, List.set_cons_succ]
              refine Ord.wpM_take (i := 1) (v := .bool false) (by simp only [List.getElem?_toArray, List.getElem?_cons_zero, List.getElem?_cons_succ]; rfl) (by kernel_rfl) (by kernel_rfl) (by kernel_rfl) (by kernel_rfl) (fun _ _ _ h => h) (Or.inl ⟨by rfl, by intro W' hW; obtain ⟨q0, q1, q2, q3, q4⟩ := hW; go_simp⟩) hS ?_
              try simp only [Act.put, List.setIfInBounds_toArray, List.set_cons_zero, List.set_cons_succ]
              refine Ord.wpM_take (i := 2) (v := .bool true) (by simp only [List.getElem?_toArray, List.getElem?_cons_zero, List.getElem?_cons_succ]; rfl) (by kernel_rfl) (by kernel_rfl) (by kernel_rfl) (by kernel_rfl) (fun _ _ _ h => h) (Or.inl ⟨by rfl, by intro W' hW; obtain ⟨q0, q1, q2, q3, q4⟩ := hW; go_simp⟩) hS ?_
              try simp only [Act.put, List.setIfInBounds_toArray, List.set_cons_zero, List.set_cons_succ]
              refine Ord.wpM_take (i := 3) (v := .bool true) (by simp only [List.getElem?_toArray, List.getElem?_cons_zero, List.getElem?_cons_succ]; rfl) (by kernel_rfl) (by kernel_rfl) (by kernel_rfl) (by kernel_rfl) (fun _ _ _ h => h) (Or.inl ⟨by rfl, by intro W' hW; obtain ⟨q0, q1, q2, q3, q4⟩ := hW; go_simp⟩) hS ?_
              try simp only [Act.put, List.setIfInBounds_toArray, List.set_cons_zero, List.set_cons_succ]
              refine Ord.wpM_take (i := 4) (v := .pointer (some ⟨bG, 0, none⟩)) (by simp only [List.getElem?_toArray, List.getElem?_cons_zero, List.getElem?_cons_succ]; rfl) (by kernel_rfl) (by kernel_rfl) (by kernel_rfl) (by kernel_rfl) (fun _ _ _ h => h) (Or.inl ⟨by rfl, by intro W' hW; obtain ⟨q0, q1, q2, q3, q4⟩ := hW; go_simp⟩) hS ?_
              try simp only [Act.put, List.setIfInBounds_toArray, List.set_cons_zero, List.set_cons_succ]
              refine Ord.wpM_take (i := 5) (v := .slice (some ⟨gx, ox, none⟩) n6 c4) (by simp only [List.getElem?_toArray, List.getElem?_cons_zero, List.getElem?_cons_succ]; rfl) (by kernel_rfl) (by kernel_rfl) (by kernel_rfl) (by kernel_rfl) (fun _ _ _ h => h) (Or.inl ⟨by rfl, by intro W' hW; obtain ⟨q0, q1, q2, q3, q4⟩ := hW; go_simp⟩) hS ?_
              try simp only [Act.put, List.setIfInBounds_toArray, List.set_cons_zero, List.set_cons_succ]
              refine Ord.wpM_take (i := 6) (v := .int .i64 (j : Int)) (by simp only [List.getElem?_toArray, List.getElem?_cons_zero, List.getElem?_cons_succ]; rfl) (by kernel_rfl) (by kernel_rfl) (by kernel_rfl) (by kernel_rfl) (fun _ _ _ h => h) (Or.inl ⟨by rfl, by intro W' hW; obtain ⟨q0, q1, q2, q3, q4⟩ := hW; go_simp⟩) hS ?_
              try simp only [Act.put, List.setIfInBounds_toArray, List.set_cons_zero, List.set_cons_succ]
              refine Ord.wpM_take (i := 7) (v := .pointer (some ⟨gx, ox + j, none⟩)) (by simp only [List.getElem?_toArray, List.getElem?_cons_zero, List.getElem?_cons_succ]; rfl) (by kernel_rfl) (by kernel_rfl) (by kernel_rfl) (by kernel_rfl) (fun _ _ _ h => h) (Or.inl ⟨by rfl, by intro W' hW; obtain ⟨q0, q1, q2, q3, q4⟩ := hW; go_simp⟩) hS ?_
              try simp only [Act.put, List.setIfInBounds_toArray, List.set_cons_zero, List.set_cons_succ]
              refine Ord.wpM_take (i := 8) (v := .int .i64 x) (by simp only [List.getElem?_toArray, List.getElem?_cons_zero, List.getElem?_cons_succ]; rfl) (by kernel_rfl) (by kernel_rfl) (by kernel_rfl) (by kernel_rfl) (fun _ _ _ h => h) (Or.inl ⟨by rfl, by intro W' hW; obtain ⟨q0, q1, q2, q3, q4⟩ := hW; go_simp⟩) hS ?_
              try simp only [Act.put, List.setIfInBounds_toArray, List.set_cons_zero, List.set_cons_succ]
              refine Ord.wpM_take (i := 9) (v := .pointer (some ⟨bH, 0, none⟩)) (by simp only [List.getElem?_toArray, List.getElem?_cons_zero, List.getElem?_cons_succ]; rfl) (by kernel_rfl) (by kernel_rfl) (by kernel_rfl) (by kernel_rfl) (fun _ _ _ h => h) (Or.inl ⟨by rfl, by intro W' hW; obtain ⟨q0, q1, q2, q3, q4⟩ := hW; go_simp⟩) hS ?_
              try simp only [Act.put, List.setIfInBounds_toArray, List.set_cons_zero, List.set_cons_succ]
              refine Ord.wpM_take (i := 10) (v := .slice (some ⟨gy, oy, none⟩) n6 c6) (by simp only [List.getElem?_toArray, List.getElem?_cons_zero, List.getElem?_cons_succ]; rfl) (by kernel_rfl) (by kernel_rfl) (by kernel_rfl) (by kernel_rfl) (fun _ _ _ h => h) (Or.inl ⟨by rfl, by intro W' hW; obtain ⟨q0, q1, q2, q3, q4⟩ := hW; go_simp⟩) hS ?_
              try simp only [Act.put, List.setIfInBounds_toArray, List.set_cons_zero, List.set_cons_succ]
              refine Ord.wpM_take (i := 11) (v := .int .i64 (j : Int)) (by simp only [List.getElem?_toArray, List.getElem?_cons_zero, List.getElem?_cons_succ]; rfl) (by kernel_rfl) (by kernel_rfl) (by kernel_rfl) (by kernel_rfl) (fun _ _ _ h => h) (Or.inl ⟨by rfl, by intro W' hW; obtain ⟨q0, q1, q2, q3, q4⟩ := hW; go_simp⟩) hS ?_
              try simp only [Act.put, List.setIfInBounds_toArray, List.set_cons_zero, List.set_cons_succ]
              refine Ord.wpM_take (i := 12) (v := .pointer (some ⟨gy, oy + j, none⟩)) (by simp only [List.getElem?_toArray, List.getElem?_cons_zero, List.getElem?_cons_succ]; rfl) (by kernel_rfl) (by kernel_rfl) (by kernel_rfl) (by kernel_rfl) (fun _ _ _ h => h) (Or.inl ⟨by rfl, by intro W' hW; obtain ⟨q0, q1, q2, q3, q4⟩ := hW; go_simp⟩) hS ?_
              try simp only [Act.put, List.setIfInBounds_toArray, List.set_cons_zero, List.set_cons_succ]
              refine Ord.wpM_take (i := 13) (v := .int .i64 x) (by simp only [List.getElem?_toArray, List.getElem?_cons_zero, List.getElem?_cons_succ]; rfl) (by kernel_rfl) (by kernel_rfl) (by kernel_rfl) (by kernel_rfl) (fun _ _ _ h => h) (Or.inl ⟨by rfl, by intro W' hW; obtain ⟨q0, q1, q2, q3, q4⟩ := hW; go_simp⟩) hS ?_
              try simp only [Act.put, List.setIfInBounds_toArray, List.set_cons_zero, List.set_cons_succ]
              refine Ord.wpM_take (i := 14) (v := .bool false) (by simp only [List.getElem?_toArray, List.getElem?_cons_zero, List.getElem?_cons_succ]; rfl) (by kernel_rfl) (by kernel_rfl) (by kernel_rfl) (by kernel_rfl) (fun _ _ _ h => h) (Or.inl ⟨by rfl, by intro W' hW; obtain ⟨q0, q1, q2, q3, q4⟩ := hW; go_simp⟩) hS ?_
              try simp only [Act.put, List.setIfInBounds_toArray, List.set_cons_zero, List.set_cons_succ]
              refine Ord.wpM_take (i := 15) (v := .bool false) (by simp only [List.getElem?_toArray, List.getElem?_cons_zero, List.getElem?_cons_succ]; rfl) (by kernel_rfl) (by kernel_rfl) (by kernel_rfl) (by kernel_rfl) (fun _ _ _ h => h) (Or.inl ⟨by rfl, by intro W' hW; obtain ⟨q0, q1, q2, q3, q4⟩ := hW; go_simp⟩) hS ?_
              try simp only [Act.put, List.setIfInBounds_toArray, List.set_cons_zero, List.set_cons_succ]
              refine Ord.wpM_done (by kernel_rfl) ?_ _
              refine NoPanic.normal ?_
              clear hS
              go_wp2
              go_roundw
              case rel => exact ⟨j + 1, by omega, by go_num, fun i v x y hi hv hx hy hs => by
                by_cases ei : i = j
                · subst ei
                  rw [HXX.out] at hx
                  rw [HYY.out] at hy
                  cases hx
                  cases hy
                  rfl
                · exact HSm.out i v x y (by omega) hv hx hy hs, HB6.out⟩
              case measure => simp [intOf]; omega
            · have hne : (x != y) = true := by rw [bne_iff_ne]; exact hxy
              clear hxy
              go_wp2_with (first | rw [HW5.out])
              refine wp_region_noPanic ?_
              refine Ord.wpM_begin (fun W' : World => W'.cell? ⟨wr.heap.size, 1, none⟩ = some (.bool false) ∧ W'.cell? ⟨bG, 0, none⟩ = some (.slice (some ⟨gx, ox, none⟩) n6 c4) ∧ W'.cell? ⟨bH, 0, none⟩ = some (.slice (some ⟨gy, oy, none⟩) n6 c6) ∧ W'.cell? ⟨gx, ox + j, none⟩ = some (.int .i64 x) ∧ W'.cell? ⟨gy, oy + j, none⟩ = some (.int .i64 y)) [0, 1, 2, 3, 4, 5, 6, 7, 8, 9, 10, 11, 12, 13, 14, 15] (by kernel_rfl) ?_
              have HD : Hid (Below w5.heap.size w5 w5.drew) := Below.drew (Below.refl _ _)
              have HB6 := keep (HB5.out.trans (HD.out.mono HB5.out.size))
              generalize w5.drew = wd at *
              have hS : wd.cell? ⟨wr.heap.size, 1, none⟩ = some (.bool false) ∧ wd.cell? ⟨bG, 0, none⟩ = some (.slice (some ⟨gx, ox, none⟩) n6 c4) ∧ wd.cell? ⟨bH, 0, none⟩ = some (.slice (some ⟨gy, oy, none⟩) n6 c6) ∧ wd.cell? ⟨gx, ox + j, none⟩ = some (.int .i64 x) ∧ wd.cell? ⟨gy, oy + j, none⟩ = some (.int .i64 y) := HS5.out wd HD.out
              refine Ord.wpM_take (i := 0) (v := .pointer (some ⟨wr.heap.size, 1, none⟩)) (by simp only [List.getElem?_toArray, List.getElem?_cons_zero, List.getElem?_cons_succ]; rfl) (by kernel_rfl) (by kernel_rfl) (by kernel_rfl) (by kernel_rfl) (fun _ _ _ h => h) (Or.inl ⟨by rfl, by intro W' hW; obtain ⟨q0, q1, q2, q3, q4⟩ := hW; go_simp⟩) hS ?_
              try simp only [Act.put, List.setIfInBounds_toArray, List.set_cons_zero, List.set_cons_succ]
              refine Ord.wpM_take (i := 1) (v := .bool false) (by simp only [List.getElem?_toArray, List.getElem?_cons_zero, List.getElem?_cons_succ]; rfl) (by kernel_rfl) (by kernel_rfl) (by kernel_rfl) (by kernel_rfl) (fun _ _ _ h => h) (Or.inl ⟨by rfl, by intro W' hW; obtain ⟨q0, q1, q2, q3, q4⟩ := hW; go_simp⟩) hS ?_
              try simp only [Act.put, List.setIfInBounds_toArray, List.set_cons_zero, List.set_cons_succ]
              refine Ord.wpM_take (i := 2) (v := .bool true) (by simp only [List.getElem?_toArray, List.getElem?_cons_zero, List.getElem?_cons_succ]; rfl) (by kernel_rfl) (by kernel_rfl) (by kernel_rfl) (by kernel_rfl) (fun _ _ _ h => h) (Or.inl ⟨by rfl, by intro W' hW; obtain ⟨q0, q1, q2, q3, q4⟩ := hW; go_simp⟩) hS ?_
              try simp only [Act.put, List.setIfInBounds_toArray, List.set_cons_zero, List.set_cons_succ]
              refine Ord.wpM_take (i := 3) (v := .bool true) (by simp only [List.getElem?_toArray, List.getElem?_cons_zero, List.getElem?_cons_succ]; rfl) (by kernel_rfl) (by kernel_rfl) (by kernel_rfl) (by kernel_rfl) (fun _ _ _ h => h) (Or.inl ⟨by rfl, by intro W' hW; obtain ⟨q0, q1, q2, q3, q4⟩ := hW; go_simp⟩) hS ?_
              try simp only [Act.put, List.setIfInBounds_toArray, List.set_cons_zero, List.set_cons_succ]
              refine Ord.wpM_take (i := 4) (v := .pointer (some ⟨bG, 0, none⟩)) (by simp only [List.getElem?_toArray, List.getElem?_cons_zero, List.getElem?_cons_succ]; rfl) (by kernel_rfl) (by kernel_rfl) (by kernel_rfl) (by kernel_rfl) (fun _ _ _ h => h) (Or.inl ⟨by rfl, by intro W' hW; obtain ⟨q0, q1, q2, q3, q4⟩ := hW; go_simp⟩) hS ?_
              try simp only [Act.put, List.setIfInBounds_toArray, List.set_cons_zero, List.set_cons_succ]
              refine Ord.wpM_take (i := 5) (v := .slice (some ⟨gx, ox, none⟩) n6 c4) (by simp only [List.getElem?_toArray, List.getElem?_cons_zero, List.getElem?_cons_succ]; rfl) (by kernel_rfl) (by kernel_rfl) (by kernel_rfl) (by kernel_rfl) (fun _ _ _ h => h) (Or.inl ⟨by rfl, by intro W' hW; obtain ⟨q0, q1, q2, q3, q4⟩ := hW; go_simp⟩) hS ?_
              try simp only [Act.put, List.setIfInBounds_toArray, List.set_cons_zero, List.set_cons_succ]
              refine Ord.wpM_take (i := 6) (v := .int .i64 (j : Int)) (by simp only [List.getElem?_toArray, List.getElem?_cons_zero, List.getElem?_cons_succ]; rfl) (by kernel_rfl) (by kernel_rfl) (by kernel_rfl) (by kernel_rfl) (fun _ _ _ h => h) (Or.inl ⟨by rfl, by intro W' hW; obtain ⟨q0, q1, q2, q3, q4⟩ := hW; go_simp⟩) hS ?_
              try simp only [Act.put, List.setIfInBounds_toArray, List.set_cons_zero, List.set_cons_succ]
              refine Ord.wpM_take (i := 7) (v := .pointer (some ⟨gx, ox + j, none⟩)) (by simp only [List.getElem?_toArray, List.getElem?_cons_zero, List.getElem?_cons_succ]; rfl) (by kernel_rfl) (by kernel_rfl) (by kernel_rfl) (by kernel_rfl) (fun _ _ _ h => h) (Or.inl ⟨by rfl, by intro W' hW; obtain ⟨q0, q1, q2, q3, q4⟩ := hW; go_simp⟩) hS ?_
              try simp only [Act.put, List.setIfInBounds_toArray, List.set_cons_zero, List.set_cons_succ]
              refine Ord.wpM_take (i := 8) (v := .int .i64 x) (by simp only [List.getElem?_toArray, List.getElem?_cons_zero, List.getElem?_cons_succ]; rfl) (by kernel_rfl) (by kernel_rfl) (by kernel_rfl) (by kernel_rfl) (fun _ _ _ h => h) (Or.inl ⟨by rfl, by intro W' hW; obtain ⟨q0, q1, q2, q3, q4⟩ := hW; go_simp⟩) hS ?_
              try simp only [Act.put, List.setIfInBounds_toArray, List.set_cons_zero, List.set_cons_succ]
              refine Ord.wpM_take (i := 9) (v := .pointer (some ⟨bH, 0, none⟩)) (by simp only [List.getElem?_toArray, List.getElem?_cons_zero, List.getElem?_cons_succ]; rfl) (by kernel_rfl) (by kernel_rfl) (by kernel_rfl) (by kernel_rfl) (fun _ _ _ h => h) (Or.inl ⟨by rfl, by intro W' hW; obtain ⟨q0, q1, q2, q3, q4⟩ := hW; go_simp⟩) hS ?_
              try simp only [Act.put, List.setIfInBounds_toArray, List.set_cons_zero, List.set_cons_succ]
              refine Ord.wpM_take (i := 10) (v := .slice (some ⟨gy, oy, none⟩) n6 c6) (by simp only [List.getElem?_toArray, List.getElem?_cons_zero, List.getElem?_cons_succ]; rfl) (by kernel_rfl) (by kernel_rfl) (by kernel_rfl) (by kernel_rfl) (fun _ _ _ h => h) (Or.inl ⟨by rfl, by intro W' hW; obtain ⟨q0, q1, q2, q3, q4⟩ := hW; go_simp⟩) hS ?_
              try simp only [Act.put, List.setIfInBounds_toArray, List.set_cons_zero, List.set_cons_succ]
              refine Ord.wpM_take (i := 11) (v := .int .i64 (j : Int)) (by simp only [List.getElem?_toArray, List.getElem?_cons_zero, List.getElem?_cons_succ]; rfl) (by kernel_rfl) (by kernel_rfl) (by kernel_rfl) (by kernel_rfl) (fun _ _ _ h => h) (Or.inl ⟨by rfl, by intro W' hW; obtain ⟨q0, q1, q2, q3, q4⟩ := hW; go_simp⟩) hS ?_
              try simp only [Act.put, List.setIfInBounds_toArray, List.set_cons_zero, List.set_cons_succ]
              refine Ord.wpM_take (i := 12) (v := .pointer (some ⟨gy, oy + j, none⟩)) (by simp only [List.getElem?_toArray, List.getElem?_cons_zero, List.getElem?_cons_succ]; rfl) (by kernel_rfl) (by kernel_rfl) (by kernel_rfl) (by kernel_rfl) (fun _ _ _ h => h) (Or.inl ⟨by rfl, by intro W' hW; obtain ⟨q0, q1, q2, q3, q4⟩ := hW; go_simp⟩) hS ?_
              try simp only [Act.put, List.setIfInBounds_toArray, List.set_cons_zero, List.set_cons_succ]
              refine Ord.wpM_take (i := 13) (v := .int .i64 y) (by simp only [List.getElem?_toArray, List.getElem?_cons_zero, List.getElem?_cons_succ]; rfl) (by kernel_rfl) (by kernel_rfl) (by kernel_rfl) (by kernel_rfl) (fun _ _ _ h => h) (Or.inl ⟨by rfl, by intro W' hW; obtain ⟨q0, q1, q2, q3, q4⟩ := hW; go_simp⟩) hS ?_
              try simp only [Act.put, List.setIfInBounds_toArray, List.set_cons_zero, List.set_cons_succ]
              refine Ord.wpM_take (i := 14) (v := .bool true) (by simp only [List.getElem?_toArray, List.getElem?_cons_zero, List.getElem?_cons_succ]; rfl) (by kernel_rfl) (by kernel_rfl) (by kernel_rfl) (by kernel_rfl) (fun _ _ _ h => h) (Or.inl ⟨by rfl, by intro W' hW; obtain ⟨q0, q1, q2, q3, q4⟩ := hW; go_simp⟩) hS ?_
              try simp only [Act.put, List.setIfInBounds_toArray, List.set_cons_zero, List.set_cons_succ]
              refine Ord.wpM_take (i := 15) (v := .bool true) (by simp only [List.getElem?_toArray, List.getElem?_cons_zero, List.getElem?_cons_succ]; rfl) (by kernel_rfl) (by kernel_rfl) (by kernel_rfl) (by kernel_rfl) (fun _ _ _ h => h) (Or.inl ⟨by rfl, by intro W' hW; obtain ⟨q0, q1, q2, q3, q4⟩ := hW; go_simp⟩) hS ?_
              try simp only [Act.put, List.setIfInBounds_toArray, List.set_cons_zero, List.set_cons_succ]
              refine Ord.wpM_done (by kernel_rfl) ?_ _
              refine NoPanic.normal ?_
              clear hS
              have HBe := keep (HB2.out.trans (HB6.out.mono HB2.out.size))
              go_wp2
              go_ret
              exact .no HBe.out
        · have hje : j = n6 := by omega
          subst hje
          have dl : decide ((j : Int) < (j : Int)) = false := decide_eq_false (by omega)
          have HPp : Hid (∀ (i : Nat) (v : Vr) (x y : Int), ps[i]? = some v → ws[i]? = some x → vs[i]? = some y → v.secret = false → x = y) := fun i v x y hv => HSm.out i v x y (by have := (List.getElem?_eq_some_iff.1 hv).1; rw [HL1.out] at this; exact this) hv
          have f1 := (HkF.out.fs (Fs.of_below (l := []) HX.out) (by simp)).cell 1 rfl
          clear hjl HSm
          go_wp2
          go_loopw [49] (fun i wx => ∃ j : Nat, j ≤ n7 ∧ i = .int .i64 (j : Int) ∧ (∀ (i : Nat) (v : Vr) (x y : List Int), i < j → rs[i]? = some v → aa[i]? = some x → bb[i]? = some y → v.secret = false → x = y) ∧ Below w2.heap.size w2 wx) (fun i _ => n7 - (intOf i).toNat)
          case atStart => exact ⟨0, by omega, rfl, fun i v x y hi => by omega, HX.out⟩
          case round =>
            clear HX f1
            obtain ⟨j, hjn, rfl, hsm, hbx⟩ := hrel
            have HSm := keep hsm
            have HX := keep hbx
            clear hsm hbx
            by_cases hjl : j < n7
            · have d1 : decide ((j : Int) < (n7 : Int)) = true := decide_eq_true (by omega)
              have hjz : (j : Int) < (n7 : Int) := by omega
              have hj0 : (0 : Int) ≤ (j : Int) := by omega
              have hwr : IntKind.i64.wrap ((j : Int) + 1) = (j : Int) + 1 := by rw [IntKind.wrap_i64]; omega
              obtain ⟨v, hv⟩ : ∃ v, rs[j]? = some v := ⟨_, List.getElem?_eq_getElem (by rw [HL2.out]; exact hjl)⟩
              obtain ⟨x, hx⟩ : ∃ x, aa[j]? = some x := ⟨_, List.getElem?_eq_getElem (by rw [HL5.out]; exact hjl)⟩
              obtain ⟨y, hy⟩ : ∃ y, bb[j]? = some y := ⟨_, List.getElem?_eq_getElem (by rw [HL7.out]; exact hjl)⟩
              obtain ⟨g, o, rfl, hgB, hat⟩ := HQ2.out j v hv
              obtain ⟨gx, ox, sx, rfl, hgx, hcx, hix⟩ := HQ5.out j x hx
              obtain ⟨gy, oy, sy, rfl, hgy, hcy, hiy⟩ := HQ7.out j y hy
              obtain ⟨px, nx, cx, rfl⟩ := hix.slice
              obtain ⟨py, ny, cy, rfl⟩ := hiy.slice
              have hBw := HB0.out
              have HBx : Hid (Below w.heap.size w wr) := HB2.out.trans (HX.out.mono HB2.out.size)
              have hat := hat.below (HBx.out.mono HB0.out) hgB
              have a0 := hat.c0
              have a1 := hat.c1
              have a2 := hat.c2
              have HV := keep hv
              have HXX := keep hx
              have HYY := keep hy
              obtain ⟨xn, xs, xz⟩ := v
              dsimp only at a0 a1 a2
              obtain ⟨w5, hw5⟩ : ∃ w5, wr.alloc (.cells #[.string ⟨xn.toArray⟩, .bool xs, .int .i64 xz] 75) = w5 := ⟨_, rfl⟩
              have hb5 : Below wr.heap.size wr w5 := by rw [← hw5]; exact (Below.refl _ _).alloc (Nat.le_refl _) _
              have hz5 : Bk w5 wr.heap.size [.string ⟨xn.toArray⟩, .bool xs, .int .i64 xz] 75 := by rw [← hw5]; exact Bk.new _ _ _
              have b5w : Below w.heap.size w w5 := HBx.out.trans (hb5.mono HBx.out.size)
              have b52 : Below w2.heap.size w2 w5 := HX.out.trans (hb5.mono HX.out.size)
              have HS5 : Hid (∀ W, Below w5.heap.size w5 W → W.cell? ⟨wr.heap.size, 1, none⟩ = some (.bool xs) ∧ W.cell? ⟨bG, 1, none⟩ = some (.slice (some ⟨gx, ox, none⟩) n7 c5) ∧ W.cell? ⟨bH, 1, none⟩ = some (.slice (some ⟨gy, oy, none⟩) n7 c7) ∧ W.cell? ⟨gx, ox + j, none⟩ = some (.slice px nx cx) ∧ W.cell? ⟨gy, oy + j, none⟩ = some (.slice py ny cy)) := fun W hW => by
                have c1 := b52.trans (hW.mono b52.size)
                have c2 := b5w.trans (hW.mono b5w.size)
                exact ⟨(hz5.fs (Fs.of_below (l := []) hW) (by simp)).cell 1 rfl, (HkG.out.fs (Fs.of_below (l := []) c1) (by simp)).cell 1 rfl, (HkH.out.fs (Fs.of_below (l := []) c1) (by simp)).cell 1 rfl, by rw [cell_below c2 (by omega)]; exact hcx, by rw [cell_below c2 (by omega)]; exact hcy⟩
              have HSi : Hid (∀ W, Below w5.heap.size w5 W → Calls Try.prog 11 #[.slice px nx cx, .slice py ny cy] W fun r w' => ∃ b : Bool, r = .returned (.bool b) ∧ (b = true ↔ x = y) ∧ Below W.heap.size W w') := fun W hW => by
                have c2 := b5w.trans (hW.mono b5w.size)
                exact sameInts_any B x y _ _ W (Nat.le_trans hBw c2.size) (hix.below (c2.mono hBw)) (hiy.below (c2.mono hBw))
              have HB5 := keep b52
              have HW5 := keep hw5
              clear hv hx hy hat hcx hcy hBw hw5 hb5 hz5 b5w b52 hgB hgx hgy hix hiy
              cases xs with
              | true =>
                clear HSi
                go_wp2_with (first | rw [HW5.out])
                refine wp_region_noPanic ?_
                refine Ord.wpM_begin (fun W' : World => W'.cell? ⟨wr.heap.size, 1, none⟩ = some (.bool true) ∧ W'.cell? ⟨bG, 1, none⟩ = some (.slice (some ⟨gx, ox, none⟩) n7 c5) ∧ W'.cell? ⟨bH, 1, none⟩ = some (.slice (some ⟨gy, oy, none⟩) n7 c7) ∧ W'.cell? ⟨gx, ox + j, none⟩ = some (.slice px nx cx) ∧ W'.cell? ⟨gy, oy + j, none⟩ = some (.slice py ny cy)) [0, 1, 2, 3, 4, 5, 6, 7, 8, 9, 10, 11, 12, 13, 14, 15, 16] (by kernel_rfl) ?_
                have HD : Hid (Below w5.heap.size w5 w5.drew) := Below.drew (Below.refl _ _)
                have HB6 := keep (HB5.out.trans (HD.out.mono HB5.out.size))
                generalize w5.drew = wd at *
                have hS : wd.cell? ⟨wr.heap.size, 1, none⟩ = some (.bool true) ∧ wd.cell? ⟨bG, 1, none⟩ = some (.slice (some ⟨gx, ox, none⟩) n7 c5) ∧ wd.cell? ⟨bH, 1, none⟩ = some (.slice (some ⟨gy, oy, none⟩) n7 c7) ∧ wd.cell? ⟨gx, ox + j, none⟩ = some (.slice px nx cx) ∧ wd.cell? ⟨gy, oy + j, none⟩ = some (.slice py ny cy) := HS5.out wd HD.out
                refine Ord.wpM_take (i := 0) (v := .pointer (some ⟨wr.heap.size, 1, none⟩)) (by simp only [List.getElem?_toArray, List.getElem?_cons_zero, List.getElem?_cons_succ]; rfl) (by kernel_rfl) (by kernel_rfl) (by kernel_rfl) (by kernel_rfl) (fun _ _ _ h => h) (Or.inl ⟨by rfl, by intro W' hW; obtain ⟨q0, q1, q2, q3, q4⟩ := hW; go_simp⟩) hS ?_
                try simp only [Act.put, List.setIfInBounds_toArray, List.set_cons_zero, List.set_cons_succ]
                refine Ord.wpM_take (i := 1) (v := .bool true) (by simp only [List.getElem?_toArray, List.getElem?_cons_zero, List.getElem?_cons_succ]; rfl) (by kernel_rfl) (by kernel_rfl) (by kernel_rfl) (by kernel_rfl) (fun _ _ _ h => h) (Or.inl ⟨by rfl, by intro W' hW; obtain ⟨q0, q1, q2, q3, q4⟩ := hW; go_simp⟩) hS ?_
                try simp only [Act.put, List.setIfInBounds_toArray, List.set_cons_zero, List.set_cons_succ]
                refine Ord.wpM_take (i := 2) (v := .bool false) (by simp only [List.getElem?_toArray, List.getElem?_cons_zero, List.getElem?_cons_succ]; rfl) (by kernel_rfl) (by kernel_rfl) (by kernel_rfl) (by kernel_rfl) (fun _ _ _ h => h) (Or.inl ⟨by rfl, by intro W' hW; obtain ⟨q0, q1, q2, q3, q4⟩ := hW; go_simp⟩) hS ?_
                try simp only [Act.put, List.setIfInBounds_toArray, List.set_cons_zero, List.set_cons_succ]
                refine Ord.wpM_take (i := 3) (v := .bool false) (by simp only [List.getElem?_toArray, List.getElem?_cons_zero, List.getElem?_cons_succ]; rfl) (by kernel_rfl) (by kernel_rfl) (by kernel_rfl) (by kernel_rfl) (fun _ _ _ h => h) (Or.inl ⟨by rfl, by intro W' hW; obtain ⟨q0, q1, q2, q3, q4⟩ := hW; go_simp⟩) hS ?_
                try simp only [Act.put, List.setIfInBounds_toArray, List.set_cons_zero, List.set_cons_succ]
                refine Ord.wpM_take (i := 4) (v := undef) (by simp only [List.getElem?_toArray, List.getElem?_cons_zero, List.getElem?_cons_succ]; rfl) (by kernel_rfl) (by kernel_rfl) (by kernel_rfl) (by kernel_rfl) (fun _ _ _ h => h) (Or.inr ⟨by rfl, rfl⟩) hS ?_
                try simp only [Act.put, List.setIfInBounds_toArray, List.set_cons_zero, List.set_cons_succ]
                refine Ord.wpM_take (i := 5) (v := undef) (by simp only [List.getElem?_toArray, List.getElem?_cons_zero, List.getElem?_cons_succ]; rfl) (by kernel_rfl) (by kernel_rfl) (by kernel_rfl) (by kernel_rfl) (fun _ _ _ h => h) (Or.inr ⟨by rfl, rfl⟩) hS ?_
                try simp only [Act.put, List.setIfInBounds_toArray, List.set_cons_zero, List.set_cons_succ]
                refine Ord.wpM_take (i := 6) (v := undef) (by simp only [List.getElem?_toArray, List.getElem?_cons_zero, List.getElem?_cons_succ]; rfl) (by kernel_rfl) (by kernel_rfl) (by kernel_rfl) (by kernel_rfl) (fun _ _ _ h => h) (Or.inr ⟨by rfl, rfl⟩) hS ?_
                try simp only [Act.put, List.setIfInBounds_toArray, List.set_cons_zero, List.set_cons_succ]
                refine Ord.wpM_take (i := 7) (v := undef) (by simp only [List.getElem?_toArray, List.getElem?_cons_zero, List.getElem?_cons_succ]; rfl) (by kernel_rfl) (by kernel_rfl) (by kernel_rfl) (by kernel_rfl) (fun _ _ _ h => h) (Or.inr ⟨by rfl, rfl⟩) hS ?_
                try simp only [Act.put, List.setIfInBounds_toArray, List.set_cons_zero, List.set_cons_succ]
                refine Ord.wpM_take (i := 8) (v := undef) (by simp only [List.getElem?_toArray, List.getElem?_cons_zero, List.getElem?_cons_succ]; rfl) (by kernel_rfl) (by kernel_rfl) (by kernel_rfl) (by kernel_rfl) (fun _ _ _ h => h) (Or.inr ⟨by rfl, rfl⟩) hS ?_
                try simp only [Act.put, List.setIfInBounds_toArray, List.set_cons_zero, List.set_cons_succ]
                refine Ord.wpM_take (i := 9) (v := undef) (by simp only [List.getElem?_toArray, List.getElem?_cons_zero, List.getElem?_cons_succ]; rfl) (by kernel_rfl) (by kernel_rfl) (by kernel_rfl) (by kernel_rfl) (fun _ _ _ h => h) (Or.inr ⟨by rfl, rfl⟩) hS ?_
                try simp only [Act.put, List.setIfInBounds_toArray, List.set_cons_zero, List.set_cons_succ]
                refine Ord.wpM_take (i := 10) (v := undef) (by simp only [List.getElem?_toArray, List.getElem?_cons_zero, List.getElem?_cons_succ]; rfl) (by kernel_rfl) (by kernel_rfl) (by kernel_rfl) (by kernel_rfl) (fun _ _ _ h => h) (Or.inr ⟨by rfl, rfl⟩) hS ?_
                try simp only [Act.put, List.setIfInBounds_toArray, List.set_cons_zero, List.set_cons_succ]
                refine Ord.wpM_take (i := 11) (v := undef) (by simp only [List.getElem?_toArray, List.getElem?_cons_zero, List.getElem?_cons_succ]; rfl) (by kernel_rfl) (by kernel_rfl) (by kernel_rfl) (by kernel_rfl) (fun _ _ _ h => h) (Or.inr ⟨by rfl, rfl⟩) hS ?_
                try simp only [Act.put, List.setIfInBounds_toArray, List.set_cons_zero, List.set_cons_succ]
                refine Ord.wpM_take (i := 12) (v := undef) (by simp only [List.getElem?_toArray, List.getElem?_cons_zero, List.getElem?_cons_succ]; rfl) (by kernel_rfl) (by kernel_rfl) (by kernel_rfl) (by kernel_rfl) (fun _ _ _ h => h) (Or.inr ⟨by rfl, rfl⟩) hS ?_
                try simp only [Act.put, List.setIfInBounds_toArray, List.set_cons_zero, List.set_cons_succ]
                refine Ord.wpM_take (i := 13) (v := undef) (by simp only [List.getElem?_toArray, List.getElem?_cons_zero, List.getElem?_cons_succ]; rfl) (by kernel_rfl) (by kernel_rfl) (by kernel_rfl) (by kernel_rfl) (fun _ _ _ h => h) (Or.inr ⟨by rfl, rfl⟩) hS ?_
                try simp only [Act.put, List.setIfInBounds_toArray, List.set_cons_zero, List.set_cons_succ]
                refine Ord.wpM_take (i := 14) (v := undef) (by simp only [List.getElem?_toArray, List.getElem?_cons_zero, List.getElem?_cons_succ]; rfl) (by kernel_rfl) (by kernel_rfl) (by kernel_rfl) (by kernel_rfl) (fun _ _ _ h => h) (Or.inr ⟨by rfl, rfl⟩) hS ?_
                try simp only [Act.put, List.setIfInBounds_toArray, List.set_cons_zero, List.set_cons_succ]
                refine Ord.wpM_take (i := 15) (v := undef) (by simp only [List.getElem?_toArray, List.getElem?_cons_zero, List.getElem?_cons_succ]; rfl) (by kernel_rfl) (by kernel_rfl) (by kernel_rfl) (by kernel_rfl) (fun _ _ _ h => h) (Or.inr ⟨by rfl, rfl⟩) hS ?_
                try simp only [Act.put, List.setIfInBounds_toArray, List.set_cons_zero, List.set_cons_succ]
                refine Ord.wpM_take (i := 16) (v := .bool false) (by simp only [List.getElem?_toArray, List.getElem?_cons_zero, List.getElem?_cons_succ]; rfl) (by kernel_rfl) (by kernel_rfl) (by kernel_rfl) (by kernel_rfl) (fun _ _ _ h => h) (Or.inl ⟨by rfl, by intro W' hW; obtain ⟨q0, q1, q2, q3, q4⟩ := hW; go_simp⟩) hS ?_
                try simp only [Act.put, List.setIfInBounds_toArray, List.set_cons_zero, List.set_cons_succ]
                refine Ord.wpM_done (by kernel_rfl) ?_ _
                refine NoPanic.normal ?_
                clear hS
                go_wp2
                go_roundw
                case rel => exact ⟨j + 1, by omega, by go_num, fun i v x y hi hv hx hy hs => by
                  by_cases ei : i = j
                  · subst ei
                    rw [HV.out] at hv
                    cases hv
                    cases hs
                  · exact HSm.out i v x y (by omega) hv hx hy hs, HB6.out⟩
                case measure => simp [intOf]; omega
              | false =>
                go_wp2_with (first | rw [HW5.out])
                refine wp_region_noPanic ?_
                refine Ord.wpM_begin (fun W' : World => W'.cell? ⟨wr.heap.size, 1, none⟩ = some (.bool false) ∧ W'.cell? ⟨bG, 1, none⟩ = some (.slice (some ⟨gx, ox, none⟩) n7 c5) ∧ W'.cell? ⟨bH, 1, none⟩ = some (.slice (some ⟨gy, oy, none⟩) n7 c7) ∧ W'.cell? ⟨gx, ox + j, none⟩ = some (.slice px nx cx) ∧ W'.cell? ⟨gy, oy + j, none⟩ = some (.slice py ny cy)) [0, 1, 2, 3, 4, 5, 6, 7, 8, 9, 10, 11, 12, 13, 14, 15, 16] (by kernel_rfl) ?_
                have HD : Hid (Below w5.heap.size w5 w5.drew) := Below.drew (Below.refl _ _)
                have HB6 := keep (HB5.out.trans (HD.out.mono HB5.out.size))
                generalize w5.drew = wd at *
                have hS : wd.cell? ⟨wr.heap.size, 1, none⟩ = some (.bool false) ∧ wd.cell? ⟨bG, 1, none⟩ = some (.slice (some ⟨gx, ox, none⟩) n7 c5) ∧ wd.cell? ⟨bH, 1, none⟩ = some (.slice (some ⟨gy, oy, none⟩) n7 c7) ∧ wd.cell? ⟨gx, ox + j, none⟩ = some (.slice px nx cx) ∧ wd.cell? ⟨gy, oy + j, none⟩ = some (.slice py ny cy) := HS5.out wd HD.out
                refine Ord.wpM_take (i := 0) (v := .pointer (some ⟨wr.heap.size, 1, none⟩)) (by simp only [List.getElem?_toArray, List.getElem?_cons_zero, List.getElem?_cons_succ]; rfl) (by kernel_rfl) (by kernel_rfl) (by kernel_rfl) (by kernel_rfl) (fun _ _ _ h => h) (Or.inl ⟨by rfl, by intro W' hW; obtain ⟨q0, q1, q2, q3, q4⟩ := hW; go_simp⟩) hS ?_
                try simp only [Act.put, List.setIfInBounds_toArray, List.set_cons_zero, List.set_cons_succ]
                refine Ord.wpM_take (i := 1) (v := .bool false) (by simp only [List.getElem?_toArray, List.getElem?_cons_zero, List.getElem?_cons_succ]; rfl) (by kernel_rfl) (by kernel_rfl) (by kernel_rfl) (by kernel_rfl) (fun _ _ _ h => h) (Or.inl ⟨by rfl, by intro W' hW; obtain ⟨q0, q1, q2, q3, q4⟩ := hW; go_simp⟩) hS ?_
                try simp only [Act.put, List.setIfInBounds_toArray, List.set_cons_zero, List.set_cons_succ]
                refine Ord.wpM_take (i := 2) (v := .bool true) (by simp only [List.getElem?_toArray, List.getElem?_cons_zero, List.getElem?_cons_succ]; rfl) (by kernel_rfl) (by kernel_rfl) (by kernel_rfl) (by kernel_rfl) (fun _ _ _ h => h) (Or.inl ⟨by rfl, by intro W' hW; obtain ⟨q0, q1, q2, q3, q4⟩ := hW; go_simp⟩) hS ?_
                try simp only [Act.put, List.setIfInBounds_toArray, List.set_cons_zero, List.set_cons_succ]
                refine Ord.wpM_take (i := 3) (v := .bool true) (by simp only [List.getElem?_toArray, List.getElem?_cons_zero, List.getElem?_cons_succ]; rfl) (by kernel_rfl) (by kernel_rfl) (by kernel_rfl) (by kernel_rfl) (fun _ _ _ h => h) (Or.inl ⟨by rfl, by intro W' hW; obtain ⟨q0, q1, q2, q3, q4⟩ := hW; go_simp⟩) hS ?_
                try simp only [Act.put, List.setIfInBounds_toArray, List.set_cons_zero, List.set_cons_succ]
                refine Ord.wpM_take (i := 4) (v := .pointer (some ⟨bG, 1, none⟩)) (by simp only [List.getElem?_toArray, List.getElem?_cons_zero, List.getElem?_cons_succ]; rfl) (by kernel_rfl) (by kernel_rfl) (by kernel_rfl) (by kernel_rfl) (fun _ _ _ h => h) (Or.inl ⟨by rfl, by intro W' hW; obtain ⟨q0, q1, q2, q3, q4⟩ := hW; go_simp⟩) hS ?_
                try simp only [Act.put, List.setIfInBounds_toArray, List.set_cons_zero, List.set_cons_succ]
                refine Ord.wpM_take (i := 5) (v := .slice (some ⟨gx, ox, none⟩) n7 c5) (by simp only [List.getElem?_toArray, List.getElem?_cons_zero, List.getElem?_cons_succ]; rfl) (by kernel_rfl) (by kernel_rfl) (by kernel_rfl) (by kernel_rfl) (fun _ _ _ h => h) (Or.inl ⟨by rfl, by intro W' hW; obtain ⟨q0, q1, q2, q3, q4⟩ := hW; go_simp⟩) hS ?_
                try simp only [Act.put, List.setIfInBounds_toArray, List.set_cons_zero, List.set_cons_succ]
                refine Ord.wpM_take (i := 6) (v := .int .i64 (j : Int)) (by simp only [List.getElem?_toArray, List.getElem?_cons_zero, List.getElem?_cons_succ]; rfl) (by kernel_rfl) (by kernel_rfl) (by kernel_rfl) (by kernel_rfl) (fun _ _ _ h => h) (Or.inl ⟨by rfl, by intro W' hW; obtain ⟨q0, q1, q2, q3, q4⟩ := hW; go_simp⟩) hS ?_
                try simp only [Act.put, List.setIfInBounds_toArray, List.set_cons_zero, List.set_cons_succ]
                refine Ord.wpM_take (i := 7) (v := .pointer (some ⟨gx, ox + j, none⟩)) (by simp only [List.getElem?_toArray, List.getElem?_cons_zero, List.getElem?_cons_succ]; rfl) (by kernel_rfl) (by kernel_rfl) (by kernel_rfl) (by kernel_rfl) (fun _ _ _ h => h) (Or.inl ⟨by rfl, by intro W' hW; obtain ⟨q0, q1, q2, q3, q4⟩ := hW; go_simp⟩) hS ?_
                try simp only [Act.put, List.setIfInBounds_toArray, List.set_cons_zero, List.set_cons_succ]
                refine Ord.wpM_take (i := 8) (v := .slice px nx cx) (by simp only [List.getElem?_toArray, List.getElem?_cons_zero, List.getElem?_cons_succ]; rfl) (by kernel_rfl) (by kernel_rfl) (by kernel_rfl) (by kernel_rfl) (fun _ _ _ h => h) (Or.inl ⟨by rfl, by intro W' hW; obtain ⟨q0, q1, q2, q3, q4⟩ := hW; go_simp⟩) hS ?_
                try simp only [Act.put, List.setIfInBounds_toArray, List.set_cons_zero, List.set_cons_succ]
                refine Ord.wpM_take (i := 9) (v := .pointer (some ⟨bH, 1, none⟩)) (by simp only [List.getElem?_toArray, List.getElem?_cons_zero, List.getElem?_cons_succ]; rfl) (by kernel_rfl) (by kernel_rfl) (by kernel_rfl) (by kernel_rfl) (fun _ _ _ h => h) (Or.inl ⟨by rfl, by intro W' hW; obtain ⟨q0, q1, q2, q3, q4⟩ := hW; go_simp⟩) hS ?_
                try simp only [Act.put, List.setIfInBounds_toArray, List.set_cons_zero, List.set_cons_succ]
                refine Ord.wpM_take (i := 10) (v := .slice (some ⟨gy, oy, none⟩) n7 c7) (by simp only [List.getElem?_toArray, List.getElem?_cons_zero, List.getElem?_cons_succ]; rfl) (by kernel_rfl) (by kernel_rfl) (by kernel_rfl) (by kernel_rfl) (fun _ _ _ h => h) (Or.inl ⟨by rfl, by intro W' hW; obtain ⟨q0, q1, q2, q3, q4⟩ := hW; go_simp⟩) hS ?_
                try simp only [Act.put, List.setIfInBounds_toArray, List.set_cons_zero, List.set_cons_succ]
                refine Ord.wpM_take (i := 11) (v := .int .i64 (j : Int)) (by simp only [List.getElem?_toArray, List.getElem?_cons_zero, List.getElem?_cons_succ]; rfl) (by kernel_rfl) (by kernel_rfl) (by kernel_rfl) (by kernel_rfl) (fun _ _ _ h => h) (Or.inl ⟨by rfl, by intro W' hW; obtain ⟨q0, q1, q2, q3, q4⟩ := hW; go_simp⟩) hS ?_
                try simp only [Act.put, List.setIfInBounds_toArray, List.set_cons_zero, List.set_cons_succ]
                refine Ord.wpM_take (i := 12) (v := .pointer (some ⟨gy, oy + j, none⟩)) (by simp only [List.getElem?_toArray, List.getElem?_cons_zero, List.getElem?_cons_succ]; rfl) (by kernel_rfl) (by kernel_rfl) (by kernel_rfl) (by kernel_rfl) (fun _ _ _ h => h) (Or.inl ⟨by rfl, by intro W' hW; obtain ⟨q0, q1, q2, q3, q4⟩ := hW; go_simp⟩) hS ?_
                try simp only [Act.put, List.setIfInBounds_toArray, List.set_cons_zero, List.set_cons_succ]
                refine Ord.wpM_take (i := 13) (v := .slice py ny cy) (by simp only [List.getElem?_toArray, List.getElem?_cons_zero, List.getElem?_cons_succ]; rfl) (by kernel_rfl) (by kernel_rfl) (by kernel_rfl) (by kernel_rfl) (fun _ _ _ h => h) (Or.inl ⟨by rfl, by intro W' hW; obtain ⟨q0, q1, q2, q3, q4⟩ := hW; go_simp⟩) hS ?_
                try simp only [Act.put, List.setIfInBounds_toArray, List.set_cons_zero, List.set_cons_succ]
                refine Ord.wpM_one (i := 14) (by kernel_rfl) (by simp only [List.getElem?_toArray, List.getElem?_cons_zero, List.getElem?_cons_succ]; rfl) (fun K hK => ?_)
                go_simp
                refine (HSi.out wd HD.out).mono ?_
                rintro r w7 ⟨q, rfl, hq, hb7⟩
                have HE := keep hq
                have HB7 := keep (HD.out.trans (hb7.mono HD.out.size))
                have HB6 := keep (HB5.out.trans (HB7.out.mono HB5.out.size))
                have hS : w7.cell? ⟨wr.heap.size, 1, none⟩ = some (.bool false) ∧ w7.cell? ⟨bG, 1, none⟩ = some (.slice (some ⟨gx, ox, none⟩) n7 c5) ∧ w7.cell? ⟨bH, 1, none⟩ = some (.slice (some ⟨gy, oy, none⟩) n7 c7) ∧ w7.cell? ⟨gx, ox + j, none⟩ = some (.slice px nx cx) ∧ w7.cell? ⟨gy, oy + j, none⟩ = some (.slice py ny cy) := HS5.out w7 HB7.out
                clear hb7 hq
                go_simp
                refine hK.out _ _ (fun _ => hS) ?_
                clear hK K
                try simp only [Act.put, List.setIfInBounds_toArray, List.set_cons_zero, List.set_cons_succ]
                cases q with
                | true =>
                  refine Ord.wpM_take (i := 15) (v := .bool false) (by simp only [List.getElem?_toArray, List.getElem?_cons_zero, List.getElem?_cons_succ]; rfl) (by kernel_rfl) (by kernel_rfl) (by kernel_rfl) (by kernel_rfl) (fun _ _ _ h => h) (Or.inl ⟨by rfl, by intro W' hW; obtain ⟨q0, q1, q2, q3, q4⟩ := hW; go_simp⟩) hS ?_
                  try simp only [Act.put, List.setIfInBounds_toArray, List.set_cons_zero, List.set_cons_succ]
                  refine Ord.wpM_take (i := 16) (v := .bool false) (by simp only [List.getElem?_toArray, List.getElem?_cons_zero, List.getElem?_cons_succ]; rfl) (by kernel_rfl) (by kernel_rfl) (by kernel_rfl) (by kernel_rfl) (fun _ _ _ h => h) (Or.inl ⟨by rfl, by intro W' hW; obtain ⟨q0, q1, q2, q3, q4⟩ := hW; go_simp⟩) hS ?_
                  try simp only [Act.put, List.setIfInBounds_toArray, List.set_cons_zero, List.set_cons_succ]
                  refine Ord.wpM_done (by kernel_rfl) ?_ _
                  refine NoPanic.normal ?_
                  clear hS
                  go_wp2
                  go_roundw
                  case rel => exact ⟨j + 1, by omega, by go_num, fun i v x y hi hv hx hy hs => by
                    by_cases ei : i = j
                    · subst ei
                      rw [HXX.out] at hx
                      rw [HYY.out] at hy
                      cases hx
                      cases hy
                      exact HE.out.1 rfl
                    · exact HSm.out i v x y (by omega) hv hx hy hs, HB6.out⟩
                  case measure => simp [intOf]; omega
                | false =>
                  refine Ord.wpM_take (i := 15) (v := .bool true) (by simp only [List.getElem?_toArray, List.getElem?_cons_zero, List.getElem?_cons_succ]; rfl) (by kernel_rfl) (by kernel_rfl) (by kernel_rfl) (by kernel_rfl) (fun _ _ _ h => h) (Or.inl ⟨by rfl, by intro W' hW; obtain ⟨q0, q1, q2, q3, q4⟩ := hW; go_simp⟩) hS ?_
                  try simp only [Act.put, List.setIfInBounds_toArray, List.set_cons_zero, List.set_cons_succ]
                  refine Ord.wpM_take (i := 16) (v := .bool true) (by simp only [List.getElem?_toArray, List.getElem?_cons_zero, List.getElem?_cons_succ]; rfl) (by kernel_rfl) (by kernel_rfl) (by kernel_rfl) (by kernel_rfl) (fun _ _ _ h => h) (Or.inl ⟨by rfl, by intro W' hW; obtain ⟨q0, q1, q2, q3, q4⟩ := hW; go_simp⟩) hS ?_
                  try simp only [Act.put, List.setIfInBounds_toArray, List.set_cons_zero, List.set_cons_succ]
                  refine Ord.wpM_done (by kernel_rfl) ?_ _
                  refine NoPanic.normal ?_
                  clear hS
                  have HBe := keep (HB2.out.trans (HB6.out.mono HB2.out.size))
                  go_wp2
                  go_ret
                  exact .no HBe.out
            · have hje : j = n7 := by omega
              subst hje
              have dl : decide ((j : Int) < (j : Int)) = false := decide_eq_false (by omega)
              have HE : Hid (AlP ps rs ws aa vs bb w (.returned (.bool true)) wr) := ⟨true, rfl, fun _ => ⟨HS1.out, HA1.out, HS2.out, HA2.out, HPp.out, fun i v x y hv => HSm.out i v x y (by have := (List.getElem?_eq_some_iff.1 hv).1; rw [HL2.out] at this; exact this) hv⟩, HB2.out.trans (HX.out.mono HB2.out.size)⟩
              clear hjl HSm
              go_wp2
              go_ret
              exact HE.out
end Go.Proofs.Ytfbmkcogkiejnaa.Lr
