/- Flat instructions that are the same are the same: the document's SameFlat. Written by tools/gen_flsame.py. -/
import Derived.Test.YtfbmkcogkiejnaaFlSameV
namespace Go.Proofs.Ytfbmkcogkiejnaa.Fl
set_option linter.unusedVariables false
set_option linter.unusedSimpArgs false
open Go.ChangeShapes Go.WideShapes Go.ChangeAt Go.RowKit Lg Lr

theorem boolV_at {w : World} {B : Nat} {l : List Bool} {p : Option Addr} {n c : Nat} (h : BoolsIs w B l (.slice p n c)) {k : Nat} {v : Bool} (hk : l[k]? = some v) : ∃ g o, p = some ⟨g, o, none⟩ ∧ g < B ∧ w.cell? ⟨g, o + k, none⟩ = some (.bool v) := by
  obtain ⟨q1, q2, q3, q4, q5, q6, q7, q8⟩ := h
  cases q4
  exact q8 k _ hk
theorem codes_at {w : World} {B : Nat} {l : List Ix} {p : Option Addr} {n c : Nat} (h : CodeIs w B l (.slice p n c)) {k : Nat} {v : Ix} (hk : l[k]? = some v) : ∃ g o, p = some ⟨g, o, none⟩ ∧ g < B ∧ IxAt w g (o + k * 6) v := by
  obtain ⟨q1, q2, q3, q4, q5, q6, q7, q8⟩ := h
  cases q4
  exact q8 k _ hk
set_option maxHeartbeats 64000000 in
set_option maxRecDepth 100000 in
theorem sameFlat_any (B : Nat) (f : Fx) (s1 s2 s3 u1 u2 u3 : Value) (w : World) (hB : B ≤ w.heap.size) (h : FxIs w B f s1 s2 s3) (k : FxIs w B f u1 u2 u3) :
    Calls Try.prog 9 #[.agg (fxA f s1 s2 s3), .agg (fxA f u1 u2 u3)] w fun r w' => r = .returned (.bool true) ∧ Below w.heap.size w w' := by
  obtain ⟨p1, n1, c1, hs1, hn1, _, hm1, _⟩ := id h.code
  obtain ⟨p2, n2, c2, hs2, hn2, _, hm2, _⟩ := id h.sec
  obtain ⟨p3, n3, c3, hs3, hn3, _⟩ := id h.arrs
  subst hs1 hs2 hs3
  obtain ⟨q1, m1, e1, hs1, hk1, _⟩ := id k.code
  obtain ⟨q2, m2, e2, hs2, hk2, _⟩ := id k.sec
  obtain ⟨q3, m3, e3, hs3, hk3, _⟩ := id k.arrs
  subst hs1 hs2 hs3
  obtain rfl : n1 = m1 := by rw [← hn1, ← hk1]
  obtain rfl : n2 = m2 := by rw [← hn2, ← hk2]
  obtain rfl : n3 = m3 := by rw [← hn3, ← hk3]
  have HN : Hid (f.code.length = n1 ∧ f.sec.length = n2 ∧ n1 ≤ 17592186044416 ∧ n2 ≤ 281474976710656) := ⟨hn1, hn2, hm1, hm2⟩
  obtain ⟨pr, hpr⟩ : ∃ y : Int, f.params = y := ⟨_, rfl⟩
  obtain ⟨w1, hw1⟩ : ∃ y, w.alloc (.cells #[.slice p1 n1 c1, .slice p2 n2 c2, .int .i64 pr, .slice p3 n3 c3] 26) = y := ⟨_, rfl⟩
  obtain ⟨w2, hw2⟩ : ∃ y, w1.alloc (.cells #[.slice q1 n1 e1, .slice q2 n2 e2, .int .i64 pr, .slice q3 n3 e3] 26) = y := ⟨_, rfl⟩
  obtain ⟨P, hP⟩ : ∃ y, w.heap.size = y := ⟨_, rfl⟩
  obtain ⟨Q, hQ⟩ : ∃ y, w1.heap.size = y := ⟨_, rfl⟩
  have b1 : Below w.heap.size w w1 := by rw [← hw1]; exact (Below.refl _ _).alloc (Nat.le_refl _) _
  have b2 : Below w1.heap.size w1 w2 := by rw [← hw2]; exact (Below.refl _ _).alloc (Nat.le_refl _) _
  have b12 := b1.trans (b2.mono b1.size)
  have kP1 : Bk w1 P [.slice p1 n1 c1, .slice p2 n2 c2, .int .i64 pr, .slice p3 n3 c3] 26 := by rw [← hw1, ← hP]; exact Bk.new _ _ _
  have kP := kP1.fs (Fs.of_below (l := []) b2) (by simp)
  have kQ : Bk w2 Q [.slice q1 n1 e1, .slice q2 n2 e2, .int .i64 pr, .slice q3 n3 e3] 26 := by rw [← hw2, ← hQ]; exact Bk.new _ _ _
  have HBx : Hid (∀ W, Below w2.heap.size w2 W → Bk W P [.slice p1 n1 c1, .slice p2 n2 c2, .int .i64 pr, .slice p3 n3 c3] 26 ∧ Bk W Q [.slice q1 n1 e1, .slice q2 n2 e2, .int .i64 pr, .slice q3 n3 e3] 26) := fun W hW => ⟨kP.fs (Fs.of_below (l := []) hW) (by simp), kQ.fs (Fs.of_below (l := []) hW) (by simp)⟩
  have HIn : Hid (∀ W, Below w2.heap.size w2 W → B ≤ W.heap.size ∧ FxIs W B f (.slice p1 n1 c1) (.slice p2 n2 c2) (.slice p3 n3 c3) ∧ FxIs W B f (.slice q1 n1 e1) (.slice q2 n2 e2) (.slice q3 n3 e3)) := fun W hW => by
    have hb := b12.trans (hW.mono b12.size)
    exact ⟨Nat.le_trans hB hb.size, h.below (hb.mono hB), k.below (hb.mono hB)⟩
  have HBw : Hid (∀ W, Below w2.heap.size w2 W → Below w.heap.size w W) := fun W hW => b12.trans (hW.mono b12.size)
  have x0 := kP.cell 0 rfl
  have x1 := kP.cell 1 rfl
  have x2 := kP.cell 2 rfl
  have x3 := kP.cell 3 rfl
  have y0 := kQ.cell 0 rfl
  have y1 := kQ.cell 1 rfl
  have y2 := kQ.cell 2 rfl
  have y3 := kQ.cell 3 rfl
  obtain ⟨i1, i2, i3⟩ := HIn.out w2 (Below.refl _ _)
  have HSv := keep (sameV_any B f.arrs f.arrs _ _ w2 i1 i2.arrs i3.arrs)
  have HW1 := keep hw1
  have HW2 := keep hw2
  have HP := keep hP
  have HQ := keep hQ
  unfold fxA
  rw [hpr]
  clear hw1 hw2 hP hQ b1 b2 b12 kP1 kP kQ hn1 hn2 hn3 hk1 hk2 hk3 h k hB hpr i1 i2 i3 hm1 hm2
  go_enter Try.func9, Try.ntmps9
  go_wp2_with (first | rw [HW1.out] | rw [HW2.out] | rw [HP.out] | rw [HQ.out] | fail)
  refine HSv.out.mono ?_
  rintro r w3 ⟨q, rfl, hq, hb3⟩
  obtain rfl : q = true := by first | exact hq.2 rfl | exact hq.2 trivial
  have HB3 := keep hb3
  obtain ⟨kP, kQ⟩ := HBx.out w3 hb3
  clear hq hb3 HSv x0 x1 x2 x3 y0 y1 y2 y3
  have x0 := kP.cell 0 rfl
  clear kP kQ
  go_wp2_with fail
  go_loopw [41] (fun i wx => ∃ j : Nat, j ≤ n1 ∧ i = .int .i64 (j : Int) ∧ Below w2.heap.size w2 wx) (fun i _ => n1 - (intOf i).toNat)
  case atStart => exact ⟨0, by omega, rfl, HB3.out⟩
  case round =>
    clear x0
    obtain ⟨j, hjn, rfl, hbx⟩ := hrel
    have HX := keep hbx
    by_cases hjl : j < n1
    · have d1 : decide ((j : Int) < (n1 : Int)) = true := decide_eq_true (by omega)
      have hjz : (j : Int) < (n1 : Int) := by omega
      have hj0 : (0 : Int) ≤ (j : Int) := by omega
      have hwr : IntKind.i64.wrap ((j : Int) + 1) = (j : Int) + 1 := by rw [IntKind.wrap_i64]; have := HN.out; omega
      obtain ⟨l, hl⟩ : ∃ l, f.code[j]? = some l := ⟨_, List.getElem?_eq_getElem (by rw [HN.out.1]; exact hjl)⟩
      obtain ⟨_, i2, i3⟩ := HIn.out wr hbx
      obtain ⟨g, o, rfl, _, hx⟩ := codes_at i2.code hl
      obtain ⟨g', o', rfl, _, hx'⟩ := codes_at i3.code hl
      obtain ⟨kP, kQ⟩ := HBx.out wr hbx
      have a0 := kP.cell 0 rfl
      have b0 := kQ.cell 0 rfl
      obtain ⟨op, d, a, b, c, imm⟩ := l
      have HSS : Hid (∀ W', Below wr.heap.size wr W' → W'.cell? ⟨P, 0, none⟩ = some (.slice (some ⟨g, o, none⟩) n1 c1) ∧ W'.cell? ⟨Q, 0, none⟩ = some (.slice (some ⟨g', o', none⟩) n1 e1) ∧ W'.cell? ⟨g, o + j * 6, none⟩ = some (.int .i64 op) ∧ W'.cell? ⟨g, o + j * 6 + 1, none⟩ = some (.int .i64 d) ∧ W'.cell? ⟨g, o + j * 6 + 2, none⟩ = some (.int .i64 a) ∧ W'.cell? ⟨g, o + j * 6 + 3, none⟩ = some (.int .i64 b) ∧ W'.cell? ⟨g, o + j * 6 + 4, none⟩ = some (.int .i64 c) ∧ W'.cell? ⟨g, o + j * 6 + 5, none⟩ = some (.int .i64 imm) ∧ W'.cell? ⟨g', o' + j * 6, none⟩ = some (.int .i64 op) ∧ W'.cell? ⟨g', o' + j * 6 + 1, none⟩ = some (.int .i64 d) ∧ W'.cell? ⟨g', o' + j * 6 + 2, none⟩ = some (.int .i64 a) ∧ W'.cell? ⟨g', o' + j * 6 + 3, none⟩ = some (.int .i64 b) ∧ W'.cell? ⟨g', o' + j * 6 + 4, none⟩ = some (.int .i64 c) ∧ W'.cell? ⟨g', o' + j * 6 + 5, none⟩ = some (.int .i64 imm)) := fun W' hW => ⟨keep_cell hW a0, keep_cell hW b0, keep_cell hW hx.c0, keep_cell hW hx.c1, keep_cell hW hx.c2, keep_cell hW hx.c3, keep_cell hW hx.c4, keep_cell hW hx.c5, keep_cell hW hx'.c0, keep_cell hW hx'.c1, keep_cell hW hx'.c2, keep_cell hW hx'.c3, keep_cell hW hx'.c4, keep_cell hW hx'.c5⟩
      clear a0 b0 hx hx' kP kQ i2 i3 hl hbx
      go_wp2_with fail
      refine wp_region_noPanic ?_
      refine Ord.wpM_begin (fun W' : World => W'.cell? ⟨P, 0, none⟩ = some (.slice (some ⟨g, o, none⟩) n1 c1) ∧ W'.cell? ⟨Q, 0, none⟩ = some (.slice (some ⟨g', o', none⟩) n1 e1) ∧ W'.cell? ⟨g, o + j * 6, none⟩ = some (.int .i64 op) ∧ W'.cell? ⟨g, o + j * 6 + 1, none⟩ = some (.int .i64 d) ∧ W'.cell? ⟨g, o + j * 6 + 2, none⟩ = some (.int .i64 a) ∧ W'.cell? ⟨g, o + j * 6 + 3, none⟩ = some (.int .i64 b) ∧ W'.cell? ⟨g, o + j * 6 + 4, none⟩ = some (.int .i64 c) ∧ W'.cell? ⟨g, o + j * 6 + 5, none⟩ = some (.int .i64 imm) ∧ W'.cell? ⟨g', o' + j * 6, none⟩ = some (.int .i64 op) ∧ W'.cell? ⟨g', o' + j * 6 + 1, none⟩ = some (.int .i64 d) ∧ W'.cell? ⟨g', o' + j * 6 + 2, none⟩ = some (.int .i64 a) ∧ W'.cell? ⟨g', o' + j * 6 + 3, none⟩ = some (.int .i64 b) ∧ W'.cell? ⟨g', o' + j * 6 + 4, none⟩ = some (.int .i64 c) ∧ W'.cell? ⟨g', o' + j * 6 + 5, none⟩ = some (.int .i64 imm)) [0, 1, 2, 3, 4, 5, 6, 7, 8, 9, 10] (by kernel_rfl) ?_
      have HD : Hid (Below wr.heap.size wr wr.drew) := Below.drew (Below.refl _ _)
      generalize wr.drew = wd at *
      have hS := HSS.out wd HD.out
      refine Ord.wpM_take (i := 0) (v := .pointer (some ⟨P, 0, none⟩)) (by simp only [List.getElem?_toArray, List.getElem?_cons_zero, List.getElem?_cons_succ]; rfl) (by kernel_rfl) (by kernel_rfl) (by kernel_rfl) (by kernel_rfl) (fun _ _ _ h => h) (Or.inl ⟨by rfl, by intro W' hW; obtain ⟨q0, q1, q2, q3, q4, q5, q6, q7, q8, q9, q10, q11, q12, q13⟩ := hW; go_simp⟩) hS ?_
      try simp only [Act.put, List.setIfInBounds_toArray, List.set_cons_zero, List.set_cons_succ]
      refine Ord.wpM_take (i := 1) (v := .slice (some ⟨g, o, none⟩) n1 c1) (by simp only [List.getElem?_toArray, List.getElem?_cons_zero, List.getElem?_cons_succ]; rfl) (by kernel_rfl) (by kernel_rfl) (by kernel_rfl) (by kernel_rfl) (fun _ _ _ h => h) (Or.inl ⟨by rfl, by intro W' hW; obtain ⟨q0, q1, q2, q3, q4, q5, q6, q7, q8, q9, q10, q11, q12, q13⟩ := hW; go_simp⟩) hS ?_
      try simp only [Act.put, List.setIfInBounds_toArray, List.set_cons_zero, List.set_cons_succ]
      refine Ord.wpM_take (i := 2) (v := .int .i64 (j : Int)) (by simp only [List.getElem?_toArray, List.getElem?_cons_zero, List.getElem?_cons_succ]; rfl) (by kernel_rfl) (by kernel_rfl) (by kernel_rfl) (by kernel_rfl) (fun _ _ _ h => h) (Or.inl ⟨by rfl, by intro W' hW; obtain ⟨q0, q1, q2, q3, q4, q5, q6, q7, q8, q9, q10, q11, q12, q13⟩ := hW; go_simp⟩) hS ?_
      try simp only [Act.put, List.setIfInBounds_toArray, List.set_cons_zero, List.set_cons_succ]
      refine Ord.wpM_take (i := 3) (v := .pointer (some ⟨g, o + j * 6, none⟩)) (by simp only [List.getElem?_toArray, List.getElem?_cons_zero, List.getElem?_cons_succ]; rfl) (by kernel_rfl) (by kernel_rfl) (by kernel_rfl) (by kernel_rfl) (fun _ _ _ h => h) (Or.inl ⟨by rfl, by intro W' hW; obtain ⟨q0, q1, q2, q3, q4, q5, q6, q7, q8, q9, q10, q11, q12, q13⟩ := hW; go_simp⟩) hS ?_
      try simp only [Act.put, List.setIfInBounds_toArray, List.set_cons_zero, List.set_cons_succ]
      refine Ord.wpM_take (i := 4) (v := .agg #[.int .i64 op, .int .i64 d, .int .i64 a, .int .i64 b, .int .i64 c, .int .i64 imm]) (by simp only [List.getElem?_toArray, List.getElem?_cons_zero, List.getElem?_cons_succ]; rfl) (by kernel_rfl) (by kernel_rfl) (by kernel_rfl) (by kernel_rfl) (fun _ _ _ h => h) (Or.inl ⟨by rfl, by intro W' hW; obtain ⟨q0, q1, q2, q3, q4, q5, q6, q7, q8, q9, q10, q11, q12, q13⟩ := hW; go_simp⟩) hS ?_
      try simp only [Act.put, List.setIfInBounds_toArray, List.set_cons_zero, List.set_cons_succ]
      refine Ord.wpM_take (i := 5) (v := .pointer (some ⟨Q, 0, none⟩)) (by simp only [List.getElem?_toArray, List.getElem?_cons_zero, List.getElem?_cons_succ]; rfl) (by kernel_rfl) (by kernel_rfl) (by kernel_rfl) (by kernel_rfl) (fun _ _ _ h => h) (Or.inl ⟨by rfl, by intro W' hW; obtain ⟨q0, q1, q2, q3, q4, q5, q6, q7, q8, q9, q10, q11, q12, q13⟩ := hW; go_simp⟩) hS ?_
      try simp only [Act.put, List.setIfInBounds_toArray, List.set_cons_zero, List.set_cons_succ]
      refine Ord.wpM_take (i := 6) (v := .slice (some ⟨g', o', none⟩) n1 e1) (by simp only [List.getElem?_toArray, List.getElem?_cons_zero, List.getElem?_cons_succ]; rfl) (by kernel_rfl) (by kernel_rfl) (by kernel_rfl) (by kernel_rfl) (fun _ _ _ h => h) (Or.inl ⟨by rfl, by intro W' hW; obtain ⟨q0, q1, q2, q3, q4, q5, q6, q7, q8, q9, q10, q11, q12, q13⟩ := hW; go_simp⟩) hS ?_
      try simp only [Act.put, List.setIfInBounds_toArray, List.set_cons_zero, List.set_cons_succ]
      refine Ord.wpM_take (i := 7) (v := .int .i64 (j : Int)) (by simp only [List.getElem?_toArray, List.getElem?_cons_zero, List.getElem?_cons_succ]; rfl) (by kernel_rfl) (by kernel_rfl) (by kernel_rfl) (by kernel_rfl) (fun _ _ _ h => h) (Or.inl ⟨by rfl, by intro W' hW; obtain ⟨q0, q1, q2, q3, q4, q5, q6, q7, q8, q9, q10, q11, q12, q13⟩ := hW; go_simp⟩) hS ?_
      try simp only [Act.put, List.setIfInBounds_toArray, List.set_cons_zero, List.set_cons_succ]
      refine Ord.wpM_take (i := 8) (v := .pointer (some ⟨g', o' + j * 6, none⟩)) (by simp only [List.getElem?_toArray, List.getElem?_cons_zero, List.getElem?_cons_succ]; rfl) (by kernel_rfl) (by kernel_rfl) (by kernel_rfl) (by kernel_rfl) (fun _ _ _ h => h) (Or.inl ⟨by rfl, by intro W' hW; obtain ⟨q0, q1, q2, q3, q4, q5, q6, q7, q8, q9, q10, q11, q12, q13⟩ := hW; go_simp⟩) hS ?_
      try simp only [Act.put, List.setIfInBounds_toArray, List.set_cons_zero, List.set_cons_succ]
      refine Ord.wpM_take (i := 9) (v := .agg #[.int .i64 op, .int .i64 d, .int .i64 a, .int .i64 b, .int .i64 c, .int .i64 imm]) (by simp only [List.getElem?_toArray, List.getElem?_cons_zero, List.getElem?_cons_succ]; rfl) (by kernel_rfl) (by kernel_rfl) (by kernel_rfl) (by kernel_rfl) (fun _ _ _ h => h) (Or.inl ⟨by rfl, by intro W' hW; obtain ⟨q0, q1, q2, q3, q4, q5, q6, q7, q8, q9, q10, q11, q12, q13⟩ := hW; go_simp⟩) hS ?_
      try simp only [Act.put, List.setIfInBounds_toArray, List.set_cons_zero, List.set_cons_succ]
      refine Ord.wpM_take (i := 10) (v := .bool false) (by simp only [List.getElem?_toArray, List.getElem?_cons_zero, List.getElem?_cons_succ]; rfl) (by kernel_rfl) (by kernel_rfl) (by kernel_rfl) (by kernel_rfl) (fun _ _ _ h => h) (Or.inl ⟨by rfl, by intro W' hW; obtain ⟨q0, q1, q2, q3, q4, q5, q6, q7, q8, q9, q10, q11, q12, q13⟩ := hW; go_simp⟩) hS ?_
      try simp only [Act.put, List.setIfInBounds_toArray, List.set_cons_zero, List.set_cons_succ]
      refine Ord.wpM_done (by kernel_rfl) ?_ _
      refine NoPanic.normal ?_
      clear HSS hS
      go_wp2
      go_roundw
      case rel => exact ⟨j + 1, by omega, by go_num, HX.out.trans (HD.out.mono HX.out.size)⟩
      case measure => simp [intOf]; omega
    · have hje : j = n1 := by omega
      subst hje
      have dl : decide ((j : Int) < (j : Int)) = false := decide_eq_false (by omega)
      obtain ⟨kP, kQ⟩ := HBx.out wr hbx
      have x1 := kP.cell 1 rfl
      clear hjl hbx hjn kP kQ
      go_wp2_with fail
      go_loopw [59] (fun i wx => ∃ j : Nat, j ≤ n2 ∧ i = .int .i64 (j : Int) ∧ Below w2.heap.size w2 wx) (fun i _ => n2 - (intOf i).toNat)
      case atStart => exact ⟨0, by omega, rfl, HX.out⟩
      case round =>
        clear x1 HX
        obtain ⟨i, hin, rfl, hbx⟩ := hrel
        have HX := keep hbx
        by_cases hil : i < n2
        · have d1 : decide ((i : Int) < (n2 : Int)) = true := decide_eq_true (by omega)
          have hiz : (i : Int) < (n2 : Int) := by omega
          have hi0 : (0 : Int) ≤ (i : Int) := by omega
          have hwr : IntKind.i64.wrap ((i : Int) + 1) = (i : Int) + 1 := by rw [IntKind.wrap_i64]; have := HN.out; omega
          obtain ⟨l, hl⟩ : ∃ l, f.sec[i]? = some l := ⟨_, List.getElem?_eq_getElem (by rw [HN.out.2.1]; exact hil)⟩
          obtain ⟨_, i2, i3⟩ := HIn.out wr hbx
          obtain ⟨g, o, rfl, _, hx⟩ := boolV_at i2.sec hl
          obtain ⟨g', o', rfl, _, hx'⟩ := boolV_at i3.sec hl
          obtain ⟨kP, kQ⟩ := HBx.out wr hbx
          have a0 := kP.cell 1 rfl
          have b0 := kQ.cell 1 rfl
          have HSS : Hid (∀ W', Below wr.heap.size wr W' → W'.cell? ⟨P, 1, none⟩ = some (.slice (some ⟨g, o, none⟩) n2 c2) ∧ W'.cell? ⟨Q, 1, none⟩ = some (.slice (some ⟨g', o', none⟩) n2 e2) ∧ W'.cell? ⟨g, o + i, none⟩ = some (.bool l) ∧ W'.cell? ⟨g', o' + i, none⟩ = some (.bool l)) := fun W' hW => ⟨keep_cell hW a0, keep_cell hW b0, keep_cell hW hx, keep_cell hW hx'⟩
          clear a0 b0 hx hx' kP kQ i2 i3 hl hbx
          go_wp2_with fail
          refine wp_region_noPanic ?_
          refine Ord.wpM_begin (fun W' : World => W'.cell? ⟨P, 1, none⟩ = some (.slice (some ⟨g, o, none⟩) n2 c2) ∧ W'.cell? ⟨Q, 1, none⟩ = some (.slice (some ⟨g', o', none⟩) n2 e2) ∧ W'.cell? ⟨g, o + i, none⟩ = some (.bool l) ∧ W'.cell? ⟨g', o' + i, none⟩ = some (.bool l)) [0, 1, 2, 3, 4, 5, 6, 7, 8, 9, 10] (by kernel_rfl) ?_
          have HD : Hid (Below wr.heap.size wr wr.drew) := Below.drew (Below.refl _ _)
          generalize wr.drew = wd at *
          have hS := HSS.out wd HD.out
          refine Ord.wpM_take (i := 0) (v := .pointer (some ⟨P, 1, none⟩)) (by simp only [List.getElem?_toArray, List.getElem?_cons_zero, List.getElem?_cons_succ]; rfl) (by kernel_rfl) (by kernel_rfl) (by kernel_rfl) (by kernel_rfl) (fun _ _ _ h => h) (Or.inl ⟨by rfl, by intro W' hW; obtain ⟨q0, q1, q2, q3⟩ := hW; go_simp⟩) hS ?_
          try simp only [Act.put, List.setIfInBounds_toArray, List.set_cons_zero, List.set_cons_succ]
          refine Ord.wpM_take (i := 1) (v := .slice (some ⟨g, o, none⟩) n2 c2) (by simp only [List.getElem?_toArray, List.getElem?_cons_zero, List.getElem?_cons_succ]; rfl) (by kernel_rfl) (by kernel_rfl) (by kernel_rfl) (by kernel_rfl) (fun _ _ _ h => h) (Or.inl ⟨by rfl, by intro W' hW; obtain ⟨q0, q1, q2, q3⟩ := hW; go_simp⟩) hS ?_
          try simp only [Act.put, List.setIfInBounds_toArray, List.set_cons_zero, List.set_cons_succ]
          refine Ord.wpM_take (i := 2) (v := .int .i64 (i : Int)) (by simp only [List.getElem?_toArray, List.getElem?_cons_zero, List.getElem?_cons_succ]; rfl) (by kernel_rfl) (by kernel_rfl) (by kernel_rfl) (by kernel_rfl) (fun _ _ _ h => h) (Or.inl ⟨by rfl, by intro W' hW; obtain ⟨q0, q1, q2, q3⟩ := hW; go_simp⟩) hS ?_
          try simp only [Act.put, List.setIfInBounds_toArray, List.set_cons_zero, List.set_cons_succ]
          refine Ord.wpM_take (i := 3) (v := .pointer (some ⟨g, o + i, none⟩)) (by simp only [List.getElem?_toArray, List.getElem?_cons_zero, List.getElem?_cons_succ]; rfl) (by kernel_rfl) (by kernel_rfl) (by kernel_rfl) (by kernel_rfl) (fun _ _ _ h => h) (Or.inl ⟨by rfl, by intro W' hW; obtain ⟨q0, q1, q2, q3⟩ := hW; go_simp⟩) hS ?_
          try simp only [Act.put, List.setIfInBounds_toArray, List.set_cons_zero, List.set_cons_succ]
          refine Ord.wpM_take (i := 4) (v := .bool l) (by simp only [List.getElem?_toArray, List.getElem?_cons_zero, List.getElem?_cons_succ]; rfl) (by kernel_rfl) (by kernel_rfl) (by kernel_rfl) (by kernel_rfl) (fun _ _ _ h => h) (Or.inl ⟨by rfl, by intro W' hW; obtain ⟨q0, q1, q2, q3⟩ := hW; go_simp⟩) hS ?_
          try simp only [Act.put, List.setIfInBounds_toArray, List.set_cons_zero, List.set_cons_succ]
          refine Ord.wpM_take (i := 5) (v := .pointer (some ⟨Q, 1, none⟩)) (by simp only [List.getElem?_toArray, List.getElem?_cons_zero, List.getElem?_cons_succ]; rfl) (by kernel_rfl) (by kernel_rfl) (by kernel_rfl) (by kernel_rfl) (fun _ _ _ h => h) (Or.inl ⟨by rfl, by intro W' hW; obtain ⟨q0, q1, q2, q3⟩ := hW; go_simp⟩) hS ?_
          try simp only [Act.put, List.setIfInBounds_toArray, List.set_cons_zero, List.set_cons_succ]
          refine Ord.wpM_take (i := 6) (v := .slice (some ⟨g', o', none⟩) n2 e2) (by simp only [List.getElem?_toArray, List.getElem?_cons_zero, List.getElem?_cons_succ]; rfl) (by kernel_rfl) (by kernel_rfl) (by kernel_rfl) (by kernel_rfl) (fun _ _ _ h => h) (Or.inl ⟨by rfl, by intro W' hW; obtain ⟨q0, q1, q2, q3⟩ := hW; go_simp⟩) hS ?_
          try simp only [Act.put, List.setIfInBounds_toArray, List.set_cons_zero, List.set_cons_succ]
          refine Ord.wpM_take (i := 7) (v := .int .i64 (i : Int)) (by simp only [List.getElem?_toArray, List.getElem?_cons_zero, List.getElem?_cons_succ]; rfl) (by kernel_rfl) (by kernel_rfl) (by kernel_rfl) (by kernel_rfl) (fun _ _ _ h => h) (Or.inl ⟨by rfl, by intro W' hW; obtain ⟨q0, q1, q2, q3⟩ := hW; go_simp⟩) hS ?_
          try simp only [Act.put, List.setIfInBounds_toArray, List.set_cons_zero, List.set_cons_succ]
          refine Ord.wpM_take (i := 8) (v := .pointer (some ⟨g', o' + i, none⟩)) (by simp only [List.getElem?_toArray, List.getElem?_cons_zero, List.getElem?_cons_succ]; rfl) (by kernel_rfl) (by kernel_rfl) (by kernel_rfl) (by kernel_rfl) (fun _ _ _ h => h) (Or.inl ⟨by rfl, by intro W' hW; obtain ⟨q0, q1, q2, q3⟩ := hW; go_simp⟩) hS ?_
          try simp only [Act.put, List.setIfInBounds_toArray, List.set_cons_zero, List.set_cons_succ]
          refine Ord.wpM_take (i := 9) (v := .bool l) (by simp only [List.getElem?_toArray, List.getElem?_cons_zero, List.getElem?_cons_succ]; rfl) (by kernel_rfl) (by kernel_rfl) (by kernel_rfl) (by kernel_rfl) (fun _ _ _ h => h) (Or.inl ⟨by rfl, by intro W' hW; obtain ⟨q0, q1, q2, q3⟩ := hW; go_simp⟩) hS ?_
          try simp only [Act.put, List.setIfInBounds_toArray, List.set_cons_zero, List.set_cons_succ]
          refine Ord.wpM_take (i := 10) (v := .bool false) (by simp only [List.getElem?_toArray, List.getElem?_cons_zero, List.getElem?_cons_succ]; rfl) (by kernel_rfl) (by kernel_rfl) (by kernel_rfl) (by kernel_rfl) (fun _ _ _ h => h) (Or.inl ⟨by rfl, by intro W' hW; obtain ⟨q0, q1, q2, q3⟩ := hW; go_simp⟩) hS ?_
          try simp only [Act.put, List.setIfInBounds_toArray, List.set_cons_zero, List.set_cons_succ]
          refine Ord.wpM_done (by kernel_rfl) ?_ _
          refine NoPanic.normal ?_
          clear HSS hS
          go_wp2
          go_roundw
          case rel => exact ⟨i + 1, by omega, by go_num, HX.out.trans (HD.out.mono HX.out.size)⟩
          case measure => simp [intOf]; omega
        · have hie : i = n2 := by omega
          subst hie
          have dl : decide ((i : Int) < (i : Int)) = false := decide_eq_false (by omega)
          clear hil hbx
          go_wp2
          go_ret
          exact ⟨rfl, HBw.out _ HX.out⟩
end Go.Proofs.Ytfbmkcogkiejnaa.Fl
