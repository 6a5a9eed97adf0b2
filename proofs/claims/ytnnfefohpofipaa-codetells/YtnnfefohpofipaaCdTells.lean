/- The statement's walk. -/
import Derived.Test.YtnnfefohpofipaaCdRparse
namespace Go.Proofs.Ytnnfefohpofipaa.Cd
set_option linter.unusedVariables false
set_option linter.unusedSimpArgs false
open Go.ChangeShapes Go.WideShapes Go.ChangeAt Go.RowKit Lr

theorem eight_of {l : List Int} (h : l.length = 8) : ∃ b0 b1 b2 b3 b4 b5 b6 b7, l = [b0, b1, b2, b3, b4, b5, b6, b7] := by
  match l, h with
  | [b0, b1, b2, b3, b4, b5, b6, b7], _ => exact ⟨_, _, _, _, _, _, _, _, rfl⟩
/-- What comes in: bytes, looked at if they are eight. -/
def BysQ (w : World) (B : Nat) (l : List Int) (sl : Value) : Prop := (∃ p cap, sl = .slice p l.length cap) ∧ (l.length = 8 → BysIs w B l sl)
theorem BysQ.below {w w' : World} {B : Nat} {l : List Int} {sl : Value} (hb : Below B w w') (h : BysQ w B l sl) : BysQ w' B l sl := ⟨h.1, fun h8 => (h.2 h8).below hb⟩
set_option maxHeartbeats 8000000 in
theorem parse_any (l : List Int) (sl : Value) (w : World) (B : Nat) (hl : BysQ w B l sl) : Calls Try.prog 6 #[sl] w fun r w' => PaP l w r w' := by
  by_cases h8 : l.length = 8
  · obtain ⟨p, cap, rfl, hcap, hby, hnone, hsome⟩ := hl.2 h8
    obtain ⟨b0, b1, b2, b3, b4, b5, b6, b7, rfl⟩ := eight_of h8
    cases p with
    | none => exact absurd (hnone rfl) (by simp)
    | some q =>
      obtain ⟨g, o, rfl, _, hc⟩ := hsome q rfl
      exact parse_eight b0 b1 b2 b3 b4 b5 b6 b7 g o cap w hcap hby hc
  · obtain ⟨⟨p, cap, rfl⟩, _⟩ := hl
    obtain ⟨n, hn⟩ : ∃ n, l.length = n := ⟨_, rfl⟩
    have HE : Hid (parseM l = (⟨0, 0, 0, 0, 0, 0⟩, 2)) := by show _ = _; unfold parseM; rw [if_pos h8]
    rw [hn]
    rw [hn] at h8
    have h9 : ((n : Int) != 8) = true := by rw [bne_iff_ne]; omega
    clear hn h8
    go_enter Try.func6, Try.ntmps6
    go_wp2
    refine bodyPost_ret (results_cx rfl _ _ w.heap.size ⟨0, 0, 0, 0, 0, 0⟩ 2 rfl rfl (at_new w _ rfl ⟨0, 0, 0, 0, 0, 0⟩)) rfl ?_
    exact PaP.mk HE.out ((Below.refl w.heap.size w).alloc (Nat.le_refl _) _)
set_option maxHeartbeats 8000000 in
theorem rparse_any (l : List Int) (sl : Value) (w : World) (B : Nat) (hl : BysQ w B l sl) : Calls Try.prog 7 #[sl] w fun r w' => PaP l w r w' := by
  by_cases h8 : l.length = 8
  · obtain ⟨p, cap, rfl, hcap, hby, hnone, hsome⟩ := hl.2 h8
    obtain ⟨b0, b1, b2, b3, b4, b5, b6, b7, rfl⟩ := eight_of h8
    cases p with
    | none => exact absurd (hnone rfl) (by simp)
    | some q =>
      obtain ⟨g, o, rfl, _, hc⟩ := hsome q rfl
      exact rparse_eight b0 b1 b2 b3 b4 b5 b6 b7 g o cap w hcap hby hc
  · obtain ⟨⟨p, cap, rfl⟩, _⟩ := hl
    obtain ⟨n, hn⟩ : ∃ n, l.length = n := ⟨_, rfl⟩
    have HE : Hid (parseM l = (⟨0, 0, 0, 0, 0, 0⟩, 2)) := by show _ = _; unfold parseM; rw [if_pos h8]
    rw [hn]
    rw [hn] at h8
    have h9 : ((n : Int) != 8) = true := by rw [bne_iff_ne]; omega
    clear hn h8
    go_enter Try.func7, Try.ntmps7
    go_wp2
    refine bodyPost_ret (results_cx rfl _ _ w.heap.size ⟨0, 0, 0, 0, 0, 0⟩ 2 rfl rfl (at_new w _ rfl ⟨0, 0, 0, 0, 0, 0⟩)) rfl ?_
    exact PaP.mk HE.out ((Below.refl w.heap.size w).alloc (Nat.le_refl _) _)
theorem conv_any (l : List Int) (sl : Value) (w : World) (B : Nat) (hl : BysIs w B l sl) : (convert 24 9 sl).run Try.prog w = .ok (.string (strOfNums l)) w := by
  obtain ⟨p, cap, rfl, hcap, hby, hnone, hsome⟩ := hl
  cases p with
  | none =>
    rw [hnone rfl]
    exact run_convert_bytes_nil w 24 5 Try.underlying24 Try.underlying5 _ _ _ Try.underlying9
  | some q =>
    obtain ⟨g, o, rfl, _, hc⟩ := hsome q rfl
    exact run_convert_bytes_arg w 24 5 Try.underlying24 Try.underlying5 g o _ _ l rfl (fun i hi => hc i _ (by rw [List.getD_eq_getElem?_getD, List.getElem?_eq_getElem hi]; rfl)) _ Try.underlying9
theorem bys_slice {w : World} {B : Nat} {l : List Int} {sl : Value} (h : BysIs w B l sl) : ∃ p n c, sl = .slice p n c := by
  obtain ⟨p, cap, rfl, _⟩ := h; exact ⟨_, _, _, rfl⟩
theorem box_kept (w w2 : World) (op d a b c imm : Int) (h : Below (w.heap.size + 1) (w.alloc (.cells #[.int .i64 op, .int .i64 d, .int .i64 a, .int .i64 b, .int .i64 c, .int .i64 imm] 23)) w2) :
    w2.cell? ⟨w.heap.size, 0, none⟩ = some (.int .i64 op) ∧ w2.cell? ⟨w.heap.size, 1, none⟩ = some (.int .i64 d) ∧ w2.cell? ⟨w.heap.size, 2, none⟩ = some (.int .i64 a) ∧ w2.cell? ⟨w.heap.size, 3, none⟩ = some (.int .i64 b) ∧ w2.cell? ⟨w.heap.size, 4, none⟩ = some (.int .i64 c) ∧ w2.cell? ⟨w.heap.size, 5, none⟩ = some (.int .i64 imm) := by
  have key : ∀ j v, [Value.int .i64 op, .int .i64 d, .int .i64 a, .int .i64 b, .int .i64 c, .int .i64 imm][j]? = some v → w2.cell? ⟨w.heap.size, j, none⟩ = some v := fun j v hj => by
    rw [cell_below h (Nat.lt_succ_self _)]
    exact cell_new w [.int .i64 op, .int .i64 d, .int .i64 a, .int .i64 b, .int .i64 c, .int .i64 imm] 23 j v hj
  exact ⟨key 0 _ rfl, key 1 _ rfl, key 2 _ rfl, key 3 _ rfl, key 4 _ rfl, key 5 _ rfl⟩
set_option maxHeartbeats 8000000 in
set_option maxRecDepth 100000 in
theorem law_any (i : Cx) (l : List Int) (sl : Value) (w : World) (hl : BysQ w w.heap.size l sl) :
    Calls Try.prog 3 #[.agg (cxA i), sl] w fun r w' => r = .returned (.bool true) ∧ Below w.heap.size w w' := by
  have H1 := keep (fun w' => bytes_any i w')
  have H2 := keep (fun w' => rbytes_any i w')
  have H3 := keep (fun w' (h : BysQ w' w.heap.size l sl) => parse_any l sl w' _ h)
  have H4 := keep (fun w' (h : BysQ w' w.heap.size l sl) => rparse_any l sl w' _ h)
  obtain ⟨p, n, c, rfl⟩ : ∃ p n c, sl = .slice p n c := by obtain ⟨p, c, e⟩ := hl.1; exact ⟨_, _, _, e⟩
  have HL := keep hl
  clear hl
  unfold cxA at *
  obtain ⟨e1, l1, hm⟩ : ∃ e l', bytesM i = (e, l') := ⟨_, _, rfl⟩
  unfold ByP at H1 H2
  rw [hm] at H1 H2
  clear hm
  obtain ⟨⟨jo, jd, ja, jb, jc, ji⟩, e2, hm2⟩ : ∃ j e, parseM l = (j, e) := ⟨_, _, rfl⟩
  unfold PaP at H3 H4
  rw [hm2] at H3 H4
  clear hm2
  unfold cxA at H3 H4
  obtain ⟨op, d, a, b, c, imm⟩ := i
  dsimp only at *
  have HK := keep (fun (w2 : World) (h : Below (w.heap.size + 1) (w.alloc (.cells #[.int .i64 op, .int .i64 d, .int .i64 a, .int .i64 b, .int .i64 c, .int .i64 imm] 23)) w2) => box_kept w w2 op d a b c imm h)
  have HB0 := keep ((Below.refl w.heap.size w).alloc (Nat.le_refl _) (.cells #[.int .i64 op, .int .i64 d, .int .i64 a, .int .i64 b, .int .i64 c, .int .i64 imm] 23))
  have HS0 : Hid ((w.alloc (.cells #[.int .i64 op, .int .i64 d, .int .i64 a, .int .i64 b, .int .i64 c, .int .i64 imm] 23)).heap.size = w.heap.size + 1) := by show _ = _; simp
  go_enter Try.func3, Try.ntmps3
  go_wp2_with fail
  refine (H1.out _).mono ?_
  rintro r w1 ⟨sl1, rfl, hs1, hb1⟩
  rw [HS0.out] at hb1
  obtain ⟨k0, k1, k2, k3, k4, k5⟩ := HK.out w1 hb1
  have HB1 := keep hb1
  obtain ⟨p1, n1, c1, rfl⟩ := bys_slice hs1
  have HS1 := keep hs1
  clear hs1 hb1
  go_wp2_with fail
  refine (H2.out _).mono ?_
  rintro r w2 ⟨sl2, rfl, hs2, hb2⟩
  clear k0 k1 k2 k3 k4 k5
  obtain ⟨p2, n2, c2, rfl⟩ := bys_slice hs2
  have HS2 := keep hs2
  have HB2 := keep hb2
  have HZ1 : Hid (w.heap.size + 1 ≤ w1.heap.size) := by have := HB1.out.size; rw [HS0.out] at this; exact this
  have HX1 := keep (HS1.out.below hb2)
  have HB02 := keep ((HB0.out.trans (HB1.out.mono (Nat.le_succ _))).trans (hb2.mono (Nat.le_trans (Nat.le_succ _) HZ1.out)))
  clear hs2 hb2
  go_wp2_with fail
  refine (H3.out _ (HL.out.below HB02.out)).mono ?_
  rintro r w3 ⟨rfl, hb3⟩
  have HB3 := keep hb3
  have HB03 := keep (HB02.out.trans (hb3.mono HB02.out.size))
  have HZ2 : Hid (w1.heap.size ≤ w2.heap.size) := HB2.out.size
  have HB3u := keep ((hb3).alloc hb3.size (.cells #[.int .i64 jo, .int .i64 jd, .int .i64 ja, .int .i64 jb, .int .i64 jc, .int .i64 ji] 23))
  have HB03u := keep (HB02.out.trans (HB3u.out.mono HB02.out.size))
  clear hb3
  have HK3 := keep (fun (w4 : World) (h : Below (w3.heap.size + 1) (w3.alloc (.cells #[.int .i64 jo, .int .i64 jd, .int .i64 ja, .int .i64 jb, .int .i64 jc, .int .i64 ji] 23)) w4) => box_kept w3 w4 jo jd ja jb jc ji h)
  have HS3 : Hid ((w3.alloc (.cells #[.int .i64 jo, .int .i64 jd, .int .i64 ja, .int .i64 jb, .int .i64 jc, .int .i64 ji] 23)).heap.size = w3.heap.size + 1) := by show _ = _; simp
  go_wp2_with fail
  refine (H4.out _ (HL.out.below HB03u.out)).mono ?_
  rintro r w4 ⟨rfl, hb4⟩
  rw [HS3.out] at hb4
  have HB4 := keep hb4
  have HB4u := keep (hb4.alloc (Nat.le_trans (by rw [HS3.out]; exact Nat.le_refl _) hb4.size) (.cells #[.int .i64 jo, .int .i64 jd, .int .i64 ja, .int .i64 jb, .int .i64 jc, .int .i64 ji] 23))
  clear hb4
  obtain ⟨k0, k1, k2, k3, k4, k5⟩ := HK3.out _ HB4u.out
  obtain ⟨m0, m1, m2, m3, m4, m5⟩ := box_kept w4 _ jo jd ja jb jc ji (Below.refl _ _)
  have HE := keep (HB03u.out.trans (HB4u.out.mono (Nat.le_trans HB03.out.size (Nat.le_succ _))))
  have z3 : w2.heap.size ≤ w3.heap.size := HB3.out.size
  have HB24 : Hid (Below w2.heap.size w2 (w4.alloc (.cells #[.int .i64 jo, .int .i64 jd, .int .i64 ja, .int .i64 jb, .int .i64 jc, .int .i64 ji] 23))) := HB3u.out.trans (HB4u.out.mono (by omega))
  have kc1 := conv_any l1 _ _ _ (HX1.out.below (HB24.out.mono HZ2.out))
  have kc2 := conv_any l1 _ _ _ (HS2.out.below HB24.out)
  clear z3
  go_wp2_with fail
  go_ret
  exact ⟨rfl, HE.out⟩
end Go.Proofs.Ytnnfefohpofipaa.Cd
