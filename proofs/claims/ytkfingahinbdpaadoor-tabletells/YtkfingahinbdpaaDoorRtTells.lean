/- TableTells: the way of the law, whatever is given: where the op is none of a table's, or a load. -/
import Derived.Test.YtkfingahinbdpaaDoorRtTellsIn
namespace Go.Proofs.YtkfingahinbdpaaDoor.Rt
set_option linter.unusedVariables false
set_option linter.unusedSimpArgs false
open Go.ChangeShapes Go.WideShapes Go.ChangeAt Go.RowKit Tb

set_option maxHeartbeats 8000000 in
set_option maxRecDepth 100000 in
theorem tells_low (t : Nat → Int) (ht : I64 t) (s : ByteArray) (hs : s.size ≤ 281474976710656) (op : Int) (o1 : op < 1) (w : World) (hT : Tabs w) :
    Calls Tryd.prog 3 #[.agg (tabA t), .string s, .int .i64 op] w fun e w' => e = .returned (.bool true) ∧ Below w.heap.size w w' := by
  have HK0 := keep (blk_alloc w t)
  have HB0 := keep ((Below.refl w.heap.size w).alloc (Nat.le_refl _) (.cells (tabA t) 24))
  have HT0 := keep (hT.below HB0.out)
  have HX1 := keep (Tb.text_any t ht)
  have HX2 := keep (Rt.text_any t ht)
  have HP1 := keep (Tb.parse_any s hs)
  have HP2 := keep (Rt.parse_any s hs)
  have HR1 := keep (Tb.wrong_any t ht)
  have HR2 := keep (Rt.wrong_any t ht)
  obtain ⟨A, E, hAE⟩ : ∃ (A : ByteArray) (E : Int), textEnd t = .tuple #[.string A, .int .i64 E] := by
    by_cases h : wrongT t = 0
    · exact ⟨_, _, textEnd_ok h⟩
    · exact ⟨_, _, textEnd_no h⟩
  rw [hAE] at HX1 HX2
  obtain ⟨x, F, hxF⟩ : ∃ (x : Nat → Int) (F : Int), parEnd s.data.toList = .tuple #[.agg (tabA x), .int .i64 F] := ⟨_, _, rfl⟩
  rw [hxF] at HP1 HP2
  generalize wrongT t = R at *
  have HA0 := keep (all_any op)
  have hz : allV op = 0 := by
    unfold allV
    rw [if_neg (by omega), if_neg (by omega), if_neg (by omega)]
  rw [hz] at HA0
  clear hz
  clear hT ht hAE hxF
  go_enter Tryd.func3, Tryd.ntmps3
  go_wp2_with fail
  refine (ops_lies _).mono ?_
  rintro e w1 ⟨rfl, hn, hmb, hb1⟩
  have hsz : (w.alloc (.cells (tabA t) 24)).heap.size = w.heap.size + 1 := by simp
  rw [hsz] at hn hmb
  have HN1 := keep hn
  have HM1 := keep hmb
  have HK1 := keep (HK0.out.below hb1 HK0.out.lt)
  have HT1 := keep (HT0.out.below hb1)
  have HB1 := keep (HB0.out.trans (hb1.mono HB0.out.size))
  clear hn hmb hb1 HK0 HT0 HB0 hsz
  go_wp2_with fail
  refine (names_any _ HT1.out).mono ?_
  rintro e w2 ⟨rfl, rfl⟩
  have hbA := (Below.refl w1.heap.size w1).alloc (Nat.le_refl _) (.cells nmV 9)
  have HV2 : Hid (NmBlk (w1.alloc (.cells nmV 9)) w1.heap.size) := (MapKept.heap_alloc w1 _).1
  have HN2 : Hid (NBlk (w1.alloc (.cells nmV 9)) (w.heap.size + 1)) := blk_below HN1.out hbA (blk_lt HN1.out)
  have HM2 : Hid (MBlk (w1.alloc (.cells nmV 9)) (w.heap.size + 1 + 1)) := blk_below HM1.out hbA (blk_lt HM1.out)
  have HK2 := keep (HK1.out.below hbA HK1.out.lt)
  have HT2 := keep (HT1.out.below hbA)
  have HB2 := keep (HB1.out.trans (hbA.mono HB1.out.size))
  clear hbA HN1 HM1 HK1 HT1 HB1
  go_wp2
  generalize w.heap.size + 1 + 1 = bM at *
  generalize hbN : w.heap.size + 1 = bN at *
  clear hbN
  generalize w1.alloc (.cells nmV 9) = w2 at *
  generalize w1.heap.size = bV at *
  go_loopw [34] (fun i wx => ∃ k : Nat, k ≤ 17 ∧ i = .int .i64 (k : Nat) ∧ wx = w2) (fun i _ => 17 - (intOf i).toNat)
  case atStart => exact ⟨0, by omega, rfl, rfl⟩
  case round =>
    obtain ⟨k, hk, rfl, rfl⟩ := hrel
    by_cases hk17 : k < 17
    · have hkz : (k : Int) < 17 := by omega
      have hc1 := HV2.out.cell k hk17
      have hc2 := HN2.out.cell (k + 1) (by omega) (by omega)
      go_wp2
      go_roundw
      case rel => exact ⟨k + 1, by omega, by go_num, trivial⟩
      case measure => simp [intOf]; omega
    · have hke : k = 17 := by omega
      subst hke
      clear HV2 HN2
      have d1 : decide (1 ≤ op) = false := decide_eq_false (by omega)
      have o16 : ¬ op = 16 := by omega
      clear HM2
      go_wp2_with (refine load_tab rfl _ rfl w.heap.size rfl t HK2.out ?_)
      refine (HX1.out _ HT2.out).mono ?_
      rintro e w3 ⟨rfl, hb3⟩
      have HK3 := keep (HK2.out.below hb3 HK2.out.lt)
      have HT3 := keep (HT2.out.below hb3)
      have HB3 := keep (HB2.out.trans (hb3.mono HB2.out.size))
      clear hb3 HK2 HT2 HB2 HX1
      go_wp2_with (refine load_tab rfl _ rfl w.heap.size rfl t HK3.out ?_)
      refine (HX2.out _ HT3.out).mono ?_
      rintro e w4 ⟨rfl, hb4⟩
      have HK4 := keep (HK3.out.below hb4 HK3.out.lt)
      have HT4 := keep (HT3.out.below hb4)
      have HB4 := keep (HB3.out.trans (hb4.mono HB3.out.size))
      clear hb4 HK3 HT3 HB3 HX2
      go_wp2_with fail
      refine (HP1.out _ HT4.out).mono ?_
      rintro e w5 ⟨rfl, hb5⟩
      have HK5 := keep (HK4.out.below hb5 HK4.out.lt)
      have HT5 := keep (HT4.out.below hb5)
      have HB5 := keep (HB4.out.trans (hb5.mono HB4.out.size))
      clear hb5 HK4 HT4 HB4 HP1
      have hbA : Below w5.heap.size w5 ((w5.alloc (.cells (tabA zer) 24)).setRow w5.heap.size (tabA x)) := below_setRow ((Below.refl _ _).alloc (Nat.le_refl _) _) (Nat.le_refl _) _
      have HQ5 : Hid (Blk ((w5.alloc (.cells (tabA zer) 24)).setRow w5.heap.size (tabA x)) w5.heap.size x) := (blk_alloc w5 zer).row
      have HK6 := keep (HK5.out.below hbA HK5.out.lt)
      have HT6 := keep (HT5.out.below hbA)
      have HB6 := keep (HB5.out.trans (hbA.mono HB5.out.size))
      clear hbA HK5 HT5 HB5
      go_wp2_with (first
        | refine store_tab rfl _ _ rfl w5.heap.size x zer rfl rfl (blk_alloc w5 zer) ?_)
      refine (HP2.out _ HT6.out).mono ?_
      rintro e w7 ⟨rfl, hb7⟩
      have HQ7 := keep (HQ5.out.below hb7 HQ5.out.lt)
      have HK7 := keep (HK6.out.below hb7 HK6.out.lt)
      have HB7 := keep (HB6.out.trans (hb7.mono HB6.out.size))
      clear hb7 HQ5 HK6 HT6 HB6 HP2
      generalize w5.heap.size = b1 at *
      have hbA : Below w7.heap.size w7 ((w7.alloc (.cells (tabA zer) 24)).setRow w7.heap.size (tabA x)) := below_setRow ((Below.refl _ _).alloc (Nat.le_refl _) _) (Nat.le_refl _) _
      have hg0 : TM w t x b1 w7.heap.size ((w7.alloc (.cells (tabA zer) 24)).setRow w7.heap.size (tabA x)) :=
        ⟨HK7.out.below hbA HK7.out.lt, HQ7.out.below hbA HQ7.out.lt, (blk_alloc w7 zer).row, HB7.out.trans (hbA.mono HB7.out.size)⟩
      have hg : TMD w t x b1 w7.heap.size ((w7.alloc (.cells (tabA zer) 24)).setRow w7.heap.size (tabA x)) := hg0.d
      clear hg0 hbA HQ7 HK7 HB7
      have HA : Hid (∀ W, TMD w t x b1 w7.heap.size W → Calls Tryd.prog 11 #[.int .i64 op] W fun e w' => e = .returned (.int .i64 0) ∧ TMD w t x b1 w7.heap.size w') := fun W hW => (HA0.out W).mono fun e w' ⟨he, hw⟩ => ⟨he, by rw [hw]; exact hW⟩
      have HW1 : Hid (∀ W, TMD w t x b1 w7.heap.size W → Calls Tryd.prog 12 #[.agg (tabA t)] W fun e w' => e = .returned (.int .i64 R) ∧ TMD w t x b1 w7.heap.size w') := fun W hW => (HR1.out W).mono fun e w' ⟨he, hb⟩ => ⟨he, (hW.out.grow hb).d⟩
      have HW2 : Hid (∀ W, TMD w t x b1 w7.heap.size W → Calls Tryd.prog 13 #[.agg (tabA t)] W fun e w' => e = .returned (.int .i64 R) ∧ TMD w t x b1 w7.heap.size w') := fun W hW => (HR2.out W).mono fun e w' ⟨he, hb⟩ => ⟨he, (hW.out.grow hb).d⟩
      clear HA0 HR1 HR2
      go_wp2_with (refine store_tab rfl _ _ rfl w7.heap.size x zer rfl rfl (blk_alloc w7 zer) ?_)
      generalize w7.heap.size = b2 at *
      have hm := eq_guard
      have hq0 : ∀ W, (Op.equalIn 10000 24 (.agg (tabA x)) (.agg (tabA x))).run Tryd.prog W = .ok true W := fun W => equal_self x 9997 W
      refine wp_region_noPanic ?_
      refine wp_region_held_drew (S := fun w' => TMD w t x b1 b2 w') (by kernel_rfl) (by exact hg) (fun hHeld => ?_)
      refine wpAnyH_take (i := 0) (v := .int .i64 op) (by simp only [List.getElem?_toArray, List.getElem?_cons_zero, List.getElem?_cons_succ]; rfl) (by kernel_rfl) (by kernel_rfl) (by kernel_rfl) (fun _ _ _ h => h) (Or.inl ⟨by rfl, by intro W hW; go_simp⟩) (by exact hHeld) ?_
      try simp only [Act.put, List.setIfInBounds_toArray, List.set_cons_zero, List.set_cons_succ]
      refine wpAnyH_take (i := 2) (v := .int .i64 0) (by simp only [List.getElem?_toArray, List.getElem?_cons_zero, List.getElem?_cons_succ]; rfl) (by kernel_rfl) (by kernel_rfl) (by kernel_rfl) (fun _ _ _ h => h) (Or.inl ⟨by rfl, by intro W hW; go_simp⟩) (by exact hHeld) ?_
      try simp only [Act.put, List.setIfInBounds_toArray, List.set_cons_zero, List.set_cons_succ]
      refine wpAnyH_ready (rs := [1]) (by kernel_rfl) (by simp) ?_
      refine AllReadyH.cons (by simp only [List.getElem?_toArray, List.getElem?_cons_zero, List.getElem?_cons_succ]; rfl) (fun K hK => ?_) AllReadyH.nil
      go_simp
      refine (HA.out _ hHeld).mono ?_
      rintro e wc1 ⟨rfl, hg1⟩
      clear hHeld
      go_simp
      refine hK.out _ _ (by exact hg1) (fun hHeld => ?_)
      clear hK K
      try simp only [Act.put, List.setIfInBounds_toArray, List.set_cons_zero, List.set_cons_succ]
      refine wpAnyH_take (i := 3) (v := .bool true) (by simp only [List.getElem?_toArray, List.getElem?_cons_zero, List.getElem?_cons_succ]; rfl) (by kernel_rfl) (by kernel_rfl) (by kernel_rfl) (fun _ _ _ h => h) (Or.inl ⟨by rfl, by intro W hW; go_simp⟩) (by exact hHeld) ?_
      try simp only [Act.put, List.setIfInBounds_toArray, List.set_cons_zero, List.set_cons_succ]
      refine wpAnyH_take (i := 4) (v := .bool true) (by simp only [List.getElem?_toArray, List.getElem?_cons_zero, List.getElem?_cons_succ]; rfl) (by kernel_rfl) (by kernel_rfl) (by kernel_rfl) (fun _ _ _ h => h) (Or.inl ⟨by rfl, by intro W hW; go_simp⟩) (by exact hHeld) ?_
      try simp only [Act.put, List.setIfInBounds_toArray, List.set_cons_zero, List.set_cons_succ]
      refine wpAnyH_take (i := 5) (v := .int .i64 E) (by simp only [List.getElem?_toArray, List.getElem?_cons_zero, List.getElem?_cons_succ]; rfl) (by kernel_rfl) (by kernel_rfl) (by kernel_rfl) (fun _ _ _ h => h) (Or.inl ⟨by rfl, by intro W hW; go_simp⟩) (by exact hHeld) ?_
      try simp only [Act.put, List.setIfInBounds_toArray, List.set_cons_zero, List.set_cons_succ]
      refine wpAnyH_take (i := 6) (v := .int .i64 E) (by simp only [List.getElem?_toArray, List.getElem?_cons_zero, List.getElem?_cons_succ]; rfl) (by kernel_rfl) (by kernel_rfl) (by kernel_rfl) (fun _ _ _ h => h) (Or.inl ⟨by rfl, by intro W hW; go_simp⟩) (by exact hHeld) ?_
      try simp only [Act.put, List.setIfInBounds_toArray, List.set_cons_zero, List.set_cons_succ]
      refine wpAnyH_take (i := 7) (v := .bool true) (by simp only [List.getElem?_toArray, List.getElem?_cons_zero, List.getElem?_cons_succ]; rfl) (by kernel_rfl) (by kernel_rfl) (by kernel_rfl) (fun _ _ _ h => h) (Or.inl ⟨by rfl, by intro W hW; go_simp⟩) (by exact hHeld) ?_
      try simp only [Act.put, List.setIfInBounds_toArray, List.set_cons_zero, List.set_cons_succ]
      refine wpAnyH_take (i := 8) (v := .bool true) (by simp only [List.getElem?_toArray, List.getElem?_cons_zero, List.getElem?_cons_succ]; rfl) (by kernel_rfl) (by kernel_rfl) (by kernel_rfl) (fun _ _ _ h => h) (Or.inl ⟨by rfl, by intro W hW; go_simp⟩) (by exact hHeld) ?_
      try simp only [Act.put, List.setIfInBounds_toArray, List.set_cons_zero, List.set_cons_succ]
      refine wpAnyH_take (i := 9) (v := .bool true) (by simp only [List.getElem?_toArray, List.getElem?_cons_zero, List.getElem?_cons_succ]; rfl) (by kernel_rfl) (by kernel_rfl) (by kernel_rfl) (fun _ _ _ h => h) (Or.inl ⟨by rfl, by intro W hW; go_simp⟩) (by exact hHeld) ?_
      try simp only [Act.put, List.setIfInBounds_toArray, List.set_cons_zero, List.set_cons_succ]
      refine wpAnyH_take (i := 10) (v := .string A) (by simp only [List.getElem?_toArray, List.getElem?_cons_zero, List.getElem?_cons_succ]; rfl) (by kernel_rfl) (by kernel_rfl) (by kernel_rfl) (fun _ _ _ h => h) (Or.inl ⟨by rfl, by intro W hW; go_simp⟩) (by exact hHeld) ?_
      try simp only [Act.put, List.setIfInBounds_toArray, List.set_cons_zero, List.set_cons_succ]
      refine wpAnyH_take (i := 11) (v := .string A) (by simp only [List.getElem?_toArray, List.getElem?_cons_zero, List.getElem?_cons_succ]; rfl) (by kernel_rfl) (by kernel_rfl) (by kernel_rfl) (fun _ _ _ h => h) (Or.inl ⟨by rfl, by intro W hW; go_simp⟩) (by exact hHeld) ?_
      try simp only [Act.put, List.setIfInBounds_toArray, List.set_cons_zero, List.set_cons_succ]
      refine wpAnyH_take (i := 12) (v := .bool true) (by simp only [List.getElem?_toArray, List.getElem?_cons_zero, List.getElem?_cons_succ]; rfl) (by kernel_rfl) (by kernel_rfl) (by kernel_rfl) (fun _ _ _ h => h) (Or.inl ⟨by rfl, by intro W hW; go_simp⟩) (by exact hHeld) ?_
      try simp only [Act.put, List.setIfInBounds_toArray, List.set_cons_zero, List.set_cons_succ]
      refine wpAnyH_take (i := 13) (v := .bool true) (by simp only [List.getElem?_toArray, List.getElem?_cons_zero, List.getElem?_cons_succ]; rfl) (by kernel_rfl) (by kernel_rfl) (by kernel_rfl) (fun _ _ _ h => h) (Or.inl ⟨by rfl, by intro W hW; go_simp⟩) (by exact hHeld) ?_
      try simp only [Act.put, List.setIfInBounds_toArray, List.set_cons_zero, List.set_cons_succ]
      refine wpAnyH_take (i := 14) (v := .bool true) (by simp only [List.getElem?_toArray, List.getElem?_cons_zero, List.getElem?_cons_succ]; rfl) (by kernel_rfl) (by kernel_rfl) (by kernel_rfl) (fun _ _ _ h => h) (Or.inl ⟨by rfl, by intro W hW; go_simp⟩) (by exact hHeld) ?_
      try simp only [Act.put, List.setIfInBounds_toArray, List.set_cons_zero, List.set_cons_succ]
      refine wpAnyH_take (i := 15) (v := .int .i64 F) (by simp only [List.getElem?_toArray, List.getElem?_cons_zero, List.getElem?_cons_succ]; rfl) (by kernel_rfl) (by kernel_rfl) (by kernel_rfl) (fun _ _ _ h => h) (Or.inl ⟨by rfl, by intro W hW; go_simp⟩) (by exact hHeld) ?_
      try simp only [Act.put, List.setIfInBounds_toArray, List.set_cons_zero, List.set_cons_succ]
      refine wpAnyH_take (i := 16) (v := .int .i64 F) (by simp only [List.getElem?_toArray, List.getElem?_cons_zero, List.getElem?_cons_succ]; rfl) (by kernel_rfl) (by kernel_rfl) (by kernel_rfl) (fun _ _ _ h => h) (Or.inl ⟨by rfl, by intro W hW; go_simp⟩) (by exact hHeld) ?_
      try simp only [Act.put, List.setIfInBounds_toArray, List.set_cons_zero, List.set_cons_succ]
      refine wpAnyH_take (i := 17) (v := .bool true) (by simp only [List.getElem?_toArray, List.getElem?_cons_zero, List.getElem?_cons_succ]; rfl) (by kernel_rfl) (by kernel_rfl) (by kernel_rfl) (fun _ _ _ h => h) (Or.inl ⟨by rfl, by intro W hW; go_simp⟩) (by exact hHeld) ?_
      try simp only [Act.put, List.setIfInBounds_toArray, List.set_cons_zero, List.set_cons_succ]
      refine wpAnyH_take (i := 18) (v := .bool true) (by simp only [List.getElem?_toArray, List.getElem?_cons_zero, List.getElem?_cons_succ]; rfl) (by kernel_rfl) (by kernel_rfl) (by kernel_rfl) (fun _ _ _ h => h) (Or.inl ⟨by rfl, by intro W hW; go_simp⟩) (by exact hHeld) ?_
      try simp only [Act.put, List.setIfInBounds_toArray, List.set_cons_zero, List.set_cons_succ]
      refine wpAnyH_take (i := 19) (v := .bool true) (by simp only [List.getElem?_toArray, List.getElem?_cons_zero, List.getElem?_cons_succ]; rfl) (by kernel_rfl) (by kernel_rfl) (by kernel_rfl) (fun _ _ _ h => h) (Or.inl ⟨by rfl, by intro W hW; go_simp⟩) (by exact hHeld) ?_
      try simp only [Act.put, List.setIfInBounds_toArray, List.set_cons_zero, List.set_cons_succ]
      refine wpAnyH_take (i := 20) (v := .agg (tabA x)) (by simp only [List.getElem?_toArray, List.getElem?_cons_zero, List.getElem?_cons_succ]; rfl) (by kernel_rfl) (by kernel_rfl) (by kernel_rfl) (fun _ _ _ h => h) (Or.inl ⟨by rfl, by intro W hW; exact load_exec _ rfl b1 rfl x (TMD.out hW).k1⟩) (by exact hHeld) ?_
      try simp only [Act.put, List.setIfInBounds_toArray, List.set_cons_zero, List.set_cons_succ]
      refine wpAnyH_take (i := 21) (v := .agg (tabA x)) (by simp only [List.getElem?_toArray, List.getElem?_cons_zero, List.getElem?_cons_succ]; rfl) (by kernel_rfl) (by kernel_rfl) (by kernel_rfl) (fun _ _ _ h => h) (Or.inl ⟨by rfl, by intro W hW; exact load_exec _ rfl b2 rfl x (TMD.out hW).k2⟩) (by exact hHeld) ?_
      try simp only [Act.put, List.setIfInBounds_toArray, List.set_cons_zero, List.set_cons_succ]
      refine wpAnyH_take (i := 22) (v := .bool true) (by simp only [List.getElem?_toArray, List.getElem?_cons_zero, List.getElem?_cons_succ]; rfl) (by kernel_rfl) (by kernel_rfl) (by kernel_rfl) (fun _ _ _ h => h) (Or.inl ⟨by rfl, by intro W hW; go_simp⟩) (by exact hHeld) ?_
      try simp only [Act.put, List.setIfInBounds_toArray, List.set_cons_zero, List.set_cons_succ]
      refine wpAnyH_take (i := 23) (v := .bool true) (by simp only [List.getElem?_toArray, List.getElem?_cons_zero, List.getElem?_cons_succ]; rfl) (by kernel_rfl) (by kernel_rfl) (by kernel_rfl) (fun _ _ _ h => h) (Or.inl ⟨by rfl, by intro W hW; go_simp⟩) (by exact hHeld) ?_
      try simp only [Act.put, List.setIfInBounds_toArray, List.set_cons_zero, List.set_cons_succ]
      refine wpAnyH_take (i := 24) (v := .bool true) (by simp only [List.getElem?_toArray, List.getElem?_cons_zero, List.getElem?_cons_succ]; rfl) (by kernel_rfl) (by kernel_rfl) (by kernel_rfl) (fun _ _ _ h => h) (Or.inl ⟨by rfl, by intro W hW; go_simp⟩) (by exact hHeld) ?_
      try simp only [Act.put, List.setIfInBounds_toArray, List.set_cons_zero, List.set_cons_succ]
      refine wpAnyH_take (i := 25) (v := .agg (tabA t)) (by simp only [List.getElem?_toArray, List.getElem?_cons_zero, List.getElem?_cons_succ]; rfl) (by kernel_rfl) (by kernel_rfl) (by kernel_rfl) (fun _ _ _ h => h) (Or.inl ⟨by rfl, by intro W hW; exact load_exec _ rfl w.heap.size rfl t (TMD.out hW).k0⟩) (by exact hHeld) ?_
      try simp only [Act.put, List.setIfInBounds_toArray, List.set_cons_zero, List.set_cons_succ]
      refine wpAnyH_take (i := 27) (v := .agg (tabA t)) (by simp only [List.getElem?_toArray, List.getElem?_cons_zero, List.getElem?_cons_succ]; rfl) (by kernel_rfl) (by kernel_rfl) (by kernel_rfl) (fun _ _ _ h => h) (Or.inl ⟨by rfl, by intro W hW; exact load_exec _ rfl w.heap.size rfl t (TMD.out hW).k0⟩) (by exact hHeld) ?_
      try simp only [Act.put, List.setIfInBounds_toArray, List.set_cons_zero, List.set_cons_succ]
      refine wpAnyH_ready (rs := [26]) (by kernel_rfl) (by simp) ?_
      refine AllReadyH.cons (by simp only [List.getElem?_toArray, List.getElem?_cons_zero, List.getElem?_cons_succ]; rfl) (fun K hK => ?_) AllReadyH.nil
      go_simp
      refine (HW1.out _ hHeld).mono ?_
      rintro e wc2 ⟨rfl, hg2⟩
      clear hHeld
      go_simp
      refine hK.out _ _ (by exact hg2) (fun hHeld => ?_)
      clear hK K
      try simp only [Act.put, List.setIfInBounds_toArray, List.set_cons_zero, List.set_cons_succ]
      refine wpAnyH_ready (rs := [28]) (by kernel_rfl) (by simp) ?_
      refine AllReadyH.cons (by simp only [List.getElem?_toArray, List.getElem?_cons_zero, List.getElem?_cons_succ]; rfl) (fun K hK => ?_) AllReadyH.nil
      go_simp
      refine (HW2.out _ hHeld).mono ?_
      rintro e wc3 ⟨rfl, hg3⟩
      clear hHeld
      go_simp
      refine hK.out _ _ (by exact hg3) (fun hHeld => ?_)
      clear hK K
      try simp only [Act.put, List.setIfInBounds_toArray, List.set_cons_zero, List.set_cons_succ]
      refine wpAnyH_take (i := 29) (v := .bool true) (by simp only [List.getElem?_toArray, List.getElem?_cons_zero, List.getElem?_cons_succ]; rfl) (by kernel_rfl) (by kernel_rfl) (by kernel_rfl) (fun _ _ _ h => h) (Or.inl ⟨by rfl, by intro W hW; go_simp⟩) (by exact hHeld) ?_
      try simp only [Act.put, List.setIfInBounds_toArray, List.set_cons_zero, List.set_cons_succ]
      refine wpAnyH_take (i := 30) (v := .bool true) (by simp only [List.getElem?_toArray, List.getElem?_cons_zero, List.getElem?_cons_succ]; rfl) (by kernel_rfl) (by kernel_rfl) (by kernel_rfl) (fun _ _ _ h => h) (Or.inl ⟨by rfl, by intro W hW; go_simp⟩) (by exact hHeld) ?_
      try simp only [Act.put, List.setIfInBounds_toArray, List.set_cons_zero, List.set_cons_succ]
      refine wpAnyH_take (i := 31) (v := .bool true) (by simp only [List.getElem?_toArray, List.getElem?_cons_zero, List.getElem?_cons_succ]; rfl) (by kernel_rfl) (by kernel_rfl) (by kernel_rfl) (fun _ _ _ h => h) (Or.inl ⟨by rfl, by intro W hW; go_simp⟩) (by exact hHeld) ?_
      try simp only [Act.put, List.setIfInBounds_toArray, List.set_cons_zero, List.set_cons_succ]
      refine wpAnyH_done (by kernel_rfl) ?_ _
      refine NoPanic.normal ?_
      go_wp2
      go_ret
      exact ⟨rfl, (TMD.out hHeld).below⟩

set_option maxHeartbeats 8000000 in
set_option maxRecDepth 100000 in
theorem tells_high (t : Nat → Int) (ht : I64 t) (s : ByteArray) (hs : s.size ≤ 281474976710656) (op : Int) (o1 : 17 < op) (w : World) (hT : Tabs w) :
    Calls Tryd.prog 3 #[.agg (tabA t), .string s, .int .i64 op] w fun e w' => e = .returned (.bool true) ∧ Below w.heap.size w w' := by
  have HK0 := keep (blk_alloc w t)
  have HB0 := keep ((Below.refl w.heap.size w).alloc (Nat.le_refl _) (.cells (tabA t) 24))
  have HT0 := keep (hT.below HB0.out)
  have HX1 := keep (Tb.text_any t ht)
  have HX2 := keep (Rt.text_any t ht)
  have HP1 := keep (Tb.parse_any s hs)
  have HP2 := keep (Rt.parse_any s hs)
  have HR1 := keep (Tb.wrong_any t ht)
  have HR2 := keep (Rt.wrong_any t ht)
  obtain ⟨A, E, hAE⟩ : ∃ (A : ByteArray) (E : Int), textEnd t = .tuple #[.string A, .int .i64 E] := by
    by_cases h : wrongT t = 0
    · exact ⟨_, _, textEnd_ok h⟩
    · exact ⟨_, _, textEnd_no h⟩
  rw [hAE] at HX1 HX2
  obtain ⟨x, F, hxF⟩ : ∃ (x : Nat → Int) (F : Int), parEnd s.data.toList = .tuple #[.agg (tabA x), .int .i64 F] := ⟨_, _, rfl⟩
  rw [hxF] at HP1 HP2
  generalize wrongT t = R at *
  have HA0 := keep (all_any op)
  have hz : allV op = 0 := by
    unfold allV
    rw [if_neg (by omega), if_neg (by omega), if_neg (by omega)]
  rw [hz] at HA0
  clear hz
  clear hT ht hAE hxF
  go_enter Tryd.func3, Tryd.ntmps3
  go_wp2_with fail
  refine (ops_lies _).mono ?_
  rintro e w1 ⟨rfl, hn, hmb, hb1⟩
  have hsz : (w.alloc (.cells (tabA t) 24)).heap.size = w.heap.size + 1 := by simp
  rw [hsz] at hn hmb
  have HN1 := keep hn
  have HM1 := keep hmb
  have HK1 := keep (HK0.out.below hb1 HK0.out.lt)
  have HT1 := keep (HT0.out.below hb1)
  have HB1 := keep (HB0.out.trans (hb1.mono HB0.out.size))
  clear hn hmb hb1 HK0 HT0 HB0 hsz
  go_wp2_with fail
  refine (names_any _ HT1.out).mono ?_
  rintro e w2 ⟨rfl, rfl⟩
  have hbA := (Below.refl w1.heap.size w1).alloc (Nat.le_refl _) (.cells nmV 9)
  have HV2 : Hid (NmBlk (w1.alloc (.cells nmV 9)) w1.heap.size) := (MapKept.heap_alloc w1 _).1
  have HN2 : Hid (NBlk (w1.alloc (.cells nmV 9)) (w.heap.size + 1)) := blk_below HN1.out hbA (blk_lt HN1.out)
  have HM2 : Hid (MBlk (w1.alloc (.cells nmV 9)) (w.heap.size + 1 + 1)) := blk_below HM1.out hbA (blk_lt HM1.out)
  have HK2 := keep (HK1.out.below hbA HK1.out.lt)
  have HT2 := keep (HT1.out.below hbA)
  have HB2 := keep (HB1.out.trans (hbA.mono HB1.out.size))
  clear hbA HN1 HM1 HK1 HT1 HB1
  go_wp2
  generalize w.heap.size + 1 + 1 = bM at *
  generalize hbN : w.heap.size + 1 = bN at *
  clear hbN
  generalize w1.alloc (.cells nmV 9) = w2 at *
  generalize w1.heap.size = bV at *
  go_loopw [34] (fun i wx => ∃ k : Nat, k ≤ 17 ∧ i = .int .i64 (k : Nat) ∧ wx = w2) (fun i _ => 17 - (intOf i).toNat)
  case atStart => exact ⟨0, by omega, rfl, rfl⟩
  case round =>
    obtain ⟨k, hk, rfl, rfl⟩ := hrel
    by_cases hk17 : k < 17
    · have hkz : (k : Int) < 17 := by omega
      have hc1 := HV2.out.cell k hk17
      have hc2 := HN2.out.cell (k + 1) (by omega) (by omega)
      go_wp2
      go_roundw
      case rel => exact ⟨k + 1, by omega, by go_num, trivial⟩
      case measure => simp [intOf]; omega
    · have hke : k = 17 := by omega
      subst hke
      clear HV2 HN2
      have d1 : decide (1 ≤ op) = true := decide_eq_true (by omega)
      have d2 : decide (op ≤ 17) = false := decide_eq_false (by omega)
      have o16 : ¬ op = 16 := by omega
      clear HM2
      go_wp2_with (refine load_tab rfl _ rfl w.heap.size rfl t HK2.out ?_)
      refine (HX1.out _ HT2.out).mono ?_
      rintro e w3 ⟨rfl, hb3⟩
      have HK3 := keep (HK2.out.below hb3 HK2.out.lt)
      have HT3 := keep (HT2.out.below hb3)
      have HB3 := keep (HB2.out.trans (hb3.mono HB2.out.size))
      clear hb3 HK2 HT2 HB2 HX1
      go_wp2_with (refine load_tab rfl _ rfl w.heap.size rfl t HK3.out ?_)
      refine (HX2.out _ HT3.out).mono ?_
      rintro e w4 ⟨rfl, hb4⟩
      have HK4 := keep (HK3.out.below hb4 HK3.out.lt)
      have HT4 := keep (HT3.out.below hb4)
      have HB4 := keep (HB3.out.trans (hb4.mono HB3.out.size))
      clear hb4 HK3 HT3 HB3 HX2
      go_wp2_with fail
      refine (HP1.out _ HT4.out).mono ?_
      rintro e w5 ⟨rfl, hb5⟩
      have HK5 := keep (HK4.out.below hb5 HK4.out.lt)
      have HT5 := keep (HT4.out.below hb5)
      have HB5 := keep (HB4.out.trans (hb5.mono HB4.out.size))
      clear hb5 HK4 HT4 HB4 HP1
      have hbA : Below w5.heap.size w5 ((w5.alloc (.cells (tabA zer) 24)).setRow w5.heap.size (tabA x)) := below_setRow ((Below.refl _ _).alloc (Nat.le_refl _) _) (Nat.le_refl _) _
      have HQ5 : Hid (Blk ((w5.alloc (.cells (tabA zer) 24)).setRow w5.heap.size (tabA x)) w5.heap.size x) := (blk_alloc w5 zer).row
      have HK6 := keep (HK5.out.below hbA HK5.out.lt)
      have HT6 := keep (HT5.out.below hbA)
      have HB6 := keep (HB5.out.trans (hbA.mono HB5.out.size))
      clear hbA HK5 HT5 HB5
      go_wp2_with (first
        | refine store_tab rfl _ _ rfl w5.heap.size x zer rfl rfl (blk_alloc w5 zer) ?_)
      refine (HP2.out _ HT6.out).mono ?_
      rintro e w7 ⟨rfl, hb7⟩
      have HQ7 := keep (HQ5.out.below hb7 HQ5.out.lt)
      have HK7 := keep (HK6.out.below hb7 HK6.out.lt)
      have HB7 := keep (HB6.out.trans (hb7.mono HB6.out.size))
      clear hb7 HQ5 HK6 HT6 HB6 HP2
      generalize w5.heap.size = b1 at *
      have hbA : Below w7.heap.size w7 ((w7.alloc (.cells (tabA zer) 24)).setRow w7.heap.size (tabA x)) := below_setRow ((Below.refl _ _).alloc (Nat.le_refl _) _) (Nat.le_refl _) _
      have hg0 : TM w t x b1 w7.heap.size ((w7.alloc (.cells (tabA zer) 24)).setRow w7.heap.size (tabA x)) :=
        ⟨HK7.out.below hbA HK7.out.lt, HQ7.out.below hbA HQ7.out.lt, (blk_alloc w7 zer).row, HB7.out.trans (hbA.mono HB7.out.size)⟩
      have hg : TMD w t x b1 w7.heap.size ((w7.alloc (.cells (tabA zer) 24)).setRow w7.heap.size (tabA x)) := hg0.d
      clear hg0 hbA HQ7 HK7 HB7
      have HA : Hid (∀ W, TMD w t x b1 w7.heap.size W → Calls Tryd.prog 11 #[.int .i64 op] W fun e w' => e = .returned (.int .i64 0) ∧ TMD w t x b1 w7.heap.size w') := fun W hW => (HA0.out W).mono fun e w' ⟨he, hw⟩ => ⟨he, by rw [hw]; exact hW⟩
      have HW1 : Hid (∀ W, TMD w t x b1 w7.heap.size W → Calls Tryd.prog 12 #[.agg (tabA t)] W fun e w' => e = .returned (.int .i64 R) ∧ TMD w t x b1 w7.heap.size w') := fun W hW => (HR1.out W).mono fun e w' ⟨he, hb⟩ => ⟨he, (hW.out.grow hb).d⟩
      have HW2 : Hid (∀ W, TMD w t x b1 w7.heap.size W → Calls Tryd.prog 13 #[.agg (tabA t)] W fun e w' => e = .returned (.int .i64 R) ∧ TMD w t x b1 w7.heap.size w') := fun W hW => (HR2.out W).mono fun e w' ⟨he, hb⟩ => ⟨he, (hW.out.grow hb).d⟩
      clear HA0 HR1 HR2
      go_wp2_with (refine store_tab rfl _ _ rfl w7.heap.size x zer rfl rfl (blk_alloc w7 zer) ?_)
      generalize w7.heap.size = b2 at *
      have hm := eq_guard
      have hq0 : ∀ W, (Op.equalIn 10000 24 (.agg (tabA x)) (.agg (tabA x))).run Tryd.prog W = .ok true W := fun W => equal_self x 9997 W
      refine wp_region_noPanic ?_
      refine wp_region_held_drew (S := fun w' => TMD w t x b1 b2 w') (by kernel_rfl) (by exact hg) (fun hHeld => ?_)
      refine wpAnyH_take (i := 0) (v := .int .i64 op) (by simp only [List.getElem?_toArray, List.getElem?_cons_zero, List.getElem?_cons_succ]; rfl) (by kernel_rfl) (by kernel_rfl) (by kernel_rfl) (fun _ _ _ h => h) (Or.inl ⟨by rfl, by intro W hW; go_simp⟩) (by exact hHeld) ?_
      try simp only [Act.put, List.setIfInBounds_toArray, List.set_cons_zero, List.set_cons_succ]
      refine wpAnyH_take (i := 2) (v := .int .i64 0) (by simp only [List.getElem?_toArray, List.getElem?_cons_zero, List.getElem?_cons_succ]; rfl) (by kernel_rfl) (by kernel_rfl) (by kernel_rfl) (fun _ _ _ h => h) (Or.inl ⟨by rfl, by intro W hW; go_simp⟩) (by exact hHeld) ?_
      try simp only [Act.put, List.setIfInBounds_toArray, List.set_cons_zero, List.set_cons_succ]
      refine wpAnyH_ready (rs := [1]) (by kernel_rfl) (by simp) ?_
      refine AllReadyH.cons (by simp only [List.getElem?_toArray, List.getElem?_cons_zero, List.getElem?_cons_succ]; rfl) (fun K hK => ?_) AllReadyH.nil
      go_simp
      refine (HA.out _ hHeld).mono ?_
      rintro e wc1 ⟨rfl, hg1⟩
      clear hHeld
      go_simp
      refine hK.out _ _ (by exact hg1) (fun hHeld => ?_)
      clear hK K
      try simp only [Act.put, List.setIfInBounds_toArray, List.set_cons_zero, List.set_cons_succ]
      refine wpAnyH_take (i := 3) (v := .bool true) (by simp only [List.getElem?_toArray, List.getElem?_cons_zero, List.getElem?_cons_succ]; rfl) (by kernel_rfl) (by kernel_rfl) (by kernel_rfl) (fun _ _ _ h => h) (Or.inl ⟨by rfl, by intro W hW; go_simp⟩) (by exact hHeld) ?_
      try simp only [Act.put, List.setIfInBounds_toArray, List.set_cons_zero, List.set_cons_succ]
      refine wpAnyH_take (i := 4) (v := .bool true) (by simp only [List.getElem?_toArray, List.getElem?_cons_zero, List.getElem?_cons_succ]; rfl) (by kernel_rfl) (by kernel_rfl) (by kernel_rfl) (fun _ _ _ h => h) (Or.inl ⟨by rfl, by intro W hW; go_simp⟩) (by exact hHeld) ?_
      try simp only [Act.put, List.setIfInBounds_toArray, List.set_cons_zero, List.set_cons_succ]
      refine wpAnyH_take (i := 5) (v := .int .i64 E) (by simp only [List.getElem?_toArray, List.getElem?_cons_zero, List.getElem?_cons_succ]; rfl) (by kernel_rfl) (by kernel_rfl) (by kernel_rfl) (fun _ _ _ h => h) (Or.inl ⟨by rfl, by intro W hW; go_simp⟩) (by exact hHeld) ?_
      try simp only [Act.put, List.setIfInBounds_toArray, List.set_cons_zero, List.set_cons_succ]
      refine wpAnyH_take (i := 6) (v := .int .i64 E) (by simp only [List.getElem?_toArray, List.getElem?_cons_zero, List.getElem?_cons_succ]; rfl) (by kernel_rfl) (by kernel_rfl) (by kernel_rfl) (fun _ _ _ h => h) (Or.inl ⟨by rfl, by intro W hW; go_simp⟩) (by exact hHeld) ?_
      try simp only [Act.put, List.setIfInBounds_toArray, List.set_cons_zero, List.set_cons_succ]
      refine wpAnyH_take (i := 7) (v := .bool true) (by simp only [List.getElem?_toArray, List.getElem?_cons_zero, List.getElem?_cons_succ]; rfl) (by kernel_rfl) (by kernel_rfl) (by kernel_rfl) (fun _ _ _ h => h) (Or.inl ⟨by rfl, by intro W hW; go_simp⟩) (by exact hHeld) ?_
      try simp only [Act.put, List.setIfInBounds_toArray, List.set_cons_zero, List.set_cons_succ]
      refine wpAnyH_take (i := 8) (v := .bool true) (by simp only [List.getElem?_toArray, List.getElem?_cons_zero, List.getElem?_cons_succ]; rfl) (by kernel_rfl) (by kernel_rfl) (by kernel_rfl) (fun _ _ _ h => h) (Or.inl ⟨by rfl, by intro W hW; go_simp⟩) (by exact hHeld) ?_
      try simp only [Act.put, List.setIfInBounds_toArray, List.set_cons_zero, List.set_cons_succ]
      refine wpAnyH_take (i := 9) (v := .bool true) (by simp only [List.getElem?_toArray, List.getElem?_cons_zero, List.getElem?_cons_succ]; rfl) (by kernel_rfl) (by kernel_rfl) (by kernel_rfl) (fun _ _ _ h => h) (Or.inl ⟨by rfl, by intro W hW; go_simp⟩) (by exact hHeld) ?_
      try simp only [Act.put, List.setIfInBounds_toArray, List.set_cons_zero, List.set_cons_succ]
      refine wpAnyH_take (i := 10) (v := .string A) (by simp only [List.getElem?_toArray, List.getElem?_cons_zero, List.getElem?_cons_succ]; rfl) (by kernel_rfl) (by kernel_rfl) (by kernel_rfl) (fun _ _ _ h => h) (Or.inl ⟨by rfl, by intro W hW; go_simp⟩) (by exact hHeld) ?_
      try simp only [Act.put, List.setIfInBounds_toArray, List.set_cons_zero, List.set_cons_succ]
      refine wpAnyH_take (i := 11) (v := .string A) (by simp only [List.getElem?_toArray, List.getElem?_cons_zero, List.getElem?_cons_succ]; rfl) (by kernel_rfl) (by kernel_rfl) (by kernel_rfl) (fun _ _ _ h => h) (Or.inl ⟨by rfl, by intro W hW; go_simp⟩) (by exact hHeld) ?_
      try simp only [Act.put, List.setIfInBounds_toArray, List.set_cons_zero, List.set_cons_succ]
      refine wpAnyH_take (i := 12) (v := .bool true) (by simp only [List.getElem?_toArray, List.getElem?_cons_zero, List.getElem?_cons_succ]; rfl) (by kernel_rfl) (by kernel_rfl) (by kernel_rfl) (fun _ _ _ h => h) (Or.inl ⟨by rfl, by intro W hW; go_simp⟩) (by exact hHeld) ?_
      try simp only [Act.put, List.setIfInBounds_toArray, List.set_cons_zero, List.set_cons_succ]
      refine wpAnyH_take (i := 13) (v := .bool true) (by simp only [List.getElem?_toArray, List.getElem?_cons_zero, List.getElem?_cons_succ]; rfl) (by kernel_rfl) (by kernel_rfl) (by kernel_rfl) (fun _ _ _ h => h) (Or.inl ⟨by rfl, by intro W hW; go_simp⟩) (by exact hHeld) ?_
      try simp only [Act.put, List.setIfInBounds_toArray, List.set_cons_zero, List.set_cons_succ]
      refine wpAnyH_take (i := 14) (v := .bool true) (by simp only [List.getElem?_toArray, List.getElem?_cons_zero, List.getElem?_cons_succ]; rfl) (by kernel_rfl) (by kernel_rfl) (by kernel_rfl) (fun _ _ _ h => h) (Or.inl ⟨by rfl, by intro W hW; go_simp⟩) (by exact hHeld) ?_
      try simp only [Act.put, List.setIfInBounds_toArray, List.set_cons_zero, List.set_cons_succ]
      refine wpAnyH_take (i := 15) (v := .int .i64 F) (by simp only [List.getElem?_toArray, List.getElem?_cons_zero, List.getElem?_cons_succ]; rfl) (by kernel_rfl) (by kernel_rfl) (by kernel_rfl) (fun _ _ _ h => h) (Or.inl ⟨by rfl, by intro W hW; go_simp⟩) (by exact hHeld) ?_
      try simp only [Act.put, List.setIfInBounds_toArray, List.set_cons_zero, List.set_cons_succ]
      refine wpAnyH_take (i := 16) (v := .int .i64 F) (by simp only [List.getElem?_toArray, List.getElem?_cons_zero, List.getElem?_cons_succ]; rfl) (by kernel_rfl) (by kernel_rfl) (by kernel_rfl) (fun _ _ _ h => h) (Or.inl ⟨by rfl, by intro W hW; go_simp⟩) (by exact hHeld) ?_
      try simp only [Act.put, List.setIfInBounds_toArray, List.set_cons_zero, List.set_cons_succ]
      refine wpAnyH_take (i := 17) (v := .bool true) (by simp only [List.getElem?_toArray, List.getElem?_cons_zero, List.getElem?_cons_succ]; rfl) (by kernel_rfl) (by kernel_rfl) (by kernel_rfl) (fun _ _ _ h => h) (Or.inl ⟨by rfl, by intro W hW; go_simp⟩) (by exact hHeld) ?_
      try simp only [Act.put, List.setIfInBounds_toArray, List.set_cons_zero, List.set_cons_succ]
      refine wpAnyH_take (i := 18) (v := .bool true) (by simp only [List.getElem?_toArray, List.getElem?_cons_zero, List.getElem?_cons_succ]; rfl) (by kernel_rfl) (by kernel_rfl) (by kernel_rfl) (fun _ _ _ h => h) (Or.inl ⟨by rfl, by intro W hW; go_simp⟩) (by exact hHeld) ?_
      try simp only [Act.put, List.setIfInBounds_toArray, List.set_cons_zero, List.set_cons_succ]
      refine wpAnyH_take (i := 19) (v := .bool true) (by simp only [List.getElem?_toArray, List.getElem?_cons_zero, List.getElem?_cons_succ]; rfl) (by kernel_rfl) (by kernel_rfl) (by kernel_rfl) (fun _ _ _ h => h) (Or.inl ⟨by rfl, by intro W hW; go_simp⟩) (by exact hHeld) ?_
      try simp only [Act.put, List.setIfInBounds_toArray, List.set_cons_zero, List.set_cons_succ]
      refine wpAnyH_take (i := 20) (v := .agg (tabA x)) (by simp only [List.getElem?_toArray, List.getElem?_cons_zero, List.getElem?_cons_succ]; rfl) (by kernel_rfl) (by kernel_rfl) (by kernel_rfl) (fun _ _ _ h => h) (Or.inl ⟨by rfl, by intro W hW; exact load_exec _ rfl b1 rfl x (TMD.out hW).k1⟩) (by exact hHeld) ?_
      try simp only [Act.put, List.setIfInBounds_toArray, List.set_cons_zero, List.set_cons_succ]
      refine wpAnyH_take (i := 21) (v := .agg (tabA x)) (by simp only [List.getElem?_toArray, List.getElem?_cons_zero, List.getElem?_cons_succ]; rfl) (by kernel_rfl) (by kernel_rfl) (by kernel_rfl) (fun _ _ _ h => h) (Or.inl ⟨by rfl, by intro W hW; exact load_exec _ rfl b2 rfl x (TMD.out hW).k2⟩) (by exact hHeld) ?_
      try simp only [Act.put, List.setIfInBounds_toArray, List.set_cons_zero, List.set_cons_succ]
      refine wpAnyH_take (i := 22) (v := .bool true) (by simp only [List.getElem?_toArray, List.getElem?_cons_zero, List.getElem?_cons_succ]; rfl) (by kernel_rfl) (by kernel_rfl) (by kernel_rfl) (fun _ _ _ h => h) (Or.inl ⟨by rfl, by intro W hW; go_simp⟩) (by exact hHeld) ?_
      try simp only [Act.put, List.setIfInBounds_toArray, List.set_cons_zero, List.set_cons_succ]
      refine wpAnyH_take (i := 23) (v := .bool true) (by simp only [List.getElem?_toArray, List.getElem?_cons_zero, List.getElem?_cons_succ]; rfl) (by kernel_rfl) (by kernel_rfl) (by kernel_rfl) (fun _ _ _ h => h) (Or.inl ⟨by rfl, by intro W hW; go_simp⟩) (by exact hHeld) ?_
      try simp only [Act.put, List.setIfInBounds_toArray, List.set_cons_zero, List.set_cons_succ]
      refine wpAnyH_take (i := 24) (v := .bool true) (by simp only [List.getElem?_toArray, List.getElem?_cons_zero, List.getElem?_cons_succ]; rfl) (by kernel_rfl) (by kernel_rfl) (by kernel_rfl) (fun _ _ _ h => h) (Or.inl ⟨by rfl, by intro W hW; go_simp⟩) (by exact hHeld) ?_
      try simp only [Act.put, List.setIfInBounds_toArray, List.set_cons_zero, List.set_cons_succ]
      refine wpAnyH_take (i := 25) (v := .agg (tabA t)) (by simp only [List.getElem?_toArray, List.getElem?_cons_zero, List.getElem?_cons_succ]; rfl) (by kernel_rfl) (by kernel_rfl) (by kernel_rfl) (fun _ _ _ h => h) (Or.inl ⟨by rfl, by intro W hW; exact load_exec _ rfl w.heap.size rfl t (TMD.out hW).k0⟩) (by exact hHeld) ?_
      try simp only [Act.put, List.setIfInBounds_toArray, List.set_cons_zero, List.set_cons_succ]
      refine wpAnyH_take (i := 27) (v := .agg (tabA t)) (by simp only [List.getElem?_toArray, List.getElem?_cons_zero, List.getElem?_cons_succ]; rfl) (by kernel_rfl) (by kernel_rfl) (by kernel_rfl) (fun _ _ _ h => h) (Or.inl ⟨by rfl, by intro W hW; exact load_exec _ rfl w.heap.size rfl t (TMD.out hW).k0⟩) (by exact hHeld) ?_
      try simp only [Act.put, List.setIfInBounds_toArray, List.set_cons_zero, List.set_cons_succ]
      refine wpAnyH_ready (rs := [26]) (by kernel_rfl) (by simp) ?_
      refine AllReadyH.cons (by simp only [List.getElem?_toArray, List.getElem?_cons_zero, List.getElem?_cons_succ]; rfl) (fun K hK => ?_) AllReadyH.nil
      go_simp
      refine (HW1.out _ hHeld).mono ?_
      rintro e wc2 ⟨rfl, hg2⟩
      clear hHeld
      go_simp
      refine hK.out _ _ (by exact hg2) (fun hHeld => ?_)
      clear hK K
      try simp only [Act.put, List.setIfInBounds_toArray, List.set_cons_zero, List.set_cons_succ]
      refine wpAnyH_ready (rs := [28]) (by kernel_rfl) (by simp) ?_
      refine AllReadyH.cons (by simp only [List.getElem?_toArray, List.getElem?_cons_zero, List.getElem?_cons_succ]; rfl) (fun K hK => ?_) AllReadyH.nil
      go_simp
      refine (HW2.out _ hHeld).mono ?_
      rintro e wc3 ⟨rfl, hg3⟩
      clear hHeld
      go_simp
      refine hK.out _ _ (by exact hg3) (fun hHeld => ?_)
      clear hK K
      try simp only [Act.put, List.setIfInBounds_toArray, List.set_cons_zero, List.set_cons_succ]
      refine wpAnyH_take (i := 29) (v := .bool true) (by simp only [List.getElem?_toArray, List.getElem?_cons_zero, List.getElem?_cons_succ]; rfl) (by kernel_rfl) (by kernel_rfl) (by kernel_rfl) (fun _ _ _ h => h) (Or.inl ⟨by rfl, by intro W hW; go_simp⟩) (by exact hHeld) ?_
      try simp only [Act.put, List.setIfInBounds_toArray, List.set_cons_zero, List.set_cons_succ]
      refine wpAnyH_take (i := 30) (v := .bool true) (by simp only [List.getElem?_toArray, List.getElem?_cons_zero, List.getElem?_cons_succ]; rfl) (by kernel_rfl) (by kernel_rfl) (by kernel_rfl) (fun _ _ _ h => h) (Or.inl ⟨by rfl, by intro W hW; go_simp⟩) (by exact hHeld) ?_
      try simp only [Act.put, List.setIfInBounds_toArray, List.set_cons_zero, List.set_cons_succ]
      refine wpAnyH_take (i := 31) (v := .bool true) (by simp only [List.getElem?_toArray, List.getElem?_cons_zero, List.getElem?_cons_succ]; rfl) (by kernel_rfl) (by kernel_rfl) (by kernel_rfl) (fun _ _ _ h => h) (Or.inl ⟨by rfl, by intro W hW; go_simp⟩) (by exact hHeld) ?_
      try simp only [Act.put, List.setIfInBounds_toArray, List.set_cons_zero, List.set_cons_succ]
      refine wpAnyH_done (by kernel_rfl) ?_ _
      refine NoPanic.normal ?_
      go_wp2
      go_ret
      exact ⟨rfl, (TMD.out hHeld).below⟩

set_option maxHeartbeats 8000000 in
set_option maxRecDepth 100000 in
theorem tells_load (t : Nat → Int) (ht : I64 t) (s : ByteArray) (hs : s.size ≤ 281474976710656)  (w : World) (hT : Tabs w) :
    Calls Tryd.prog 3 #[.agg (tabA t), .string s, .int .i64 16] w fun e w' => e = .returned (.bool true) ∧ Below w.heap.size w w' := by
  have HK0 := keep (blk_alloc w t)
  have HB0 := keep ((Below.refl w.heap.size w).alloc (Nat.le_refl _) (.cells (tabA t) 24))
  have HT0 := keep (hT.below HB0.out)
  have HX1 := keep (Tb.text_any t ht)
  have HX2 := keep (Rt.text_any t ht)
  have HP1 := keep (Tb.parse_any s hs)
  have HP2 := keep (Rt.parse_any s hs)
  have HR1 := keep (Tb.wrong_any t ht)
  have HR2 := keep (Rt.wrong_any t ht)
  obtain ⟨A, E, hAE⟩ : ∃ (A : ByteArray) (E : Int), textEnd t = .tuple #[.string A, .int .i64 E] := by
    by_cases h : wrongT t = 0
    · exact ⟨_, _, textEnd_ok h⟩
    · exact ⟨_, _, textEnd_no h⟩
  rw [hAE] at HX1 HX2
  obtain ⟨x, F, hxF⟩ : ∃ (x : Nat → Int) (F : Int), parEnd s.data.toList = .tuple #[.agg (tabA x), .int .i64 F] := ⟨_, _, rfl⟩
  rw [hxF] at HP1 HP2
  generalize wrongT t = R at *
  have HA0 := keep (all_any 16)
  rw [show allV 16 = 3 from rfl] at HA0
  clear hT ht hAE hxF
  go_enter Tryd.func3, Tryd.ntmps3
  go_wp2_with fail
  refine (ops_lies _).mono ?_
  rintro e w1 ⟨rfl, hn, hmb, hb1⟩
  have hsz : (w.alloc (.cells (tabA t) 24)).heap.size = w.heap.size + 1 := by simp
  rw [hsz] at hn hmb
  have HN1 := keep hn
  have HM1 := keep hmb
  have HK1 := keep (HK0.out.below hb1 HK0.out.lt)
  have HT1 := keep (HT0.out.below hb1)
  have HB1 := keep (HB0.out.trans (hb1.mono HB0.out.size))
  clear hn hmb hb1 HK0 HT0 HB0 hsz
  go_wp2_with fail
  refine (names_any _ HT1.out).mono ?_
  rintro e w2 ⟨rfl, rfl⟩
  have hbA := (Below.refl w1.heap.size w1).alloc (Nat.le_refl _) (.cells nmV 9)
  have HV2 : Hid (NmBlk (w1.alloc (.cells nmV 9)) w1.heap.size) := (MapKept.heap_alloc w1 _).1
  have HN2 : Hid (NBlk (w1.alloc (.cells nmV 9)) (w.heap.size + 1)) := blk_below HN1.out hbA (blk_lt HN1.out)
  have HM2 : Hid (MBlk (w1.alloc (.cells nmV 9)) (w.heap.size + 1 + 1)) := blk_below HM1.out hbA (blk_lt HM1.out)
  have HK2 := keep (HK1.out.below hbA HK1.out.lt)
  have HT2 := keep (HT1.out.below hbA)
  have HB2 := keep (HB1.out.trans (hbA.mono HB1.out.size))
  clear hbA HN1 HM1 HK1 HT1 HB1
  go_wp2
  generalize w.heap.size + 1 + 1 = bM at *
  generalize hbN : w.heap.size + 1 = bN at *
  clear hbN
  generalize w1.alloc (.cells nmV 9) = w2 at *
  generalize w1.heap.size = bV at *
  go_loopw [34] (fun i wx => ∃ k : Nat, k ≤ 17 ∧ i = .int .i64 (k : Nat) ∧ wx = w2) (fun i _ => 17 - (intOf i).toNat)
  case atStart => exact ⟨0, by omega, rfl, rfl⟩
  case round =>
    obtain ⟨k, hk, rfl, rfl⟩ := hrel
    by_cases hk17 : k < 17
    · have hkz : (k : Int) < 17 := by omega
      have hc1 := HV2.out.cell k hk17
      have hc2 := HN2.out.cell (k + 1) (by omega) (by omega)
      go_wp2
      go_roundw
      case rel => exact ⟨k + 1, by omega, by go_num, trivial⟩
      case measure => simp [intOf]; omega
    · have hke : k = 17 := by omega
      subst hke
      clear HV2 HN2
      have hcm : wr.cell? ⟨bM, 16, none⟩ = some (.int .i64 1) := HM2.out.cell 16 (by omega)
      clear HM2
      go_wp2_with (refine load_tab rfl _ rfl w.heap.size rfl t HK2.out ?_)
      refine (HX1.out _ HT2.out).mono ?_
      rintro e w3 ⟨rfl, hb3⟩
      have HK3 := keep (HK2.out.below hb3 HK2.out.lt)
      have HT3 := keep (HT2.out.below hb3)
      have HB3 := keep (HB2.out.trans (hb3.mono HB2.out.size))
      clear hb3 HK2 HT2 HB2 HX1
      go_wp2_with (refine load_tab rfl _ rfl w.heap.size rfl t HK3.out ?_)
      refine (HX2.out _ HT3.out).mono ?_
      rintro e w4 ⟨rfl, hb4⟩
      have HK4 := keep (HK3.out.below hb4 HK3.out.lt)
      have HT4 := keep (HT3.out.below hb4)
      have HB4 := keep (HB3.out.trans (hb4.mono HB3.out.size))
      clear hb4 HK3 HT3 HB3 HX2
      go_wp2_with fail
      refine (HP1.out _ HT4.out).mono ?_
      rintro e w5 ⟨rfl, hb5⟩
      have HK5 := keep (HK4.out.below hb5 HK4.out.lt)
      have HT5 := keep (HT4.out.below hb5)
      have HB5 := keep (HB4.out.trans (hb5.mono HB4.out.size))
      clear hb5 HK4 HT4 HB4 HP1
      have hbA : Below w5.heap.size w5 ((w5.alloc (.cells (tabA zer) 24)).setRow w5.heap.size (tabA x)) := below_setRow ((Below.refl _ _).alloc (Nat.le_refl _) _) (Nat.le_refl _) _
      have HQ5 : Hid (Blk ((w5.alloc (.cells (tabA zer) 24)).setRow w5.heap.size (tabA x)) w5.heap.size x) := (blk_alloc w5 zer).row
      have HK6 := keep (HK5.out.below hbA HK5.out.lt)
      have HT6 := keep (HT5.out.below hbA)
      have HB6 := keep (HB5.out.trans (hbA.mono HB5.out.size))
      clear hbA HK5 HT5 HB5
      go_wp2_with (first
        | refine store_tab rfl _ _ rfl w5.heap.size x zer rfl rfl (blk_alloc w5 zer) ?_)
      refine (HP2.out _ HT6.out).mono ?_
      rintro e w7 ⟨rfl, hb7⟩
      have HQ7 := keep (HQ5.out.below hb7 HQ5.out.lt)
      have HK7 := keep (HK6.out.below hb7 HK6.out.lt)
      have HB7 := keep (HB6.out.trans (hb7.mono HB6.out.size))
      clear hb7 HQ5 HK6 HT6 HB6 HP2
      generalize w5.heap.size = b1 at *
      have hbA : Below w7.heap.size w7 ((w7.alloc (.cells (tabA zer) 24)).setRow w7.heap.size (tabA x)) := below_setRow ((Below.refl _ _).alloc (Nat.le_refl _) _) (Nat.le_refl _) _
      have hg0 : TM w t x b1 w7.heap.size ((w7.alloc (.cells (tabA zer) 24)).setRow w7.heap.size (tabA x)) :=
        ⟨HK7.out.below hbA HK7.out.lt, HQ7.out.below hbA HQ7.out.lt, (blk_alloc w7 zer).row, HB7.out.trans (hbA.mono HB7.out.size)⟩
      have hg : TMD w t x b1 w7.heap.size ((w7.alloc (.cells (tabA zer) 24)).setRow w7.heap.size (tabA x)) := hg0.d
      clear hg0 hbA HQ7 HK7 HB7
      have HA : Hid (∀ W, TMD w t x b1 w7.heap.size W → Calls Tryd.prog 11 #[.int .i64 16] W fun e w' => e = .returned (.int .i64 3) ∧ TMD w t x b1 w7.heap.size w') := fun W hW => (HA0.out W).mono fun e w' ⟨he, hw⟩ => ⟨he, by rw [hw]; exact hW⟩
      have HW1 : Hid (∀ W, TMD w t x b1 w7.heap.size W → Calls Tryd.prog 12 #[.agg (tabA t)] W fun e w' => e = .returned (.int .i64 R) ∧ TMD w t x b1 w7.heap.size w') := fun W hW => (HR1.out W).mono fun e w' ⟨he, hb⟩ => ⟨he, (hW.out.grow hb).d⟩
      have HW2 : Hid (∀ W, TMD w t x b1 w7.heap.size W → Calls Tryd.prog 13 #[.agg (tabA t)] W fun e w' => e = .returned (.int .i64 R) ∧ TMD w t x b1 w7.heap.size w') := fun W hW => (HR2.out W).mono fun e w' ⟨he, hb⟩ => ⟨he, (hW.out.grow hb).d⟩
      clear HA0 HR1 HR2
      go_wp2_with (refine store_tab rfl _ _ rfl w7.heap.size x zer rfl rfl (blk_alloc w7 zer) ?_)
      generalize w7.heap.size = b2 at *
      have hm := eq_guard
      have hq0 : ∀ W, (Op.equalIn 10000 24 (.agg (tabA x)) (.agg (tabA x))).run Tryd.prog W = .ok true W := fun W => equal_self x 9997 W
      refine wp_region_noPanic ?_
      refine wp_region_held_drew (S := fun w' => TMD w t x b1 b2 w') (by kernel_rfl) (by exact hg) (fun hHeld => ?_)
      refine wpAnyH_take (i := 0) (v := .int .i64 16) (by simp only [List.getElem?_toArray, List.getElem?_cons_zero, List.getElem?_cons_succ]; rfl) (by kernel_rfl) (by kernel_rfl) (by kernel_rfl) (fun _ _ _ h => h) (Or.inl ⟨by rfl, by intro W hW; go_simp⟩) (by exact hHeld) ?_
      try simp only [Act.put, List.setIfInBounds_toArray, List.set_cons_zero, List.set_cons_succ]
      refine wpAnyH_take (i := 2) (v := .int .i64 3) (by simp only [List.getElem?_toArray, List.getElem?_cons_zero, List.getElem?_cons_succ]; rfl) (by kernel_rfl) (by kernel_rfl) (by kernel_rfl) (fun _ _ _ h => h) (Or.inl ⟨by rfl, by intro W hW; go_simp⟩) (by exact hHeld) ?_
      try simp only [Act.put, List.setIfInBounds_toArray, List.set_cons_zero, List.set_cons_succ]
      refine wpAnyH_ready (rs := [1]) (by kernel_rfl) (by simp) ?_
      refine AllReadyH.cons (by simp only [List.getElem?_toArray, List.getElem?_cons_zero, List.getElem?_cons_succ]; rfl) (fun K hK => ?_) AllReadyH.nil
      go_simp
      refine (HA.out _ hHeld).mono ?_
      rintro e wc1 ⟨rfl, hg1⟩
      clear hHeld
      go_simp
      refine hK.out _ _ (by exact hg1) (fun hHeld => ?_)
      clear hK K
      try simp only [Act.put, List.setIfInBounds_toArray, List.set_cons_zero, List.set_cons_succ]
      refine wpAnyH_take (i := 3) (v := .bool true) (by simp only [List.getElem?_toArray, List.getElem?_cons_zero, List.getElem?_cons_succ]; rfl) (by kernel_rfl) (by kernel_rfl) (by kernel_rfl) (fun _ _ _ h => h) (Or.inl ⟨by rfl, by intro W hW; go_simp⟩) (by exact hHeld) ?_
      try simp only [Act.put, List.setIfInBounds_toArray, List.set_cons_zero, List.set_cons_succ]
      refine wpAnyH_take (i := 4) (v := .bool true) (by simp only [List.getElem?_toArray, List.getElem?_cons_zero, List.getElem?_cons_succ]; rfl) (by kernel_rfl) (by kernel_rfl) (by kernel_rfl) (fun _ _ _ h => h) (Or.inl ⟨by rfl, by intro W hW; go_simp⟩) (by exact hHeld) ?_
      try simp only [Act.put, List.setIfInBounds_toArray, List.set_cons_zero, List.set_cons_succ]
      refine wpAnyH_take (i := 5) (v := .int .i64 E) (by simp only [List.getElem?_toArray, List.getElem?_cons_zero, List.getElem?_cons_succ]; rfl) (by kernel_rfl) (by kernel_rfl) (by kernel_rfl) (fun _ _ _ h => h) (Or.inl ⟨by rfl, by intro W hW; go_simp⟩) (by exact hHeld) ?_
      try simp only [Act.put, List.setIfInBounds_toArray, List.set_cons_zero, List.set_cons_succ]
      refine wpAnyH_take (i := 6) (v := .int .i64 E) (by simp only [List.getElem?_toArray, List.getElem?_cons_zero, List.getElem?_cons_succ]; rfl) (by kernel_rfl) (by kernel_rfl) (by kernel_rfl) (fun _ _ _ h => h) (Or.inl ⟨by rfl, by intro W hW; go_simp⟩) (by exact hHeld) ?_
      try simp only [Act.put, List.setIfInBounds_toArray, List.set_cons_zero, List.set_cons_succ]
      refine wpAnyH_take (i := 7) (v := .bool true) (by simp only [List.getElem?_toArray, List.getElem?_cons_zero, List.getElem?_cons_succ]; rfl) (by kernel_rfl) (by kernel_rfl) (by kernel_rfl) (fun _ _ _ h => h) (Or.inl ⟨by rfl, by intro W hW; go_simp⟩) (by exact hHeld) ?_
      try simp only [Act.put, List.setIfInBounds_toArray, List.set_cons_zero, List.set_cons_succ]
      refine wpAnyH_take (i := 8) (v := .bool true) (by simp only [List.getElem?_toArray, List.getElem?_cons_zero, List.getElem?_cons_succ]; rfl) (by kernel_rfl) (by kernel_rfl) (by kernel_rfl) (fun _ _ _ h => h) (Or.inl ⟨by rfl, by intro W hW; go_simp⟩) (by exact hHeld) ?_
      try simp only [Act.put, List.setIfInBounds_toArray, List.set_cons_zero, List.set_cons_succ]
      refine wpAnyH_take (i := 9) (v := .bool true) (by simp only [List.getElem?_toArray, List.getElem?_cons_zero, List.getElem?_cons_succ]; rfl) (by kernel_rfl) (by kernel_rfl) (by kernel_rfl) (fun _ _ _ h => h) (Or.inl ⟨by rfl, by intro W hW; go_simp⟩) (by exact hHeld) ?_
      try simp only [Act.put, List.setIfInBounds_toArray, List.set_cons_zero, List.set_cons_succ]
      refine wpAnyH_take (i := 10) (v := .string A) (by simp only [List.getElem?_toArray, List.getElem?_cons_zero, List.getElem?_cons_succ]; rfl) (by kernel_rfl) (by kernel_rfl) (by kernel_rfl) (fun _ _ _ h => h) (Or.inl ⟨by rfl, by intro W hW; go_simp⟩) (by exact hHeld) ?_
      try simp only [Act.put, List.setIfInBounds_toArray, List.set_cons_zero, List.set_cons_succ]
      refine wpAnyH_take (i := 11) (v := .string A) (by simp only [List.getElem?_toArray, List.getElem?_cons_zero, List.getElem?_cons_succ]; rfl) (by kernel_rfl) (by kernel_rfl) (by kernel_rfl) (fun _ _ _ h => h) (Or.inl ⟨by rfl, by intro W hW; go_simp⟩) (by exact hHeld) ?_
      try simp only [Act.put, List.setIfInBounds_toArray, List.set_cons_zero, List.set_cons_succ]
      refine wpAnyH_take (i := 12) (v := .bool true) (by simp only [List.getElem?_toArray, List.getElem?_cons_zero, List.getElem?_cons_succ]; rfl) (by kernel_rfl) (by kernel_rfl) (by kernel_rfl) (fun _ _ _ h => h) (Or.inl ⟨by rfl, by intro W hW; go_simp⟩) (by exact hHeld) ?_
      try simp only [Act.put, List.setIfInBounds_toArray, List.set_cons_zero, List.set_cons_succ]
      refine wpAnyH_take (i := 13) (v := .bool true) (by simp only [List.getElem?_toArray, List.getElem?_cons_zero, List.getElem?_cons_succ]; rfl) (by kernel_rfl) (by kernel_rfl) (by kernel_rfl) (fun _ _ _ h => h) (Or.inl ⟨by rfl, by intro W hW; go_simp⟩) (by exact hHeld) ?_
      try simp only [Act.put, List.setIfInBounds_toArray, List.set_cons_zero, List.set_cons_succ]
      refine wpAnyH_take (i := 14) (v := .bool true) (by simp only [List.getElem?_toArray, List.getElem?_cons_zero, List.getElem?_cons_succ]; rfl) (by kernel_rfl) (by kernel_rfl) (by kernel_rfl) (fun _ _ _ h => h) (Or.inl ⟨by rfl, by intro W hW; go_simp⟩) (by exact hHeld) ?_
      try simp only [Act.put, List.setIfInBounds_toArray, List.set_cons_zero, List.set_cons_succ]
      refine wpAnyH_take (i := 15) (v := .int .i64 F) (by simp only [List.getElem?_toArray, List.getElem?_cons_zero, List.getElem?_cons_succ]; rfl) (by kernel_rfl) (by kernel_rfl) (by kernel_rfl) (fun _ _ _ h => h) (Or.inl ⟨by rfl, by intro W hW; go_simp⟩) (by exact hHeld) ?_
      try simp only [Act.put, List.setIfInBounds_toArray, List.set_cons_zero, List.set_cons_succ]
      refine wpAnyH_take (i := 16) (v := .int .i64 F) (by simp only [List.getElem?_toArray, List.getElem?_cons_zero, List.getElem?_cons_succ]; rfl) (by kernel_rfl) (by kernel_rfl) (by kernel_rfl) (fun _ _ _ h => h) (Or.inl ⟨by rfl, by intro W hW; go_simp⟩) (by exact hHeld) ?_
      try simp only [Act.put, List.setIfInBounds_toArray, List.set_cons_zero, List.set_cons_succ]
      refine wpAnyH_take (i := 17) (v := .bool true) (by simp only [List.getElem?_toArray, List.getElem?_cons_zero, List.getElem?_cons_succ]; rfl) (by kernel_rfl) (by kernel_rfl) (by kernel_rfl) (fun _ _ _ h => h) (Or.inl ⟨by rfl, by intro W hW; go_simp⟩) (by exact hHeld) ?_
      try simp only [Act.put, List.setIfInBounds_toArray, List.set_cons_zero, List.set_cons_succ]
      refine wpAnyH_take (i := 18) (v := .bool true) (by simp only [List.getElem?_toArray, List.getElem?_cons_zero, List.getElem?_cons_succ]; rfl) (by kernel_rfl) (by kernel_rfl) (by kernel_rfl) (fun _ _ _ h => h) (Or.inl ⟨by rfl, by intro W hW; go_simp⟩) (by exact hHeld) ?_
      try simp only [Act.put, List.setIfInBounds_toArray, List.set_cons_zero, List.set_cons_succ]
      refine wpAnyH_take (i := 19) (v := .bool true) (by simp only [List.getElem?_toArray, List.getElem?_cons_zero, List.getElem?_cons_succ]; rfl) (by kernel_rfl) (by kernel_rfl) (by kernel_rfl) (fun _ _ _ h => h) (Or.inl ⟨by rfl, by intro W hW; go_simp⟩) (by exact hHeld) ?_
      try simp only [Act.put, List.setIfInBounds_toArray, List.set_cons_zero, List.set_cons_succ]
      refine wpAnyH_take (i := 20) (v := .agg (tabA x)) (by simp only [List.getElem?_toArray, List.getElem?_cons_zero, List.getElem?_cons_succ]; rfl) (by kernel_rfl) (by kernel_rfl) (by kernel_rfl) (fun _ _ _ h => h) (Or.inl ⟨by rfl, by intro W hW; exact load_exec _ rfl b1 rfl x (TMD.out hW).k1⟩) (by exact hHeld) ?_
      try simp only [Act.put, List.setIfInBounds_toArray, List.set_cons_zero, List.set_cons_succ]
      refine wpAnyH_take (i := 21) (v := .agg (tabA x)) (by simp only [List.getElem?_toArray, List.getElem?_cons_zero, List.getElem?_cons_succ]; rfl) (by kernel_rfl) (by kernel_rfl) (by kernel_rfl) (fun _ _ _ h => h) (Or.inl ⟨by rfl, by intro W hW; exact load_exec _ rfl b2 rfl x (TMD.out hW).k2⟩) (by exact hHeld) ?_
      try simp only [Act.put, List.setIfInBounds_toArray, List.set_cons_zero, List.set_cons_succ]
      refine wpAnyH_take (i := 22) (v := .bool true) (by simp only [List.getElem?_toArray, List.getElem?_cons_zero, List.getElem?_cons_succ]; rfl) (by kernel_rfl) (by kernel_rfl) (by kernel_rfl) (fun _ _ _ h => h) (Or.inl ⟨by rfl, by intro W hW; go_simp⟩) (by exact hHeld) ?_
      try simp only [Act.put, List.setIfInBounds_toArray, List.set_cons_zero, List.set_cons_succ]
      refine wpAnyH_take (i := 23) (v := .bool true) (by simp only [List.getElem?_toArray, List.getElem?_cons_zero, List.getElem?_cons_succ]; rfl) (by kernel_rfl) (by kernel_rfl) (by kernel_rfl) (fun _ _ _ h => h) (Or.inl ⟨by rfl, by intro W hW; go_simp⟩) (by exact hHeld) ?_
      try simp only [Act.put, List.setIfInBounds_toArray, List.set_cons_zero, List.set_cons_succ]
      refine wpAnyH_take (i := 24) (v := .bool true) (by simp only [List.getElem?_toArray, List.getElem?_cons_zero, List.getElem?_cons_succ]; rfl) (by kernel_rfl) (by kernel_rfl) (by kernel_rfl) (fun _ _ _ h => h) (Or.inl ⟨by rfl, by intro W hW; go_simp⟩) (by exact hHeld) ?_
      try simp only [Act.put, List.setIfInBounds_toArray, List.set_cons_zero, List.set_cons_succ]
      refine wpAnyH_take (i := 25) (v := .agg (tabA t)) (by simp only [List.getElem?_toArray, List.getElem?_cons_zero, List.getElem?_cons_succ]; rfl) (by kernel_rfl) (by kernel_rfl) (by kernel_rfl) (fun _ _ _ h => h) (Or.inl ⟨by rfl, by intro W hW; exact load_exec _ rfl w.heap.size rfl t (TMD.out hW).k0⟩) (by exact hHeld) ?_
      try simp only [Act.put, List.setIfInBounds_toArray, List.set_cons_zero, List.set_cons_succ]
      refine wpAnyH_take (i := 27) (v := .agg (tabA t)) (by simp only [List.getElem?_toArray, List.getElem?_cons_zero, List.getElem?_cons_succ]; rfl) (by kernel_rfl) (by kernel_rfl) (by kernel_rfl) (fun _ _ _ h => h) (Or.inl ⟨by rfl, by intro W hW; exact load_exec _ rfl w.heap.size rfl t (TMD.out hW).k0⟩) (by exact hHeld) ?_
      try simp only [Act.put, List.setIfInBounds_toArray, List.set_cons_zero, List.set_cons_succ]
      refine wpAnyH_ready (rs := [26]) (by kernel_rfl) (by simp) ?_
      refine AllReadyH.cons (by simp only [List.getElem?_toArray, List.getElem?_cons_zero, List.getElem?_cons_succ]; rfl) (fun K hK => ?_) AllReadyH.nil
      go_simp
      refine (HW1.out _ hHeld).mono ?_
      rintro e wc2 ⟨rfl, hg2⟩
      clear hHeld
      go_simp
      refine hK.out _ _ (by exact hg2) (fun hHeld => ?_)
      clear hK K
      try simp only [Act.put, List.setIfInBounds_toArray, List.set_cons_zero, List.set_cons_succ]
      refine wpAnyH_ready (rs := [28]) (by kernel_rfl) (by simp) ?_
      refine AllReadyH.cons (by simp only [List.getElem?_toArray, List.getElem?_cons_zero, List.getElem?_cons_succ]; rfl) (fun K hK => ?_) AllReadyH.nil
      go_simp
      refine (HW2.out _ hHeld).mono ?_
      rintro e wc3 ⟨rfl, hg3⟩
      clear hHeld
      go_simp
      refine hK.out _ _ (by exact hg3) (fun hHeld => ?_)
      clear hK K
      try simp only [Act.put, List.setIfInBounds_toArray, List.set_cons_zero, List.set_cons_succ]
      refine wpAnyH_take (i := 29) (v := .bool true) (by simp only [List.getElem?_toArray, List.getElem?_cons_zero, List.getElem?_cons_succ]; rfl) (by kernel_rfl) (by kernel_rfl) (by kernel_rfl) (fun _ _ _ h => h) (Or.inl ⟨by rfl, by intro W hW; go_simp⟩) (by exact hHeld) ?_
      try simp only [Act.put, List.setIfInBounds_toArray, List.set_cons_zero, List.set_cons_succ]
      refine wpAnyH_take (i := 30) (v := .bool true) (by simp only [List.getElem?_toArray, List.getElem?_cons_zero, List.getElem?_cons_succ]; rfl) (by kernel_rfl) (by kernel_rfl) (by kernel_rfl) (fun _ _ _ h => h) (Or.inl ⟨by rfl, by intro W hW; go_simp⟩) (by exact hHeld) ?_
      try simp only [Act.put, List.setIfInBounds_toArray, List.set_cons_zero, List.set_cons_succ]
      refine wpAnyH_take (i := 31) (v := .bool true) (by simp only [List.getElem?_toArray, List.getElem?_cons_zero, List.getElem?_cons_succ]; rfl) (by kernel_rfl) (by kernel_rfl) (by kernel_rfl) (fun _ _ _ h => h) (Or.inl ⟨by rfl, by intro W hW; go_simp⟩) (by exact hHeld) ?_
      try simp only [Act.put, List.setIfInBounds_toArray, List.set_cons_zero, List.set_cons_succ]
      refine wpAnyH_done (by kernel_rfl) ?_ _
      refine NoPanic.normal ?_
      go_wp2
      go_ret
      exact ⟨rfl, (TMD.out hHeld).below⟩

theorem tells_any (t : Nat → Int) (ht : I64 t) (s : ByteArray) (hs : s.size ≤ 281474976710656) (op : Int) (w : World) (hT : Tabs w) :
    Calls Tryd.prog 3 #[.agg (tabA t), .string s, .int .i64 op] w fun e w' => e = .returned (.bool true) ∧ Below w.heap.size w w' := by
  by_cases h1 : 1 ≤ op
  · by_cases h2 : op ≤ 17
    · by_cases h3 : op = 16
      · rw [h3]; exact tells_load t ht s hs w hT
      · exact tells_in t ht s hs op h1 h2 h3 w hT
    · exact tells_high t ht s hs op (by omega) w hT
  · exact tells_low t ht s hs op (by omega) w hT

end Go.Proofs.YtkfingahinbdpaaDoor.Rt
