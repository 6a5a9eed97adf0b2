/- TableTurns: the way of the law, whatever is given. -/
import Derived.Test.YtkfingahinbdpaaDoorTbSame
namespace Go.Proofs.YtkfingahinbdpaaDoor.Tb
set_option linter.unusedVariables false
open Go.ChangeShapes Go.WideShapes Go.ChangeAt Go.RowKit

/-- The table that the closed fact speaks of. -/
def t0 : Nat → Int := upd (upd zer 8 3) 13 1
theorem t0_right : wrongT t0 = 0 := by decide
theorem t0_64 : I64 t0 := fun k => by
  unfold t0 upd zer
  split
  · omega
  · split <;> omega
theorem t0_line (op : Nat) (h8 : op ≠ 8) (h13 : op ≠ 13) : lineOf op (t0 op) = [] := by
  unfold t0 upd
  rw [if_neg h13, if_neg h8]
  rfl
theorem t0_text : text t0 = [109, 117, 108, 32, 51, 10, 115, 101, 108, 32, 49, 10] := by
  have e8 : lineOf 8 (t0 8) = [109, 117, 108, 32, 51, 10] := by
    show lineOf 8 3 = _
    unfold lineOf
    rw [itoa_small 3 (by omega) (by omega)]
    rfl
  have e13 : lineOf 13 (t0 13) = [115, 101, 108, 32, 49, 10] := by
    show lineOf 13 1 = _
    unfold lineOf
    rw [itoa_small 1 (by omega) (by omega)]
    rfl
  unfold text
  simp only [txt]
  simp [e8, e13, t0_line]
theorem t0_parse : parL 0 zer [109, 117, 108, 32, 51, 10, 115, 101, 108, 32, 49, 10] = (0, t0) := by
  rw [← t0_text]
  refine there_back t0_right fun k hk => ?_
  unfold t0 upd
  rw [if_neg (by omega), if_neg (by omega)]
  rfl

set_option maxHeartbeats 4000000 in
set_option maxRecDepth 100000 in
theorem alive_any (w : World) (hT : Tabs w) :
    Calls Tryd.prog 14 #[] w fun e w' => e = .returned (.bool true) ∧ Below w.heap.size w w' := by
  have HT := keep hT
  have HP : Hid (∀ W, Tabs W → Calls Tryd.prog 9 #[.string ⟨#[109, 117, 108, 32, 51, 10, 115, 101, 108, 32, 49, 10]⟩] W fun e w' => e = .returned (.tuple #[.agg (tabA t0), .int .i64 0]) ∧ Below W.heap.size W w') := fun W hW => by
    refine (parse_any ⟨#[109, 117, 108, 32, 51, 10, 115, 101, 108, 32, 49, 10]⟩ (by decide) W hW).mono ?_
    rintro e w' ⟨rfl, hb⟩
    refine ⟨?_, hb⟩
    unfold parEnd
    rw [t0_parse]
  have HX : Hid (∀ W, Tabs W → Calls Tryd.prog 7 #[.agg (tabA t0)] W fun e w' => e = .returned (.tuple #[.string ⟨#[109, 117, 108, 32, 51, 10, 115, 101, 108, 32, 49, 10]⟩, .int .i64 0]) ∧ Below W.heap.size W w') := fun W hW => by
    refine (text_any t0 t0_64 W hW).mono ?_
    rintro e w' ⟨rfl, hb⟩
    refine ⟨?_, hb⟩
    rw [textEnd_ok t0_right, t0_text]
  have HW : Hid (∀ W, Calls Tryd.prog 12 #[.agg (tabA t0)] W fun e w' => e = .returned (.int .i64 0) ∧ Below W.heap.size W w') := fun W => by
    have := wrong_any t0 t0_64 W
    rw [t0_right] at this
    exact this
  clear hT
  go_enter Tryd.func14, Tryd.ntmps14
  go_wp2_with fail
  refine (HP.out _ HT.out).mono ?_
  rintro e w1 ⟨rfl, hb1⟩
  have HB1 := keep hb1
  have HT1 := keep (HT.out.below hb1)
  clear hb1 HT HP
  go_wp2_with (first
    | refine wpList_store_row rfl 24 _ _ rfl w1.heap.size (tabA t0) rfl rfl 24 (tabA zer) (blk_alloc w1 zer) (tab_info t0) rfl (tab_one t0) ?_
    | refine wpList_load_row rfl 24 _ rfl w1.heap.size rfl 24 (tabA t0) (0, 0) _ (blk_alloc w1 zer).row Tryd.underlying24 rfl (tab_info t0) ?_)
  have HK2 : Hid (Blk ((w1.alloc (.cells (tabA zer) 24)).setRow w1.heap.size (tabA t0)) w1.heap.size t0) := (blk_alloc w1 zer).row
  have HB2 : Hid (Below w1.heap.size w1 ((w1.alloc (.cells (tabA zer) 24)).setRow w1.heap.size (tabA t0))) := below_setRow ((Below.refl _ _).alloc (Nat.le_refl _) _) (Nat.le_refl _) _
  have HT2 := keep (HT1.out.below HB2.out)
  have HB3 := keep (HB1.out.trans (HB2.out.mono HB1.out.size))
  clear HB1 HB2 HT1
  refine (HX.out _ HT2.out).mono ?_
  rintro e w3 ⟨rfl, hb3⟩
  have HK3 := keep (HK2.out.below hb3 HK2.out.lt)
  have HT3 := keep (HT2.out.below hb3)
  have HB4 := keep (HB3.out.trans (hb3.mono HB3.out.size))
  clear hb3 HK2 HT2 HB3 HX
  generalize w1.heap.size = b at *
  have hc8 : w3.cell? ⟨b, 8, none⟩ = some (.int .i64 3) := HK3.out.lies 8 (by decide)
  have hc13 : w3.cell? ⟨b, 13, none⟩ = some (.int .i64 1) := HK3.out.lies 13 (by decide)
  go_wp2_with fail
  refine (all_any 13 _).mono ?_
  rintro e w4 ⟨rfl, rfl⟩
  rw [show allV 13 = 7 from rfl]
  go_wp2_with fail
  refine (names_any _ HT3.out).mono ?_
  rintro e w5 ⟨rfl, rfl⟩
  have HK5 := keep (HK3.out.alloc (.cells nmV 9))
  have HB5 := keep (HB4.out.alloc HB4.out.size (.cells nmV 9))
  clear hc8 hc13 HK3 HT3 HB4
  generalize w4.alloc (.cells nmV 9) = w5 at *
  go_wp2_with (first
    | refine load_want rfl _ rfl b rfl t0 HK5.out ?_)
  refine (HW.out _).mono ?_
  rintro e w6 ⟨rfl, hb6⟩
  go_wp2
  go_ret
  exact ⟨rfl, HB5.out.trans (hb6.mono HB5.out.size)⟩

theorem eq_guard : Tryd.prog.eqGuardType Tryd.prog.depth 24 = false := by kernel_rfl
/-- What is read is made of numbers of 64 bits. -/
theorem read_64 {s : List UInt8} (h : (parL 0 zer s).1 = 0) : I64 (parL 0 zer s).2 := fun k => by
  obtain ⟨_, h1, h2⟩ := back_there h
  by_cases hk : 18 ≤ k
  · rw [h2 k hk]; omega
  · by_cases h0 : k = 0
    · rw [h0, (right_facts h1).1]; omega
    · obtain ⟨f1, f2⟩ := (right_facts h1).2 k (by omega) (by omega)
      have := most_le k
      omega
theorem zer_64 : I64 zer := fun k => by unfold zer; omega
theorem bytes_self (s : ByteArray) : (⟨s.data.toList.toArray⟩ : ByteArray) = s := by simp

set_option maxHeartbeats 4000000 in
set_option maxRecDepth 100000 in
theorem turns_wrong (t : Nat → Int) (ht : I64 t) (hw : ¬ wrongT t = 0) (s : ByteArray) (hs : s.size ≤ 281474976710656) (w : World) (hT : Tabs w) :
    Calls Tryd.prog 4 #[.agg (tabA t), .string s] w fun e w' => e = .returned (.bool true) ∧ Below w.heap.size w w' := by
  have HT := keep hT
  have HK0 := keep (blk_alloc w t)
  have HB0 := keep ((Below.refl w.heap.size w).alloc (Nat.le_refl _) (.cells (tabA t) 24))
  have HT0 := keep (hT.below HB0.out)
  have HW := keep (wrong_any t ht)
  clear hT ht
  go_enter Tryd.func4, Tryd.ntmps4
  go_wp2_with fail
  refine (alive_any _ HT0.out).mono ?_
  rintro e w1 ⟨rfl, hb1⟩
  have HK1 := keep (HK0.out.below hb1 HK0.out.lt)
  have HT1 := keep (HT0.out.below hb1)
  have HB1 := keep (HB0.out.trans (hb1.mono HB0.out.size))
  clear hb1 HK0 HT0 HB0
  go_wp2_with (refine load_tab rfl _ rfl w.heap.size rfl t HK1.out ?_)
  refine (HW.out _).mono ?_
  rintro e w2 ⟨rfl, hb2⟩
  have HT2 := keep (HT1.out.below hb2)
  have HB2 := keep (HB1.out.trans (hb2.mono HB1.out.size))
  have hwb : (wrongT t == 0) = false := by simpa using hw
  clear hb2 HT1 HB1 HK1 HW hw
  generalize wrongT t = e at *
  go_wp2_with fail
  refine (parse_any s hs _ HT2.out).mono ?_
  rintro e' w3 ⟨rfl, hb3⟩
  have HT3 := keep (HT2.out.below hb3)
  have HB3 := keep (HB2.out.trans (hb3.mono HB2.out.size))
  clear hb3 HT2 HB2
  unfold parEnd
  by_cases h0 : (parL 0 zer s.data.toList).1 = 0
  · rw [h0]
    obtain ⟨g1, g2, g3⟩ := back_there h0
    have HX := keep (text_any _ (read_64 h0))
    rw [textEnd_ok g2, g1, bytes_self] at HX
    clear g1 g2 g3 h0
    generalize (parL 0 zer s.data.toList).2 = x at *
    have HK4 : Hid (Blk ((w3.alloc (.cells (tabA zer) 24)).setRow w3.heap.size (tabA x)) w3.heap.size x) := (blk_alloc w3 zer).row
    have HB4 : Hid (Below w3.heap.size w3 ((w3.alloc (.cells (tabA zer) 24)).setRow w3.heap.size (tabA x))) := below_setRow ((Below.refl _ _).alloc (Nat.le_refl _) _) (Nat.le_refl _) _
    have HT4 := keep (HT3.out.below HB4.out)
    go_wp2_with (first
      | refine store_tab rfl _ _ rfl w3.heap.size x zer rfl rfl (blk_alloc w3 zer) ?_
      | refine load_tab rfl _ rfl w3.heap.size rfl x HK4.out ?_)
    refine (HX.out _ HT4.out).mono ?_
    rintro e' w5 ⟨rfl, hb5⟩
    have HB5 := keep (HB3.out.trans ((HB4.out.trans (hb5.mono HB4.out.size)).mono HB3.out.size))
    clear hb5 HB4 HT4 HK4
    go_wp2
    go_ret
    exact ⟨rfl, HB5.out⟩
  · have hz := parL_zero 0 zer s.data.toList h0
    rw [hz]
    have h0b : ((parL 0 zer s.data.toList).1 != 0) = true := by simpa using h0
    generalize (parL 0 zer s.data.toList).1 = e2 at *
    have HK4 : Hid (Blk ((w3.alloc (.cells (tabA zer) 24)).setRow w3.heap.size (tabA zer)) w3.heap.size zer) := (blk_alloc w3 zer).row
    have HB4 : Hid (Below w3.heap.size w3 ((w3.alloc (.cells (tabA zer) 24)).setRow w3.heap.size (tabA zer))) := below_setRow ((Below.refl _ _).alloc (Nat.le_refl _) _) (Nat.le_refl _) _
    clear hz h0
    have hm := eq_guard
    have hq : ∀ W, (Op.equalIn 10000 24 (.agg (tabA zer)) (.agg #[.int .i64 0, .int .i64 0, .int .i64 0, .int .i64 0, .int .i64 0, .int .i64 0, .int .i64 0, .int .i64 0, .int .i64 0, .int .i64 0, .int .i64 0, .int .i64 0, .int .i64 0, .int .i64 0, .int .i64 0, .int .i64 0, .int .i64 0, .int .i64 0])).run Tryd.prog W = .ok true W := fun W => equal_self zer 9997 W
    go_wp2_with (first
      | refine store_tab rfl _ _ rfl w3.heap.size zer zer rfl rfl (blk_alloc w3 zer) ?_
      | refine load_tab rfl _ rfl w3.heap.size rfl zer HK4.out ?_)
    go_ret
    exact ⟨rfl, HB3.out.trans (HB4.out.mono HB3.out.size)⟩
set_option maxHeartbeats 4000000 in
set_option maxRecDepth 100000 in
theorem turns_right (t : Nat → Int) (ht : I64 t) (h18 : ∀ k, 18 ≤ k → t k = 0) (hw : wrongT t = 0) (s : ByteArray) (hs : s.size ≤ 281474976710656) (w : World) (hT : Tabs w) :
    Calls Tryd.prog 4 #[.agg (tabA t), .string s] w fun e w' => e = .returned (.bool true) ∧ Below w.heap.size w w' := by
  have HT := keep hT
  have HK0 := keep (blk_alloc w t)
  have HB0 := keep ((Below.refl w.heap.size w).alloc (Nat.le_refl _) (.cells (tabA t) 24))
  have HT0 := keep (hT.below HB0.out)
  have HW := keep (wrong_any t ht)
  have HX := keep (text_any t ht)
  have HPA := keep (parse_any ⟨(text t).toArray⟩ (by rw [size_mk]; have := txt_small hw 17 1 (by omega) (by omega); unfold text; omega))
  rw [textEnd_ok hw] at HX
  unfold parEnd at HPA
  rw [there_back hw h18] at HPA
  clear hT ht
  go_enter Tryd.func4, Tryd.ntmps4
  go_wp2_with fail
  refine (alive_any _ HT0.out).mono ?_
  rintro e w1 ⟨rfl, hb1⟩
  have HK1 := keep (HK0.out.below hb1 HK0.out.lt)
  have HT1 := keep (HT0.out.below hb1)
  have HB1 := keep (HB0.out.trans (hb1.mono HB0.out.size))
  clear hb1 HK0 HT0 HB0
  go_wp2_with (refine load_tab rfl _ rfl w.heap.size rfl t HK1.out ?_)
  refine (HW.out _).mono ?_
  rintro e w2 ⟨rfl, hb2⟩
  have HT2 := keep (HT1.out.below hb2)
  have HB2 := keep (HB1.out.trans (hb2.mono HB1.out.size))
  have HK2 := keep (HK1.out.below hb2 HK1.out.lt)
  rw [hw]
  clear hb2 HT1 HB1 HK1 HW hw
  go_wp2_with (refine load_tab rfl _ rfl w.heap.size rfl t HK2.out ?_)
  refine (HX.out _ HT2.out).mono ?_
  rintro e' w21 ⟨rfl, hb21⟩
  have HT21 := keep (HT2.out.below hb21)
  have HB21 := keep (HB2.out.trans (hb21.mono HB2.out.size))
  have HK21 := keep (HK2.out.below hb21 HK2.out.lt)
  clear hb21 HT2 HB2 HK2 HX
  go_wp2_with fail
  refine (HPA.out _ HT21.out).mono ?_
  rintro e' w22 ⟨rfl, hb22⟩
  have HT22 := keep (HT21.out.below hb22)
  have HB22 := keep (HB21.out.trans (hb22.mono HB21.out.size))
  have HK22 := keep (HK21.out.below hb22 HK21.out.lt)
  clear hb22 HT21 HB21 HK21 HPA
  have hm := eq_guard
  have hq0 : ∀ W, (Op.equalIn 10000 24 (.agg (tabA t)) (.agg (tabA t))).run Tryd.prog W = .ok true W := fun W => equal_self t 9997 W
  have HB23 : Hid (Below w22.heap.size w22 ((w22.alloc (.cells (tabA zer) 24)).setRow w22.heap.size (tabA t))) := below_setRow ((Below.refl _ _).alloc (Nat.le_refl _) _) (Nat.le_refl _) _
  have HK23 : Hid (Blk ((w22.alloc (.cells (tabA zer) 24)).setRow w22.heap.size (tabA t)) w22.heap.size t) := (blk_alloc w22 zer).row
  have HK24 := keep (HK22.out.below HB23.out HK22.out.lt)
  have HT23 := keep (HT22.out.below HB23.out)
  have HB24 := keep (HB22.out.trans (HB23.out.mono HB22.out.size))
  clear HB23 HT22 HB22 HK22
  go_wp2_with (first
    | refine store_tab rfl _ _ rfl w22.heap.size t zer rfl rfl (blk_alloc w22 zer) ?_
    | refine load_want rfl _ rfl w22.heap.size rfl t HK23.out ?_
    | refine load_want rfl _ rfl w.heap.size rfl t HK24.out ?_)
  refine (parse_any s hs _ HT23.out).mono ?_
  rintro e' w3 ⟨rfl, hb3⟩
  have HT3 := keep (HT23.out.below hb3)
  have HB3 := keep (HB24.out.trans (hb3.mono HB24.out.size))
  clear hb3 HT23 HB24 HK23 HK24 hq0 hm
  unfold parEnd
  by_cases h0 : (parL 0 zer s.data.toList).1 = 0
  · rw [h0]
    obtain ⟨g1, g2, g3⟩ := back_there h0
    have HX := keep (text_any _ (read_64 h0))
    rw [textEnd_ok g2, g1, bytes_self] at HX
    clear g1 g2 g3 h0
    generalize (parL 0 zer s.data.toList).2 = x at *
    have HK4 : Hid (Blk ((w3.alloc (.cells (tabA zer) 24)).setRow w3.heap.size (tabA x)) w3.heap.size x) := (blk_alloc w3 zer).row
    have HB4 : Hid (Below w3.heap.size w3 ((w3.alloc (.cells (tabA zer) 24)).setRow w3.heap.size (tabA x))) := below_setRow ((Below.refl _ _).alloc (Nat.le_refl _) _) (Nat.le_refl _) _
    have HT4 := keep (HT3.out.below HB4.out)
    go_wp2_with (first
      | refine store_tab rfl _ _ rfl w3.heap.size x zer rfl rfl (blk_alloc w3 zer) ?_
      | refine load_tab rfl _ rfl w3.heap.size rfl x HK4.out ?_)
    refine (HX.out _ HT4.out).mono ?_
    rintro e' w5 ⟨rfl, hb5⟩
    have HB5 := keep (HB3.out.trans ((HB4.out.trans (hb5.mono HB4.out.size)).mono HB3.out.size))
    clear hb5 HB4 HT4 HK4
    go_wp2
    go_ret
    exact ⟨rfl, HB5.out⟩
  · have hz := parL_zero 0 zer s.data.toList h0
    rw [hz]
    have h0b : ((parL 0 zer s.data.toList).1 != 0) = true := by simpa using h0
    generalize (parL 0 zer s.data.toList).1 = e2 at *
    have HK4 : Hid (Blk ((w3.alloc (.cells (tabA zer) 24)).setRow w3.heap.size (tabA zer)) w3.heap.size zer) := (blk_alloc w3 zer).row
    have HB4 : Hid (Below w3.heap.size w3 ((w3.alloc (.cells (tabA zer) 24)).setRow w3.heap.size (tabA zer))) := below_setRow ((Below.refl _ _).alloc (Nat.le_refl _) _) (Nat.le_refl _) _
    clear hz h0
    have hm := eq_guard
    have hq : ∀ W, (Op.equalIn 10000 24 (.agg (tabA zer)) (.agg #[.int .i64 0, .int .i64 0, .int .i64 0, .int .i64 0, .int .i64 0, .int .i64 0, .int .i64 0, .int .i64 0, .int .i64 0, .int .i64 0, .int .i64 0, .int .i64 0, .int .i64 0, .int .i64 0, .int .i64 0, .int .i64 0, .int .i64 0, .int .i64 0])).run Tryd.prog W = .ok true W := fun W => equal_self zer 9997 W
    go_wp2_with (first
      | refine store_tab rfl _ _ rfl w3.heap.size zer zer rfl rfl (blk_alloc w3 zer) ?_
      | refine load_tab rfl _ rfl w3.heap.size rfl zer HK4.out ?_)
    go_ret
    exact ⟨rfl, HB3.out.trans (HB4.out.mono HB3.out.size)⟩

theorem turns_any (t : Nat → Int) (ht : I64 t) (h18 : ∀ k, 18 ≤ k → t k = 0) (s : ByteArray) (hs : s.size ≤ 281474976710656) (w : World) (hT : Tabs w) :
    Calls Tryd.prog 4 #[.agg (tabA t), .string s] w fun e w' => e = .returned (.bool true) ∧ Below w.heap.size w w' := by
  by_cases hw : wrongT t = 0
  · exact turns_right t ht h18 hw s hs w hT
  · exact turns_wrong t ht hw s hs w hT
end Go.Proofs.YtkfingahinbdpaaDoor.Tb
