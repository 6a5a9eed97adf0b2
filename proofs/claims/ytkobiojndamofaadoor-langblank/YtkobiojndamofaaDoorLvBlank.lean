/- LangBlank: the way of the law, whatever text is given. Written by tools/gen_blank.py. -/
import Derived.Test.YtkobiojndamofaaDoorLvTurns
namespace Go.Proofs.YtkobiojndamofaaDoor.Lr
set_option linter.unusedVariables false
set_option linter.unusedSimpArgs false
open Go.ChangeShapes Go.WideShapes Go.ChangeAt Go.RowKit Lg

theorem spread_app : ∀ (a b : List UInt8), spread (a ++ b) = spread a ++ spread b
  | [], b => rfl
  | c :: r, b => by
    rw [List.cons_append, spread, spread, spread_app r b]
    by_cases h : brack c = true
    · rw [if_pos h, if_pos h]; rfl
    · rw [if_neg h, if_neg h]; rfl
theorem spread_len : ∀ l : List UInt8, l.length ≤ (spread l).length ∧ (spread l).length ≤ 3 * l.length
  | [] => ⟨Nat.le_refl _, Nat.le_refl _⟩
  | c :: r => by
    have ih := spread_len r
    rw [spread]
    by_cases h : brack c = true
    · rw [if_pos h]; simp only [List.length_cons]; omega
    · rw [if_neg h]; simp only [List.length_cons]; omega
/-- What is spread is read the same. -/
theorem parse_spread (l : List UInt8) (h : (spread l).length ≤ 1200) : parseP (spread l) = parseP l := by
  have := spread_len l
  unfold parseP
  rw [if_neg (by omega), if_neg (by omega), words_spread]
theorem cat_yes (X : List UInt8) (y : UInt8) : ({ data := X.toArray } ++ { data := #[10] } ++ { data := #[y] } ++ { data := #[32] } : ByteArray) = ⟨(X ++ [10, y, 32]).toArray⟩ := by
  apply ByteArray.ext
  simp [ByteArray.data_append]
theorem cat_no (X : List UInt8) (y : UInt8) : ({ data := X.toArray } ++ { data := #[y] } : ByteArray) = ⟨(X ++ [y]).toArray⟩ := by
  apply ByteArray.ext
  simp [ByteArray.data_append]
theorem take_one {α : Type} : ∀ (l : List α) (k : Nat) (y : α), l[k]? = some y → (l.drop k).take 1 = [y]
  | a :: r, 0, y, h => by simp at h; simp [h]
  | a :: r, k + 1, y, h => take_one r k y (by simpa using h)
theorem extract_one (s : ByteArray) (k : Nat) (y : UInt8) (h : s.data.toList[k]? = some y) : s.extract k (k + 1) = ⟨#[y]⟩ := by
  apply ByteArray.ext
  rw [ByteArray.data_extract]
  apply Array.toList_inj.1
  rw [Array.toList_extract, List.extract_eq_take_drop, Nat.add_sub_cancel_left]
  exact take_one _ k y h
theorem byte_of {y : UInt8} {n : Nat} (hn : n < 256) (h : y.toNat = n) : y = UInt8.ofNat n := by
  apply UInt8.toNat_inj.1
  rw [h, UInt8.toNat_ofNat']
  exact (Nat.mod_eq_of_lt hn).symm
theorem brack_yes {y : UInt8} (h : y.toNat = 40 ∨ y.toNat = 41) : brack y = true := by
  rcases h with h | h
  · rw [byte_of (by decide) h]; rfl
  · rw [byte_of (by decide) h]; rfl
theorem brack_no {y : UInt8} (h : ¬ y.toNat = 40) (h' : ¬ y.toNat = 41) : ¬ brack y = true := by
  intro hb
  unfold brack at hb
  rcases (Bool.or_eq_true _ _ ▸ hb : _ ∨ _) with k | k
  · exact h (by rw [beq_iff_eq.1 k]; rfl)
  · exact h' (by rw [beq_iff_eq.1 k]; rfl)
theorem spread_step {l : List UInt8} {k : Nat} {y : UInt8} (h : l[k]? = some y) : spread (l.take (k + 1)) = spread (l.take k) ++ if brack y then [10, y, 32] else [y] := by
  rw [List.take_add_one, h, spread_app]
  congr 1

set_option maxHeartbeats 4000000 in
set_option maxRecDepth 100000 in
theorem blank_any (s : ByteArray) (hs : s.size ≤ 281474976710656) (w : World) (ht : Tabs w) :
    Calls Tryd.prog 4 #[.string s] w fun r w' => r = .returned (.bool true) ∧ Below w.heap.size w w' := by
  have HA : Hid (Calls Tryd.prog 5 #[] w fun r w' => r = .returned (.bool true) ∧ Below w.heap.size w w') := alive_any w ht
  have HT := keep ht
  have HLen : Hid (s.data.toList.length = s.size) := (Lib.size_eq s).symm
  clear ht
  go_enter Tryd.func4, Tryd.ntmps4
  go_wp2_with fail
  refine HA.out.mono ?_
  rintro r w0 ⟨rfl, hb0⟩
  have HT0 := keep (HT.out.up hb0)
  have HB0 := keep hb0
  clear hb0 HA HT
  go_wp2_with fail
  go_loopw [3, 13] (fun t i wx => ∃ k : Nat, k ≤ s.size ∧ i = .int .i64 (k : Int) ∧ t = .string ⟨(spread (s.data.toList.take k)).toArray⟩ ∧ wx = w0) (fun _ i _ => s.size - (intOf i).toNat)
  case atStart => exact ⟨0, by omega, rfl, rfl, rfl⟩
  case round =>
    obtain ⟨k, hk, rfl, rfl, rfl⟩ := hrel
    have HLX := keep (spread_len (s.data.toList.take k)).2
    by_cases hkl : k < s.size
    · have d1 : decide ((k : Int) < (s.size : Int)) = true := decide_eq_true (by omega)
      have hkz : (k : Int) < (s.size : Int) := by omega
      have hk0 : (0 : Int) ≤ (k : Int) := by omega
      obtain ⟨y, hy⟩ : ∃ y : UInt8, s[k] = y := ⟨_, rfl⟩
      have HY : Hid (s.data.toList[k]? = some y) := by rw [← hy]; exact Lib.data_getElem? s k hkl
      have HS := keep (spread_step HY.out)
      have HE := keep (extract_one s k y HY.out)
      have hX : (spread (s.data.toList.take k)).length ≤ 844424930131968 := by
        have h1 := HLX.out
        have h2 : (s.data.toList.take k).length ≤ k := by rw [List.length_take]; omega
        omega
      clear HLX
      generalize spread (s.data.toList.take k) = X at *
      have g0 : ¬ 9223372036854775807 < X.length + (min (k + 1) s.size - k) := by omega
      have g1 : ¬ 9223372036854775807 < X.length + 1 := by omega
      have g2 : ¬ 9223372036854775807 < X.length + 1 + (min (k + 1) s.size - k) := by omega
      have g3 : ¬ 9223372036854775807 < X.length + 1 + (min (k + 1) s.size - k) + 1 := by omega
      by_cases h40 : y.toNat = 40
      · have d40 : ((y.toNat : Int) == 40) = true := beq_iff_eq.2 (by omega)
        rw [if_pos (brack_yes (.inl h40))] at HS
        go_wp2
        go_roundw
        case rel => exact ⟨k + 1, by omega, by go_num, by rw [HE.out, cat_yes, HS.out], trivial⟩
        case measure => simp [intOf]; omega
      · have d40 : ((y.toNat : Int) == 40) = false := beq_eq_false_iff_ne.2 (by omega)
        by_cases h41 : y.toNat = 41
        · have d41 : ((y.toNat : Int) == 41) = true := beq_iff_eq.2 (by omega)
          rw [if_pos (brack_yes (.inr h41))] at HS
          go_wp2
          go_roundw
          case rel => exact ⟨k + 1, by omega, by go_num, by rw [HE.out, cat_yes, HS.out], trivial⟩
          case measure => simp [intOf]; omega
        · have d41 : ((y.toNat : Int) == 41) = false := beq_eq_false_iff_ne.2 (by omega)
          rw [if_neg (brack_no h40 h41)] at HS
          go_wp2
          go_roundw
          case rel => exact ⟨k + 1, by omega, by go_num, by rw [HE.out, cat_no, HS.out], trivial⟩
          case measure => simp [intOf]; omega
    · have hke : k = s.size := by omega
      subst hke
      have dk : decide ((s.size : Int) < (s.size : Int)) = false := decide_eq_false (by omega)
      have HTk : Hid (s.data.toList.take s.size = s.data.toList) := by
        show List.take _ _ = _
        rw [← HLen.out, List.take_length]
      rw [HTk.out]
      clear HTk HLX hkl hk
      have HPS := keep (parse_spread s.data.toList)
      have HSL := keep (spread_len s.data.toList)
      generalize spread s.data.toList = T at *
      have hszT : (⟨T.toArray⟩ : ByteArray).size = T.length := by show Array.size _ = _; simp
      by_cases hb : 1200 < T.length
      · have d2 : decide (1200 < (T.length : Int)) = true := decide_eq_true (by omega)
        clear hb hszT
        go_wp2
        go_ret
        exact ⟨rfl, HB0.out⟩
      · have d2 : decide (1200 < (T.length : Int)) = false := decide_eq_false (by omega)
        obtain ⟨f, x, hp⟩ : ∃ f x, parseP s.data.toList = (f, x) := ⟨_, _, rfl⟩
        have hp2 : parseP T = (f, x) := (HPS.out (by omega)).trans hp
        have HP : Hid (∀ W, Tabs W → _) := fun W hW => parse_parts s hs f x hp W hW
        have HP2 : Hid (∀ W, Tabs W → _) := fun W hW => parse_parts ⟨T.toArray⟩ (by rw [hszT]; omega) f x (by show parseP T.toArray.toList = _; rw [List.toList_toArray]; exact hp2) W hW
        clear hp hp2 HPS HSL hb hszT hs
        go_wp2_with fail
        refine (HP.out _ HT0.out).mono ?_
        rintro r w1 ⟨p1, p2, p3, n1, c1, n2, c2, n3, c3, rfl, hx1, hb1⟩
        have HX1 := keep hx1
        have HB1 := keep (HB0.out.trans (hb1.mono HB0.out.size))
        have HT1 := keep (HT0.out.up hb1)
        have HD := keep (Bk.new w1 [.slice none 0 0, .slice none 0 0, .slice none 0 0] 26)
        clear hx1 hb1 HB0 HT0 HP
        obtain ⟨w2, hw2⟩ : ∃ w2, (w1.alloc (.cells #[.slice none 0 0, .slice none 0 0, .slice none 0 0] 26)).setRow w1.heap.size #[.slice p1 n1 c1, .slice p2 n2 c2, .slice p3 n3 c3] = w2 := ⟨_, rfl⟩
        have HK2 : Hid (Bk w2 w1.heap.size [.slice p1 n1 c1, .slice p2 n2 c2, .slice p3 n3 c3] 26) := by
          show Bk _ _ _ _
          rw [← hw2]; exact setRow_heap _ _ _ _ _ _ HD.out
        have HB2 : Hid (Below w1.heap.size w1 w2) := by
          show Below _ _ _
          rw [← hw2]; exact below_setRow ((Below.refl _ _).alloc (Nat.le_refl _) _) (Nat.le_refl _) _
        go_wp2_with (first
          | refine wpList_store_row rfl 26 (.tmp 5) (.tmp 49) rfl w1.heap.size #[.slice p1 n1 c1, .slice p2 n2 c2, .slice p3 n3 c3] rfl rfl 26 #[.slice none 0 0, .slice none 0 0, .slice none 0 0] HD.out (info_F [.slice p1 n1 c1, .slice p2 n2 c2, .slice p3 n3 c3] rfl) rfl (by simp [Value.oneCell']) ?_
          | rw [hw2])
        have HT2 := keep (HT1.out.up HB2.out)
        refine (HP2.out w2 HT2.out).mono ?_
        rintro r w4 ⟨q1, q2, q3, m1, d1, m2, d2, m3, d3, rfl, hx4, hb4⟩
        have HX4 := keep hx4
        have HB14 := keep (HB2.out.trans (hb4.mono HB2.out.size))
        have HK4 := keep (HK2.out.fs (Fs.of_below (l := []) hb4) (by simp))
        have HX3 := keep (HX1.out.below HB14.out)
        have HD4 := keep (Bk.new w4 [.slice none 0 0, .slice none 0 0, .slice none 0 0] 26)
        clear hx4 hb4 HB2 HT2 HT1 HK2 HX1 HP2 hw2 HD
        obtain ⟨w5, hw5⟩ : ∃ w5, (w4.alloc (.cells #[.slice none 0 0, .slice none 0 0, .slice none 0 0] 26)).setRow w4.heap.size #[.slice q1 m1 d1, .slice q2 m2 d2, .slice q3 m3 d3] = w5 := ⟨_, rfl⟩
        have HK5 : Hid (Bk w5 w4.heap.size [.slice q1 m1 d1, .slice q2 m2 d2, .slice q3 m3 d3] 26) := by
          show Bk _ _ _ _
          rw [← hw5]; exact setRow_heap _ _ _ _ _ _ HD4.out
        have HB45 : Hid (Below w4.heap.size w4 w5) := by
          show Below _ _ _
          rw [← hw5]; exact below_setRow ((Below.refl _ _).alloc (Nat.le_refl _) _) (Nat.le_refl _) _
        have HX5a := keep ((HX3.out.below (HB45.out.mono HB14.out.size)))
        have HX5b := keep (HX4.out.below HB45.out)
        have HK5a := keep (HK4.out.fs (Fs.of_below (l := []) HB45.out) (by simp))
        have HS : Hid (Calls Tryd.prog 8 #[.agg #[.slice p1 n1 c1, .slice p2 n2 c2, .slice p3 n3 c3], .agg #[.slice q1 m1 d1, .slice q2 m2 d2, .slice q3 m3 d3]] w5 fun r w' => r = .returned (.bool true) ∧ Below w5.heap.size w5 w') := by
          refine (sameF_any w4.heap.size 10 11 f f _ _ w5 HB45.out.size ?_ HX5b.out).mono ?_
          · exact HX5a.out.wide HB14.out.size
          · rintro r w' ⟨v, rfl, hv, hb⟩
            rw [hv.2 rfl]; exact ⟨rfl, hb⟩
        have a0 := HK5a.out.cell 0 rfl
        have a1 := HK5a.out.cell 1 rfl
        have a2 := HK5a.out.cell 2 rfl
        have b0 := HK5.out.cell 0 rfl
        have b1 := HK5.out.cell 1 rfl
        have b2 := HK5.out.cell 2 rfl
        have HBB := keep ((HB1.out.trans (HB14.out.mono HB1.out.size)).trans (HB45.out.mono (Nat.le_trans HB1.out.size HB14.out.size)))
        clear HX3 HX4 HX5a HX5b HK4 HK5 HK5a HB14 HB1 HB45
        go_wp2_with (first
          | refine wpList_store_row rfl 26 (.tmp 7) (.tmp 54) rfl w4.heap.size #[.slice q1 m1 d1, .slice q2 m2 d2, .slice q3 m3 d3] rfl rfl 26 #[.slice none 0 0, .slice none 0 0, .slice none 0 0] HD4.out (info_F [.slice q1 m1 d1, .slice q2 m2 d2, .slice q3 m3 d3] rfl) rfl (by simp [Value.oneCell']) ?_
          | rw [hw5])
        refine HS.out.mono ?_
        rintro r w6 ⟨rfl, hb6⟩
        clear a0 a1 a2 b0 b1 b2 hw5 HD4 HS
        go_wp2
        go_ret
        exact ⟨rfl, HBB.out.trans (hb6.mono HBB.out.size)⟩
end Go.Proofs.YtkobiojndamofaaDoor.Lr
