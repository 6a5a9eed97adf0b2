/- WordTells: the way of the law, whatever is given. -/
import Derived.Test.YtcjjadcmkmphjaaDoorRfNum
import Derived.Test.YtcjjadcmkmphjaaDoorRfMap
namespace Go.Proofs.YtcjjadcmkmphjaaDoor.Rf
set_option linter.unusedVariables false
open Go.ChangeShapes Go.WideShapes Go.ChangeAt Go.RowKit

/-- Two answers of one op, held against each other: whichever they are, they are the same. -/
theorem tells_rest (op a b c : Int) (s : ByteArray) (hs : s.size ≤ 281474976710656) (x f : Int) (w : World) (ht : Tabs w)
    (h1 : ∀ w, Calls Tryd.prog 4 #[.int .i64 op, .int .i64 a, .int .i64 b] w fun e w' => e = .returned (.tuple #[.int .i64 x, .int .i64 f]) ∧ w' = w)
    (h2 : ∀ w, Calls Tryd.prog 5 #[.int .i64 op, .int .i64 a, .int .i64 b] w fun e w' => e = .returned (.tuple #[.int .i64 x, .int .i64 f]) ∧ Below w.heap.size w w') :
    Calls Tryd.prog 3 #[.int .i64 op, .int .i64 a, .int .i64 b, .int .i64 c, .string s] w fun e w' => e = .returned (.bool true) ∧ Below w.heap.size w w' := by
  have hmax : s.size ≤ maxLen := by unfold maxLen; omega
  have H1 := Wd.keep h1
  have H2 := Wd.keep h2
  have HT := Wd.keep ht
  clear h1 h2 ht
  have hI : ∃ d0 d1 : Bool, decide (0 ≤ a) = d0 ∧ decide (a < 4294967296) = d1 ∧ ∀ w, Calls Tryd.prog 10 #[.int .i64 a] w fun e w' => e = .returned (.bool (d0 && d1)) ∧ w' = w := by
    by_cases g0 : 0 ≤ a
    · by_cases g1 : a < 4294967296
      · exact ⟨true, true, by simpa using g0, by simpa using g1, fun w => Wd.is_yes a g0 (by omega) w⟩
      · exact ⟨true, false, by simpa using g0, by simpa using g1, fun w => Wd.is_no a (by omega) w⟩
    · exact ⟨false, decide (a < 4294967296), by simpa using g0, rfl, fun w => by simpa using Wd.is_no a (by omega) w⟩
  obtain ⟨d0, d1, e0, e1, hI⟩ := hI
  have HI := Wd.keep hI
  clear hI
  cases d0 <;> cases d1
  all_goals
    cases hn : Wd.isNum s.data.toList
    · have HV := Wd.keep (Wd.numV_no hn)
      have HN := Wd.keep hn
      clear hn
      go_enter Tryd.func3, Tryd.ntmps3
      go_wp2_with fail
      refine (H1.out _).mono ?_
      rintro e w1 ⟨rfl, rfl⟩
      go_wp2_with fail
      refine (H2.out _).mono ?_
      rintro e w2 ⟨rfl, hb2⟩
      have HB2 := Wd.keep hb2
      have HT2 := Wd.keep (HT.out.below hb2)
      clear hb2
      go_wp2_with fail
      refine (Wd.number_any s _ hmax).mono ?_
      rintro e w3 ⟨rfl, rfl⟩
      rw [HN.out, HV.out]
      go_wp2_with fail
      refine (number_any s hs _ HT2.out).mono ?_
      rintro e w4 ⟨⟨m, rfl, hm⟩, hb4⟩
      have HB4 := Wd.keep (HB2.out.trans (hb4.mono HB2.out.size))
      clear hb4
      clear hm
      rw [HN.out]
      go_wp2_with fail
      refine (Wd.sel_any a b c _).mono ?_
      rintro e w5 ⟨rfl, rfl⟩
      go_wp2_with fail
      refine (sel_any a b c _).mono ?_
      rintro e w6 ⟨rfl, rfl⟩
      go_wp2_with fail
      refine (HI.out _).mono ?_
      rintro e w7 ⟨rfl, rfl⟩
      go_wp2
      go_ret
      exact ⟨rfl, HB4.out⟩
    · have HV := Wd.keep (Wd.numV_yes hn)
      have HN := Wd.keep hn
      clear hn
      go_enter Tryd.func3, Tryd.ntmps3
      go_wp2_with fail
      refine (H1.out _).mono ?_
      rintro e w1 ⟨rfl, rfl⟩
      go_wp2_with fail
      refine (H2.out _).mono ?_
      rintro e w2 ⟨rfl, hb2⟩
      have HB2 := Wd.keep hb2
      have HT2 := Wd.keep (HT.out.below hb2)
      clear hb2
      go_wp2_with fail
      refine (Wd.number_any s _ hmax).mono ?_
      rintro e w3 ⟨rfl, rfl⟩
      rw [HN.out, HV.out]
      go_wp2_with fail
      refine (number_any s hs _ HT2.out).mono ?_
      rintro e w4 ⟨⟨m, rfl, hm⟩, hb4⟩
      have HB4 := Wd.keep (HB2.out.trans (hb4.mono HB2.out.size))
      clear hb4
      obtain rfl := hm HN.out
      clear hm
      rw [HN.out]
      go_wp2_with fail
      refine (Wd.sel_any a b c _).mono ?_
      rintro e w5 ⟨rfl, rfl⟩
      go_wp2_with fail
      refine (sel_any a b c _).mono ?_
      rintro e w6 ⟨rfl, rfl⟩
      go_wp2_with fail
      refine (HI.out _).mono ?_
      rintro e w7 ⟨rfl, rfl⟩
      go_wp2
      go_ret
      exact ⟨rfl, HB4.out⟩

theorem tells_any (op a b c : Int) (s : ByteArray) (hs : s.size ≤ 281474976710656) (w : World) (ht : Tabs w) :
    Calls Tryd.prog 3 #[.int .i64 op, .int .i64 a, .int .i64 b, .int .i64 c, .string s] w fun e w' => e = .returned (.bool true) ∧ Below w.heap.size w w' := by
  by_cases h : op < 1 ∨ 12 < op
  · exact tells_rest op a b c s hs 0 1 w ht (fun w => Wd.two_no op a b h w) (fun w => two_no op a b h w)
  · exact tells_rest op a b c s hs (Wd.two op a b) 0 w ht (fun w => Wd.two_yes op a b (by omega) (by omega) w) (fun w => two_yes op a b (by omega) (by omega) w)
end Go.Proofs.YtcjjadcmkmphjaaDoor.Rf
