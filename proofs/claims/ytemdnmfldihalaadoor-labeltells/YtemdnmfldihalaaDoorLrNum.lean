/- The document's own reader: numbers. -/
import Derived.Test.YtemdnmfldihalaaDoorLrAll
import Derived.Test.YtemdnmfldihalaaDoorRfNum
namespace Go.Proofs.YtemdnmfldihalaaDoor.Lr
set_option linter.unusedVariables false
open Go.ChangeShapes Go.WideShapes Go.ChangeAt Go.RowKit Lg Rf

/-- Block b lies behind the variables that the library reads. -/
def GL (b : Nat) : Prop := 2 < b ∧ 0 < b ∧ 1 < b
theorem gPow : Tryd.prog.globalNamed "internal/strconv.uint64pow10" = some 2 := by kernel_rfl
theorem Fr.below {b : Nat} {w w' : World} (h : Fr b w w') (hb : b ≤ w.heap.size) : Below b w w' := ⟨h.os, h.tape, h.output, h.size, fun k hk => h.block k (by omega) (by omega)⟩
theorem tabs_fr {b : Nat} {w w' : World} (ht : Tabs w) (hg : GL b) (h : Fr b w w') (hb : b ≤ w.heap.size) : Tabs w' := by
  obtain ⟨h1, ⟨t2, p2, h2⟩, t3, p3, h3⟩ := ht
  have hB := h.below hb
  exact ⟨var?_below hB gPow hg.1 h1, ⟨t2, p2, var?_below hB gSyn hg.2.1 h2⟩, t3, p3, var?_below hB gRan hg.2.2 h3⟩

set_option maxHeartbeats 2000000 in
/-- A number. -/
theorem i_rd (b : Nat) (s : ByteArray) (hs : s.size ≤ 281474976710656) (e lo hi : Int) (w : World) (h : PB w b s e) (ht : Tabs w) (hg : GL b) :
    Calls Tryd.prog 18 #[.pointer (some ⟨b, 0, none⟩), .int .i64 lo, .int .i64 hi] w fun r w' => ∃ v : Int, r = .returned (.int .i64 v) ∧ Rd w' b s.size e (numT lo hi (words s.data.toList)) (fun a => a = v) ∧ Fr b w w' := by
  have HC := keep (w_rd b s hs e w h)
  have HLt := keep (Nat.le_of_lt h.lt)
  have HTab := keep (fun (w1 : World) (hf : Fr b w w1) => tabs_fr ht hg hf HLt.out)
  have hl := wd_len s
  have HNm : Hid (∀ v, Tabs v → Calls Tryd.prog 28 #[.string ⟨(wd s.data.toList).toArray⟩] v fun r w' => NumEnds (wd s.data.toList) r ∧ Below v.heap.size v w') := fun v hv =>
    number_any ⟨(wd s.data.toList).toArray⟩ (by rw [size_mk]; omega) v hv
  clear h ht hg hl
  generalize hW : wd s.data.toList = W at *
  have HW := keep hW
  clear hW
  go_enter Tryd.func18, Tryd.ntmps18
  go_wp2_with fail
  refine HC.out.mono ?_
  rintro r w1 ⟨rfl, hr, hf⟩
  obtain ⟨s1, e1, hp, hn, h1, h2⟩ := hr
  have HP := keep hp
  have HF := keep hf
  have H1 := keep h1
  have H2 := keep h2
  clear hp hf h1 h2
  go_wp2_with fail
  refine (HNm.out _ (HTab.out _ HF.out)).mono ?_
  rintro r w2 ⟨⟨m, rfl, hm⟩, hb⟩
  have HP2 := keep (HP.out.below hb)
  have HF2 := keep (HF.out.trans (Fr.of_below hb))
  have HM := keep hm
  clear hb HP HF HNm HTab HC hm
  have HI : Hid (∃ q, Wd.isNum W = q) := ⟨_, rfl⟩
  obtain ⟨q, hq⟩ := HI.out
  have HQ := keep hq
  rw [hq]
  clear HI hq
  cases q with
  | false =>
    go_wp2_with fail
    refine (bad_any b s1 e1 2 _ HP2.out).mono ?_
    rintro r w3 ⟨rfl, hp3, hf3⟩
    have HP3 := keep hp3
    have HF3 := keep (HF2.out.trans hf3)
    clear hp3 hf3 HP2 HF2
    go_wp2
    go_ret
    exact ⟨m, rfl, rd_look (x := 2) H1.out (by rw [HW.out]; exact H2.out) HP3.out hn (.inl ⟨fun r => ⟨by rw [HW.out, if_neg (by rw [HQ.out]; decide)], by decide⟩, rfl⟩), HF3.out⟩
  | true =>
    have hmv := HM.out HQ.out
    have HV := keep hmv
    clear hmv
    by_cases hlo : m < lo
    · have d1 : decide (m < lo) = true := decide_eq_true hlo
      go_wp2_with fail
      refine (bad_any b s1 e1 3 _ HP2.out).mono ?_
      rintro r w3 ⟨rfl, hp3, hf3⟩
      have HP3 := keep hp3
      have HF3 := keep (HF2.out.trans hf3)
      clear hp3 hf3 HP2 HF2
      go_wp2
      go_ret
      exact ⟨m, rfl, rd_look (x := 3) H1.out (by rw [HW.out]; exact H2.out) HP3.out hn (.inl ⟨fun r => ⟨by rw [HW.out, if_pos HQ.out, if_pos (by have := HV.out; omega)], by decide⟩, rfl⟩), HF3.out⟩
    · have d1 : decide (m < lo) = false := decide_eq_false hlo
      by_cases hhi : hi < m
      · have d2 : decide (hi < m) = true := decide_eq_true hhi
        go_wp2_with fail
        refine (bad_any b s1 e1 3 _ HP2.out).mono ?_
        rintro r w3 ⟨rfl, hp3, hf3⟩
        have HP3 := keep hp3
        have HF3 := keep (HF2.out.trans hf3)
        clear hp3 hf3 HP2 HF2
        go_wp2
        go_ret
        exact ⟨m, rfl, rd_look (x := 3) H1.out (by rw [HW.out]; exact H2.out) HP3.out hn (.inl ⟨fun r => ⟨by rw [HW.out, if_pos HQ.out, if_pos (by have := HV.out; omega)], by decide⟩, rfl⟩), HF3.out⟩
      · have d2 : decide (hi < m) = false := decide_eq_false hhi
        go_wp2
        go_ret
        exact ⟨m, rfl, rd_look (x := 3) H1.out (by rw [HW.out]; exact H2.out) HP2.out hn (.inr ⟨⟨m, fun r => by rw [HW.out, if_pos HQ.out, if_neg (by have := HV.out; omega), HV.out], rfl⟩, rfl⟩), HF2.out⟩
end Go.Proofs.YtemdnmfldihalaaDoor.Lr
