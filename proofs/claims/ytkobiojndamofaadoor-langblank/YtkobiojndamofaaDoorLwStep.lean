/- The program's own reader: must, label, name, number, deep. -/
import Derived.Test.YtkobiojndamofaaDoorLwRead
namespace Go.Proofs.YtkobiojndamofaaDoor.Lr
set_option linter.unusedVariables false
open Go.ChangeShapes Go.WideShapes Go.ChangeAt Go.RowKit Lg

set_option maxHeartbeats 1000000 in
/-- That word, and no other. -/
theorem must_rd (b c : Nat) (s : ByteArray) (hs : s.size < 4294967281) (e : Int) (x : ByteArray) (w : World) (h : RB w b c s e) :
    Calls Tryd.prog 24 #[.pointer (some ⟨b, 0, none⟩), .string x] w fun r w' => r = .returned (.tuple #[]) ∧ Rd w' b c s.size e (want x.data.toList (words s.data.toList)) (fun _ => True) ∧ Fs [b, c] w w' := by
  have HC := keep (word_rd b c s hs e w h)
  have hl := wdE_len e s
  clear h
  generalize wdE e s.data.toList = W at *
  generalize words s.data.toList = L at *
  by_cases hq : W = x.data.toList
  · have dq : (W == x.toList) = true := by rw [Lib.toList_data]; simpa using hq
    have HQ := keep hq
    clear hq
    go_enter Tryd.func24, Tryd.ntmps24
    go_wp2_with fail
    refine HC.out.mono ?_
    rintro r w1 ⟨rfl, hr, hf⟩
    obtain ⟨s1, e1, hp, hn, h1, h2⟩ := hr
    have HP := keep hp
    have HF := keep hf
    have H1 := keep h1
    have H2 := keep h2
    clear hp hf h1 h2 HC
    go_wp2
    go_end0
    exact ⟨rfl, rd_look (x := 2) H1.out H2.out HP.out hn (.inr ⟨⟨(), fun r => by rw [if_pos HQ.out], trivial⟩, rfl⟩), HF.out⟩
  · have dq : (W == x.toList) = false := by rw [Lib.toList_data]; simpa using hq
    have HQ := keep hq
    clear hq
    go_enter Tryd.func24, Tryd.ntmps24
    go_wp2_with fail
    refine HC.out.mono ?_
    rintro r w1 ⟨rfl, hr, hf⟩
    obtain ⟨s1, e1, hp, hn, h1, h2⟩ := hr
    have HP := keep hp
    have HF := keep hf
    have H1 := keep h1
    have H2 := keep h2
    clear hp hf h1 h2 HC
    go_wp2_with fail
    refine (fail_any b c s1 e1 2 _ HP.out).mono ?_
    rintro r w3 ⟨rfl, hp3, hf3⟩
    have HP3 := keep hp3
    have HF3 := keep (HF.out.trans hf3)
    clear hp3 hf3 HP HF
    go_wp2
    go_end0
    exact ⟨rfl, rd_look (x := 2) H1.out H2.out HP3.out hn (.inl ⟨fun r => ⟨by rw [if_neg HQ.out], by decide⟩, rfl⟩), HF3.out⟩

set_option maxHeartbeats 1000000 in
/-- A label. -/
theorem label_rd (b c : Nat) (s : ByteArray) (hs : s.size < 4294967281) (e : Int) (w : World) (h : RB w b c s e) :
    Calls Tryd.prog 59 #[.pointer (some ⟨b, 0, none⟩)] w fun r w' => ∃ v, r = .returned (.bool v) ∧ Rd w' b c s.size e (labT (words s.data.toList)) (fun a => a = v) ∧ Fs [b, c] w w' := by
  have HC := keep (word_rd b c s hs e w h)
  have hl := wdE_len e s
  clear h
  generalize wdE e s.data.toList = W at *
  generalize words s.data.toList = L at *
  by_cases hsec : W = [115, 101, 99]
  · subst hsec
    go_enter Tryd.func59, Tryd.ntmps59
    go_wp2_with fail
    refine HC.out.mono ?_
    rintro r w1 ⟨rfl, hr, hf⟩
    obtain ⟨s1, e1, hp, hn, h1, h2⟩ := hr
    have HP := keep hp
    have HF := keep hf
    have H1 := keep h1
    have H2 := keep h2
    clear hp hf h1 h2 HC
    go_wp2
    go_ret
    exact ⟨true, rfl, rd_look (x := 2) H1.out H2.out HP.out hn (.inr ⟨⟨true, fun r => rfl, rfl⟩, rfl⟩), HF.out⟩
  · by_cases hpub : W = [112, 117, 98]
    · subst hpub
      go_enter Tryd.func59, Tryd.ntmps59
      go_wp2_with fail
      refine HC.out.mono ?_
      rintro r w1 ⟨rfl, hr, hf⟩
      obtain ⟨s1, e1, hp, hn, h1, h2⟩ := hr
      have HP := keep hp
      have HF := keep hf
      have H1 := keep h1
      have H2 := keep h2
      clear hp hf h1 h2 HC
      go_wp2
      go_ret
      exact ⟨false, rfl, rd_look (x := 2) H1.out H2.out HP.out hn (.inr ⟨⟨false, fun r => rfl, rfl⟩, rfl⟩), HF.out⟩
    · have d1 : (W == [115, 101, 99]) = false := by simpa using hsec
      have d2 : (W == [112, 117, 98]) = false := by simpa using hpub
      have HS := keep hsec
      have HU := keep hpub
      clear hsec hpub
      go_enter Tryd.func59, Tryd.ntmps59
      go_wp2_with fail
      refine HC.out.mono ?_
      rintro r w1 ⟨rfl, hr, hf⟩
      obtain ⟨s1, e1, hp, hn, h1, h2⟩ := hr
      have HP := keep hp
      have HF := keep hf
      have H1 := keep h1
      have H2 := keep h2
      clear hp hf h1 h2 HC
      go_wp2_with fail
      refine (fail_any b c s1 e1 2 _ HP.out).mono ?_
      rintro r w3 ⟨rfl, hp3, hf3⟩
      have HP3 := keep hp3
      have HF3 := keep (HF.out.trans hf3)
      clear hp3 hf3 HP HF
      go_wp2
      go_ret
      exact ⟨false, rfl, rd_look (x := 2) H1.out H2.out HP3.out hn (.inl ⟨fun r => ⟨by rw [if_neg HS.out, if_neg HU.out], by decide⟩, rfl⟩), HF3.out⟩

set_option maxHeartbeats 1000000 in
theorem own_any (s : ByteArray) (hs : s.size ≤ 281474976710656) (w : World) :
    Calls Tryd.prog 75 #[.string s] w fun r w' => r = .returned (.string s) ∧ Below w.heap.size w w' := by
  have HC := keep (Tryd.stringslite_Clone s w hs)
  go_enter Tryd.func75, Tryd.ntmps75
  go_wp2_with (first | (go_at_call 85; go_enter Tryd.func85, Tryd.ntmps85) | fail)
  refine HC.out.mono ?_
  rintro r w1 ⟨rfl, hb⟩
  have HB := keep hb
  clear hb
  go_wp2
  go_ret
  exact ⟨rfl, HB.out⟩

/-- The tables stay where the reader's blocks lie behind them. -/
theorem tabs_fs {b c : Nat} {w w' : World} (ht : Tabs w) (hg : GL b ∧ GL c) (h : Fs [b, c] w w') (hb : b < w.heap.size) (hc : c < w.heap.size) : Tabs w' := by
  have hB : Below (min b c) w w' := h.below (by omega) (fun k hk => by simp at hk; omega)
  refine ht.below ?_ hB
  obtain ⟨⟨g1, g2⟩, g3, g4⟩ := hg
  exact ⟨by omega, by omega⟩
set_option maxHeartbeats 1000000 in
/-- A name. -/
theorem name_rd (b c : Nat) (s : ByteArray) (hs : s.size < 4294967281) (e : Int) (w : World) (h : RB w b c s e) (ht : Tabs w) (hg : GL b ∧ GL c) :
    Calls Tryd.prog 60 #[.pointer (some ⟨b, 0, none⟩)] w fun r w' => ∃ x : List UInt8, r = .returned (.string ⟨x.toArray⟩) ∧ Rd w' b c s.size e (nameT (words s.data.toList)) (fun a => a = x) ∧ Fs [b, c] w w' := by
  have HC := keep (word_rd b c s hs e w h)
  have HTb := keep (fun (w1 : World) (hf : Fs [b, c] w w1) => tabs_fs ht hg hf h.lt h.ltc)
  have hl := wdE_len e s
  clear h ht hg
  generalize wdE e s.data.toList = W at *
  generalize words s.data.toList = L at *
  have HI : Hid (∃ q, isName W = q) := ⟨_, rfl⟩
  obtain ⟨q, hq⟩ := HI.out
  clear HI
  have HNm : Hid (∀ v, Tabs v → Calls Tryd.prog 11 #[.string ⟨W.toArray⟩] v fun r w' => r = .returned (.bool q) ∧ Below v.heap.size v w') := fun v hv => by
    rw [← hq]; exact name_any ⟨W.toArray⟩ (by rw [size_mk]; omega) v hv
  have HO : Hid (∀ v, Calls Tryd.prog 75 #[.string ⟨W.toArray⟩] v fun r w' => r = .returned (.string ⟨W.toArray⟩) ∧ Below v.heap.size v w') := fun v => own_any _ (by rw [size_mk]; omega) v
  have HQ := keep hq
  clear hq
  cases q with
  | true =>
    go_enter Tryd.func60, Tryd.ntmps60
    go_wp2_with fail
    refine HC.out.mono ?_
    rintro r w1 ⟨rfl, hr, hf⟩
    obtain ⟨s1, e1, hp, hn, h1, h2⟩ := hr
    have HP := keep hp
    have HF := keep hf
    have H1 := keep h1
    have H2 := keep h2
    clear hp hf h1 h2 HC
    go_wp2_with fail
    refine (HNm.out _ (HTb.out _ HF.out)).mono ?_
    rintro r w2 ⟨rfl, hb2⟩
    have HP2 := keep (HP.out.below hb2)
    have HF2 := keep (HF.out.trans (Fs.of_below hb2))
    clear hb2 HNm HTb HP HF
    go_wp2_with fail
    refine (HO.out _).mono ?_
    rintro r w4 ⟨rfl, hb4⟩
    have HP4 := keep (HP2.out.below hb4)
    have HF4 := keep (HF2.out.trans (Fs.of_below hb4))
    clear hb4 HP2 HF2
    go_wp2
    go_ret
    exact ⟨W, rfl, rd_look (x := 7) H1.out H2.out HP4.out hn (.inr ⟨⟨W, fun r => by rw [if_pos HQ.out], rfl⟩, rfl⟩), HF4.out⟩
  | false =>
    go_enter Tryd.func60, Tryd.ntmps60
    go_wp2_with fail
    refine HC.out.mono ?_
    rintro r w1 ⟨rfl, hr, hf⟩
    obtain ⟨s1, e1, hp, hn, h1, h2⟩ := hr
    have HP := keep hp
    have HF := keep hf
    have H1 := keep h1
    have H2 := keep h2
    clear hp hf h1 h2 HC
    go_wp2_with fail
    refine (HNm.out _ (HTb.out _ HF.out)).mono ?_
    rintro r w2 ⟨rfl, hb2⟩
    have HP2 := keep (HP.out.below hb2)
    have HF2 := keep (HF.out.trans (Fs.of_below hb2))
    clear hb2 HNm HTb HP HF
    go_wp2_with fail
    refine (fail_any b c s1 e1 7 _ HP2.out).mono ?_
    rintro r w3 ⟨rfl, hp3, hf3⟩
    have HP3 := keep hp3
    have HF3 := keep (HF2.out.trans hf3)
    clear hp3 hf3 HP2 HF2
    go_wp2_with fail
    refine (HO.out _).mono ?_
    rintro r w4 ⟨rfl, hb4⟩
    have HP4 := keep (HP3.out.below hb4)
    have HF4 := keep (HF3.out.trans (Fs.of_below hb4))
    clear hb4 HP3 HF3
    go_wp2
    go_ret
    exact ⟨W, rfl, rd_look (x := 7) H1.out H2.out HP4.out hn (.inl ⟨fun r => ⟨by rw [if_neg (by rw [HQ.out]; decide)], by decide⟩, rfl⟩), HF4.out⟩

set_option maxHeartbeats 2000000 in
/-- A number. -/
theorem number_rd (b c : Nat) (s : ByteArray) (hs : s.size < 4294967281) (e lo hi : Int) (w : World) (h : RB w b c s e) :
    Calls Tryd.prog 61 #[.pointer (some ⟨b, 0, none⟩), .int .i64 lo, .int .i64 hi] w fun r w' => ∃ v : Int, r = .returned (.int .i64 v) ∧ Rd w' b c s.size e (numT lo hi (words s.data.toList)) (fun a => a = v) ∧ Fs [b, c] w w' := by
  have HC := keep (word_rd b c s hs e w h)
  have hl := wdE_len e s
  clear h
  generalize wdE e s.data.toList = W at *
  generalize words s.data.toList = L at *
  have HI : Hid (∃ q, Wd.isNum W = q) := ⟨_, rfl⟩
  obtain ⟨q, hq⟩ := HI.out
  obtain ⟨m, hm⟩ : ∃ m, Wd.numV W = m := ⟨_, rfl⟩
  have HM : Hid (q = true → m = (Wd.val W : Int)) := fun h => by rw [← hm]; unfold Wd.numV; rw [hq, h]; rfl
  have HNm : Hid (∀ v, Calls Tryd.prog 76 #[.string ⟨W.toArray⟩] v fun r w' => r = .returned (.tuple #[.int .i64 m, .bool q]) ∧ w' = v) := fun v => by
    rw [← hq, ← hm]; exact Wd.number_any ⟨W.toArray⟩ v (by rw [size_mk]; unfold maxLen; omega)
  have HQ := keep hq
  clear HI hq hm
  cases q with
  | false =>
    go_enter Tryd.func61, Tryd.ntmps61
    go_wp2_with fail
    refine HC.out.mono ?_
    rintro r w1 ⟨rfl, hr, hf⟩
    obtain ⟨s1, e1, hp, hn, h1, h2⟩ := hr
    have HP := keep hp
    have HF := keep hf
    have H1 := keep h1
    have H2 := keep h2
    clear hp hf h1 h2 HC
    go_wp2_with fail
    refine (HNm.out _).mono ?_
    rintro r w2 ⟨rfl, hw⟩
    subst hw
    go_wp2_with fail
    refine (fail_any b c s1 e1 2 _ HP.out).mono ?_
    rintro r w3 ⟨rfl, hp3, hf3⟩
    have HP3 := keep hp3
    have HF3 := keep (HF.out.trans hf3)
    clear hp3 hf3 HP HF
    go_wp2
    go_ret
    exact ⟨m, rfl, rd_look (x := 2) H1.out H2.out HP3.out hn (.inl ⟨fun r => ⟨by rw [if_neg (by rw [HQ.out]; decide)], by decide⟩, rfl⟩), HF3.out⟩
  | true =>
    have HV := keep (HM.out rfl)
    clear HM
    by_cases hlo : m < lo
    · have d1 : decide (m < lo) = true := decide_eq_true hlo
      go_enter Tryd.func61, Tryd.ntmps61
      go_wp2_with fail
      refine HC.out.mono ?_
      rintro r w1 ⟨rfl, hr, hf⟩
      obtain ⟨s1, e1, hp, hn, h1, h2⟩ := hr
      have HP := keep hp
      have HF := keep hf
      have H1 := keep h1
      have H2 := keep h2
      clear hp hf h1 h2 HC
      go_wp2_with fail
      refine (HNm.out _).mono ?_
      rintro r w2 ⟨rfl, hw⟩
      subst hw
      go_wp2_with fail
      refine (fail_any b c s1 e1 3 _ HP.out).mono ?_
      rintro r w3 ⟨rfl, hp3, hf3⟩
      have HP3 := keep hp3
      have HF3 := keep (HF.out.trans hf3)
      clear hp3 hf3 HP HF
      go_wp2
      go_ret
      exact ⟨m, rfl, rd_look (x := 3) H1.out H2.out HP3.out hn (.inl ⟨fun r => ⟨by rw [if_pos HQ.out, if_pos (by have := HV.out; omega)], by decide⟩, rfl⟩), HF3.out⟩
    · have d1 : decide (m < lo) = false := decide_eq_false hlo
      by_cases hhi : hi < m
      · have d2 : decide (hi < m) = true := decide_eq_true hhi
        go_enter Tryd.func61, Tryd.ntmps61
        go_wp2_with fail
        refine HC.out.mono ?_
        rintro r w1 ⟨rfl, hr, hf⟩
        obtain ⟨s1, e1, hp, hn, h1, h2⟩ := hr
        have HP := keep hp
        have HF := keep hf
        have H1 := keep h1
        have H2 := keep h2
        clear hp hf h1 h2 HC
        go_wp2_with fail
        refine (HNm.out _).mono ?_
        rintro r w2 ⟨rfl, hw⟩
        subst hw
        go_wp2_with fail
        refine (fail_any b c s1 e1 3 _ HP.out).mono ?_
        rintro r w3 ⟨rfl, hp3, hf3⟩
        have HP3 := keep hp3
        have HF3 := keep (HF.out.trans hf3)
        clear hp3 hf3 HP HF
        go_wp2
        go_ret
        exact ⟨m, rfl, rd_look (x := 3) H1.out H2.out HP3.out hn (.inl ⟨fun r => ⟨by rw [if_pos HQ.out, if_pos (by have := HV.out; omega)], by decide⟩, rfl⟩), HF3.out⟩
      · have d2 : decide (hi < m) = false := decide_eq_false hhi
        go_enter Tryd.func61, Tryd.ntmps61
        go_wp2_with fail
        refine HC.out.mono ?_
        rintro r w1 ⟨rfl, hr, hf⟩
        obtain ⟨s1, e1, hp, hn, h1, h2⟩ := hr
        have HP := keep hp
        have HF := keep hf
        have H1 := keep h1
        have H2 := keep h2
        clear hp hf h1 h2 HC
        go_wp2_with fail
        refine (HNm.out _).mono ?_
        rintro r w2 ⟨rfl, hw⟩
        subst hw
        go_wp2
        go_ret
        exact ⟨m, rfl, rd_look (x := 3) H1.out H2.out HP.out hn (.inr ⟨⟨m, fun r => by rw [if_pos HQ.out, if_neg (by have := HV.out; omega), HV.out], rfl⟩, rfl⟩), HF.out⟩

set_option maxHeartbeats 1000000 in
/-- How deep it is. -/
theorem deep_any (b c : Nat) (s : ByteArray) (e : Int) (k : Int) (w : World) (h : RB w b c s e) :
    Calls Tryd.prog 77 #[.pointer (some ⟨b, 0, none⟩), .int .i64 k] w fun r w' => r = .returned (.bool (decide (8 < k))) ∧ RB w' b c s (if 8 < k then first e 9 else e) ∧ Fs [b, c] w w' := by
  have HP := keep h
  clear h
  by_cases hk : 8 < k
  · have d : decide (8 < k) = true := decide_eq_true hk
    rw [if_pos hk, d]
    go_enter Tryd.func77, Tryd.ntmps77
    go_wp2_with fail
    refine (fail_any b c s e 9 _ HP.out).mono ?_
    rintro r w3 ⟨rfl, hp3, hf3⟩
    have HP3 := keep hp3
    have HF3 := keep hf3
    clear hp3 hf3 HP
    go_wp2
    go_ret
    exact ⟨rfl, HP3.out, HF3.out⟩
  · have d : decide (8 < k) = false := decide_eq_false hk
    rw [if_neg hk, d]
    go_enter Tryd.func77, Tryd.ntmps77
    go_wp2
    go_ret
    exact ⟨rfl, HP.out, Fs.refl _ w⟩
end Go.Proofs.YtkobiojndamofaaDoor.Lr
