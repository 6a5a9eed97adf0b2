/- LangTurns: the way of the law, whatever text is given. Written by tools/gen_turns.py. -/
import Derived.Test.YtkobiojndamofaaDoorLvAlive
import Derived.Test.YtkobiojndamofaaDoorLgAll
namespace Go.Proofs.YtkobiojndamofaaDoor.Lr
set_option linter.unusedVariables false
set_option linter.unusedSimpArgs false
open Go.ChangeShapes Go.WideShapes Go.ChangeAt Go.RowKit Lg

theorem ExIs.wide {w : World} {B B' : Nat} (hb : B ≤ B') : ∀ {m : Nat} {e : Ex} {sl : Value}, ExIs w B m e sl → ExIs w B' m e sl
  | 0, _, _, h => h
  | m + 1, e, sl, h => by
    rcases h with h | ⟨g, o, cap, h1, h2, h5, h3, h4⟩
    · exact .inl h
    · exact .inr ⟨g, o, cap, h1, h2, h5, Nat.lt_of_lt_of_le h3 hb, fun j a hj => by
        obtain ⟨sl', k1, k2⟩ := h4 j a hj
        exact ⟨sl', k1, k2.wide hb⟩⟩
theorem StIs.wide {w : World} {B B' e : Nat} (hb : B ≤ B') : ∀ {m : Nat} {l : List St} {sl : Value}, StIs w B e m l sl → StIs w B' e m l sl
  | 0, _, _, h => h
  | m + 1, l, sl, h => by
    obtain ⟨p, n, cap, h1, h2, h3, h4, h5⟩ := h
    exact ⟨p, n, cap, h1, h2, h3, h4, fun j t hj => by
      obtain ⟨g, o, s1, s2, s3, k1, k2, k3, k4, k5, k6⟩ := h5 j t hj
      exact ⟨g, o, s1, s2, s3, k1, Nat.lt_of_lt_of_le k2 hb, k3, k4.wide hb, k5.wide hb, k6.wide hb⟩⟩
theorem VrIs.wide {w : World} {B B' : Nat} (hb : B ≤ B') {vs : List Vr} {sl : Value} (h : VrIs w B vs sl) : VrIs w B' vs sl := by
  obtain ⟨p, n, cap, h1, h2, h3, h4, h5⟩ := h
  exact ⟨p, n, cap, h1, h2, h3, h4, fun j v hj => by
    obtain ⟨g, o, k1, k2, k3⟩ := h5 j v hj
    exact ⟨g, o, k1, Nat.lt_of_lt_of_le k2 hb, k3⟩⟩
theorem FnIs.wide {w : World} {B B' e m : Nat} (hb : B ≤ B') {f : Lg.Fn} {v : Value} (h : FnIs w B e m f v) : FnIs w B' e m f v := by
  obtain ⟨s1, s2, s3, h0, h1, h2, h3⟩ := h
  exact ⟨s1, s2, s3, h0, h1.wide hb, h2.wide hb, h3.wide hb⟩
theorem parse_cases (l : List UInt8) : (∃ x, parseP l = (nilFn, x) ∧ ¬ x = 0) ∨ ∃ f r, l.length ≤ 1200 ∧ fnG 1201 (words l) = .ok (f, r) ∧ parseP l = (f, 0) := by
  unfold parseP
  by_cases h : 1200 < l.length
  · rw [if_pos h]; exact .inl ⟨4, rfl, by decide⟩
  · rw [if_neg h]
    cases hg : fnG 1201 (words l) with
    | error x => exact .inl ⟨x, rfl, nz_fn 1201 (words l) x hg⟩
    | ok p => exact .inr ⟨p.1, p.2, by omega, rfl, rfl⟩
theorem turn_facts {l : List UInt8} {f : Lg.Fn} {r : List (List UInt8)} (h : fnG 1201 (words l) = .ok (f, r)) (hl : l.length ≤ 1200) :
    wfF f ∧ (addsW [] (toksF f)).length ≤ 2400 ∧ parseP (addsW [] (toksF f)) = if 1200 < (addsW [] (toksF f)).length then (nilFn, 4) else (f, 0) := by
  have hw := fnG_wf h
  have hs := show_short h
  refine ⟨hw, by omega, ?_⟩
  unfold parseP
  by_cases hb : 1200 < (addsW [] (toksF f)).length
  · rw [if_pos hb, if_pos hb]
  · rw [if_neg hb, if_neg hb]
    have h2 := back_again (N := 1201) (by decide) h
    rw [← showF_lays f hw] at h2
    rw [h2]
/-- What Parse gives, its slices apart. -/
theorem parse_parts (s : ByteArray) (hs : s.size ≤ 281474976710656) (f : Lg.Fn) (x : Int) (hp : parseP s.data.toList = (f, x)) (w : World) (ht : Tabs w) :
    Calls Tryd.prog 6 #[.string s] w fun r w' => ∃ (p1 p2 p3 : Option Addr) (n1 c1 n2 c2 n3 c3 : Nat), r = .returned (.tuple #[.agg #[.slice p1 n1 c1, .slice p2 n2 c2, .slice p3 n3 c3], .int .i64 x]) ∧ FnIs w' w'.heap.size 10 11 f (.agg #[.slice p1 n1 c1, .slice p2 n2 c2, .slice p3 n3 c3]) ∧ Below w.heap.size w w' := by
  refine (parse_any s hs w ht).mono ?_
  rintro r w' ⟨v1, v2, v3, rfl, hx, hb⟩
  rw [hp] at hx
  rw [hp]
  have hx0 := hx
  obtain ⟨s1, s2, s3, e, h1, h2, h3⟩ := hx
  injection e with e; injection e with e; injection e with e1 e; injection e with e2 e; injection e with e3 e
  subst e1; subst e2; subst e3
  obtain ⟨p1, n1, c1, rfl⟩ := h1.slice
  obtain ⟨p2, n2, c2, rfl⟩ := h2.slice
  obtain ⟨p3, n3, c3, rfl⟩ := h3.slice
  exact ⟨p1, p2, p3, n1, c1, n2, c2, n3, c3, rfl, hx0, hb⟩
theorem nil_lens {w : World} {B : Nat} {p1 p2 p3 : Option Addr} {n1 c1 n2 c2 n3 c3 : Nat} (h : FnIs w B 10 11 nilFn (.agg #[.slice p1 n1 c1, .slice p2 n2 c2, .slice p3 n3 c3])) : n1 = 0 ∧ n2 = 0 ∧ n3 = 0 := by
  obtain ⟨s1, s2, s3, e, h1, h2, h3⟩ := h
  injection e with e; injection e with e; injection e with e1 e; injection e with e2 e; injection e with e3 e
  subst e1; subst e2; subst e3
  obtain ⟨_, _, _, e1, k1, _⟩ := h1
  obtain ⟨_, _, _, e2, k2, _⟩ := h2
  obtain ⟨_, _, _, e3, k3, _⟩ := h3
  injection e1 with _ e1 _; injection e2 with _ e2 _; injection e3 with _ e3 _
  exact ⟨e1.trans k1.symm, e2.trans k2.symm, e3.trans k3.symm⟩

set_option maxHeartbeats 16000000 in
set_option maxRecDepth 100000 in
theorem turns_wrong (s : ByteArray) (hs : s.size ≤ 281474976710656) (x : Int) (hp : parseP s.data.toList = (nilFn, x)) (hx0 : ¬ x = 0) (w : World) (ht : Tabs w) :
    Calls Tryd.prog 3 #[.string s] w fun r w' => r = .returned (.bool true) ∧ Below w.heap.size w w' := by
  have HA : Hid (Calls Tryd.prog 5 #[] w fun r w' => r = .returned (.bool true) ∧ Below w.heap.size w w') := alive_any w ht
  have HT := keep ht
  have HP : Hid (∀ W, Tabs W → _) := fun W hW => parse_parts s hs nilFn x hp W hW
  have d : (x != 0) = true := bne_iff_ne.2 hx0
  clear hp hx0 hs
  clear ht
  go_enter Tryd.func3, Tryd.ntmps3
  go_wp2_with fail
  refine HA.out.mono ?_
  rintro r w0 ⟨rfl, hb0⟩
  have HT0 := keep (HT.out.up hb0)
  have HB0 := keep hb0
  clear hb0 HA HT
  go_wp2_with fail
  refine (HP.out w0 HT0.out).mono ?_
  rintro r w1 ⟨p1, p2, p3, n1, c1, n2, c2, n3, c3, rfl, hx1, hb1⟩
  have HX1 := keep hx1
  have HB1 := keep (HB0.out.trans (hb1.mono HB0.out.size))
  have HT1 := keep (HT0.out.up hb1)
  have HD := keep (Bk.new w1 [.slice none 0 0, .slice none 0 0, .slice none 0 0] 26)
  clear hx1 hb1 HB0 HT0
  obtain ⟨w2, hw2⟩ : ∃ w2, (w1.alloc (.cells #[.slice none 0 0, .slice none 0 0, .slice none 0 0] 26)).setRow w1.heap.size #[.slice p1 n1 c1, .slice p2 n2 c2, .slice p3 n3 c3] = w2 := ⟨_, rfl⟩
  have HK2 : Hid (Bk w2 w1.heap.size [.slice p1 n1 c1, .slice p2 n2 c2, .slice p3 n3 c3] 26) := by
    show Bk _ _ _ _
    rw [← hw2]; exact setRow_heap _ _ _ _ _ _ HD.out
  have HB2 : Hid (Below w1.heap.size w1 w2) := by
    show Below _ _ _
    rw [← hw2]; exact below_setRow ((Below.refl _ _).alloc (Nat.le_refl _) _) (Nat.le_refl _) _
  obtain ⟨rfl, rfl, rfl⟩ := nil_lens HX1.out
  have f0 := HK2.out.cell 0 rfl
  have f1 := HK2.out.cell 1 rfl
  have f2 := HK2.out.cell 2 rfl
  clear HP HX1 HK2 HT1
  go_wp2_with (first
    | refine wpList_store_row rfl 26 (.tmp 3) (.tmp 12) rfl w1.heap.size #[.slice p1 0 c1, .slice p2 0 c2, .slice p3 0 c3] rfl rfl 26 #[.slice none 0 0, .slice none 0 0, .slice none 0 0] HD.out (info_F [.slice p1 0 c1, .slice p2 0 c2, .slice p3 0 c3] rfl) rfl (by simp [Value.oneCell']) ?_
    | rw [hw2])
  go_ret
  exact ⟨rfl, HB1.out.trans (HB2.out.mono HB1.out.size)⟩

set_option maxHeartbeats 16000000 in
set_option maxRecDepth 100000 in
theorem turns_long (s : ByteArray) (hs : s.size ≤ 281474976710656) (f : Lg.Fn) (hp : parseP s.data.toList = (f, 0)) (hwf : wfF f) (T : List UInt8) (hT : addsW [] (toksF f) = T) (hl : T.length ≤ 2400) (hb : 1200 < T.length) (hp2 : parseP T = (nilFn, 4)) (w : World) (ht : Tabs w) :
    Calls Tryd.prog 3 #[.string s] w fun r w' => r = .returned (.bool true) ∧ Below w.heap.size w w' := by
  subst hT
  have HA : Hid (Calls Tryd.prog 5 #[] w fun r w' => r = .returned (.bool true) ∧ Below w.heap.size w w') := alive_any w ht
  have HT := keep ht
  have HP : Hid (∀ W, Tabs W → _) := fun W hW => parse_parts s hs f 0 hp W hW
  have hsz : (⟨(addsW [] (toksF f)).toArray⟩ : ByteArray).size = (addsW [] (toksF f)).length := by show Array.size _ = _; simp
  have HP2 : Hid (∀ W, Tabs W → _) := fun W hW => parse_parts ⟨(addsW [] (toksF f)).toArray⟩ (by rw [hsz]; omega) nilFn 4 (by show parseP ((addsW [] (toksF f)).toArray).toList = _; rw [List.toList_toArray]; exact hp2) W hW
  have d : decide (1200 < ((addsW [] (toksF f)).length : Int)) = true := decide_eq_true (by omega)
  clear hp hs hp2
  clear ht
  go_enter Tryd.func3, Tryd.ntmps3
  go_wp2_with fail
  refine HA.out.mono ?_
  rintro r w0 ⟨rfl, hb0⟩
  have HT0 := keep (HT.out.up hb0)
  have HB0 := keep hb0
  clear hb0 HA HT
  go_wp2_with fail
  refine (HP.out w0 HT0.out).mono ?_
  rintro r w1 ⟨p1, p2, p3, n1, c1, n2, c2, n3, c3, rfl, hx1, hb1⟩
  have HX1 := keep hx1
  have HB1 := keep (HB0.out.trans (hb1.mono HB0.out.size))
  have HT1 := keep (HT0.out.up hb1)
  have HD := keep (Bk.new w1 [.slice none 0 0, .slice none 0 0, .slice none 0 0] 26)
  clear hx1 hb1 HB0 HT0
  obtain ⟨w2, hw2⟩ : ∃ w2, (w1.alloc (.cells #[.slice none 0 0, .slice none 0 0, .slice none 0 0] 26)).setRow w1.heap.size #[.slice p1 n1 c1, .slice p2 n2 c2, .slice p3 n3 c3] = w2 := ⟨_, rfl⟩
  have HK2 : Hid (Bk w2 w1.heap.size [.slice p1 n1 c1, .slice p2 n2 c2, .slice p3 n3 c3] 26) := by
    show Bk _ _ _ _
    rw [← hw2]; exact setRow_heap _ _ _ _ _ _ HD.out
  have HB2 : Hid (Below w1.heap.size w1 w2) := by
    show Below _ _ _
    rw [← hw2]; exact below_setRow ((Below.refl _ _).alloc (Nat.le_refl _) _) (Nat.le_refl _) _
  go_wp2_with (first
    | refine wpList_store_row rfl 26 (.tmp 3) (.tmp 12) rfl w1.heap.size #[.slice p1 n1 c1, .slice p2 n2 c2, .slice p3 n3 c3] rfl rfl 26 #[.slice none 0 0, .slice none 0 0, .slice none 0 0] HD.out (info_F [.slice p1 n1 c1, .slice p2 n2 c2, .slice p3 n3 c3] rfl) rfl (by simp [Value.oneCell']) ?_
    | rw [hw2]
    | refine wpList_load_row rfl 26 (.tmp 3) rfl w1.heap.size rfl 26 #[.slice p1 n1 c1, .slice p2 n2 c2, .slice p3 n3 c3] (0, 0) _ HK2.out Tryd.underlying26 rfl (info_F [.slice p1 n1 c1, .slice p2 n2 c2, .slice p3 n3 c3] rfl) ?_)
  have HT2 := keep (HT1.out.up HB2.out)
  have hgl : GL w1.heap.size := HT1.out.gl
  have HPr := keep (print_any w1.heap.size hgl f hwf _ w2 HB2.out.size (HX1.out.below HB2.out) HT2.out (by omega))
  refine HPr.out.mono ?_
  rintro r w3 ⟨rfl, hb3⟩
  have HB13 := keep (HB2.out.trans (hb3.mono HB2.out.size))
  have HX3 := keep (HX1.out.below HB13.out)
  have HT3 := keep (HT1.out.up HB13.out)
  have HK3 := keep (HK2.out.fs (Fs.of_below (l := []) hb3) (by simp))
  clear hb3 HPr HT2 HK2 HB2 hw2 HD HX1
  go_wp2_with fail
  refine (HP2.out w3 HT3.out).mono ?_
  rintro r w4 ⟨q1, q2, q3, m1, d1, m2, d2, m3, d3, rfl, hx4, hb4⟩
  have HX4 := keep hx4
  have HB14 := keep (HB13.out.trans (hb4.mono HB13.out.size))
  have HT4 := keep (HT3.out.up hb4)
  have HK4 := keep (HK3.out.fs (Fs.of_below (l := []) hb4) (by simp))
  have HX3' := keep (HX3.out.below (hb4.mono HB13.out.size))
  have HD4 := keep (Bk.new w4 [.slice none 0 0, .slice none 0 0, .slice none 0 0] 26)
  clear hx4 hb4 HB13 HT3 HK3 HX3 HP2
  obtain ⟨w5, hw5⟩ : ∃ w5, (w4.alloc (.cells #[.slice none 0 0, .slice none 0 0, .slice none 0 0] 26)).setRow w4.heap.size #[.slice q1 m1 d1, .slice q2 m2 d2, .slice q3 m3 d3] = w5 := ⟨_, rfl⟩
  have HK5 : Hid (Bk w5 w4.heap.size [.slice q1 m1 d1, .slice q2 m2 d2, .slice q3 m3 d3] 26) := by
    show Bk _ _ _ _
    rw [← hw5]; exact setRow_heap _ _ _ _ _ _ HD4.out
  have HB45 : Hid (Below w4.heap.size w4 w5) := by
    show Below _ _ _
    rw [← hw5]; exact below_setRow ((Below.refl _ _).alloc (Nat.le_refl _) _) (Nat.le_refl _) _
  clear HX3' HK4 HT4 HX4 HK5 hsz
  go_wp2_with (first
    | refine wpList_store_row rfl 26 (.tmp 6) (.tmp 33) rfl w4.heap.size #[.slice q1 m1 d1, .slice q2 m2 d2, .slice q3 m3 d3] rfl rfl 26 #[.slice none 0 0, .slice none 0 0, .slice none 0 0] HD4.out (info_F [.slice q1 m1 d1, .slice q2 m2 d2, .slice q3 m3 d3] rfl) rfl (by simp [Value.oneCell']) ?_
    | rw [hw5])
  go_ret
  exact ⟨rfl, (HB1.out.trans (HB14.out.mono HB1.out.size)).trans (HB45.out.mono (Nat.le_trans HB1.out.size HB14.out.size))⟩

set_option maxHeartbeats 16000000 in
set_option maxRecDepth 100000 in
theorem turns_right (s : ByteArray) (hs : s.size ≤ 281474976710656) (f : Lg.Fn) (hp : parseP s.data.toList = (f, 0)) (hwf : wfF f) (T : List UInt8) (hT : addsW [] (toksF f) = T) (hl : T.length ≤ 2400) (hb : ¬ 1200 < T.length) (hp2 : parseP T = (f, 0)) (w : World) (ht : Tabs w) :
    Calls Tryd.prog 3 #[.string s] w fun r w' => r = .returned (.bool true) ∧ Below w.heap.size w w' := by
  subst hT
  have HA : Hid (Calls Tryd.prog 5 #[] w fun r w' => r = .returned (.bool true) ∧ Below w.heap.size w w') := alive_any w ht
  have HT := keep ht
  have HP : Hid (∀ W, Tabs W → _) := fun W hW => parse_parts s hs f 0 hp W hW
  have hsz : (⟨(addsW [] (toksF f)).toArray⟩ : ByteArray).size = (addsW [] (toksF f)).length := by show Array.size _ = _; simp
  have HP2 : Hid (∀ W, Tabs W → _) := fun W hW => parse_parts ⟨(addsW [] (toksF f)).toArray⟩ (by rw [hsz]; omega) f 0 (by show parseP ((addsW [] (toksF f)).toArray).toList = _; rw [List.toList_toArray]; exact hp2) W hW
  have d : decide (1200 < ((addsW [] (toksF f)).length : Int)) = false := decide_eq_false (by omega)
  clear hp hs hp2
  clear ht
  go_enter Tryd.func3, Tryd.ntmps3
  go_wp2_with fail
  refine HA.out.mono ?_
  rintro r w0 ⟨rfl, hb0⟩
  have HT0 := keep (HT.out.up hb0)
  have HB0 := keep hb0
  clear hb0 HA HT
  go_wp2_with fail
  refine (HP.out w0 HT0.out).mono ?_
  rintro r w1 ⟨p1, p2, p3, n1, c1, n2, c2, n3, c3, rfl, hx1, hb1⟩
  have HX1 := keep hx1
  have HB1 := keep (HB0.out.trans (hb1.mono HB0.out.size))
  have HT1 := keep (HT0.out.up hb1)
  have HD := keep (Bk.new w1 [.slice none 0 0, .slice none 0 0, .slice none 0 0] 26)
  clear hx1 hb1 HB0 HT0
  obtain ⟨w2, hw2⟩ : ∃ w2, (w1.alloc (.cells #[.slice none 0 0, .slice none 0 0, .slice none 0 0] 26)).setRow w1.heap.size #[.slice p1 n1 c1, .slice p2 n2 c2, .slice p3 n3 c3] = w2 := ⟨_, rfl⟩
  have HK2 : Hid (Bk w2 w1.heap.size [.slice p1 n1 c1, .slice p2 n2 c2, .slice p3 n3 c3] 26) := by
    show Bk _ _ _ _
    rw [← hw2]; exact setRow_heap _ _ _ _ _ _ HD.out
  have HB2 : Hid (Below w1.heap.size w1 w2) := by
    show Below _ _ _
    rw [← hw2]; exact below_setRow ((Below.refl _ _).alloc (Nat.le_refl _) _) (Nat.le_refl _) _
  go_wp2_with (first
    | refine wpList_store_row rfl 26 (.tmp 3) (.tmp 12) rfl w1.heap.size #[.slice p1 n1 c1, .slice p2 n2 c2, .slice p3 n3 c3] rfl rfl 26 #[.slice none 0 0, .slice none 0 0, .slice none 0 0] HD.out (info_F [.slice p1 n1 c1, .slice p2 n2 c2, .slice p3 n3 c3] rfl) rfl (by simp [Value.oneCell']) ?_
    | rw [hw2]
    | refine wpList_load_row rfl 26 (.tmp 3) rfl w1.heap.size rfl 26 #[.slice p1 n1 c1, .slice p2 n2 c2, .slice p3 n3 c3] (0, 0) _ HK2.out Tryd.underlying26 rfl (info_F [.slice p1 n1 c1, .slice p2 n2 c2, .slice p3 n3 c3] rfl) ?_)
  have HT2 := keep (HT1.out.up HB2.out)
  have hgl : GL w1.heap.size := HT1.out.gl
  have HPr := keep (print_any w1.heap.size hgl f hwf _ w2 HB2.out.size (HX1.out.below HB2.out) HT2.out (by omega))
  refine HPr.out.mono ?_
  rintro r w3 ⟨rfl, hb3⟩
  have HB13 := keep (HB2.out.trans (hb3.mono HB2.out.size))
  have HX3 := keep (HX1.out.below HB13.out)
  have HT3 := keep (HT1.out.up HB13.out)
  have HK3 := keep (HK2.out.fs (Fs.of_below (l := []) hb3) (by simp))
  clear hb3 HPr HT2 HK2 HB2 hw2 HD HX1
  go_wp2_with fail
  refine (HP2.out w3 HT3.out).mono ?_
  rintro r w4 ⟨q1, q2, q3, m1, d1, m2, d2, m3, d3, rfl, hx4, hb4⟩
  have HX4 := keep hx4
  have HB14 := keep (HB13.out.trans (hb4.mono HB13.out.size))
  have HT4 := keep (HT3.out.up hb4)
  have HK4 := keep (HK3.out.fs (Fs.of_below (l := []) hb4) (by simp))
  have HX3' := keep (HX3.out.below (hb4.mono HB13.out.size))
  have HD4 := keep (Bk.new w4 [.slice none 0 0, .slice none 0 0, .slice none 0 0] 26)
  clear hx4 hb4 HB13 HT3 HK3 HX3 HP2
  obtain ⟨w5, hw5⟩ : ∃ w5, (w4.alloc (.cells #[.slice none 0 0, .slice none 0 0, .slice none 0 0] 26)).setRow w4.heap.size #[.slice q1 m1 d1, .slice q2 m2 d2, .slice q3 m3 d3] = w5 := ⟨_, rfl⟩
  have HK5 : Hid (Bk w5 w4.heap.size [.slice q1 m1 d1, .slice q2 m2 d2, .slice q3 m3 d3] 26) := by
    show Bk _ _ _ _
    rw [← hw5]; exact setRow_heap _ _ _ _ _ _ HD4.out
  have HB45 : Hid (Below w4.heap.size w4 w5) := by
    show Below _ _ _
    rw [← hw5]; exact below_setRow ((Below.refl _ _).alloc (Nat.le_refl _) _) (Nat.le_refl _) _
  have HX5a := keep ((HX3'.out.below (HB45.out.mono HB14.out.size)))
  have HX5b := keep (HX4.out.below HB45.out)
  have HT5 := keep (HT4.out.up HB45.out)
  have HK5a := keep (HK4.out.fs (Fs.of_below (l := []) HB45.out) (by simp))
  have HS : Hid (Calls Tryd.prog 8 #[.agg #[.slice p1 n1 c1, .slice p2 n2 c2, .slice p3 n3 c3], .agg #[.slice q1 m1 d1, .slice q2 m2 d2, .slice q3 m3 d3]] w5 fun r w' => r = .returned (.bool true) ∧ Below w5.heap.size w5 w') := by
    refine (sameF_any w4.heap.size 10 11 f f _ _ w5 HB45.out.size ?_ HX5b.out).mono ?_
    · exact HX5a.out.wide HB14.out.size
    · rintro r w' ⟨v, rfl, hv, hb⟩
      rw [hv.2 rfl]; exact ⟨rfl, hb⟩
  have a0 := HK5a.out.cell 0 rfl
  have a1 := HK5a.out.cell 1 rfl
  have a2 := HK5a.out.cell 2 rfl
  have b0 := HK5.out.cell 0 rfl
  have b1 := HK5.out.cell 1 rfl
  have b2 := HK5.out.cell 2 rfl
  go_wp2_with (first
    | refine wpList_store_row rfl 26 (.tmp 6) (.tmp 33) rfl w4.heap.size #[.slice q1 m1 d1, .slice q2 m2 d2, .slice q3 m3 d3] rfl rfl 26 #[.slice none 0 0, .slice none 0 0, .slice none 0 0] HD4.out (info_F [.slice q1 m1 d1, .slice q2 m2 d2, .slice q3 m3 d3] rfl) rfl (by simp [Value.oneCell']) ?_
    | rw [hw5]
    | refine wpList_load_row rfl 26 (.tmp 3) rfl w1.heap.size rfl 26 #[.slice p1 n1 c1, .slice p2 n2 c2, .slice p3 n3 c3] (0, 0) _ HK5a.out Tryd.underlying26 rfl (info_F [.slice p1 n1 c1, .slice p2 n2 c2, .slice p3 n3 c3] rfl) ?_
    | refine wpList_load_row rfl 26 (.tmp 6) rfl w4.heap.size rfl 26 #[.slice q1 m1 d1, .slice q2 m2 d2, .slice q3 m3 d3] (0, 0) _ HK5.out Tryd.underlying26 rfl (info_F [.slice q1 m1 d1, .slice q2 m2 d2, .slice q3 m3 d3] rfl) ?_)
  refine HS.out.mono ?_
  rintro r w6 ⟨rfl, hb6⟩
  have HK6 := keep (HK5.out.fs (Fs.of_below (l := []) hb6) (by simp))
  have HPr : Hid (Calls Tryd.prog 7 #[.agg #[.slice q1 m1 d1, .slice q2 m2 d2, .slice q3 m3 d3]] w6 _) := print_any w4.heap.size HT4.out.gl f hwf _ w6 (Nat.le_trans HB45.out.size hb6.size) (HX5b.out.below (hb6.mono HB45.out.size)) (HT5.out.up hb6) (by omega)
  have HB6 := keep hb6
  have b0 := HK6.out.cell 0 rfl
  have b1 := HK6.out.cell 1 rfl
  have b2 := HK6.out.cell 2 rfl
  clear HS hb6 HK5 HK5a HX5a HX5b hw5 HD4 a0 a1 a2
  go_wp2_with (first
    | refine wpList_load_row rfl 26 (.tmp 6) rfl w4.heap.size rfl 26 #[.slice q1 m1 d1, .slice q2 m2 d2, .slice q3 m3 d3] (0, 0) _ HK6.out Tryd.underlying26 rfl (info_F [.slice q1 m1 d1, .slice q2 m2 d2, .slice q3 m3 d3] rfl) ?_)
  refine HPr.out.mono ?_
  rintro r w7 ⟨rfl, hb7⟩
  go_wp2
  go_ret
  exact ⟨rfl, ((HB1.out.trans (HB14.out.mono HB1.out.size)).trans (HB45.out.mono (Nat.le_trans HB1.out.size HB14.out.size))).trans ((HB6.out.trans (hb7.mono HB6.out.size)).mono (Nat.le_trans (Nat.le_trans HB1.out.size HB14.out.size) HB45.out.size))⟩

theorem turns_any (s : ByteArray) (hs : s.size ≤ 281474976710656) (w : World) (ht : Tabs w) :
    Calls Tryd.prog 3 #[.string s] w fun r w' => r = .returned (.bool true) ∧ Below w.heap.size w w' := by
  rcases parse_cases s.data.toList with ⟨x, hp, hx⟩ | ⟨f, r, hl, hg, hp⟩
  · exact turns_wrong s hs x hp hx w ht
  · obtain ⟨hw, h1, h2⟩ := turn_facts hg hl
    by_cases hb : 1200 < (addsW [] (toksF f)).length
    · rw [if_pos hb] at h2
      exact turns_long s hs f hp hw _ rfl h1 hb h2 w ht
    · rw [if_neg hb] at h2
      exact turns_right s hs f hp hw _ rfl h1 hb h2 w ht
end Go.Proofs.YtkobiojndamofaaDoor.Lr
