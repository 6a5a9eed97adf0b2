/- The program's own writer: a program. -/
import Derived.Test.YtkobiojndamofaaDoorLwWv2
namespace Go.Proofs.YtkobiojndamofaaDoor.Lr
set_option linter.unusedVariables false
set_option linter.unusedSimpArgs false
open Go.ChangeShapes Go.WideShapes Go.ChangeAt Go.RowKit Lg

set_option maxHeartbeats 8000000 in
set_option maxRecDepth 100000 in
/-- Nothing more of a parameter. -/
theorem more_p (B b lo : Nat) (us : List Vr) : MoreOK B b lo 36 #[] (fun _ => True) (fun _ => []) us := by
  intro w v o hv hi h ht hl
  show Calls Tryd.prog 36 #[.agg #[.string ⟨v.name.toArray⟩, .bool v.secret, .int .i64 v.size]] w _
  have HO := keep (h.below ((Below.refl w.heap.size w).alloc (Nat.le_refl _) (.cells #[.string ⟨v.name.toArray⟩, .bool v.secret, .int .i64 v.size] 62)))
  have HF := keep (Fw.of_below (b := b) (lo := lo) ((Below.refl w.heap.size w).alloc (Nat.le_refl _) (.cells #[.string ⟨v.name.toArray⟩, .bool v.secret, .int .i64 v.size] 62)))
  clear h ht hl hi
  go_enter Tryd.func36, Tryd.ntmps36
  go_wp2
  go_end0
  exact ⟨rfl, HO.out, HF.out⟩

set_option maxHeartbeats 8000000 in
set_option maxRecDepth 100000 in
/-- An array's size. -/
theorem more_a (B b lo bw : Nat) (hB : B ≤ b) (hg : GL B) (hnw : bw ≠ b) (us : List Vr) (hwf : ∀ v ∈ us, wfA v) : MoreOK B b lo 37 #[.pointer (some ⟨bw, 0, none⟩)] (fun W => Bk W bw [.pointer (some ⟨b, 0, none⟩)] 66) (fun v => [Lib.decDigits v.size.toNat]) us := by
  intro w v o hv hi h ht hl
  show Calls Tryd.prog 37 #[.agg #[.string ⟨v.name.toArray⟩, .bool v.secret, .int .i64 v.size], .pointer (some ⟨bw, 0, none⟩)] w _
  obtain ⟨_, k1, k2⟩ := hwf v hv
  have hl : (addsW o [Lib.decDigits v.size.toNat]).length ≤ 1000000 := hl
  show Calls _ _ _ w fun r w' => r = .returned (.tuple #[]) ∧ Wrote b lo w (addsW o [Lib.decDigits v.size.toNat]) w'
  rw [← itoa_dec (show 0 ≤ v.size by omega)] at hl ⊢
  rw [adds_cons, adds_nil] at hl ⊢
  obtain ⟨w1, hw1⟩ : ∃ w1, w.alloc (.cells #[.string ⟨v.name.toArray⟩, .bool v.secret, .int .i64 v.size] 62) = w1 := ⟨_, rfl⟩
  have hb : Below w.heap.size w w1 := by rw [← hw1]; exact (Below.refl w.heap.size w).alloc (Nat.le_refl _) _
  have HF := keep (Fw.of_below (b := b) (lo := lo) hb)
  have hV : Bk w1 w.heap.size [.string ⟨v.name.toArray⟩, .bool v.secret, .int .i64 v.size] 62 := by rw [← hw1]; exact Bk.new w _ _
  have c0 := (hi.fw HF.out hnw (by decide)).cell 0 rfl
  have c1 := hV.cell 2 rfl
  have HC := keep (number_wr b lo o v.size (by omega) (by omega) w1 (h.below hb) (ht.up hb) hl)
  clear h ht hl hi hV hb
  go_enter Tryd.func37, Tryd.ntmps37
  go_wp2_with fail
  refine HC.out.mono ?_
  rintro r w2 ⟨rfl, h2⟩
  have H2 := keep h2
  clear h2 HC
  go_wp2
  go_end0
  exact ⟨rfl, H2.out.1, HF.out.trans H2.out.2⟩

/-- A program's words between its brackets. -/
def restF (f : Lg.Fn) : List (List UInt8) := [102, 110] :: (([40] :: (f.params.flatMap (toksV fun _ => []) ++ [[41]])) ++ (([40] :: (f.arrays.flatMap (toksV fun v => [Lib.decDigits v.size.toNat]) ++ [[41]])) ++ f.body.flatMap (toksS 9)))
theorem toksF_rest (f : Lg.Fn) : toksF f = [40] :: (restF f ++ [[41]]) := by
  have h1 : (toksV fun _ => []) = toksP := rfl
  have h2 : (toksV fun v => [Lib.decDigits v.size.toNat]) = toksA := rfl
  unfold toksF restF
  rw [h1, h2]
  simp

set_option maxHeartbeats 8000000 in
set_option maxRecDepth 100000 in
theorem program1_wr (B b lo : Nat) (hB : B ≤ b) (hg : GL B) (f : Lg.Fn) (hwf : wfF f) (s1 s2 s3 : Value) (bw bf : Nat) (hnw : bw ≠ b) (hnf : bf ≠ b) (o : List UInt8) (w : World) (hW : Bk w bw [.pointer (some ⟨b, 0, none⟩)] 66) (hF : Bk w bf [s1, s2, s3] 26)
    (hx1 : VrIs w B f.params s1) (hx2 : VrIs w B f.arrays s2) (hx3 : StIs w B 10 11 f.body s3) (h : WO w b lo o) (ht : Tabs w) (hl : (addsW o (restF f)).length ≤ 1000000) :
    Calls Tryd.prog 33 #[.pointer (some ⟨bw, 0, none⟩), .pointer (some ⟨bf, 0, none⟩)] w fun r w' => r = .returned (.tuple #[]) ∧ Wrote b lo w (addsW o (restF f)) w' := by
  obtain ⟨p1, n1, c1, rfl⟩ := hx1.slice
  obtain ⟨p2, n2, c2, rfl⟩ := hx2.slice
  obtain ⟨p3, n3, c3, rfl⟩ := hx3.slice
  obtain ⟨hp, ha, hb⟩ := hwf
  unfold restF at hl ⊢
  rw [adds_cons, adds_app, adds_app] at hl ⊢
  have HB : Hid (∀ W, Fw b lo w W → Below B w W) := fun W hW => hW.below hB h.lt h.le
  have HTa : Hid (∀ W, Fw b lo w W → Tabs W) := fun W hW => ht.wrote (p := []) hB hg h hW
  have hl3 := Nat.le_trans (adds_le _ _) hl
  have hl2 := Nat.le_trans (adds_le _ _) hl3
  have HC := keep (wo_word b lo o ⟨#[102, 110]⟩ w h (Nat.le_trans (adds_le _ _) hl2))
  obtain ⟨O1, hO1⟩ : ∃ O, addW o [102, 110] = O := ⟨_, rfl⟩
  have HC : Hid (Calls Tryd.prog 34 #[.pointer (some ⟨b, 0, none⟩), .string ⟨#[102, 110]⟩] w fun r w' => r = .returned (.tuple #[]) ∧ Wrote b lo w O1 w') := by rw [← hO1]; exact HC.out
  rw [hO1] at hl hl3 hl2 ⊢
  have HP : Hid (∀ W, Wrote b lo w O1 W → Calls Tryd.prog 35 #[.pointer (some ⟨b, 0, none⟩), .slice p1 n1 c1, .func (.func 36) #[] #[]] W fun r w' => r = .returned (.tuple #[]) ∧ Wrote b lo W (addsW O1 ([40] :: (f.params.flatMap (toksV fun _ => []) ++ [[41]]))) w') := fun W hW =>
    vars_wr B b lo hB hg _ #[] (enters_of Tryd.func36 (by kernel_rfl) rfl) (fun _ => True) (fun _ _ _ _ => trivial) _ f.params (more_p B b lo f.params) _ O1 W (hx1.below (HB.out _ hW.2)) trivial hW.1 (HTa.out _ hW.2) hl2
  obtain ⟨O2, hO2⟩ : ∃ O, addsW O1 ([40] :: (f.params.flatMap (toksV fun _ => []) ++ [[41]])) = O := ⟨_, rfl⟩
  rw [hO2] at hl hl3 HP ⊢
  clear hl2
  have HA : Hid (∀ W, Wrote b lo w O2 W → Calls Tryd.prog 35 #[.pointer (some ⟨b, 0, none⟩), .slice p2 n2 c2, .func (.func 37) #[] #[.pointer (some ⟨bw, 0, none⟩)]] W fun r w' => r = .returned (.tuple #[]) ∧ Wrote b lo W (addsW O2 ([40] :: (f.arrays.flatMap (toksV fun v => [Lib.decDigits v.size.toNat]) ++ [[41]]))) w') := fun W hW' =>
    vars_wr B b lo hB hg _ _ (enters_of Tryd.func37 (by kernel_rfl) rfl) (fun W => Bk W bw [.pointer (some ⟨b, 0, none⟩)] 66) (fun _ _ hi hf => hi.fw hf hnw (by decide)) _ f.arrays (more_a B b lo bw hB hg hnw f.arrays ha) _ O2 W (hx2.below (HB.out _ hW'.2)) (hW.fw hW'.2 hnw (by decide)) hW'.1 (HTa.out _ hW'.2) hl3
  obtain ⟨O3, hO3⟩ : ∃ O, addsW O2 ([40] :: (f.arrays.flatMap (toksV fun v => [Lib.decDigits v.size.toNat]) ++ [[41]])) = O := ⟨_, rfl⟩
  rw [hO3] at hl HA ⊢
  have HS : Hid (∀ W, Wrote b lo w O3 W → Calls Tryd.prog 39 #[.pointer (some ⟨b, 0, none⟩), .slice p3 n3 c3] W fun r w' => r = .returned (.tuple #[]) ∧ Wrote b lo W (addsW O3 (f.body.flatMap (toksS 9))) w') := fun W hW =>
    stmts_wr B b lo 10 9 hB hg (stmt_wr B b lo 10 hB hg 9 (by omega)) 10 (by omega) f.body hb _ O3 W (hx3.below (HB.out _ hW.2)) hW.1 (HTa.out _ hW.2) hl
  have HWb := keep hW
  have HFb := keep hF
  have a0 := hW.cell 0 rfl
  clear hl hl3 hx1 hx2 hx3 h ht hg hW hF hp ha hb hO1 hO2 hO3
  go_enter Tryd.func33, Tryd.ntmps33
  go_wp2_with fail
  refine HC.out.mono ?_
  rintro r w1 ⟨rfl, h1⟩
  have H1 := keep h1
  have a1 := (HWb.out.fw h1.2 hnw (by decide)).cell 0 rfl
  have b1 := (HFb.out.fw h1.2 hnf (by decide)).cell 0 rfl
  have HC1 := keep (HP.out w1 h1)
  clear h1 HC HP a0
  go_wp2_with fail
  refine HC1.out.mono ?_
  rintro r w2 ⟨rfl, h2⟩
  have H2 := keep (H1.out.trans h2)
  have a2 := (HWb.out.fw H2.out.2 hnw (by decide)).cell 0 rfl
  have b2 := (HFb.out.fw H2.out.2 hnf (by decide)).cell 1 rfl
  have HC2 := keep (HA.out w2 H2.out)
  clear h2 HC1 HA a1 b1
  go_wp2_with fail
  refine HC2.out.mono ?_
  rintro r w3 ⟨rfl, h3⟩
  have H3 := keep (H2.out.trans h3)
  have a3 := (HWb.out.fw H3.out.2 hnw (by decide)).cell 0 rfl
  have b3 := (HFb.out.fw H3.out.2 hnf (by decide)).cell 2 rfl
  have HC3 := keep (HS.out w3 H3.out)
  clear h3 HC2 HS a2 b2
  go_wp2_with fail
  refine HC3.out.mono ?_
  rintro r w4 ⟨rfl, h4⟩
  have H4 := keep (H3.out.trans h4)
  clear h4 HC3 a3 b3
  go_wp2
  go_end0
  exact ⟨rfl, H4.out⟩

set_option maxHeartbeats 8000000 in
set_option maxRecDepth 100000 in
theorem program_wr (B b lo : Nat) (hB : B ≤ b) (hg : GL B) (f : Lg.Fn) (hwf : wfF f) (s1 s2 s3 : Value) (out : List UInt8) (w : World)
    (hx1 : VrIs w B f.params s1) (hx2 : VrIs w B f.arrays s2) (hx3 : StIs w B 10 11 f.body s3) (h : WO w b lo out) (ht : Tabs w) (hl : (addsW out (toksF f)).length ≤ 1000000) :
    Calls Tryd.prog 14 #[.pointer (some ⟨b, 0, none⟩), .agg #[s1, s2, s3]] w fun r w' => r = .returned (.tuple #[]) ∧ Wrote b lo w (addsW out (toksF f)) w' := by
  obtain ⟨p1, n1, c1, rfl⟩ := hx1.slice
  obtain ⟨p2, n2, c2, rfl⟩ := hx2.slice
  obtain ⟨p3, n3, c3, rfl⟩ := hx3.slice
  rw [toksF_rest] at hl ⊢
  obtain ⟨w1, hw1⟩ : ∃ w1, w.alloc (.cells #[.pointer (some ⟨b, 0, none⟩)] 66) = w1 := ⟨_, rfl⟩
  obtain ⟨w2, hw2⟩ : ∃ w2, w1.alloc (.cells #[.slice p1 n1 c1, .slice p2 n2 c2, .slice p3 n3 c3] 26) = w2 := ⟨_, rfl⟩
  have hs1 : w1.heap.size = w.heap.size + 1 := by rw [← hw1]; simp
  have hb2 : Below w.heap.size w w2 := by rw [← hw2, ← hw1]; exact ((Below.refl w.heap.size w).alloc (Nat.le_refl _) _).alloc (by simp) _
  have HF0 := keep (Fw.of_below (b := b) (lo := lo) hb2)
  have hBW : Bk w2 w.heap.size [.pointer (some ⟨b, 0, none⟩)] 66 := by
    rw [← hw2, ← hw1]; exact (Bk.new w [.pointer (some ⟨b, 0, none⟩)] 66).up _
  have hBF : Bk w2 (w.heap.size + 1) [.slice p1 n1 c1, .slice p2 n2 c2, .slice p3 n3 c3] 26 := by
    rw [← hs1, ← hw2]; exact Bk.new w1 _ _
  have hne : w.heap.size ≠ b ∧ w.heap.size + 1 ≠ b := by have := h.lt; have := h.le; omega
  have HO := keep (h.below hb2)
  have HT2 := keep (ht.up hb2)
  have hbB : Below B w w2 := hb2.mono (Nat.le_trans hB (Nat.le_trans (Nat.le_of_lt h.lt) h.le))
  have hl3 : (addsW (addW out [40]) (restF f)).length ≤ 1000000 := by
    rw [adds_cons, adds_app] at hl
    exact Nat.le_trans (adds_le [[41]] _) hl
  have hin : ∀ W, Wrote b lo w2 (addW out [40]) W → Calls Tryd.prog 33 #[.pointer (some ⟨w.heap.size, 0, none⟩), .pointer (some ⟨w.heap.size + 1, 0, none⟩)] W fun r w' => r = .returned (.tuple #[]) ∧ Wrote b lo W (addsW (addW out [40]) (restF f)) w' := fun W hW => by
    have hbW := hbB.trans (hW.2.below hB HO.out.lt HO.out.le)
    exact program1_wr B b lo hB hg f hwf _ _ _ w.heap.size (w.heap.size + 1) hne.1 hne.2 (addW out [40]) W (hBW.fw hW.2 hne.1 (by decide)) (hBF.fw hW.2 hne.2 (by decide)) (hx1.below hbW) (hx2.below hbW) (hx3.below hbW) hW.1 (HT2.out.wrote (p := []) hB hg HO.out hW.2) hl3
  have HC := keep (bracketed_wr b lo 33 #[.pointer (some ⟨w.heap.size, 0, none⟩), .pointer (some ⟨w.heap.size + 1, 0, none⟩)] out (restF f) w2 (enters_of Tryd.func33 (by kernel_rfl) rfl) hin HO.out hl)
  have z0 := hBW.cell 0 rfl
  clear hin hx1 hx2 hx3 h ht hl hg HT2 HO hl3 hb2 hbB hBW hBF hwf
  go_enter Tryd.func14, Tryd.ntmps14
  go_wp2_with fail
  refine HC.out.mono ?_
  rintro r w4 ⟨rfl, h3⟩
  have H3 := keep h3
  clear h3 HC
  go_wp2
  go_end0
  exact ⟨rfl, H3.out.1, HF0.out.trans H3.out.2⟩
end Go.Proofs.YtkobiojndamofaaDoor.Lr
