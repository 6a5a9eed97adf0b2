/- A text's program, in chapter 4's laws; the closed fact that they ask first. Written by tools/gen_valive4.py. -/
import Derived.Test.YtemdnmfldihalaaDoorLdParse
import Derived.Test.YtemdnmfldihalaaDoorLkCheck
namespace Go.Proofs.YtemdnmfldihalaaDoor.Lr
set_option linter.unusedVariables false
set_option linter.unusedSimpArgs false
open Go.ChangeShapes Go.WideShapes Go.ChangeAt Go.RowKit Lg Rf

theorem parse_wf (l : List UInt8) : wfF (parseT l).1 := by
  have hn : wfF nilFn := ⟨(fun v hv => by cases hv), (fun v hv => by cases hv), (fun t ht => by cases ht)⟩
  unfold parseT
  by_cases h : 1200 < l.length
  · rw [if_pos h]; exact hn
  · rw [if_neg h]
    cases hr : fnT (words l) with
    | error x => exact hn
    | ok p =>
      obtain ⟨f, r⟩ := p
      exact fnT_wf hr
theorem FnX.mono {w : World} {lo hi lo' hi' : Nat} {f : Lg.Fn} {v : Value} (h : FnX w lo hi f v) (h1 : lo' ≤ lo) (h2 : hi ≤ hi') : FnX w lo' hi' f v := by
  obtain ⟨s1, s2, s3, h0, k1, k2, k3⟩ := h
  exact ⟨s1, s2, s3, h0, k1.mono h1 h2, k2.mono h1 h2, StX.mono (fun i hi => by omega) k3⟩
theorem FnX.slices {w : World} {lo hi : Nat} {f : Lg.Fn} {v1 v2 v3 : Value} (h : FnX w lo hi f (.agg #[v1, v2, v3])) : (∃ p n c, v1 = .slice p n c) ∧ (∃ p n c, v2 = .slice p n c) ∧ ∃ p n c, v3 = .slice p n c := by
  obtain ⟨t1, t2, t3, e0, h1, h2, h3⟩ := h
  injection e0 with e0
  have e1 : v1 = t1 := by injection e0 with e0; injection e0
  have e2 : v2 = t2 := by injection e0 with e0; injection e0 with _ e0; injection e0
  have e3 : v3 = t3 := by injection e0 with e0; injection e0 with _ e0; injection e0 with _ e0; injection e0
  subst e1 e2 e3
  exact ⟨(h1.vrIs (Nat.le_refl _)).slice, (h2.vrIs (Nat.le_refl _)).slice, h3.slice⟩
set_option maxHeartbeats 2000000 in
set_option maxRecDepth 100000 in
theorem fn_any (s : ByteArray) (hs : s.size ≤ 281474976710656) (w : World) (ht : Tabs w) :
    Calls Tryd.prog 25 #[.string s] w fun r w' => ∃ (v1 v2 v3 : Value), r = .returned (.agg #[v1, v2, v3]) ∧ FnX w' w.heap.size w'.heap.size (parseT s.data.toList).1 (.agg #[v1, v2, v3]) ∧ Below w.heap.size w w' := by
  have hb0 : Below w.heap.size w (w.alloc (.cells #[.slice none 0 0, .slice none 0 0, .slice none 0 0] 25)) := (Below.refl _ _).alloc (Nat.le_refl _) _
  have HC := keep (parse_any s hs (w.alloc (.cells #[.slice none 0 0, .slice none 0 0, .slice none 0 0] 25)) (ht.below hb0))
  have HB0 := keep hb0
  have HD0 := keep (Bk.new w [.slice none 0 0, .slice none 0 0, .slice none 0 0] 25)
  clear ht hb0
  generalize parseT s.data.toList = pt at *
  obtain ⟨f, e⟩ := pt
  dsimp only at HC
  go_enter Tryd.func25, Tryd.ntmps25
  go_wp2_with fail
  refine HC.out.mono ?_
  rintro r w1 ⟨v1, v2, v3, rfl, hx, hb⟩
  rw [show (w.alloc (.cells #[.slice none 0 0, .slice none 0 0, .slice none 0 0] 25)).heap.size = w.heap.size + 1 by simp] at hx hb
  obtain ⟨⟨p1, n1, c1, rfl⟩, ⟨p2, n2, c2, rfl⟩, p3, n3, c3, rfl⟩ := hx.slices
  have HD1 : Hid (Bk w1 w.heap.size [.slice none 0 0, .slice none 0 0, .slice none 0 0] 25) := by
    have h := HD0.out
    show Bk _ _ _ _
    unfold Bk at h ⊢
    rw [hb.block _ (by omega)]; exact h
  have hz1 : w.heap.size + 1 ≤ w1.heap.size := HD1.out.lt
  obtain ⟨w2, hw2⟩ : ∃ w2, w1.alloc (.cells #[.slice p1 n1 c1, .slice p2 n2 c2, .slice p3 n3 c3] 25) = w2 := ⟨_, rfl⟩
  have hb2 : Below w1.heap.size w1 w2 := by rw [← hw2]; exact (Below.refl _ _).alloc (Nat.le_refl _) _
  have HD2 := keep (HD1.out.fs (Fs.of_below (l := []) hb2) (by simp))
  have HE2 : Hid (Bk w2 w1.heap.size [.slice p1 n1 c1, .slice p2 n2 c2, .slice p3 n3 c3] 25) := by
    show Bk _ _ _ _
    rw [← hw2]; exact Bk.new _ _ _
  have HB2 := keep ((HB0.out.trans (hb.mono (by omega))).trans (hb2.mono (by omega)))
  have HX2 := keep (hx.keep fun i a b => hb2.block i b)
  have hz2 : w1.heap.size ≤ w2.heap.size := hb2.size
  have HW2 := keep hw2
  clear hx hb hb2 hw2 HC HD0 HD1 HB0
  go_wp2_with (first
    | rw [HW2.out]
    | refine wpList_load_row rfl 25 (.tmp 3) rfl w1.heap.size rfl 25 #[.slice p1 n1 c1, .slice p2 n2 c2, .slice p3 n3 c3] (0, 0) _ HE2.out Tryd.underlying25 rfl (info_F [.slice p1 n1 c1, .slice p2 n2 c2, .slice p3 n3 c3] rfl) ?_
    | refine wpList_store_row rfl 25 (.tmp 2) (.tmp 10) rfl w.heap.size #[.slice p1 n1 c1, .slice p2 n2 c2, .slice p3 n3 c3] rfl rfl 25 #[.slice none 0 0, .slice none 0 0, .slice none 0 0] HD2.out (info_F [.slice p1 n1 c1, .slice p2 n2 c2, .slice p3 n3 c3] rfl) rfl (by simp [Value.oneCell']) ?_)
  (try simp only [Exit.inBlock, Exit.then])
  refine bodyPost_ret (results_cell_row rfl _ _ w.heap.size 25 #[.slice p1 n1 c1, .slice p2 n2 c2, .slice p3 n3 c3] (0, 0) _ rfl (setRow_heap _ _ _ _ _ _ HD2.out) Tryd.underlying25 rfl (info_F [.slice p1 n1 c1, .slice p2 n2 c2, .slice p3 n3 c3] rfl)) rfl ?_
  refine ⟨_, _, _, rfl, ?_, below_setRow HB2.out (Nat.le_refl _) _⟩
  exact (HX2.out.keep fun i a b => setRow_other _ _ _ _ (by omega)).mono (by omega) (by simp; omega)
def tx0 : List UInt8 := [40, 102, 110, 32, 40, 40, 115, 101, 99, 32, 97, 41, 41, 32, 40, 41, 32, 40, 108, 101, 116, 32, 112, 117, 98, 32, 120, 32, 97, 41, 41]
theorem tx0_check : checkK (parseT tx0).1 = 10 := by kernel_rfl
def tx1 : List UInt8 := [40, 102, 110, 32, 40, 40, 115, 101, 99, 32, 97, 41, 41, 32, 40, 41, 32, 40, 108, 101, 116, 32, 115, 101, 99, 32, 120, 32, 97, 41, 32, 40, 114, 101, 116, 32, 120, 41, 41]
theorem tx1_check : checkK (parseT tx1).1 = 0 := by kernel_rfl
def tx2 : List UInt8 := [40, 102, 110, 32, 40, 40, 115, 101, 99, 32, 97, 41, 41, 32, 40, 40, 112, 117, 98, 32, 116, 32, 50, 41, 41, 32, 40, 114, 101, 116, 32, 40, 97, 116, 32, 116, 32, 97, 41, 41, 41]
theorem tx2_check : checkK (parseT tx2).1 = 10 := by kernel_rfl
def tx3 : List UInt8 := [40, 102, 110, 32, 40, 41, 32, 40, 41, 32, 40, 114, 101, 116, 32, 120, 41, 41]
theorem tx3_check : checkK (parseT tx3).1 = 6 := by kernel_rfl
theorem label_one (s : ByteArray) (c : Int) (hs : s.size ≤ 281474976710656) (hc : checkK (parseT s.data.toList).1 = c) (w : World) (ht : Tabs w) :
    Calls Tryd.prog 25 #[.string s] w fun r w' => ∃ (v1 v2 v3 : Value), r = .returned (.agg #[v1, v2, v3]) ∧ (∃ p n c, v1 = .slice p n c) ∧ (∃ p n c, v2 = .slice p n c) ∧ (∃ p n c, v3 = .slice p n c) ∧ Below w.heap.size w w' ∧
      Calls Tryd.prog 7 #[.agg #[v1, v2, v3]] w' fun r w2 => r = .returned (.int .i64 c) ∧ Below w.heap.size w w2 := by
  refine (fn_any s hs w ht).mono ?_
  rintro r w1 ⟨v1, v2, v3, rfl, hx, hb⟩
  obtain ⟨h1, h2, h3⟩ := hx.slices
  refine ⟨v1, v2, v3, rfl, h1, h2, h3, hb, ?_⟩
  refine (check_any w1.heap.size (parseT s.data.toList).1 v1 v2 v3 w1 (Nat.le_refl _) (parse_wf _) (hx.fnIs (Nat.le_refl _))).mono ?_
  rintro r w2 ⟨rfl, hb2⟩
  exact ⟨by rw [hc], hb.trans (hb2.mono hb.size)⟩
set_option maxHeartbeats 8000000 in
set_option maxRecDepth 100000 in
theorem alive_any (w : World) (ht : Tabs w) :
    Calls Tryd.prog 9 #[] w fun r w' => r = .returned (.bool true) ∧ Below w.heap.size w w' := by
  have HT : Hid (∀ W, Below w.heap.size w W → Tabs W) := fun W h => ht.below h
  have H0 := keep (fun W hW => label_one ⟨#[40, 102, 110, 32, 40, 40, 115, 101, 99, 32, 97, 41, 41, 32, 40, 41, 32, 40, 108, 101, 116, 32, 112, 117, 98, 32, 120, 32, 97, 41, 41]⟩ 10 (by decide) tx0_check W (HT.out W hW))
  have H1 := keep (fun W hW => label_one ⟨#[40, 102, 110, 32, 40, 40, 115, 101, 99, 32, 97, 41, 41, 32, 40, 41, 32, 40, 108, 101, 116, 32, 115, 101, 99, 32, 120, 32, 97, 41, 32, 40, 114, 101, 116, 32, 120, 41, 41]⟩ 0 (by decide) tx1_check W (HT.out W hW))
  have H2 := keep (fun W hW => label_one ⟨#[40, 102, 110, 32, 40, 40, 115, 101, 99, 32, 97, 41, 41, 32, 40, 40, 112, 117, 98, 32, 116, 32, 50, 41, 41, 32, 40, 114, 101, 116, 32, 40, 97, 116, 32, 116, 32, 97, 41, 41, 41]⟩ 10 (by decide) tx2_check W (HT.out W hW))
  have H3 := keep (fun W hW => label_one ⟨#[40, 102, 110, 32, 40, 41, 32, 40, 41, 32, 40, 114, 101, 116, 32, 120, 41, 41]⟩ 6 (by decide) tx3_check W (HT.out W hW))
  clear ht
  go_enter Tryd.func9, Tryd.ntmps9
  go_wp2_with fail
  refine (H0.out _ (Below.refl _ _)).mono ?_
  rintro r a0 ⟨v1, v2, v3, rfl, ⟨p1, n1, c1, rfl⟩, ⟨p2, n2, c2, rfl⟩, ⟨p3, n3, c3, rfl⟩, hb, hc⟩
  have HA0 := keep hb
  have HC := keep hc
  clear hb hc
  go_wp2_with fail
  refine HC.out.mono ?_
  rintro r b0 ⟨rfl, hb⟩
  have HB0 := keep hb
  clear hb HC H0
  go_wp2_with fail
  refine (H1.out _ HB0.out).mono ?_
  rintro r a1 ⟨v1, v2, v3, rfl, ⟨p1, n1, c1, rfl⟩, ⟨p2, n2, c2, rfl⟩, ⟨p3, n3, c3, rfl⟩, hb, hc⟩
  have HA1 := keep (HB0.out.trans (hb.mono HB0.out.size))
  have HC := keep hc
  clear hb hc
  go_wp2_with fail
  refine HC.out.mono ?_
  rintro r b1 ⟨rfl, hb⟩
  have HB1 := keep (HB0.out.trans (hb.mono HB0.out.size))
  clear hb HC H1
  go_wp2_with fail
  refine (H2.out _ HB1.out).mono ?_
  rintro r a2 ⟨v1, v2, v3, rfl, ⟨p1, n1, c1, rfl⟩, ⟨p2, n2, c2, rfl⟩, ⟨p3, n3, c3, rfl⟩, hb, hc⟩
  have HA2 := keep (HB1.out.trans (hb.mono HB1.out.size))
  have HC := keep hc
  clear hb hc
  go_wp2_with fail
  refine HC.out.mono ?_
  rintro r b2 ⟨rfl, hb⟩
  have HB2 := keep (HB1.out.trans (hb.mono HB1.out.size))
  clear hb HC H2
  go_wp2_with fail
  refine (H3.out _ HB2.out).mono ?_
  rintro r a3 ⟨v1, v2, v3, rfl, ⟨p1, n1, c1, rfl⟩, ⟨p2, n2, c2, rfl⟩, ⟨p3, n3, c3, rfl⟩, hb, hc⟩
  have HA3 := keep (HB2.out.trans (hb.mono HB2.out.size))
  have HC := keep hc
  clear hb hc
  go_wp2_with fail
  refine HC.out.mono ?_
  rintro r b3 ⟨rfl, hb⟩
  have HB3 := keep (HB2.out.trans (hb.mono HB2.out.size))
  clear hb HC H3
  go_wp2
  go_ret
  exact ⟨rfl, HB3.out⟩
end Go.Proofs.YtemdnmfldihalaaDoor.Lr
