/- The checker's set, put. Written by tools/gen_kset.py. -/
import Derived.Test.YtemdnmfldihalaaDoorLkLet
namespace Go.Proofs.YtemdnmfldihalaaDoor.Lr
set_option linter.unusedVariables false
set_option linter.unusedSimpArgs false
open Go.ChangeShapes Go.WideShapes Go.ChangeAt Go.RowKit Lg

theorem set_sr {ns : List Nm} {wk lt : Nat} {dark : Bool} {t : St} {res : Except Int Bool} {e e1 : Int} {s c d : Bool} (h : ER e e1 res s) (hc : (!(byN ns t.name).isSome || (nmO (byN ns t.name)).loop) = c) (hd : (!(nmO (byN ns t.name)).secret && (s || dark)) = d) :
    SR e (refK d (refK c e1 6) 10) (thenK res fun s => setK t dark s ⟨ns, wk, lt⟩) ⟨ns, wk, lt⟩ := by
  refine refs_sr h (fun h1 => by rw [refK_ne (c := c) h1, refK_ne h1]) fun h1 => ?_
  subst h1
  unfold setK
  dsimp only
  cases hb : byN ns t.name with
  | none =>
    rw [hb] at hc
    have hc' : true = c := hc
    subst hc'
    exact .inl ⟨6, rfl, by rw [refK_yes, refK_ne (by decide)], by decide⟩
  | some v =>
    rw [hb] at hc hd
    have hc' : v.loop = c := hc
    have hd' : (!v.secret && (s || dark)) = d := hd
    dsimp only
    rw [hc', hd']
    cases c with
    | true => exact .inl ⟨6, by rw [if_pos rfl], by rw [refK_yes, refK_ne (by decide)], by decide⟩
    | false =>
      rw [if_neg (by simp), refK_no]
      cases d with
      | true => exact .inl ⟨10, by rw [if_pos rfl], refK_yes 10, by decide⟩
      | false => exact .inr ⟨_, by rw [if_neg (by simp)], refK_no 0 10, rfl⟩
theorem put_sr {rs : List Vr} {ns : List Nm} {wk lt : Nat} {dark : Bool} {x : List UInt8} {p : Ex} {res res2 : Except Int Bool} {e e1 e2 : Int} {s u d : Bool} (h : ER e e1 res s) (h2 : ER e1 e2 res2 u) (hd : (!(vrO (byV rs x)).secret && (u || dark)) = d) :
    SR e (refK d (atE rs x p s dark e2) 10) (thenK res fun s => thenK res2 fun u => thenK (placeK rs dark x p s) fun to => if (!to && (u || dark)) = true then .error 10 else .ok (⟨ns, wk, lt⟩ : Ks)) ⟨ns, wk, lt⟩ := by
  have hne : ∀ k, ¬ k = 0 → refK d (atE rs x p s dark k) 10 = k := fun k hk => by
    have : atE rs x p s dark k = k := by
      unfold atE
      cases byV rs x with
      | none => exact refK_ne hk
      | some v => exact refK_ne hk
    rw [this, refK_ne hk]
  refine refs_sr h (fun h1 => ?_) fun h1 => ?_
  · have h3 := h2.1 h1
    rw [h3]; exact hne _ h1
  · by_cases h3 : e2 = 0
    · rw [h2.good h1 h3, thenK_ok, h3]
      unfold placeK atE
      cases hb : byV rs x with
      | none => exact .inl ⟨6, rfl, by show refK d (refK true 0 6) 10 = 6; rw [refK_yes, refK_ne (by decide)], by decide⟩
      | some v =>
        rw [hb] at hd
        have hd' : (!v.secret && (u || dark)) = d := hd
        dsimp only
        cases hc : (s || (dark && !(decide (p.kind = 1) && decide (p.n < v.size)))) with
        | true => exact .inl ⟨10, by rw [if_pos rfl]; rfl, by rw [refK_yes, refK_ne (by decide)], by decide⟩
        | false =>
          rw [if_neg (by simp), thenK_ok, hd', refK_no]
          cases d with
          | true => exact .inl ⟨10, by rw [if_pos rfl], refK_yes 10, by decide⟩
          | false => exact .inr ⟨_, by rw [if_neg (by simp)], refK_no 0 10, rfl⟩
    · rw [h2.bad h1 h3]
      exact .inl ⟨e2, rfl, hne _ h3, h3⟩
set_option maxHeartbeats 16000000 in
set_option maxRecDepth 100000 in
theorem set_any (m M C B : Nat) (rs : List Vr) (A : Value) (ns : List Nm) (nv : Value) (wk lt : Nat) (e : Int) (dark : Bool) (tn : Int) (tx : List UInt8) (tsec : Bool) (a : Ex) (th el : List St) (s1 s2 s3 : Value) (w : World)
    (hM : m ≤ M) (hwf : wfE m a) (h : CK w C B rs A ns nv wk lt e) (hi : ExIs w B (M + 1) (ar [a]) s1) (hs2 : ∃ p n c, s2 = .slice p n c) (hs3 : ∃ p n c, s3 = .slice p n c) :
    Calls Tryd.prog 44 #[.pointer (some ⟨C, 0, none⟩), .agg (stA ⟨2, tn, tx, tsec, [a], th, el⟩ s1 s2 s3), .bool dark] w fun r w' => StEnd w C B rs A ns nv e (thenK (exprK rs ns dark m a) fun s => setK ⟨2, tn, tx, tsec, [a], th, el⟩ dark s ⟨ns, wk, lt⟩) r w' := by
  have hCl := h.lt
  have hBw : B ≤ w.heap.size := Nat.le_trans h.hB (Nat.le_of_lt hCl)
  obtain ⟨p1, n1, c1, rfl⟩ := hi.slice
  obtain ⟨p2, n2, c2, rfl⟩ := hs2
  obtain ⟨p3, n3, c3, rfl⟩ := hs3
  obtain ⟨w1, hw1⟩ : ∃ w1, w.alloc (.cells #[.int .i64 2, .int .i64 tn, .string ⟨tx.toArray⟩, .bool tsec, .slice p1 n1 c1, .slice p2 n2 c2, .slice p3 n3 c3] 67) = w1 := ⟨_, rfl⟩
  have HB1 : Hid (Below w.heap.size w w1) := by
    show Below _ _ _
    rw [← hw1]; exact (Below.refl _ _).alloc (Nat.le_refl _) _
  have HX1 : Hid (Bk w1 w.heap.size [.int .i64 2, .int .i64 tn, .string ⟨tx.toArray⟩, .bool tsec, .slice p1 n1 c1, .slice p2 n2 c2, .slice p3 n3 c3] 67) := by
    show Bk _ _ _ _
    rw [← hw1]; exact Bk.new _ _ _
  have HK := keep h
  have HP := keep (part_any B M [a] (.slice p1 n1 c1) 0 a w1 (Nat.le_trans hBw HB1.out.size) (hi.below (HB1.out.mono hBw)) rfl)
  have x4 := HX1.out.cell 4 rfl
  have Hwf := keep hwf
  have HW1 := keep hw1
  have HI := keep hi
  clear h hi hwf hw1
  unfold stA
  go_enter Tryd.func44, Tryd.ntmps44
  go_wp2_with (first | rw [HW1.out])
  refine HP.out.mono ?_
  rintro r w2 ⟨sa, rfl, hsa, hb2⟩
  have HB2 := keep (HB1.out.trans (hb2.mono HB1.out.size))
  have HX2 := keep (HX1.out.fs (Fs.of_below (l := []) hb2) (by simp))
  have HC := keep (expr_ck m M C B rs A ns nv wk lt e dark a sa w2 hM Hwf.out (HK.out.below HB2.out) (hsa.below (hb2.mono (Nat.le_trans hBw HB1.out.size))))
  clear hsa hb2 HP x4 HW1
  go_wp2_with fail
  refine HC.out.mono ?_
  rintro r w3 ⟨s, e1, rfl, hk3, hf3, her⟩
  have HK3 := keep hk3
  have HX3 := keep (HX2.out.fs hf3 (by simp; omega))
  have HF3 := keep ((Fs.of_below HB2.out).trans hf3)
  have x2 := HX3.out.cell 2 rfl
  have HSr := keep (fun (c d : Bool) hc hd => set_sr (ns := ns) (wk := wk) (lt := lt) (dark := dark) (t := ⟨2, tn, tx, tsec, [a], th, el⟩) (c := c) (d := d) her hc hd)
  have HN := keep (byName_any C B rs A ns nv wk lt e1 tx w3 HK3.out)
  dsimp only at HSr
  generalize byN ns tx = o at *
  generalize nmO o = vo at *
  generalize o.isSome = ob at *
  obtain ⟨on, os, ol⟩ := vo
  unfold nmA at HN
  dsimp only at HSr
  clear hk3 hf3 her HC HX2
  go_wp2_with fail
  refine HN.out.mono ?_
  rintro r w4 ⟨rfl, hb4⟩
  obtain ⟨w5, hw5⟩ : ∃ w5, w4.alloc (.cells #[.string ⟨on.toArray⟩, .bool os, .bool ol] 52) = w5 := ⟨_, rfl⟩
  have hB35 : Below w3.heap.size w3 w5 := by rw [← hw5]; exact hb4.trans (((Below.refl _ _).alloc (Nat.le_refl _) _).mono hb4.size)
  have HK5 := keep (HK3.out.below hB35)
  have HF5 := keep (HF3.out.trans (Fs.of_below hB35))
  have HZ5 : Hid (Bk w5 w4.heap.size [.string ⟨on.toArray⟩, .bool os, .bool ol] 52) := by
    show Bk _ _ _ _
    rw [← hw5]; exact Bk.new _ _ _
  have hz4 : C < w4.heap.size := Nat.lt_of_lt_of_le HK3.out.lt hb4.size
  have z2 := HZ5.out.cell 2 rfl
  have HW5 := keep hw5
  have HEnd : Hid (∀ c, Calls Tryd.prog 42 #[.pointer (some ⟨C, 0, none⟩), .bool c, .int .i64 6] w5 fun r w' => r = .returned (.tuple #[]) ∧ CK w' C B rs A ns nv wk lt (refK c e1 6) ∧ Fs [C] w5 w') := fun c => refuse_ck C B rs A ns nv wk lt e1 c 6 w5 HK5.out
  clear hb4 hB35 hw5 HN x2 HX3 HF3 HK3 HX1 HB1 HK
  cases ob <;> cases ol
  all_goals (
    first | (have HC := keep (HEnd.out true); have HS1 := keep (HSr.out true); replace HS1 := keep (fun d => HS1.out d rfl)) | (have HC := keep (HEnd.out false); have HS1 := keep (HSr.out false); replace HS1 := keep (fun d => HS1.out d rfl))
    clear HEnd HSr
    go_wp2_with (first | rw [HW5.out])
    refine HC.out.mono ?_
    rintro r w6 ⟨rfl, hk6, hf6⟩
    have HZ6 := keep (HZ5.out.fs hf6 (by simp; omega))
    have HF6 := keep (HF5.out.trans hf6)
    have HK6 := keep hk6
    have z1 := HZ6.out.cell 1 rfl
    clear hk6 hf6 HC HW5 HK5 HF5 HZ5
    generalize refK _ e1 6 = e2 at *
    have HEnd : Hid (∀ c, Calls Tryd.prog 42 #[.pointer (some ⟨C, 0, none⟩), .bool c, .int .i64 10] w6 fun r w' => r = .returned (.tuple #[]) ∧ CK w' C B rs A ns nv wk lt (refK c e2 10) ∧ Fs [C] w6 w') := fun c => refuse_ck C B rs A ns nv wk lt e2 c 10 w6 HK6.out
    cases os <;> cases s <;> cases dark
    all_goals (
      first | (have HC := keep (HEnd.out true); have HS2 := keep (HS1.out true rfl)) | (have HC := keep (HEnd.out false); have HS2 := keep (HS1.out false rfl))
      clear HEnd HS1
      go_wp2_with fail
      refine HC.out.mono ?_
      rintro r w7 ⟨rfl, hk7, hf7⟩
      have HF7 := keep (HF6.out.trans hf7)
      have HK7 := keep hk7
      clear hk7 hf7 HC
      go_wp2
      go_end0
      exact ⟨_, _, _, _, _, ⟨rfl, HK7.out, HF7.out.fc _, ⟨[], by simp⟩, HS2.out⟩⟩))
set_option maxHeartbeats 16000000 in
set_option maxRecDepth 100000 in
theorem put_any (m M C B : Nat) (rs : List Vr) (A : Value) (ns : List Nm) (nv : Value) (wk lt : Nat) (e : Int) (dark : Bool) (tn : Int) (tx : List UInt8) (tsec : Bool) (a b : Ex) (th el : List St) (s1 s2 s3 : Value) (w : World)
    (hM : m ≤ M) (hwf : wfE m a) (hwb : wfE m b) (h : CK w C B rs A ns nv wk lt e) (hi : ExIs w B (M + 1) (ar [a, b]) s1) (hs2 : ∃ p n c, s2 = .slice p n c) (hs3 : ∃ p n c, s3 = .slice p n c) :
    Calls Tryd.prog 45 #[.pointer (some ⟨C, 0, none⟩), .agg (stA ⟨3, tn, tx, tsec, [a, b], th, el⟩ s1 s2 s3), .bool dark] w fun r w' => StEnd w C B rs A ns nv e (thenK (exprK rs ns dark m a) fun s => thenK (exprK rs ns dark m b) fun u => thenK (placeK rs dark tx a s) fun to => if (!to && (u || dark)) = true then .error 10 else .ok (⟨ns, wk, lt⟩ : Ks)) r w' := by
  have hCl := h.lt
  have hBw : B ≤ w.heap.size := Nat.le_trans h.hB (Nat.le_of_lt hCl)
  obtain ⟨p1, n1, c1, rfl⟩ := hi.slice
  obtain ⟨p2, n2, c2, rfl⟩ := hs2
  obtain ⟨p3, n3, c3, rfl⟩ := hs3
  obtain ⟨w1, hw1⟩ : ∃ w1, w.alloc (.cells #[.int .i64 3, .int .i64 tn, .string ⟨tx.toArray⟩, .bool tsec, .slice p1 n1 c1, .slice p2 n2 c2, .slice p3 n3 c3] 67) = w1 := ⟨_, rfl⟩
  have HB1 : Hid (Below w.heap.size w w1) := by
    show Below _ _ _
    rw [← hw1]; exact (Below.refl _ _).alloc (Nat.le_refl _) _
  have HX1 : Hid (Bk w1 w.heap.size [.int .i64 3, .int .i64 tn, .string ⟨tx.toArray⟩, .bool tsec, .slice p1 n1 c1, .slice p2 n2 c2, .slice p3 n3 c3] 67) := by
    show Bk _ _ _ _
    rw [← hw1]; exact Bk.new _ _ _
  have HK := keep h
  have HP := keep (part_any B M [a, b] (.slice p1 n1 c1) 0 a w1 (Nat.le_trans hBw HB1.out.size) (hi.below (HB1.out.mono hBw)) rfl)
  have x4 := HX1.out.cell 4 rfl
  have Hwf := keep hwf
  have HW1 := keep hw1
  have HI := keep hi
  clear h hi hwf hw1
  unfold stA
  go_enter Tryd.func45, Tryd.ntmps45
  go_wp2_with (first | rw [HW1.out])
  refine HP.out.mono ?_
  rintro r w2 ⟨sa, rfl, hsa, hb2⟩
  obtain ⟨tp, tq, tc, rfl⟩ := hsa.slice
  obtain ⟨ak, an, ax, aa⟩ := a
  obtain ⟨w3, hw3⟩ : ∃ w3, w2.alloc (.cells #[.int .i64 ak, .int .i64 an, .string ⟨ax.toArray⟩, .slice tp tq tc] 76) = w3 := ⟨_, rfl⟩
  have hB13 : Below w1.heap.size w1 w3 := by rw [← hw3]; exact hb2.trans (((Below.refl _ _).alloc (Nat.le_refl _) _).mono hb2.size)
  have HB3 := keep (HB1.out.trans (hB13.mono HB1.out.size))
  have HX3 := keep (HX1.out.fs (Fs.of_below (l := []) hB13) (by simp))
  have HY3 : Hid (Bk w3 w2.heap.size [.int .i64 ak, .int .i64 an, .string ⟨ax.toArray⟩, .slice tp tq tc] 76) := by
    show Bk _ _ _ _
    rw [← hw3]; exact Bk.new _ _ _
  have hz2 : w.heap.size < w2.heap.size := Nat.lt_of_lt_of_le HX1.out.lt hb2.size
  have HC := keep (expr_ck m M C B rs A ns nv wk lt e dark ⟨ak, an, ax, aa⟩ (.slice tp tq tc) w3 hM Hwf.out (HK.out.below HB3.out) (hsa.below (hB13.mono (Nat.le_trans hBw HB1.out.size))))
  have HW3 := keep hw3
  clear hsa hb2 HP x4 HW1 hw3 hB13
  unfold exA
  unfold exA at HC
  go_wp2_with (first
    | rw [HW3.out]
    | refine wpList_load_row rfl 76 (.tmp 6) rfl w2.heap.size rfl 76 #[.int .i64 ak, .int .i64 an, .string ⟨ax.toArray⟩, .slice tp tq tc] (0, 0) _ HY3.out Tryd.underlying76 rfl (info_E [.int .i64 ak, .int .i64 an, .string ⟨ax.toArray⟩, .slice tp tq tc] rfl) ?_)
  refine HC.out.mono ?_
  rintro r w4 ⟨s, e1, rfl, hk4, hf4, her⟩
  have HK4 := keep hk4
  have HX4 := keep (HX3.out.fs hf4 (by simp; omega))
  have HY4 := keep (HY3.out.fs hf4 (by simp; omega))
  have HF4 := keep ((Fs.of_below HB3.out).trans hf4)
  have HER := keep her
  have x4 := HX4.out.cell 4 rfl
  have hBe4 : Below B w w4 := HF4.out.below (by omega) (by simp; exact HK.out.hB)
  have HP := keep (part_any B M [⟨ak, an, ax, aa⟩, b] (.slice p1 n1 c1) 1 b w4 (Nat.le_trans hBw HF4.out.size) (HI.out.below hBe4) rfl)
  clear hk4 hf4 her HC HX3 HY3 HW3
  go_wp2_with fail
  refine HP.out.mono ?_
  rintro r w5 ⟨sb, rfl, hsb, hb5⟩
  have HX5 := keep (HX4.out.fs (Fs.of_below (l := []) hb5) (by simp))
  have HY5 := keep (HY4.out.fs (Fs.of_below (l := []) hb5) (by simp))
  have HF5 := keep (HF4.out.trans (Fs.of_below hb5))
  have HC := keep (expr_ck m M C B rs A ns nv wk lt e1 dark b sb w5 hM hwb (HK4.out.below hb5) (hsb.below (hb5.mono (Nat.le_trans hBw HF4.out.size))))
  clear hsb hb5 HP x4 HX4 HY4 HF4 HK4 hBe4
  go_wp2_with fail
  refine HC.out.mono ?_
  rintro r w6 ⟨u, e2, rfl, hk6, hf6, her⟩
  have HK6 := keep hk6
  have HX6 := keep (HX5.out.fs hf6 (by simp; omega))
  have HY6 := keep (HY5.out.fs hf6 (by simp; omega))
  have HF6 := keep (HF5.out.trans hf6)
  have x2 := HX6.out.cell 2 rfl
  have HSr := keep (fun (d : Bool) hd => put_sr (rs := rs) (ns := ns) (wk := wk) (lt := lt) (dark := dark) (x := tx) (p := ⟨ak, an, ax, aa⟩) (d := d) HER.out her hd)
  have HAt := keep (at_any C B rs A ns nv wk lt e2 tx ⟨ak, an, ax, aa⟩ (.slice tp tq tc) ⟨_, _, _, rfl⟩ s dark w6 HK6.out)
  generalize atE rs tx ⟨ak, an, ax, aa⟩ s dark e2 = e3 at *
  generalize vrO (byV rs tx) = vo at *
  obtain ⟨on, os, oz⟩ := vo
  unfold vrA exA at HAt
  clear hk6 hf6 her HC HX5 HY5 HF5 HER
  go_wp2_with (first
    | refine wpList_load_row rfl 76 (.tmp 6) rfl w2.heap.size rfl 76 #[.int .i64 ak, .int .i64 an, .string ⟨ax.toArray⟩, .slice tp tq tc] (0, 0) _ HY6.out Tryd.underlying76 rfl (info_E [.int .i64 ak, .int .i64 an, .string ⟨ax.toArray⟩, .slice tp tq tc] rfl) ?_)
  refine HAt.out.mono ?_
  rintro r w7 ⟨rfl, hk7, hf7⟩
  have hC7 := hk7.lt
  obtain ⟨w8, hw8⟩ : ∃ w8, w7.alloc (.cells #[.string ⟨on.toArray⟩, .bool os, .int .i64 oz] 35) = w8 := ⟨_, rfl⟩
  have hb8 : Below w7.heap.size w7 w8 := by rw [← hw8]; exact (Below.refl _ _).alloc (Nat.le_refl _) _
  have HK8 := keep (hk7.below hb8)
  have HF8 := keep ((HF6.out.trans hf7).trans (Fs.of_below hb8))
  have HZ8 : Hid (Bk w8 w7.heap.size [.string ⟨on.toArray⟩, .bool os, .int .i64 oz] 35) := by
    show Bk _ _ _ _
    rw [← hw8]; exact Bk.new _ _ _
  have z1 := HZ8.out.cell 1 rfl
  have HW8 := keep hw8
  have HEnd : Hid (∀ c, Calls Tryd.prog 42 #[.pointer (some ⟨C, 0, none⟩), .bool c, .int .i64 10] w8 fun r w' => r = .returned (.tuple #[]) ∧ CK w' C B rs A ns nv wk lt (refK c e3 10) ∧ Fs [C] w8 w') := fun c => refuse_ck C B rs A ns nv wk lt e3 c 10 w8 HK8.out
  clear hk7 hf7 HAt x2 HX6 HY6 HF6 HK6 hw8 hb8
  cases os <;> cases u <;> cases dark
  all_goals (
    first | (have HC := keep (HEnd.out true); have HS2 := keep (HSr.out true rfl)) | (have HC := keep (HEnd.out false); have HS2 := keep (HSr.out false rfl))
    clear HEnd HSr
    go_wp2_with (first | rw [HW8.out])
    refine HC.out.mono ?_
    rintro r w9 ⟨rfl, hk9, hf9⟩
    have HF9 := keep (HF8.out.trans hf9)
    have HK9 := keep hk9
    clear hk9 hf9 HC
    go_wp2
    go_end0
    exact ⟨_, _, _, _, _, ⟨rfl, HK9.out, HF9.out.fc _, ⟨[], by simp⟩, HS2.out⟩⟩)
end Go.Proofs.YtemdnmfldihalaaDoor.Lr
