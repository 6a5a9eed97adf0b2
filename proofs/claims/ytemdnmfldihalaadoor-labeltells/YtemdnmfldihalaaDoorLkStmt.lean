/- The checker's statements, however deep. Written by tools/gen_kstmt.py. -/
import Derived.Test.YtemdnmfldihalaaDoorLkLoop
namespace Go.Proofs.YtemdnmfldihalaaDoor.Lr
set_option linter.unusedVariables false
set_option linter.unusedSimpArgs false
open Go.ChangeShapes Go.WideShapes Go.ChangeAt Go.RowKit Lg

theorem stmt_sr {wk : Nat} {d : Bool} {e2 : Int} {res inner : Except Int Ks} {k' : Ks} (hd : decide (300 < (wk : Int) + 1) = d) (hres : res = if 300 < wk + 1 then .error 4 else inner) (h : SR (refK d 0 4) e2 inner k') : SR 0 e2 res k' := by
  refine .mk (fun he => absurd rfl he) fun _ => ?_
  rw [hres]
  by_cases hw : 300 < wk + 1
  · rw [decide_eq_true (by omega)] at hd
    subst hd
    rw [refK_yes] at h
    rw [if_pos hw]
    exact .inl ⟨4, rfl, h.1 (by decide), by decide⟩
  · rw [decide_eq_false (by omega)] at hd
    subst hd
    rw [refK_no] at h
    rw [if_neg hw]
    by_cases h2 : e2 = 0
    · exact .inr ⟨k', h.good rfl h2, h2, rfl⟩
    · exact .inl ⟨e2, h.bad rfl h2, rfl, h2⟩
theorem few_one {ns : List Nm} {wk lt : Nat} {d : Bool} (h : Few ns wk lt) (hd : decide (300 < (wk : Int) + 1) = d) (h0 : refK d 0 4 = 0) : Few ns (wk + 1) lt ∧ ns.length + 1 ≤ 4 + (wk + 1) := by
  cases d with
  | true => rw [refK_yes] at h0; exact absurd h0 (by decide)
  | false =>
    have := of_decide_eq_false hd
    exact ⟨⟨by have := h.1; omega, by omega, h.2.2⟩, by have := h.1; omega⟩
theorem if_sr {rs : List Vr} {m : Nat} {ns : List Nm} {wk lt : Nat} {l1 l2 : List St} {res : Except Int Bool} {e e1 e2 e3 : Int} {s dark dk : Bool} {k2 k3 : Ks} (hdk : (s || dark) = dk) (h1 : ER e e1 res s) (h2 : SR e1 e2 (blockK (stmtK rs m dk) l1 ⟨ns, wk, lt⟩) k2) (h3 : SR e2 e3 (blockK (stmtK rs m dk) l2 k2) k3) :
    SR e e3 (thenK res fun s => thenK (blockK (stmtK rs m (s || dark)) l1 ⟨ns, wk, lt⟩) fun k => blockK (stmtK rs m (s || dark)) l2 k) k3 := by
  refine refs_sr h1 (fun hn => by have h4 := h2.1 hn; rw [h3.1 (by rw [h4]; exact hn), h4]) fun h0 => ?_
  rw [hdk]
  by_cases h4 : e2 = 0
  · rw [h2.good h0 h4, thenK_ok]
    by_cases h5 : e3 = 0
    · exact .inr ⟨k3, h3.good h4 h5, h5, rfl⟩
    · exact .inl ⟨e3, h3.bad h4 h5, rfl, h5⟩
  · rw [h2.bad h0 h4]
    exact .inl ⟨e2, rfl, h3.1 h4, h4⟩
theorem ret_sr {ns : List Nm} {wk lt : Nat} {res : Except Int Bool} {e e1 : Int} {s dark : Bool} (h1 : ER e e1 res s) : SR e (refK dark e1 10) (thenK res fun s => if dark = true then .error 10 else .ok (⟨ns, wk, lt⟩ : Ks)) ⟨ns, wk, lt⟩ := by
  refine refs_sr h1 (fun hn => refK_ne hn) fun h0 => ?_
  subst h0
  cases dark with
  | true => exact .inl ⟨10, by rw [if_pos rfl], refK_yes 10, by decide⟩
  | false => exact .inr ⟨_, by rw [if_neg (by simp)], refK_no 0 10, rfl⟩
theorem end_lift {w w3 w' : World} {C B : Nat} {rs : List Vr} {A : Value} {ns : List Nm} {nv : Value} {e : Int} {inner res : Except Int Ks} {wk : Nat} {d : Bool} {r : Ending} (hf : Fc C nv nv w w3) (hd : decide (300 < (wk : Int) + 1) = d) (hres : res = if 300 < wk + 1 then .error 4 else inner) (he : e = refK d 0 4) (h : StEnd w3 C B rs A ns nv e inner r w') : StEnd w C B rs A ns nv 0 res r w' := by
  obtain ⟨nv', ns', wk', lt', e', h1, h2, h3, h4, h5⟩ := h
  exact ⟨nv', ns', wk', lt', e', ⟨h1, h2, hf.trans h3, h4, stmt_sr hd hres (he ▸ h5)⟩⟩
set_option maxHeartbeats 16000000 in
set_option maxRecDepth 100000 in
theorem kst_let (m : Nat)  (K C B : Nat) (rs : List Vr) (A : Value) (ns : List Nm) (nv : Value) (wk lt : Nat) (dark : Bool) (tx : List UInt8) (tsec : Bool) (a : Ex) (hwf : wfE m a) (s1 s2 s3 : Value) (w : World) (hK : m + 1 ≤ K) (h10 : m + 1 ≤ 10) (h : CK w C B rs A ns nv wk lt 0) (hfew : Few ns wk lt) (hi : ExIs w B 11 (ar [a]) s1) (hs2 : StIs w B 10 K [] s2) (hs3 : StIs w B 10 K [] s3) :
    Calls Tryd.prog 33 #[.pointer (some ⟨C, 0, none⟩), .agg (stA ⟨1, 0, tx, tsec, [a], [], []⟩ s1 s2 s3), .bool dark] w fun r w' => StEnd w C B rs A ns nv 0 (stmtK rs (m + 1) dark ⟨1, 0, tx, tsec, [a], [], []⟩ ⟨ns, wk, lt⟩) r w' := by
  have hCl := h.lt
  have hBC := h.hB
  have hBw : B ≤ w.heap.size := Nat.le_trans h.hB (Nat.le_of_lt hCl)
  obtain ⟨p1, n1, k1, rfl⟩ := hi.slice
  obtain ⟨p2, n2, k2, rfl⟩ := hs2.slice
  obtain ⟨p3, n3, k3, rfl⟩ := hs3.slice
  have HOw := keep h.own
  obtain ⟨w1, hw1⟩ : ∃ w1, w.alloc (.cells #[.int .i64 1, .int .i64 0, .string ⟨tx.toArray⟩, .bool tsec, .slice p1 n1 k1, .slice p2 n2 k2, .slice p3 n3 k3] 67) = w1 := ⟨_, rfl⟩
  have HB1 : Hid (Below w.heap.size w w1) := by
    show Below _ _ _
    rw [← hw1]; exact (Below.refl _ _).alloc (Nat.le_refl _) _
  have HX1 : Hid (Bk w1 w.heap.size [.int .i64 1, .int .i64 0, .string ⟨tx.toArray⟩, .bool tsec, .slice p1 n1 k1, .slice p2 n2 k2, .slice p3 n3 k3] 67) := by
    show Bk _ _ _ _
    rw [← hw1]; exact Bk.new _ _ _
  have HK1 := keep (h.below HB1.out)
  obtain ⟨w2, hw2⟩ : ∃ w2, w1.setCell ⟨C, 2, none⟩ (.int .i64 ((wk : Int) + 1)) = w2 := ⟨_, rfl⟩
  have hf2 : Fs [C] w1 w2 := by rw [← hw2]; exact (Fs.refl _ _).set (by simp) _ _
  have HC2 : Hid (Bk w2 C [A, nv, .int .i64 ((wk + 1 : Nat) : Int), .int .i64 (lt : Int), .int .i64 0] 50) := by
    show Bk _ _ _ _
    rw [← hw2]; exact HK1.out.box.set 2 _
  have HK2 := keep (HK1.out.set hf2 HC2.out)
  have HX2 := keep (HX1.out.fs hf2 (by simp; omega))
  have HF2 := keep ((Fs.of_below (l := [C]) HB1.out).trans hf2)
  have hc2 := HK1.out.box.cell 2 rfl
  have hcf := HK1.out.box.fr 2
  have hv2 : w2.cell? ⟨C, 2, none⟩ = some (.int .i64 ((wk : Int) + 1)) := HC2.out.cell 2 rfl
  have hwr : IntKind.i64.wrap ((wk : Int) + 1) = (wk : Int) + 1 := wrap_one wk (by have := hfew.2.1; omega)
  obtain ⟨d, hd⟩ : ∃ d, decide (300 < (wk : Int) + 1) = d := ⟨_, rfl⟩
  have HD := keep hd
  have HFew := keep (fun h0 => few_one (d := d) hfew hd h0)
  have HFw := keep hfew
  have HI := keep hi
  have HS2 := keep hs2
  have HS3 := keep hs3
  have HW1 := keep hw1
  have HW2 := keep hw2
  clear h hi hs2 hs3 hw1 hw2 hf2 hfew
  unfold stA
  go_enter Tryd.func33, Tryd.ntmps33
  go_wp2_with (first | rw [HW1.out] | rw [HW2.out])
  refine (refuse_ck C B rs A ns nv (wk + 1) lt 0 d 4 w2 HK2.out).mono ?_
  rintro r w3 ⟨rfl, hk3, hf3⟩
  have HK3 := keep hk3
  have HX3 := keep (HX2.out.fs hf3 (by simp; omega))
  have HF3 := keep ((HF2.out.trans hf3).fc nv)
  have HG3 := keep (HF2.out.trans hf3)
  have x0 := HX3.out.cell 0 rfl
  have HBo : Hid (Below B w w3) := (HF2.out.trans hf3).below (by omega) (by simp; omega)
  obtain ⟨e1, he1⟩ : ∃ e1, e1 = refK d 0 4 := ⟨_, rfl⟩
  have HE1 := keep he1
  rw [← he1] at HK3 HFew
  clear hk3 hf3 HK1 HK2 HX1 HX2 HF2 HB1 HC2 hc2 hcf hv2 hwr HW1 HW2 he1 hd
  have HC := keep (let_any m 10 C B rs A ns nv (wk + 1) lt e1 dark 0 tx tsec a [] [] (.slice p1 n1 k1) (.slice p2 n2 k2) (.slice p3 n3 k3) w3 (by omega) hwf HK3.out (by have := HFw.out.1; have := HFw.out.2.1; omega) HFw.out.2.2 (HI.out.below HBo.out) ⟨_, _, _, rfl⟩ ⟨_, _, _, rfl⟩)
  unfold stA at HC
  go_wp2_with (first
    | refine wpList_load_row rfl 67 (.tmp 4) rfl w.heap.size rfl 67 #[.int .i64 1, .int .i64 0, .string ⟨tx.toArray⟩, .bool tsec, .slice p1 n1 k1, .slice p2 n2 k2, .slice p3 n3 k3] (0, 0) _ HX3.out Tryd.underlying67 rfl (info_S [.int .i64 1, .int .i64 0, .string ⟨tx.toArray⟩, .bool tsec, .slice p1 n1 k1, .slice p2 n2 k2, .slice p3 n3 k3] rfl) ?_)
  refine HC.out.mono ?_
  intro r w4 h4
  have H4 := keep (end_lift (res := stmtK rs (m + 1) dark ⟨1, 0, tx, tsec, [a], [], []⟩ ⟨ns, wk, lt⟩) HF3.out HD.out (by rw [stmtK]; rfl) HE1.out h4)
  have hr4 : r = .returned (.tuple #[]) := by
    obtain ⟨_, _, _, _, _, q⟩ := h4
    exact q.ret
  subst hr4
  clear h4 HC
  go_wp2
  go_end0
  exact H4.out
set_option maxHeartbeats 16000000 in
set_option maxRecDepth 100000 in
theorem kst_set (m : Nat)  (K C B : Nat) (rs : List Vr) (A : Value) (ns : List Nm) (nv : Value) (wk lt : Nat) (dark : Bool) (tx : List UInt8) (tsec : Bool) (a : Ex) (hwf : wfE m a) (s1 s2 s3 : Value) (w : World) (hK : m + 1 ≤ K) (h10 : m + 1 ≤ 10) (h : CK w C B rs A ns nv wk lt 0) (hfew : Few ns wk lt) (hi : ExIs w B 11 (ar [a]) s1) (hs2 : StIs w B 10 K [] s2) (hs3 : StIs w B 10 K [] s3) :
    Calls Tryd.prog 33 #[.pointer (some ⟨C, 0, none⟩), .agg (stA ⟨2, 0, tx, tsec, [a], [], []⟩ s1 s2 s3), .bool dark] w fun r w' => StEnd w C B rs A ns nv 0 (stmtK rs (m + 1) dark ⟨2, 0, tx, tsec, [a], [], []⟩ ⟨ns, wk, lt⟩) r w' := by
  have hCl := h.lt
  have hBC := h.hB
  have hBw : B ≤ w.heap.size := Nat.le_trans h.hB (Nat.le_of_lt hCl)
  obtain ⟨p1, n1, k1, rfl⟩ := hi.slice
  obtain ⟨p2, n2, k2, rfl⟩ := hs2.slice
  obtain ⟨p3, n3, k3, rfl⟩ := hs3.slice
  have HOw := keep h.own
  obtain ⟨w1, hw1⟩ : ∃ w1, w.alloc (.cells #[.int .i64 2, .int .i64 0, .string ⟨tx.toArray⟩, .bool tsec, .slice p1 n1 k1, .slice p2 n2 k2, .slice p3 n3 k3] 67) = w1 := ⟨_, rfl⟩
  have HB1 : Hid (Below w.heap.size w w1) := by
    show Below _ _ _
    rw [← hw1]; exact (Below.refl _ _).alloc (Nat.le_refl _) _
  have HX1 : Hid (Bk w1 w.heap.size [.int .i64 2, .int .i64 0, .string ⟨tx.toArray⟩, .bool tsec, .slice p1 n1 k1, .slice p2 n2 k2, .slice p3 n3 k3] 67) := by
    show Bk _ _ _ _
    rw [← hw1]; exact Bk.new _ _ _
  have HK1 := keep (h.below HB1.out)
  obtain ⟨w2, hw2⟩ : ∃ w2, w1.setCell ⟨C, 2, none⟩ (.int .i64 ((wk : Int) + 1)) = w2 := ⟨_, rfl⟩
  have hf2 : Fs [C] w1 w2 := by rw [← hw2]; exact (Fs.refl _ _).set (by simp) _ _
  have HC2 : Hid (Bk w2 C [A, nv, .int .i64 ((wk + 1 : Nat) : Int), .int .i64 (lt : Int), .int .i64 0] 50) := by
    show Bk _ _ _ _
    rw [← hw2]; exact HK1.out.box.set 2 _
  have HK2 := keep (HK1.out.set hf2 HC2.out)
  have HX2 := keep (HX1.out.fs hf2 (by simp; omega))
  have HF2 := keep ((Fs.of_below (l := [C]) HB1.out).trans hf2)
  have hc2 := HK1.out.box.cell 2 rfl
  have hcf := HK1.out.box.fr 2
  have hv2 : w2.cell? ⟨C, 2, none⟩ = some (.int .i64 ((wk : Int) + 1)) := HC2.out.cell 2 rfl
  have hwr : IntKind.i64.wrap ((wk : Int) + 1) = (wk : Int) + 1 := wrap_one wk (by have := hfew.2.1; omega)
  obtain ⟨d, hd⟩ : ∃ d, decide (300 < (wk : Int) + 1) = d := ⟨_, rfl⟩
  have HD := keep hd
  have HFew := keep (fun h0 => few_one (d := d) hfew hd h0)
  have HFw := keep hfew
  have HI := keep hi
  have HS2 := keep hs2
  have HS3 := keep hs3
  have HW1 := keep hw1
  have HW2 := keep hw2
  clear h hi hs2 hs3 hw1 hw2 hf2 hfew
  unfold stA
  go_enter Tryd.func33, Tryd.ntmps33
  go_wp2_with (first | rw [HW1.out] | rw [HW2.out])
  refine (refuse_ck C B rs A ns nv (wk + 1) lt 0 d 4 w2 HK2.out).mono ?_
  rintro r w3 ⟨rfl, hk3, hf3⟩
  have HK3 := keep hk3
  have HX3 := keep (HX2.out.fs hf3 (by simp; omega))
  have HF3 := keep ((HF2.out.trans hf3).fc nv)
  have HG3 := keep (HF2.out.trans hf3)
  have x0 := HX3.out.cell 0 rfl
  have HBo : Hid (Below B w w3) := (HF2.out.trans hf3).below (by omega) (by simp; omega)
  obtain ⟨e1, he1⟩ : ∃ e1, e1 = refK d 0 4 := ⟨_, rfl⟩
  have HE1 := keep he1
  rw [← he1] at HK3 HFew
  clear hk3 hf3 HK1 HK2 HX1 HX2 HF2 HB1 HC2 hc2 hcf hv2 hwr HW1 HW2 he1 hd
  have HC := keep (set_any m 10 C B rs A ns nv (wk + 1) lt e1 dark 0 tx tsec a [] [] (.slice p1 n1 k1) (.slice p2 n2 k2) (.slice p3 n3 k3) w3 (by omega) hwf HK3.out (HI.out.below HBo.out) ⟨_, _, _, rfl⟩ ⟨_, _, _, rfl⟩)
  unfold stA at HC
  go_wp2_with (first
    | refine wpList_load_row rfl 67 (.tmp 4) rfl w.heap.size rfl 67 #[.int .i64 2, .int .i64 0, .string ⟨tx.toArray⟩, .bool tsec, .slice p1 n1 k1, .slice p2 n2 k2, .slice p3 n3 k3] (0, 0) _ HX3.out Tryd.underlying67 rfl (info_S [.int .i64 2, .int .i64 0, .string ⟨tx.toArray⟩, .bool tsec, .slice p1 n1 k1, .slice p2 n2 k2, .slice p3 n3 k3] rfl) ?_)
  refine HC.out.mono ?_
  intro r w4 h4
  have H4 := keep (end_lift (res := stmtK rs (m + 1) dark ⟨2, 0, tx, tsec, [a], [], []⟩ ⟨ns, wk, lt⟩) HF3.out HD.out (by rw [stmtK]; rfl) HE1.out h4)
  have hr4 : r = .returned (.tuple #[]) := by
    obtain ⟨_, _, _, _, _, q⟩ := h4
    exact q.ret
  subst hr4
  clear h4 HC
  go_wp2
  go_end0
  exact H4.out
set_option maxHeartbeats 16000000 in
set_option maxRecDepth 100000 in
theorem kst_put (m : Nat)  (K C B : Nat) (rs : List Vr) (A : Value) (ns : List Nm) (nv : Value) (wk lt : Nat) (dark : Bool) (tx : List UInt8) (tsec : Bool) (a b : Ex) (hwf : wfE m a) (hwb : wfE m b) (s1 s2 s3 : Value) (w : World) (hK : m + 1 ≤ K) (h10 : m + 1 ≤ 10) (h : CK w C B rs A ns nv wk lt 0) (hfew : Few ns wk lt) (hi : ExIs w B 11 (ar [a, b]) s1) (hs2 : StIs w B 10 K [] s2) (hs3 : StIs w B 10 K [] s3) :
    Calls Tryd.prog 33 #[.pointer (some ⟨C, 0, none⟩), .agg (stA ⟨3, 0, tx, tsec, [a, b], [], []⟩ s1 s2 s3), .bool dark] w fun r w' => StEnd w C B rs A ns nv 0 (stmtK rs (m + 1) dark ⟨3, 0, tx, tsec, [a, b], [], []⟩ ⟨ns, wk, lt⟩) r w' := by
  have hCl := h.lt
  have hBC := h.hB
  have hBw : B ≤ w.heap.size := Nat.le_trans h.hB (Nat.le_of_lt hCl)
  obtain ⟨p1, n1, k1, rfl⟩ := hi.slice
  obtain ⟨p2, n2, k2, rfl⟩ := hs2.slice
  obtain ⟨p3, n3, k3, rfl⟩ := hs3.slice
  have HOw := keep h.own
  obtain ⟨w1, hw1⟩ : ∃ w1, w.alloc (.cells #[.int .i64 3, .int .i64 0, .string ⟨tx.toArray⟩, .bool tsec, .slice p1 n1 k1, .slice p2 n2 k2, .slice p3 n3 k3] 67) = w1 := ⟨_, rfl⟩
  have HB1 : Hid (Below w.heap.size w w1) := by
    show Below _ _ _
    rw [← hw1]; exact (Below.refl _ _).alloc (Nat.le_refl _) _
  have HX1 : Hid (Bk w1 w.heap.size [.int .i64 3, .int .i64 0, .string ⟨tx.toArray⟩, .bool tsec, .slice p1 n1 k1, .slice p2 n2 k2, .slice p3 n3 k3] 67) := by
    show Bk _ _ _ _
    rw [← hw1]; exact Bk.new _ _ _
  have HK1 := keep (h.below HB1.out)
  obtain ⟨w2, hw2⟩ : ∃ w2, w1.setCell ⟨C, 2, none⟩ (.int .i64 ((wk : Int) + 1)) = w2 := ⟨_, rfl⟩
  have hf2 : Fs [C] w1 w2 := by rw [← hw2]; exact (Fs.refl _ _).set (by simp) _ _
  have HC2 : Hid (Bk w2 C [A, nv, .int .i64 ((wk + 1 : Nat) : Int), .int .i64 (lt : Int), .int .i64 0] 50) := by
    show Bk _ _ _ _
    rw [← hw2]; exact HK1.out.box.set 2 _
  have HK2 := keep (HK1.out.set hf2 HC2.out)
  have HX2 := keep (HX1.out.fs hf2 (by simp; omega))
  have HF2 := keep ((Fs.of_below (l := [C]) HB1.out).trans hf2)
  have hc2 := HK1.out.box.cell 2 rfl
  have hcf := HK1.out.box.fr 2
  have hv2 : w2.cell? ⟨C, 2, none⟩ = some (.int .i64 ((wk : Int) + 1)) := HC2.out.cell 2 rfl
  have hwr : IntKind.i64.wrap ((wk : Int) + 1) = (wk : Int) + 1 := wrap_one wk (by have := hfew.2.1; omega)
  obtain ⟨d, hd⟩ : ∃ d, decide (300 < (wk : Int) + 1) = d := ⟨_, rfl⟩
  have HD := keep hd
  have HFew := keep (fun h0 => few_one (d := d) hfew hd h0)
  have HFw := keep hfew
  have HI := keep hi
  have HS2 := keep hs2
  have HS3 := keep hs3
  have HW1 := keep hw1
  have HW2 := keep hw2
  clear h hi hs2 hs3 hw1 hw2 hf2 hfew
  unfold stA
  go_enter Tryd.func33, Tryd.ntmps33
  go_wp2_with (first | rw [HW1.out] | rw [HW2.out])
  refine (refuse_ck C B rs A ns nv (wk + 1) lt 0 d 4 w2 HK2.out).mono ?_
  rintro r w3 ⟨rfl, hk3, hf3⟩
  have HK3 := keep hk3
  have HX3 := keep (HX2.out.fs hf3 (by simp; omega))
  have HF3 := keep ((HF2.out.trans hf3).fc nv)
  have HG3 := keep (HF2.out.trans hf3)
  have x0 := HX3.out.cell 0 rfl
  have HBo : Hid (Below B w w3) := (HF2.out.trans hf3).below (by omega) (by simp; omega)
  obtain ⟨e1, he1⟩ : ∃ e1, e1 = refK d 0 4 := ⟨_, rfl⟩
  have HE1 := keep he1
  rw [← he1] at HK3 HFew
  clear hk3 hf3 HK1 HK2 HX1 HX2 HF2 HB1 HC2 hc2 hcf hv2 hwr HW1 HW2 he1 hd
  have HC := keep (put_any m 10 C B rs A ns nv (wk + 1) lt e1 dark 0 tx tsec a b [] [] (.slice p1 n1 k1) (.slice p2 n2 k2) (.slice p3 n3 k3) w3 (by omega) hwf hwb HK3.out (HI.out.below HBo.out) ⟨_, _, _, rfl⟩ ⟨_, _, _, rfl⟩)
  unfold stA at HC
  go_wp2_with (first
    | refine wpList_load_row rfl 67 (.tmp 4) rfl w.heap.size rfl 67 #[.int .i64 3, .int .i64 0, .string ⟨tx.toArray⟩, .bool tsec, .slice p1 n1 k1, .slice p2 n2 k2, .slice p3 n3 k3] (0, 0) _ HX3.out Tryd.underlying67 rfl (info_S [.int .i64 3, .int .i64 0, .string ⟨tx.toArray⟩, .bool tsec, .slice p1 n1 k1, .slice p2 n2 k2, .slice p3 n3 k3] rfl) ?_)
  refine HC.out.mono ?_
  intro r w4 h4
  have H4 := keep (end_lift (res := stmtK rs (m + 1) dark ⟨3, 0, tx, tsec, [a, b], [], []⟩ ⟨ns, wk, lt⟩) HF3.out HD.out (by rw [stmtK]; rfl) HE1.out h4)
  have hr4 : r = .returned (.tuple #[]) := by
    obtain ⟨_, _, _, _, _, q⟩ := h4
    exact q.ret
  subst hr4
  clear h4 HC
  go_wp2
  go_end0
  exact H4.out
set_option maxHeartbeats 16000000 in
set_option maxRecDepth 100000 in
theorem kst_for (m : Nat) (ih : BlockCk m) (K C B : Nat) (rs : List Vr) (A : Value) (ns : List Nm) (nv : Value) (wk lt : Nat) (dark : Bool) (tn : Int) (tx : List UInt8) (tsec : Bool) (th : List St) (hn0 : 0 ≤ tn) (hn8 : tn ≤ 8) (hwf : ∀ t ∈ th, wfS m t) (s1 s2 s3 : Value) (w : World) (hK : m + 1 ≤ K) (h10 : m + 1 ≤ 10) (h : CK w C B rs A ns nv wk lt 0) (hfew : Few ns wk lt) (hi : ExIs w B 11 (ar []) s1) (hs2 : StIs w B 10 K th s2) (hs3 : StIs w B 10 K [] s3) :
    Calls Tryd.prog 33 #[.pointer (some ⟨C, 0, none⟩), .agg (stA ⟨5, tn, tx, tsec, [], th, []⟩ s1 s2 s3), .bool dark] w fun r w' => StEnd w C B rs A ns nv 0 (stmtK rs (m + 1) dark ⟨5, tn, tx, tsec, [], th, []⟩ ⟨ns, wk, lt⟩) r w' := by
  have hCl := h.lt
  have hBC := h.hB
  have hBw : B ≤ w.heap.size := Nat.le_trans h.hB (Nat.le_of_lt hCl)
  obtain ⟨p1, n1, k1, rfl⟩ := hi.slice
  obtain ⟨p2, n2, k2, rfl⟩ := hs2.slice
  obtain ⟨p3, n3, k3, rfl⟩ := hs3.slice
  have HOw := keep h.own
  obtain ⟨w1, hw1⟩ : ∃ w1, w.alloc (.cells #[.int .i64 5, .int .i64 tn, .string ⟨tx.toArray⟩, .bool tsec, .slice p1 n1 k1, .slice p2 n2 k2, .slice p3 n3 k3] 67) = w1 := ⟨_, rfl⟩
  have HB1 : Hid (Below w.heap.size w w1) := by
    show Below _ _ _
    rw [← hw1]; exact (Below.refl _ _).alloc (Nat.le_refl _) _
  have HX1 : Hid (Bk w1 w.heap.size [.int .i64 5, .int .i64 tn, .string ⟨tx.toArray⟩, .bool tsec, .slice p1 n1 k1, .slice p2 n2 k2, .slice p3 n3 k3] 67) := by
    show Bk _ _ _ _
    rw [← hw1]; exact Bk.new _ _ _
  have HK1 := keep (h.below HB1.out)
  obtain ⟨w2, hw2⟩ : ∃ w2, w1.setCell ⟨C, 2, none⟩ (.int .i64 ((wk : Int) + 1)) = w2 := ⟨_, rfl⟩
  have hf2 : Fs [C] w1 w2 := by rw [← hw2]; exact (Fs.refl _ _).set (by simp) _ _
  have HC2 : Hid (Bk w2 C [A, nv, .int .i64 ((wk + 1 : Nat) : Int), .int .i64 (lt : Int), .int .i64 0] 50) := by
    show Bk _ _ _ _
    rw [← hw2]; exact HK1.out.box.set 2 _
  have HK2 := keep (HK1.out.set hf2 HC2.out)
  have HX2 := keep (HX1.out.fs hf2 (by simp; omega))
  have HF2 := keep ((Fs.of_below (l := [C]) HB1.out).trans hf2)
  have hc2 := HK1.out.box.cell 2 rfl
  have hcf := HK1.out.box.fr 2
  have hv2 : w2.cell? ⟨C, 2, none⟩ = some (.int .i64 ((wk : Int) + 1)) := HC2.out.cell 2 rfl
  have hwr : IntKind.i64.wrap ((wk : Int) + 1) = (wk : Int) + 1 := wrap_one wk (by have := hfew.2.1; omega)
  obtain ⟨d, hd⟩ : ∃ d, decide (300 < (wk : Int) + 1) = d := ⟨_, rfl⟩
  have HD := keep hd
  have HFew := keep (fun h0 => few_one (d := d) hfew hd h0)
  have HFw := keep hfew
  have HI := keep hi
  have HS2 := keep hs2
  have HS3 := keep hs3
  have HW1 := keep hw1
  have HW2 := keep hw2
  clear h hi hs2 hs3 hw1 hw2 hf2 hfew
  unfold stA
  go_enter Tryd.func33, Tryd.ntmps33
  go_wp2_with (first | rw [HW1.out] | rw [HW2.out])
  refine (refuse_ck C B rs A ns nv (wk + 1) lt 0 d 4 w2 HK2.out).mono ?_
  rintro r w3 ⟨rfl, hk3, hf3⟩
  have HK3 := keep hk3
  have HX3 := keep (HX2.out.fs hf3 (by simp; omega))
  have HF3 := keep ((HF2.out.trans hf3).fc nv)
  have HG3 := keep (HF2.out.trans hf3)
  have x0 := HX3.out.cell 0 rfl
  have HBo : Hid (Below B w w3) := (HF2.out.trans hf3).below (by omega) (by simp; omega)
  obtain ⟨e1, he1⟩ : ∃ e1, e1 = refK d 0 4 := ⟨_, rfl⟩
  have HE1 := keep he1
  rw [← he1] at HK3 HFew
  clear hk3 hf3 HK1 HK2 HX1 HX2 HF2 HB1 HC2 hc2 hcf hv2 hwr HW1 HW2 he1 hd
  obtain ⟨K, rfl⟩ : ∃ K', K = K' + 1 := ⟨K - 1, by omega⟩
  have HC := keep (loop_any m ih K C B rs A ns nv (wk + 1) lt e1 dark tn tx tsec [] th [] (.slice p1 n1 k1) (.slice p2 n2 k2) (.slice p3 n3 k3) w3 (by omega) (by omega) hwf hn0 hn8 HK3.out (by have := HFw.out.1; have := HFw.out.2.1; omega) (fun h0 => ⟨by have := (HFew.out h0).2; simp; omega, (HFew.out h0).1.2⟩) ⟨_, _, _, rfl⟩ (HS2.out.below HBo.out) ⟨_, _, _, rfl⟩)
  unfold stA at HC
  go_wp2_with (first
    | refine wpList_load_row rfl 67 (.tmp 4) rfl w.heap.size rfl 67 #[.int .i64 5, .int .i64 tn, .string ⟨tx.toArray⟩, .bool tsec, .slice p1 n1 k1, .slice p2 n2 k2, .slice p3 n3 k3] (0, 0) _ HX3.out Tryd.underlying67 rfl (info_S [.int .i64 5, .int .i64 tn, .string ⟨tx.toArray⟩, .bool tsec, .slice p1 n1 k1, .slice p2 n2 k2, .slice p3 n3 k3] rfl) ?_)
  refine HC.out.mono ?_
  intro r w4 h4
  have H4 := keep (end_lift (res := stmtK rs (m + 1) dark ⟨5, tn, tx, tsec, [], th, []⟩ ⟨ns, wk, lt⟩) HF3.out HD.out (by rw [stmtK]; rfl) HE1.out h4)
  have hr4 : r = .returned (.tuple #[]) := by
    obtain ⟨_, _, _, _, _, q⟩ := h4
    exact q.ret
  subst hr4
  clear h4 HC
  go_wp2
  go_end0
  exact H4.out
set_option maxHeartbeats 16000000 in
set_option maxRecDepth 100000 in
theorem kst_ret (m : Nat)  (K C B : Nat) (rs : List Vr) (A : Value) (ns : List Nm) (nv : Value) (wk lt : Nat) (dark : Bool) (tsec : Bool) (a : Ex) (hwf : wfE m a) (s1 s2 s3 : Value) (w : World) (hK : m + 1 ≤ K) (h10 : m + 1 ≤ 10) (h : CK w C B rs A ns nv wk lt 0) (hfew : Few ns wk lt) (hi : ExIs w B 11 (ar [a]) s1) (hs2 : StIs w B 10 K [] s2) (hs3 : StIs w B 10 K [] s3) :
    Calls Tryd.prog 33 #[.pointer (some ⟨C, 0, none⟩), .agg (stA ⟨6, 0, [], tsec, [a], [], []⟩ s1 s2 s3), .bool dark] w fun r w' => StEnd w C B rs A ns nv 0 (stmtK rs (m + 1) dark ⟨6, 0, [], tsec, [a], [], []⟩ ⟨ns, wk, lt⟩) r w' := by
  have hCl := h.lt
  have hBC := h.hB
  have hBw : B ≤ w.heap.size := Nat.le_trans h.hB (Nat.le_of_lt hCl)
  obtain ⟨p1, n1, k1, rfl⟩ := hi.slice
  obtain ⟨p2, n2, k2, rfl⟩ := hs2.slice
  obtain ⟨p3, n3, k3, rfl⟩ := hs3.slice
  have HOw := keep h.own
  obtain ⟨w1, hw1⟩ : ∃ w1, w.alloc (.cells #[.int .i64 6, .int .i64 0, .string ⟨#[]⟩, .bool tsec, .slice p1 n1 k1, .slice p2 n2 k2, .slice p3 n3 k3] 67) = w1 := ⟨_, rfl⟩
  have HB1 : Hid (Below w.heap.size w w1) := by
    show Below _ _ _
    rw [← hw1]; exact (Below.refl _ _).alloc (Nat.le_refl _) _
  have HX1 : Hid (Bk w1 w.heap.size [.int .i64 6, .int .i64 0, .string ⟨#[]⟩, .bool tsec, .slice p1 n1 k1, .slice p2 n2 k2, .slice p3 n3 k3] 67) := by
    show Bk _ _ _ _
    rw [← hw1]; exact Bk.new _ _ _
  have HK1 := keep (h.below HB1.out)
  obtain ⟨w2, hw2⟩ : ∃ w2, w1.setCell ⟨C, 2, none⟩ (.int .i64 ((wk : Int) + 1)) = w2 := ⟨_, rfl⟩
  have hf2 : Fs [C] w1 w2 := by rw [← hw2]; exact (Fs.refl _ _).set (by simp) _ _
  have HC2 : Hid (Bk w2 C [A, nv, .int .i64 ((wk + 1 : Nat) : Int), .int .i64 (lt : Int), .int .i64 0] 50) := by
    show Bk _ _ _ _
    rw [← hw2]; exact HK1.out.box.set 2 _
  have HK2 := keep (HK1.out.set hf2 HC2.out)
  have HX2 := keep (HX1.out.fs hf2 (by simp; omega))
  have HF2 := keep ((Fs.of_below (l := [C]) HB1.out).trans hf2)
  have hc2 := HK1.out.box.cell 2 rfl
  have hcf := HK1.out.box.fr 2
  have hv2 : w2.cell? ⟨C, 2, none⟩ = some (.int .i64 ((wk : Int) + 1)) := HC2.out.cell 2 rfl
  have hwr : IntKind.i64.wrap ((wk : Int) + 1) = (wk : Int) + 1 := wrap_one wk (by have := hfew.2.1; omega)
  obtain ⟨d, hd⟩ : ∃ d, decide (300 < (wk : Int) + 1) = d := ⟨_, rfl⟩
  have HD := keep hd
  have HFew := keep (fun h0 => few_one (d := d) hfew hd h0)
  have HFw := keep hfew
  have HI := keep hi
  have HS2 := keep hs2
  have HS3 := keep hs3
  have HW1 := keep hw1
  have HW2 := keep hw2
  clear h hi hs2 hs3 hw1 hw2 hf2 hfew
  unfold stA
  go_enter Tryd.func33, Tryd.ntmps33
  go_wp2_with (first | rw [HW1.out] | rw [HW2.out])
  refine (refuse_ck C B rs A ns nv (wk + 1) lt 0 d 4 w2 HK2.out).mono ?_
  rintro r w3 ⟨rfl, hk3, hf3⟩
  have HK3 := keep hk3
  have HX3 := keep (HX2.out.fs hf3 (by simp; omega))
  have HF3 := keep ((HF2.out.trans hf3).fc nv)
  have HG3 := keep (HF2.out.trans hf3)
  have x0 := HX3.out.cell 0 rfl
  have HBo : Hid (Below B w w3) := (HF2.out.trans hf3).below (by omega) (by simp; omega)
  obtain ⟨e1, he1⟩ : ∃ e1, e1 = refK d 0 4 := ⟨_, rfl⟩
  have HE1 := keep he1
  rw [← he1] at HK3 HFew
  clear hk3 hf3 HK1 HK2 HX1 HX2 HF2 HB1 HC2 hc2 hcf hv2 hwr HW1 HW2 he1 hd
  have HP := keep (part_any B 10 [a] (.slice p1 n1 k1) 0 a w3 (Nat.le_trans hBC (Nat.le_of_lt HK3.out.lt)) (HI.out.below HBo.out) rfl)
  have x4 := HX3.out.cell 4 rfl
  go_wp2_with fail
  refine HP.out.mono ?_
  rintro r w4 ⟨sa, rfl, hsa, hb4⟩
  have HX4 := keep (HX3.out.fs (Fs.of_below (l := []) hb4) (by simp))
  have HG4 := keep (HG3.out.trans (Fs.of_below hb4))
  have HC := keep (expr_ck m 10 C B rs A ns nv (wk + 1) lt e1 dark a sa w4 (by omega) hwf (HK3.out.below hb4) (hsa.below (hb4.mono (Nat.le_trans hBC (Nat.le_of_lt HK3.out.lt)))))
  clear hsa hb4 HP x4 x0
  go_wp2_with fail
  refine HC.out.mono ?_
  rintro r w5 ⟨s, e2, rfl, hk5, hf5, her⟩
  have HK5 := keep hk5
  have HX5 := keep (HX4.out.fs hf5 (by simp; omega))
  have HG5 := keep (HG4.out.trans hf5)
  have HER := keep her
  clear hk5 hf5 her HC HX4
  go_wp2_with fail
  refine (refuse_ck C B rs A ns nv (wk + 1) lt e2 dark 10 w5 HK5.out).mono ?_
  rintro r w6 ⟨rfl, hk6, hf6⟩
  have HK6 := keep hk6
  have HG6 := keep (HG5.out.trans hf6)
  have HSr := keep (stmt_sr (res := stmtK rs (m + 1) dark ⟨6, 0, [], tsec, [a], [], []⟩ ⟨ns, wk, lt⟩) HD.out (by rw [stmtK]; rfl) (HE1.out ▸ ret_sr (ns := ns) (wk := wk + 1) (lt := lt) (dark := dark) HER.out))
  clear hk6 hf6
  go_wp2
  go_end0
  exact ⟨_, _, _, _, _, ⟨rfl, HK6.out, HG6.out.fc _, ⟨[], by simp⟩, HSr.out⟩⟩
set_option maxHeartbeats 16000000 in
set_option maxRecDepth 100000 in
theorem kst_if (m : Nat) (ih : BlockCk m) (K C B : Nat) (rs : List Vr) (A : Value) (ns : List Nm) (nv : Value) (wk lt : Nat) (dark : Bool) (tsec : Bool) (a : Ex) (th el : List St) (hwf : wfE m a) (hwt : ∀ t ∈ th, wfS m t) (hwe : ∀ t ∈ el, wfS m t) (s1 s2 s3 : Value) (w : World) (hK : m + 1 ≤ K) (h10 : m + 1 ≤ 10) (h : CK w C B rs A ns nv wk lt 0) (hfew : Few ns wk lt) (hi : ExIs w B 11 (ar [a]) s1) (hs2 : StIs w B 10 K th s2) (hs3 : StIs w B 10 K el s3) :
    Calls Tryd.prog 33 #[.pointer (some ⟨C, 0, none⟩), .agg (stA ⟨4, 0, [], tsec, [a], th, el⟩ s1 s2 s3), .bool dark] w fun r w' => StEnd w C B rs A ns nv 0 (stmtK rs (m + 1) dark ⟨4, 0, [], tsec, [a], th, el⟩ ⟨ns, wk, lt⟩) r w' := by
  have hCl := h.lt
  have hBC := h.hB
  have hBw : B ≤ w.heap.size := Nat.le_trans h.hB (Nat.le_of_lt hCl)
  obtain ⟨p1, n1, k1, rfl⟩ := hi.slice
  obtain ⟨p2, n2, k2, rfl⟩ := hs2.slice
  obtain ⟨p3, n3, k3, rfl⟩ := hs3.slice
  have HOw := keep h.own
  obtain ⟨w1, hw1⟩ : ∃ w1, w.alloc (.cells #[.int .i64 4, .int .i64 0, .string ⟨#[]⟩, .bool tsec, .slice p1 n1 k1, .slice p2 n2 k2, .slice p3 n3 k3] 67) = w1 := ⟨_, rfl⟩
  have HB1 : Hid (Below w.heap.size w w1) := by
    show Below _ _ _
    rw [← hw1]; exact (Below.refl _ _).alloc (Nat.le_refl _) _
  have HX1 : Hid (Bk w1 w.heap.size [.int .i64 4, .int .i64 0, .string ⟨#[]⟩, .bool tsec, .slice p1 n1 k1, .slice p2 n2 k2, .slice p3 n3 k3] 67) := by
    show Bk _ _ _ _
    rw [← hw1]; exact Bk.new _ _ _
  have HK1 := keep (h.below HB1.out)
  obtain ⟨w2, hw2⟩ : ∃ w2, w1.setCell ⟨C, 2, none⟩ (.int .i64 ((wk : Int) + 1)) = w2 := ⟨_, rfl⟩
  have hf2 : Fs [C] w1 w2 := by rw [← hw2]; exact (Fs.refl _ _).set (by simp) _ _
  have HC2 : Hid (Bk w2 C [A, nv, .int .i64 ((wk + 1 : Nat) : Int), .int .i64 (lt : Int), .int .i64 0] 50) := by
    show Bk _ _ _ _
    rw [← hw2]; exact HK1.out.box.set 2 _
  have HK2 := keep (HK1.out.set hf2 HC2.out)
  have HX2 := keep (HX1.out.fs hf2 (by simp; omega))
  have HF2 := keep ((Fs.of_below (l := [C]) HB1.out).trans hf2)
  have hc2 := HK1.out.box.cell 2 rfl
  have hcf := HK1.out.box.fr 2
  have hv2 : w2.cell? ⟨C, 2, none⟩ = some (.int .i64 ((wk : Int) + 1)) := HC2.out.cell 2 rfl
  have hwr : IntKind.i64.wrap ((wk : Int) + 1) = (wk : Int) + 1 := wrap_one wk (by have := hfew.2.1; omega)
  obtain ⟨d, hd⟩ : ∃ d, decide (300 < (wk : Int) + 1) = d := ⟨_, rfl⟩
  have HD := keep hd
  have HFew := keep (fun h0 => few_one (d := d) hfew hd h0)
  have HFw := keep hfew
  have HI := keep hi
  have HS2 := keep hs2
  have HS3 := keep hs3
  have HW1 := keep hw1
  have HW2 := keep hw2
  clear h hi hs2 hs3 hw1 hw2 hf2 hfew
  unfold stA
  go_enter Tryd.func33, Tryd.ntmps33
  go_wp2_with (first | rw [HW1.out] | rw [HW2.out])
  refine (refuse_ck C B rs A ns nv (wk + 1) lt 0 d 4 w2 HK2.out).mono ?_
  rintro r w3 ⟨rfl, hk3, hf3⟩
  have HK3 := keep hk3
  have HX3 := keep (HX2.out.fs hf3 (by simp; omega))
  have HF3 := keep ((HF2.out.trans hf3).fc nv)
  have HG3 := keep (HF2.out.trans hf3)
  have x0 := HX3.out.cell 0 rfl
  have HBo : Hid (Below B w w3) := (HF2.out.trans hf3).below (by omega) (by simp; omega)
  obtain ⟨e1, he1⟩ : ∃ e1, e1 = refK d 0 4 := ⟨_, rfl⟩
  have HE1 := keep he1
  rw [← he1] at HK3 HFew
  clear hk3 hf3 HK1 HK2 HX1 HX2 HF2 HB1 HC2 hc2 hcf hv2 hwr HW1 HW2 he1 hd
  obtain ⟨K, rfl⟩ : ∃ K', K = K' + 1 := ⟨K - 1, by omega⟩
  have HP := keep (part_any B 10 [a] (.slice p1 n1 k1) 0 a w3 (Nat.le_trans hBC (Nat.le_of_lt HK3.out.lt)) (HI.out.below HBo.out) rfl)
  have x4 := HX3.out.cell 4 rfl
  go_wp2_with fail
  refine HP.out.mono ?_
  rintro r w4 ⟨sa, rfl, hsa, hb4⟩
  have HX4 := keep (HX3.out.fs (Fs.of_below (l := []) hb4) (by simp))
  have HG4 := keep (HG3.out.trans (Fs.of_below hb4))
  have HC := keep (expr_ck m 10 C B rs A ns nv (wk + 1) lt e1 dark a sa w4 (by omega) hwf (HK3.out.below hb4) (hsa.below (hb4.mono (Nat.le_trans hBC (Nat.le_of_lt HK3.out.lt)))))
  clear hsa hb4 HP x4 x0
  go_wp2_with fail
  refine HC.out.mono ?_
  rintro r w5 ⟨s, e2, rfl, hk5, hf5, her⟩
  have HK5 := keep hk5
  have HX5 := keep (HX4.out.fs hf5 (by simp; omega))
  have HG5 := keep (HG4.out.trans hf5)
  have HER := keep her
  clear hk5 hf5 her HC HX4
  obtain ⟨dk, hdk⟩ : ∃ dk, (s || dark) = dk := ⟨_, rfl⟩
  have HDk := keep hdk
  have HFew5 : Hid (e2 = 0 → Few ns (wk + 1) lt) := fun h2 => (HFew.out (by
    by_cases h1 : e1 = 0
    · exact h1
    · rw [HER.out.1 h1] at h2; exact absurd h2 h1)).1
  have hBo5 : Below B w w5 := HG5.out.below (by omega) (by simp; omega)
  have HC := keep (ih K C B rs A ns nv (wk + 1) lt e2 dk th (.slice p2 n2 k2) w5 (by omega) (by omega) hwt HK5.out HFew5.out (HS2.out.below hBo5))
  have x5 := HX5.out.cell 5 rfl
  clear hBo5
  have hnT : ¬ nv.ownBlock = some w.heap.size := fun e => by have := (HOw.out _ e).2; omega
  cases s
  all_goals (
    first | (have hdk' : dark = dk := hdk; subst hdk') | (have hdk' : true = dk := hdk; subst hdk')
    clear hdk
    go_wp2_with fail
    refine HC.out.mono ?_
    rintro r w6 ⟨nv6, ns6, wk6, lt6, e6, rfl, hk6, hf6, hx6, hsr6⟩
    have HK6 := keep hk6
    have HX6 := keep (HX5.out.fc hf6 (by omega) hnT)
    have HF6 := keep ((HG5.out.fc nv).trans hf6)
    have HEx6 := keep hx6
    have HSr6 := keep hsr6
    have HFew6 : Hid (e6 = 0 → Few ns6 wk6 lt6) := fun h6 => by
      have h2 : e2 = 0 := by
        by_cases h2 : e2 = 0
        · exact h2
        · rw [hsr6.1 h2] at h6; exact absurd h6 h2
      have hf := HFew5.out h2
      exact hf.gd (block_gd th (fun t _ k a b => stmt_gd rs m _ t k a b) ⟨ns, wk + 1, lt⟩ hf.2.1 hf.2.2 |>.2 _ (hsr6.good h2 h6)).1
    have hBo6 : Below B w w6 := HF6.out.below hBC hCl (fun i hi => (HOw.out i hi).1)
    have HC6 := keep (fun dk' => ih K C B rs A ns6 nv6 wk6 lt6 e6 dk' el (.slice p3 n3 k3) w6 (by omega) (by omega) hwe HK6.out HFew6.out (HS3.out.below hBo6))
    have x6 := HX6.out.cell 6 rfl
    clear hk6 hf6 hx6 hsr6 hBo6 HC x5
    go_wp2_with fail
    refine (HC6.out _).mono ?_
    rintro r w7 ⟨nv7, ns7, wk7, lt7, e7, rfl, hk7, hf7, hx7, hsr7⟩
    have HK7 := keep hk7
    have HF7 := keep (HF6.out.trans hf7)
    have HEx7 : Hid (∃ ex, ns7 = ns ++ ex) := by
      obtain ⟨y, hy⟩ := hx7
      obtain ⟨z, hz⟩ := HEx6.out
      exact ⟨z ++ y, by rw [hy, hz, List.append_assoc]⟩
    have HSr := keep (stmt_sr (res := stmtK rs (m + 1) dark ⟨4, 0, [], tsec, [a], th, el⟩ ⟨ns, wk, lt⟩) HD.out (by rw [stmtK]; rfl) (HE1.out ▸ if_sr (dark := dark) HDk.out HER.out HSr6.out hsr7))
    clear hk7 hf7 hx7 hsr7 HC6
    go_wp2
    go_end0
    exact ⟨_, _, _, _, _, ⟨rfl, HK7.out, HF7.out, HEx7.out, HSr.out⟩⟩)
theorem stmt_ck : ∀ m, StmtCk m
  | 0 => fun K C B rs A ns nv wk lt dark t s1 s2 s3 w hK h10 hwf => hwf.elim
  | m + 1 => fun K C B rs A ns nv wk lt dark t s1 s2 s3 w hK h10 hwf h hfew hi hs2 hs3 => by
    have ih := block_ck m (stmt_ck m)
    obtain ⟨tk, tn, tx, tsec, ta, th, el⟩ := t
    rcases hwf with ⟨h1, h2, h3, h4, a, h5, h6⟩ | ⟨h1, h2, h3, h4, h5, h6, a, b, h7, h8, h9⟩ | ⟨h1, h2, h3, h4, ⟨a, h5, h6⟩, h7, h8⟩ | ⟨h1, h2, h3, h4, h5, h6, h7, h8⟩
    · dsimp only at h1 h2 h3 h4 h5
      subst h2 h3 h4 h5
      rcases h1 with ⟨h1, _⟩ | ⟨h1, _, _⟩ | ⟨h1, h2, _⟩
      · subst h1; exact kst_let m K C B rs A ns nv wk lt dark tx tsec a h6 s1 s2 s3 w hK h10 h hfew hi hs2 hs3
      · subst h1; exact kst_set m K C B rs A ns nv wk lt dark tx tsec a h6 s1 s2 s3 w hK h10 h hfew hi hs2 hs3
      · subst h1 h2; exact kst_ret m K C B rs A ns nv wk lt dark tsec a h6 s1 s2 s3 w hK h10 h hfew hi hs2 hs3
    · dsimp only at h1 h4 h5 h6 h7
      subst h1 h4 h5 h6 h7
      exact kst_put m K C B rs A ns nv wk lt dark tx tsec a b h8 h9 s1 s2 s3 w hK h10 h hfew hi hs2 hs3
    · dsimp only at h1 h2 h4 h5 h7 h8
      subst h1 h2 h4 h5
      exact kst_if m ih K C B rs A ns nv wk lt dark tsec a th el h6 h7 h8 s1 s2 s3 w hK h10 h hfew hi hs2 hs3
    · dsimp only at h1 h4 h5 h6 h7 h8
      subst h1 h6 h7
      exact kst_for m ih K C B rs A ns nv wk lt dark tn tx tsec th h4 h5 h8 s1 s2 s3 w hK h10 h hfew hi hs2 hs3
end Go.Proofs.YtemdnmfldihalaaDoor.Lr
