/- The checker's loop, round by round. Written by tools/gen_kloop.py. -/
import Derived.Test.YtemdnmfldihalaaDoorLkBlock
namespace Go.Proofs.YtemdnmfldihalaaDoor.Lr
set_option linter.unusedVariables false
set_option linter.unusedSimpArgs false
open Go.ChangeShapes Go.WideShapes Go.ChangeAt Go.RowKit Lg

theorem block_nil (f : St → Ks → Except Int Ks) (k : Ks) : blockK f [] k = .ok k := rfl
theorem rounds_nil (f : St → Ks → Except Int Ks) (k : Ks) : ∀ n, roundsK (blockK f []) n k = .ok k
  | 0 => rfl
  | n + 1 => by rw [roundsK, block_nil, thenK_ok]; exact rounds_nil f k n
def loopK (rs : List Vr) (m : Nat) (dark : Bool) (t : St) (k : Ks) : Except Int Ks := if takenK rs k.ns t.name = true then .error 7 else thenK (roundsK (blockK (stmtK rs m dark) t.thn) t.n.toNat ⟨k.ns ++ [⟨t.name, false, true⟩], k.work, k.lets⟩) fun k' => .ok ⟨k.ns, k'.work, k'.lets⟩
/-- How far a loop has come. -/
structure LR (f : Ks → Except Int Ks) (n : Nat) (k0 : Ks) (k : Nat) (e e1 : Int) (k1 : Ks) : Prop where
  ex : ∃ ex, k1.ns = k0.ns ++ ex
  was : ¬ e = 0 → e1 = e
  bad : e = 0 → ¬ e1 = 0 → roundsK f n k0 = .error e1
  good : e = 0 → e1 = 0 → roundsK f n k0 = roundsK f (n - k) k1
  few : e1 = 0 → Few k1.ns k1.work k1.lets
theorem lr_zero {f : Ks → Except Int Ks} {n : Nat} {k0 : Ks} {e : Int} (h : e = 0 → Few k0.ns k0.work k0.lets) : LR f n k0 0 e e k0 := ⟨⟨[], by simp⟩, fun _ => rfl, fun h1 h2 => absurd h1 h2, fun _ _ => rfl, h⟩
theorem lr_step {rs : List Vr} {m : Nat} {dark : Bool} {l : List St} {n : Nat} {k0 k1 k2 : Ks} {k : Nat} {e e2 : Int} (h : LR (blockK (stmtK rs m dark) l) n k0 k e 0 k1) (hk : k < n) (hs : SR 0 e2 (blockK (stmtK rs m dark) l k1) k2) (hx : ∃ ex, k2.ns = k1.ns ++ ex) : LR (blockK (stmtK rs m dark) l) n k0 (k + 1) e e2 k2 := by
  have he : e = 0 := by
    by_cases he : e = 0
    · exact he
    · exact (h.was he).symm
  obtain ⟨j, hj⟩ : ∃ j, n - k = j + 1 := ⟨n - k - 1, by omega⟩
  refine ⟨?_, fun hn => absurd he hn, fun _ h2 => ?_, fun _ h2 => ?_, fun h2 => ?_⟩
  · obtain ⟨x, hx1⟩ := h.ex
    obtain ⟨y, hy⟩ := hx
    exact ⟨x ++ y, by rw [hy, hx1, List.append_assoc]⟩
  · rw [h.good he rfl, hj, roundsK, hs.bad rfl h2]; rfl
  · rw [h.good he rfl, hj, roundsK, hs.good rfl h2, thenK_ok, show n - (k + 1) = j by omega]
  · have hf := h.few rfl
    have hg := (block_gd l (fun t _ k a b => stmt_gd rs m dark t k a b) k1 hf.2.1 hf.2.2).2 k2 (hs.good rfl h2)
    exact hf.gd hg.1
theorem lr_end {rs : List Vr} {m : Nat} {dark : Bool} {t : St} {ns : List Nm} {wk lt : Nat} {k1 : Ks} {k : Nat} {e e0 e1 : Int} (h0 : e0 = refK (takenK rs ns t.name) e 7) (h : LR (blockK (stmtK rs m dark) t.thn) t.n.toNat ⟨ns ++ [⟨t.name, false, true⟩], wk, lt⟩ k e0 e1 k1) (hk : e1 = 0 → t.n.toNat ≤ k) : SR e e1 (loopK rs m dark t ⟨ns, wk, lt⟩) ⟨ns, k1.work, k1.lets⟩ := by
  refine .mk (fun he => ?_) fun he => ?_
  · have h1 : e0 = e := by rw [h0, refK_ne he]
    rw [h.was (by rw [h1]; exact he), h1]
  · subst he
    unfold loopK
    dsimp only
    cases ht : takenK rs ns t.name with
    | true =>
      rw [ht, refK_yes] at h0
      have h7 := h.was (by rw [h0]; decide)
      rw [if_pos rfl]
      exact .inl ⟨7, rfl, by rw [h7, h0], by decide⟩
    | false =>
      rw [ht, refK_no] at h0
      rw [if_neg (by simp)]
      by_cases h1 : e1 = 0
      · rw [h.good h0 h1, show t.n.toNat - k = 0 by have := hk h1; omega, roundsK, thenK_ok]
        exact .inr ⟨_, rfl, h1, rfl⟩
      · rw [h.bad h0 h1]
        exact .inl ⟨e1, rfl, rfl, h1⟩
theorem loop_none {rs : List Vr} {m : Nat} {dark : Bool} {t : St} {ns : List Nm} {wk lt : Nat} {e : Int} (h : t.thn = []) : SR e (refK (takenK rs ns t.name) e 7) (loopK rs m dark t ⟨ns, wk, lt⟩) ⟨ns, wk, lt⟩ := by
  refine .mk (fun he => refK_ne he) fun he => ?_
  subst he
  unfold loopK
  dsimp only
  cases ht : takenK rs ns t.name with
  | true => exact .inl ⟨7, by rw [if_pos rfl], refK_yes 7, by decide⟩
  | false => exact .inr ⟨_, by rw [if_neg (by simp), h, rounds_nil, thenK_ok], refK_no 0 7, rfl⟩
set_option maxHeartbeats 16000000 in
set_option maxRecDepth 100000 in
theorem loop_any (m : Nat) (ih : BlockCk m) (K C B : Nat) (rs : List Vr) (A : Value) (ns : List Nm) (nv : Value) (wk lt : Nat) (e : Int) (dark : Bool) (tn : Int) (tx : List UInt8) (tsec : Bool) (ta : List Ex) (th el : List St) (s1 s2 s3 : Value) (w : World)
    (hK : m ≤ K) (h10 : m ≤ 10) (hwf : ∀ t ∈ th, wfS m t) (hn0 : 0 ≤ tn) (hn8 : tn ≤ 8) (h : CK w C B rs A ns nv wk lt e) (hlen : ns.length + 1 ≤ 400) (hfew : e = 0 → Few (ns ++ [⟨tx, false, true⟩]) wk lt) (hs1 : ∃ p n c, s1 = .slice p n c) (hi : StIs w B 10 (K + 1) th s2) (hs3 : ∃ p n c, s3 = .slice p n c) :
    Calls Tryd.prog 48 #[.pointer (some ⟨C, 0, none⟩), .agg (stA ⟨5, tn, tx, tsec, ta, th, el⟩ s1 s2 s3), .bool dark] w fun r w' => StEnd w C B rs A ns nv e (loopK rs m dark ⟨5, tn, tx, tsec, ta, th, el⟩ ⟨ns, wk, lt⟩) r w' := by
  have hCl := h.lt
  have hBC := h.hB
  have hBw : B ≤ w.heap.size := Nat.le_trans h.hB (Nat.le_of_lt hCl)
  have hsl := hi
  obtain ⟨p2, n2, c2, rfl, hl2, _⟩ := hsl
  obtain ⟨p1, n1, c1, rfl⟩ := hs1
  obtain ⟨p3, n3, c3, rfl⟩ := hs3
  obtain ⟨pv, nv', cv, rfl⟩ := RowX.slice h.row
  have hnl := RowX.len h.row
  subst hnl
  have HOw := keep h.own
  obtain ⟨w1, hw1⟩ : ∃ w1, w.alloc (.cells #[.int .i64 5, .int .i64 tn, .string ⟨tx.toArray⟩, .bool tsec, .slice p1 n1 c1, .slice p2 n2 c2, .slice p3 n3 c3] 67) = w1 := ⟨_, rfl⟩
  have HB1 : Hid (Below w.heap.size w w1) := by
    show Below _ _ _
    rw [← hw1]; exact (Below.refl _ _).alloc (Nat.le_refl _) _
  have HX1 : Hid (Bk w1 w.heap.size [.int .i64 5, .int .i64 tn, .string ⟨tx.toArray⟩, .bool tsec, .slice p1 n1 c1, .slice p2 n2 c2, .slice p3 n3 c3] 67) := by
    show Bk _ _ _ _
    rw [← hw1]; exact Bk.new _ _ _
  have HK1 := keep (h.below HB1.out)
  have HNoT : Hid (¬ (Value.slice pv ns.length cv).ownBlock = some w.heap.size) := fun e => by have := (HOw.out _ e).2; omega
  have HI := keep hi
  have Hih := keep ih
  have Hwf := keep hwf
  have HFew : Hid (refK (takenK rs ns tx) e 7 = 0 → Few (ns ++ [⟨tx, false, true⟩]) wk lt) := fun h0 => hfew (by
    by_cases he : e = 0
    · exact he
    · rw [refK_ne he] at h0; exact absurd h0 he)
  have x2 := HX1.out.cell 2 rfl
  have HW1 := keep hw1
  have HL2 := keep hl2
  clear h hi ih hwf hfew hw1 hl2
  unfold stA
  go_enter Tryd.func48, Tryd.ntmps48
  go_wp2_with (first | rw [HW1.out])
  refine (taken_any C B rs A ns (.slice pv ns.length cv) wk lt e tx w1 HK1.out).mono ?_
  rintro r w2 ⟨rfl, hb2⟩
  have HK2 := keep (HK1.out.below hb2)
  have HX2 := keep (HX1.out.fs (Fs.of_below (l := []) hb2) (by simp))
  have HB2 := keep (HB1.out.trans (hb2.mono HB1.out.size))
  clear hb2 x2 HW1
  go_wp2_with fail
  refine (refuse_ck C B rs A ns (.slice pv ns.length cv) wk lt e (takenK rs ns tx) 7 w2 HK2.out).mono ?_
  rintro r w3 ⟨rfl, hk3, hf3⟩
  have HKp := keep hk3
  have HTp := keep (HX2.out.fs hf3 (by simp; omega))
  have HF3 := keep ((Fs.of_below HB2.out).trans hf3)
  have HFp := keep (HF3.out.fc (.slice pv ns.length cv))
  have x5 := HTp.out.cell 5 rfl
  have k1 := HKp.out.box.cell 1 rfl
  obtain ⟨e0, he0⟩ : ∃ e0, e0 = refK (takenK rs ns tx) e 7 := ⟨_, rfl⟩
  have HE0 := keep he0
  rw [← he0] at HKp HFew
  clear hk3 hf3 HK2 HX2 HB2 HK1 HX1 HB1 he0
  by_cases hth : n2 = 0
  · subst hth
    have HNo := keep (loop_none (rs := rs) (m := m) (dark := dark) (t := ⟨5, tn, tx, tsec, ta, th, el⟩) (ns := ns) (wk := wk) (lt := lt) (e := e) (List.length_eq_zero_iff.1 HL2.out))
    dsimp only at HNo
    rw [← HE0.out] at HNo
    go_wp2_with fail
    refine bodyPost_ret (results_none rfl _ _ _) rfl ?_
    exact ⟨_, _, _, _, _, ⟨rfl, HKp.out, HFp.out, ⟨[], by simp⟩, HNo.out⟩⟩
  · have dth : ((n2 : Int) == 0) = false := by simpa using hth
    clear hth HL2
    go_wp2_with fail
    obtain ⟨i0, hi0, j0, j1, j2⟩ := info_parts infoN
    refine wp_region_noPanic ?_
    refine Ord.wpM_begin (fun W' : World => W'.cell? ⟨C, 1, none⟩ = some (.slice pv ns.length cv) ∧ W'.cell? ⟨w.heap.size, 2, none⟩ = some (.string ⟨tx.toArray⟩)) [0, 1, 2, 3, 4, 5, 6, 7, 8, 9] (by kernel_rfl) ?_
    have HKd := keep (HKp.out.below (Below.drew (Below.refl _ _)))
    have HTd : Hid (Bk w3.drew w.heap.size [.int .i64 5, .int .i64 tn, .string ⟨tx.toArray⟩, .bool tsec, .slice p1 n1 c1, .slice p2 n2 c2, .slice p3 n3 c3] 67) := HTp.out
    have HFd : Hid (Fc C (.slice pv ns.length cv) (.slice pv ns.length cv) w w3.drew) := HFp.out.trans ((Fs.of_below (Below.drew (Below.refl _ _))).fc _)
    generalize w3.drew = wd at *
    have HSS : Hid (∀ W' : World, Bk W' C [A, .slice pv ns.length cv, .int .i64 (wk : Int), .int .i64 (lt : Int), .int .i64 e0] 50 → Bk W' w.heap.size [.int .i64 5, .int .i64 tn, .string ⟨tx.toArray⟩, .bool tsec, .slice p1 n1 c1, .slice p2 n2 c2, .slice p3 n3 c3] 67 → (W'.cell? ⟨C, 1, none⟩ = some (.slice pv ns.length cv) ∧ W'.cell? ⟨w.heap.size, 2, none⟩ = some (.string ⟨tx.toArray⟩))) := fun W' h1 h2 => ⟨h1.cell 1 rfl, h2.cell 2 rfl⟩
    have hS := HSS.out wd HKd.out.box HTd.out
    have hown := (RowX.own HKd.out.row).alloc (.cells #[.string ⟨tx.toArray⟩, .bool false, .bool true] 52)
    have HOwd := keep HKd.out.own
    have hCd := HKd.out.lt
    have hTd := HTd.out.lt
    refine Ord.wpM_take (i := 0) (v := .pointer (some ⟨C, 0, none⟩)) (by simp only [List.getElem?_toArray, List.getElem?_cons_zero, List.getElem?_cons_succ]; rfl) (by kernel_rfl) (by kernel_rfl) (by kernel_rfl) (by kernel_rfl) (fun _ _ _ h => h) (Or.inl ⟨by rfl, by intro W' hW; obtain ⟨q0, q1⟩ := hW; go_simp⟩) hS ?_
    try simp only [Act.put, List.setIfInBounds_toArray, List.set_cons_zero, List.set_cons_succ]
    refine Ord.wpM_take (i := 1) (v := .pointer (some ⟨C, 0, none⟩)) (by simp only [List.getElem?_toArray, List.getElem?_cons_zero, List.getElem?_cons_succ]; rfl) (by kernel_rfl) (by kernel_rfl) (by kernel_rfl) (by kernel_rfl) (fun _ _ _ h => h) (Or.inl ⟨by rfl, by intro W' hW; obtain ⟨q0, q1⟩ := hW; go_simp⟩) hS ?_
    try simp only [Act.put, List.setIfInBounds_toArray, List.set_cons_zero, List.set_cons_succ]
    refine Ord.wpM_take (i := 2) (v := .pointer (some ⟨C, 0, none⟩)) (by simp only [List.getElem?_toArray, List.getElem?_cons_zero, List.getElem?_cons_succ]; rfl) (by kernel_rfl) (by kernel_rfl) (by kernel_rfl) (by kernel_rfl) (fun _ _ _ h => h) (Or.inl ⟨by rfl, by intro W' hW; obtain ⟨q0, q1⟩ := hW; go_simp⟩) hS ?_
    try simp only [Act.put, List.setIfInBounds_toArray, List.set_cons_zero, List.set_cons_succ]
    refine Ord.wpM_take (i := 3) (v := .pointer (some ⟨C, 1, none⟩)) (by simp only [List.getElem?_toArray, List.getElem?_cons_zero, List.getElem?_cons_succ]; rfl) (by kernel_rfl) (by kernel_rfl) (by kernel_rfl) (by kernel_rfl) (fun _ _ _ h => h) (Or.inl ⟨by rfl, by intro W' hW; obtain ⟨q0, q1⟩ := hW; go_simp⟩) hS ?_
    try simp only [Act.put, List.setIfInBounds_toArray, List.set_cons_zero, List.set_cons_succ]
    refine Ord.wpM_take (i := 4) (v := .slice pv ns.length cv) (by simp only [List.getElem?_toArray, List.getElem?_cons_zero, List.getElem?_cons_succ]; rfl) (by kernel_rfl) (by kernel_rfl) (by kernel_rfl) (by kernel_rfl) (fun _ _ _ h => h) (Or.inl ⟨by rfl, by intro W' hW; obtain ⟨q0, q1⟩ := hW; go_simp⟩) hS ?_
    try simp only [Act.put, List.setIfInBounds_toArray, List.set_cons_zero, List.set_cons_succ]
    refine Ord.wpM_take (i := 5) (v := .pointer (some ⟨w.heap.size, 2, none⟩)) (by simp only [List.getElem?_toArray, List.getElem?_cons_zero, List.getElem?_cons_succ]; rfl) (by kernel_rfl) (by kernel_rfl) (by kernel_rfl) (by kernel_rfl) (fun _ _ _ h => h) (Or.inl ⟨by rfl, by intro W' hW; obtain ⟨q0, q1⟩ := hW; go_simp⟩) hS ?_
    try simp only [Act.put, List.setIfInBounds_toArray, List.set_cons_zero, List.set_cons_succ]
    refine Ord.wpM_take (i := 6) (v := .string ⟨tx.toArray⟩) (by simp only [List.getElem?_toArray, List.getElem?_cons_zero, List.getElem?_cons_succ]; rfl) (by kernel_rfl) (by kernel_rfl) (by kernel_rfl) (by kernel_rfl) (fun _ _ _ h => h) (Or.inl ⟨by rfl, by intro W' hW; obtain ⟨q0, q1⟩ := hW; go_simp⟩) hS ?_
    try simp only [Act.put, List.setIfInBounds_toArray, List.set_cons_zero, List.set_cons_succ]
    refine Ord.wpM_take (i := 7) (v := .agg #[.string ⟨tx.toArray⟩, .bool false, .bool true]) (by simp only [List.getElem?_toArray, List.getElem?_cons_zero, List.getElem?_cons_succ]; rfl) (by kernel_rfl) (by kernel_rfl) (by kernel_rfl) (by kernel_rfl) (fun _ _ _ h => h) (Or.inl ⟨by rfl, by intro W' hW; obtain ⟨q0, q1⟩ := hW; go_simp⟩) hS ?_
    try simp only [Act.put, List.setIfInBounds_toArray, List.set_cons_zero, List.set_cons_succ]
    refine Ord.wpM_one (i := 8) (by kernel_rfl) (by simp only [List.getElem?_toArray, List.getElem?_cons_zero, List.getElem?_cons_succ]; rfl) (fun K hK => ?_)
    go_simp
    have hb1 : Below wd.heap.size wd (wd.alloc (.cells #[.string ⟨tx.toArray⟩, .bool false, .bool true] 52)) := (Below.refl _ _).alloc (Nat.le_refl _) _
    refine hK.out _ _ (fun _ => HSS.out _ (HKd.out.below hb1).box (HTd.out.fs (Fs.of_below (l := []) hb1) (by simp))) ?_
    clear hK K
    try simp only [Act.put, List.setIfInBounds_toArray, List.set_cons_zero, List.set_cons_succ]
    refine Ord.wpM_one (i := 9) (by kernel_rfl) (by simp only [List.getElem?_toArray, List.getElem?_cons_zero, List.getElem?_cons_succ]; rfl) (fun K hK => ?_)
    refine step_append_lies _ rfl (.tmp 27) (.tmp 31) 48 rfl (C + 1) 52 i0 _ 3 24 Tryd.underlying48 hi0 j0 j1 j2 rfl (by decide) (.slice pv ns.length cv) ns.length (ns.flatMap cellsN) rfl hown ⟨wd.heap.size, 0, none⟩ 1 1 (cellsN ⟨tx, false, true⟩) rfl rfl (fun j u hj => new_cell wd _ _ j u hj) ?c2 (by decide) ?c3 ?c4 ?c5 (wd.heap.size + 1) (by simp) ?_
    case c2 =>
      intro u hu
      simp only [cellsN, List.mem_cons, List.not_mem_nil, or_false] at hu
      rcases hu with rfl | rfl | rfl <;> rfl
    case c3 => unfold maxLen; omega
    case c4 => omega
    case c5 => simp; omega
    · intro g cap y2 hown2 hgrow hat hlt
      have hpush := ck_push (nm := ⟨tx, false, true⟩) (ty := 52) HKd.out hown2 hgrow hat (by omega)
      have HPush := keep hpush
      have hkC : y2.heap[C]? = wd.heap[C]? := (hgrow.block C (by simp; omega) (fun e => by have := (HOwd.out C e.symm).1; omega)).trans (hb1.block C hCd)
      have hkT : y2.heap[w.heap.size]? = wd.heap[w.heap.size]? := (hgrow.block w.heap.size (by simp; omega) (fun e => by have := HNoT.out e.symm; exact this)).trans (hb1.block w.heap.size hTd)
      have HCb : Hid (Bk y2 C [A, .slice pv ns.length cv, .int .i64 (wk : Int), .int .i64 (lt : Int), .int .i64 e0] 50) := by
        have hb := HKd.out.box
        show Bk _ _ _ _
        unfold Bk at hb ⊢
        rw [hkC]; exact hb
      have HTb : Hid (Bk y2 w.heap.size [.int .i64 5, .int .i64 tn, .string ⟨tx.toArray⟩, .bool tsec, .slice p1 n1 c1, .slice p2 n2 c2, .slice p3 n3 c3] 67) := by
        have hb := HTd.out
        show Bk _ _ _ _
        unfold Bk at hb ⊢
        rw [hkT]; exact hb
      refine hK.out _ _ (fun _ => HSS.out _ HCb.out HTb.out) ?_
      clear hK K hown2 hgrow hat hkC hkT hpush hS hown
      have cC1 := HCb.out.cell 1 rfl
      have fC1 := HCb.out.fr 1
      try simp only [Act.put, List.setIfInBounds_toArray, List.set_cons_zero, List.set_cons_succ]
      refine Ord.wpM_one (i := 10) (by kernel_rfl) (by simp only [List.getElem?_toArray, List.getElem?_cons_zero, List.getElem?_cons_succ]; rfl) (fun K hK => ?_)
      go_simp
      refine hK.out _ _ (fun h => absurd h (by decide)) ?_
      clear hK K
      try simp only [Act.put, List.setIfInBounds_toArray, List.set_cons_zero, List.set_cons_succ]
      refine Ord.wpM_one (i := 11) (by kernel_rfl) (by simp only [List.getElem?_toArray, List.getElem?_cons_zero, List.getElem?_cons_succ]; rfl) (fun K hK => ?_)
      go_simp
      refine hK.out _ _ (fun h => absurd h (by decide)) ?_
      clear hK K
      try simp only [Act.put, List.setIfInBounds_toArray, List.set_cons_zero, List.set_cons_succ]
      refine Ord.wpM_one (i := 12) (by kernel_rfl) (by simp only [List.getElem?_toArray, List.getElem?_cons_zero, List.getElem?_cons_succ]; rfl) (fun K hK => ?_)
      go_simp
      refine hK.out _ _ (fun h => absurd h (by decide)) ?_
      clear hK K
      try simp only [Act.put, List.setIfInBounds_toArray, List.set_cons_zero, List.set_cons_succ]
      refine Ord.wpM_done (by kernel_rfl) ?_ _
      refine NoPanic.normal ?_
      obtain ⟨hp1, hp2⟩ := HPush.out
      have HT4 : Hid (Bk (y2.setCell ⟨C, 1, none⟩ (.slice (some ⟨g, 0, none⟩) (ns.length + 1) cap)) w.heap.size [.int .i64 5, .int .i64 tn, .string ⟨tx.toArray⟩, .bool tsec, .slice p1 n1 c1, .slice p2 n2 c2, .slice p3 n3 c3] 67) := HTb.out.far _ _ (by omega)
      have HF4 := keep (HFd.out.trans hp2)
      have HK4 := keep hp1
      have hyT : w.heap.size < y2.heap.size := HTb.out.lt
      have hysz : (y2.setCell ⟨C, 1, none⟩ (.slice (some ⟨g, 0, none⟩) (ns.length + 1) cap)).heap.size = y2.heap.size := by simp [World.setCell]
      generalize y2.setCell ⟨C, 1, none⟩ (.slice (some ⟨g, 0, none⟩) (ns.length + 1) cap) = w4 at *
      have HnT : Hid (∀ v : Value, (∀ k, v.ownBlock = some k → (Value.slice (some ⟨g, 0, none⟩) (ns.length + 1) cap).ownBlock = some k ∨ w4.heap.size ≤ k) → ¬ v.ownBlock = some w.heap.size) := fun v hv e => by
        rcases hv _ e with e | e
        · have e' : g = w.heap.size := by simpa [Value.ownBlock] using e
          rcases hp2.own g rfl with q | q
          · rw [e'] at q; exact HNoT.out q
          · omega
        · omega
      have HLR := keep (lr_zero (f := blockK (stmtK rs m dark) th) (n := tn.toNat) (k0 := ⟨ns ++ [⟨tx, false, true⟩], wk, lt⟩) (e := e0) HFew.out)
      clear hp1 hp2 HPush HTb HCb HTd HKd HFd HSS cC1 fC1 HFew
      go_wp2
      go_loopw [7] (fun i wx => ∃ (k : Nat) (nv1 : Value) (ns1 : List Nm) (wk1 lt1 : Nat) (e1 : Int), (k : Int) ≤ tn ∧ i = .int .i64 (k : Int) ∧ CK wx C B rs A ns1 nv1 wk1 lt1 e1 ∧ Fc C (.slice (some ⟨g, 0, none⟩) (ns.length + 1) cap) nv1 w4 wx ∧ Bk wx w.heap.size [.int .i64 5, .int .i64 tn, .string ⟨tx.toArray⟩, .bool tsec, .slice p1 n1 c1, .slice p2 n2 c2, .slice p3 n3 c3] 67 ∧ LR (blockK (stmtK rs m dark) th) tn.toNat ⟨ns ++ [⟨tx, false, true⟩], wk, lt⟩ k e0 e1 ⟨ns1, wk1, lt1⟩) (fun i _ => tn.toNat - (intOf i).toNat)
      case atStart => exact ⟨0, _, _, wk, lt, e0, hn0, rfl, HK4.out, (Fs.refl _ _).fc _, HT4.out, HLR.out⟩
      case round =>
        obtain ⟨k, nv1, ns1, wk1, lt1, e1, hkn, rfl, hck, hfc, hbk, hlr⟩ := hrel
        have HCK := keep hck
        have HFC := keep hfc
        have HBk := keep hbk
        have HLr := keep hlr
        have b1 := hbk.cell 1 rfl
        have b5 := hbk.cell 5 rfl
        have q4 := hck.box.cell 4 rfl
        clear hck hfc hbk hlr HLR HT4
        have hmore : ∀ (c : Bool), c = true → True := fun _ _ => trivial
        by_cases hgo : (k : Int) < tn ∧ e1 = 0
        · obtain ⟨hkl, rfl⟩ := hgo
          have d1 : decide ((k : Int) < tn) = true := decide_eq_true hkl
          have hBo : Below B w wr := (HF4.out.trans HFC.out).below hBC hCl (fun i hi => (HOw.out i hi).1)
          have HC := keep (Hih.out K C B rs A ns1 nv1 wk1 lt1 0 dark th (.slice p2 n2 c2) wr hK h10 Hwf.out HCK.out (fun _ => HLr.out.few rfl) (HI.out.below hBo))
          clear hBo
          go_wp2_with fail
          refine HC.out.mono ?_
          rintro r w5 ⟨nv2, ns2, wk2, lt2, e2, rfl, hk2, hf2, hx2, hsr⟩
          have HK5 := keep hk2
          have HF5 := keep (HFC.out.trans hf2)
          have HL5 := keep (lr_step HLr.out (by omega) hsr hx2)
          have HT5 := keep (HBk.out.fc hf2 (by omega) (HnT.out nv1 (fun k hk => HFC.out.own k hk)))
          clear hk2 hf2 hx2 hsr HC b1 b5 q4
          go_wp2
          go_roundw
          case rel => exact ⟨k + 1, nv2, ns2, wk2, lt2, e2, by omega, by go_num, HK5.out, HF5.out, HT5.out, HL5.out⟩
          case measure => simp [intOf]; omega
        · obtain ⟨ex, hex⟩ := HLr.out.ex
          dsimp only at hex
          rw [List.append_assoc] at hex
          subst hex
          obtain ⟨pz, nz, cz, rfl⟩ := RowX.slice HCK.out.row
          have hcap := RowN.cap HCK.out.row
          have q1 := HCK.out.box.cell 1 rfl
          have qf := HCK.out.box.fr 1
          have HCut := keep (ck_cut HCK.out)
          have HEnd := keep (lr_end (t := ⟨5, tn, tx, tsec, ta, th, el⟩) HE0.out HLr.out (fun h1 => by
            by_cases hx : (k : Int) < tn
            · exact absurd ⟨hx, h1⟩ hgo
            · dsimp only; omega))
          have HFz := keep (HF4.out.trans HFC.out)
          have hl1 : ns.length ≤ cz := by have := hcap.2.1; have := hcap.1; rw [List.length_append] at this; omega
          by_cases hkl : (k : Int) < tn
          · have he1 : ¬ e1 = 0 := fun h1 => hgo ⟨hkl, h1⟩
            have d1 : decide ((k : Int) < tn) = true := decide_eq_true hkl
            have d2 : (e1 == 0) = false := by simpa using he1
            clear hgo he1
            go_wp2
            go_end0
            exact ⟨_, _, _, _, _, ⟨rfl, HCut.out.1, HFz.out.trans HCut.out.2, ⟨[], by simp⟩, HEnd.out⟩⟩
          · have d1 : decide ((k : Int) < tn) = false := decide_eq_false hkl
            clear hgo
            go_wp2
            go_end0
            exact ⟨_, _, _, _, _, ⟨rfl, HCut.out.1, HFz.out.trans HCut.out.2, ⟨[], by simp⟩, HEnd.out⟩⟩
end Go.Proofs.YtemdnmfldihalaaDoor.Lr
