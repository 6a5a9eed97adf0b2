/- The checker's let. Written by tools/gen_klet.py. -/
import Derived.Test.YtemdnmfldihalaaDoorLkFrame
namespace Go.Proofs.YtemdnmfldihalaaDoor.Lr
set_option linter.unusedVariables false
set_option linter.unusedSimpArgs false
open Go.ChangeShapes Go.WideShapes Go.ChangeAt Go.RowKit Lg

theorem infoN : (Tryd.prog.info? 52).map (fun i => (i.zero, i.size, i.bytes)) = some (some (.agg #[.string ⟨#[]⟩, .bool false, .bool false]), 3, 24) := by kernel_rfl
theorem wrap_one (k : Nat) (h : k ≤ 1000000) : IntKind.i64.wrap ((k : Int) + 1) = (k : Int) + 1 := by
  rw [IntKind.wrap_i64]; omega
theorem refs_sr {res : Except Int Bool} {f : Bool → Except Int Ks} {e e1 e2 : Int} {s : Bool} {k' : Ks} (h : ER e e1 res s) (h1 : ¬ e1 = 0 → e2 = e1) (h2 : e1 = 0 → (∃ x, f s = .error x ∧ e2 = x ∧ ¬ x = 0) ∨ ∃ b, f s = .ok b ∧ e2 = 0 ∧ k' = b) : SR e e2 (thenK res f) k' := by
  refine .mk (fun he => ?_) fun he => ?_
  · have h3 := h.1 he
    rw [h1 (by rw [h3]; exact he), h3]
  · by_cases h3 : e1 = 0
    · rw [h.good he h3, thenK_ok]
      exact h2 h3
    · rw [h.bad he h3]
      exact .inl ⟨e1, rfl, h1 h3, h3⟩
theorem let_sr {rs : List Vr} {ns : List Nm} {wk lt : Nat} {dark : Bool} {t : St} {res : Except Int Bool} {e e1 : Int} {s c d : Bool} (h : ER e e1 res s) (hc : (!t.secret && (s || dark)) = c) (hd : decide (24 < (lt : Int) + 1) = d) :
    SR e (refK d (refK c (refK (takenK rs ns t.name) e1 7) 10) 4) (thenK res fun s => letK rs t dark s ⟨ns, wk, lt⟩) ⟨ns ++ [⟨t.name, t.secret, false⟩], wk, lt + 1⟩ := by
  refine refs_sr h (fun h1 => by rw [refK_ne, refK_ne, refK_ne h1] <;> (rw [refK_ne] <;> first | exact h1 | (rw [refK_ne h1]; exact h1))) fun h1 => ?_
  subst h1
  unfold letK
  dsimp only
  rw [hc]
  cases takenK rs ns t.name with
  | true => exact .inl ⟨7, by rw [if_pos rfl], by rw [refK_yes, refK_ne (c := c) (by decide), refK_ne (by decide)], by decide⟩
  | false =>
    rw [if_neg (by simp), refK_no]
    cases c with
    | true => exact .inl ⟨10, by rw [if_pos rfl], by rw [refK_yes, refK_ne (by decide)], by decide⟩
    | false =>
      rw [if_neg (by simp), refK_no]
      by_cases hl : 24 < lt + 1
      · rw [decide_eq_true (by omega)] at hd
        subst hd
        exact .inl ⟨4, by rw [if_pos hl], refK_yes 4, by decide⟩
      · rw [decide_eq_false (by omega)] at hd
        subst hd
        exact .inr ⟨_, by rw [if_neg hl], refK_no 0 4, rfl⟩
set_option maxHeartbeats 16000000 in
set_option maxRecDepth 100000 in
theorem let_any (m M C B : Nat) (rs : List Vr) (A : Value) (ns : List Nm) (nv : Value) (wk lt : Nat) (e : Int) (dark : Bool) (tn : Int) (tx : List UInt8) (tsec : Bool) (a : Ex) (th el : List St) (s1 s2 s3 : Value) (w : World)
    (hM : m ≤ M) (hwf : wfE m a) (h : CK w C B rs A ns nv wk lt e) (hlen : ns.length + 1 ≤ 400) (hlt : lt ≤ 24) (hi : ExIs w B (M + 1) (ar [a]) s1) (hs2 : ∃ p n c, s2 = .slice p n c) (hs3 : ∃ p n c, s3 = .slice p n c) :
    Calls Tryd.prog 43 #[.pointer (some ⟨C, 0, none⟩), .agg (stA ⟨1, tn, tx, tsec, [a], th, el⟩ s1 s2 s3), .bool dark] w fun r w' => StEnd w C B rs A ns nv e (thenK (exprK rs ns dark m a) fun s => letK rs ⟨1, tn, tx, tsec, [a], th, el⟩ dark s ⟨ns, wk, lt⟩) r w' := by
  have hCl := h.lt
  have hBw : B ≤ w.heap.size := Nat.le_trans h.hB (Nat.le_of_lt hCl)
  obtain ⟨p1, n1, c1, rfl⟩ := hi.slice
  obtain ⟨p2, n2, c2, rfl⟩ := hs2
  obtain ⟨p3, n3, c3, rfl⟩ := hs3
  obtain ⟨pv, nv', cv, rfl⟩ := RowX.slice h.row
  have hnl := RowX.len h.row
  subst hnl
  have HOw := keep h.own
  obtain ⟨w1, hw1⟩ : ∃ w1, w.alloc (.cells #[.int .i64 1, .int .i64 tn, .string ⟨tx.toArray⟩, .bool tsec, .slice p1 n1 c1, .slice p2 n2 c2, .slice p3 n3 c3] 67) = w1 := ⟨_, rfl⟩
  have HB1 : Hid (Below w.heap.size w w1) := by
    show Below _ _ _
    rw [← hw1]; exact (Below.refl _ _).alloc (Nat.le_refl _) _
  have HX1 : Hid (Bk w1 w.heap.size [.int .i64 1, .int .i64 tn, .string ⟨tx.toArray⟩, .bool tsec, .slice p1 n1 c1, .slice p2 n2 c2, .slice p3 n3 c3] 67) := by
    show Bk _ _ _ _
    rw [← hw1]; exact Bk.new _ _ _
  have HK := keep h
  have HNoT : Hid (¬ (Value.slice pv ns.length cv).ownBlock = some w.heap.size) := fun e => by have := (HOw.out _ e).2; omega
  have HP := keep (part_any B M [a] (.slice p1 n1 c1) 0 a w1 (Nat.le_trans hBw HB1.out.size) (hi.below (HB1.out.mono hBw)) rfl)
  have x4 := HX1.out.cell 4 rfl
  have Hwf := keep hwf
  have HW1 := keep hw1
  clear h hi hwf hw1
  unfold stA
  go_enter Tryd.func43, Tryd.ntmps43
  go_wp2_with (first | rw [HW1.out])
  refine HP.out.mono ?_
  rintro r w2 ⟨sa, rfl, hsa, hb2⟩
  have HB2 := keep (HB1.out.trans (hb2.mono HB1.out.size))
  have HX2 := keep (HX1.out.fs (Fs.of_below (l := []) hb2) (by simp))
  have HC := keep (expr_ck m M C B rs A ns (.slice pv ns.length cv) wk lt e dark a sa w2 hM Hwf.out (HK.out.below HB2.out) (hsa.below (hb2.mono (Nat.le_trans hBw HB1.out.size))))
  clear hsa hb2 HP x4 HW1
  go_wp2_with fail
  refine HC.out.mono ?_
  rintro r w3 ⟨s, e1, rfl, hk3, hf3, her⟩
  have HK3 := keep hk3
  have HX3 := keep (HX2.out.fs hf3 (by simp; omega))
  have HF3 := keep ((Fs.of_below HB2.out).trans hf3)
  have HER := keep her
  have x2 := HX3.out.cell 2 rfl
  clear hk3 hf3 her HC HX2
  go_wp2_with fail
  refine (taken_any C B rs A ns (.slice pv ns.length cv) wk lt e1 tx w3 HK3.out).mono ?_
  rintro r w4 ⟨rfl, hb4⟩
  have HK4 := keep (HK3.out.below hb4)
  have HX4 := keep (HX3.out.fs (Fs.of_below (l := []) hb4) (by simp))
  have HF4 := keep (HF3.out.trans (Fs.of_below hb4))
  clear hb4 x2
  go_wp2_with fail
  refine (refuse_ck C B rs A ns (.slice pv ns.length cv) wk lt e1 (takenK rs ns tx) 7 w4 HK4.out).mono ?_
  rintro r w5 ⟨rfl, hk5, hf5⟩
  have HK5 := keep hk5
  have HX5 := keep (HX4.out.fs hf5 (by simp; omega))
  have HF5 := keep (HF4.out.trans hf5)
  have x3 := HX5.out.cell 3 rfl
  clear hk5 hf5 HK4 HX4 HF4 HK3 HX3 HF3
  obtain ⟨d24, h24⟩ : ∃ d, decide (24 < (lt : Int) + 1) = d := ⟨_, rfl⟩
  have HLet := keep (fun (c : Bool) hc => let_sr (rs := rs) (ns := ns) (wk := wk) (lt := lt) (dark := dark) (t := ⟨1, tn, tx, tsec, [a], th, el⟩) (c := c) HER.out hc h24)
  dsimp only at HLet
  generalize refK (takenK rs ns tx) e1 7 = e2 at *
  have HEnd : Hid (∀ c, Calls Tryd.prog 42 #[.pointer (some ⟨C, 0, none⟩), .bool c, .int .i64 10] w5 fun r w' => r = .returned (.tuple #[]) ∧ CK w' C B rs A ns (.slice pv ns.length cv) wk lt (refK c e2 10) ∧ Fs [C] w5 w') := fun c => refuse_ck C B rs A ns (.slice pv ns.length cv) wk lt e2 c 10 w5 HK5.out
  have hwr : IntKind.i64.wrap ((lt : Int) + 1) = (lt : Int) + 1 := wrap_one lt (by omega)
  rcases Bool.eq_false_or_eq_true tsec with ht | ht <;> subst ht
  · cases s <;> cases dark
    all_goals (
      first | (have HC := keep (HEnd.out true); have HSr := keep (HLet.out true rfl); go_wp2_with fail; refine HC.out.mono ?_) | (have HC := keep (HEnd.out false); have HSr := keep (HLet.out false rfl); go_wp2_with fail; refine HC.out.mono ?_)
      clear HEnd HLet HC
      rintro r w6 ⟨rfl, hk6, hf6⟩
      have HX6 := keep (HX5.out.fs hf6 (by simp; omega))
      have HF6 := keep (HF5.out.trans hf6)
      have HK6 := keep hk6
      have l3 := hk6.box.cell 3 rfl
      have l3f := hk6.box.fr 3
      clear hk6 hf6 x3
      generalize refK _ e2 10 = e3 at *
      obtain ⟨w7, hw7⟩ : ∃ w7, w6.setCell ⟨C, 3, none⟩ (.int .i64 ((lt : Int) + 1)) = w7 := ⟨_, rfl⟩
      have HB7 : Hid (Bk w7 C [A, .slice pv ns.length cv, .int .i64 (wk : Int), .int .i64 ((lt + 1 : Nat) : Int), .int .i64 e3] 50) := by
        show Bk _ _ _ _
        rw [← hw7]; exact HK6.out.box.set 3 _
      have hf7 : Fs [C] w6 w7 := by rw [← hw7]; exact (Fs.refl _ _).set (by simp) _ _
      have HK7 := keep (HK6.out.set hf7 HB7.out)
      have HX7 := keep (HX6.out.fs hf7 (by simp; omega))
      have HF7 := keep (HF6.out.trans hf7)
      have l7 : w7.cell? ⟨C, 3, none⟩ = some (.int .i64 ((lt : Int) + 1)) := HB7.out.cell 3 rfl
      have HW7 := keep hw7
      clear hw7 hf7
      go_wp2_with (first | rw [HW7.out])
      refine (refuse_ck C B rs A ns (.slice pv ns.length cv) wk (lt + 1) e3 d24 4 w7 HK7.out).mono ?_
      rintro r w8 ⟨rfl, hk8, hf8⟩
      have HKp := keep hk8
      have HTp := keep (HX7.out.fs hf8 (by simp; omega))
      have HFp := keep ((HF7.out.trans hf8).fc (.slice pv ns.length cv))
      generalize refK d24 e3 4 = e4 at *
      clear hk8 hf8 HK7 HX7 HF7 HK6 HX6 HF6 HX5 HF5 l3 l3f l7 h24 hwr HB7 HW7
      go_wp2_with fail
      obtain ⟨i0, hi0, j0, j1, j2⟩ := info_parts infoN
      refine wp_region_noPanic ?_
      refine Ord.wpM_begin (fun W' : World => W'.cell? ⟨C, 1, none⟩ = some (.slice pv ns.length cv) ∧ W'.cell? ⟨w.heap.size, 2, none⟩ = some (.string ⟨tx.toArray⟩) ∧ W'.cell? ⟨w.heap.size, 3, none⟩ = some (.bool true)) [0, 1, 2, 3, 4, 5, 6, 7, 8, 9, 10, 11] (by kernel_rfl) ?_
      have HKd := keep (HKp.out.below (Below.drew (Below.refl _ _)))
      have HTd : Hid (Bk w8.drew w.heap.size [.int .i64 1, .int .i64 tn, .string ⟨tx.toArray⟩, .bool true, .slice p1 n1 c1, .slice p2 n2 c2, .slice p3 n3 c3] 67) := HTp.out
      have HFd : Hid (Fc C (.slice pv ns.length cv) (.slice pv ns.length cv) w w8.drew) := HFp.out.trans ((Fs.of_below (Below.drew (Below.refl _ _))).fc _)
      generalize w8.drew = wd at *
      have HSS : Hid (∀ W' : World, Bk W' C [A, .slice pv ns.length cv, .int .i64 (wk : Int), .int .i64 ((lt + 1 : Nat) : Int), .int .i64 e4] 50 → Bk W' w.heap.size [.int .i64 1, .int .i64 tn, .string ⟨tx.toArray⟩, .bool true, .slice p1 n1 c1, .slice p2 n2 c2, .slice p3 n3 c3] 67 → (W'.cell? ⟨C, 1, none⟩ = some (.slice pv ns.length cv) ∧ W'.cell? ⟨w.heap.size, 2, none⟩ = some (.string ⟨tx.toArray⟩) ∧ W'.cell? ⟨w.heap.size, 3, none⟩ = some (.bool true))) := fun W' h1 h2 => ⟨h1.cell 1 rfl, h2.cell 2 rfl, h2.cell 3 rfl⟩
      have hS := HSS.out wd HKd.out.box HTd.out
      have hown := (RowX.own HKd.out.row).alloc (.cells #[.string ⟨tx.toArray⟩, .bool true, .bool false] 52)
      have HOwd := keep HKd.out.own
      have hCd := HKd.out.lt
      have hTd := HTd.out.lt
      refine Ord.wpM_take (i := 0) (v := .pointer (some ⟨C, 0, none⟩)) (by simp only [List.getElem?_toArray, List.getElem?_cons_zero, List.getElem?_cons_succ]; rfl) (by kernel_rfl) (by kernel_rfl) (by kernel_rfl) (by kernel_rfl) (fun _ _ _ h => h) (Or.inl ⟨by rfl, by intro W' hW; obtain ⟨q0, q1, q2⟩ := hW; go_simp⟩) hS ?_
      try simp only [Act.put, List.setIfInBounds_toArray, List.set_cons_zero, List.set_cons_succ]
      refine Ord.wpM_take (i := 1) (v := .pointer (some ⟨C, 0, none⟩)) (by simp only [List.getElem?_toArray, List.getElem?_cons_zero, List.getElem?_cons_succ]; rfl) (by kernel_rfl) (by kernel_rfl) (by kernel_rfl) (by kernel_rfl) (fun _ _ _ h => h) (Or.inl ⟨by rfl, by intro W' hW; obtain ⟨q0, q1, q2⟩ := hW; go_simp⟩) hS ?_
      try simp only [Act.put, List.setIfInBounds_toArray, List.set_cons_zero, List.set_cons_succ]
      refine Ord.wpM_take (i := 2) (v := .pointer (some ⟨C, 0, none⟩)) (by simp only [List.getElem?_toArray, List.getElem?_cons_zero, List.getElem?_cons_succ]; rfl) (by kernel_rfl) (by kernel_rfl) (by kernel_rfl) (by kernel_rfl) (fun _ _ _ h => h) (Or.inl ⟨by rfl, by intro W' hW; obtain ⟨q0, q1, q2⟩ := hW; go_simp⟩) hS ?_
      try simp only [Act.put, List.setIfInBounds_toArray, List.set_cons_zero, List.set_cons_succ]
      refine Ord.wpM_take (i := 3) (v := .pointer (some ⟨C, 1, none⟩)) (by simp only [List.getElem?_toArray, List.getElem?_cons_zero, List.getElem?_cons_succ]; rfl) (by kernel_rfl) (by kernel_rfl) (by kernel_rfl) (by kernel_rfl) (fun _ _ _ h => h) (Or.inl ⟨by rfl, by intro W' hW; obtain ⟨q0, q1, q2⟩ := hW; go_simp⟩) hS ?_
      try simp only [Act.put, List.setIfInBounds_toArray, List.set_cons_zero, List.set_cons_succ]
      refine Ord.wpM_take (i := 4) (v := .slice pv ns.length cv) (by simp only [List.getElem?_toArray, List.getElem?_cons_zero, List.getElem?_cons_succ]; rfl) (by kernel_rfl) (by kernel_rfl) (by kernel_rfl) (by kernel_rfl) (fun _ _ _ h => h) (Or.inl ⟨by rfl, by intro W' hW; obtain ⟨q0, q1, q2⟩ := hW; go_simp⟩) hS ?_
      try simp only [Act.put, List.setIfInBounds_toArray, List.set_cons_zero, List.set_cons_succ]
      refine Ord.wpM_take (i := 5) (v := .pointer (some ⟨w.heap.size, 2, none⟩)) (by simp only [List.getElem?_toArray, List.getElem?_cons_zero, List.getElem?_cons_succ]; rfl) (by kernel_rfl) (by kernel_rfl) (by kernel_rfl) (by kernel_rfl) (fun _ _ _ h => h) (Or.inl ⟨by rfl, by intro W' hW; obtain ⟨q0, q1, q2⟩ := hW; go_simp⟩) hS ?_
      try simp only [Act.put, List.setIfInBounds_toArray, List.set_cons_zero, List.set_cons_succ]
      refine Ord.wpM_take (i := 6) (v := .string ⟨tx.toArray⟩) (by simp only [List.getElem?_toArray, List.getElem?_cons_zero, List.getElem?_cons_succ]; rfl) (by kernel_rfl) (by kernel_rfl) (by kernel_rfl) (by kernel_rfl) (fun _ _ _ h => h) (Or.inl ⟨by rfl, by intro W' hW; obtain ⟨q0, q1, q2⟩ := hW; go_simp⟩) hS ?_
      try simp only [Act.put, List.setIfInBounds_toArray, List.set_cons_zero, List.set_cons_succ]
      refine Ord.wpM_take (i := 7) (v := .pointer (some ⟨w.heap.size, 3, none⟩)) (by simp only [List.getElem?_toArray, List.getElem?_cons_zero, List.getElem?_cons_succ]; rfl) (by kernel_rfl) (by kernel_rfl) (by kernel_rfl) (by kernel_rfl) (fun _ _ _ h => h) (Or.inl ⟨by rfl, by intro W' hW; obtain ⟨q0, q1, q2⟩ := hW; go_simp⟩) hS ?_
      try simp only [Act.put, List.setIfInBounds_toArray, List.set_cons_zero, List.set_cons_succ]
      refine Ord.wpM_take (i := 8) (v := .bool true) (by simp only [List.getElem?_toArray, List.getElem?_cons_zero, List.getElem?_cons_succ]; rfl) (by kernel_rfl) (by kernel_rfl) (by kernel_rfl) (by kernel_rfl) (fun _ _ _ h => h) (Or.inl ⟨by rfl, by intro W' hW; obtain ⟨q0, q1, q2⟩ := hW; go_simp⟩) hS ?_
      try simp only [Act.put, List.setIfInBounds_toArray, List.set_cons_zero, List.set_cons_succ]
      refine Ord.wpM_take (i := 9) (v := .agg #[.string ⟨tx.toArray⟩, .bool true, .bool false]) (by simp only [List.getElem?_toArray, List.getElem?_cons_zero, List.getElem?_cons_succ]; rfl) (by kernel_rfl) (by kernel_rfl) (by kernel_rfl) (by kernel_rfl) (fun _ _ _ h => h) (Or.inl ⟨by rfl, by intro W' hW; obtain ⟨q0, q1, q2⟩ := hW; go_simp⟩) hS ?_
      try simp only [Act.put, List.setIfInBounds_toArray, List.set_cons_zero, List.set_cons_succ]
      refine Ord.wpM_one (i := 10) (by kernel_rfl) (by simp only [List.getElem?_toArray, List.getElem?_cons_zero, List.getElem?_cons_succ]; rfl) (fun K hK => ?_)
      go_simp
      have hb1 : Below wd.heap.size wd (wd.alloc (.cells #[.string ⟨tx.toArray⟩, .bool true, .bool false] 52)) := (Below.refl _ _).alloc (Nat.le_refl _) _
      refine hK.out _ _ (fun _ => HSS.out _ (HKd.out.below hb1).box (HTd.out.fs (Fs.of_below (l := []) hb1) (by simp))) ?_
      clear hK K
      try simp only [Act.put, List.setIfInBounds_toArray, List.set_cons_zero, List.set_cons_succ]
      refine Ord.wpM_one (i := 11) (by kernel_rfl) (by simp only [List.getElem?_toArray, List.getElem?_cons_zero, List.getElem?_cons_succ]; rfl) (fun K hK => ?_)
      refine step_append_lies _ rfl (.tmp 48) (.tmp 54) 48 rfl (C + 1) 52 i0 _ 3 24 Tryd.underlying48 hi0 j0 j1 j2 rfl (by decide) (.slice pv ns.length cv) ns.length (ns.flatMap cellsN) rfl hown ⟨wd.heap.size, 0, none⟩ 1 1 (cellsN ⟨tx, true, false⟩) rfl rfl (fun j u hj => new_cell wd _ _ j u hj) ?c2 (by decide) ?c3 ?c4 ?c5 (wd.heap.size + 1) (by simp) ?_
      case c2 =>
        intro u hu
        simp only [cellsN, List.mem_cons, List.not_mem_nil, or_false] at hu
        rcases hu with rfl | rfl | rfl <;> rfl
      case c3 => unfold maxLen; omega
      case c4 => omega
      case c5 => simp; omega
      · intro g cap y2 hown2 hgrow hat hlt
        have hpush := ck_push (nm := ⟨tx, true, false⟩) (ty := 52) HKd.out hown2 hgrow hat (by omega)
        have HPush := keep hpush
        have hkC : y2.heap[C]? = wd.heap[C]? := (hgrow.block C (by simp; omega) (fun e => by have := (HOwd.out C e.symm).1; omega)).trans (hb1.block C hCd)
        have hkT : y2.heap[w.heap.size]? = wd.heap[w.heap.size]? := (hgrow.block w.heap.size (by simp; omega) (fun e => by have := HNoT.out e.symm; exact this)).trans (hb1.block w.heap.size hTd)
        have HCb : Hid (Bk y2 C [A, .slice pv ns.length cv, .int .i64 (wk : Int), .int .i64 ((lt + 1 : Nat) : Int), .int .i64 e4] 50) := by
          have hb := HKd.out.box
          show Bk _ _ _ _
          unfold Bk at hb ⊢
          rw [hkC]; exact hb
        have HTb : Hid (Bk y2 w.heap.size [.int .i64 1, .int .i64 tn, .string ⟨tx.toArray⟩, .bool true, .slice p1 n1 c1, .slice p2 n2 c2, .slice p3 n3 c3] 67) := by
          have hb := HTd.out
          show Bk _ _ _ _
          unfold Bk at hb ⊢
          rw [hkT]; exact hb
        refine hK.out _ _ (fun _ => HSS.out _ HCb.out HTb.out) ?_
        clear hK K hown2 hgrow hat hkC hkT hpush hS hown
        have cC1 := HCb.out.cell 1 rfl
        have fC1 := HCb.out.fr 1
        try simp only [Act.put, List.setIfInBounds_toArray, List.set_cons_zero, List.set_cons_succ]
        refine Ord.wpM_one (i := 12) (by kernel_rfl) (by simp only [List.getElem?_toArray, List.getElem?_cons_zero, List.getElem?_cons_succ]; rfl) (fun K hK => ?_)
        go_simp
        refine hK.out _ _ (fun h => absurd h (by decide)) ?_
        clear hK K
        try simp only [Act.put, List.setIfInBounds_toArray, List.set_cons_zero, List.set_cons_succ]
        refine Ord.wpM_one (i := 13) (by kernel_rfl) (by simp only [List.getElem?_toArray, List.getElem?_cons_zero, List.getElem?_cons_succ]; rfl) (fun K hK => ?_)
        go_simp
        refine hK.out _ _ (fun h => absurd h (by decide)) ?_
        clear hK K
        try simp only [Act.put, List.setIfInBounds_toArray, List.set_cons_zero, List.set_cons_succ]
        refine Ord.wpM_one (i := 14) (by kernel_rfl) (by simp only [List.getElem?_toArray, List.getElem?_cons_zero, List.getElem?_cons_succ]; rfl) (fun K hK => ?_)
        go_simp
        refine hK.out _ _ (fun h => absurd h (by decide)) ?_
        clear hK K
        try simp only [Act.put, List.setIfInBounds_toArray, List.set_cons_zero, List.set_cons_succ]
        refine Ord.wpM_done (by kernel_rfl) ?_ _
        refine NoPanic.normal ?_
        go_wp2
        go_end0
        exact ⟨_, _, _, _, _, ⟨rfl, HPush.out.1, HFd.out.trans HPush.out.2, ⟨_, rfl⟩, HSr.out⟩⟩)
  · cases s <;> cases dark
    all_goals (
      first | (have HC := keep (HEnd.out true); have HSr := keep (HLet.out true rfl); go_wp2_with fail; refine HC.out.mono ?_) | (have HC := keep (HEnd.out false); have HSr := keep (HLet.out false rfl); go_wp2_with fail; refine HC.out.mono ?_)
      clear HEnd HLet HC
      rintro r w6 ⟨rfl, hk6, hf6⟩
      have HX6 := keep (HX5.out.fs hf6 (by simp; omega))
      have HF6 := keep (HF5.out.trans hf6)
      have HK6 := keep hk6
      have l3 := hk6.box.cell 3 rfl
      have l3f := hk6.box.fr 3
      clear hk6 hf6 x3
      generalize refK _ e2 10 = e3 at *
      obtain ⟨w7, hw7⟩ : ∃ w7, w6.setCell ⟨C, 3, none⟩ (.int .i64 ((lt : Int) + 1)) = w7 := ⟨_, rfl⟩
      have HB7 : Hid (Bk w7 C [A, .slice pv ns.length cv, .int .i64 (wk : Int), .int .i64 ((lt + 1 : Nat) : Int), .int .i64 e3] 50) := by
        show Bk _ _ _ _
        rw [← hw7]; exact HK6.out.box.set 3 _
      have hf7 : Fs [C] w6 w7 := by rw [← hw7]; exact (Fs.refl _ _).set (by simp) _ _
      have HK7 := keep (HK6.out.set hf7 HB7.out)
      have HX7 := keep (HX6.out.fs hf7 (by simp; omega))
      have HF7 := keep (HF6.out.trans hf7)
      have l7 : w7.cell? ⟨C, 3, none⟩ = some (.int .i64 ((lt : Int) + 1)) := HB7.out.cell 3 rfl
      have HW7 := keep hw7
      clear hw7 hf7
      go_wp2_with (first | rw [HW7.out])
      refine (refuse_ck C B rs A ns (.slice pv ns.length cv) wk (lt + 1) e3 d24 4 w7 HK7.out).mono ?_
      rintro r w8 ⟨rfl, hk8, hf8⟩
      have HKp := keep hk8
      have HTp := keep (HX7.out.fs hf8 (by simp; omega))
      have HFp := keep ((HF7.out.trans hf8).fc (.slice pv ns.length cv))
      generalize refK d24 e3 4 = e4 at *
      clear hk8 hf8 HK7 HX7 HF7 HK6 HX6 HF6 HX5 HF5 l3 l3f l7 h24 hwr HB7 HW7
      go_wp2_with fail
      obtain ⟨i0, hi0, j0, j1, j2⟩ := info_parts infoN
      refine wp_region_noPanic ?_
      refine Ord.wpM_begin (fun W' : World => W'.cell? ⟨C, 1, none⟩ = some (.slice pv ns.length cv) ∧ W'.cell? ⟨w.heap.size, 2, none⟩ = some (.string ⟨tx.toArray⟩) ∧ W'.cell? ⟨w.heap.size, 3, none⟩ = some (.bool false)) [0, 1, 2, 3, 4, 5, 6, 7, 8, 9, 10, 11] (by kernel_rfl) ?_
      have HKd := keep (HKp.out.below (Below.drew (Below.refl _ _)))
      have HTd : Hid (Bk w8.drew w.heap.size [.int .i64 1, .int .i64 tn, .string ⟨tx.toArray⟩, .bool false, .slice p1 n1 c1, .slice p2 n2 c2, .slice p3 n3 c3] 67) := HTp.out
      have HFd : Hid (Fc C (.slice pv ns.length cv) (.slice pv ns.length cv) w w8.drew) := HFp.out.trans ((Fs.of_below (Below.drew (Below.refl _ _))).fc _)
      generalize w8.drew = wd at *
      have HSS : Hid (∀ W' : World, Bk W' C [A, .slice pv ns.length cv, .int .i64 (wk : Int), .int .i64 ((lt + 1 : Nat) : Int), .int .i64 e4] 50 → Bk W' w.heap.size [.int .i64 1, .int .i64 tn, .string ⟨tx.toArray⟩, .bool false, .slice p1 n1 c1, .slice p2 n2 c2, .slice p3 n3 c3] 67 → (W'.cell? ⟨C, 1, none⟩ = some (.slice pv ns.length cv) ∧ W'.cell? ⟨w.heap.size, 2, none⟩ = some (.string ⟨tx.toArray⟩) ∧ W'.cell? ⟨w.heap.size, 3, none⟩ = some (.bool false))) := fun W' h1 h2 => ⟨h1.cell 1 rfl, h2.cell 2 rfl, h2.cell 3 rfl⟩
      have hS := HSS.out wd HKd.out.box HTd.out
      have hown := (RowX.own HKd.out.row).alloc (.cells #[.string ⟨tx.toArray⟩, .bool false, .bool false] 52)
      have HOwd := keep HKd.out.own
      have hCd := HKd.out.lt
      have hTd := HTd.out.lt
      refine Ord.wpM_take (i := 0) (v := .pointer (some ⟨C, 0, none⟩)) (by simp only [List.getElem?_toArray, List.getElem?_cons_zero, List.getElem?_cons_succ]; rfl) (by kernel_rfl) (by kernel_rfl) (by kernel_rfl) (by kernel_rfl) (fun _ _ _ h => h) (Or.inl ⟨by rfl, by intro W' hW; obtain ⟨q0, q1, q2⟩ := hW; go_simp⟩) hS ?_
      try simp only [Act.put, List.setIfInBounds_toArray, List.set_cons_zero, List.set_cons_succ]
      refine Ord.wpM_take (i := 1) (v := .pointer (some ⟨C, 0, none⟩)) (by simp only [List.getElem?_toArray, List.getElem?_cons_zero, List.getElem?_cons_succ]; rfl) (by kernel_rfl) (by kernel_rfl) (by kernel_rfl) (by kernel_rfl) (fun _ _ _ h => h) (Or.inl ⟨by rfl, by intro W' hW; obtain ⟨q0, q1, q2⟩ := hW; go_simp⟩) hS ?_
      try simp only [Act.put, List.setIfInBounds_toArray, List.set_cons_zero, List.set_cons_succ]
      refine Ord.wpM_take (i := 2) (v := .pointer (some ⟨C, 0, none⟩)) (by simp only [List.getElem?_toArray, List.getElem?_cons_zero, List.getElem?_cons_succ]; rfl) (by kernel_rfl) (by kernel_rfl) (by kernel_rfl) (by kernel_rfl) (fun _ _ _ h => h) (Or.inl ⟨by rfl, by intro W' hW; obtain ⟨q0, q1, q2⟩ := hW; go_simp⟩) hS ?_
      try simp only [Act.put, List.setIfInBounds_toArray, List.set_cons_zero, List.set_cons_succ]
      refine Ord.wpM_take (i := 3) (v := .pointer (some ⟨C, 1, none⟩)) (by simp only [List.getElem?_toArray, List.getElem?_cons_zero, List.getElem?_cons_succ]; rfl) (by kernel_rfl) (by kernel_rfl) (by kernel_rfl) (by kernel_rfl) (fun _ _ _ h => h) (Or.inl ⟨by rfl, by intro W' hW; obtain ⟨q0, q1, q2⟩ := hW; go_simp⟩) hS ?_
      try simp only [Act.put, List.setIfInBounds_toArray, List.set_cons_zero, List.set_cons_succ]
      refine Ord.wpM_take (i := 4) (v := .slice pv ns.length cv) (by simp only [List.getElem?_toArray, List.getElem?_cons_zero, List.getElem?_cons_succ]; rfl) (by kernel_rfl) (by kernel_rfl) (by kernel_rfl) (by kernel_rfl) (fun _ _ _ h => h) (Or.inl ⟨by rfl, by intro W' hW; obtain ⟨q0, q1, q2⟩ := hW; go_simp⟩) hS ?_
      try simp only [Act.put, List.setIfInBounds_toArray, List.set_cons_zero, List.set_cons_succ]
      refine Ord.wpM_take (i := 5) (v := .pointer (some ⟨w.heap.size, 2, none⟩)) (by simp only [List.getElem?_toArray, List.getElem?_cons_zero, List.getElem?_cons_succ]; rfl) (by kernel_rfl) (by kernel_rfl) (by kernel_rfl) (by kernel_rfl) (fun _ _ _ h => h) (Or.inl ⟨by rfl, by intro W' hW; obtain ⟨q0, q1, q2⟩ := hW; go_simp⟩) hS ?_
      try simp only [Act.put, List.setIfInBounds_toArray, List.set_cons_zero, List.set_cons_succ]
      refine Ord.wpM_take (i := 6) (v := .string ⟨tx.toArray⟩) (by simp only [List.getElem?_toArray, List.getElem?_cons_zero, List.getElem?_cons_succ]; rfl) (by kernel_rfl) (by kernel_rfl) (by kernel_rfl) (by kernel_rfl) (fun _ _ _ h => h) (Or.inl ⟨by rfl, by intro W' hW; obtain ⟨q0, q1, q2⟩ := hW; go_simp⟩) hS ?_
      try simp only [Act.put, List.setIfInBounds_toArray, List.set_cons_zero, List.set_cons_succ]
      refine Ord.wpM_take (i := 7) (v := .pointer (some ⟨w.heap.size, 3, none⟩)) (by simp only [List.getElem?_toArray, List.getElem?_cons_zero, List.getElem?_cons_succ]; rfl) (by kernel_rfl) (by kernel_rfl) (by kernel_rfl) (by kernel_rfl) (fun _ _ _ h => h) (Or.inl ⟨by rfl, by intro W' hW; obtain ⟨q0, q1, q2⟩ := hW; go_simp⟩) hS ?_
      try simp only [Act.put, List.setIfInBounds_toArray, List.set_cons_zero, List.set_cons_succ]
      refine Ord.wpM_take (i := 8) (v := .bool false) (by simp only [List.getElem?_toArray, List.getElem?_cons_zero, List.getElem?_cons_succ]; rfl) (by kernel_rfl) (by kernel_rfl) (by kernel_rfl) (by kernel_rfl) (fun _ _ _ h => h) (Or.inl ⟨by rfl, by intro W' hW; obtain ⟨q0, q1, q2⟩ := hW; go_simp⟩) hS ?_
      try simp only [Act.put, List.setIfInBounds_toArray, List.set_cons_zero, List.set_cons_succ]
      refine Ord.wpM_take (i := 9) (v := .agg #[.string ⟨tx.toArray⟩, .bool false, .bool false]) (by simp only [List.getElem?_toArray, List.getElem?_cons_zero, List.getElem?_cons_succ]; rfl) (by kernel_rfl) (by kernel_rfl) (by kernel_rfl) (by kernel_rfl) (fun _ _ _ h => h) (Or.inl ⟨by rfl, by intro W' hW; obtain ⟨q0, q1, q2⟩ := hW; go_simp⟩) hS ?_
      try simp only [Act.put, List.setIfInBounds_toArray, List.set_cons_zero, List.set_cons_succ]
      refine Ord.wpM_one (i := 10) (by kernel_rfl) (by simp only [List.getElem?_toArray, List.getElem?_cons_zero, List.getElem?_cons_succ]; rfl) (fun K hK => ?_)
      go_simp
      have hb1 : Below wd.heap.size wd (wd.alloc (.cells #[.string ⟨tx.toArray⟩, .bool false, .bool false] 52)) := (Below.refl _ _).alloc (Nat.le_refl _) _
      refine hK.out _ _ (fun _ => HSS.out _ (HKd.out.below hb1).box (HTd.out.fs (Fs.of_below (l := []) hb1) (by simp))) ?_
      clear hK K
      try simp only [Act.put, List.setIfInBounds_toArray, List.set_cons_zero, List.set_cons_succ]
      refine Ord.wpM_one (i := 11) (by kernel_rfl) (by simp only [List.getElem?_toArray, List.getElem?_cons_zero, List.getElem?_cons_succ]; rfl) (fun K hK => ?_)
      refine step_append_lies _ rfl (.tmp 48) (.tmp 54) 48 rfl (C + 1) 52 i0 _ 3 24 Tryd.underlying48 hi0 j0 j1 j2 rfl (by decide) (.slice pv ns.length cv) ns.length (ns.flatMap cellsN) rfl hown ⟨wd.heap.size, 0, none⟩ 1 1 (cellsN ⟨tx, false, false⟩) rfl rfl (fun j u hj => new_cell wd _ _ j u hj) ?c2 (by decide) ?c3 ?c4 ?c5 (wd.heap.size + 1) (by simp) ?_
      case c2 =>
        intro u hu
        simp only [cellsN, List.mem_cons, List.not_mem_nil, or_false] at hu
        rcases hu with rfl | rfl | rfl <;> rfl
      case c3 => unfold maxLen; omega
      case c4 => omega
      case c5 => simp; omega
      · intro g cap y2 hown2 hgrow hat hlt
        have hpush := ck_push (nm := ⟨tx, false, false⟩) (ty := 52) HKd.out hown2 hgrow hat (by omega)
        have HPush := keep hpush
        have hkC : y2.heap[C]? = wd.heap[C]? := (hgrow.block C (by simp; omega) (fun e => by have := (HOwd.out C e.symm).1; omega)).trans (hb1.block C hCd)
        have hkT : y2.heap[w.heap.size]? = wd.heap[w.heap.size]? := (hgrow.block w.heap.size (by simp; omega) (fun e => by have := HNoT.out e.symm; exact this)).trans (hb1.block w.heap.size hTd)
        have HCb : Hid (Bk y2 C [A, .slice pv ns.length cv, .int .i64 (wk : Int), .int .i64 ((lt + 1 : Nat) : Int), .int .i64 e4] 50) := by
          have hb := HKd.out.box
          show Bk _ _ _ _
          unfold Bk at hb ⊢
          rw [hkC]; exact hb
        have HTb : Hid (Bk y2 w.heap.size [.int .i64 1, .int .i64 tn, .string ⟨tx.toArray⟩, .bool false, .slice p1 n1 c1, .slice p2 n2 c2, .slice p3 n3 c3] 67) := by
          have hb := HTd.out
          show Bk _ _ _ _
          unfold Bk at hb ⊢
          rw [hkT]; exact hb
        refine hK.out _ _ (fun _ => HSS.out _ HCb.out HTb.out) ?_
        clear hK K hown2 hgrow hat hkC hkT hpush hS hown
        have cC1 := HCb.out.cell 1 rfl
        have fC1 := HCb.out.fr 1
        try simp only [Act.put, List.setIfInBounds_toArray, List.set_cons_zero, List.set_cons_succ]
        refine Ord.wpM_one (i := 12) (by kernel_rfl) (by simp only [List.getElem?_toArray, List.getElem?_cons_zero, List.getElem?_cons_succ]; rfl) (fun K hK => ?_)
        go_simp
        refine hK.out _ _ (fun h => absurd h (by decide)) ?_
        clear hK K
        try simp only [Act.put, List.setIfInBounds_toArray, List.set_cons_zero, List.set_cons_succ]
        refine Ord.wpM_one (i := 13) (by kernel_rfl) (by simp only [List.getElem?_toArray, List.getElem?_cons_zero, List.getElem?_cons_succ]; rfl) (fun K hK => ?_)
        go_simp
        refine hK.out _ _ (fun h => absurd h (by decide)) ?_
        clear hK K
        try simp only [Act.put, List.setIfInBounds_toArray, List.set_cons_zero, List.set_cons_succ]
        refine Ord.wpM_one (i := 14) (by kernel_rfl) (by simp only [List.getElem?_toArray, List.getElem?_cons_zero, List.getElem?_cons_succ]; rfl) (fun K hK => ?_)
        go_simp
        refine hK.out _ _ (fun h => absurd h (by decide)) ?_
        clear hK K
        try simp only [Act.put, List.setIfInBounds_toArray, List.set_cons_zero, List.set_cons_succ]
        refine Ord.wpM_done (by kernel_rfl) ?_ _
        refine NoPanic.normal ?_
        go_wp2
        go_end0
        exact ⟨_, _, _, _, _, ⟨rfl, HPush.out.1, HFd.out.trans HPush.out.2, ⟨_, rfl⟩, HSr.out⟩⟩)
end Go.Proofs.YtemdnmfldihalaaDoor.Lr
