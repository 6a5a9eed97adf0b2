/- The checker's Check: what is wrong with a program. Written by tools/gen_kcheck.py. -/
import Derived.Test.YtemdnmfldihalaaDoorLkStmt
import Derived.Test.YtemdnmfldihalaaDoorLkTwo
namespace Go.Proofs.YtemdnmfldihalaaDoor.Lr
set_option linter.unusedVariables false
set_option linter.unusedSimpArgs false
open Go.ChangeShapes Go.WideShapes Go.ChangeAt Go.RowKit Lg

theorem take_map {l : List Vr} {k : Nat} {v : Vr} (h : l[k]? = some v) : (l.take (k + 1)).map nmOf = (l.take k).map nmOf ++ [nmOf v] := by
  obtain ⟨hk, rfl⟩ := List.getElem?_eq_some_iff.1 h
  rw [List.take_succ_eq_append_getElem hk, List.map_append]; rfl
theorem check_many {f : Lg.Fn} (h : 4 < f.params.length ∨ 3 < f.arrays.length) : checkK f = 5 := by unfold checkK; rw [if_pos h]
theorem check_twice {f : Lg.Fn} (h : ¬ (4 < f.params.length ∨ 3 < f.arrays.length)) (h2 : twiceK (f.params ++ f.arrays) = true) : checkK f = 7 := by unfold checkK; rw [if_neg h, if_pos h2]
theorem check_block {f : Lg.Fn} {e : Int} {k' : Ks} (h : ¬ (4 < f.params.length ∨ 3 < f.arrays.length)) (h2 : twiceK (f.params ++ f.arrays) = false) (h3 : SR 0 e (blockK (stmtK f.arrays 9 false) f.body ⟨f.params.map nmOf, 0, 0⟩) k') : checkK f = e := by
  unfold checkK
  rw [if_neg h, if_neg (by rw [h2]; decide)]
  cases hr : blockK (stmtK f.arrays 9 false) f.body ⟨f.params.map nmOf, 0, 0⟩ with
  | error x => exact (((h3.2 rfl).1 x hr).1).symm
  | ok k => exact (((h3.2 rfl).2 k hr).1).symm
set_option maxHeartbeats 16000000 in
set_option maxRecDepth 100000 in
theorem check_any (B : Nat) (f : Lg.Fn) (s1 s2 s3 : Value) (w : World) (hB : B ≤ w.heap.size) (hwf : wfF f) (h : FnIs w B 10 11 f (.agg #[s1, s2, s3])) :
    Calls Tryd.prog 7 #[.agg #[s1, s2, s3]] w fun r w' => r = .returned (.int .i64 (checkK f)) ∧ Below w.heap.size w w' := by
  obtain ⟨v1, v2, v3, hv, hp, ha, hb⟩ := h
  injection hv with hv
  have e1 : s1 = v1 := by injection hv with hv; injection hv
  have e2 : s2 = v2 := by injection hv with hv; injection hv with _ hv; injection hv
  have e3 : s3 = v3 := by injection hv with hv; injection hv with _ hv; injection hv with _ hv; injection hv
  subst e1 e2 e3
  obtain ⟨ps, rs, body⟩ := f
  dsimp only at hp ha hb
  obtain ⟨p1, n1, c1, rfl, hn1, hc1, hm1, hat1⟩ := id hp
  obtain ⟨p2, n2, c2, rfl, hn2, hc2, hm2, hat2⟩ := id ha
  obtain ⟨p3, n3, c3, rfl⟩ := hb.slice
  subst hn1 hn2
  obtain ⟨w1, hw1⟩ : ∃ w1, w.alloc (.cells #[.slice p1 ps.length c1, .slice p2 rs.length c2, .slice p3 n3 c3] 25) = w1 := ⟨_, rfl⟩
  have hb1 : Below w.heap.size w w1 := by rw [← hw1]; exact (Below.refl _ _).alloc (Nat.le_refl _) _
  have HB1 := keep hb1
  have HF1 : Hid (Bk w1 w.heap.size [.slice p1 ps.length c1, .slice p2 rs.length c2, .slice p3 n3 c3] 25) := by
    show Bk _ _ _ _
    rw [← hw1]; exact Bk.new _ _ _
  have f0 := HF1.out.cell 0 rfl
  have f1 := HF1.out.cell 1 rfl
  have HP := keep hp
  have HA := keep ha
  have HBd := keep hb
  have HWf := keep hwf
  have HAt1 := keep hat1
  have HW1 := keep hw1
  clear hv hp ha hb hwf hat1 hat2 hw1 hb1
  by_cases hm : 4 < ps.length ∨ 3 < rs.length
  · have HM := keep (check_many (f := ⟨ps, rs, body⟩) hm)
    by_cases hp4 : 4 < ps.length
    · have d1 : decide (4 < (ps.length : Int)) = true := decide_eq_true (by omega)
      clear hm
      go_enter Tryd.func7, Tryd.ntmps7
      go_wp2_with (first | rw [HW1.out])
      go_ret
      exact ⟨by rw [HM.out]; rfl, HB1.out⟩
    · have d1 : decide (4 < (ps.length : Int)) = false := decide_eq_false (by omega)
      have d2 : decide (3 < (rs.length : Int)) = true := decide_eq_true (by omega)
      clear hm
      go_enter Tryd.func7, Tryd.ntmps7
      go_wp2_with (first | rw [HW1.out])
      go_ret
      exact ⟨by rw [HM.out]; rfl, HB1.out⟩
  · have d1 : decide (4 < (ps.length : Int)) = false := decide_eq_false (by omega)
    have d2 : decide (3 < (rs.length : Int)) = false := decide_eq_false (by omega)
    have hl1 : ps.length ≤ 4 := by omega
    have hl2 : rs.length ≤ 3 := by omega
    have HM := keep hm
    have HT := keep (twice_any B ps rs _ _ w1 (Nat.le_trans hB HB1.out.size) (HP.out.below (HB1.out.mono hB)) (HA.out.below (HB1.out.mono hB)) (by omega) (by omega))
    clear hm
    go_enter Tryd.func7, Tryd.ntmps7
    go_wp2_with (first | rw [HW1.out])
    refine HT.out.mono ?_
    rintro r w2 ⟨rfl, hb2⟩
    have HB2 := keep (HB1.out.trans (hb2.mono HB1.out.size))
    have HF2 := keep (HF1.out.fs (Fs.of_below (l := []) hb2) (by simp))
    obtain ⟨tw, htw⟩ : ∃ tw, twiceK (ps ++ rs) = tw := ⟨_, rfl⟩
    rw [htw]
    have HTw := keep htw
    clear hb2 HT f0 f1 HW1 HF1 HB1 htw
    cases tw with
    | true =>
      have HTT := keep (check_twice (f := ⟨ps, rs, body⟩) HM.out HTw.out)
      go_wp2
      go_ret
      exact ⟨by rw [HTT.out]; rfl, HB2.out⟩
    | false =>
      have f0 := HF2.out.cell 0 rfl
      have f1 := HF2.out.cell 1 rfl
      obtain ⟨w3, hw3⟩ : ∃ w3, w2.alloc (.cells #[.slice p2 rs.length c2, .slice none 0 0, .int .i64 0, .int .i64 0, .int .i64 0] 50) = w3 := ⟨_, rfl⟩
      have hb3 : Below w2.heap.size w2 w3 := by rw [← hw3]; exact (Below.refl _ _).alloc (Nat.le_refl _) _
      have HB3 := keep (HB2.out.trans (hb3.mono HB2.out.size))
      have HF3 := keep (HF2.out.fs (Fs.of_below (l := []) hb3) (by simp))
      have hz2 : w.heap.size < w2.heap.size := HF2.out.lt
      have HK3 : Hid (CK w3 w2.heap.size B rs (.slice p2 rs.length c2) [] (.slice none 0 0) 0 0 0) := by
        show CK _ _ _ _ _ _ _ _ _ _
        refine ⟨?_, RowX.nil _ _, HA.out.below (HB3.out.mono hB), by omega, by simp⟩
        rw [← hw3]; exact Bk.new _ _ _
      have q0 := HF3.out.cell 0 rfl
      have HW3 := keep hw3
      obtain ⟨C, hC⟩ : ∃ C, w2.heap.size = C := ⟨_, rfl⟩
      rw [hC] at HK3 hz2
      have hCw := HK3.out.lt
      clear hb3 hw3
      go_wp2_with (first | rw [HW3.out])
      go_loopw [28] (fun i wx => ∃ (k : Nat) (ns : List Nm) (nv : Value), k ≤ ps.length ∧ i = .int .i64 (k : Int) ∧ ns = (ps.take k).map nmOf ∧ CK wx C B rs (.slice p2 rs.length c2) ns nv 0 0 0 ∧ Bk wx w.heap.size [.slice p1 ps.length c1, .slice p2 rs.length c2, .slice p3 n3 c3] 25 ∧ Below w.heap.size w wx) (fun i _ => ps.length - (intOf i).toNat)
      case atStart => exact ⟨0, [], _, by omega, rfl, rfl, HK3.out, HF3.out, HB3.out⟩
      case round =>
        clear q0 HK3 HF3 HB3 HW3 hCw
        obtain ⟨k, ns, nv, hkn, rfl, hns, hck, hbk, hbx⟩ := hrel
        have HCK := keep hck
        have HBk := keep hbk
        have HBx := keep hbx
        have HNs := keep hns
        have hCr := hck.lt
        clear hck hbk hbx hns
        by_cases hkl : k < ps.length
        · have e1' : decide ((k : Int) < (ps.length : Int)) = true := decide_eq_true (by omega)
          have hkz : (k : Int) < (ps.length : Int) := by omega
          have hk0 : (0 : Int) ≤ (k : Int) := by omega
          obtain ⟨x, hx⟩ : ∃ x, ps[k]? = some x := ⟨_, List.getElem?_eq_getElem hkl⟩
          obtain ⟨g, o, rfl, hg, hat⟩ := HAt1.out k x hx
          have hat := hat.below (HBx.out.mono hB) hg
          have a0 := hat.c0
          have a1 := hat.c1
          have a2 := hat.c2
          have HStep := keep (take_map hx)
          obtain ⟨xn, xs, xz⟩ := x
          simp only at a0 a1 a2
          have hnl4 : ns.length ≤ 4 := by rw [HNs.out, List.length_map, List.length_take]; omega
          obtain ⟨pv, nv', cv, rfl⟩ := RowX.slice HCK.out.row
          have hnl := RowX.len HCK.out.row
          subst hnl
          obtain ⟨w4, hw4⟩ : ∃ w4, wr.alloc (.cells #[.string ⟨xn.toArray⟩, .bool xs, .int .i64 xz] 35) = w4 := ⟨_, rfl⟩
          have hb4 : Below wr.heap.size wr w4 := by rw [← hw4]; exact (Below.refl _ _).alloc (Nat.le_refl _) _
          have HKp := keep (HCK.out.below hb4)
          have HFp := keep ((Fs.of_below (l := [C]) hb4).fc (.slice pv ns.length cv))
          have HTp : Hid (Bk w4 wr.heap.size [.string ⟨xn.toArray⟩, .bool xs, .int .i64 xz] 35) := by
            show Bk _ _ _ _
            rw [← hw4]; exact Bk.new _ _ _
          have HNoT : Hid (¬ (Value.slice pv ns.length cv).ownBlock = some wr.heap.size) := fun e => by have := (HCK.out.own _ e).2; omega
          have HNoF : Hid (¬ (Value.slice pv ns.length cv).ownBlock = some w.heap.size) := fun e => by have := (HCK.out.own _ e).1; omega
          have HNoW : Hid (∀ i, (Value.slice pv ns.length cv).ownBlock = some i → C + 1 ≤ i) := fun i e => (HCK.out.own _ e).1
          have HW4 := keep hw4
          clear hx hat hw4 hb4
          go_wp2_with (first | rw [HW4.out])
          obtain ⟨i0, hi0, j0, j1, j2⟩ := info_parts infoN
          refine wp_region_noPanic ?_
          refine Ord.wpM_begin (fun W' : World => W'.cell? ⟨C, 1, none⟩ = some (.slice pv ns.length cv) ∧ W'.cell? ⟨wr.heap.size, 0, none⟩ = some (.string ⟨xn.toArray⟩) ∧ W'.cell? ⟨wr.heap.size, 1, none⟩ = some (.bool xs)) [0, 1, 2, 3, 4, 5, 6, 7, 8, 9, 10, 11] (by kernel_rfl) ?_
          have HKd := keep (HKp.out.below (Below.drew (Below.refl _ _)))
          have HTd : Hid (Bk w4.drew wr.heap.size [.string ⟨xn.toArray⟩, .bool xs, .int .i64 xz] 35) := HTp.out
          have HFd : Hid (Fc C (.slice pv ns.length cv) (.slice pv ns.length cv) wr w4.drew) := HFp.out.trans ((Fs.of_below (Below.drew (Below.refl _ _))).fc _)
          generalize w4.drew = wd at *
          have HSS : Hid (∀ W' : World, Bk W' C [.slice p2 rs.length c2, .slice pv ns.length cv, .int .i64 ((0 : Nat) : Int), .int .i64 ((0 : Nat) : Int), .int .i64 0] 50 → Bk W' wr.heap.size [.string ⟨xn.toArray⟩, .bool xs, .int .i64 xz] 35 → (W'.cell? ⟨C, 1, none⟩ = some (.slice pv ns.length cv) ∧ W'.cell? ⟨wr.heap.size, 0, none⟩ = some (.string ⟨xn.toArray⟩) ∧ W'.cell? ⟨wr.heap.size, 1, none⟩ = some (.bool xs))) := fun W' h1 h2 => ⟨h1.cell 1 rfl, h2.cell 0 rfl, h2.cell 1 rfl⟩
          have hS := HSS.out wd HKd.out.box HTd.out
          have hown := (RowX.own HKd.out.row).alloc (.cells #[.string ⟨xn.toArray⟩, .bool xs, .bool false] 52)
          have HOwd := keep HKd.out.own
          have hCd := HKd.out.lt
          have hTd := HTd.out.lt
          refine Ord.wpM_take (i := 0) (v := .pointer (some ⟨C, 0, none⟩)) (by simp only [List.getElem?_toArray, List.getElem?_cons_zero, List.getElem?_cons_succ]; rfl) (by kernel_rfl) (by kernel_rfl) (by kernel_rfl) (by kernel_rfl) (fun _ _ _ h => h) (Or.inl ⟨by rfl, by intro W' hW; obtain ⟨q0, q1, q2⟩ := hW; go_simp⟩) hS ?_
          try simp only [Act.put, List.setIfInBounds_toArray, List.set_cons_zero, List.set_cons_succ]
          refine Ord.wpM_take (i := 1) (v := .pointer (some ⟨C, 0, none⟩)) (by simp only [List.getElem?_toArray, List.getElem?_cons_zero, List.getElem?_cons_succ]; rfl) (by kernel_rfl) (by kernel_rfl) (by kernel_rfl) (by kernel_rfl) (fun _ _ _ h => h) (Or.inl ⟨by rfl, by intro W' hW; obtain ⟨q0, q1, q2⟩ := hW; go_simp⟩) hS ?_
          try simp only [Act.put, List.setIfInBounds_toArray, List.set_cons_zero, List.set_cons_succ]
          refine Ord.wpM_take (i := 2) (v := .pointer (some ⟨C, 0, none⟩)) (by simp only [List.getElem?_toArray, List.getElem?_cons_zero, List.getElem?_cons_succ]; rfl) (by kernel_rfl) (by kernel_rfl) (by kernel_rfl) (by kernel_rfl) (fun _ _ _ h => h) (Or.inl ⟨by rfl, by intro W' hW; obtain ⟨q0, q1, q2⟩ := hW; go_simp⟩) hS ?_
          try simp only [Act.put, List.setIfInBounds_toArray, List.set_cons_zero, List.set_cons_succ]
          refine Ord.wpM_take (i := 3) (v := .pointer (some ⟨C, 1, none⟩)) (by simp only [List.getElem?_toArray, List.getElem?_cons_zero, List.getElem?_cons_succ]; rfl) (by kernel_rfl) (by kernel_rfl) (by kernel_rfl) (by kernel_rfl) (fun _ _ _ h => h) (Or.inl ⟨by rfl, by intro W' hW; obtain ⟨q0, q1, q2⟩ := hW; go_simp⟩) hS ?_
          try simp only [Act.put, List.setIfInBounds_toArray, List.set_cons_zero, List.set_cons_succ]
          refine Ord.wpM_take (i := 4) (v := .slice pv ns.length cv) (by simp only [List.getElem?_toArray, List.getElem?_cons_zero, List.getElem?_cons_succ]; rfl) (by kernel_rfl) (by kernel_rfl) (by kernel_rfl) (by kernel_rfl) (fun _ _ _ h => h) (Or.inl ⟨by rfl, by intro W' hW; obtain ⟨q0, q1, q2⟩ := hW; go_simp⟩) hS ?_
          try simp only [Act.put, List.setIfInBounds_toArray, List.set_cons_zero, List.set_cons_succ]
          refine Ord.wpM_take (i := 5) (v := .pointer (some ⟨wr.heap.size, 0, none⟩)) (by simp only [List.getElem?_toArray, List.getElem?_cons_zero, List.getElem?_cons_succ]; rfl) (by kernel_rfl) (by kernel_rfl) (by kernel_rfl) (by kernel_rfl) (fun _ _ _ h => h) (Or.inl ⟨by rfl, by intro W' hW; obtain ⟨q0, q1, q2⟩ := hW; go_simp⟩) hS ?_
          try simp only [Act.put, List.setIfInBounds_toArray, List.set_cons_zero, List.set_cons_succ]
          refine Ord.wpM_take (i := 6) (v := .string ⟨xn.toArray⟩) (by simp only [List.getElem?_toArray, List.getElem?_cons_zero, List.getElem?_cons_succ]; rfl) (by kernel_rfl) (by kernel_rfl) (by kernel_rfl) (by kernel_rfl) (fun _ _ _ h => h) (Or.inl ⟨by rfl, by intro W' hW; obtain ⟨q0, q1, q2⟩ := hW; go_simp⟩) hS ?_
          try simp only [Act.put, List.setIfInBounds_toArray, List.set_cons_zero, List.set_cons_succ]
          refine Ord.wpM_take (i := 7) (v := .pointer (some ⟨wr.heap.size, 1, none⟩)) (by simp only [List.getElem?_toArray, List.getElem?_cons_zero, List.getElem?_cons_succ]; rfl) (by kernel_rfl) (by kernel_rfl) (by kernel_rfl) (by kernel_rfl) (fun _ _ _ h => h) (Or.inl ⟨by rfl, by intro W' hW; obtain ⟨q0, q1, q2⟩ := hW; go_simp⟩) hS ?_
          try simp only [Act.put, List.setIfInBounds_toArray, List.set_cons_zero, List.set_cons_succ]
          refine Ord.wpM_take (i := 8) (v := .bool xs) (by simp only [List.getElem?_toArray, List.getElem?_cons_zero, List.getElem?_cons_succ]; rfl) (by kernel_rfl) (by kernel_rfl) (by kernel_rfl) (by kernel_rfl) (fun _ _ _ h => h) (Or.inl ⟨by rfl, by intro W' hW; obtain ⟨q0, q1, q2⟩ := hW; go_simp⟩) hS ?_
          try simp only [Act.put, List.setIfInBounds_toArray, List.set_cons_zero, List.set_cons_succ]
          refine Ord.wpM_take (i := 9) (v := .agg #[.string ⟨xn.toArray⟩, .bool xs, .bool false]) (by simp only [List.getElem?_toArray, List.getElem?_cons_zero, List.getElem?_cons_succ]; rfl) (by kernel_rfl) (by kernel_rfl) (by kernel_rfl) (by kernel_rfl) (fun _ _ _ h => h) (Or.inl ⟨by rfl, by intro W' hW; obtain ⟨q0, q1, q2⟩ := hW; go_simp⟩) hS ?_
          try simp only [Act.put, List.setIfInBounds_toArray, List.set_cons_zero, List.set_cons_succ]
          refine Ord.wpM_one (i := 10) (by kernel_rfl) (by simp only [List.getElem?_toArray, List.getElem?_cons_zero, List.getElem?_cons_succ]; rfl) (fun K hK => ?_)
          go_simp
          have hb1 : Below wd.heap.size wd (wd.alloc (.cells #[.string ⟨xn.toArray⟩, .bool xs, .bool false] 52)) := (Below.refl _ _).alloc (Nat.le_refl _) _
          refine hK.out _ _ (fun _ => HSS.out _ (HKd.out.below hb1).box (HTd.out.fs (Fs.of_below (l := []) hb1) (by simp))) ?_
          clear hK K
          try simp only [Act.put, List.setIfInBounds_toArray, List.set_cons_zero, List.set_cons_succ]
          refine Ord.wpM_one (i := 11) (by kernel_rfl) (by simp only [List.getElem?_toArray, List.getElem?_cons_zero, List.getElem?_cons_succ]; rfl) (fun K hK => ?_)
          refine step_append_lies _ rfl (.tmp 36) (.tmp 42) 48 rfl (C + 1) 52 i0 _ 3 24 Tryd.underlying48 hi0 j0 j1 j2 rfl (by decide) (.slice pv ns.length cv) ns.length (ns.flatMap cellsN) rfl hown ⟨wd.heap.size, 0, none⟩ 1 1 (cellsN ⟨xn, xs, false⟩) rfl rfl (fun j u hj => new_cell wd _ _ j u hj) ?c2 (by decide) ?c3 ?c4 ?c5 (wd.heap.size + 1) (by simp) ?_
          case c2 =>
            intro u hu
            simp only [cellsN, List.mem_cons, List.not_mem_nil, or_false] at hu
            rcases hu with rfl | rfl | rfl <;> rfl
          case c3 => unfold maxLen; omega
          case c4 => omega
          case c5 => simp; omega
          · intro gq cap y2 hown2 hgrow hat hlt
            have hpush := ck_push (nm := ⟨xn, xs, false⟩) (ty := 52) HKd.out hown2 hgrow hat (by omega)
            have HPush := keep hpush
            have hkC : y2.heap[C]? = wd.heap[C]? := (hgrow.block C (by simp; omega) (fun e => by have := (HOwd.out C e.symm).1; omega)).trans (hb1.block C hCd)
            have hkT : y2.heap[wr.heap.size]? = wd.heap[wr.heap.size]? := (hgrow.block wr.heap.size (by simp; omega) (fun e => by have := HNoT.out e.symm; exact this)).trans (hb1.block wr.heap.size hTd)
            have HCb : Hid (Bk y2 C [.slice p2 rs.length c2, .slice pv ns.length cv, .int .i64 ((0 : Nat) : Int), .int .i64 ((0 : Nat) : Int), .int .i64 0] 50) := by
              have hb := HKd.out.box
              show Bk _ _ _ _
              unfold Bk at hb ⊢
              rw [hkC]; exact hb
            have HTb : Hid (Bk y2 wr.heap.size [.string ⟨xn.toArray⟩, .bool xs, .int .i64 xz] 35) := by
              have hb := HTd.out
              show Bk _ _ _ _
              unfold Bk at hb ⊢
              rw [hkT]; exact hb
            refine hK.out _ _ (fun _ => HSS.out _ HCb.out HTb.out) ?_
            clear hK K hown2 hgrow hat hkC hkT hpush hS hown
            have cC1 := HCb.out.cell 1 rfl
            have fC1 := HCb.out.fr 1
            try simp only [Act.put, List.setIfInBounds_toArray, List.set_cons_zero, List.set_cons_succ]
            refine Ord.wpM_one (i := 12) (by kernel_rfl) (by simp only [List.getElem?_toArray, List.getElem?_cons_zero, List.getElem?_cons_succ]; rfl) (fun K hK => ?_)
            go_simp
            refine hK.out _ _ (fun h => absurd h (by decide)) ?_
            clear hK K
            try simp only [Act.put, List.setIfInBounds_toArray, List.set_cons_zero, List.set_cons_succ]
            refine Ord.wpM_one (i := 13) (by kernel_rfl) (by simp only [List.getElem?_toArray, List.getElem?_cons_zero, List.getElem?_cons_succ]; rfl) (fun K hK => ?_)
            go_simp
            refine hK.out _ _ (fun h => absurd h (by decide)) ?_
            clear hK K
            try simp only [Act.put, List.setIfInBounds_toArray, List.set_cons_zero, List.set_cons_succ]
            refine Ord.wpM_one (i := 14) (by kernel_rfl) (by simp only [List.getElem?_toArray, List.getElem?_cons_zero, List.getElem?_cons_succ]; rfl) (fun K hK => ?_)
            go_simp
            refine hK.out _ _ (fun h => absurd h (by decide)) ?_
            clear hK K
            try simp only [Act.put, List.setIfInBounds_toArray, List.set_cons_zero, List.set_cons_succ]
            refine Ord.wpM_done (by kernel_rfl) ?_ _
            refine NoPanic.normal ?_
            have HFz := keep (HFd.out.trans HPush.out.2)
            have HBz := keep (HBk.out.fc HFz.out (by omega) HNoF.out)
            have HBy := keep (HBx.out.trans (HFz.out.below (B := w.heap.size) (by omega) hCr HNoW.out))
            have HNs2 : Hid (ns ++ [⟨xn, xs, false⟩] = (ps.take (k + 1)).map nmOf) := by
              show _ = _
              rw [HStep.out, ← HNs.out]; rfl
            go_wp2
            go_roundw
            case rel => exact ⟨k + 1, _, _, by omega, by go_num, HNs2.out, HPush.out.1, HBz.out, HBy.out⟩
            case measure => simp [intOf]; omega
        · have hke : k = ps.length := by omega
          subst hke
          have dl : decide ((ps.length : Int) < (ps.length : Int)) = false := decide_eq_false (by omega)
          have hns : ns = ps.map nmOf := by rw [HNs.out, List.take_length]
          subst hns
          obtain ⟨pv, nv', cv, rfl⟩ := RowX.slice HCK.out.row
          have b2 := HBk.out.cell 2 rfl
          have HOw := keep HCK.out.own
          have HC := keep (block_ck 9 (stmt_ck 9) 10 C B rs (.slice p2 rs.length c2) (ps.map nmOf) (.slice pv nv' cv) 0 0 0 false body (.slice p3 n3 c3) wr (by omega) (by omega) HWf.out.2.2 HCK.out (fun _ => ⟨by rw [List.length_map]; omega, by omega, by omega⟩) (HBd.out.below (HBx.out.mono hB)))
          clear hkl
          go_wp2_with fail
          refine HC.out.mono ?_
          rintro r w5 ⟨nv5, ns5, wk5, lt5, e5, rfl, hk5, hf5, hx5, hsr5⟩
          have HEq := keep (check_block (f := ⟨ps, rs, body⟩) HM.out HTw.out hsr5)
          have HB5 := keep (HBx.out.trans (hf5.below (B := w.heap.size) (by omega) hCr (fun i hi => (HOw.out i hi).1)))
          have z4 := hk5.box.cell 4 rfl
          clear hk5 hf5 hx5 hsr5 HC
          go_wp2
          go_ret
          exact ⟨by rw [HEq.out]; rfl, HB5.out⟩
end Go.Proofs.YtemdnmfldihalaaDoor.Lr
