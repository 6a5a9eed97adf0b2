/- The document's own reader: a statement. Written by tools/gen_dstmt.py. -/
import Derived.Test.YtemdnmfldihalaaDoorLdSs
namespace Go.Proofs.YtemdnmfldihalaaDoor.Lr
set_option linter.unusedVariables false
set_option linter.unusedSimpArgs false
open Go.ChangeShapes Go.WideShapes Go.ChangeAt Go.RowKit Lg Rf

set_option maxHeartbeats 16000000 in
set_option maxRecDepth 100000 in
theorem stmt_for (m : Nat) (hm : m ≤ 8) (ih : StmtOK m) (b : Nat) (s : ByteArray) (e : Int) (w : World) (hs : s.size ≤ 1200) (h : PB w b s e) (ht : Tabs w) (hg : GL b) (hk : wd (rs s.data.toList) = [102, 111, 114]) :
    Calls Tryd.prog 30 #[.pointer (some ⟨b, 0, none⟩), .int .i64 (8 - (m : Int))] w fun r w' => ∃ p : St × Value × Value × Value, r = .returned (.agg (stA p.1 p.2.1 p.2.2.1 p.2.2.2)) ∧ nestS (m + 2) w' (New w w') p ∧ Rd w' b s.size e (stmtT (m + 1) (words s.data.toList)) (fun a => a = p.1) ∧ Fs [b] w w' := by
  have hbl := h.lt
  have HTf : Hid (∀ W, Fs [b] w W → Tabs W) := fun W hW => tabs_fs ht hg hW hbl
  have HD0 : Hid (Bk (stmtW w) w.heap.size [.int .i64 0, .int .i64 0, .string ⟨#[]⟩, .bool false, .slice none 0 0, .slice none 0 0, .slice none 0 0] 67) := Bk.new w [.int .i64 0, .int .i64 0, .string ⟨#[]⟩, .bool false, .slice none 0 0, .slice none 0 0, .slice none 0 0] 67
  have HF0 : Hid (Fs [b] w (stmtW w)) := (Fs.refl _ w).up _
  obtain ⟨s1, hs1d, hs1, hpk1⟩ := is_pack b s (by omega)
  obtain ⟨s2, hs2d, hs2, hpk2⟩ := w_pack b s1 (by omega) [102, 111, 114] (by rw [hs1d]; exact hk)
  have HC1 := keep (hpk1 ⟨#[40]⟩ e (stmtW w) (h.up _))
  have HC2 := keep hpk2
  have hd : decide (8 < 8 - (m : Int)) = false := decide_eq_false (by omega)
  have HEx := keep (fun s e w hs h ht => expr_ok m (by omega) b s e w hs h ht hg)
  have HSt := keep (fun s e w hs h ht => stmts_rd m ih b s e w hs h ht hg)
  have HG := keep hg
  have hw8 : IntKind.i64.wrap (8 - (m : Int) + 1) = 9 - (m : Int) := wrap_up m (by omega)
  have HStm : Hid (stmtT (m + 1) (words s.data.toList) = _) := rfl
  rw [HStm.out]
  obtain ⟨i0, hi0, hz0, hz1, hz2⟩ := info_parts infoE
  clear h ht hg ih hpk1 hpk2 hs1d hs2d hk HStm
  generalize hm9 : 9 - (m : Int) = a9 at *
  generalize hm8 : 8 - (m : Int) = a8 at *
  clear hm8 hm9
  have hmm := @run_makeMap Tryd.prog
  go_enter Tryd.func30, Tryd.ntmps30
  go_wp2_with fail
  change Calls _ _ _ (stmtW w) _
  refine HC1.out.mono ?_
  rintro r w1 ⟨rfl, ⟨e1, hp1, h11, h12⟩, hf1⟩
  have HD1 := keep (HD0.out.fs hf1.fs (by simp; omega))
  have HF1 := keep (HF0.out.trans hf1.fs)
  have HP1 := keep hp1
  have H11 := keep h11
  have H12 := keep h12
  clear hp1 h11 h12 hf1 HC1 HD0 HF0
  go_wp2_with fail
  refine (HC2.out e1 w1 HP1.out).mono ?_
  rintro r w2 ⟨rfl, ⟨e2, hp2, h21, h22⟩, hf2⟩
  have HD2 := keep (HD1.out.fs hf2.fs (by simp; omega))
  have HF2 := keep (HF1.out.trans hf2.fs)
  have H21 := keep h21
  have H22 := keep h22
  obtain ⟨W1, W2, W3, W4, W5, W6, r1, r2, r3, r4, r5, r6, rl, hB6⟩ := kinds_map w2 w2.heap.size rfl
  have rl0 : (Instr.lookup 86 (.map (some w2.heap.size)) (.string ⟨#[102, 111, 114]⟩) false).run Tryd.prog W6 = .ok (.int .i64 5) W6 := rl ⟨#[102, 111, 114]⟩ (by unfold maxLen; decide)
  have HD6 := keep (HD2.out.fs (Fs.of_below (l := []) hB6) (by simp))
  have HF6 := keep (HF2.out.trans (Fs.of_below hB6))
  have HP6' := keep (hp2.below hB6)
  have HZ := keep (Bk.new W6 [.int .i64 0, .int .i64 0, .string ⟨#[]⟩, .bool false, .slice none 0 0, .slice none 0 0, .slice none 0 0] 67)
  have hwS : w.heap.size < W6.heap.size := HD6.out.lt
  obtain ⟨w3, hw3⟩ : ∃ w3, (W6.alloc (.cells #[.int .i64 0, .int .i64 0, .string ⟨#[]⟩, .bool false, .slice none 0 0, .slice none 0 0, .slice none 0 0] 67)).setRow W6.heap.size #[.int .i64 5, .int .i64 0, .string ⟨#[]⟩, .bool false, .slice none 0 0, .slice none 0 0, .slice none 0 0] = w3 := ⟨_, rfl⟩
  have HS3 : Hid (SS w w3 b W6.heap.size [.int .i64 5, .int .i64 0, .string ⟨#[]⟩, .bool false, .slice none 0 0, .slice none 0 0, .slice none 0 0]) := by
    show SS _ _ _ _ _
    rw [← hw3]
    exact ⟨(HF6.out.up _).row (by omega) _, by have := HD6.out.up (.cells #[.int .i64 0, .int .i64 0, .string ⟨#[]⟩, .bool false, .slice none 0 0, .slice none 0 0, .slice none 0 0] 67); unfold Bk at this ⊢; rw [setRow_other _ _ _ _ (by omega)]; exact this, setRow_heap _ _ _ _ _ _ HZ.out⟩
  have HP3 : Hid (PB w3 b s2 e2) := by
    show PB _ _ _ _
    rw [← hw3]; exact (HP6'.out.up _).row (by omega) _
  have hz3 : W6.heap.size < w3.heap.size := HS3.out.S.lt
  clear hp2 h21 h22 hf2 HC2 HP1 HD1 HD2 HD6 HF1 HF2 HF6 HP6' rl hB6
  have c0 := HS3.out.S.cell 0 rfl
  go_wp2_with (first
    | refine wpList_store_row rfl 67 (.tmp 6) (.tmp 20) rfl W6.heap.size #[.int .i64 5, .int .i64 0, .string ⟨#[]⟩, .bool false, .slice none 0 0, .slice none 0 0, .slice none 0 0] rfl rfl 67 #[.int .i64 0, .int .i64 0, .string ⟨#[]⟩, .bool false, .slice none 0 0, .slice none 0 0, .slice none 0 0] HZ.out (info_S [.int .i64 5, .int .i64 0, .string ⟨#[]⟩, .bool false, .slice none 0 0, .slice none 0 0, .slice none 0 0] rfl) rfl (by simp [Value.oneCell']) ?_
    | rw [hw3])
  (try clear hw3)
  (try clear hwA)
  (try clear c0)
  (try clear cX)
  (try clear fX)
  refine (n_rd b s2 (by omega) e2 w3 HP3.out).mono ?_
  rintro r v4 ⟨rfl, hr, hf⟩
  obtain ⟨s4, e4, hp4, hn4, h4a, h4b⟩ := hr
  obtain ⟨x, hx⟩ : ∃ x, wd s2.data.toList = x := ⟨_, rfl⟩
  rw [hx] at h4b
  rw [hx]
  clear hx
  have HV4 := keep (HS3.out.step hbl hwS hf.fs)
  have A4 := keep h4a
  have B4 := keep h4b
  obtain ⟨w4, hwA⟩ : ∃ w4, v4.setCell ⟨W6.heap.size, 2, none⟩ (.string ⟨x.toArray⟩) = w4 := ⟨_, rfl⟩
  have cX := HV4.out.S.cell 2 rfl
  have fX := HV4.out.S.fr 2
  have HS4 : Hid (SS w w4 b W6.heap.size [.int .i64 5, .int .i64 0, .string ⟨x.toArray⟩, .bool false, .slice none 0 0, .slice none 0 0, .slice none 0 0]) := by
    show SS _ _ _ _ _
    rw [← hwA]; exact HV4.out.set hwS 2 _
  have HQ4 : Hid (PB w4 b s4 e4) := by
    show PB _ _ _ _
    rw [← hwA]; exact hp4.far (by omega) 2 _
  have hz4 : w3.heap.size ≤ w4.heap.size := by rw [← hwA]; simp [World.setCell]; exact hf.size
  have hy4 : v4.heap.size ≤ w4.heap.size := by rw [← hwA]; simp [World.setCell]
  clear hp4 h4a h4b hf
  have c0 := HS4.out.S.cell 0 rfl
  go_wp2_with fail
  (try clear hw3)
  (try clear hwA)
  (try clear c0)
  (try clear cX)
  (try clear fX)
  refine (i_rd b s4 (by omega) e4 0 8 w4 HQ4.out (HTf.out _ HS4.out.fs) HG.out).mono ?_
  rintro r v5 ⟨nv, rfl, hr, hf⟩
  obtain ⟨s5, e5, hp5, hn5, h5a, h5b⟩ := hr
  have HV5 := keep (HS4.out.step hbl hwS hf.fs)
  have A5 := keep h5a
  have B5 := keep h5b
  obtain ⟨w5, hwA⟩ : ∃ w5, v5.setCell ⟨W6.heap.size, 1, none⟩ (.int .i64 nv) = w5 := ⟨_, rfl⟩
  have cX := HV5.out.S.cell 1 rfl
  have fX := HV5.out.S.fr 1
  have HS5 : Hid (SS w w5 b W6.heap.size [.int .i64 5, .int .i64 nv, .string ⟨x.toArray⟩, .bool false, .slice none 0 0, .slice none 0 0, .slice none 0 0]) := by
    show SS _ _ _ _ _
    rw [← hwA]; exact HV5.out.set hwS 1 _
  have HQ5 : Hid (PB w5 b s5 e5) := by
    show PB _ _ _ _
    rw [← hwA]; exact hp5.far (by omega) 1 _
  have hz5 : w4.heap.size ≤ w5.heap.size := by rw [← hwA]; simp [World.setCell]; exact hf.size
  have hy5 : v5.heap.size ≤ w5.heap.size := by rw [← hwA]; simp [World.setCell]
  clear hp5 h5a h5b hf
  have c0 := HS5.out.S.cell 0 rfl
  go_wp2_with fail
  (try clear hw3)
  (try clear hwA)
  (try clear c0)
  (try clear cX)
  (try clear fX)
  refine (HSt.out s5 e5 w5 (by omega) HQ5.out (HTf.out _ HS5.out.fs)).mono ?_
  rintro r v6 ⟨us1, sl1, rfl, hst, hr, hf⟩
  obtain ⟨s6, e6, hp6, hn6, h6a, h6b⟩ := hr
  obtain ⟨p1, q1, cap1, rfl⟩ := hst.slice
  have HT1 := keep hst
  clear hst
  have HV6 := keep (HS5.out.step hbl hwS hf)
  have A6 := keep h6a
  have B6 := keep h6b
  obtain ⟨w6, hwA⟩ : ∃ w6, v6.setCell ⟨W6.heap.size, 5, none⟩ (.slice p1 q1 cap1) = w6 := ⟨_, rfl⟩
  have cX := HV6.out.S.cell 5 rfl
  have fX := HV6.out.S.fr 5
  have HS6 : Hid (SS w w6 b W6.heap.size [.int .i64 5, .int .i64 nv, .string ⟨x.toArray⟩, .bool false, .slice none 0 0, .slice p1 q1 cap1, .slice none 0 0]) := by
    show SS _ _ _ _ _
    rw [← hwA]; exact HV6.out.set hwS 5 _
  have HQ6 : Hid (PB w6 b s6 e6) := by
    show PB _ _ _ _
    rw [← hwA]; exact hp6.far (by omega) 5 _
  have hz6 : w5.heap.size ≤ w6.heap.size := by rw [← hwA]; simp [World.setCell]; exact hf.size
  have hy6 : v6.heap.size ≤ w6.heap.size := by rw [← hwA]; simp [World.setCell]
  have HT1 := keep (StX.keep (w' := w6) (fun i (hi : New w5 v6 i) => by rw [← hwA, Below.heap_setCell _ _ _ _ (by show i ≠ W6.heap.size; have := hi.1; omega)]) HT1.out)
  clear hp6 h6a h6b hf
  have c0 := HS6.out.S.cell 0 rfl
  have HEl := keep HS6.out.S
  have HDl := keep HS6.out.D
  go_wp2_with (first
    | refine wpList_load_row rfl 67 (.tmp 6) rfl W6.heap.size rfl 67 #[.int .i64 5, .int .i64 nv, .string ⟨x.toArray⟩, .bool false, .slice none 0 0, .slice p1 q1 cap1, .slice none 0 0] (0, 0) _ HEl.out Tryd.underlying67 rfl (info_S [.int .i64 5, .int .i64 nv, .string ⟨x.toArray⟩, .bool false, .slice none 0 0, .slice p1 q1 cap1, .slice none 0 0] rfl) ?_
    | refine wpList_store_row rfl 67 (.tmp 4) (.tmp 64) rfl w.heap.size #[.int .i64 5, .int .i64 nv, .string ⟨x.toArray⟩, .bool false, .slice none 0 0, .slice p1 q1 cap1, .slice none 0 0] rfl rfl 67 #[.int .i64 0, .int .i64 0, .string ⟨#[]⟩, .bool false, .slice none 0 0, .slice none 0 0, .slice none 0 0] HDl.out (info_S [.int .i64 5, .int .i64 nv, .string ⟨x.toArray⟩, .bool false, .slice none 0 0, .slice p1 q1 cap1, .slice none 0 0] rfl) rfl (by simp [Value.oneCell']) ?_
    | rw [hwA])
  (try simp only [Exit.inBlock, Exit.then])
  refine bodyPost_ret (results_cell_row rfl _ _ w.heap.size _ #[.int .i64 5, .int .i64 nv, .string ⟨x.toArray⟩, .bool false, .slice none 0 0, .slice p1 q1 cap1, .slice none 0 0] (0, 0) _ rfl (setRow_heap _ _ _ _ _ _ HDl.out) Tryd.underlying67 rfl (info_S [.int .i64 5, .int .i64 nv, .string ⟨x.toArray⟩, .bool false, .slice none 0 0, .slice p1 q1 cap1, .slice none 0 0] rfl)) rfl ?_
  have hpl := HQ6.out.row (D := w.heap.size) (by omega) #[.int .i64 5, .int .i64 nv, .string ⟨x.toArray⟩, .bool false, .slice none 0 0, .slice p1 q1 cap1, .slice none 0 0]
  refine ⟨(⟨5, nv, x, false, [], us1, []⟩, .slice none 0 0, .slice p1 q1 cap1, .slice none 0 0), rfl, ⟨.inl ⟨rfl, rfl⟩, ?_, StX.none _⟩, ?_, HS6.out.fs.row (Nat.le_refl _) _⟩
  · exact StX.mono (X := New w5 v6) (fun i hi => ⟨by have := hi.1; omega, by have := hi.2; simp; omega⟩) (StX.keep (fun i hi => setRow_other _ _ _ _ (by have := hi.1; omega)) HT1.out)
  · refine rd_go (n1 := s.size) H11.out H12.out ?_ (Nat.le_refl _)
    refine rd_then (x := [102, 111, 114]) (n1 := s.size) H21.out H22.out ?_ (Nat.le_refl _)
    rw [if_neg (by decide), if_neg (by decide), if_neg (by decide), if_neg (by decide), if_pos (by decide)]
    refine rd_then (x := x) (n1 := s.size) A4.out B4.out ?_ (Nat.le_refl _)
    refine rd_then (x := nv) (n1 := s.size) A5.out B5.out ?_ (Nat.le_refl _)
    refine rd_then (x := us1) (n1 := s.size) A6.out B6.out ?_ (Nat.le_refl _)
    exact rd_ok hpl (by omega) rfl
end Go.Proofs.YtemdnmfldihalaaDoor.Lr
