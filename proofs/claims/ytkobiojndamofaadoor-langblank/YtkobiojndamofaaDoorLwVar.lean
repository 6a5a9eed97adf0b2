/- The program's own reader: parameters, arrays, and the parts of their lists. Written by tools/gen_var.py. -/
import Derived.Test.YtkobiojndamofaaDoorLwStmt
namespace Go.Proofs.YtkobiojndamofaaDoor.Lr
set_option linter.unusedVariables false
set_option linter.unusedSimpArgs false
open Go.ChangeShapes Go.WideShapes Go.ChangeAt Go.RowKit Lg

structure VS (w W : World) (b c : Nat) (v : Vr) : Prop where
  fs : Fs [b, c] w W
  D : Bk W w.heap.size [.string ⟨#[]⟩, .bool false, .int .i64 0] 62
  E : Bk W (w.heap.size + 1) (cellsV v) 62
theorem VS.step {w W W' : World} {b c : Nat} {v : Vr} (h : VS w W b c v) (hb : b < w.heap.size) (hc : c < w.heap.size) (k : Fs [b, c] W W') : VS w W' b c v :=
  ⟨h.fs.trans k, h.D.fs k (by simp; omega), h.E.fs k (by simp; omega)⟩
theorem VS.set {w W : World} {b c : Nat} {v : Vr} (h : VS w W b c v) (i : Nat) (x : Value) (v' : Vr) (hc : cellsV v' = (cellsV v).set i x) : VS w (W.setCell ⟨w.heap.size + 1, i, none⟩ x) b c v' :=
  ⟨⟨h.fs.os, h.fs.tape, h.fs.output, by simp [World.setCell]; exact h.fs.size, fun k hk hl => by
      rw [Below.heap_setCell _ _ _ _ (by show k ≠ w.heap.size + 1; omega)]; exact h.fs.block k hk hl⟩, h.D.far _ _ (by omega), by rw [hc]; exact h.E.set i x⟩
def varW (w : World) : World := (w.alloc (.cells #[.string ⟨#[]⟩, .bool false, .int .i64 0] 62)).alloc (.cells #[.string ⟨#[]⟩, .bool false, .int .i64 0] 62)
theorem varW_vs (w : World) (b c : Nat) : VS w (varW w) b c ⟨[], false, 0⟩ := by
  unfold varW
  have e1 : ∀ (v : World) (o : Obj), (v.alloc o).heap.size = v.heap.size + 1 := fun v o => by simp
  refine ⟨((Fs.refl _ w).up _).up _, (Bk.new w [.string ⟨#[]⟩, .bool false, .int .i64 0] 62).up _, ?_⟩
  have h := Bk.new (w.alloc (.cells #[.string ⟨#[]⟩, .bool false, .int .i64 0] 62)) [.string ⟨#[]⟩, .bool false, .int .i64 0] 62
  rw [e1] at h; exact h
def vrA (v : Vr) : Array Value := #[.string ⟨v.name.toArray⟩, .bool v.secret, .int .i64 v.size]

set_option maxHeartbeats 4000000 in
set_option maxRecDepth 100000 in
theorem param_rd (b c : Nat) (s : ByteArray) (e : Int) (w : World) (hs : s.size < 1201) (h : RB w b c s e) (ht : Tabs w) (hg : GL b ∧ GL c) :
    Calls Tryd.prog 27 #[.pointer (some ⟨b, 0, none⟩)] w fun r w' => ∃ v : Vr, r = .returned (.agg (vrA v)) ∧ Rd w' b c s.size e (varG (words s.data.toList)) (fun a => a = v) ∧ Fs [b, c] w w' := by
  have hbl := h.lt
  have hcl := h.ltc
  have HTf : Hid (∀ W, Fs [b, c] w W → Tabs W) := fun W hW => tabs_fs ht hg hW hbl hcl
  have HG := keep hg
  have HV0 := keep (varW_vs w b c)
  have HP0 : Hid (RB (varW w) b c s e) := (h.up _).up _
  clear h ht hg
  go_enter Tryd.func27, Tryd.ntmps27
  go_wp2_with fail
  change Calls _ _ _ (varW w) _
  refine (label_rd b c s (by omega) e (varW w) HP0.out).mono ?_
  rintro r w4 ⟨x4, rfl, hrd, hf⟩
  obtain ⟨s4, e4, hp, hn4, h1, h2⟩ := hrd
  have HVa4 := keep (HV0.out.step hbl hcl hf)
  have HV4 := keep (HVa4.out.set 1 (.bool x4) ⟨[], x4, 0⟩ rfl)
  have HP4 := keep (hp.set (k := w.heap.size + 1) (by omega) (by omega) 1 (.bool x4))
  have HA4 := keep h1
  have HB4 := keep h2
  have cE := HVa4.out.E.cell 1 rfl
  have fE := HVa4.out.E.fr 1
  obtain ⟨v4, hv4⟩ : ∃ v4, w4.setCell ⟨w.heap.size + 1, 1, none⟩ (.bool x4) = v4 := ⟨_, rfl⟩
  rw [hv4] at HV4 HP4
  clear hp hf h1 h2 HV0 HP0
  go_wp2_with fail
  clear hv4 cE fE HVa4
  refine (name_rd b c s4 (by omega) e4 v4 HP4.out (HTf.out _ HV4.out.fs) HG.out).mono ?_
  rintro r w5 ⟨x5, rfl, hrd, hf⟩
  obtain ⟨s5, e5, hp, hn5, h1, h2⟩ := hrd
  have HVa5 := keep (HV4.out.step hbl hcl hf)
  have HV5 := keep (HVa5.out.set 0 (.string ⟨x5.toArray⟩) ⟨x5, x4, 0⟩ rfl)
  have HP5 := keep (hp.set (k := w.heap.size + 1) (by omega) (by omega) 0 (.string ⟨x5.toArray⟩))
  have HA5 := keep h1
  have HB5 := keep h2
  have cE := HVa5.out.E.cell 0 rfl
  have fE := HVa5.out.E.fr 0
  obtain ⟨v5, hv5⟩ : ∃ v5, w5.setCell ⟨w.heap.size + 1, 0, none⟩ (.string ⟨x5.toArray⟩) = v5 := ⟨_, rfl⟩
  rw [hv5] at HV5 HP5
  clear hp hf h1 h2 HV4 HP4
  go_wp2_with fail
  clear hv5 cE fE HVa5
  refine (must_rd b c s5 (by omega) e5 ⟨#[41]⟩ v5 HP5.out).mono ?_
  rintro r w7 ⟨rfl, hrd, hf⟩
  obtain ⟨s7, e7, hp, hn7, h1, h2⟩ := hrd
  have HV7 := keep (HV5.out.step hbl hcl hf)
  have HP7 := keep hp
  have HA7 := keep h1
  have HB7 := keep h2
  have HEf := keep HV7.out.E
  have HDf := keep HV7.out.D
  clear hp hf h1 h2
  go_wp2_with (first
    | refine wpList_load_row rfl 62 (.tmp 3) rfl (w.heap.size + 1) rfl 62 #[.string ⟨x5.toArray⟩, .bool x4, .int .i64 0] (0, 0) _ HEf.out Tryd.underlying62 rfl (info_V [.string ⟨x5.toArray⟩, .bool x4, .int .i64 0] rfl) ?_
    | refine wpList_store_row rfl 62 (.tmp 2) (.tmp 12) rfl w.heap.size #[.string ⟨x5.toArray⟩, .bool x4, .int .i64 0] rfl rfl 62 #[.string ⟨#[]⟩, .bool false, .int .i64 0] HDf.out (info_V [.string ⟨x5.toArray⟩, .bool x4, .int .i64 0] rfl) rfl (by simp [Value.oneCell']) ?_)
  (try simp only [Exit.inBlock, Exit.then])
  refine bodyPost_ret (results_cell_row rfl _ _ w.heap.size _ #[.string ⟨x5.toArray⟩, .bool x4, .int .i64 0] (0, 0) _ rfl (setRow_heap _ _ _ _ _ _ HDf.out) Tryd.underlying62 rfl (info_V [.string ⟨x5.toArray⟩, .bool x4, .int .i64 0] rfl)) rfl ?_
  have hp9 := HP7.out.row (D := w.heap.size) (by omega) (by omega) #[.string ⟨x5.toArray⟩, .bool x4, .int .i64 0]
  refine ⟨⟨x5, x4, 0⟩, rfl, ?_, HV7.out.fs.row (Nat.le_refl _) _⟩
  unfold varG
  refine rd_then (x := x4) (n1 := s.size) HA4.out HB4.out ?_ (Nat.le_refl _)
  refine rd_then (x := x5) (n1 := s.size) HA5.out HB5.out ?_ (Nat.le_refl _)
  refine rd_go (n1 := s.size) HA7.out HB7.out ?_ (Nat.le_refl _)
  exact rd_ok hp9 (by omega) rfl

set_option maxHeartbeats 4000000 in
set_option maxRecDepth 100000 in
theorem array_rd (b c : Nat) (s : ByteArray) (e : Int) (w : World) (hs : s.size < 1201) (h : RB w b c s e) (ht : Tabs w) (hg : GL b ∧ GL c) :
    Calls Tryd.prog 29 #[.pointer (some ⟨b, 0, none⟩)] w fun r w' => ∃ v : Vr, r = .returned (.agg (vrA v)) ∧ Rd w' b c s.size e (arrG (words s.data.toList)) (fun a => a = v) ∧ Fs [b, c] w w' := by
  have hbl := h.lt
  have hcl := h.ltc
  have HTf : Hid (∀ W, Fs [b, c] w W → Tabs W) := fun W hW => tabs_fs ht hg hW hbl hcl
  have HG := keep hg
  have HV0 := keep (varW_vs w b c)
  have HP0 : Hid (RB (varW w) b c s e) := (h.up _).up _
  clear h ht hg
  go_enter Tryd.func29, Tryd.ntmps29
  go_wp2_with fail
  change Calls _ _ _ (varW w) _
  refine (label_rd b c s (by omega) e (varW w) HP0.out).mono ?_
  rintro r w4 ⟨x4, rfl, hrd, hf⟩
  obtain ⟨s4, e4, hp, hn4, h1, h2⟩ := hrd
  have HVa4 := keep (HV0.out.step hbl hcl hf)
  have HV4 := keep (HVa4.out.set 1 (.bool x4) ⟨[], x4, 0⟩ rfl)
  have HP4 := keep (hp.set (k := w.heap.size + 1) (by omega) (by omega) 1 (.bool x4))
  have HA4 := keep h1
  have HB4 := keep h2
  have cE := HVa4.out.E.cell 1 rfl
  have fE := HVa4.out.E.fr 1
  obtain ⟨v4, hv4⟩ : ∃ v4, w4.setCell ⟨w.heap.size + 1, 1, none⟩ (.bool x4) = v4 := ⟨_, rfl⟩
  rw [hv4] at HV4 HP4
  clear hp hf h1 h2 HV0 HP0
  go_wp2_with fail
  clear hv4 cE fE HVa4
  refine (name_rd b c s4 (by omega) e4 v4 HP4.out (HTf.out _ HV4.out.fs) HG.out).mono ?_
  rintro r w5 ⟨x5, rfl, hrd, hf⟩
  obtain ⟨s5, e5, hp, hn5, h1, h2⟩ := hrd
  have HVa5 := keep (HV4.out.step hbl hcl hf)
  have HV5 := keep (HVa5.out.set 0 (.string ⟨x5.toArray⟩) ⟨x5, x4, 0⟩ rfl)
  have HP5 := keep (hp.set (k := w.heap.size + 1) (by omega) (by omega) 0 (.string ⟨x5.toArray⟩))
  have HA5 := keep h1
  have HB5 := keep h2
  have cE := HVa5.out.E.cell 0 rfl
  have fE := HVa5.out.E.fr 0
  obtain ⟨v5, hv5⟩ : ∃ v5, w5.setCell ⟨w.heap.size + 1, 0, none⟩ (.string ⟨x5.toArray⟩) = v5 := ⟨_, rfl⟩
  rw [hv5] at HV5 HP5
  clear hp hf h1 h2 HV4 HP4
  go_wp2_with fail
  clear hv5 cE fE HVa5
  refine (number_rd b c s5 (by omega) e5 1 8 v5 HP5.out).mono ?_
  rintro r w6 ⟨x6, rfl, hrd, hf⟩
  obtain ⟨s6, e6, hp, hn6, h1, h2⟩ := hrd
  have HVa6 := keep (HV5.out.step hbl hcl hf)
  have HV6 := keep (HVa6.out.set 2 (.int .i64 x6) ⟨x5, x4, x6⟩ rfl)
  have HP6 := keep (hp.set (k := w.heap.size + 1) (by omega) (by omega) 2 (.int .i64 x6))
  have HA6 := keep h1
  have HB6 := keep h2
  have cE := HVa6.out.E.cell 2 rfl
  have fE := HVa6.out.E.fr 2
  obtain ⟨v6, hv6⟩ : ∃ v6, w6.setCell ⟨w.heap.size + 1, 2, none⟩ (.int .i64 x6) = v6 := ⟨_, rfl⟩
  rw [hv6] at HV6 HP6
  clear hp hf h1 h2 HV5 HP5
  go_wp2_with fail
  clear hv6 cE fE HVa6
  refine (must_rd b c s6 (by omega) e6 ⟨#[41]⟩ v6 HP6.out).mono ?_
  rintro r w7 ⟨rfl, hrd, hf⟩
  obtain ⟨s7, e7, hp, hn7, h1, h2⟩ := hrd
  have HV7 := keep (HV6.out.step hbl hcl hf)
  have HP7 := keep hp
  have HA7 := keep h1
  have HB7 := keep h2
  have HEf := keep HV7.out.E
  have HDf := keep HV7.out.D
  clear hp hf h1 h2
  go_wp2_with (first
    | refine wpList_load_row rfl 62 (.tmp 3) rfl (w.heap.size + 1) rfl 62 #[.string ⟨x5.toArray⟩, .bool x4, .int .i64 x6] (0, 0) _ HEf.out Tryd.underlying62 rfl (info_V [.string ⟨x5.toArray⟩, .bool x4, .int .i64 x6] rfl) ?_
    | refine wpList_store_row rfl 62 (.tmp 2) (.tmp 15) rfl w.heap.size #[.string ⟨x5.toArray⟩, .bool x4, .int .i64 x6] rfl rfl 62 #[.string ⟨#[]⟩, .bool false, .int .i64 0] HDf.out (info_V [.string ⟨x5.toArray⟩, .bool x4, .int .i64 x6] rfl) rfl (by simp [Value.oneCell']) ?_)
  (try simp only [Exit.inBlock, Exit.then])
  refine bodyPost_ret (results_cell_row rfl _ _ w.heap.size _ #[.string ⟨x5.toArray⟩, .bool x4, .int .i64 x6] (0, 0) _ rfl (setRow_heap _ _ _ _ _ _ HDf.out) Tryd.underlying62 rfl (info_V [.string ⟨x5.toArray⟩, .bool x4, .int .i64 x6] rfl)) rfl ?_
  have hp9 := HP7.out.row (D := w.heap.size) (by omega) (by omega) #[.string ⟨x5.toArray⟩, .bool x4, .int .i64 x6]
  refine ⟨⟨x5, x4, x6⟩, rfl, ?_, HV7.out.fs.row (Nat.le_refl _) _⟩
  unfold arrG
  refine rd_then (x := x4) (n1 := s.size) HA4.out HB4.out ?_ (Nat.le_refl _)
  refine rd_then (x := x5) (n1 := s.size) HA5.out HB5.out ?_ (Nat.le_refl _)
  refine rd_then (x := x6) (n1 := s.size) HA6.out HB6.out ?_ (Nat.le_refl _)
  refine rd_go (n1 := s.size) HA7.out HB7.out ?_ (Nat.le_refl _)
  exact rd_ok hp9 (by omega) rfl

theorem Fh.of_blocks {B : Nat} {l : List Nat} {w w' : World} (h1 : w'.os = w.os) (h2 : w'.tape = w.tape) (h3 : w'.output = w.output) (h4 : w.heap.size ≤ w'.heap.size) (h5 : ∀ k, k < B → k ∉ l → w'.heap[k]? = w.heap[k]?) : Fh B l w w' := ⟨h1, h2, h3, h4, h5⟩

set_option maxHeartbeats 8000000 in
set_option maxRecDepth 100000 in
theorem prog1_rd (b c F Rb lo : Nat) (W : World) (hbF : b ≠ F) (hcF : c ≠ F) (hRF : Rb ≠ F) (hFl : F < lo) (hRl : Rb < lo) (hbl : b < lo) (hcl : c < lo) (hlo : lo ≤ W.heap.size) (u0 u1 u2 v0 : Value) (es : List Vr) (s : ByteArray) (hs : s.size + es.length + 1 ≤ 1200) (h : RB W b c s 0) (hF : Bk W F [v0, u1, u2] 26) (hR : Bk W Rb [.pointer (some ⟨b, 0, none⟩)] 40) (hRb : Rb ≠ b) (hRc : Rb ≠ c) (hrow : RowV W lo v0 es) (ht : Tabs W) (hg : GL b ∧ GL c) :
    Calls Tryd.prog 26 #[.pointer (some ⟨F, 0, none⟩), .pointer (some ⟨Rb, 0, none⟩)] W fun r w' => r = .returned (.tuple #[]) ∧ ∃ (p : Vr) (v' : Value),
      Bk w' F [v', u1, u2] 26 ∧ RowV w' lo v' (es ++ [p]) ∧ Rd w' b c s.size 0 (varG (words s.data.toList)) (fun a => a = p) ∧ Fh lo [b, c, F] W w' := by
  obtain ⟨pv, nv, cv, rfl⟩ := hrow.slice
  have hnv := hrow.len
  subst hnv
  have IH : Hid (∀ v, RB v b c s 0 → Tabs v → Calls Tryd.prog 27 #[.pointer (some ⟨b, 0, none⟩)] v fun r w' => ∃ v' : Vr, r = .returned (.agg (vrA v')) ∧ Rd w' b c s.size 0 (varG (words s.data.toList)) (fun a => a = v') ∧ Fs [b, c] v w') :=
    fun v hp hv => param_rd b c s 0 v (by omega) hp hv hg
  have HP : Hid (RB W.drew b c s 0) := h
  have HF : Hid (Bk W.drew F [.slice pv es.length cv, u1, u2] 26) := hF
  have HR : Hid (Bk W.drew Rb [.pointer (some ⟨b, 0, none⟩)] 40) := hR
  have HRow := keep (RowX.fs (l := []) (w' := W.drew) nestV_nest hrow ⟨rfl, rfl, rfl, Nat.le_refl _, fun _ _ _ => rfl⟩ (by simp))
  have HT : Hid (Tabs W.drew) := ht
  have HW : Hid (Fh lo [b, c, F] W W.drew) := ⟨rfl, rfl, rfl, Nat.le_refl _, fun _ _ _ => rfl⟩
  have hS : (fun W' : World => W'.cell? ⟨F, 0, none⟩ = some (.slice pv es.length cv) ∧ W'.cell? ⟨Rb, 0, none⟩ = some (.pointer (some ⟨b, 0, none⟩))) W.drew := ⟨HF.out.cell 0 rfl, HR.out.cell 0 rfl⟩
  have hWs : lo ≤ W.drew.heap.size := hlo
  obtain ⟨i0, hi0, hz0, hz1, hz2⟩ := info_parts infoV
  clear h hF hR hrow ht hg hlo
  go_enter Tryd.func26, Tryd.ntmps26
  go_wp2_with fail
  refine wp_region_noPanic ?_
  refine Ord.wpM_begin (fun W' : World => W'.cell? ⟨F, 0, none⟩ = some (.slice pv es.length cv) ∧ W'.cell? ⟨Rb, 0, none⟩ = some (.pointer (some ⟨b, 0, none⟩))) [0, 1, 2, 3, 4, 5] (by kernel_rfl) ?_
  generalize W.drew = Wd at *
  refine Ord.wpM_take (i := 0) (v := .pointer (some ⟨F, 0, none⟩)) (by simp only [List.getElem?_toArray, List.getElem?_cons_zero, List.getElem?_cons_succ]; rfl) (by kernel_rfl) (by kernel_rfl) (by kernel_rfl) (by kernel_rfl) (fun _ _ _ h => h) (Or.inl ⟨by rfl, by intro W' hW; obtain ⟨q0, q1⟩ := hW; go_simp⟩) hS ?_
  try simp only [Act.put, List.setIfInBounds_toArray, List.set_cons_zero, List.set_cons_succ]
  refine Ord.wpM_take (i := 1) (v := .slice pv es.length cv) (by simp only [List.getElem?_toArray, List.getElem?_cons_zero, List.getElem?_cons_succ]; rfl) (by kernel_rfl) (by kernel_rfl) (by kernel_rfl) (by kernel_rfl) (fun _ _ _ h => h) (Or.inl ⟨by rfl, by intro W' hW; obtain ⟨q0, q1⟩ := hW; go_simp⟩) hS ?_
  try simp only [Act.put, List.setIfInBounds_toArray, List.set_cons_zero, List.set_cons_succ]
  refine Ord.wpM_take (i := 2) (v := .pointer (some ⟨b, 0, none⟩)) (by simp only [List.getElem?_toArray, List.getElem?_cons_zero, List.getElem?_cons_succ]; rfl) (by kernel_rfl) (by kernel_rfl) (by kernel_rfl) (by kernel_rfl) (fun _ _ _ h => h) (Or.inl ⟨by rfl, by intro W' hW; obtain ⟨q0, q1⟩ := hW; go_simp⟩) hS ?_
  try simp only [Act.put, List.setIfInBounds_toArray, List.set_cons_zero, List.set_cons_succ]
  clear hS
  refine Ord.wpM_one (i := 3) (by kernel_rfl) (by simp only [List.getElem?_toArray, List.getElem?_cons_zero, List.getElem?_cons_succ]; rfl) (fun K hK => ?_)
  go_simp
  refine (IH.out _ HP.out HT.out).mono ?_
  rintro r w1 ⟨p, rfl, hrd, hf⟩
  obtain ⟨s5, e5, hp5, hn5, h51, h52⟩ := hrd
  have HF1 := keep (HF.out.fs hf (by simp; exact ⟨Ne.symm hbF, Ne.symm hcF⟩))
  have HR1 := keep (HR.out.fs hf (by simp; exact ⟨hRb, hRc⟩))
  have HRow1 := keep (RowX.fs nestV_nest HRow.out hf (by simp; omega))
  have HW1 := keep (HW.out.trans ((hf.mono (m := [b, c, F]) (by simp)).fh hWs))
  have hs1 : lo ≤ w1.heap.size := Nat.le_trans hWs hf.size
  have HP5 := keep hp5
  have H52 := keep (h52 rfl)
  clear hp5 h51 h52 hf
  go_simp
  refine hK.out _ _ (fun _ => ⟨HF1.out.cell 0 rfl, HR1.out.cell 0 rfl⟩) ?_
  clear hK K HF HR HRow HW HP HT
  try simp only [Act.put, List.setIfInBounds_toArray, List.set_cons_zero, List.set_cons_succ]
  refine Ord.wpM_one (i := 4) (by kernel_rfl) (by simp only [List.getElem?_toArray, List.getElem?_cons_zero, List.getElem?_cons_succ]; rfl) (fun K hK => ?_)
  unfold vrA
  go_simp
  have HF2 := keep (HF1.out.up (.cells #[.string ⟨p.name.toArray⟩, .bool p.secret, .int .i64 p.size] 62))
  have HR2 := keep (HR1.out.up (.cells #[.string ⟨p.name.toArray⟩, .bool p.secret, .int .i64 p.size] 62))
  have HRow2 := keep (RowX.fs (l := []) nestV_nest HRow1.out ((Fs.refl [] w1).up (.cells #[.string ⟨p.name.toArray⟩, .bool p.secret, .int .i64 p.size] 62)) (by simp))
  have HZ := keep (Bk.new w1 [.string ⟨p.name.toArray⟩, .bool p.secret, .int .i64 p.size] 62)
  have HP6 := keep (HP5.out.up (.cells #[.string ⟨p.name.toArray⟩, .bool p.secret, .int .i64 p.size] 62))
  have HW2 := keep (HW1.out.trans (((Fs.refl [b, c, F] w1).up (.cells #[.string ⟨p.name.toArray⟩, .bool p.secret, .int .i64 p.size] 62)).fh hs1))
  have hs2 : lo ≤ (w1.alloc (.cells #[.string ⟨p.name.toArray⟩, .bool p.secret, .int .i64 p.size] 62)).heap.size := by simp; omega
  refine hK.out _ _ (fun _ => ⟨HF2.out.cell 0 rfl, HR2.out.cell 0 rfl⟩) ?_
  clear hK K HF1 HR1 HRow1 HW1 HP5
  generalize w1.alloc (.cells #[.string ⟨p.name.toArray⟩, .bool p.secret, .int .i64 p.size] 62) = wa at *
  obtain ⟨zb, hzb⟩ : ∃ zb, w1.heap.size = zb := ⟨_, rfl⟩
  rw [hzb] at HZ
  try rw [hzb]
  clear hzb
  try simp only [Act.put, List.setIfInBounds_toArray, List.set_cons_zero, List.set_cons_succ]
  refine Ord.wpM_one (i := 5) (by kernel_rfl) (by simp only [List.getElem?_toArray, List.getElem?_cons_zero, List.getElem?_cons_succ]; rfl) (fun K hK => ?_)
  refine step_append_lies _ rfl (.tmp 3) (.tmp 6) 23 rfl lo 62 i0 _ 3 32 Tryd.underlying23 hi0 hz0 hz1 hz2 rfl (by decide) _ _ _ rfl HRow2.out.own ⟨zb, 0, none⟩ 1 1 [.string ⟨p.name.toArray⟩, .bool p.secret, .int .i64 p.size] rfl rfl (fun j u hj => bk_add HZ.out j u hj) ?_ (by decide) ?_ ?_ hs2 wa.heap.size rfl ?_
  · intro u hu
    simp only [List.mem_cons, List.not_mem_nil, or_false] at hu
    rcases hu with rfl | rfl | rfl <;> rfl
  · unfold maxLen; omega
  · omega
  · intro g cap w2 hown2 hgrow hat hlt
    have hgl : lo ≤ g := by
      rcases hat with h | h
      · exact (HRow2.out.own.lt g h).1
      · omega
    have hblk : ∀ k, k < lo → w2.heap[k]? = wa.heap[k]? := fun k hk => hgrow.block k (by omega) (fun e => by have := (HRow2.out.own.lt _ e.symm).1; omega)
    have HF3 : Hid (Bk w2 F [.slice pv es.length cv, u1, u2] 26) := by
      have h1 := HF2.out
      unfold Bk at h1
      show Bk w2 F [.slice pv es.length cv, u1, u2] 26
      unfold Bk
      rw [hblk F hFl]; exact h1
    have HR3 : Hid (Bk w2 Rb [.pointer (some ⟨b, 0, none⟩)] 40) := by
      have h1 := HR2.out
      unfold Bk at h1
      show Bk w2 Rb [.pointer (some ⟨b, 0, none⟩)] 40
      unfold Bk
      rw [hblk Rb hRl]; exact h1
    have HRow3 := keep (RowX.push (p := p) nestV_nest HRow2.out trivial hown2 hgrow (by rcases hat with h | h; exact .inl h; exact .inr h))
    have HP7 : Hid (RB w2 b c s5 e5) := ⟨by rw [hblk b hbl]; exact HP6.out.1, by show w2.heap[c]? = _; rw [hblk c hcl]; exact HP6.out.2⟩
    have HW3 : Hid (Fh lo [b, c, F] W w2) := HW2.out.trans ⟨hgrow.os, hgrow.tape, hgrow.output, hgrow.size, fun k hk _ => hblk k hk⟩
    have hS := (⟨HF3.out.cell 0 rfl, HR3.out.cell 0 rfl⟩ : (fun W' : World => W'.cell? ⟨F, 0, none⟩ = some (.slice pv es.length cv) ∧ W'.cell? ⟨Rb, 0, none⟩ = some (.pointer (some ⟨b, 0, none⟩))) w2)
    refine hK.out _ _ (fun _ => hS) ?_
    clear hK K hown2 hgrow hat HRow2 HP6 HW2 HF2 HR2 HZ
    try simp only [Act.put, List.setIfInBounds_toArray, List.set_cons_zero, List.set_cons_succ]
    refine Ord.wpM_take (i := 6) (v := .pointer (some ⟨F, 0, none⟩)) (by simp only [List.getElem?_toArray, List.getElem?_cons_zero, List.getElem?_cons_succ]; rfl) (by kernel_rfl) (by kernel_rfl) (by kernel_rfl) (by kernel_rfl) (fun _ _ _ h => h) (Or.inl ⟨by rfl, by intro W' hW; obtain ⟨q0, q1⟩ := hW; go_simp⟩) hS ?_
    try simp only [Act.put, List.setIfInBounds_toArray, List.set_cons_zero, List.set_cons_succ]
    clear hS
    refine Ord.wpM_one (i := 7) (by kernel_rfl) (by simp only [List.getElem?_toArray, List.getElem?_cons_zero, List.getElem?_cons_succ]; rfl) (fun K hK => ?_)
    have cF := HF3.out.cell 0 rfl
    have fF := HF3.out.fr 0
    go_simp
    refine hK.out _ _ (fun h => absurd h (by decide)) ?_
    clear hK K cF fF
    try simp only [Act.put, List.setIfInBounds_toArray, List.set_cons_zero, List.set_cons_succ]
    refine Ord.wpM_done (by kernel_rfl) ?_ _
    refine NoPanic.normal ?_
    go_wp2
    go_end0
    refine ⟨rfl, p, .slice (some ⟨g, 0, none⟩) (es.length + 1) cap, HF3.out.set 0 _, RowX.stay nestV_nest HRow3.out (by simp [World.setCell]) (fun k hk _ => Below.heap_setCell _ _ _ _ (by show k ≠ F; omega)), ⟨s5, e5, HP7.out.set hbF hcF 0 _, hn5, fun h => absurd rfl h, fun _ => H52.out⟩, ?_⟩
    exact HW3.out.trans ⟨rfl, rfl, rfl, by simp [World.setCell], fun k hk hl => Below.heap_setCell _ _ _ _ (by simp at hl; show k ≠ F; exact hl.2.2)⟩

set_option maxHeartbeats 8000000 in
set_option maxRecDepth 100000 in
theorem prog2_rd (b c F Rb lo : Nat) (W : World) (hbF : b ≠ F) (hcF : c ≠ F) (hRF : Rb ≠ F) (hFl : F < lo) (hRl : Rb < lo) (hbl : b < lo) (hcl : c < lo) (hlo : lo ≤ W.heap.size) (u0 u1 u2 v0 : Value) (es : List Vr) (s : ByteArray) (hs : s.size + es.length + 1 ≤ 1200) (h : RB W b c s 0) (hF : Bk W F [u0, v0, u2] 26) (hR : Bk W Rb [.pointer (some ⟨b, 0, none⟩)] 40) (hRb : Rb ≠ b) (hRc : Rb ≠ c) (hrow : RowV W lo v0 es) (ht : Tabs W) (hg : GL b ∧ GL c) :
    Calls Tryd.prog 28 #[.pointer (some ⟨F, 0, none⟩), .pointer (some ⟨Rb, 0, none⟩)] W fun r w' => r = .returned (.tuple #[]) ∧ ∃ (p : Vr) (v' : Value),
      Bk w' F [u0, v', u2] 26 ∧ RowV w' lo v' (es ++ [p]) ∧ Rd w' b c s.size 0 (arrG (words s.data.toList)) (fun a => a = p) ∧ Fh lo [b, c, F] W w' := by
  obtain ⟨pv, nv, cv, rfl⟩ := hrow.slice
  have hnv := hrow.len
  subst hnv
  have IH : Hid (∀ v, RB v b c s 0 → Tabs v → Calls Tryd.prog 29 #[.pointer (some ⟨b, 0, none⟩)] v fun r w' => ∃ v' : Vr, r = .returned (.agg (vrA v')) ∧ Rd w' b c s.size 0 (arrG (words s.data.toList)) (fun a => a = v') ∧ Fs [b, c] v w') :=
    fun v hp hv => array_rd b c s 0 v (by omega) hp hv hg
  have HP : Hid (RB W.drew b c s 0) := h
  have HF : Hid (Bk W.drew F [u0, .slice pv es.length cv, u2] 26) := hF
  have HR : Hid (Bk W.drew Rb [.pointer (some ⟨b, 0, none⟩)] 40) := hR
  have HRow := keep (RowX.fs (l := []) (w' := W.drew) nestV_nest hrow ⟨rfl, rfl, rfl, Nat.le_refl _, fun _ _ _ => rfl⟩ (by simp))
  have HT : Hid (Tabs W.drew) := ht
  have HW : Hid (Fh lo [b, c, F] W W.drew) := ⟨rfl, rfl, rfl, Nat.le_refl _, fun _ _ _ => rfl⟩
  have hS : (fun W' : World => W'.cell? ⟨F, 1, none⟩ = some (.slice pv es.length cv) ∧ W'.cell? ⟨Rb, 0, none⟩ = some (.pointer (some ⟨b, 0, none⟩))) W.drew := ⟨HF.out.cell 1 rfl, HR.out.cell 0 rfl⟩
  have hWs : lo ≤ W.drew.heap.size := hlo
  obtain ⟨i0, hi0, hz0, hz1, hz2⟩ := info_parts infoV
  clear h hF hR hrow ht hg hlo
  go_enter Tryd.func28, Tryd.ntmps28
  go_wp2_with fail
  refine wp_region_noPanic ?_
  refine Ord.wpM_begin (fun W' : World => W'.cell? ⟨F, 1, none⟩ = some (.slice pv es.length cv) ∧ W'.cell? ⟨Rb, 0, none⟩ = some (.pointer (some ⟨b, 0, none⟩))) [0, 1, 2, 3, 4, 5] (by kernel_rfl) ?_
  generalize W.drew = Wd at *
  refine Ord.wpM_take (i := 0) (v := .pointer (some ⟨F, 1, none⟩)) (by simp only [List.getElem?_toArray, List.getElem?_cons_zero, List.getElem?_cons_succ]; rfl) (by kernel_rfl) (by kernel_rfl) (by kernel_rfl) (by kernel_rfl) (fun _ _ _ h => h) (Or.inl ⟨by rfl, by intro W' hW; obtain ⟨q0, q1⟩ := hW; go_simp⟩) hS ?_
  try simp only [Act.put, List.setIfInBounds_toArray, List.set_cons_zero, List.set_cons_succ]
  refine Ord.wpM_take (i := 1) (v := .slice pv es.length cv) (by simp only [List.getElem?_toArray, List.getElem?_cons_zero, List.getElem?_cons_succ]; rfl) (by kernel_rfl) (by kernel_rfl) (by kernel_rfl) (by kernel_rfl) (fun _ _ _ h => h) (Or.inl ⟨by rfl, by intro W' hW; obtain ⟨q0, q1⟩ := hW; go_simp⟩) hS ?_
  try simp only [Act.put, List.setIfInBounds_toArray, List.set_cons_zero, List.set_cons_succ]
  refine Ord.wpM_take (i := 2) (v := .pointer (some ⟨b, 0, none⟩)) (by simp only [List.getElem?_toArray, List.getElem?_cons_zero, List.getElem?_cons_succ]; rfl) (by kernel_rfl) (by kernel_rfl) (by kernel_rfl) (by kernel_rfl) (fun _ _ _ h => h) (Or.inl ⟨by rfl, by intro W' hW; obtain ⟨q0, q1⟩ := hW; go_simp⟩) hS ?_
  try simp only [Act.put, List.setIfInBounds_toArray, List.set_cons_zero, List.set_cons_succ]
  clear hS
  refine Ord.wpM_one (i := 3) (by kernel_rfl) (by simp only [List.getElem?_toArray, List.getElem?_cons_zero, List.getElem?_cons_succ]; rfl) (fun K hK => ?_)
  go_simp
  refine (IH.out _ HP.out HT.out).mono ?_
  rintro r w1 ⟨p, rfl, hrd, hf⟩
  obtain ⟨s5, e5, hp5, hn5, h51, h52⟩ := hrd
  have HF1 := keep (HF.out.fs hf (by simp; exact ⟨Ne.symm hbF, Ne.symm hcF⟩))
  have HR1 := keep (HR.out.fs hf (by simp; exact ⟨hRb, hRc⟩))
  have HRow1 := keep (RowX.fs nestV_nest HRow.out hf (by simp; omega))
  have HW1 := keep (HW.out.trans ((hf.mono (m := [b, c, F]) (by simp)).fh hWs))
  have hs1 : lo ≤ w1.heap.size := Nat.le_trans hWs hf.size
  have HP5 := keep hp5
  have H52 := keep (h52 rfl)
  clear hp5 h51 h52 hf
  go_simp
  refine hK.out _ _ (fun _ => ⟨HF1.out.cell 1 rfl, HR1.out.cell 0 rfl⟩) ?_
  clear hK K HF HR HRow HW HP HT
  try simp only [Act.put, List.setIfInBounds_toArray, List.set_cons_zero, List.set_cons_succ]
  refine Ord.wpM_one (i := 4) (by kernel_rfl) (by simp only [List.getElem?_toArray, List.getElem?_cons_zero, List.getElem?_cons_succ]; rfl) (fun K hK => ?_)
  unfold vrA
  go_simp
  have HF2 := keep (HF1.out.up (.cells #[.string ⟨p.name.toArray⟩, .bool p.secret, .int .i64 p.size] 62))
  have HR2 := keep (HR1.out.up (.cells #[.string ⟨p.name.toArray⟩, .bool p.secret, .int .i64 p.size] 62))
  have HRow2 := keep (RowX.fs (l := []) nestV_nest HRow1.out ((Fs.refl [] w1).up (.cells #[.string ⟨p.name.toArray⟩, .bool p.secret, .int .i64 p.size] 62)) (by simp))
  have HZ := keep (Bk.new w1 [.string ⟨p.name.toArray⟩, .bool p.secret, .int .i64 p.size] 62)
  have HP6 := keep (HP5.out.up (.cells #[.string ⟨p.name.toArray⟩, .bool p.secret, .int .i64 p.size] 62))
  have HW2 := keep (HW1.out.trans (((Fs.refl [b, c, F] w1).up (.cells #[.string ⟨p.name.toArray⟩, .bool p.secret, .int .i64 p.size] 62)).fh hs1))
  have hs2 : lo ≤ (w1.alloc (.cells #[.string ⟨p.name.toArray⟩, .bool p.secret, .int .i64 p.size] 62)).heap.size := by simp; omega
  refine hK.out _ _ (fun _ => ⟨HF2.out.cell 1 rfl, HR2.out.cell 0 rfl⟩) ?_
  clear hK K HF1 HR1 HRow1 HW1 HP5
  generalize w1.alloc (.cells #[.string ⟨p.name.toArray⟩, .bool p.secret, .int .i64 p.size] 62) = wa at *
  obtain ⟨zb, hzb⟩ : ∃ zb, w1.heap.size = zb := ⟨_, rfl⟩
  rw [hzb] at HZ
  try rw [hzb]
  clear hzb
  try simp only [Act.put, List.setIfInBounds_toArray, List.set_cons_zero, List.set_cons_succ]
  refine Ord.wpM_one (i := 5) (by kernel_rfl) (by simp only [List.getElem?_toArray, List.getElem?_cons_zero, List.getElem?_cons_succ]; rfl) (fun K hK => ?_)
  refine step_append_lies _ rfl (.tmp 3) (.tmp 6) 23 rfl lo 62 i0 _ 3 32 Tryd.underlying23 hi0 hz0 hz1 hz2 rfl (by decide) _ _ _ rfl HRow2.out.own ⟨zb, 0, none⟩ 1 1 [.string ⟨p.name.toArray⟩, .bool p.secret, .int .i64 p.size] rfl rfl (fun j u hj => bk_add HZ.out j u hj) ?_ (by decide) ?_ ?_ hs2 wa.heap.size rfl ?_
  · intro u hu
    simp only [List.mem_cons, List.not_mem_nil, or_false] at hu
    rcases hu with rfl | rfl | rfl <;> rfl
  · unfold maxLen; omega
  · omega
  · intro g cap w2 hown2 hgrow hat hlt
    have hgl : lo ≤ g := by
      rcases hat with h | h
      · exact (HRow2.out.own.lt g h).1
      · omega
    have hblk : ∀ k, k < lo → w2.heap[k]? = wa.heap[k]? := fun k hk => hgrow.block k (by omega) (fun e => by have := (HRow2.out.own.lt _ e.symm).1; omega)
    have HF3 : Hid (Bk w2 F [u0, .slice pv es.length cv, u2] 26) := by
      have h1 := HF2.out
      unfold Bk at h1
      show Bk w2 F [u0, .slice pv es.length cv, u2] 26
      unfold Bk
      rw [hblk F hFl]; exact h1
    have HR3 : Hid (Bk w2 Rb [.pointer (some ⟨b, 0, none⟩)] 40) := by
      have h1 := HR2.out
      unfold Bk at h1
      show Bk w2 Rb [.pointer (some ⟨b, 0, none⟩)] 40
      unfold Bk
      rw [hblk Rb hRl]; exact h1
    have HRow3 := keep (RowX.push (p := p) nestV_nest HRow2.out trivial hown2 hgrow (by rcases hat with h | h; exact .inl h; exact .inr h))
    have HP7 : Hid (RB w2 b c s5 e5) := ⟨by rw [hblk b hbl]; exact HP6.out.1, by show w2.heap[c]? = _; rw [hblk c hcl]; exact HP6.out.2⟩
    have HW3 : Hid (Fh lo [b, c, F] W w2) := HW2.out.trans ⟨hgrow.os, hgrow.tape, hgrow.output, hgrow.size, fun k hk _ => hblk k hk⟩
    have hS := (⟨HF3.out.cell 1 rfl, HR3.out.cell 0 rfl⟩ : (fun W' : World => W'.cell? ⟨F, 1, none⟩ = some (.slice pv es.length cv) ∧ W'.cell? ⟨Rb, 0, none⟩ = some (.pointer (some ⟨b, 0, none⟩))) w2)
    refine hK.out _ _ (fun _ => hS) ?_
    clear hK K hown2 hgrow hat HRow2 HP6 HW2 HF2 HR2 HZ
    try simp only [Act.put, List.setIfInBounds_toArray, List.set_cons_zero, List.set_cons_succ]
    refine Ord.wpM_take (i := 6) (v := .pointer (some ⟨F, 1, none⟩)) (by simp only [List.getElem?_toArray, List.getElem?_cons_zero, List.getElem?_cons_succ]; rfl) (by kernel_rfl) (by kernel_rfl) (by kernel_rfl) (by kernel_rfl) (fun _ _ _ h => h) (Or.inl ⟨by rfl, by intro W' hW; obtain ⟨q0, q1⟩ := hW; go_simp⟩) hS ?_
    try simp only [Act.put, List.setIfInBounds_toArray, List.set_cons_zero, List.set_cons_succ]
    clear hS
    refine Ord.wpM_one (i := 7) (by kernel_rfl) (by simp only [List.getElem?_toArray, List.getElem?_cons_zero, List.getElem?_cons_succ]; rfl) (fun K hK => ?_)
    have cF := HF3.out.cell 1 rfl
    have fF := HF3.out.fr 1
    go_simp
    refine hK.out _ _ (fun h => absurd h (by decide)) ?_
    clear hK K cF fF
    try simp only [Act.put, List.setIfInBounds_toArray, List.set_cons_zero, List.set_cons_succ]
    refine Ord.wpM_done (by kernel_rfl) ?_ _
    refine NoPanic.normal ?_
    go_wp2
    go_end0
    refine ⟨rfl, p, .slice (some ⟨g, 0, none⟩) (es.length + 1) cap, HF3.out.set 1 _, RowX.stay nestV_nest HRow3.out (by simp [World.setCell]) (fun k hk _ => Below.heap_setCell _ _ _ _ (by show k ≠ F; omega)), ⟨s5, e5, HP7.out.set hbF hcF 1 _, hn5, fun h => absurd rfl h, fun _ => H52.out⟩, ?_⟩
    exact HW3.out.trans ⟨rfl, rfl, rfl, by simp [World.setCell], fun k hk hl => Below.heap_setCell _ _ _ _ (by simp at hl; show k ≠ F; exact hl.2.2)⟩
end Go.Proofs.YtkobiojndamofaaDoor.Lr
