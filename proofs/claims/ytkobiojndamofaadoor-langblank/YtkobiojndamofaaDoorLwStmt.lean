/- The program's own reader: a statement, however deep. Written by tools/gen_stmt.py. -/
import Derived.Test.YtkobiojndamofaaDoorLwSt
namespace Go.Proofs.YtkobiojndamofaaDoor.Lr
set_option linter.unusedVariables false
set_option linter.unusedSimpArgs false
open Go.ChangeShapes Go.WideShapes Go.ChangeAt Go.RowKit Lg

theorem sts_cell (l : List (List UInt8)) {w : World} {z : Nat} (h : Bk w z (l.map fun l => Value.string ⟨l.toArray⟩) 9) : ∀ j, j < (bys l).length → w.cell? ⟨z, 0 + j, none⟩ = some (.string ((bys l).getD j ByteArray.empty)) := by
  intro j hj
  have hj' : j < l.length := by simpa [bys] using hj
  rw [Nat.zero_add]
  refine h.cell j ?_
  unfold bys
  rw [List.getD_eq_getElem?_getD, List.getElem?_map, List.getElem?_map, List.getElem?_eq_getElem hj']
  rfl

set_option maxHeartbeats 8000000 in
set_option maxRecDepth 100000 in
theorem stmt_k1 (m : Nat) (hm : m ≤ 8) (ihE : ExprOK m) (ihS : StmtOK m) (b c : Nat) (s : ByteArray) (e : Int) (w : World) (hs : s.size < 1201) (h : RB w b c s e) (ht : Tabs w) (hg : GL b ∧ GL c) (hk : kindOf (wdE e s.data.toList) = 1) :
    Calls Tryd.prog 63 #[.pointer (some ⟨b, 0, none⟩), .int .i64 (8 - (m : Int))] w fun r w' => ∃ p : St × Value × Value × Value, r = .returned (.agg (stA p.1 p.2.1 p.2.2.1 p.2.2.2)) ∧ nestS (m + 2) w' (New w w') p ∧ Rd w' b c s.size e (stmtG 1201 (m + 1) (words s.data.toList)) (fun a => a = p.1) ∧ Fs [b, c] w w' := by
  have hbl := h.lt
  have hcl := h.ltc
  have HTf : Hid (∀ W, Fs [b, c] w W → Tabs W) := fun W hW => tabs_fs ht hg hW hbl hcl
  have HG := keep hg
  have HX1 : Hid (∀ (n : Nat) (k0 n0 : Int) (nm : List UInt8) (sc : Bool) (s : ByteArray) (e : Int) (W : World), n ≤ 3 → s.size < 4294967281 → RB W b c s e → SS w W b c (8 - (m : Int)) (m + 2) (⟨k0, n0, nm, sc, [], [], []⟩, .slice none 0 0, .slice none 0 0, .slice none 0 0) →
      Calls Tryd.prog 78 #[.int .i64 (n : Int), .pointer (some ⟨w.heap.size, 0, none⟩), .pointer (some ⟨w.heap.size + 1, 0, none⟩), .pointer (some ⟨w.heap.size + 1 + 1 + 1, 0, none⟩)] W fun r w' => r = .returned (.tuple #[]) ∧ ∃ (us : List Ex) (sl : Value),
        SS w w' b c (8 - (m : Int)) (m + 2) (⟨k0, n0, nm, sc, us, [], []⟩, sl, .slice none 0 0, .slice none 0 0) ∧ Rd w' b c s.size e (manyT (exprT m) n (words s.data.toList)) (fun a => a = us)) :=
    fun n k0 n0 nm sc s e W hn hs hp hS => stmt1_rd m hm ihE b c n hn _ k0 n0 nm sc w W hbl hcl s e hs hp (HTf.out _ hS.fs) hg hS
  have HBk : Hid (∀ (s : ByteArray) (e : Int) (W : World), s.size < 1201 → RB W b c s e → Tabs W → Calls Tryd.prog 30 #[.pointer (some ⟨b, 0, none⟩), .int .i64 (9 - (m : Int))] W fun r w' => ∃ (us : List St) (sl : Value), r = .returned sl ∧ StX w' (New W w') (m + 2) us sl ∧ Rd w' b c s.size e (uptoG (stmtG 1201 m) 1201 (words s.data.toList)) (fun a => a = us) ∧ Fs [b, c] W w') :=
    fun s e W hs hp hT => block_rd m ihS b c s e W hs hp hT hg
  have hd : decide (8 < 8 - (m : Int)) = false := decide_eq_false (by omega)
  have hif : (if 8 < 8 - (m : Int) then first e 9 else e) = e := if_neg (by omega)
  have HC := keep (deep_any b c s e (8 - (m : Int)) (stmtW w b (8 - (m : Int))) ((((h.up _).up _).up _).up _))
  rw [hd, hif] at HC
  have HSW := keep (stmtW_ss w b c (m + 1) (8 - (m : Int)))
  have hw8 := wrap_up m (by omega)
  have HFd : Hid (∀ v, Tabs v → Calls Tryd.prog 20 #[.string ⟨#[108, 101, 116, 32, 115, 101, 116, 32, 112, 117, 116, 32, 105, 102, 32, 102, 111, 114, 32, 114, 101, 116]⟩] v fun e w' => e = .returned (.slice (some ⟨v.heap.size, 0, none⟩) 6 6) ∧ w' = v.alloc (.cells (listA sts) 9)) :=
    fun v hv => fields_any stsB sts fields_sts (by decide) (by decide) v hv
  have HWl := keep (fun w1 (hp : RB w1 b c s e) => word_rd b c s (by omega) e w1 hp)
  clear h ht hg ihE ihS hif hd
  generalize 9 - (m : Int) = a9 at *
  generalize 8 - (m : Int) = a8 at *
  generalize wdE e s.data.toList = W at *
  have HIx : Hid (∀ (v : World) (z : Nat), Bk v z (sts.map fun l => Value.string ⟨l.toArray⟩) 9 → Calls Tryd.prog 48 #[.slice (some ⟨z, 0, none⟩) 6 6, .string ⟨W.toArray⟩] v fun e w' => e = .returned (.int .i64 (0)) ∧ w' = v) := fun v z hz => by
    have := Tryd.slices_Index_string z 0 6 6 (bys sts) ⟨W.toArray⟩ v (by decide) (by decide) (sts_cell sts hz)
    rw [idx_sts, hk] at this
    exact this
  have HK := keep hk
  clear hk
  go_enter Tryd.func63, Tryd.ntmps63
  go_wp2_with fail
  change Calls _ _ _ (stmtW w b a8) _
  refine HC.out.mono ?_
  rintro r w1 ⟨rfl, hp, hf⟩
  have hs1 := HSW.out.step hbl hcl hf
  have HPd : Hid (RB w1.drew b c s e) := hp
  have HSd : Hid (SS w w1.drew b c a8 (m + 2) (⟨0, 0, [], false, [], [], []⟩, .slice none 0 0, .slice none 0 0, .slice none 0 0)) := hs1.step hbl hcl ⟨rfl, rfl, rfl, Nat.le_refl _, fun _ _ _ => rfl⟩
  have HTd := keep (HTf.out _ HSd.out.fs)
  clear hp hf hs1 HC HSW
  go_wp2_with fail
  refine wp_region_noPanic ?_
  refine Ord.wpM_begin (fun W' : World => W'.cell? ⟨w.heap.size, 0, none⟩ = some (.pointer (some ⟨b, 0, none⟩))) [0, 3, 4] (by kernel_rfl) ?_
  generalize w1.drew = Wd at *
  have hS := HSd.out.R.cell 0 rfl
  refine Ord.wpM_take (i := 1) (v := .pointer (some ⟨b, 0, none⟩)) (by simp only [List.getElem?_toArray, List.getElem?_cons_zero, List.getElem?_cons_succ]; rfl) (by kernel_rfl) (by kernel_rfl) (by kernel_rfl) (by kernel_rfl) (fun _ _ _ h => h) (Or.inl ⟨by rfl, by intro W' hW; go_simp⟩) hS ?_
  try simp only [Act.put, List.setIfInBounds_toArray, List.set_cons_zero, List.set_cons_succ]
  clear hS
  refine Ord.wpM_one (i := 0) (by kernel_rfl) (by simp only [List.getElem?_toArray, List.getElem?_cons_zero, List.getElem?_cons_succ]; rfl) (fun K hK => ?_)
  go_simp
  refine (HFd.out _ HTd.out).mono ?_
  rintro r w2 ⟨rfl, hw2⟩
  have hb2 : Below Wd.heap.size Wd w2 := by rw [hw2]; exact (Below.refl Wd.heap.size Wd).alloc (Nat.le_refl _) _
  have HS2 := keep (HSd.out.step hbl hcl (Fs.of_below hb2))
  have HP2 := keep (HPd.out.below hb2)
  have HZ2 : Hid (Bk w2 Wd.heap.size (sts.map fun l => Value.string ⟨l.toArray⟩) 9) := by
    rw [hw2]; exact Bk.new Wd (sts.map fun l => Value.string ⟨l.toArray⟩) 9
  have hzl : w.heap.size < Wd.heap.size := HSd.out.R.lt
  clear hw2 hb2 HFd HTd HPd HSd
  obtain ⟨zb, hzb⟩ : ∃ zb, Wd.heap.size = zb := ⟨_, rfl⟩
  rw [hzb] at HZ2 hzl
  go_simp
  refine hK.out _ _ (fun _ => HS2.out.R.cell 0 rfl) ?_
  clear hK K hzb
  try simp only [Act.put, List.setIfInBounds_toArray, List.set_cons_zero, List.set_cons_succ]
  refine Ord.wpM_one (i := 2) (by kernel_rfl) (by simp only [List.getElem?_toArray, List.getElem?_cons_zero, List.getElem?_cons_succ]; rfl) (fun K hK => ?_)
  go_simp
  refine (HWl.out w2 HP2.out).mono ?_
  rintro r w3 ⟨rfl, hrd, hf⟩
  obtain ⟨s3, e3, hp, hn3, h1, h2⟩ := hrd
  have HSc := keep (HS2.out.step hbl hcl hf)
  have HPc := keep hp
  have HA3 := keep h1
  have HB3 := keep h2
  have HZ3 := keep (HZ2.out.fs hf (by simp; omega))
  clear hp hf h1 h2 HS2 HP2 HZ2 HWl
  go_simp
  refine hK.out _ _ (fun h => absurd h (by decide)) ?_
  clear hK K
  try simp only [Act.put, List.setIfInBounds_toArray, List.set_cons_zero, List.set_cons_succ]
  refine Ord.wpM_one (i := 3) (by kernel_rfl) (by simp only [List.getElem?_toArray, List.getElem?_cons_zero, List.getElem?_cons_succ]; rfl) (fun K hK => ?_)
  go_simp
  refine (HIx.out w3 zb HZ3.out).mono ?_
  rintro r w4 ⟨rfl, hw4⟩
  rw [hw4]
  clear hw4 w4
  go_simp
  have hwr : IntKind.i64.wrap 1 = 1 := by decide
  have hS := HSc.out.R.cell 0 rfl
  refine hK.out _ _ (fun _ => hS) ?_
  clear hK K HIx HZ3
  try simp only [Act.put, List.setIfInBounds_toArray, List.set_cons_zero, List.set_cons_succ]
  refine Ord.wpM_take (i := 4) (v := .int .i64 1) (by simp only [List.getElem?_toArray, List.getElem?_cons_zero, List.getElem?_cons_succ]; rfl) (by kernel_rfl) (by kernel_rfl) (by kernel_rfl) (by kernel_rfl) (fun _ _ _ h => h) (Or.inl ⟨by rfl, by intro W' hW; go_simp⟩) hS ?_
  try simp only [Act.put, List.setIfInBounds_toArray, List.set_cons_zero, List.set_cons_succ]
  refine Ord.wpM_take (i := 5) (v := .pointer (some ⟨w.heap.size + 1 + 1 + 1, 0, none⟩)) (by simp only [List.getElem?_toArray, List.getElem?_cons_zero, List.getElem?_cons_succ]; rfl) (by kernel_rfl) (by kernel_rfl) (by kernel_rfl) (by kernel_rfl) (fun _ _ _ h => h) (Or.inl ⟨by rfl, by intro W' hW; go_simp⟩) hS ?_
  try simp only [Act.put, List.setIfInBounds_toArray, List.set_cons_zero, List.set_cons_succ]
  clear hS
  refine Ord.wpM_one (i := 6) (by kernel_rfl) (by simp only [List.getElem?_toArray, List.getElem?_cons_zero, List.getElem?_cons_succ]; rfl) (fun K hK => ?_)
  have cE := HSc.out.E.cell 0 rfl
  have fE := HSc.out.E.fr 0
  go_simp
  refine hK.out _ _ (fun h => absurd h (by decide)) ?_
  clear hK K cE fE
  try simp only [Act.put, List.setIfInBounds_toArray, List.set_cons_zero, List.set_cons_succ]
  refine Ord.wpM_done (by kernel_rfl) ?_ _
  refine NoPanic.normal ?_
  have HS3 := keep (HSc.out.set 0 (.int .i64 1) ((⟨1, 0, [], false, [], [], []⟩, .slice none 0 0, .slice none 0 0, .slice none 0 0) : St × Value × Value × Value) rfl ⟨HSc.out.nest.1, HSc.out.nest.2.1, HSc.out.nest.2.2⟩)
  have HP3 := keep (HPc.out.set (k := w.heap.size + 1 + 1 + 1) (by omega) (by omega) 0 (.int .i64 1))
  obtain ⟨v3, hv3⟩ : ∃ v3, w3.setCell ⟨w.heap.size + 1 + 1 + 1, 0, none⟩ (.int .i64 1) = v3 := ⟨_, rfl⟩
  rw [hv3] at HS3 HP3
  try rw [hv3]
  have r3 := HS3.out.R.cell 0 rfl
  have a3 := HS3.out.A.cell 0 rfl
  have k3 := HS3.out.E.cell 0 rfl
  clear hv3 HSc HPc
  go_wp2_with fail
  clear k3
  refine (label_rd b c s3 (by omega) e3 v3 HP3.out).mono ?_
  rintro r w4 ⟨x4, rfl, hrd, hf⟩
  obtain ⟨s4, e4, hp, hn4, h1, h2⟩ := hrd
  have HSa4 := keep (HS3.out.step hbl hcl hf)
  have HS4 := keep (HSa4.out.set 3 (.bool x4) ((⟨1, 0, [], x4, [], [], []⟩, .slice none 0 0, .slice none 0 0, .slice none 0 0) : St × Value × Value × Value) rfl ⟨HSa4.out.nest.1, HSa4.out.nest.2.1, HSa4.out.nest.2.2⟩)
  have HP4 := keep (hp.set (k := w.heap.size + 1 + 1 + 1) (by omega) (by omega) 3 (.bool x4))
  have HA4 := keep h1
  have HB4 := keep h2
  have cE := HSa4.out.E.cell 3 rfl
  have fE := HSa4.out.E.fr 3
  obtain ⟨v4, hv4⟩ : ∃ v4, w4.setCell ⟨w.heap.size + 1 + 1 + 1, 3, none⟩ (.bool x4) = v4 := ⟨_, rfl⟩
  rw [hv4] at HS4 HP4
  have r4 := HS4.out.R.cell 0 rfl
  have a4 := HS4.out.A.cell 0 rfl
  clear hp hf h1 h2 HS3 HP3
  go_wp2_with fail
  clear hv4 cE fE HSa4
  refine (name_rd b c s4 (by omega) e4 v4 HP4.out (HTf.out _ HS4.out.fs) HG.out).mono ?_
  rintro r w5 ⟨x5, rfl, hrd, hf⟩
  obtain ⟨s5, e5, hp, hn5, h1, h2⟩ := hrd
  have HSa5 := keep (HS4.out.step hbl hcl hf)
  have HS5 := keep (HSa5.out.set 2 (.string ⟨x5.toArray⟩) ((⟨1, 0, x5, x4, [], [], []⟩, .slice none 0 0, .slice none 0 0, .slice none 0 0) : St × Value × Value × Value) rfl ⟨HSa5.out.nest.1, HSa5.out.nest.2.1, HSa5.out.nest.2.2⟩)
  have HP5 := keep (hp.set (k := w.heap.size + 1 + 1 + 1) (by omega) (by omega) 2 (.string ⟨x5.toArray⟩))
  have HA5 := keep h1
  have HB5 := keep h2
  have cE := HSa5.out.E.cell 2 rfl
  have fE := HSa5.out.E.fr 2
  obtain ⟨v5, hv5⟩ : ∃ v5, w5.setCell ⟨w.heap.size + 1 + 1 + 1, 2, none⟩ (.string ⟨x5.toArray⟩) = v5 := ⟨_, rfl⟩
  rw [hv5] at HS5 HP5
  have r5 := HS5.out.R.cell 0 rfl
  have a5 := HS5.out.A.cell 0 rfl
  clear hp hf h1 h2 HS4 HP4
  go_wp2_with fail
  clear hv5 cE fE HSa5
  refine (HX1.out 1 1 0 x5 x4 s5 e5 v5 (by decide) (by omega) HP5.out HS5.out).mono ?_
  rintro r w6 ⟨rfl, us6, sl, hS, hrd⟩
  obtain ⟨p6, q6, c6, hsl⟩ := hS.nest.1.slice
  simp only at hsl
  subst hsl
  obtain ⟨s6, e6, hp, hn6, h1, h2⟩ := hrd
  have HS6 := keep hS
  have HP6 := keep hp
  have HA6 := keep h1
  have HB6 := keep h2
  have r6 := HS6.out.R.cell 0 rfl
  have a6 := HS6.out.A.cell 0 rfl
  clear hp hS h1 h2 HS5 HP5 HX1
  go_wp2_with fail
  refine (must_rd b c s6 (by omega) e6 ⟨#[41]⟩ w6 HP6.out).mono ?_
  rintro r w7 ⟨rfl, hrd, hf⟩
  obtain ⟨s7, e7, hp, hn7, h1, h2⟩ := hrd
  have HS7 := keep (HS6.out.step hbl hcl hf)
  have HP7 := keep hp
  have HA7 := keep h1
  have HB7 := keep h2
  have r7 := HS7.out.R.cell 0 rfl
  have a7 := HS7.out.A.cell 0 rfl
  clear hp hf h1 h2 HS6 HP6
  have HEf := keep HS7.out.E
  have HDf := keep HS7.out.D
  have hltf := HS7.out.E.lt
  go_wp2_with (first
    | refine wpList_load_row rfl 36 (.tmp 5) rfl (w.heap.size + 1 + 1 + 1) rfl 36 #[.int .i64 1, .int .i64 0, .string ⟨x5.toArray⟩, .bool x4, .slice p6 q6 c6, .slice none 0 0, .slice none 0 0] (0, 0) _ HEf.out Tryd.underlying36 rfl (info_S [.int .i64 1, .int .i64 0, .string ⟨x5.toArray⟩, .bool x4, .slice p6 q6 c6, .slice none 0 0, .slice none 0 0] rfl) ?_
    | refine wpList_store_row rfl 36 (.tmp 4) (.tmp 84) rfl (w.heap.size + 1 + 1) #[.int .i64 1, .int .i64 0, .string ⟨x5.toArray⟩, .bool x4, .slice p6 q6 c6, .slice none 0 0, .slice none 0 0] rfl rfl 36 #[.int .i64 0, .int .i64 0, .string ⟨#[]⟩, .bool false, .slice none 0 0, .slice none 0 0, .slice none 0 0] HDf.out (info_S [.int .i64 1, .int .i64 0, .string ⟨x5.toArray⟩, .bool x4, .slice p6 q6 c6, .slice none 0 0, .slice none 0 0] rfl) rfl (by simp [Value.oneCell']) ?_)
  (try simp only [Exit.inBlock, Exit.then])
  refine bodyPost_ret (results_cell_row rfl _ _ (w.heap.size + 1 + 1) _ #[.int .i64 1, .int .i64 0, .string ⟨x5.toArray⟩, .bool x4, .slice p6 q6 c6, .slice none 0 0, .slice none 0 0] (0, 0) _ rfl (setRow_heap _ _ _ _ _ _ HDf.out) Tryd.underlying36 rfl (info_S [.int .i64 1, .int .i64 0, .string ⟨x5.toArray⟩, .bool x4, .slice p6 q6 c6, .slice none 0 0, .slice none 0 0] rfl)) rfl ?_
  have hp9 := HP7.out.row (D := w.heap.size + 1 + 1) (by omega) (by omega) #[.int .i64 1, .int .i64 0, .string ⟨x5.toArray⟩, .bool x4, .slice p6 q6 c6, .slice none 0 0, .slice none 0 0]
  refine ⟨((⟨1, 0, x5, x4, us6, [], []⟩, .slice p6 q6 c6, .slice none 0 0, .slice none 0 0) : St × Value × Value × Value), rfl, ?_, ?_, HS7.out.fs.row (by omega) _⟩
  · exact (nestS_nest _).mono _ (Yb w w7) _ _ ((nestS_nest _).keep _ _ _ _ HS7.out.nest (fun i hi => setRow_other _ _ _ _ (by have := hi.1; omega))) (fun i hi => ⟨by have := hi.1; omega, by have := hi.2; simp; omega⟩)
  · rw [stmtG]
    refine rd_then (x := W) (n1 := s.size) HA3.out HB3.out ?_ (Nat.le_refl _)
    rw [if_pos HK.out]
    refine rd_then (x := x4) (n1 := s.size) HA4.out HB4.out ?_ (Nat.le_refl _)
    refine rd_then (x := x5) (n1 := s.size) HA5.out HB5.out ?_ (Nat.le_refl _)
    refine rd_then (x := us6) (n1 := s.size) HA6.out HB6.out ?_ (Nat.le_refl _)
    refine rd_go (n1 := s.size) HA7.out HB7.out ?_ (Nat.le_refl _)
    exact rd_ok hp9 (by omega) rfl

set_option maxHeartbeats 8000000 in
set_option maxRecDepth 100000 in
theorem stmt_k2 (m : Nat) (hm : m ≤ 8) (ihE : ExprOK m) (ihS : StmtOK m) (b c : Nat) (s : ByteArray) (e : Int) (w : World) (hs : s.size < 1201) (h : RB w b c s e) (ht : Tabs w) (hg : GL b ∧ GL c) (hk : kindOf (wdE e s.data.toList) = 2) :
    Calls Tryd.prog 63 #[.pointer (some ⟨b, 0, none⟩), .int .i64 (8 - (m : Int))] w fun r w' => ∃ p : St × Value × Value × Value, r = .returned (.agg (stA p.1 p.2.1 p.2.2.1 p.2.2.2)) ∧ nestS (m + 2) w' (New w w') p ∧ Rd w' b c s.size e (stmtG 1201 (m + 1) (words s.data.toList)) (fun a => a = p.1) ∧ Fs [b, c] w w' := by
  have hbl := h.lt
  have hcl := h.ltc
  have HTf : Hid (∀ W, Fs [b, c] w W → Tabs W) := fun W hW => tabs_fs ht hg hW hbl hcl
  have HG := keep hg
  have HX1 : Hid (∀ (n : Nat) (k0 n0 : Int) (nm : List UInt8) (sc : Bool) (s : ByteArray) (e : Int) (W : World), n ≤ 3 → s.size < 4294967281 → RB W b c s e → SS w W b c (8 - (m : Int)) (m + 2) (⟨k0, n0, nm, sc, [], [], []⟩, .slice none 0 0, .slice none 0 0, .slice none 0 0) →
      Calls Tryd.prog 78 #[.int .i64 (n : Int), .pointer (some ⟨w.heap.size, 0, none⟩), .pointer (some ⟨w.heap.size + 1, 0, none⟩), .pointer (some ⟨w.heap.size + 1 + 1 + 1, 0, none⟩)] W fun r w' => r = .returned (.tuple #[]) ∧ ∃ (us : List Ex) (sl : Value),
        SS w w' b c (8 - (m : Int)) (m + 2) (⟨k0, n0, nm, sc, us, [], []⟩, sl, .slice none 0 0, .slice none 0 0) ∧ Rd w' b c s.size e (manyT (exprT m) n (words s.data.toList)) (fun a => a = us)) :=
    fun n k0 n0 nm sc s e W hn hs hp hS => stmt1_rd m hm ihE b c n hn _ k0 n0 nm sc w W hbl hcl s e hs hp (HTf.out _ hS.fs) hg hS
  have HBk : Hid (∀ (s : ByteArray) (e : Int) (W : World), s.size < 1201 → RB W b c s e → Tabs W → Calls Tryd.prog 30 #[.pointer (some ⟨b, 0, none⟩), .int .i64 (9 - (m : Int))] W fun r w' => ∃ (us : List St) (sl : Value), r = .returned sl ∧ StX w' (New W w') (m + 2) us sl ∧ Rd w' b c s.size e (uptoG (stmtG 1201 m) 1201 (words s.data.toList)) (fun a => a = us) ∧ Fs [b, c] W w') :=
    fun s e W hs hp hT => block_rd m ihS b c s e W hs hp hT hg
  have hd : decide (8 < 8 - (m : Int)) = false := decide_eq_false (by omega)
  have hif : (if 8 < 8 - (m : Int) then first e 9 else e) = e := if_neg (by omega)
  have HC := keep (deep_any b c s e (8 - (m : Int)) (stmtW w b (8 - (m : Int))) ((((h.up _).up _).up _).up _))
  rw [hd, hif] at HC
  have HSW := keep (stmtW_ss w b c (m + 1) (8 - (m : Int)))
  have hw8 := wrap_up m (by omega)
  have HFd : Hid (∀ v, Tabs v → Calls Tryd.prog 20 #[.string ⟨#[108, 101, 116, 32, 115, 101, 116, 32, 112, 117, 116, 32, 105, 102, 32, 102, 111, 114, 32, 114, 101, 116]⟩] v fun e w' => e = .returned (.slice (some ⟨v.heap.size, 0, none⟩) 6 6) ∧ w' = v.alloc (.cells (listA sts) 9)) :=
    fun v hv => fields_any stsB sts fields_sts (by decide) (by decide) v hv
  have HWl := keep (fun w1 (hp : RB w1 b c s e) => word_rd b c s (by omega) e w1 hp)
  clear h ht hg ihE ihS hif hd
  generalize 9 - (m : Int) = a9 at *
  generalize 8 - (m : Int) = a8 at *
  generalize wdE e s.data.toList = W at *
  have HIx : Hid (∀ (v : World) (z : Nat), Bk v z (sts.map fun l => Value.string ⟨l.toArray⟩) 9 → Calls Tryd.prog 48 #[.slice (some ⟨z, 0, none⟩) 6 6, .string ⟨W.toArray⟩] v fun e w' => e = .returned (.int .i64 (1)) ∧ w' = v) := fun v z hz => by
    have := Tryd.slices_Index_string z 0 6 6 (bys sts) ⟨W.toArray⟩ v (by decide) (by decide) (sts_cell sts hz)
    rw [idx_sts, hk] at this
    exact this
  have HK := keep hk
  clear hk
  go_enter Tryd.func63, Tryd.ntmps63
  go_wp2_with fail
  change Calls _ _ _ (stmtW w b a8) _
  refine HC.out.mono ?_
  rintro r w1 ⟨rfl, hp, hf⟩
  have hs1 := HSW.out.step hbl hcl hf
  have HPd : Hid (RB w1.drew b c s e) := hp
  have HSd : Hid (SS w w1.drew b c a8 (m + 2) (⟨0, 0, [], false, [], [], []⟩, .slice none 0 0, .slice none 0 0, .slice none 0 0)) := hs1.step hbl hcl ⟨rfl, rfl, rfl, Nat.le_refl _, fun _ _ _ => rfl⟩
  have HTd := keep (HTf.out _ HSd.out.fs)
  clear hp hf hs1 HC HSW
  go_wp2_with fail
  refine wp_region_noPanic ?_
  refine Ord.wpM_begin (fun W' : World => W'.cell? ⟨w.heap.size, 0, none⟩ = some (.pointer (some ⟨b, 0, none⟩))) [0, 3, 4] (by kernel_rfl) ?_
  generalize w1.drew = Wd at *
  have hS := HSd.out.R.cell 0 rfl
  refine Ord.wpM_take (i := 1) (v := .pointer (some ⟨b, 0, none⟩)) (by simp only [List.getElem?_toArray, List.getElem?_cons_zero, List.getElem?_cons_succ]; rfl) (by kernel_rfl) (by kernel_rfl) (by kernel_rfl) (by kernel_rfl) (fun _ _ _ h => h) (Or.inl ⟨by rfl, by intro W' hW; go_simp⟩) hS ?_
  try simp only [Act.put, List.setIfInBounds_toArray, List.set_cons_zero, List.set_cons_succ]
  clear hS
  refine Ord.wpM_one (i := 0) (by kernel_rfl) (by simp only [List.getElem?_toArray, List.getElem?_cons_zero, List.getElem?_cons_succ]; rfl) (fun K hK => ?_)
  go_simp
  refine (HFd.out _ HTd.out).mono ?_
  rintro r w2 ⟨rfl, hw2⟩
  have hb2 : Below Wd.heap.size Wd w2 := by rw [hw2]; exact (Below.refl Wd.heap.size Wd).alloc (Nat.le_refl _) _
  have HS2 := keep (HSd.out.step hbl hcl (Fs.of_below hb2))
  have HP2 := keep (HPd.out.below hb2)
  have HZ2 : Hid (Bk w2 Wd.heap.size (sts.map fun l => Value.string ⟨l.toArray⟩) 9) := by
    rw [hw2]; exact Bk.new Wd (sts.map fun l => Value.string ⟨l.toArray⟩) 9
  have hzl : w.heap.size < Wd.heap.size := HSd.out.R.lt
  clear hw2 hb2 HFd HTd HPd HSd
  obtain ⟨zb, hzb⟩ : ∃ zb, Wd.heap.size = zb := ⟨_, rfl⟩
  rw [hzb] at HZ2 hzl
  go_simp
  refine hK.out _ _ (fun _ => HS2.out.R.cell 0 rfl) ?_
  clear hK K hzb
  try simp only [Act.put, List.setIfInBounds_toArray, List.set_cons_zero, List.set_cons_succ]
  refine Ord.wpM_one (i := 2) (by kernel_rfl) (by simp only [List.getElem?_toArray, List.getElem?_cons_zero, List.getElem?_cons_succ]; rfl) (fun K hK => ?_)
  go_simp
  refine (HWl.out w2 HP2.out).mono ?_
  rintro r w3 ⟨rfl, hrd, hf⟩
  obtain ⟨s3, e3, hp, hn3, h1, h2⟩ := hrd
  have HSc := keep (HS2.out.step hbl hcl hf)
  have HPc := keep hp
  have HA3 := keep h1
  have HB3 := keep h2
  have HZ3 := keep (HZ2.out.fs hf (by simp; omega))
  clear hp hf h1 h2 HS2 HP2 HZ2 HWl
  go_simp
  refine hK.out _ _ (fun h => absurd h (by decide)) ?_
  clear hK K
  try simp only [Act.put, List.setIfInBounds_toArray, List.set_cons_zero, List.set_cons_succ]
  refine Ord.wpM_one (i := 3) (by kernel_rfl) (by simp only [List.getElem?_toArray, List.getElem?_cons_zero, List.getElem?_cons_succ]; rfl) (fun K hK => ?_)
  go_simp
  refine (HIx.out w3 zb HZ3.out).mono ?_
  rintro r w4 ⟨rfl, hw4⟩
  rw [hw4]
  clear hw4 w4
  go_simp
  have hwr : IntKind.i64.wrap 2 = 2 := by decide
  have hS := HSc.out.R.cell 0 rfl
  refine hK.out _ _ (fun _ => hS) ?_
  clear hK K HIx HZ3
  try simp only [Act.put, List.setIfInBounds_toArray, List.set_cons_zero, List.set_cons_succ]
  refine Ord.wpM_take (i := 4) (v := .int .i64 2) (by simp only [List.getElem?_toArray, List.getElem?_cons_zero, List.getElem?_cons_succ]; rfl) (by kernel_rfl) (by kernel_rfl) (by kernel_rfl) (by kernel_rfl) (fun _ _ _ h => h) (Or.inl ⟨by rfl, by intro W' hW; go_simp⟩) hS ?_
  try simp only [Act.put, List.setIfInBounds_toArray, List.set_cons_zero, List.set_cons_succ]
  refine Ord.wpM_take (i := 5) (v := .pointer (some ⟨w.heap.size + 1 + 1 + 1, 0, none⟩)) (by simp only [List.getElem?_toArray, List.getElem?_cons_zero, List.getElem?_cons_succ]; rfl) (by kernel_rfl) (by kernel_rfl) (by kernel_rfl) (by kernel_rfl) (fun _ _ _ h => h) (Or.inl ⟨by rfl, by intro W' hW; go_simp⟩) hS ?_
  try simp only [Act.put, List.setIfInBounds_toArray, List.set_cons_zero, List.set_cons_succ]
  clear hS
  refine Ord.wpM_one (i := 6) (by kernel_rfl) (by simp only [List.getElem?_toArray, List.getElem?_cons_zero, List.getElem?_cons_succ]; rfl) (fun K hK => ?_)
  have cE := HSc.out.E.cell 0 rfl
  have fE := HSc.out.E.fr 0
  go_simp
  refine hK.out _ _ (fun h => absurd h (by decide)) ?_
  clear hK K cE fE
  try simp only [Act.put, List.setIfInBounds_toArray, List.set_cons_zero, List.set_cons_succ]
  refine Ord.wpM_done (by kernel_rfl) ?_ _
  refine NoPanic.normal ?_
  have HS3 := keep (HSc.out.set 0 (.int .i64 2) ((⟨2, 0, [], false, [], [], []⟩, .slice none 0 0, .slice none 0 0, .slice none 0 0) : St × Value × Value × Value) rfl ⟨HSc.out.nest.1, HSc.out.nest.2.1, HSc.out.nest.2.2⟩)
  have HP3 := keep (HPc.out.set (k := w.heap.size + 1 + 1 + 1) (by omega) (by omega) 0 (.int .i64 2))
  obtain ⟨v3, hv3⟩ : ∃ v3, w3.setCell ⟨w.heap.size + 1 + 1 + 1, 0, none⟩ (.int .i64 2) = v3 := ⟨_, rfl⟩
  rw [hv3] at HS3 HP3
  try rw [hv3]
  have r3 := HS3.out.R.cell 0 rfl
  have a3 := HS3.out.A.cell 0 rfl
  have k3 := HS3.out.E.cell 0 rfl
  clear hv3 HSc HPc
  go_wp2_with fail
  clear k3
  refine (name_rd b c s3 (by omega) e3 v3 HP3.out (HTf.out _ HS3.out.fs) HG.out).mono ?_
  rintro r w4 ⟨x4, rfl, hrd, hf⟩
  obtain ⟨s4, e4, hp, hn4, h1, h2⟩ := hrd
  have HSa4 := keep (HS3.out.step hbl hcl hf)
  have HS4 := keep (HSa4.out.set 2 (.string ⟨x4.toArray⟩) ((⟨2, 0, x4, false, [], [], []⟩, .slice none 0 0, .slice none 0 0, .slice none 0 0) : St × Value × Value × Value) rfl ⟨HSa4.out.nest.1, HSa4.out.nest.2.1, HSa4.out.nest.2.2⟩)
  have HP4 := keep (hp.set (k := w.heap.size + 1 + 1 + 1) (by omega) (by omega) 2 (.string ⟨x4.toArray⟩))
  have HA4 := keep h1
  have HB4 := keep h2
  have cE := HSa4.out.E.cell 2 rfl
  have fE := HSa4.out.E.fr 2
  obtain ⟨v4, hv4⟩ : ∃ v4, w4.setCell ⟨w.heap.size + 1 + 1 + 1, 2, none⟩ (.string ⟨x4.toArray⟩) = v4 := ⟨_, rfl⟩
  rw [hv4] at HS4 HP4
  have r4 := HS4.out.R.cell 0 rfl
  have a4 := HS4.out.A.cell 0 rfl
  clear hp hf h1 h2 HS3 HP3
  go_wp2_with fail
  clear hv4 cE fE HSa4
  refine (HX1.out 1 2 0 x4 false s4 e4 v4 (by decide) (by omega) HP4.out HS4.out).mono ?_
  rintro r w5 ⟨rfl, us5, sl, hS, hrd⟩
  obtain ⟨p5, q5, c5, hsl⟩ := hS.nest.1.slice
  simp only at hsl
  subst hsl
  obtain ⟨s5, e5, hp, hn5, h1, h2⟩ := hrd
  have HS5 := keep hS
  have HP5 := keep hp
  have HA5 := keep h1
  have HB5 := keep h2
  have r5 := HS5.out.R.cell 0 rfl
  have a5 := HS5.out.A.cell 0 rfl
  clear hp hS h1 h2 HS4 HP4 HX1
  go_wp2_with fail
  refine (must_rd b c s5 (by omega) e5 ⟨#[41]⟩ w5 HP5.out).mono ?_
  rintro r w6 ⟨rfl, hrd, hf⟩
  obtain ⟨s6, e6, hp, hn6, h1, h2⟩ := hrd
  have HS6 := keep (HS5.out.step hbl hcl hf)
  have HP6 := keep hp
  have HA6 := keep h1
  have HB6 := keep h2
  have r6 := HS6.out.R.cell 0 rfl
  have a6 := HS6.out.A.cell 0 rfl
  clear hp hf h1 h2 HS5 HP5
  have HEf := keep HS6.out.E
  have HDf := keep HS6.out.D
  have hltf := HS6.out.E.lt
  go_wp2_with (first
    | refine wpList_load_row rfl 36 (.tmp 5) rfl (w.heap.size + 1 + 1 + 1) rfl 36 #[.int .i64 2, .int .i64 0, .string ⟨x4.toArray⟩, .bool false, .slice p5 q5 c5, .slice none 0 0, .slice none 0 0] (0, 0) _ HEf.out Tryd.underlying36 rfl (info_S [.int .i64 2, .int .i64 0, .string ⟨x4.toArray⟩, .bool false, .slice p5 q5 c5, .slice none 0 0, .slice none 0 0] rfl) ?_
    | refine wpList_store_row rfl 36 (.tmp 4) (.tmp 84) rfl (w.heap.size + 1 + 1) #[.int .i64 2, .int .i64 0, .string ⟨x4.toArray⟩, .bool false, .slice p5 q5 c5, .slice none 0 0, .slice none 0 0] rfl rfl 36 #[.int .i64 0, .int .i64 0, .string ⟨#[]⟩, .bool false, .slice none 0 0, .slice none 0 0, .slice none 0 0] HDf.out (info_S [.int .i64 2, .int .i64 0, .string ⟨x4.toArray⟩, .bool false, .slice p5 q5 c5, .slice none 0 0, .slice none 0 0] rfl) rfl (by simp [Value.oneCell']) ?_)
  (try simp only [Exit.inBlock, Exit.then])
  refine bodyPost_ret (results_cell_row rfl _ _ (w.heap.size + 1 + 1) _ #[.int .i64 2, .int .i64 0, .string ⟨x4.toArray⟩, .bool false, .slice p5 q5 c5, .slice none 0 0, .slice none 0 0] (0, 0) _ rfl (setRow_heap _ _ _ _ _ _ HDf.out) Tryd.underlying36 rfl (info_S [.int .i64 2, .int .i64 0, .string ⟨x4.toArray⟩, .bool false, .slice p5 q5 c5, .slice none 0 0, .slice none 0 0] rfl)) rfl ?_
  have hp9 := HP6.out.row (D := w.heap.size + 1 + 1) (by omega) (by omega) #[.int .i64 2, .int .i64 0, .string ⟨x4.toArray⟩, .bool false, .slice p5 q5 c5, .slice none 0 0, .slice none 0 0]
  refine ⟨((⟨2, 0, x4, false, us5, [], []⟩, .slice p5 q5 c5, .slice none 0 0, .slice none 0 0) : St × Value × Value × Value), rfl, ?_, ?_, HS6.out.fs.row (by omega) _⟩
  · exact (nestS_nest _).mono _ (Yb w w6) _ _ ((nestS_nest _).keep _ _ _ _ HS6.out.nest (fun i hi => setRow_other _ _ _ _ (by have := hi.1; omega))) (fun i hi => ⟨by have := hi.1; omega, by have := hi.2; simp; omega⟩)
  · rw [stmtG]
    refine rd_then (x := W) (n1 := s.size) HA3.out HB3.out ?_ (Nat.le_refl _)
    rw [if_neg (by rw [HK.out]; decide), if_pos HK.out]
    refine rd_then (x := x4) (n1 := s.size) HA4.out HB4.out ?_ (Nat.le_refl _)
    refine rd_then (x := us5) (n1 := s.size) HA5.out HB5.out ?_ (Nat.le_refl _)
    refine rd_go (n1 := s.size) HA6.out HB6.out ?_ (Nat.le_refl _)
    exact rd_ok hp9 (by omega) rfl

set_option maxHeartbeats 8000000 in
set_option maxRecDepth 100000 in
theorem stmt_k3 (m : Nat) (hm : m ≤ 8) (ihE : ExprOK m) (ihS : StmtOK m) (b c : Nat) (s : ByteArray) (e : Int) (w : World) (hs : s.size < 1201) (h : RB w b c s e) (ht : Tabs w) (hg : GL b ∧ GL c) (hk : kindOf (wdE e s.data.toList) = 3) :
    Calls Tryd.prog 63 #[.pointer (some ⟨b, 0, none⟩), .int .i64 (8 - (m : Int))] w fun r w' => ∃ p : St × Value × Value × Value, r = .returned (.agg (stA p.1 p.2.1 p.2.2.1 p.2.2.2)) ∧ nestS (m + 2) w' (New w w') p ∧ Rd w' b c s.size e (stmtG 1201 (m + 1) (words s.data.toList)) (fun a => a = p.1) ∧ Fs [b, c] w w' := by
  have hbl := h.lt
  have hcl := h.ltc
  have HTf : Hid (∀ W, Fs [b, c] w W → Tabs W) := fun W hW => tabs_fs ht hg hW hbl hcl
  have HG := keep hg
  have HX1 : Hid (∀ (n : Nat) (k0 n0 : Int) (nm : List UInt8) (sc : Bool) (s : ByteArray) (e : Int) (W : World), n ≤ 3 → s.size < 4294967281 → RB W b c s e → SS w W b c (8 - (m : Int)) (m + 2) (⟨k0, n0, nm, sc, [], [], []⟩, .slice none 0 0, .slice none 0 0, .slice none 0 0) →
      Calls Tryd.prog 78 #[.int .i64 (n : Int), .pointer (some ⟨w.heap.size, 0, none⟩), .pointer (some ⟨w.heap.size + 1, 0, none⟩), .pointer (some ⟨w.heap.size + 1 + 1 + 1, 0, none⟩)] W fun r w' => r = .returned (.tuple #[]) ∧ ∃ (us : List Ex) (sl : Value),
        SS w w' b c (8 - (m : Int)) (m + 2) (⟨k0, n0, nm, sc, us, [], []⟩, sl, .slice none 0 0, .slice none 0 0) ∧ Rd w' b c s.size e (manyT (exprT m) n (words s.data.toList)) (fun a => a = us)) :=
    fun n k0 n0 nm sc s e W hn hs hp hS => stmt1_rd m hm ihE b c n hn _ k0 n0 nm sc w W hbl hcl s e hs hp (HTf.out _ hS.fs) hg hS
  have HBk : Hid (∀ (s : ByteArray) (e : Int) (W : World), s.size < 1201 → RB W b c s e → Tabs W → Calls Tryd.prog 30 #[.pointer (some ⟨b, 0, none⟩), .int .i64 (9 - (m : Int))] W fun r w' => ∃ (us : List St) (sl : Value), r = .returned sl ∧ StX w' (New W w') (m + 2) us sl ∧ Rd w' b c s.size e (uptoG (stmtG 1201 m) 1201 (words s.data.toList)) (fun a => a = us) ∧ Fs [b, c] W w') :=
    fun s e W hs hp hT => block_rd m ihS b c s e W hs hp hT hg
  have hd : decide (8 < 8 - (m : Int)) = false := decide_eq_false (by omega)
  have hif : (if 8 < 8 - (m : Int) then first e 9 else e) = e := if_neg (by omega)
  have HC := keep (deep_any b c s e (8 - (m : Int)) (stmtW w b (8 - (m : Int))) ((((h.up _).up _).up _).up _))
  rw [hd, hif] at HC
  have HSW := keep (stmtW_ss w b c (m + 1) (8 - (m : Int)))
  have hw8 := wrap_up m (by omega)
  have HFd : Hid (∀ v, Tabs v → Calls Tryd.prog 20 #[.string ⟨#[108, 101, 116, 32, 115, 101, 116, 32, 112, 117, 116, 32, 105, 102, 32, 102, 111, 114, 32, 114, 101, 116]⟩] v fun e w' => e = .returned (.slice (some ⟨v.heap.size, 0, none⟩) 6 6) ∧ w' = v.alloc (.cells (listA sts) 9)) :=
    fun v hv => fields_any stsB sts fields_sts (by decide) (by decide) v hv
  have HWl := keep (fun w1 (hp : RB w1 b c s e) => word_rd b c s (by omega) e w1 hp)
  clear h ht hg ihE ihS hif hd
  generalize 9 - (m : Int) = a9 at *
  generalize 8 - (m : Int) = a8 at *
  generalize wdE e s.data.toList = W at *
  have HIx : Hid (∀ (v : World) (z : Nat), Bk v z (sts.map fun l => Value.string ⟨l.toArray⟩) 9 → Calls Tryd.prog 48 #[.slice (some ⟨z, 0, none⟩) 6 6, .string ⟨W.toArray⟩] v fun e w' => e = .returned (.int .i64 (2)) ∧ w' = v) := fun v z hz => by
    have := Tryd.slices_Index_string z 0 6 6 (bys sts) ⟨W.toArray⟩ v (by decide) (by decide) (sts_cell sts hz)
    rw [idx_sts, hk] at this
    exact this
  have HK := keep hk
  clear hk
  go_enter Tryd.func63, Tryd.ntmps63
  go_wp2_with fail
  change Calls _ _ _ (stmtW w b a8) _
  refine HC.out.mono ?_
  rintro r w1 ⟨rfl, hp, hf⟩
  have hs1 := HSW.out.step hbl hcl hf
  have HPd : Hid (RB w1.drew b c s e) := hp
  have HSd : Hid (SS w w1.drew b c a8 (m + 2) (⟨0, 0, [], false, [], [], []⟩, .slice none 0 0, .slice none 0 0, .slice none 0 0)) := hs1.step hbl hcl ⟨rfl, rfl, rfl, Nat.le_refl _, fun _ _ _ => rfl⟩
  have HTd := keep (HTf.out _ HSd.out.fs)
  clear hp hf hs1 HC HSW
  go_wp2_with fail
  refine wp_region_noPanic ?_
  refine Ord.wpM_begin (fun W' : World => W'.cell? ⟨w.heap.size, 0, none⟩ = some (.pointer (some ⟨b, 0, none⟩))) [0, 3, 4] (by kernel_rfl) ?_
  generalize w1.drew = Wd at *
  have hS := HSd.out.R.cell 0 rfl
  refine Ord.wpM_take (i := 1) (v := .pointer (some ⟨b, 0, none⟩)) (by simp only [List.getElem?_toArray, List.getElem?_cons_zero, List.getElem?_cons_succ]; rfl) (by kernel_rfl) (by kernel_rfl) (by kernel_rfl) (by kernel_rfl) (fun _ _ _ h => h) (Or.inl ⟨by rfl, by intro W' hW; go_simp⟩) hS ?_
  try simp only [Act.put, List.setIfInBounds_toArray, List.set_cons_zero, List.set_cons_succ]
  clear hS
  refine Ord.wpM_one (i := 0) (by kernel_rfl) (by simp only [List.getElem?_toArray, List.getElem?_cons_zero, List.getElem?_cons_succ]; rfl) (fun K hK => ?_)
  go_simp
  refine (HFd.out _ HTd.out).mono ?_
  rintro r w2 ⟨rfl, hw2⟩
  have hb2 : Below Wd.heap.size Wd w2 := by rw [hw2]; exact (Below.refl Wd.heap.size Wd).alloc (Nat.le_refl _) _
  have HS2 := keep (HSd.out.step hbl hcl (Fs.of_below hb2))
  have HP2 := keep (HPd.out.below hb2)
  have HZ2 : Hid (Bk w2 Wd.heap.size (sts.map fun l => Value.string ⟨l.toArray⟩) 9) := by
    rw [hw2]; exact Bk.new Wd (sts.map fun l => Value.string ⟨l.toArray⟩) 9
  have hzl : w.heap.size < Wd.heap.size := HSd.out.R.lt
  clear hw2 hb2 HFd HTd HPd HSd
  obtain ⟨zb, hzb⟩ : ∃ zb, Wd.heap.size = zb := ⟨_, rfl⟩
  rw [hzb] at HZ2 hzl
  go_simp
  refine hK.out _ _ (fun _ => HS2.out.R.cell 0 rfl) ?_
  clear hK K hzb
  try simp only [Act.put, List.setIfInBounds_toArray, List.set_cons_zero, List.set_cons_succ]
  refine Ord.wpM_one (i := 2) (by kernel_rfl) (by simp only [List.getElem?_toArray, List.getElem?_cons_zero, List.getElem?_cons_succ]; rfl) (fun K hK => ?_)
  go_simp
  refine (HWl.out w2 HP2.out).mono ?_
  rintro r w3 ⟨rfl, hrd, hf⟩
  obtain ⟨s3, e3, hp, hn3, h1, h2⟩ := hrd
  have HSc := keep (HS2.out.step hbl hcl hf)
  have HPc := keep hp
  have HA3 := keep h1
  have HB3 := keep h2
  have HZ3 := keep (HZ2.out.fs hf (by simp; omega))
  clear hp hf h1 h2 HS2 HP2 HZ2 HWl
  go_simp
  refine hK.out _ _ (fun h => absurd h (by decide)) ?_
  clear hK K
  try simp only [Act.put, List.setIfInBounds_toArray, List.set_cons_zero, List.set_cons_succ]
  refine Ord.wpM_one (i := 3) (by kernel_rfl) (by simp only [List.getElem?_toArray, List.getElem?_cons_zero, List.getElem?_cons_succ]; rfl) (fun K hK => ?_)
  go_simp
  refine (HIx.out w3 zb HZ3.out).mono ?_
  rintro r w4 ⟨rfl, hw4⟩
  rw [hw4]
  clear hw4 w4
  go_simp
  have hwr : IntKind.i64.wrap 3 = 3 := by decide
  have hS := HSc.out.R.cell 0 rfl
  refine hK.out _ _ (fun _ => hS) ?_
  clear hK K HIx HZ3
  try simp only [Act.put, List.setIfInBounds_toArray, List.set_cons_zero, List.set_cons_succ]
  refine Ord.wpM_take (i := 4) (v := .int .i64 3) (by simp only [List.getElem?_toArray, List.getElem?_cons_zero, List.getElem?_cons_succ]; rfl) (by kernel_rfl) (by kernel_rfl) (by kernel_rfl) (by kernel_rfl) (fun _ _ _ h => h) (Or.inl ⟨by rfl, by intro W' hW; go_simp⟩) hS ?_
  try simp only [Act.put, List.setIfInBounds_toArray, List.set_cons_zero, List.set_cons_succ]
  refine Ord.wpM_take (i := 5) (v := .pointer (some ⟨w.heap.size + 1 + 1 + 1, 0, none⟩)) (by simp only [List.getElem?_toArray, List.getElem?_cons_zero, List.getElem?_cons_succ]; rfl) (by kernel_rfl) (by kernel_rfl) (by kernel_rfl) (by kernel_rfl) (fun _ _ _ h => h) (Or.inl ⟨by rfl, by intro W' hW; go_simp⟩) hS ?_
  try simp only [Act.put, List.setIfInBounds_toArray, List.set_cons_zero, List.set_cons_succ]
  clear hS
  refine Ord.wpM_one (i := 6) (by kernel_rfl) (by simp only [List.getElem?_toArray, List.getElem?_cons_zero, List.getElem?_cons_succ]; rfl) (fun K hK => ?_)
  have cE := HSc.out.E.cell 0 rfl
  have fE := HSc.out.E.fr 0
  go_simp
  refine hK.out _ _ (fun h => absurd h (by decide)) ?_
  clear hK K cE fE
  try simp only [Act.put, List.setIfInBounds_toArray, List.set_cons_zero, List.set_cons_succ]
  refine Ord.wpM_done (by kernel_rfl) ?_ _
  refine NoPanic.normal ?_
  have HS3 := keep (HSc.out.set 0 (.int .i64 3) ((⟨3, 0, [], false, [], [], []⟩, .slice none 0 0, .slice none 0 0, .slice none 0 0) : St × Value × Value × Value) rfl ⟨HSc.out.nest.1, HSc.out.nest.2.1, HSc.out.nest.2.2⟩)
  have HP3 := keep (HPc.out.set (k := w.heap.size + 1 + 1 + 1) (by omega) (by omega) 0 (.int .i64 3))
  obtain ⟨v3, hv3⟩ : ∃ v3, w3.setCell ⟨w.heap.size + 1 + 1 + 1, 0, none⟩ (.int .i64 3) = v3 := ⟨_, rfl⟩
  rw [hv3] at HS3 HP3
  try rw [hv3]
  have r3 := HS3.out.R.cell 0 rfl
  have a3 := HS3.out.A.cell 0 rfl
  have k3 := HS3.out.E.cell 0 rfl
  clear hv3 HSc HPc
  go_wp2_with fail
  clear k3
  refine (name_rd b c s3 (by omega) e3 v3 HP3.out (HTf.out _ HS3.out.fs) HG.out).mono ?_
  rintro r w4 ⟨x4, rfl, hrd, hf⟩
  obtain ⟨s4, e4, hp, hn4, h1, h2⟩ := hrd
  have HSa4 := keep (HS3.out.step hbl hcl hf)
  have HS4 := keep (HSa4.out.set 2 (.string ⟨x4.toArray⟩) ((⟨3, 0, x4, false, [], [], []⟩, .slice none 0 0, .slice none 0 0, .slice none 0 0) : St × Value × Value × Value) rfl ⟨HSa4.out.nest.1, HSa4.out.nest.2.1, HSa4.out.nest.2.2⟩)
  have HP4 := keep (hp.set (k := w.heap.size + 1 + 1 + 1) (by omega) (by omega) 2 (.string ⟨x4.toArray⟩))
  have HA4 := keep h1
  have HB4 := keep h2
  have cE := HSa4.out.E.cell 2 rfl
  have fE := HSa4.out.E.fr 2
  obtain ⟨v4, hv4⟩ : ∃ v4, w4.setCell ⟨w.heap.size + 1 + 1 + 1, 2, none⟩ (.string ⟨x4.toArray⟩) = v4 := ⟨_, rfl⟩
  rw [hv4] at HS4 HP4
  have r4 := HS4.out.R.cell 0 rfl
  have a4 := HS4.out.A.cell 0 rfl
  clear hp hf h1 h2 HS3 HP3
  go_wp2_with fail
  clear hv4 cE fE HSa4
  refine (HX1.out 2 3 0 x4 false s4 e4 v4 (by decide) (by omega) HP4.out HS4.out).mono ?_
  rintro r w5 ⟨rfl, us5, sl, hS, hrd⟩
  obtain ⟨p5, q5, c5, hsl⟩ := hS.nest.1.slice
  simp only at hsl
  subst hsl
  obtain ⟨s5, e5, hp, hn5, h1, h2⟩ := hrd
  have HS5 := keep hS
  have HP5 := keep hp
  have HA5 := keep h1
  have HB5 := keep h2
  have r5 := HS5.out.R.cell 0 rfl
  have a5 := HS5.out.A.cell 0 rfl
  clear hp hS h1 h2 HS4 HP4 HX1
  go_wp2_with fail
  refine (must_rd b c s5 (by omega) e5 ⟨#[41]⟩ w5 HP5.out).mono ?_
  rintro r w6 ⟨rfl, hrd, hf⟩
  obtain ⟨s6, e6, hp, hn6, h1, h2⟩ := hrd
  have HS6 := keep (HS5.out.step hbl hcl hf)
  have HP6 := keep hp
  have HA6 := keep h1
  have HB6 := keep h2
  have r6 := HS6.out.R.cell 0 rfl
  have a6 := HS6.out.A.cell 0 rfl
  clear hp hf h1 h2 HS5 HP5
  have HEf := keep HS6.out.E
  have HDf := keep HS6.out.D
  have hltf := HS6.out.E.lt
  go_wp2_with (first
    | refine wpList_load_row rfl 36 (.tmp 5) rfl (w.heap.size + 1 + 1 + 1) rfl 36 #[.int .i64 3, .int .i64 0, .string ⟨x4.toArray⟩, .bool false, .slice p5 q5 c5, .slice none 0 0, .slice none 0 0] (0, 0) _ HEf.out Tryd.underlying36 rfl (info_S [.int .i64 3, .int .i64 0, .string ⟨x4.toArray⟩, .bool false, .slice p5 q5 c5, .slice none 0 0, .slice none 0 0] rfl) ?_
    | refine wpList_store_row rfl 36 (.tmp 4) (.tmp 84) rfl (w.heap.size + 1 + 1) #[.int .i64 3, .int .i64 0, .string ⟨x4.toArray⟩, .bool false, .slice p5 q5 c5, .slice none 0 0, .slice none 0 0] rfl rfl 36 #[.int .i64 0, .int .i64 0, .string ⟨#[]⟩, .bool false, .slice none 0 0, .slice none 0 0, .slice none 0 0] HDf.out (info_S [.int .i64 3, .int .i64 0, .string ⟨x4.toArray⟩, .bool false, .slice p5 q5 c5, .slice none 0 0, .slice none 0 0] rfl) rfl (by simp [Value.oneCell']) ?_)
  (try simp only [Exit.inBlock, Exit.then])
  refine bodyPost_ret (results_cell_row rfl _ _ (w.heap.size + 1 + 1) _ #[.int .i64 3, .int .i64 0, .string ⟨x4.toArray⟩, .bool false, .slice p5 q5 c5, .slice none 0 0, .slice none 0 0] (0, 0) _ rfl (setRow_heap _ _ _ _ _ _ HDf.out) Tryd.underlying36 rfl (info_S [.int .i64 3, .int .i64 0, .string ⟨x4.toArray⟩, .bool false, .slice p5 q5 c5, .slice none 0 0, .slice none 0 0] rfl)) rfl ?_
  have hp9 := HP6.out.row (D := w.heap.size + 1 + 1) (by omega) (by omega) #[.int .i64 3, .int .i64 0, .string ⟨x4.toArray⟩, .bool false, .slice p5 q5 c5, .slice none 0 0, .slice none 0 0]
  refine ⟨((⟨3, 0, x4, false, us5, [], []⟩, .slice p5 q5 c5, .slice none 0 0, .slice none 0 0) : St × Value × Value × Value), rfl, ?_, ?_, HS6.out.fs.row (by omega) _⟩
  · exact (nestS_nest _).mono _ (Yb w w6) _ _ ((nestS_nest _).keep _ _ _ _ HS6.out.nest (fun i hi => setRow_other _ _ _ _ (by have := hi.1; omega))) (fun i hi => ⟨by have := hi.1; omega, by have := hi.2; simp; omega⟩)
  · rw [stmtG]
    refine rd_then (x := W) (n1 := s.size) HA3.out HB3.out ?_ (Nat.le_refl _)
    rw [if_neg (by rw [HK.out]; decide), if_neg (by rw [HK.out]; decide), if_pos HK.out]
    refine rd_then (x := x4) (n1 := s.size) HA4.out HB4.out ?_ (Nat.le_refl _)
    refine rd_then (x := us5) (n1 := s.size) HA5.out HB5.out ?_ (Nat.le_refl _)
    refine rd_go (n1 := s.size) HA6.out HB6.out ?_ (Nat.le_refl _)
    exact rd_ok hp9 (by omega) rfl

set_option maxHeartbeats 8000000 in
set_option maxRecDepth 100000 in
theorem stmt_k4 (m : Nat) (hm : m ≤ 8) (ihE : ExprOK m) (ihS : StmtOK m) (b c : Nat) (s : ByteArray) (e : Int) (w : World) (hs : s.size < 1201) (h : RB w b c s e) (ht : Tabs w) (hg : GL b ∧ GL c) (hk : kindOf (wdE e s.data.toList) = 4) :
    Calls Tryd.prog 63 #[.pointer (some ⟨b, 0, none⟩), .int .i64 (8 - (m : Int))] w fun r w' => ∃ p : St × Value × Value × Value, r = .returned (.agg (stA p.1 p.2.1 p.2.2.1 p.2.2.2)) ∧ nestS (m + 2) w' (New w w') p ∧ Rd w' b c s.size e (stmtG 1201 (m + 1) (words s.data.toList)) (fun a => a = p.1) ∧ Fs [b, c] w w' := by
  have hbl := h.lt
  have hcl := h.ltc
  have HTf : Hid (∀ W, Fs [b, c] w W → Tabs W) := fun W hW => tabs_fs ht hg hW hbl hcl
  have HG := keep hg
  have HX1 : Hid (∀ (n : Nat) (k0 n0 : Int) (nm : List UInt8) (sc : Bool) (s : ByteArray) (e : Int) (W : World), n ≤ 3 → s.size < 4294967281 → RB W b c s e → SS w W b c (8 - (m : Int)) (m + 2) (⟨k0, n0, nm, sc, [], [], []⟩, .slice none 0 0, .slice none 0 0, .slice none 0 0) →
      Calls Tryd.prog 78 #[.int .i64 (n : Int), .pointer (some ⟨w.heap.size, 0, none⟩), .pointer (some ⟨w.heap.size + 1, 0, none⟩), .pointer (some ⟨w.heap.size + 1 + 1 + 1, 0, none⟩)] W fun r w' => r = .returned (.tuple #[]) ∧ ∃ (us : List Ex) (sl : Value),
        SS w w' b c (8 - (m : Int)) (m + 2) (⟨k0, n0, nm, sc, us, [], []⟩, sl, .slice none 0 0, .slice none 0 0) ∧ Rd w' b c s.size e (manyT (exprT m) n (words s.data.toList)) (fun a => a = us)) :=
    fun n k0 n0 nm sc s e W hn hs hp hS => stmt1_rd m hm ihE b c n hn _ k0 n0 nm sc w W hbl hcl s e hs hp (HTf.out _ hS.fs) hg hS
  have HBk : Hid (∀ (s : ByteArray) (e : Int) (W : World), s.size < 1201 → RB W b c s e → Tabs W → Calls Tryd.prog 30 #[.pointer (some ⟨b, 0, none⟩), .int .i64 (9 - (m : Int))] W fun r w' => ∃ (us : List St) (sl : Value), r = .returned sl ∧ StX w' (New W w') (m + 2) us sl ∧ Rd w' b c s.size e (uptoG (stmtG 1201 m) 1201 (words s.data.toList)) (fun a => a = us) ∧ Fs [b, c] W w') :=
    fun s e W hs hp hT => block_rd m ihS b c s e W hs hp hT hg
  have hd : decide (8 < 8 - (m : Int)) = false := decide_eq_false (by omega)
  have hif : (if 8 < 8 - (m : Int) then first e 9 else e) = e := if_neg (by omega)
  have HC := keep (deep_any b c s e (8 - (m : Int)) (stmtW w b (8 - (m : Int))) ((((h.up _).up _).up _).up _))
  rw [hd, hif] at HC
  have HSW := keep (stmtW_ss w b c (m + 1) (8 - (m : Int)))
  have hw8 := wrap_up m (by omega)
  have HFd : Hid (∀ v, Tabs v → Calls Tryd.prog 20 #[.string ⟨#[108, 101, 116, 32, 115, 101, 116, 32, 112, 117, 116, 32, 105, 102, 32, 102, 111, 114, 32, 114, 101, 116]⟩] v fun e w' => e = .returned (.slice (some ⟨v.heap.size, 0, none⟩) 6 6) ∧ w' = v.alloc (.cells (listA sts) 9)) :=
    fun v hv => fields_any stsB sts fields_sts (by decide) (by decide) v hv
  have HWl := keep (fun w1 (hp : RB w1 b c s e) => word_rd b c s (by omega) e w1 hp)
  clear h ht hg ihE ihS hif hd
  generalize 9 - (m : Int) = a9 at *
  generalize 8 - (m : Int) = a8 at *
  generalize wdE e s.data.toList = W at *
  have HIx : Hid (∀ (v : World) (z : Nat), Bk v z (sts.map fun l => Value.string ⟨l.toArray⟩) 9 → Calls Tryd.prog 48 #[.slice (some ⟨z, 0, none⟩) 6 6, .string ⟨W.toArray⟩] v fun e w' => e = .returned (.int .i64 (3)) ∧ w' = v) := fun v z hz => by
    have := Tryd.slices_Index_string z 0 6 6 (bys sts) ⟨W.toArray⟩ v (by decide) (by decide) (sts_cell sts hz)
    rw [idx_sts, hk] at this
    exact this
  have HK := keep hk
  clear hk
  go_enter Tryd.func63, Tryd.ntmps63
  go_wp2_with fail
  change Calls _ _ _ (stmtW w b a8) _
  refine HC.out.mono ?_
  rintro r w1 ⟨rfl, hp, hf⟩
  have hs1 := HSW.out.step hbl hcl hf
  have HPd : Hid (RB w1.drew b c s e) := hp
  have HSd : Hid (SS w w1.drew b c a8 (m + 2) (⟨0, 0, [], false, [], [], []⟩, .slice none 0 0, .slice none 0 0, .slice none 0 0)) := hs1.step hbl hcl ⟨rfl, rfl, rfl, Nat.le_refl _, fun _ _ _ => rfl⟩
  have HTd := keep (HTf.out _ HSd.out.fs)
  clear hp hf hs1 HC HSW
  go_wp2_with fail
  refine wp_region_noPanic ?_
  refine Ord.wpM_begin (fun W' : World => W'.cell? ⟨w.heap.size, 0, none⟩ = some (.pointer (some ⟨b, 0, none⟩))) [0, 3, 4] (by kernel_rfl) ?_
  generalize w1.drew = Wd at *
  have hS := HSd.out.R.cell 0 rfl
  refine Ord.wpM_take (i := 1) (v := .pointer (some ⟨b, 0, none⟩)) (by simp only [List.getElem?_toArray, List.getElem?_cons_zero, List.getElem?_cons_succ]; rfl) (by kernel_rfl) (by kernel_rfl) (by kernel_rfl) (by kernel_rfl) (fun _ _ _ h => h) (Or.inl ⟨by rfl, by intro W' hW; go_simp⟩) hS ?_
  try simp only [Act.put, List.setIfInBounds_toArray, List.set_cons_zero, List.set_cons_succ]
  clear hS
  refine Ord.wpM_one (i := 0) (by kernel_rfl) (by simp only [List.getElem?_toArray, List.getElem?_cons_zero, List.getElem?_cons_succ]; rfl) (fun K hK => ?_)
  go_simp
  refine (HFd.out _ HTd.out).mono ?_
  rintro r w2 ⟨rfl, hw2⟩
  have hb2 : Below Wd.heap.size Wd w2 := by rw [hw2]; exact (Below.refl Wd.heap.size Wd).alloc (Nat.le_refl _) _
  have HS2 := keep (HSd.out.step hbl hcl (Fs.of_below hb2))
  have HP2 := keep (HPd.out.below hb2)
  have HZ2 : Hid (Bk w2 Wd.heap.size (sts.map fun l => Value.string ⟨l.toArray⟩) 9) := by
    rw [hw2]; exact Bk.new Wd (sts.map fun l => Value.string ⟨l.toArray⟩) 9
  have hzl : w.heap.size < Wd.heap.size := HSd.out.R.lt
  clear hw2 hb2 HFd HTd HPd HSd
  obtain ⟨zb, hzb⟩ : ∃ zb, Wd.heap.size = zb := ⟨_, rfl⟩
  rw [hzb] at HZ2 hzl
  go_simp
  refine hK.out _ _ (fun _ => HS2.out.R.cell 0 rfl) ?_
  clear hK K hzb
  try simp only [Act.put, List.setIfInBounds_toArray, List.set_cons_zero, List.set_cons_succ]
  refine Ord.wpM_one (i := 2) (by kernel_rfl) (by simp only [List.getElem?_toArray, List.getElem?_cons_zero, List.getElem?_cons_succ]; rfl) (fun K hK => ?_)
  go_simp
  refine (HWl.out w2 HP2.out).mono ?_
  rintro r w3 ⟨rfl, hrd, hf⟩
  obtain ⟨s3, e3, hp, hn3, h1, h2⟩ := hrd
  have HSc := keep (HS2.out.step hbl hcl hf)
  have HPc := keep hp
  have HA3 := keep h1
  have HB3 := keep h2
  have HZ3 := keep (HZ2.out.fs hf (by simp; omega))
  clear hp hf h1 h2 HS2 HP2 HZ2 HWl
  go_simp
  refine hK.out _ _ (fun h => absurd h (by decide)) ?_
  clear hK K
  try simp only [Act.put, List.setIfInBounds_toArray, List.set_cons_zero, List.set_cons_succ]
  refine Ord.wpM_one (i := 3) (by kernel_rfl) (by simp only [List.getElem?_toArray, List.getElem?_cons_zero, List.getElem?_cons_succ]; rfl) (fun K hK => ?_)
  go_simp
  refine (HIx.out w3 zb HZ3.out).mono ?_
  rintro r w4 ⟨rfl, hw4⟩
  rw [hw4]
  clear hw4 w4
  go_simp
  have hwr : IntKind.i64.wrap 4 = 4 := by decide
  have hS := HSc.out.R.cell 0 rfl
  refine hK.out _ _ (fun _ => hS) ?_
  clear hK K HIx HZ3
  try simp only [Act.put, List.setIfInBounds_toArray, List.set_cons_zero, List.set_cons_succ]
  refine Ord.wpM_take (i := 4) (v := .int .i64 4) (by simp only [List.getElem?_toArray, List.getElem?_cons_zero, List.getElem?_cons_succ]; rfl) (by kernel_rfl) (by kernel_rfl) (by kernel_rfl) (by kernel_rfl) (fun _ _ _ h => h) (Or.inl ⟨by rfl, by intro W' hW; go_simp⟩) hS ?_
  try simp only [Act.put, List.setIfInBounds_toArray, List.set_cons_zero, List.set_cons_succ]
  refine Ord.wpM_take (i := 5) (v := .pointer (some ⟨w.heap.size + 1 + 1 + 1, 0, none⟩)) (by simp only [List.getElem?_toArray, List.getElem?_cons_zero, List.getElem?_cons_succ]; rfl) (by kernel_rfl) (by kernel_rfl) (by kernel_rfl) (by kernel_rfl) (fun _ _ _ h => h) (Or.inl ⟨by rfl, by intro W' hW; go_simp⟩) hS ?_
  try simp only [Act.put, List.setIfInBounds_toArray, List.set_cons_zero, List.set_cons_succ]
  clear hS
  refine Ord.wpM_one (i := 6) (by kernel_rfl) (by simp only [List.getElem?_toArray, List.getElem?_cons_zero, List.getElem?_cons_succ]; rfl) (fun K hK => ?_)
  have cE := HSc.out.E.cell 0 rfl
  have fE := HSc.out.E.fr 0
  go_simp
  refine hK.out _ _ (fun h => absurd h (by decide)) ?_
  clear hK K cE fE
  try simp only [Act.put, List.setIfInBounds_toArray, List.set_cons_zero, List.set_cons_succ]
  refine Ord.wpM_done (by kernel_rfl) ?_ _
  refine NoPanic.normal ?_
  have HS3 := keep (HSc.out.set 0 (.int .i64 4) ((⟨4, 0, [], false, [], [], []⟩, .slice none 0 0, .slice none 0 0, .slice none 0 0) : St × Value × Value × Value) rfl ⟨HSc.out.nest.1, HSc.out.nest.2.1, HSc.out.nest.2.2⟩)
  have HP3 := keep (HPc.out.set (k := w.heap.size + 1 + 1 + 1) (by omega) (by omega) 0 (.int .i64 4))
  obtain ⟨v3, hv3⟩ : ∃ v3, w3.setCell ⟨w.heap.size + 1 + 1 + 1, 0, none⟩ (.int .i64 4) = v3 := ⟨_, rfl⟩
  rw [hv3] at HS3 HP3
  try rw [hv3]
  have r3 := HS3.out.R.cell 0 rfl
  have a3 := HS3.out.A.cell 0 rfl
  have k3 := HS3.out.E.cell 0 rfl
  clear hv3 HSc HPc
  go_wp2_with fail
  clear k3
  refine (HX1.out 1 4 0 [] false s3 e3 v3 (by decide) (by omega) HP3.out HS3.out).mono ?_
  rintro r w4 ⟨rfl, us4, sl, hS, hrd⟩
  obtain ⟨p4, q4, c4, hsl⟩ := hS.nest.1.slice
  simp only at hsl
  subst hsl
  obtain ⟨s4, e4, hp, hn4, h1, h2⟩ := hrd
  have HS4 := keep hS
  have HP4 := keep hp
  have HA4 := keep h1
  have HB4 := keep h2
  have r4 := HS4.out.R.cell 0 rfl
  have a4 := HS4.out.A.cell 0 rfl
  clear hp hS h1 h2 HS3 HP3 HX1
  go_wp2_with fail
  refine (must_rd b c s4 (by omega) e4 ⟨#[40]⟩ w4 HP4.out).mono ?_
  rintro r w5 ⟨rfl, hrd, hf⟩
  obtain ⟨s5, e5, hp, hn5, h1, h2⟩ := hrd
  have HS5 := keep (HS4.out.step hbl hcl hf)
  have HP5 := keep hp
  have HA5 := keep h1
  have HB5 := keep h2
  have r5 := HS5.out.R.cell 0 rfl
  have a5 := HS5.out.A.cell 0 rfl
  clear hp hf h1 h2 HS4 HP4
  go_wp2_with fail
  have hlt6 := HS5.out.E.lt
  refine (HBk.out s5 e5 w5 (by omega) HP5.out (HTf.out _ HS5.out.fs)).mono ?_
  rintro r w6 ⟨us6, sl, rfl, hst, hrd, hf⟩
  obtain ⟨p6, q6, c6, rfl⟩ := hst.slice
  obtain ⟨s6, e6, hp, hn6, h1, h2⟩ := hrd
  have HSa6 := keep (HS5.out.step hbl hcl hf)
  have HS6 := keep (HSa6.out.set 5 (.slice p6 q6 c6) ((⟨4, 0, [], false, us4, us6, []⟩, .slice p4 q4 c4, .slice p6 q6 c6, .slice none 0 0) : St × Value × Value × Value) rfl ⟨HSa6.out.nest.1, (StX.mono (fun i hi => ⟨by have := hi.1; omega, hi.2⟩) hst), HSa6.out.nest.2.2⟩)
  have HP6 := keep (hp.set (k := w.heap.size + 1 + 1 + 1) (by omega) (by omega) 5 (.slice p6 q6 c6))
  have HA6 := keep h1
  have HB6 := keep h2
  have cE := HSa6.out.E.cell 5 rfl
  have fE := HSa6.out.E.fr 5
  obtain ⟨v6, hv6⟩ : ∃ v6, w6.setCell ⟨w.heap.size + 1 + 1 + 1, 5, none⟩ (.slice p6 q6 c6) = v6 := ⟨_, rfl⟩
  rw [hv6] at HS6 HP6
  have r6 := HS6.out.R.cell 0 rfl
  have a6 := HS6.out.A.cell 0 rfl
  clear hp hf h1 h2 HS5 HP5
  go_wp2_with fail
  clear hv6 cE fE HSa6
  refine (must_rd b c s6 (by omega) e6 ⟨#[40]⟩ v6 HP6.out).mono ?_
  rintro r w7 ⟨rfl, hrd, hf⟩
  obtain ⟨s7, e7, hp, hn7, h1, h2⟩ := hrd
  have HS7 := keep (HS6.out.step hbl hcl hf)
  have HP7 := keep hp
  have HA7 := keep h1
  have HB7 := keep h2
  have r7 := HS7.out.R.cell 0 rfl
  have a7 := HS7.out.A.cell 0 rfl
  clear hp hf h1 h2 HS6 HP6
  go_wp2_with fail
  have hlt8 := HS7.out.E.lt
  refine (HBk.out s7 e7 w7 (by omega) HP7.out (HTf.out _ HS7.out.fs)).mono ?_
  rintro r w8 ⟨us8, sl, rfl, hst, hrd, hf⟩
  obtain ⟨p8, q8, c8, rfl⟩ := hst.slice
  obtain ⟨s8, e8, hp, hn8, h1, h2⟩ := hrd
  have HSa8 := keep (HS7.out.step hbl hcl hf)
  have HS8 := keep (HSa8.out.set 6 (.slice p8 q8 c8) ((⟨4, 0, [], false, us4, us6, us8⟩, .slice p4 q4 c4, .slice p6 q6 c6, .slice p8 q8 c8) : St × Value × Value × Value) rfl ⟨HSa8.out.nest.1, HSa8.out.nest.2.1, (StX.mono (fun i hi => ⟨by have := hi.1; omega, hi.2⟩) hst)⟩)
  have HP8 := keep (hp.set (k := w.heap.size + 1 + 1 + 1) (by omega) (by omega) 6 (.slice p8 q8 c8))
  have HA8 := keep h1
  have HB8 := keep h2
  have cE := HSa8.out.E.cell 6 rfl
  have fE := HSa8.out.E.fr 6
  obtain ⟨v8, hv8⟩ : ∃ v8, w8.setCell ⟨w.heap.size + 1 + 1 + 1, 6, none⟩ (.slice p8 q8 c8) = v8 := ⟨_, rfl⟩
  rw [hv8] at HS8 HP8
  have r8 := HS8.out.R.cell 0 rfl
  have a8 := HS8.out.A.cell 0 rfl
  clear hp hf h1 h2 HS7 HP7
  go_wp2_with fail
  clear hv8 cE fE HSa8
  refine (must_rd b c s8 (by omega) e8 ⟨#[41]⟩ v8 HP8.out).mono ?_
  rintro r w9 ⟨rfl, hrd, hf⟩
  obtain ⟨s9, e9, hp, hn9, h1, h2⟩ := hrd
  have HS9 := keep (HS8.out.step hbl hcl hf)
  have HP9 := keep hp
  have HA9 := keep h1
  have HB9 := keep h2
  have r9 := HS9.out.R.cell 0 rfl
  have a9 := HS9.out.A.cell 0 rfl
  clear hp hf h1 h2 HS8 HP8
  have HEf := keep HS9.out.E
  have HDf := keep HS9.out.D
  have hltf := HS9.out.E.lt
  go_wp2_with (first
    | refine wpList_load_row rfl 36 (.tmp 5) rfl (w.heap.size + 1 + 1 + 1) rfl 36 #[.int .i64 4, .int .i64 0, .string ⟨#[]⟩, .bool false, .slice p4 q4 c4, .slice p6 q6 c6, .slice p8 q8 c8] (0, 0) _ HEf.out Tryd.underlying36 rfl (info_S [.int .i64 4, .int .i64 0, .string ⟨#[]⟩, .bool false, .slice p4 q4 c4, .slice p6 q6 c6, .slice p8 q8 c8] rfl) ?_
    | refine wpList_store_row rfl 36 (.tmp 4) (.tmp 84) rfl (w.heap.size + 1 + 1) #[.int .i64 4, .int .i64 0, .string ⟨#[]⟩, .bool false, .slice p4 q4 c4, .slice p6 q6 c6, .slice p8 q8 c8] rfl rfl 36 #[.int .i64 0, .int .i64 0, .string ⟨#[]⟩, .bool false, .slice none 0 0, .slice none 0 0, .slice none 0 0] HDf.out (info_S [.int .i64 4, .int .i64 0, .string ⟨#[]⟩, .bool false, .slice p4 q4 c4, .slice p6 q6 c6, .slice p8 q8 c8] rfl) rfl (by simp [Value.oneCell']) ?_)
  (try simp only [Exit.inBlock, Exit.then])
  refine bodyPost_ret (results_cell_row rfl _ _ (w.heap.size + 1 + 1) _ #[.int .i64 4, .int .i64 0, .string ⟨#[]⟩, .bool false, .slice p4 q4 c4, .slice p6 q6 c6, .slice p8 q8 c8] (0, 0) _ rfl (setRow_heap _ _ _ _ _ _ HDf.out) Tryd.underlying36 rfl (info_S [.int .i64 4, .int .i64 0, .string ⟨#[]⟩, .bool false, .slice p4 q4 c4, .slice p6 q6 c6, .slice p8 q8 c8] rfl)) rfl ?_
  have hp9 := HP9.out.row (D := w.heap.size + 1 + 1) (by omega) (by omega) #[.int .i64 4, .int .i64 0, .string ⟨#[]⟩, .bool false, .slice p4 q4 c4, .slice p6 q6 c6, .slice p8 q8 c8]
  refine ⟨((⟨4, 0, [], false, us4, us6, us8⟩, .slice p4 q4 c4, .slice p6 q6 c6, .slice p8 q8 c8) : St × Value × Value × Value), rfl, ?_, ?_, HS9.out.fs.row (by omega) _⟩
  · exact (nestS_nest _).mono _ (Yb w w9) _ _ ((nestS_nest _).keep _ _ _ _ HS9.out.nest (fun i hi => setRow_other _ _ _ _ (by have := hi.1; omega))) (fun i hi => ⟨by have := hi.1; omega, by have := hi.2; simp; omega⟩)
  · rw [stmtG]
    refine rd_then (x := W) (n1 := s.size) HA3.out HB3.out ?_ (Nat.le_refl _)
    rw [if_neg (by rw [HK.out]; decide), if_neg (by rw [HK.out]; decide), if_neg (by rw [HK.out]; decide), if_pos HK.out]
    refine rd_then (x := us4) (n1 := s.size) HA4.out HB4.out ?_ (Nat.le_refl _)
    refine rd_go (n1 := s.size) HA5.out HB5.out ?_ (Nat.le_refl _)
    refine rd_then (x := us6) (n1 := s.size) HA6.out HB6.out ?_ (Nat.le_refl _)
    refine rd_go (n1 := s.size) HA7.out HB7.out ?_ (Nat.le_refl _)
    refine rd_then (x := us8) (n1 := s.size) HA8.out HB8.out ?_ (Nat.le_refl _)
    refine rd_go (n1 := s.size) HA9.out HB9.out ?_ (Nat.le_refl _)
    exact rd_ok hp9 (by omega) rfl

set_option maxHeartbeats 8000000 in
set_option maxRecDepth 100000 in
theorem stmt_k5 (m : Nat) (hm : m ≤ 8) (ihE : ExprOK m) (ihS : StmtOK m) (b c : Nat) (s : ByteArray) (e : Int) (w : World) (hs : s.size < 1201) (h : RB w b c s e) (ht : Tabs w) (hg : GL b ∧ GL c) (hk : kindOf (wdE e s.data.toList) = 5) :
    Calls Tryd.prog 63 #[.pointer (some ⟨b, 0, none⟩), .int .i64 (8 - (m : Int))] w fun r w' => ∃ p : St × Value × Value × Value, r = .returned (.agg (stA p.1 p.2.1 p.2.2.1 p.2.2.2)) ∧ nestS (m + 2) w' (New w w') p ∧ Rd w' b c s.size e (stmtG 1201 (m + 1) (words s.data.toList)) (fun a => a = p.1) ∧ Fs [b, c] w w' := by
  have hbl := h.lt
  have hcl := h.ltc
  have HTf : Hid (∀ W, Fs [b, c] w W → Tabs W) := fun W hW => tabs_fs ht hg hW hbl hcl
  have HG := keep hg
  have HX1 : Hid (∀ (n : Nat) (k0 n0 : Int) (nm : List UInt8) (sc : Bool) (s : ByteArray) (e : Int) (W : World), n ≤ 3 → s.size < 4294967281 → RB W b c s e → SS w W b c (8 - (m : Int)) (m + 2) (⟨k0, n0, nm, sc, [], [], []⟩, .slice none 0 0, .slice none 0 0, .slice none 0 0) →
      Calls Tryd.prog 78 #[.int .i64 (n : Int), .pointer (some ⟨w.heap.size, 0, none⟩), .pointer (some ⟨w.heap.size + 1, 0, none⟩), .pointer (some ⟨w.heap.size + 1 + 1 + 1, 0, none⟩)] W fun r w' => r = .returned (.tuple #[]) ∧ ∃ (us : List Ex) (sl : Value),
        SS w w' b c (8 - (m : Int)) (m + 2) (⟨k0, n0, nm, sc, us, [], []⟩, sl, .slice none 0 0, .slice none 0 0) ∧ Rd w' b c s.size e (manyT (exprT m) n (words s.data.toList)) (fun a => a = us)) :=
    fun n k0 n0 nm sc s e W hn hs hp hS => stmt1_rd m hm ihE b c n hn _ k0 n0 nm sc w W hbl hcl s e hs hp (HTf.out _ hS.fs) hg hS
  have HBk : Hid (∀ (s : ByteArray) (e : Int) (W : World), s.size < 1201 → RB W b c s e → Tabs W → Calls Tryd.prog 30 #[.pointer (some ⟨b, 0, none⟩), .int .i64 (9 - (m : Int))] W fun r w' => ∃ (us : List St) (sl : Value), r = .returned sl ∧ StX w' (New W w') (m + 2) us sl ∧ Rd w' b c s.size e (uptoG (stmtG 1201 m) 1201 (words s.data.toList)) (fun a => a = us) ∧ Fs [b, c] W w') :=
    fun s e W hs hp hT => block_rd m ihS b c s e W hs hp hT hg
  have hd : decide (8 < 8 - (m : Int)) = false := decide_eq_false (by omega)
  have hif : (if 8 < 8 - (m : Int) then first e 9 else e) = e := if_neg (by omega)
  have HC := keep (deep_any b c s e (8 - (m : Int)) (stmtW w b (8 - (m : Int))) ((((h.up _).up _).up _).up _))
  rw [hd, hif] at HC
  have HSW := keep (stmtW_ss w b c (m + 1) (8 - (m : Int)))
  have hw8 := wrap_up m (by omega)
  have HFd : Hid (∀ v, Tabs v → Calls Tryd.prog 20 #[.string ⟨#[108, 101, 116, 32, 115, 101, 116, 32, 112, 117, 116, 32, 105, 102, 32, 102, 111, 114, 32, 114, 101, 116]⟩] v fun e w' => e = .returned (.slice (some ⟨v.heap.size, 0, none⟩) 6 6) ∧ w' = v.alloc (.cells (listA sts) 9)) :=
    fun v hv => fields_any stsB sts fields_sts (by decide) (by decide) v hv
  have HWl := keep (fun w1 (hp : RB w1 b c s e) => word_rd b c s (by omega) e w1 hp)
  clear h ht hg ihE ihS hif hd
  generalize 9 - (m : Int) = a9 at *
  generalize 8 - (m : Int) = a8 at *
  generalize wdE e s.data.toList = W at *
  have HIx : Hid (∀ (v : World) (z : Nat), Bk v z (sts.map fun l => Value.string ⟨l.toArray⟩) 9 → Calls Tryd.prog 48 #[.slice (some ⟨z, 0, none⟩) 6 6, .string ⟨W.toArray⟩] v fun e w' => e = .returned (.int .i64 (4)) ∧ w' = v) := fun v z hz => by
    have := Tryd.slices_Index_string z 0 6 6 (bys sts) ⟨W.toArray⟩ v (by decide) (by decide) (sts_cell sts hz)
    rw [idx_sts, hk] at this
    exact this
  have HK := keep hk
  clear hk
  go_enter Tryd.func63, Tryd.ntmps63
  go_wp2_with fail
  change Calls _ _ _ (stmtW w b a8) _
  refine HC.out.mono ?_
  rintro r w1 ⟨rfl, hp, hf⟩
  have hs1 := HSW.out.step hbl hcl hf
  have HPd : Hid (RB w1.drew b c s e) := hp
  have HSd : Hid (SS w w1.drew b c a8 (m + 2) (⟨0, 0, [], false, [], [], []⟩, .slice none 0 0, .slice none 0 0, .slice none 0 0)) := hs1.step hbl hcl ⟨rfl, rfl, rfl, Nat.le_refl _, fun _ _ _ => rfl⟩
  have HTd := keep (HTf.out _ HSd.out.fs)
  clear hp hf hs1 HC HSW
  go_wp2_with fail
  refine wp_region_noPanic ?_
  refine Ord.wpM_begin (fun W' : World => W'.cell? ⟨w.heap.size, 0, none⟩ = some (.pointer (some ⟨b, 0, none⟩))) [0, 3, 4] (by kernel_rfl) ?_
  generalize w1.drew = Wd at *
  have hS := HSd.out.R.cell 0 rfl
  refine Ord.wpM_take (i := 1) (v := .pointer (some ⟨b, 0, none⟩)) (by simp only [List.getElem?_toArray, List.getElem?_cons_zero, List.getElem?_cons_succ]; rfl) (by kernel_rfl) (by kernel_rfl) (by kernel_rfl) (by kernel_rfl) (fun _ _ _ h => h) (Or.inl ⟨by rfl, by intro W' hW; go_simp⟩) hS ?_
  try simp only [Act.put, List.setIfInBounds_toArray, List.set_cons_zero, List.set_cons_succ]
  clear hS
  refine Ord.wpM_one (i := 0) (by kernel_rfl) (by simp only [List.getElem?_toArray, List.getElem?_cons_zero, List.getElem?_cons_succ]; rfl) (fun K hK => ?_)
  go_simp
  refine (HFd.out _ HTd.out).mono ?_
  rintro r w2 ⟨rfl, hw2⟩
  have hb2 : Below Wd.heap.size Wd w2 := by rw [hw2]; exact (Below.refl Wd.heap.size Wd).alloc (Nat.le_refl _) _
  have HS2 := keep (HSd.out.step hbl hcl (Fs.of_below hb2))
  have HP2 := keep (HPd.out.below hb2)
  have HZ2 : Hid (Bk w2 Wd.heap.size (sts.map fun l => Value.string ⟨l.toArray⟩) 9) := by
    rw [hw2]; exact Bk.new Wd (sts.map fun l => Value.string ⟨l.toArray⟩) 9
  have hzl : w.heap.size < Wd.heap.size := HSd.out.R.lt
  clear hw2 hb2 HFd HTd HPd HSd
  obtain ⟨zb, hzb⟩ : ∃ zb, Wd.heap.size = zb := ⟨_, rfl⟩
  rw [hzb] at HZ2 hzl
  go_simp
  refine hK.out _ _ (fun _ => HS2.out.R.cell 0 rfl) ?_
  clear hK K hzb
  try simp only [Act.put, List.setIfInBounds_toArray, List.set_cons_zero, List.set_cons_succ]
  refine Ord.wpM_one (i := 2) (by kernel_rfl) (by simp only [List.getElem?_toArray, List.getElem?_cons_zero, List.getElem?_cons_succ]; rfl) (fun K hK => ?_)
  go_simp
  refine (HWl.out w2 HP2.out).mono ?_
  rintro r w3 ⟨rfl, hrd, hf⟩
  obtain ⟨s3, e3, hp, hn3, h1, h2⟩ := hrd
  have HSc := keep (HS2.out.step hbl hcl hf)
  have HPc := keep hp
  have HA3 := keep h1
  have HB3 := keep h2
  have HZ3 := keep (HZ2.out.fs hf (by simp; omega))
  clear hp hf h1 h2 HS2 HP2 HZ2 HWl
  go_simp
  refine hK.out _ _ (fun h => absurd h (by decide)) ?_
  clear hK K
  try simp only [Act.put, List.setIfInBounds_toArray, List.set_cons_zero, List.set_cons_succ]
  refine Ord.wpM_one (i := 3) (by kernel_rfl) (by simp only [List.getElem?_toArray, List.getElem?_cons_zero, List.getElem?_cons_succ]; rfl) (fun K hK => ?_)
  go_simp
  refine (HIx.out w3 zb HZ3.out).mono ?_
  rintro r w4 ⟨rfl, hw4⟩
  rw [hw4]
  clear hw4 w4
  go_simp
  have hwr : IntKind.i64.wrap 5 = 5 := by decide
  have hS := HSc.out.R.cell 0 rfl
  refine hK.out _ _ (fun _ => hS) ?_
  clear hK K HIx HZ3
  try simp only [Act.put, List.setIfInBounds_toArray, List.set_cons_zero, List.set_cons_succ]
  refine Ord.wpM_take (i := 4) (v := .int .i64 5) (by simp only [List.getElem?_toArray, List.getElem?_cons_zero, List.getElem?_cons_succ]; rfl) (by kernel_rfl) (by kernel_rfl) (by kernel_rfl) (by kernel_rfl) (fun _ _ _ h => h) (Or.inl ⟨by rfl, by intro W' hW; go_simp⟩) hS ?_
  try simp only [Act.put, List.setIfInBounds_toArray, List.set_cons_zero, List.set_cons_succ]
  refine Ord.wpM_take (i := 5) (v := .pointer (some ⟨w.heap.size + 1 + 1 + 1, 0, none⟩)) (by simp only [List.getElem?_toArray, List.getElem?_cons_zero, List.getElem?_cons_succ]; rfl) (by kernel_rfl) (by kernel_rfl) (by kernel_rfl) (by kernel_rfl) (fun _ _ _ h => h) (Or.inl ⟨by rfl, by intro W' hW; go_simp⟩) hS ?_
  try simp only [Act.put, List.setIfInBounds_toArray, List.set_cons_zero, List.set_cons_succ]
  clear hS
  refine Ord.wpM_one (i := 6) (by kernel_rfl) (by simp only [List.getElem?_toArray, List.getElem?_cons_zero, List.getElem?_cons_succ]; rfl) (fun K hK => ?_)
  have cE := HSc.out.E.cell 0 rfl
  have fE := HSc.out.E.fr 0
  go_simp
  refine hK.out _ _ (fun h => absurd h (by decide)) ?_
  clear hK K cE fE
  try simp only [Act.put, List.setIfInBounds_toArray, List.set_cons_zero, List.set_cons_succ]
  refine Ord.wpM_done (by kernel_rfl) ?_ _
  refine NoPanic.normal ?_
  have HS3 := keep (HSc.out.set 0 (.int .i64 5) ((⟨5, 0, [], false, [], [], []⟩, .slice none 0 0, .slice none 0 0, .slice none 0 0) : St × Value × Value × Value) rfl ⟨HSc.out.nest.1, HSc.out.nest.2.1, HSc.out.nest.2.2⟩)
  have HP3 := keep (HPc.out.set (k := w.heap.size + 1 + 1 + 1) (by omega) (by omega) 0 (.int .i64 5))
  obtain ⟨v3, hv3⟩ : ∃ v3, w3.setCell ⟨w.heap.size + 1 + 1 + 1, 0, none⟩ (.int .i64 5) = v3 := ⟨_, rfl⟩
  rw [hv3] at HS3 HP3
  try rw [hv3]
  have r3 := HS3.out.R.cell 0 rfl
  have a3 := HS3.out.A.cell 0 rfl
  have k3 := HS3.out.E.cell 0 rfl
  clear hv3 HSc HPc
  go_wp2_with fail
  clear k3
  refine (name_rd b c s3 (by omega) e3 v3 HP3.out (HTf.out _ HS3.out.fs) HG.out).mono ?_
  rintro r w4 ⟨x4, rfl, hrd, hf⟩
  obtain ⟨s4, e4, hp, hn4, h1, h2⟩ := hrd
  have HSa4 := keep (HS3.out.step hbl hcl hf)
  have HS4 := keep (HSa4.out.set 2 (.string ⟨x4.toArray⟩) ((⟨5, 0, x4, false, [], [], []⟩, .slice none 0 0, .slice none 0 0, .slice none 0 0) : St × Value × Value × Value) rfl ⟨HSa4.out.nest.1, HSa4.out.nest.2.1, HSa4.out.nest.2.2⟩)
  have HP4 := keep (hp.set (k := w.heap.size + 1 + 1 + 1) (by omega) (by omega) 2 (.string ⟨x4.toArray⟩))
  have HA4 := keep h1
  have HB4 := keep h2
  have cE := HSa4.out.E.cell 2 rfl
  have fE := HSa4.out.E.fr 2
  obtain ⟨v4, hv4⟩ : ∃ v4, w4.setCell ⟨w.heap.size + 1 + 1 + 1, 2, none⟩ (.string ⟨x4.toArray⟩) = v4 := ⟨_, rfl⟩
  rw [hv4] at HS4 HP4
  have r4 := HS4.out.R.cell 0 rfl
  have a4 := HS4.out.A.cell 0 rfl
  clear hp hf h1 h2 HS3 HP3
  go_wp2_with fail
  clear hv4 cE fE HSa4
  refine (number_rd b c s4 (by omega) e4 0 8 v4 HP4.out).mono ?_
  rintro r w5 ⟨x5, rfl, hrd, hf⟩
  obtain ⟨s5, e5, hp, hn5, h1, h2⟩ := hrd
  have HSa5 := keep (HS4.out.step hbl hcl hf)
  have HS5 := keep (HSa5.out.set 1 (.int .i64 x5) ((⟨5, x5, x4, false, [], [], []⟩, .slice none 0 0, .slice none 0 0, .slice none 0 0) : St × Value × Value × Value) rfl ⟨HSa5.out.nest.1, HSa5.out.nest.2.1, HSa5.out.nest.2.2⟩)
  have HP5 := keep (hp.set (k := w.heap.size + 1 + 1 + 1) (by omega) (by omega) 1 (.int .i64 x5))
  have HA5 := keep h1
  have HB5 := keep h2
  have cE := HSa5.out.E.cell 1 rfl
  have fE := HSa5.out.E.fr 1
  obtain ⟨v5, hv5⟩ : ∃ v5, w5.setCell ⟨w.heap.size + 1 + 1 + 1, 1, none⟩ (.int .i64 x5) = v5 := ⟨_, rfl⟩
  rw [hv5] at HS5 HP5
  have r5 := HS5.out.R.cell 0 rfl
  have a5 := HS5.out.A.cell 0 rfl
  clear hp hf h1 h2 HS4 HP4
  go_wp2_with fail
  clear hv5 cE fE HSa5
  have hlt6 := HS5.out.E.lt
  refine (HBk.out s5 e5 v5 (by omega) HP5.out (HTf.out _ HS5.out.fs)).mono ?_
  rintro r w6 ⟨us6, sl, rfl, hst, hrd, hf⟩
  obtain ⟨p6, q6, c6, rfl⟩ := hst.slice
  obtain ⟨s6, e6, hp, hn6, h1, h2⟩ := hrd
  have HSa6 := keep (HS5.out.step hbl hcl hf)
  have HS6 := keep (HSa6.out.set 5 (.slice p6 q6 c6) ((⟨5, x5, x4, false, [], us6, []⟩, .slice none 0 0, .slice p6 q6 c6, .slice none 0 0) : St × Value × Value × Value) rfl ⟨HSa6.out.nest.1, (StX.mono (fun i hi => ⟨by have := hi.1; omega, hi.2⟩) hst), HSa6.out.nest.2.2⟩)
  have HP6 := keep (hp.set (k := w.heap.size + 1 + 1 + 1) (by omega) (by omega) 5 (.slice p6 q6 c6))
  have HA6 := keep h1
  have HB6 := keep h2
  have cE := HSa6.out.E.cell 5 rfl
  have fE := HSa6.out.E.fr 5
  obtain ⟨v6, hv6⟩ : ∃ v6, w6.setCell ⟨w.heap.size + 1 + 1 + 1, 5, none⟩ (.slice p6 q6 c6) = v6 := ⟨_, rfl⟩
  rw [hv6] at HS6 HP6
  have r6 := HS6.out.R.cell 0 rfl
  have a6 := HS6.out.A.cell 0 rfl
  clear hp hf h1 h2 HS5 HP5
  have HEf := keep HS6.out.E
  have HDf := keep HS6.out.D
  have hltf := HS6.out.E.lt
  go_wp2_with (first
    | refine wpList_load_row rfl 36 (.tmp 5) rfl (w.heap.size + 1 + 1 + 1) rfl 36 #[.int .i64 5, .int .i64 x5, .string ⟨x4.toArray⟩, .bool false, .slice none 0 0, .slice p6 q6 c6, .slice none 0 0] (0, 0) _ HEf.out Tryd.underlying36 rfl (info_S [.int .i64 5, .int .i64 x5, .string ⟨x4.toArray⟩, .bool false, .slice none 0 0, .slice p6 q6 c6, .slice none 0 0] rfl) ?_
    | refine wpList_store_row rfl 36 (.tmp 4) (.tmp 77) rfl (w.heap.size + 1 + 1) #[.int .i64 5, .int .i64 x5, .string ⟨x4.toArray⟩, .bool false, .slice none 0 0, .slice p6 q6 c6, .slice none 0 0] rfl rfl 36 #[.int .i64 0, .int .i64 0, .string ⟨#[]⟩, .bool false, .slice none 0 0, .slice none 0 0, .slice none 0 0] HDf.out (info_S [.int .i64 5, .int .i64 x5, .string ⟨x4.toArray⟩, .bool false, .slice none 0 0, .slice p6 q6 c6, .slice none 0 0] rfl) rfl (by simp [Value.oneCell']) ?_)
  (try simp only [Exit.inBlock, Exit.then])
  refine bodyPost_ret (results_cell_row rfl _ _ (w.heap.size + 1 + 1) _ #[.int .i64 5, .int .i64 x5, .string ⟨x4.toArray⟩, .bool false, .slice none 0 0, .slice p6 q6 c6, .slice none 0 0] (0, 0) _ rfl (setRow_heap _ _ _ _ _ _ HDf.out) Tryd.underlying36 rfl (info_S [.int .i64 5, .int .i64 x5, .string ⟨x4.toArray⟩, .bool false, .slice none 0 0, .slice p6 q6 c6, .slice none 0 0] rfl)) rfl ?_
  have hp9 := HP6.out.row (D := w.heap.size + 1 + 1) (by omega) (by omega) #[.int .i64 5, .int .i64 x5, .string ⟨x4.toArray⟩, .bool false, .slice none 0 0, .slice p6 q6 c6, .slice none 0 0]
  refine ⟨((⟨5, x5, x4, false, [], us6, []⟩, .slice none 0 0, .slice p6 q6 c6, .slice none 0 0) : St × Value × Value × Value), rfl, ?_, ?_, HS6.out.fs.row (by omega) _⟩
  · exact (nestS_nest _).mono _ (Yb w v6) _ _ ((nestS_nest _).keep _ _ _ _ HS6.out.nest (fun i hi => setRow_other _ _ _ _ (by have := hi.1; omega))) (fun i hi => ⟨by have := hi.1; omega, by have := hi.2; simp; omega⟩)
  · rw [stmtG]
    refine rd_then (x := W) (n1 := s.size) HA3.out HB3.out ?_ (Nat.le_refl _)
    rw [if_neg (by rw [HK.out]; decide), if_neg (by rw [HK.out]; decide), if_neg (by rw [HK.out]; decide), if_neg (by rw [HK.out]; decide), if_pos HK.out]
    refine rd_then (x := x4) (n1 := s.size) HA4.out HB4.out ?_ (Nat.le_refl _)
    refine rd_then (x := x5) (n1 := s.size) HA5.out HB5.out ?_ (Nat.le_refl _)
    refine rd_then (x := us6) (n1 := s.size) HA6.out HB6.out ?_ (Nat.le_refl _)
    exact rd_ok hp9 (by omega) rfl

set_option maxHeartbeats 8000000 in
set_option maxRecDepth 100000 in
theorem stmt_k6 (m : Nat) (hm : m ≤ 8) (ihE : ExprOK m) (ihS : StmtOK m) (b c : Nat) (s : ByteArray) (e : Int) (w : World) (hs : s.size < 1201) (h : RB w b c s e) (ht : Tabs w) (hg : GL b ∧ GL c) (hk : kindOf (wdE e s.data.toList) = 6) :
    Calls Tryd.prog 63 #[.pointer (some ⟨b, 0, none⟩), .int .i64 (8 - (m : Int))] w fun r w' => ∃ p : St × Value × Value × Value, r = .returned (.agg (stA p.1 p.2.1 p.2.2.1 p.2.2.2)) ∧ nestS (m + 2) w' (New w w') p ∧ Rd w' b c s.size e (stmtG 1201 (m + 1) (words s.data.toList)) (fun a => a = p.1) ∧ Fs [b, c] w w' := by
  have hbl := h.lt
  have hcl := h.ltc
  have HTf : Hid (∀ W, Fs [b, c] w W → Tabs W) := fun W hW => tabs_fs ht hg hW hbl hcl
  have HG := keep hg
  have HX1 : Hid (∀ (n : Nat) (k0 n0 : Int) (nm : List UInt8) (sc : Bool) (s : ByteArray) (e : Int) (W : World), n ≤ 3 → s.size < 4294967281 → RB W b c s e → SS w W b c (8 - (m : Int)) (m + 2) (⟨k0, n0, nm, sc, [], [], []⟩, .slice none 0 0, .slice none 0 0, .slice none 0 0) →
      Calls Tryd.prog 78 #[.int .i64 (n : Int), .pointer (some ⟨w.heap.size, 0, none⟩), .pointer (some ⟨w.heap.size + 1, 0, none⟩), .pointer (some ⟨w.heap.size + 1 + 1 + 1, 0, none⟩)] W fun r w' => r = .returned (.tuple #[]) ∧ ∃ (us : List Ex) (sl : Value),
        SS w w' b c (8 - (m : Int)) (m + 2) (⟨k0, n0, nm, sc, us, [], []⟩, sl, .slice none 0 0, .slice none 0 0) ∧ Rd w' b c s.size e (manyT (exprT m) n (words s.data.toList)) (fun a => a = us)) :=
    fun n k0 n0 nm sc s e W hn hs hp hS => stmt1_rd m hm ihE b c n hn _ k0 n0 nm sc w W hbl hcl s e hs hp (HTf.out _ hS.fs) hg hS
  have HBk : Hid (∀ (s : ByteArray) (e : Int) (W : World), s.size < 1201 → RB W b c s e → Tabs W → Calls Tryd.prog 30 #[.pointer (some ⟨b, 0, none⟩), .int .i64 (9 - (m : Int))] W fun r w' => ∃ (us : List St) (sl : Value), r = .returned sl ∧ StX w' (New W w') (m + 2) us sl ∧ Rd w' b c s.size e (uptoG (stmtG 1201 m) 1201 (words s.data.toList)) (fun a => a = us) ∧ Fs [b, c] W w') :=
    fun s e W hs hp hT => block_rd m ihS b c s e W hs hp hT hg
  have hd : decide (8 < 8 - (m : Int)) = false := decide_eq_false (by omega)
  have hif : (if 8 < 8 - (m : Int) then first e 9 else e) = e := if_neg (by omega)
  have HC := keep (deep_any b c s e (8 - (m : Int)) (stmtW w b (8 - (m : Int))) ((((h.up _).up _).up _).up _))
  rw [hd, hif] at HC
  have HSW := keep (stmtW_ss w b c (m + 1) (8 - (m : Int)))
  have hw8 := wrap_up m (by omega)
  have HFd : Hid (∀ v, Tabs v → Calls Tryd.prog 20 #[.string ⟨#[108, 101, 116, 32, 115, 101, 116, 32, 112, 117, 116, 32, 105, 102, 32, 102, 111, 114, 32, 114, 101, 116]⟩] v fun e w' => e = .returned (.slice (some ⟨v.heap.size, 0, none⟩) 6 6) ∧ w' = v.alloc (.cells (listA sts) 9)) :=
    fun v hv => fields_any stsB sts fields_sts (by decide) (by decide) v hv
  have HWl := keep (fun w1 (hp : RB w1 b c s e) => word_rd b c s (by omega) e w1 hp)
  clear h ht hg ihE ihS hif hd
  generalize 9 - (m : Int) = a9 at *
  generalize 8 - (m : Int) = a8 at *
  generalize wdE e s.data.toList = W at *
  have HIx : Hid (∀ (v : World) (z : Nat), Bk v z (sts.map fun l => Value.string ⟨l.toArray⟩) 9 → Calls Tryd.prog 48 #[.slice (some ⟨z, 0, none⟩) 6 6, .string ⟨W.toArray⟩] v fun e w' => e = .returned (.int .i64 (5)) ∧ w' = v) := fun v z hz => by
    have := Tryd.slices_Index_string z 0 6 6 (bys sts) ⟨W.toArray⟩ v (by decide) (by decide) (sts_cell sts hz)
    rw [idx_sts, hk] at this
    exact this
  have HK := keep hk
  clear hk
  go_enter Tryd.func63, Tryd.ntmps63
  go_wp2_with fail
  change Calls _ _ _ (stmtW w b a8) _
  refine HC.out.mono ?_
  rintro r w1 ⟨rfl, hp, hf⟩
  have hs1 := HSW.out.step hbl hcl hf
  have HPd : Hid (RB w1.drew b c s e) := hp
  have HSd : Hid (SS w w1.drew b c a8 (m + 2) (⟨0, 0, [], false, [], [], []⟩, .slice none 0 0, .slice none 0 0, .slice none 0 0)) := hs1.step hbl hcl ⟨rfl, rfl, rfl, Nat.le_refl _, fun _ _ _ => rfl⟩
  have HTd := keep (HTf.out _ HSd.out.fs)
  clear hp hf hs1 HC HSW
  go_wp2_with fail
  refine wp_region_noPanic ?_
  refine Ord.wpM_begin (fun W' : World => W'.cell? ⟨w.heap.size, 0, none⟩ = some (.pointer (some ⟨b, 0, none⟩))) [0, 3, 4] (by kernel_rfl) ?_
  generalize w1.drew = Wd at *
  have hS := HSd.out.R.cell 0 rfl
  refine Ord.wpM_take (i := 1) (v := .pointer (some ⟨b, 0, none⟩)) (by simp only [List.getElem?_toArray, List.getElem?_cons_zero, List.getElem?_cons_succ]; rfl) (by kernel_rfl) (by kernel_rfl) (by kernel_rfl) (by kernel_rfl) (fun _ _ _ h => h) (Or.inl ⟨by rfl, by intro W' hW; go_simp⟩) hS ?_
  try simp only [Act.put, List.setIfInBounds_toArray, List.set_cons_zero, List.set_cons_succ]
  clear hS
  refine Ord.wpM_one (i := 0) (by kernel_rfl) (by simp only [List.getElem?_toArray, List.getElem?_cons_zero, List.getElem?_cons_succ]; rfl) (fun K hK => ?_)
  go_simp
  refine (HFd.out _ HTd.out).mono ?_
  rintro r w2 ⟨rfl, hw2⟩
  have hb2 : Below Wd.heap.size Wd w2 := by rw [hw2]; exact (Below.refl Wd.heap.size Wd).alloc (Nat.le_refl _) _
  have HS2 := keep (HSd.out.step hbl hcl (Fs.of_below hb2))
  have HP2 := keep (HPd.out.below hb2)
  have HZ2 : Hid (Bk w2 Wd.heap.size (sts.map fun l => Value.string ⟨l.toArray⟩) 9) := by
    rw [hw2]; exact Bk.new Wd (sts.map fun l => Value.string ⟨l.toArray⟩) 9
  have hzl : w.heap.size < Wd.heap.size := HSd.out.R.lt
  clear hw2 hb2 HFd HTd HPd HSd
  obtain ⟨zb, hzb⟩ : ∃ zb, Wd.heap.size = zb := ⟨_, rfl⟩
  rw [hzb] at HZ2 hzl
  go_simp
  refine hK.out _ _ (fun _ => HS2.out.R.cell 0 rfl) ?_
  clear hK K hzb
  try simp only [Act.put, List.setIfInBounds_toArray, List.set_cons_zero, List.set_cons_succ]
  refine Ord.wpM_one (i := 2) (by kernel_rfl) (by simp only [List.getElem?_toArray, List.getElem?_cons_zero, List.getElem?_cons_succ]; rfl) (fun K hK => ?_)
  go_simp
  refine (HWl.out w2 HP2.out).mono ?_
  rintro r w3 ⟨rfl, hrd, hf⟩
  obtain ⟨s3, e3, hp, hn3, h1, h2⟩ := hrd
  have HSc := keep (HS2.out.step hbl hcl hf)
  have HPc := keep hp
  have HA3 := keep h1
  have HB3 := keep h2
  have HZ3 := keep (HZ2.out.fs hf (by simp; omega))
  clear hp hf h1 h2 HS2 HP2 HZ2 HWl
  go_simp
  refine hK.out _ _ (fun h => absurd h (by decide)) ?_
  clear hK K
  try simp only [Act.put, List.setIfInBounds_toArray, List.set_cons_zero, List.set_cons_succ]
  refine Ord.wpM_one (i := 3) (by kernel_rfl) (by simp only [List.getElem?_toArray, List.getElem?_cons_zero, List.getElem?_cons_succ]; rfl) (fun K hK => ?_)
  go_simp
  refine (HIx.out w3 zb HZ3.out).mono ?_
  rintro r w4 ⟨rfl, hw4⟩
  rw [hw4]
  clear hw4 w4
  go_simp
  have hwr : IntKind.i64.wrap 6 = 6 := by decide
  have hS := HSc.out.R.cell 0 rfl
  refine hK.out _ _ (fun _ => hS) ?_
  clear hK K HIx HZ3
  try simp only [Act.put, List.setIfInBounds_toArray, List.set_cons_zero, List.set_cons_succ]
  refine Ord.wpM_take (i := 4) (v := .int .i64 6) (by simp only [List.getElem?_toArray, List.getElem?_cons_zero, List.getElem?_cons_succ]; rfl) (by kernel_rfl) (by kernel_rfl) (by kernel_rfl) (by kernel_rfl) (fun _ _ _ h => h) (Or.inl ⟨by rfl, by intro W' hW; go_simp⟩) hS ?_
  try simp only [Act.put, List.setIfInBounds_toArray, List.set_cons_zero, List.set_cons_succ]
  refine Ord.wpM_take (i := 5) (v := .pointer (some ⟨w.heap.size + 1 + 1 + 1, 0, none⟩)) (by simp only [List.getElem?_toArray, List.getElem?_cons_zero, List.getElem?_cons_succ]; rfl) (by kernel_rfl) (by kernel_rfl) (by kernel_rfl) (by kernel_rfl) (fun _ _ _ h => h) (Or.inl ⟨by rfl, by intro W' hW; go_simp⟩) hS ?_
  try simp only [Act.put, List.setIfInBounds_toArray, List.set_cons_zero, List.set_cons_succ]
  clear hS
  refine Ord.wpM_one (i := 6) (by kernel_rfl) (by simp only [List.getElem?_toArray, List.getElem?_cons_zero, List.getElem?_cons_succ]; rfl) (fun K hK => ?_)
  have cE := HSc.out.E.cell 0 rfl
  have fE := HSc.out.E.fr 0
  go_simp
  refine hK.out _ _ (fun h => absurd h (by decide)) ?_
  clear hK K cE fE
  try simp only [Act.put, List.setIfInBounds_toArray, List.set_cons_zero, List.set_cons_succ]
  refine Ord.wpM_done (by kernel_rfl) ?_ _
  refine NoPanic.normal ?_
  have HS3 := keep (HSc.out.set 0 (.int .i64 6) ((⟨6, 0, [], false, [], [], []⟩, .slice none 0 0, .slice none 0 0, .slice none 0 0) : St × Value × Value × Value) rfl ⟨HSc.out.nest.1, HSc.out.nest.2.1, HSc.out.nest.2.2⟩)
  have HP3 := keep (HPc.out.set (k := w.heap.size + 1 + 1 + 1) (by omega) (by omega) 0 (.int .i64 6))
  obtain ⟨v3, hv3⟩ : ∃ v3, w3.setCell ⟨w.heap.size + 1 + 1 + 1, 0, none⟩ (.int .i64 6) = v3 := ⟨_, rfl⟩
  rw [hv3] at HS3 HP3
  try rw [hv3]
  have r3 := HS3.out.R.cell 0 rfl
  have a3 := HS3.out.A.cell 0 rfl
  have k3 := HS3.out.E.cell 0 rfl
  clear hv3 HSc HPc
  go_wp2_with fail
  clear k3
  refine (HX1.out 1 6 0 [] false s3 e3 v3 (by decide) (by omega) HP3.out HS3.out).mono ?_
  rintro r w4 ⟨rfl, us4, sl, hS, hrd⟩
  obtain ⟨p4, q4, c4, hsl⟩ := hS.nest.1.slice
  simp only at hsl
  subst hsl
  obtain ⟨s4, e4, hp, hn4, h1, h2⟩ := hrd
  have HS4 := keep hS
  have HP4 := keep hp
  have HA4 := keep h1
  have HB4 := keep h2
  have r4 := HS4.out.R.cell 0 rfl
  have a4 := HS4.out.A.cell 0 rfl
  clear hp hS h1 h2 HS3 HP3 HX1
  go_wp2_with fail
  refine (must_rd b c s4 (by omega) e4 ⟨#[41]⟩ w4 HP4.out).mono ?_
  rintro r w5 ⟨rfl, hrd, hf⟩
  obtain ⟨s5, e5, hp, hn5, h1, h2⟩ := hrd
  have HS5 := keep (HS4.out.step hbl hcl hf)
  have HP5 := keep hp
  have HA5 := keep h1
  have HB5 := keep h2
  have r5 := HS5.out.R.cell 0 rfl
  have a5 := HS5.out.A.cell 0 rfl
  clear hp hf h1 h2 HS4 HP4
  have HEf := keep HS5.out.E
  have HDf := keep HS5.out.D
  have hltf := HS5.out.E.lt
  go_wp2_with (first
    | refine wpList_load_row rfl 36 (.tmp 5) rfl (w.heap.size + 1 + 1 + 1) rfl 36 #[.int .i64 6, .int .i64 0, .string ⟨#[]⟩, .bool false, .slice p4 q4 c4, .slice none 0 0, .slice none 0 0] (0, 0) _ HEf.out Tryd.underlying36 rfl (info_S [.int .i64 6, .int .i64 0, .string ⟨#[]⟩, .bool false, .slice p4 q4 c4, .slice none 0 0, .slice none 0 0] rfl) ?_
    | refine wpList_store_row rfl 36 (.tmp 4) (.tmp 84) rfl (w.heap.size + 1 + 1) #[.int .i64 6, .int .i64 0, .string ⟨#[]⟩, .bool false, .slice p4 q4 c4, .slice none 0 0, .slice none 0 0] rfl rfl 36 #[.int .i64 0, .int .i64 0, .string ⟨#[]⟩, .bool false, .slice none 0 0, .slice none 0 0, .slice none 0 0] HDf.out (info_S [.int .i64 6, .int .i64 0, .string ⟨#[]⟩, .bool false, .slice p4 q4 c4, .slice none 0 0, .slice none 0 0] rfl) rfl (by simp [Value.oneCell']) ?_)
  (try simp only [Exit.inBlock, Exit.then])
  refine bodyPost_ret (results_cell_row rfl _ _ (w.heap.size + 1 + 1) _ #[.int .i64 6, .int .i64 0, .string ⟨#[]⟩, .bool false, .slice p4 q4 c4, .slice none 0 0, .slice none 0 0] (0, 0) _ rfl (setRow_heap _ _ _ _ _ _ HDf.out) Tryd.underlying36 rfl (info_S [.int .i64 6, .int .i64 0, .string ⟨#[]⟩, .bool false, .slice p4 q4 c4, .slice none 0 0, .slice none 0 0] rfl)) rfl ?_
  have hp9 := HP5.out.row (D := w.heap.size + 1 + 1) (by omega) (by omega) #[.int .i64 6, .int .i64 0, .string ⟨#[]⟩, .bool false, .slice p4 q4 c4, .slice none 0 0, .slice none 0 0]
  refine ⟨((⟨6, 0, [], false, us4, [], []⟩, .slice p4 q4 c4, .slice none 0 0, .slice none 0 0) : St × Value × Value × Value), rfl, ?_, ?_, HS5.out.fs.row (by omega) _⟩
  · exact (nestS_nest _).mono _ (Yb w w5) _ _ ((nestS_nest _).keep _ _ _ _ HS5.out.nest (fun i hi => setRow_other _ _ _ _ (by have := hi.1; omega))) (fun i hi => ⟨by have := hi.1; omega, by have := hi.2; simp; omega⟩)
  · rw [stmtG]
    refine rd_then (x := W) (n1 := s.size) HA3.out HB3.out ?_ (Nat.le_refl _)
    rw [if_neg (by rw [HK.out]; decide), if_neg (by rw [HK.out]; decide), if_neg (by rw [HK.out]; decide), if_neg (by rw [HK.out]; decide), if_neg (by rw [HK.out]; decide), if_pos HK.out]
    refine rd_then (x := us4) (n1 := s.size) HA4.out HB4.out ?_ (Nat.le_refl _)
    refine rd_go (n1 := s.size) HA5.out HB5.out ?_ (Nat.le_refl _)
    exact rd_ok hp9 (by omega) rfl

set_option maxHeartbeats 8000000 in
set_option maxRecDepth 100000 in
theorem stmt_k0 (m : Nat) (hm : m ≤ 8) (ihE : ExprOK m) (ihS : StmtOK m) (b c : Nat) (s : ByteArray) (e : Int) (w : World) (hs : s.size < 1201) (h : RB w b c s e) (ht : Tabs w) (hg : GL b ∧ GL c) (hk : kindOf (wdE e s.data.toList) = 0) :
    Calls Tryd.prog 63 #[.pointer (some ⟨b, 0, none⟩), .int .i64 (8 - (m : Int))] w fun r w' => ∃ p : St × Value × Value × Value, r = .returned (.agg (stA p.1 p.2.1 p.2.2.1 p.2.2.2)) ∧ nestS (m + 2) w' (New w w') p ∧ Rd w' b c s.size e (stmtG 1201 (m + 1) (words s.data.toList)) (fun a => a = p.1) ∧ Fs [b, c] w w' := by
  have hbl := h.lt
  have hcl := h.ltc
  have HTf : Hid (∀ W, Fs [b, c] w W → Tabs W) := fun W hW => tabs_fs ht hg hW hbl hcl
  have HG := keep hg
  have HX1 : Hid (∀ (n : Nat) (k0 n0 : Int) (nm : List UInt8) (sc : Bool) (s : ByteArray) (e : Int) (W : World), n ≤ 3 → s.size < 4294967281 → RB W b c s e → SS w W b c (8 - (m : Int)) (m + 2) (⟨k0, n0, nm, sc, [], [], []⟩, .slice none 0 0, .slice none 0 0, .slice none 0 0) →
      Calls Tryd.prog 78 #[.int .i64 (n : Int), .pointer (some ⟨w.heap.size, 0, none⟩), .pointer (some ⟨w.heap.size + 1, 0, none⟩), .pointer (some ⟨w.heap.size + 1 + 1 + 1, 0, none⟩)] W fun r w' => r = .returned (.tuple #[]) ∧ ∃ (us : List Ex) (sl : Value),
        SS w w' b c (8 - (m : Int)) (m + 2) (⟨k0, n0, nm, sc, us, [], []⟩, sl, .slice none 0 0, .slice none 0 0) ∧ Rd w' b c s.size e (manyT (exprT m) n (words s.data.toList)) (fun a => a = us)) :=
    fun n k0 n0 nm sc s e W hn hs hp hS => stmt1_rd m hm ihE b c n hn _ k0 n0 nm sc w W hbl hcl s e hs hp (HTf.out _ hS.fs) hg hS
  have HBk : Hid (∀ (s : ByteArray) (e : Int) (W : World), s.size < 1201 → RB W b c s e → Tabs W → Calls Tryd.prog 30 #[.pointer (some ⟨b, 0, none⟩), .int .i64 (9 - (m : Int))] W fun r w' => ∃ (us : List St) (sl : Value), r = .returned sl ∧ StX w' (New W w') (m + 2) us sl ∧ Rd w' b c s.size e (uptoG (stmtG 1201 m) 1201 (words s.data.toList)) (fun a => a = us) ∧ Fs [b, c] W w') :=
    fun s e W hs hp hT => block_rd m ihS b c s e W hs hp hT hg
  have hd : decide (8 < 8 - (m : Int)) = false := decide_eq_false (by omega)
  have hif : (if 8 < 8 - (m : Int) then first e 9 else e) = e := if_neg (by omega)
  have HC := keep (deep_any b c s e (8 - (m : Int)) (stmtW w b (8 - (m : Int))) ((((h.up _).up _).up _).up _))
  rw [hd, hif] at HC
  have HSW := keep (stmtW_ss w b c (m + 1) (8 - (m : Int)))
  have hw8 := wrap_up m (by omega)
  have HFd : Hid (∀ v, Tabs v → Calls Tryd.prog 20 #[.string ⟨#[108, 101, 116, 32, 115, 101, 116, 32, 112, 117, 116, 32, 105, 102, 32, 102, 111, 114, 32, 114, 101, 116]⟩] v fun e w' => e = .returned (.slice (some ⟨v.heap.size, 0, none⟩) 6 6) ∧ w' = v.alloc (.cells (listA sts) 9)) :=
    fun v hv => fields_any stsB sts fields_sts (by decide) (by decide) v hv
  have HWl := keep (fun w1 (hp : RB w1 b c s e) => word_rd b c s (by omega) e w1 hp)
  clear h ht hg ihE ihS hif hd
  generalize 9 - (m : Int) = a9 at *
  generalize 8 - (m : Int) = a8 at *
  generalize wdE e s.data.toList = W at *
  have HIx : Hid (∀ (v : World) (z : Nat), Bk v z (sts.map fun l => Value.string ⟨l.toArray⟩) 9 → Calls Tryd.prog 48 #[.slice (some ⟨z, 0, none⟩) 6 6, .string ⟨W.toArray⟩] v fun e w' => e = .returned (.int .i64 (-1)) ∧ w' = v) := fun v z hz => by
    have := Tryd.slices_Index_string z 0 6 6 (bys sts) ⟨W.toArray⟩ v (by decide) (by decide) (sts_cell sts hz)
    rw [idx_sts, hk] at this
    exact this
  have HK := keep hk
  clear hk
  go_enter Tryd.func63, Tryd.ntmps63
  go_wp2_with fail
  change Calls _ _ _ (stmtW w b a8) _
  refine HC.out.mono ?_
  rintro r w1 ⟨rfl, hp, hf⟩
  have hs1 := HSW.out.step hbl hcl hf
  have HPd : Hid (RB w1.drew b c s e) := hp
  have HSd : Hid (SS w w1.drew b c a8 (m + 2) (⟨0, 0, [], false, [], [], []⟩, .slice none 0 0, .slice none 0 0, .slice none 0 0)) := hs1.step hbl hcl ⟨rfl, rfl, rfl, Nat.le_refl _, fun _ _ _ => rfl⟩
  have HTd := keep (HTf.out _ HSd.out.fs)
  clear hp hf hs1 HC HSW
  go_wp2_with fail
  refine wp_region_noPanic ?_
  refine Ord.wpM_begin (fun W' : World => W'.cell? ⟨w.heap.size, 0, none⟩ = some (.pointer (some ⟨b, 0, none⟩))) [0, 3, 4] (by kernel_rfl) ?_
  generalize w1.drew = Wd at *
  have hS := HSd.out.R.cell 0 rfl
  refine Ord.wpM_take (i := 1) (v := .pointer (some ⟨b, 0, none⟩)) (by simp only [List.getElem?_toArray, List.getElem?_cons_zero, List.getElem?_cons_succ]; rfl) (by kernel_rfl) (by kernel_rfl) (by kernel_rfl) (by kernel_rfl) (fun _ _ _ h => h) (Or.inl ⟨by rfl, by intro W' hW; go_simp⟩) hS ?_
  try simp only [Act.put, List.setIfInBounds_toArray, List.set_cons_zero, List.set_cons_succ]
  clear hS
  refine Ord.wpM_one (i := 0) (by kernel_rfl) (by simp only [List.getElem?_toArray, List.getElem?_cons_zero, List.getElem?_cons_succ]; rfl) (fun K hK => ?_)
  go_simp
  refine (HFd.out _ HTd.out).mono ?_
  rintro r w2 ⟨rfl, hw2⟩
  have hb2 : Below Wd.heap.size Wd w2 := by rw [hw2]; exact (Below.refl Wd.heap.size Wd).alloc (Nat.le_refl _) _
  have HS2 := keep (HSd.out.step hbl hcl (Fs.of_below hb2))
  have HP2 := keep (HPd.out.below hb2)
  have HZ2 : Hid (Bk w2 Wd.heap.size (sts.map fun l => Value.string ⟨l.toArray⟩) 9) := by
    rw [hw2]; exact Bk.new Wd (sts.map fun l => Value.string ⟨l.toArray⟩) 9
  have hzl : w.heap.size < Wd.heap.size := HSd.out.R.lt
  clear hw2 hb2 HFd HTd HPd HSd
  obtain ⟨zb, hzb⟩ : ∃ zb, Wd.heap.size = zb := ⟨_, rfl⟩
  rw [hzb] at HZ2 hzl
  go_simp
  refine hK.out _ _ (fun _ => HS2.out.R.cell 0 rfl) ?_
  clear hK K hzb
  try simp only [Act.put, List.setIfInBounds_toArray, List.set_cons_zero, List.set_cons_succ]
  refine Ord.wpM_one (i := 2) (by kernel_rfl) (by simp only [List.getElem?_toArray, List.getElem?_cons_zero, List.getElem?_cons_succ]; rfl) (fun K hK => ?_)
  go_simp
  refine (HWl.out w2 HP2.out).mono ?_
  rintro r w3 ⟨rfl, hrd, hf⟩
  obtain ⟨s3, e3, hp, hn3, h1, h2⟩ := hrd
  have HSc := keep (HS2.out.step hbl hcl hf)
  have HPc := keep hp
  have HA3 := keep h1
  have HB3 := keep h2
  have HZ3 := keep (HZ2.out.fs hf (by simp; omega))
  clear hp hf h1 h2 HS2 HP2 HZ2 HWl
  go_simp
  refine hK.out _ _ (fun h => absurd h (by decide)) ?_
  clear hK K
  try simp only [Act.put, List.setIfInBounds_toArray, List.set_cons_zero, List.set_cons_succ]
  refine Ord.wpM_one (i := 3) (by kernel_rfl) (by simp only [List.getElem?_toArray, List.getElem?_cons_zero, List.getElem?_cons_succ]; rfl) (fun K hK => ?_)
  go_simp
  refine (HIx.out w3 zb HZ3.out).mono ?_
  rintro r w4 ⟨rfl, hw4⟩
  rw [hw4]
  clear hw4 w4
  go_simp
  have hwr : IntKind.i64.wrap 0 = 0 := by decide
  have hS := HSc.out.R.cell 0 rfl
  refine hK.out _ _ (fun _ => hS) ?_
  clear hK K HIx HZ3
  try simp only [Act.put, List.setIfInBounds_toArray, List.set_cons_zero, List.set_cons_succ]
  refine Ord.wpM_take (i := 4) (v := .int .i64 0) (by simp only [List.getElem?_toArray, List.getElem?_cons_zero, List.getElem?_cons_succ]; rfl) (by kernel_rfl) (by kernel_rfl) (by kernel_rfl) (by kernel_rfl) (fun _ _ _ h => h) (Or.inl ⟨by rfl, by intro W' hW; go_simp⟩) hS ?_
  try simp only [Act.put, List.setIfInBounds_toArray, List.set_cons_zero, List.set_cons_succ]
  refine Ord.wpM_take (i := 5) (v := .pointer (some ⟨w.heap.size + 1 + 1 + 1, 0, none⟩)) (by simp only [List.getElem?_toArray, List.getElem?_cons_zero, List.getElem?_cons_succ]; rfl) (by kernel_rfl) (by kernel_rfl) (by kernel_rfl) (by kernel_rfl) (fun _ _ _ h => h) (Or.inl ⟨by rfl, by intro W' hW; go_simp⟩) hS ?_
  try simp only [Act.put, List.setIfInBounds_toArray, List.set_cons_zero, List.set_cons_succ]
  clear hS
  refine Ord.wpM_one (i := 6) (by kernel_rfl) (by simp only [List.getElem?_toArray, List.getElem?_cons_zero, List.getElem?_cons_succ]; rfl) (fun K hK => ?_)
  have cE := HSc.out.E.cell 0 rfl
  have fE := HSc.out.E.fr 0
  go_simp
  refine hK.out _ _ (fun h => absurd h (by decide)) ?_
  clear hK K cE fE
  try simp only [Act.put, List.setIfInBounds_toArray, List.set_cons_zero, List.set_cons_succ]
  refine Ord.wpM_done (by kernel_rfl) ?_ _
  refine NoPanic.normal ?_
  have HS3 := keep (HSc.out.set 0 (.int .i64 0) ((⟨0, 0, [], false, [], [], []⟩, .slice none 0 0, .slice none 0 0, .slice none 0 0) : St × Value × Value × Value) rfl ⟨HSc.out.nest.1, HSc.out.nest.2.1, HSc.out.nest.2.2⟩)
  have HP3 := keep (HPc.out.set (k := w.heap.size + 1 + 1 + 1) (by omega) (by omega) 0 (.int .i64 0))
  obtain ⟨v3, hv3⟩ : ∃ v3, w3.setCell ⟨w.heap.size + 1 + 1 + 1, 0, none⟩ (.int .i64 0) = v3 := ⟨_, rfl⟩
  rw [hv3] at HS3 HP3
  try rw [hv3]
  have r3 := HS3.out.R.cell 0 rfl
  have a3 := HS3.out.A.cell 0 rfl
  have k3 := HS3.out.E.cell 0 rfl
  clear hv3 HSc HPc
  go_wp2_with fail
  clear k3
  refine (fail_any b c s3 e3 1 v3 HP3.out).mono ?_
  rintro r w4 ⟨rfl, hp, hf⟩
  have HS4 := keep (HS3.out.step hbl hcl hf)
  have HP4 := keep hp
  have r4 := HS4.out.R.cell 0 rfl
  clear hp hf HS3 HP3
  go_wp2_with fail
  refine (must_rd b c s3 (by omega) (first e3 1) ⟨#[41]⟩ w4 HP4.out).mono ?_
  rintro r w5 ⟨rfl, hrd, hf⟩
  obtain ⟨s5, e5, hp, hn5, h1, h2⟩ := hrd
  have HS5 := keep (HS4.out.step hbl hcl hf)
  have HP5 := keep hp
  have HA5 := keep h1
  have HB5 := keep h2
  have r5 := HS5.out.R.cell 0 rfl
  have a5 := HS5.out.A.cell 0 rfl
  clear hp hf h1 h2 HS4 HP4
  have HEf := keep HS5.out.E
  have HDf := keep HS5.out.D
  have hltf := HS5.out.E.lt
  go_wp2_with (first
    | refine wpList_load_row rfl 36 (.tmp 5) rfl (w.heap.size + 1 + 1 + 1) rfl 36 #[.int .i64 0, .int .i64 0, .string ⟨#[]⟩, .bool false, .slice none 0 0, .slice none 0 0, .slice none 0 0] (0, 0) _ HEf.out Tryd.underlying36 rfl (info_S [.int .i64 0, .int .i64 0, .string ⟨#[]⟩, .bool false, .slice none 0 0, .slice none 0 0, .slice none 0 0] rfl) ?_
    | refine wpList_store_row rfl 36 (.tmp 4) (.tmp 84) rfl (w.heap.size + 1 + 1) #[.int .i64 0, .int .i64 0, .string ⟨#[]⟩, .bool false, .slice none 0 0, .slice none 0 0, .slice none 0 0] rfl rfl 36 #[.int .i64 0, .int .i64 0, .string ⟨#[]⟩, .bool false, .slice none 0 0, .slice none 0 0, .slice none 0 0] HDf.out (info_S [.int .i64 0, .int .i64 0, .string ⟨#[]⟩, .bool false, .slice none 0 0, .slice none 0 0, .slice none 0 0] rfl) rfl (by simp [Value.oneCell']) ?_)
  (try simp only [Exit.inBlock, Exit.then])
  refine bodyPost_ret (results_cell_row rfl _ _ (w.heap.size + 1 + 1) _ #[.int .i64 0, .int .i64 0, .string ⟨#[]⟩, .bool false, .slice none 0 0, .slice none 0 0, .slice none 0 0] (0, 0) _ rfl (setRow_heap _ _ _ _ _ _ HDf.out) Tryd.underlying36 rfl (info_S [.int .i64 0, .int .i64 0, .string ⟨#[]⟩, .bool false, .slice none 0 0, .slice none 0 0, .slice none 0 0] rfl)) rfl ?_
  have hp9 := HP5.out.row (D := w.heap.size + 1 + 1) (by omega) (by omega) #[.int .i64 0, .int .i64 0, .string ⟨#[]⟩, .bool false, .slice none 0 0, .slice none 0 0, .slice none 0 0]
  refine ⟨((⟨0, 0, [], false, [], [], []⟩, .slice none 0 0, .slice none 0 0, .slice none 0 0) : St × Value × Value × Value), rfl, ?_, ?_, HS5.out.fs.row (by omega) _⟩
  · exact (nestS_nest _).mono _ (Yb w w5) _ _ ((nestS_nest _).keep _ _ _ _ HS5.out.nest (fun i hi => setRow_other _ _ _ _ (by have := hi.1; omega))) (fun i hi => ⟨by have := hi.1; omega, by have := hi.2; simp; omega⟩)
  · rw [stmtG]
    refine rd_then (x := W) (n1 := s.size) HA3.out HB3.out ?_ (Nat.le_refl _)
    rw [if_neg (by rw [HK.out]; decide), if_neg (by rw [HK.out]; decide), if_neg (by rw [HK.out]; decide), if_neg (by rw [HK.out]; decide), if_neg (by rw [HK.out]; decide), if_neg (by rw [HK.out]; decide)]
    have h7 : e5 = first e3 1 := by
      have hz1 : ¬ first e3 1 = 0 := by unfold first; split <;> omega
      exact HA5.out hz1
    rw [h7] at hp9
    exact rd_bad hp9 (by omega) (by decide)

set_option maxHeartbeats 2000000 in
set_option maxRecDepth 100000 in
theorem stmt_zero : StmtOK 0 := by
  intro b c s e w hs h ht hg
  have hbl := h.lt
  have hcl := h.ltc
  have HC := keep (deep_any b c s e 9 (stmtW w b 9) ((((h.up _).up _).up _).up _))
  have HSW := keep (stmtW_ss w b c 0 9)
  clear h ht hg
  show Calls _ _ #[_, .int .i64 9] _ _
  go_enter Tryd.func63, Tryd.ntmps63
  go_wp2_with fail
  change Calls _ _ _ (stmtW w b 9) _
  refine HC.out.mono ?_
  rintro r w1 ⟨rfl, hp, hf⟩
  have HS1 := keep (HSW.out.step hbl hcl hf)
  have HP1 := keep hp
  have HEf := keep HS1.out.E
  have HDf := keep HS1.out.D
  have hltf := HS1.out.E.lt
  clear hp hf HC HSW
  go_wp2_with (first
    | refine wpList_load_row rfl 36 (.tmp 5) rfl (w.heap.size + 1 + 1 + 1) rfl 36 #[.int .i64 0, .int .i64 0, .string ⟨#[]⟩, .bool false, .slice none 0 0, .slice none 0 0, .slice none 0 0] (0, 0) _ HEf.out Tryd.underlying36 rfl (info_S [.int .i64 0, .int .i64 0, .string ⟨#[]⟩, .bool false, .slice none 0 0, .slice none 0 0, .slice none 0 0] rfl) ?_
    | refine wpList_store_row rfl 36 (.tmp 4) (.tmp 10) rfl (w.heap.size + 1 + 1) #[.int .i64 0, .int .i64 0, .string ⟨#[]⟩, .bool false, .slice none 0 0, .slice none 0 0, .slice none 0 0] rfl rfl 36 #[.int .i64 0, .int .i64 0, .string ⟨#[]⟩, .bool false, .slice none 0 0, .slice none 0 0, .slice none 0 0] HDf.out (info_S [.int .i64 0, .int .i64 0, .string ⟨#[]⟩, .bool false, .slice none 0 0, .slice none 0 0, .slice none 0 0] rfl) rfl (by simp [Value.oneCell']) ?_)
  (try simp only [Exit.inBlock, Exit.then])
  refine bodyPost_ret (results_cell_row rfl _ _ (w.heap.size + 1 + 1) _ #[.int .i64 0, .int .i64 0, .string ⟨#[]⟩, .bool false, .slice none 0 0, .slice none 0 0, .slice none 0 0] (0, 0) _ rfl (setRow_heap _ _ _ _ _ _ HDf.out) Tryd.underlying36 rfl (info_S [.int .i64 0, .int .i64 0, .string ⟨#[]⟩, .bool false, .slice none 0 0, .slice none 0 0, .slice none 0 0] rfl)) rfl ?_
  refine ⟨((⟨0, 0, [], false, [], [], []⟩, .slice none 0 0, .slice none 0 0, .slice none 0 0) : St × Value × Value × Value), rfl, ?_, ?_, HS1.out.fs.row (by omega) _⟩
  · exact (nestS_nest _).mono _ (Yb w w1) _ _ ((nestS_nest _).keep _ _ _ _ HS1.out.nest (fun i hi => setRow_other _ _ _ _ (by have := hi.1; omega))) (fun i hi => ⟨by have := hi.1; omega, by have := hi.2; simp; omega⟩)
  · exact rd_bad (HP1.out.row (D := w.heap.size + 1 + 1) (by omega) (by omega) _) (Nat.le_refl _) (by decide)
theorem stmt_ok : ∀ m : Nat, m ≤ 9 → StmtOK m
  | 0, _ => stmt_zero
  | m + 1, hm => fun b c s e w hs h ht hg => by
    have ihS := stmt_ok m (by omega)
    have ihE := expr_ok m (by omega)
    have hb := kindOf_bound (wdE e s.data.toList)
    rw [show (9 : Int) - ((m + 1 : Nat) : Int) = 8 - (m : Int) by push_cast; omega]
    rcases (show kindOf (wdE e s.data.toList) = 1 ∨ kindOf (wdE e s.data.toList) = 2 ∨ kindOf (wdE e s.data.toList) = 3 ∨ kindOf (wdE e s.data.toList) = 4 ∨ kindOf (wdE e s.data.toList) = 5 ∨ kindOf (wdE e s.data.toList) = 6 ∨ kindOf (wdE e s.data.toList) = 0 by omega) with hk | hk | hk | hk | hk | hk | hk
    · exact stmt_k1 m (by omega) ihE ihS b c s e w hs h ht hg hk
    · exact stmt_k2 m (by omega) ihE ihS b c s e w hs h ht hg hk
    · exact stmt_k3 m (by omega) ihE ihS b c s e w hs h ht hg hk
    · exact stmt_k4 m (by omega) ihE ihS b c s e w hs h ht hg hk
    · exact stmt_k5 m (by omega) ihE ihS b c s e w hs h ht hg hk
    · exact stmt_k6 m (by omega) ihE ihS b c s e w hs h ht hg hk
    · exact stmt_k0 m (by omega) ihE ihS b c s e w hs h ht hg hk
end Go.Proofs.YtkobiojndamofaaDoor.Lr
