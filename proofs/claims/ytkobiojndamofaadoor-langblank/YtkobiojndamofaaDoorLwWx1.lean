/- The program's own writer: an operation of two. Written by tools/gen_we1.py. -/
import Derived.Test.YtkobiojndamofaaDoorLwWx
namespace Go.Proofs.YtkobiojndamofaaDoor.Lr
set_option linter.unusedVariables false
set_option linter.unusedSimpArgs false
open Go.ChangeShapes Go.WideShapes Go.ChangeAt Go.RowKit Lg

theorem sign_at (en : Int) (h1 : 1 ≤ en) (h2 : en ≤ 12) : (listA signs)[en.toNat - 1]? = some (.string ⟨(sign en.toNat).toArray⟩) := by
  rw [listA_at signs (en.toNat - 1) (by show _ < 12; omega)]
  rfl
set_option maxHeartbeats 8000000 in
set_option maxRecDepth 100000 in
theorem expr1_wr (B b lo m : Nat) (hB : B ≤ b) (hg : GL B) (ih : PW B b lo m) (n : Nat) (hmn : m ≤ n) (e : Ex) (h1e : 1 ≤ e.n) (h2e : e.n ≤ 12) (sl : Value) (bw be : Nat) (o : List UInt8) (w : World) (hE : EB w b bw be e sl) (hx : ExIs w B (n + 1) (ar e.args) sl)
    (hwf : ∀ a ∈ e.args, wfE m a) (hlen : e.args.length = 2) (h : WO w b lo o) (ht : Tabs w) (hl : (addsW o (sign e.n.toNat :: e.args.flatMap (toksE m))).length ≤ 1000000) :
    Calls Tryd.prog 45 #[.pointer (some ⟨bw, 0, none⟩), .pointer (some ⟨be, 0, none⟩)] w fun r w' => r = .returned (.tuple #[]) ∧ Wrote b lo w (addsW o (sign e.n.toNat :: e.args.flatMap (toksE m))) w' := by
  obtain ⟨p, na, cap, rfl, _⟩ := hx.parts
  rw [adds_cons] at hl ⊢
  have hl1 := adds_le (e.args.flatMap (toksE m)) (addW o (sign e.n.toNat))
  have HA := keep (sign_at e.n h1e h2e)
  have HX : Hid (∀ W, Wrote b lo w (addW o (sign e.n.toNat)) W → Calls Tryd.prog 43 #[.pointer (some ⟨b, 0, none⟩), .slice p na cap, .int .i64 2] W fun r w' => r = .returned (.tuple #[]) ∧ Wrote b lo W (addsW (addW o (sign e.n.toNat)) (e.args.flatMap (toksE m))) w') := fun W hW =>
    exprs_wr B b lo m hB hg ih n hmn e.args hwf _ 2 (by rw [hlen]; rfl) _ W (hx.below (hW.2.below hB h.lt h.le)) hW.1 (ht.wrote (p := []) hB hg h hW.2) hl
  have HC : Hid (∀ W, WO W b lo o → Calls Tryd.prog 34 #[.pointer (some ⟨b, 0, none⟩), .string ⟨(sign e.n.toNat).toArray⟩] W fun r w' => r = .returned (.tuple #[]) ∧ Wrote b lo W (addW o (sign e.n.toNat)) w') := fun W hW =>
    wo_word b lo o ⟨(sign e.n.toNat).toArray⟩ W hW (Nat.le_trans hl1 hl)
  have HFd : Hid (Calls Tryd.prog 20 #[.string ⟨#[43, 32, 45, 32, 38, 32, 124, 32, 94, 32, 60, 60, 32, 62, 62, 32, 42, 32, 47, 32, 37, 32, 60, 32, 61]⟩] w.drew fun e w' => e = .returned (.slice (some ⟨w.drew.heap.size, 0, none⟩) 12 12) ∧ w' = w.drew.alloc (.cells (listA signs) 9)) :=
    fields_any signsB signs fields_signs (by decide) (by decide) w.drew ht
  have HF0 : Hid (Fw b lo w w.drew) := ⟨rfl, rfl, rfl, Nat.le_refl _, fun _ _ _ _ => rfl, fun _ _ _ _ => rfl⟩
  have HE : Hid (EB w.drew b bw be e (.slice p na cap)) := hE.fw HF0.out
  have HW : Hid (WO w.drew b lo o) := h.below ⟨rfl, rfl, rfl, Nat.le_refl _, fun _ _ => rfl⟩
  clear hx hwf h ht hl hl1 ih hE
  obtain ⟨kind, en, name, args⟩ := e
  simp only at h1e h2e hlen HA HX HC HE ⊢
  have hS : (fun W' : World => W'.cell? ⟨bw, 0, none⟩ = some (.pointer (some ⟨b, 0, none⟩)) ∧ W'.cell? ⟨be, 1, none⟩ = some (.int .i64 en)) w.drew := ⟨HE.out.W.cell 0 rfl, HE.out.E.cell 1 rfl⟩
  have k0 : (0 : Int) ≤ en - 1 := by omega
  have k1 : en - 1 < 12 := by omega
  have k2 : IntKind.i64.wrap (en - 1) = en - 1 := by rw [IntKind.wrap_i64]; omega
  generalize sign en.toNat = sg at *
  go_enter Tryd.func45, Tryd.ntmps45
  go_wp2_with fail
  refine wp_region_noPanic ?_
  refine Ord.wpM_begin (fun W' : World => W'.cell? ⟨bw, 0, none⟩ = some (.pointer (some ⟨b, 0, none⟩)) ∧ W'.cell? ⟨be, 1, none⟩ = some (.int .i64 en)) [0, 1, 2, 3, 4, 5, 6, 7] (by kernel_rfl) ?_
  generalize w.drew = wd at *
  refine Ord.wpM_take (i := 0) (v := .pointer (some ⟨b, 0, none⟩)) (by simp only [List.getElem?_toArray, List.getElem?_cons_zero, List.getElem?_cons_succ]; rfl) (by kernel_rfl) (by kernel_rfl) (by kernel_rfl) (by kernel_rfl) (fun _ _ _ h => h) (Or.inl ⟨by rfl, by intro W' hW; obtain ⟨q0, q1⟩ := hW; go_simp⟩) hS ?_
  try simp only [Act.put, List.setIfInBounds_toArray, List.set_cons_zero, List.set_cons_succ]
  refine Ord.wpM_take (i := 2) (v := .pointer (some ⟨be, 1, none⟩)) (by simp only [List.getElem?_toArray, List.getElem?_cons_zero, List.getElem?_cons_succ]; rfl) (by kernel_rfl) (by kernel_rfl) (by kernel_rfl) (by kernel_rfl) (fun _ _ _ h => h) (Or.inl ⟨by rfl, by intro W' hW; obtain ⟨q0, q1⟩ := hW; go_simp⟩) hS ?_
  try simp only [Act.put, List.setIfInBounds_toArray, List.set_cons_zero, List.set_cons_succ]
  refine Ord.wpM_take (i := 3) (v := .int .i64 en) (by simp only [List.getElem?_toArray, List.getElem?_cons_zero, List.getElem?_cons_succ]; rfl) (by kernel_rfl) (by kernel_rfl) (by kernel_rfl) (by kernel_rfl) (fun _ _ _ h => h) (Or.inl ⟨by rfl, by intro W' hW; obtain ⟨q0, q1⟩ := hW; go_simp⟩) hS ?_
  try simp only [Act.put, List.setIfInBounds_toArray, List.set_cons_zero, List.set_cons_succ]
  refine Ord.wpM_take (i := 4) (v := .int .i64 (en - 1)) (by simp only [List.getElem?_toArray, List.getElem?_cons_zero, List.getElem?_cons_succ]; rfl) (by kernel_rfl) (by kernel_rfl) (by kernel_rfl) (by kernel_rfl) (fun _ _ _ h => h) (Or.inl ⟨by rfl, by intro W' hW; obtain ⟨q0, q1⟩ := hW; go_simp⟩) hS ?_
  try simp only [Act.put, List.setIfInBounds_toArray, List.set_cons_zero, List.set_cons_succ]
  refine Ord.wpM_one (i := 1) (by kernel_rfl) (by simp only [List.getElem?_toArray, List.getElem?_cons_zero, List.getElem?_cons_succ]; rfl) (fun K hK => ?_)
  go_simp
  refine HFd.out.mono ?_
  rintro r w1 ⟨rfl, hw1⟩
  have hc : w1.cell? ⟨wd.heap.size, en.toNat - 1, none⟩ = some (.string ⟨sg.toArray⟩) := by
    rw [hw1, Lib.cell_of_heap (MapKept.heap_alloc wd (.cells (listA signs) 9)).1]; exact HA.out
  have hb1 : Below wd.heap.size wd w1 := by rw [hw1]; exact (Below.refl wd.heap.size wd).alloc (Nat.le_refl _) _
  have HE1 := keep (HE.out.below hb1)
  have HW1 := keep (HW.out.below hb1)
  have HF1 := keep (HF0.out.trans (Fw.of_below hb1))
  have hS1 : (fun W' : World => W'.cell? ⟨bw, 0, none⟩ = some (.pointer (some ⟨b, 0, none⟩)) ∧ W'.cell? ⟨be, 1, none⟩ = some (.int .i64 en)) w1 := ⟨HE1.out.W.cell 0 rfl, HE1.out.E.cell 1 rfl⟩
  clear hw1 hb1 HFd HA HE HF0 HW hS
  go_simp
  refine hK.out _ _ (fun _ => hS1) ?_
  clear hK K
  try simp only [Act.put, List.setIfInBounds_toArray, List.set_cons_zero, List.set_cons_succ]
  refine Ord.wpM_one (i := 5) (by kernel_rfl) (by simp only [List.getElem?_toArray, List.getElem?_cons_zero, List.getElem?_cons_succ]; rfl) (fun K hK => ?_)
  go_simp
  refine hK.out _ _ (fun _ => hS1) ?_
  clear hK K
  try simp only [Act.put, List.setIfInBounds_toArray, List.set_cons_zero, List.set_cons_succ]
  refine Ord.wpM_one (i := 6) (by kernel_rfl) (by simp only [List.getElem?_toArray, List.getElem?_cons_zero, List.getElem?_cons_succ]; rfl) (fun K hK => ?_)
  go_simp
  refine hK.out _ _ (fun _ => hS1) ?_
  clear hK K
  try simp only [Act.put, List.setIfInBounds_toArray, List.set_cons_zero, List.set_cons_succ]
  refine Ord.wpM_one (i := 7) (by kernel_rfl) (by simp only [List.getElem?_toArray, List.getElem?_cons_zero, List.getElem?_cons_succ]; rfl) (fun K hK => ?_)
  go_simp
  refine (HC.out _ HW1.out).mono ?_
  rintro r w2 ⟨rfl, h2⟩
  have HE2 := keep (HE1.out.fw h2.2)
  have H2 : Hid (Wrote b lo w (addW o sg) w2) := ⟨h2.1, HF1.out.trans h2.2⟩
  have hS2 : (fun W' : World => W'.cell? ⟨bw, 0, none⟩ = some (.pointer (some ⟨b, 0, none⟩)) ∧ W'.cell? ⟨be, 1, none⟩ = some (.int .i64 en)) w2 := ⟨HE2.out.W.cell 0 rfl, HE2.out.E.cell 1 rfl⟩
  clear h2 HC hS1 hc HE1 HW1 HF1
  go_simp
  refine hK.out _ _ (fun _ => hS2) ?_
  clear hK K
  try simp only [Act.put, List.setIfInBounds_toArray, List.set_cons_zero, List.set_cons_succ]
  refine Ord.wpM_done (by kernel_rfl) ?_ _
  refine NoPanic.normal ?_
  have c1 := HE2.out.W.cell 0 rfl
  have c2 := HE2.out.E.cell 3 rfl
  have HC2 := keep (HX.out w2 H2.out)
  clear HX hS2
  go_wp2_with fail
  refine HC2.out.mono ?_
  rintro r w3 ⟨rfl, h3⟩
  have H3 := keep (H2.out.trans h3)
  clear h3 HC2 c1 c2
  go_wp2
  go_end0
  exact ⟨rfl, H3.out⟩
end Go.Proofs.YtkobiojndamofaaDoor.Lr
