/- The program's own writer: a statement, however deep. Written by tools/gen_wst.py. -/
import Derived.Test.YtkobiojndamofaaDoorLwWs
namespace Go.Proofs.YtkobiojndamofaaDoor.Lr
set_option linter.unusedVariables false
set_option linter.unusedSimpArgs false
open Go.ChangeShapes Go.WideShapes Go.ChangeAt Go.RowKit Lg

/-- The writer's own variables while a statement is written. -/
structure TB (w : World) (b bw bt : Nat) (t : St) (s1 s2 s3 : Value) : Prop where
  W : Bk w bw [.pointer (some ⟨b, 0, none⟩)] 66
  E : Bk w bt [.int .i64 t.kind, .int .i64 t.n, .string ⟨t.name.toArray⟩, .bool t.secret, s1, s2, s3] 36
  nw : bw ≠ b
  ne : bt ≠ b
theorem TB.fw {w w' : World} {b bw bt lo : Nat} {t : St} {s1 s2 s3 : Value} (h : TB w b bw bt t s1 s2 s3) (hf : Fw b lo w w') : TB w' b bw bt t s1 s2 s3 :=
  ⟨h.W.fw hf h.nw (by decide), h.E.fw hf h.ne (by decide), h.nw, h.ne⟩
theorem TB.below {w w' : World} {b bw bt : Nat} {t : St} {s1 s2 s3 : Value} (h : TB w b bw bt t s1 s2 s3) (hf : Below w.heap.size w w') : TB w' b bw bt t s1 s2 s3 :=
  h.fw (lo := 0) (Fw.of_below hf)
def stw (k : Nat) : List UInt8 := sts.getD (k - 1) []
theorem stw_at (kd : Int) (h1 : 1 ≤ kd) (h2 : kd ≤ 6) : (listA sts)[kd.toNat - 1]? = some (.string ⟨(stw kd.toNat).toArray⟩) := by
  rw [listA_at sts (kd.toNat - 1) (by show _ < 6; omega)]
  rfl
/-- What stands behind the first word of a statement. -/
def restS (m : Nat) (t : St) : List (List UInt8) :=
  if t.kind = 1 then lab t.secret :: t.name :: t.args.flatMap (toksE m) else if t.kind = 2 ∨ t.kind = 3 then t.name :: t.args.flatMap (toksE m)
  else if t.kind = 4 then t.args.flatMap (toksE m) ++ (([40] :: (t.thn.flatMap (toksS m) ++ [[41]])) ++ ([40] :: (t.els.flatMap (toksS m) ++ [[41]])))
  else if t.kind = 5 then t.name :: Lib.decDigits t.n.toNat :: t.thn.flatMap (toksS m) else t.args.flatMap (toksE m)
theorem wfS_kind {m : Nat} {t : St} (h : wfS (m + 1) t) : 1 ≤ t.kind ∧ t.kind ≤ 6 := by
  rcases h with ⟨(h | h | h), _⟩ | h | h | h
  all_goals (have := h.1; omega)
theorem toksS_rest {m : Nat} {t : St} (h : wfS (m + 1) t) : toksS (m + 1) t = [40] :: ((stw t.kind.toNat :: restS m t) ++ [[41]]) := by
  obtain ⟨kd, en, name, secret, args, thn, els⟩ := t
  have hk := wfS_kind h
  simp only at hk
  have : kd = 1 ∨ kd = 2 ∨ kd = 3 ∨ kd = 4 ∨ kd = 5 ∨ kd = 6 := by omega
  rcases this with e | e | e | e | e | e <;> subst e <;> simp [toksS, restS, stw, sts]
set_option maxHeartbeats 8000000 in
set_option maxRecDepth 100000 in
theorem stmt1_wr (B b lo e m : Nat) (hB : B ≤ b) (hg : GL B) (hme : m ≤ e) (ih : SW B b lo e m) (n : Nat) (hmn : m ≤ n) (t : St) (s1 s2 s3 : Value) (bw bt : Nat) (o : List UInt8) (w : World) (hT : TB w b bw bt t s1 s2 s3)
    (hx1 : ExIs w B (e + 1) (ar t.args) s1) (hx2 : StIs w B e (n + 1) t.thn s2) (hx3 : StIs w B e (n + 1) t.els s3) (hwf : wfS (m + 1) t) (h : WO w b lo o) (ht : Tabs w) (hl : (addsW o (stw t.kind.toNat :: restS m t)).length ≤ 1000000) :
    Calls Tryd.prog 41 #[.pointer (some ⟨bw, 0, none⟩), .pointer (some ⟨bt, 0, none⟩)] w fun r w' => r = .returned (.tuple #[]) ∧ Wrote b lo w (addsW o (stw t.kind.toNat :: restS m t)) w' := by
  obtain ⟨p1, n1, c1, rfl, _⟩ := hx1.parts
  obtain ⟨p2, n2, c2, rfl⟩ := hx2.slice
  obtain ⟨p3, n3, c3, rfl⟩ := hx3.slice
  rw [adds_cons] at hl ⊢
  have hl1 := adds_le (restS m t) (addW o (stw t.kind.toNat))
  have hk := wfS_kind hwf
  have HA := keep (stw_at t.kind hk.1 hk.2)
  have HC : Hid (∀ W, WO W b lo o → Calls Tryd.prog 34 #[.pointer (some ⟨b, 0, none⟩), .string ⟨(stw t.kind.toNat).toArray⟩] W fun r w' => r = .returned (.tuple #[]) ∧ Wrote b lo W (addW o (stw t.kind.toNat)) w') := fun W hW =>
    wo_word b lo o ⟨(stw t.kind.toNat).toArray⟩ W hW (Nat.le_trans hl1 hl)
  have HFd : Hid (Calls Tryd.prog 20 #[.string ⟨#[108, 101, 116, 32, 115, 101, 116, 32, 112, 117, 116, 32, 105, 102, 32, 102, 111, 114, 32, 114, 101, 116]⟩] w.drew fun e w' => e = .returned (.slice (some ⟨w.drew.heap.size, 0, none⟩) 6 6) ∧ w' = w.drew.alloc (.cells (listA sts) 9)) :=
    fields_any stsB sts fields_sts (by decide) (by decide) w.drew ht
  have HF0 : Hid (Fw b lo w w.drew) := ⟨rfl, rfl, rfl, Nat.le_refl _, fun _ _ _ _ => rfl, fun _ _ _ _ => rfl⟩
  have HT : Hid (TB w.drew b bw bt t (.slice p1 n1 c1) (.slice p2 n2 c2) (.slice p3 n3 c3)) := hT.fw HF0.out
  have HW : Hid (WO w.drew b lo o) := h.below ⟨rfl, rfl, rfl, Nat.le_refl _, fun _ _ => rfl⟩
  obtain ⟨kd, en, name, secret, args, thn, els⟩ := t
  have HB : Hid (∀ W, Fw b lo w W → Below B w W) := fun W hW => hW.below hB h.lt h.le
  have HTa : Hid (∀ W, Fw b lo w W → Tabs W) := fun W hW => ht.wrote (p := []) hB hg h hW
  have HX1 := keep hx1
  have HX2 := keep hx2
  have HX3 := keep hx3
  have HWf := keep hwf
  have HL := keep hl
  have HG := keep hg
  have IH := keep ih
  clear hx1 hx2 hx3 hwf h ht hl hl1 ih hT hg
  simp only at hk HA HC HT HX1 HX2 HX3 HL ⊢
  have hS : (fun W' : World => W'.cell? ⟨bw, 0, none⟩ = some (.pointer (some ⟨b, 0, none⟩)) ∧ W'.cell? ⟨bt, 0, none⟩ = some (.int .i64 kd)) w.drew := ⟨HT.out.W.cell 0 rfl, HT.out.E.cell 0 rfl⟩
  obtain ⟨h1e, h2e⟩ := hk
  have k0 : (0 : Int) ≤ kd - 1 := by omega
  have k1 : kd - 1 < 6 := by omega
  have k2 : IntKind.i64.wrap (kd - 1) = kd - 1 := by rw [IntKind.wrap_i64]; omega
  generalize stw kd.toNat = sg at *
  obtain ⟨O, hO⟩ : ∃ O, addW o sg = O := ⟨_, rfl⟩
  rw [hO] at HC HL ⊢
  clear hO
  go_enter Tryd.func41, Tryd.ntmps41
  go_wp2_with fail
  refine wp_region_noPanic ?_
  refine Ord.wpM_begin (fun W' : World => W'.cell? ⟨bw, 0, none⟩ = some (.pointer (some ⟨b, 0, none⟩)) ∧ W'.cell? ⟨bt, 0, none⟩ = some (.int .i64 kd)) [0, 1, 2, 3, 4, 5, 6, 7] (by kernel_rfl) ?_
  generalize w.drew = wd at *
  refine Ord.wpM_take (i := 0) (v := .pointer (some ⟨b, 0, none⟩)) (by simp only [List.getElem?_toArray, List.getElem?_cons_zero, List.getElem?_cons_succ]; rfl) (by kernel_rfl) (by kernel_rfl) (by kernel_rfl) (by kernel_rfl) (fun _ _ _ h => h) (Or.inl ⟨by rfl, by intro W' hW; obtain ⟨q0, q1⟩ := hW; go_simp⟩) hS ?_
  try simp only [Act.put, List.setIfInBounds_toArray, List.set_cons_zero, List.set_cons_succ]
  refine Ord.wpM_take (i := 2) (v := .pointer (some ⟨bt, 0, none⟩)) (by simp only [List.getElem?_toArray, List.getElem?_cons_zero, List.getElem?_cons_succ]; rfl) (by kernel_rfl) (by kernel_rfl) (by kernel_rfl) (by kernel_rfl) (fun _ _ _ h => h) (Or.inl ⟨by rfl, by intro W' hW; obtain ⟨q0, q1⟩ := hW; go_simp⟩) hS ?_
  try simp only [Act.put, List.setIfInBounds_toArray, List.set_cons_zero, List.set_cons_succ]
  refine Ord.wpM_take (i := 3) (v := .int .i64 kd) (by simp only [List.getElem?_toArray, List.getElem?_cons_zero, List.getElem?_cons_succ]; rfl) (by kernel_rfl) (by kernel_rfl) (by kernel_rfl) (by kernel_rfl) (fun _ _ _ h => h) (Or.inl ⟨by rfl, by intro W' hW; obtain ⟨q0, q1⟩ := hW; go_simp⟩) hS ?_
  try simp only [Act.put, List.setIfInBounds_toArray, List.set_cons_zero, List.set_cons_succ]
  refine Ord.wpM_take (i := 4) (v := .int .i64 (kd - 1)) (by simp only [List.getElem?_toArray, List.getElem?_cons_zero, List.getElem?_cons_succ]; rfl) (by kernel_rfl) (by kernel_rfl) (by kernel_rfl) (by kernel_rfl) (fun _ _ _ h => h) (Or.inl ⟨by rfl, by intro W' hW; obtain ⟨q0, q1⟩ := hW; go_simp⟩) hS ?_
  try simp only [Act.put, List.setIfInBounds_toArray, List.set_cons_zero, List.set_cons_succ]
  refine Ord.wpM_one (i := 1) (by kernel_rfl) (by simp only [List.getElem?_toArray, List.getElem?_cons_zero, List.getElem?_cons_succ]; rfl) (fun K hK => ?_)
  go_simp
  refine HFd.out.mono ?_
  rintro r w1 ⟨rfl, hw1⟩
  have hc : w1.cell? ⟨wd.heap.size, kd.toNat - 1, none⟩ = some (.string ⟨sg.toArray⟩) := by
    rw [hw1, Lib.cell_of_heap (MapKept.heap_alloc wd (.cells (listA sts) 9)).1]; exact HA.out
  have hb1 : Below wd.heap.size wd w1 := by rw [hw1]; exact (Below.refl wd.heap.size wd).alloc (Nat.le_refl _) _
  have HT1 := keep (HT.out.below hb1)
  have HW1 := keep (HW.out.below hb1)
  have HF1 := keep (HF0.out.trans (Fw.of_below hb1))
  have hS1 : (fun W' : World => W'.cell? ⟨bw, 0, none⟩ = some (.pointer (some ⟨b, 0, none⟩)) ∧ W'.cell? ⟨bt, 0, none⟩ = some (.int .i64 kd)) w1 := ⟨HT1.out.W.cell 0 rfl, HT1.out.E.cell 0 rfl⟩
  clear hw1 hb1 HFd HA HT HF0 HW hS
  go_simp
  refine hK.out _ _ (fun _ => hS1) ?_
  clear hK K
  try simp only [Act.put, List.setIfInBounds_toArray, List.set_cons_zero, List.set_cons_succ]
  refine Ord.wpM_one (i := 5) (by kernel_rfl) (by simp only [List.getElem?_toArray, List.getElem?_cons_zero, List.getElem?_cons_succ]; rfl) (fun K hK => ?_)
  go_simp
  refine hK.out _ _ (fun _ => hS1) ?_
  clear hK K
  try simp only [Act.put, List.setIfInBounds_toArray, List.set_cons_zero, List.set_cons_succ]
  refine Ord.wpM_one (i := 6) (by kernel_rfl) (by simp only [List.getElem?_toArray, List.getElem?_cons_zero, List.getElem?_cons_succ]; rfl) (fun K hK => ?_)
  go_simp
  refine hK.out _ _ (fun _ => hS1) ?_
  clear hK K
  try simp only [Act.put, List.setIfInBounds_toArray, List.set_cons_zero, List.set_cons_succ]
  refine Ord.wpM_one (i := 7) (by kernel_rfl) (by simp only [List.getElem?_toArray, List.getElem?_cons_zero, List.getElem?_cons_succ]; rfl) (fun K hK => ?_)
  go_simp
  refine (HC.out _ HW1.out).mono ?_
  rintro r w2 ⟨rfl, h2⟩
  have T2 := keep (HT1.out.fw h2.2)
  have H2 : Hid (Wrote b lo w O w2) := ⟨h2.1, HF1.out.trans h2.2⟩
  have hS2 : (fun W' : World => W'.cell? ⟨bw, 0, none⟩ = some (.pointer (some ⟨b, 0, none⟩)) ∧ W'.cell? ⟨bt, 0, none⟩ = some (.int .i64 kd)) w2 := ⟨T2.out.W.cell 0 rfl, T2.out.E.cell 0 rfl⟩
  clear h2 HC hS1 hc HT1 HW1 HF1
  go_simp
  refine hK.out _ _ (fun _ => hS2) ?_
  clear hK K
  try simp only [Act.put, List.setIfInBounds_toArray, List.set_cons_zero, List.set_cons_succ]
  refine Ord.wpM_done (by kernel_rfl) ?_ _
  refine NoPanic.normal ?_
  clear hS2
  rcases HWf.out with ⟨hk, k3, k4, k5, a, k6, k7⟩ | ⟨k3, k4, k5, k6, k7, k8, a, a', k9, k10, k11⟩ | ⟨k3, k4, k5, k6, ⟨a, k7, k8⟩, hw2, hw3⟩ | ⟨k3, k4, k5, k6, k7, k8, k9, hw2⟩
  · simp only at hk k3 k4 k5 k6
    have hwA : ∀ x ∈ args, wfE m x := by rw [k6]; intro x hx; rw [List.mem_singleton] at hx; rw [hx]; exact k7
    have hln : args.length = 1 := by rw [k6]; rfl
    clear k6 k7 HWf
    rcases hk with ⟨k, _⟩ | ⟨k, _⟩ | ⟨k, _⟩
    · subst k
      have hq : addsW O (restS m ⟨1, en, name, secret, args, thn, els⟩) = addsW (addW (addW (O) (lab secret)) name) (args.flatMap (toksE m)) := by rw [show restS m ⟨1, en, name, secret, args, thn, els⟩ = lab secret :: name :: args.flatMap (toksE m) from rfl, adds_cons, adds_cons]
      have HQ := keep hq
      have hl := HL.out
      rw [hq] at hl
      clear hq
      clear HL k0 k1 k2 h1e h2e
      have hlN : (addsW (addW (addW (O) (lab secret)) name) (args.flatMap (toksE m))).length ≤ 1000000 := hl
      have hl2 : (addW (addW (O) (lab secret)) name).length ≤ 1000000 := Nat.le_trans (adds_le _ _) hlN
      have hl1 : (addW (O) (lab secret)).length ≤ 1000000 := Nat.le_trans (add_le _ _) hl2
      have a0 := T2.out.W.cell 0 rfl
      have b0 := T2.out.E.cell 3 rfl
      have bk := T2.out.E.cell 0 rfl
      have HC0 : Hid (Calls Tryd.prog 42 #[.pointer (some ⟨b, 0, none⟩), .bool secret] w2 fun r w' => r = .returned (.tuple #[]) ∧ Wrote b lo w2 (addW (O) (lab secret)) w') := label_wr b lo (O) secret w2 H2.out.1 hl1
      go_wp2_with fail
      refine HC0.out.mono ?_
      rintro r w3 ⟨rfl, h⟩
      have H3 := keep (H2.out.trans h)
      have T3 := keep (T2.out.fw h.2)
      clear h HC0 a0 b0 bk
      have a1 := T3.out.W.cell 0 rfl
      have b1 := T3.out.E.cell 2 rfl
      have HC1 : Hid (Calls Tryd.prog 34 #[.pointer (some ⟨b, 0, none⟩), .string ⟨name.toArray⟩] w3 fun r w' => r = .returned (.tuple #[]) ∧ Wrote b lo w3 (addW (addW (O) (lab secret)) name) w') := wo_word b lo (addW (O) (lab secret)) ⟨name.toArray⟩ w3 H3.out.1 hl2
      go_wp2_with fail
      refine HC1.out.mono ?_
      rintro r w4 ⟨rfl, h⟩
      have H4 := keep (H3.out.trans h)
      have T4 := keep (T3.out.fw h.2)
      clear h HC1 a1 b1
      have a2 := T4.out.W.cell 0 rfl
      have b2 := T4.out.E.cell 4 rfl
      have HC2 : Hid (Calls Tryd.prog 43 #[.pointer (some ⟨b, 0, none⟩), .slice p1 n1 c1, .int .i64 1] w4 fun r w' => r = .returned (.tuple #[]) ∧ Wrote b lo w4 (addsW (addW (addW (O) (lab secret)) name) (args.flatMap (toksE m))) w') := exprs_wr B b lo m hB HG.out (expr_wr B b lo hB HG.out m) e hme args hwA _ 1 (by rw [hln]; rfl) (addW (addW (O) (lab secret)) name) w4 (HX1.out.below (HB.out _ H4.out.2)) H4.out.1 (HTa.out _ H4.out.2) hlN
      go_wp2_with fail
      refine HC2.out.mono ?_
      rintro r w5 ⟨rfl, h⟩
      have H5 := keep (H4.out.trans h)
      have T5 := keep (T4.out.fw h.2)
      clear h HC2 a2 b2
      go_wp2
      go_end0
      refine ⟨rfl, ?_⟩
      rw [HQ.out]
      exact H5.out
    · subst k
      have hq : addsW O (restS m ⟨2, en, name, secret, args, thn, els⟩) = addsW (addW (O) name) (args.flatMap (toksE m)) := by rw [show restS m ⟨2, en, name, secret, args, thn, els⟩ = name :: args.flatMap (toksE m) from rfl, adds_cons]
      have HQ := keep hq
      have hl := HL.out
      rw [hq] at hl
      clear hq
      clear HL k0 k1 k2 h1e h2e
      have hlN : (addsW (addW (O) name) (args.flatMap (toksE m))).length ≤ 1000000 := hl
      have hl1 : (addW (O) name).length ≤ 1000000 := Nat.le_trans (adds_le _ _) hlN
      have a0 := T2.out.W.cell 0 rfl
      have b0 := T2.out.E.cell 2 rfl
      have bk := T2.out.E.cell 0 rfl
      have HC0 : Hid (Calls Tryd.prog 34 #[.pointer (some ⟨b, 0, none⟩), .string ⟨name.toArray⟩] w2 fun r w' => r = .returned (.tuple #[]) ∧ Wrote b lo w2 (addW (O) name) w') := wo_word b lo (O) ⟨name.toArray⟩ w2 H2.out.1 hl1
      go_wp2_with fail
      refine HC0.out.mono ?_
      rintro r w3 ⟨rfl, h⟩
      have H3 := keep (H2.out.trans h)
      have T3 := keep (T2.out.fw h.2)
      clear h HC0 a0 b0 bk
      have a1 := T3.out.W.cell 0 rfl
      have b1 := T3.out.E.cell 4 rfl
      have HC1 : Hid (Calls Tryd.prog 43 #[.pointer (some ⟨b, 0, none⟩), .slice p1 n1 c1, .int .i64 1] w3 fun r w' => r = .returned (.tuple #[]) ∧ Wrote b lo w3 (addsW (addW (O) name) (args.flatMap (toksE m))) w') := exprs_wr B b lo m hB HG.out (expr_wr B b lo hB HG.out m) e hme args hwA _ 1 (by rw [hln]; rfl) (addW (O) name) w3 (HX1.out.below (HB.out _ H3.out.2)) H3.out.1 (HTa.out _ H3.out.2) hlN
      go_wp2_with fail
      refine HC1.out.mono ?_
      rintro r w4 ⟨rfl, h⟩
      have H4 := keep (H3.out.trans h)
      have T4 := keep (T3.out.fw h.2)
      clear h HC1 a1 b1
      go_wp2
      go_end0
      refine ⟨rfl, ?_⟩
      rw [HQ.out]
      exact H4.out
    · subst k
      have hq : addsW O (restS m ⟨6, en, name, secret, args, thn, els⟩) = addsW (O) (args.flatMap (toksE m)) := by rw [show restS m ⟨6, en, name, secret, args, thn, els⟩ = args.flatMap (toksE m) from rfl]
      have HQ := keep hq
      have hl := HL.out
      rw [hq] at hl
      clear hq
      clear HL k0 k1 k2 h1e h2e
      have hlN : (addsW (O) (args.flatMap (toksE m))).length ≤ 1000000 := hl
      have a0 := T2.out.W.cell 0 rfl
      have b0 := T2.out.E.cell 4 rfl
      have bk := T2.out.E.cell 0 rfl
      have HC0 : Hid (Calls Tryd.prog 43 #[.pointer (some ⟨b, 0, none⟩), .slice p1 n1 c1, .int .i64 1] w2 fun r w' => r = .returned (.tuple #[]) ∧ Wrote b lo w2 (addsW (O) (args.flatMap (toksE m))) w') := exprs_wr B b lo m hB HG.out (expr_wr B b lo hB HG.out m) e hme args hwA _ 1 (by rw [hln]; rfl) (O) w2 (HX1.out.below (HB.out _ H2.out.2)) H2.out.1 (HTa.out _ H2.out.2) hlN
      go_wp2_with fail
      refine HC0.out.mono ?_
      rintro r w3 ⟨rfl, h⟩
      have H3 := keep (H2.out.trans h)
      have T3 := keep (T2.out.fw h.2)
      clear h HC0 a0 b0 bk
      go_wp2
      go_end0
      refine ⟨rfl, ?_⟩
      rw [HQ.out]
      exact H3.out
  · simp only at k3 k9
    have hwA : ∀ x ∈ args, wfE m x := by
      rw [k9]; intro x hx
      rw [List.mem_cons, List.mem_singleton] at hx
      rcases hx with e | e
      · rw [e]; exact k10
      · rw [e]; exact k11
    have hln : args.length = 2 := by rw [k9]; rfl
    clear k9 k10 k11 k4 k5 k6 k7 k8 HWf
    subst k3
    have hq : addsW O (restS m ⟨3, en, name, secret, args, thn, els⟩) = addsW (addW (O) name) (args.flatMap (toksE m)) := by rw [show restS m ⟨3, en, name, secret, args, thn, els⟩ = name :: args.flatMap (toksE m) from rfl, adds_cons]
    have HQ := keep hq
    have hl := HL.out
    rw [hq] at hl
    clear hq
    clear HL k0 k1 k2 h1e h2e
    have hlN : (addsW (addW (O) name) (args.flatMap (toksE m))).length ≤ 1000000 := hl
    have hl1 : (addW (O) name).length ≤ 1000000 := Nat.le_trans (adds_le _ _) hlN
    have a0 := T2.out.W.cell 0 rfl
    have b0 := T2.out.E.cell 2 rfl
    have bk := T2.out.E.cell 0 rfl
    have HC0 : Hid (Calls Tryd.prog 34 #[.pointer (some ⟨b, 0, none⟩), .string ⟨name.toArray⟩] w2 fun r w' => r = .returned (.tuple #[]) ∧ Wrote b lo w2 (addW (O) name) w') := wo_word b lo (O) ⟨name.toArray⟩ w2 H2.out.1 hl1
    go_wp2_with fail
    refine HC0.out.mono ?_
    rintro r w3 ⟨rfl, h⟩
    have H3 := keep (H2.out.trans h)
    have T3 := keep (T2.out.fw h.2)
    clear h HC0 a0 b0 bk
    have a1 := T3.out.W.cell 0 rfl
    have b1 := T3.out.E.cell 4 rfl
    have HC1 : Hid (Calls Tryd.prog 43 #[.pointer (some ⟨b, 0, none⟩), .slice p1 n1 c1, .int .i64 2] w3 fun r w' => r = .returned (.tuple #[]) ∧ Wrote b lo w3 (addsW (addW (O) name) (args.flatMap (toksE m))) w') := exprs_wr B b lo m hB HG.out (expr_wr B b lo hB HG.out m) e hme args hwA _ 2 (by rw [hln]; rfl) (addW (O) name) w3 (HX1.out.below (HB.out _ H3.out.2)) H3.out.1 (HTa.out _ H3.out.2) hlN
    go_wp2_with fail
    refine HC1.out.mono ?_
    rintro r w4 ⟨rfl, h⟩
    have H4 := keep (H3.out.trans h)
    have T4 := keep (T3.out.fw h.2)
    clear h HC1 a1 b1
    go_wp2
    go_end0
    refine ⟨rfl, ?_⟩
    rw [HQ.out]
    exact H4.out
  · simp only at k3 k7 hw2 hw3
    have hwA : ∀ x ∈ args, wfE m x := by rw [k7]; intro x hx; rw [List.mem_singleton] at hx; rw [hx]; exact k8
    have hln : args.length = 1 := by rw [k7]; rfl
    clear k7 k8 k4 k5 k6 HWf
    subst k3
    have hq : addsW O (restS m ⟨4, en, name, secret, args, thn, els⟩) = addsW (addsW (addsW (O) (args.flatMap (toksE m))) ([40] :: (thn.flatMap (toksS m) ++ [[41]]))) ([40] :: (els.flatMap (toksS m) ++ [[41]])) := by rw [show restS m ⟨4, en, name, secret, args, thn, els⟩ = args.flatMap (toksE m) ++ (([40] :: (thn.flatMap (toksS m) ++ [[41]])) ++ ([40] :: (els.flatMap (toksS m) ++ [[41]]))) from rfl, adds_app, adds_app]
    have HQ := keep hq
    have hl := HL.out
    rw [hq] at hl
    clear hq
    clear HL k0 k1 k2 h1e h2e
    have hlN : (addsW (addsW (addsW (O) (args.flatMap (toksE m))) ([40] :: (thn.flatMap (toksS m) ++ [[41]]))) ([40] :: (els.flatMap (toksS m) ++ [[41]]))).length ≤ 1000000 := hl
    have hl2 : (addsW (addsW (O) (args.flatMap (toksE m))) ([40] :: (thn.flatMap (toksS m) ++ [[41]]))).length ≤ 1000000 := Nat.le_trans (adds_le _ _) hlN
    have hl1 : (addsW (O) (args.flatMap (toksE m))).length ≤ 1000000 := Nat.le_trans (adds_le _ _) hl2
    have a0 := T2.out.W.cell 0 rfl
    have b0 := T2.out.E.cell 4 rfl
    have bk := T2.out.E.cell 0 rfl
    have HC0 : Hid (Calls Tryd.prog 43 #[.pointer (some ⟨b, 0, none⟩), .slice p1 n1 c1, .int .i64 1] w2 fun r w' => r = .returned (.tuple #[]) ∧ Wrote b lo w2 (addsW (O) (args.flatMap (toksE m))) w') := exprs_wr B b lo m hB HG.out (expr_wr B b lo hB HG.out m) e hme args hwA _ 1 (by rw [hln]; rfl) (O) w2 (HX1.out.below (HB.out _ H2.out.2)) H2.out.1 (HTa.out _ H2.out.2) hl1
    go_wp2_with fail
    refine HC0.out.mono ?_
    rintro r w3 ⟨rfl, h⟩
    have H3 := keep (H2.out.trans h)
    have T3 := keep (T2.out.fw h.2)
    clear h HC0 a0 b0 bk
    have a1 := T3.out.W.cell 0 rfl
    have b1 := T3.out.E.cell 5 rfl
    have HC1 : Hid (Calls Tryd.prog 44 #[.pointer (some ⟨b, 0, none⟩), .slice p2 n2 c2] w3 fun r w' => r = .returned (.tuple #[]) ∧ Wrote b lo w3 (addsW (addsW (O) (args.flatMap (toksE m))) ([40] :: (thn.flatMap (toksS m) ++ [[41]]))) w') := block_wr B b lo e m hB HG.out IH.out n hmn thn hw2 _ (addsW (O) (args.flatMap (toksE m))) w3 (HX2.out.below (HB.out _ H3.out.2)) H3.out.1 (HTa.out _ H3.out.2) hl2
    go_wp2_with fail
    refine HC1.out.mono ?_
    rintro r w4 ⟨rfl, h⟩
    have H4 := keep (H3.out.trans h)
    have T4 := keep (T3.out.fw h.2)
    clear h HC1 a1 b1
    have a2 := T4.out.W.cell 0 rfl
    have b2 := T4.out.E.cell 6 rfl
    have HC2 : Hid (Calls Tryd.prog 44 #[.pointer (some ⟨b, 0, none⟩), .slice p3 n3 c3] w4 fun r w' => r = .returned (.tuple #[]) ∧ Wrote b lo w4 (addsW (addsW (addsW (O) (args.flatMap (toksE m))) ([40] :: (thn.flatMap (toksS m) ++ [[41]]))) ([40] :: (els.flatMap (toksS m) ++ [[41]]))) w') := block_wr B b lo e m hB HG.out IH.out n hmn els hw3 _ (addsW (addsW (O) (args.flatMap (toksE m))) ([40] :: (thn.flatMap (toksS m) ++ [[41]]))) w4 (HX3.out.below (HB.out _ H4.out.2)) H4.out.1 (HTa.out _ H4.out.2) hlN
    go_wp2_with fail
    refine HC2.out.mono ?_
    rintro r w5 ⟨rfl, h⟩
    have H5 := keep (H4.out.trans h)
    have T5 := keep (T4.out.fw h.2)
    clear h HC2 a2 b2
    go_wp2
    go_end0
    refine ⟨rfl, ?_⟩
    rw [HQ.out]
    exact H5.out
  · simp only at k3 k6 k7 hw2
    clear k4 k5 k8 k9 HWf
    subst k3
    have hq : addsW O (restS m ⟨5, en, name, secret, args, thn, els⟩) = addsW (addW (addW (O) name) (Lib.itoa en)) (thn.flatMap (toksS m)) := by rw [show restS m ⟨5, en, name, secret, args, thn, els⟩ = name :: Lib.itoa en :: thn.flatMap (toksS m) by rw [itoa_dec k6]; rfl, adds_cons, adds_cons]
    have HQ := keep hq
    have hl := HL.out
    rw [hq] at hl
    clear hq
    clear HL k0 k1 k2 h1e h2e
    have hlN : (addsW (addW (addW (O) name) (Lib.itoa en)) (thn.flatMap (toksS m))).length ≤ 1000000 := hl
    have hl2 : (addW (addW (O) name) (Lib.itoa en)).length ≤ 1000000 := Nat.le_trans (adds_le _ _) hlN
    have hl1 : (addW (O) name).length ≤ 1000000 := Nat.le_trans (add_le _ _) hl2
    have a0 := T2.out.W.cell 0 rfl
    have b0 := T2.out.E.cell 2 rfl
    have bk := T2.out.E.cell 0 rfl
    have HC0 : Hid (Calls Tryd.prog 34 #[.pointer (some ⟨b, 0, none⟩), .string ⟨name.toArray⟩] w2 fun r w' => r = .returned (.tuple #[]) ∧ Wrote b lo w2 (addW (O) name) w') := wo_word b lo (O) ⟨name.toArray⟩ w2 H2.out.1 hl1
    go_wp2_with fail
    refine HC0.out.mono ?_
    rintro r w3 ⟨rfl, h⟩
    have H3 := keep (H2.out.trans h)
    have T3 := keep (T2.out.fw h.2)
    clear h HC0 a0 b0 bk
    have a1 := T3.out.W.cell 0 rfl
    have b1 := T3.out.E.cell 1 rfl
    have HC1 : Hid (Calls Tryd.prog 38 #[.pointer (some ⟨b, 0, none⟩), .int .i64 en] w3 fun r w' => r = .returned (.tuple #[]) ∧ Wrote b lo w3 (addW (addW (O) name) (Lib.itoa en)) w') := number_wr b lo (addW (O) name) en (by omega) (by omega) w3 H3.out.1 (HTa.out _ H3.out.2) hl2
    go_wp2_with fail
    refine HC1.out.mono ?_
    rintro r w4 ⟨rfl, h⟩
    have H4 := keep (H3.out.trans h)
    have T4 := keep (T3.out.fw h.2)
    clear h HC1 a1 b1
    have a2 := T4.out.W.cell 0 rfl
    have b2 := T4.out.E.cell 5 rfl
    have HC2 : Hid (Calls Tryd.prog 39 #[.pointer (some ⟨b, 0, none⟩), .slice p2 n2 c2] w4 fun r w' => r = .returned (.tuple #[]) ∧ Wrote b lo w4 (addsW (addW (addW (O) name) (Lib.itoa en)) (thn.flatMap (toksS m))) w') := stmts_wr B b lo e m hB HG.out IH.out n hmn thn hw2 _ (addW (addW (O) name) (Lib.itoa en)) w4 (HX2.out.below (HB.out _ H4.out.2)) H4.out.1 (HTa.out _ H4.out.2) hlN
    go_wp2_with fail
    refine HC2.out.mono ?_
    rintro r w5 ⟨rfl, h⟩
    have H5 := keep (H4.out.trans h)
    have T5 := keep (T4.out.fw h.2)
    clear h HC2 a2 b2
    go_wp2
    go_end0
    refine ⟨rfl, ?_⟩
    rw [HQ.out]
    exact H5.out

set_option maxHeartbeats 8000000 in
set_option maxRecDepth 100000 in
theorem stmt_step (B b lo e m : Nat) (hB : B ≤ b) (hg : GL B) (hme : m ≤ e) (ih : SW B b lo e m) (n : Nat) (hmn : m ≤ n) (t : St) (s1 s2 s3 : Value) (out : List UInt8) (w : World)
    (hx1 : ExIs w B (e + 1) (ar t.args) s1) (hx2 : StIs w B e (n + 1) t.thn s2) (hx3 : StIs w B e (n + 1) t.els s3) (hwf : wfS (m + 1) t) (h : WO w b lo out) (ht : Tabs w) (hl : (addsW out (toksS (m + 1) t)).length ≤ 1000000) :
    Calls Tryd.prog 17 #[.pointer (some ⟨b, 0, none⟩), .agg (stA t s1 s2 s3)] w fun r w' => r = .returned (.tuple #[]) ∧ Wrote b lo w (addsW out (toksS (m + 1) t)) w' := by
  obtain ⟨p1, n1, c1, rfl, _⟩ := hx1.parts
  obtain ⟨p2, n2, c2, rfl⟩ := hx2.slice
  obtain ⟨p3, n3, c3, rfl⟩ := hx3.slice
  rw [toksS_rest hwf] at hl ⊢
  have hk := wfS_kind hwf
  obtain ⟨w2, hw2⟩ : ∃ w2, (w.alloc (.cells #[.pointer (some ⟨b, 0, none⟩)] 66)).alloc (.cells #[.int .i64 t.kind, .int .i64 t.n, .string ⟨t.name.toArray⟩, .bool t.secret, .slice p1 n1 c1, .slice p2 n2 c2, .slice p3 n3 c3] 36) = w2 := ⟨_, rfl⟩
  have hb2 : Below w.heap.size w w2 := by rw [← hw2]; exact ((Below.refl w.heap.size w).alloc (Nat.le_refl _) _).alloc (by simp) _
  have HF0 := keep (Fw.of_below (b := b) (lo := lo) hb2)
  have hTB : TB w2 b w.heap.size (w.heap.size + 1) t (.slice p1 n1 c1) (.slice p2 n2 c2) (.slice p3 n3 c3) := by
    rw [← hw2]
    refine ⟨(Bk.new w [.pointer (some ⟨b, 0, none⟩)] 66).up _, ?_, by have := h.lt; have := h.le; omega, by have := h.lt; have := h.le; omega⟩
    have := Bk.new (w.alloc (.cells #[.pointer (some ⟨b, 0, none⟩)] 66)) [.int .i64 t.kind, .int .i64 t.n, .string ⟨t.name.toArray⟩, .bool t.secret, .slice p1 n1 c1, .slice p2 n2 c2, .slice p3 n3 c3] 36
    simpa using this
  have HTB := keep hTB
  have HO := keep (h.below hb2)
  have HT2 := keep (ht.up hb2)
  have hbB : Below B w w2 := hb2.mono (Nat.le_trans hB (Nat.le_trans (Nat.le_of_lt h.lt) h.le))
  have hl3 : (addsW (addW out [40]) (stw t.kind.toNat :: restS m t)).length ≤ 1000000 := by
    rw [adds_cons, adds_app] at hl
    exact Nat.le_trans (adds_le [[41]] _) hl
  have hin : ∀ W, Wrote b lo w2 (addW out [40]) W → Calls Tryd.prog 41 #[.pointer (some ⟨w.heap.size, 0, none⟩), .pointer (some ⟨w.heap.size + 1, 0, none⟩)] W fun r w' => r = .returned (.tuple #[]) ∧ Wrote b lo W (addsW (addW out [40]) (stw t.kind.toNat :: restS m t)) w' := fun W hW => by
    have hbW := hbB.trans (hW.2.below hB HO.out.lt HO.out.le)
    exact stmt1_wr B b lo e m hB hg hme ih n hmn t _ _ _ w.heap.size (w.heap.size + 1) (addW out [40]) W (HTB.out.fw hW.2) (hx1.below hbW) (hx2.below hbW) (hx3.below hbW) hwf hW.1 (HT2.out.wrote (p := []) hB hg HO.out hW.2) hl3
  have HC := keep (bracketed_wr b lo 41 #[.pointer (some ⟨w.heap.size, 0, none⟩), .pointer (some ⟨w.heap.size + 1, 0, none⟩)] out (stw t.kind.toNat :: restS m t) w2 (enters_of Tryd.func41 (by kernel_rfl) rfl) hin HO.out hl)
  have z0 := hTB.W.cell 0 rfl
  have y0 := hTB.E.cell 0 rfl
  have d1 : decide (t.kind < 1) = false := decide_eq_false (by omega)
  have d2 : decide (6 < t.kind) = false := decide_eq_false (by omega)
  clear hin ih hx1 hx2 hx3 hwf h ht hl hg HT2 HO hl3 hb2 hbB hTB
  unfold stA
  go_enter Tryd.func17, Tryd.ntmps17
  go_wp2_with fail
  refine HC.out.mono ?_
  rintro r w3 ⟨rfl, h3⟩
  have H3 := keep h3
  clear h3 HC
  go_wp2
  go_end0
  exact ⟨rfl, H3.out.1, HF0.out.trans H3.out.2⟩

theorem stmt_wr (B b lo e : Nat) (hB : B ≤ b) (hg : GL B) : ∀ m, m ≤ e + 1 → SW B b lo e m
  | 0, _ => fun n t s1 s2 s3 out w hmn _ _ _ hw => hw.elim
  | m + 1, hm => fun n t s1 s2 s3 out w hmn hx1 hx2 hx3 hw h ht hl => by
    obtain ⟨k, rfl⟩ : ∃ k, n = k + 1 := ⟨n - 1, by omega⟩
    exact stmt_step B b lo e m hB hg (by omega) (stmt_wr B b lo e hB hg m (by omega)) k (by omega) t s1 s2 s3 out w hx1 hx2 hx3 hw h ht hl
end Go.Proofs.YtkobiojndamofaaDoor.Lr
