/- The checker's expressions, however deep. Written by tools/gen_kexpr.py. -/
import Derived.Test.YtemdnmfldihalaaDoorLkAt
namespace Go.Proofs.YtemdnmfldihalaaDoor.Lr
set_option linter.unusedVariables false
set_option linter.unusedSimpArgs false
open Go.ChangeShapes Go.WideShapes Go.ChangeAt Go.RowKit Lg

/-- What comes of an expression: what was wrong stays; else what is wrong, or whether it is secret. -/
def ER (e e' : Int) (res : Except Int Bool) (s : Bool) : Prop := (¬ e = 0 → e' = e) ∧ (e = 0 → (∀ x, res = .error x → e' = x ∧ ¬ x = 0) ∧ ∀ b, res = .ok b → e' = 0 ∧ s = b)
theorem ER.ok {e : Int} (s : Bool) : ER e e (.ok s) s := ⟨fun _ => rfl, fun he => ⟨fun x hx => (by cases hx), fun b hb => (by cases hb; exact ⟨he, rfl⟩)⟩⟩
theorem ER.mk {e e' : Int} {res : Except Int Bool} {s : Bool} (h1 : ¬ e = 0 → e' = e) (h2 : e = 0 → (∃ x, res = .error x ∧ e' = x ∧ ¬ x = 0) ∨ ∃ b, res = .ok b ∧ e' = 0 ∧ s = b) : ER e e' res s := by
  refine ⟨h1, fun he => ?_⟩
  rcases h2 he with ⟨x, rfl, h3, h4⟩ | ⟨b, rfl, h3, h4⟩
  · exact ⟨fun y hy => (by cases hy; exact ⟨h3, h4⟩), fun b hb => (by cases hb)⟩
  · exact ⟨fun y hy => (by cases hy), fun c hc => (by cases hc; exact ⟨h3, h4⟩)⟩
/-- The other way round: what is known of what comes of it. -/
theorem ER.bad {e e' : Int} {res : Except Int Bool} {s : Bool} (h : ER e e' res s) (he : e = 0) (h' : ¬ e' = 0) : res = .error e' := by
  cases hr : res with
  | error x => rw [((h.2 he).1 x hr).1]
  | ok b => exact absurd ((h.2 he).2 b hr).1 h'
theorem ER.good {e e' : Int} {res : Except Int Bool} {s : Bool} (h : ER e e' res s) (he : e = 0) (h' : e' = 0) : res = .ok s := by
  cases hr : res with
  | error x => exact absurd (((h.2 he).1 x hr).1 ▸ h') ((h.2 he).1 x hr).2
  | ok b => rw [((h.2 he).2 b hr).2]
def ExPost (w : World) (C B : Nat) (rs : List Vr) (A : Value) (ns : List Nm) (nv : Value) (wk lt : Nat) (e : Int) (res : Except Int Bool) (r : Ending) (w' : World) : Prop := ∃ (s : Bool) (e' : Int), r = .returned (.bool s) ∧ CK w' C B rs A ns nv wk lt e' ∧ Fs [C] w w' ∧ ER e e' res s
theorem ExPost.mk {w : World} {C B : Nat} {rs : List Vr} {A : Value} {ns : List Nm} {nv : Value} {wk lt : Nat} {e : Int} {res : Except Int Bool} {r : Ending} {w' : World} (s : Bool) (e' : Int) (h1 : r = .returned (.bool s)) (h2 : CK w' C B rs A ns nv wk lt e') (h3 : Fs [C] w w') (h4 : ER e e' res s) : ExPost w C B rs A ns nv wk lt e res r w' := ⟨s, e', h1, h2, h3, h4⟩
def ExprCk (m : Nat) : Prop := ∀ (M C B : Nat) (rs : List Vr) (A : Value) (ns : List Nm) (nv : Value) (wk lt : Nat) (e : Int) (dark : Bool) (ex : Ex) (sl : Value) (w : World), m ≤ M → wfE m ex → CK w C B rs A ns nv wk lt e → ExIs w B M ex sl →
  Calls Tryd.prog 46 #[.pointer (some ⟨C, 0, none⟩), .agg (exA ex sl), .bool dark] w fun r w' => ExPost w C B rs A ns nv wk lt e (exprK rs ns dark m ex) r w'
theorem args_step {f : Ex → Except Int Bool} {l : List Ex} {k : Nat} {a : Ex} (h : l[k]? = some a) (s : Bool) : argsK f (l.drop k) s = thenK (f a) fun x => argsK f (l.drop (k + 1)) (x || s) := by
  obtain ⟨hk, rfl⟩ := List.getElem?_eq_some_iff.1 h
  rw [List.drop_eq_getElem_cons hk, argsK]
theorem ExIs.slice {w : World} {B M : Nat} {ex : Ex} {sl : Value} (h : ExIs w B M ex sl) : ∃ p n cap, sl = .slice p n cap := by
  cases M with
  | zero => exact h.elim
  | succ M =>
    obtain ⟨p, n, cap, e, _⟩ := h.parts
    exact ⟨p, n, cap, e⟩
theorem at_er {rs : List Vr} {ns : List Nm} {dark : Bool} {m : Nat} {ex : Ex} {x : List UInt8} {p : Ex} {l : List Ex} {e e1 : Int} {s : Bool} (hk : ex.kind = 5) (hx : ex.name = x) (ha : ex.args = p :: l) (h : ER e e1 (exprK rs ns dark m p) s) :
    ER e (atE rs x p s dark e1) (exprK rs ns dark (m + 1) ex) (vrO (byV rs x)).secret := by
  have hE : exprK rs ns dark (m + 1) ex = thenK (exprK rs ns dark m p) fun s => placeK rs dark x p s := by
    rw [exprK, if_neg (by omega), if_neg (by omega), if_pos hk, ha, hx]
  rw [hE]
  refine .mk (fun he => ?_) fun he => ?_
  · have h1 := h.1 he
    subst h1
    unfold atE
    cases byV rs x with
    | none => exact refK_ne he
    | some v => exact refK_ne he
  · by_cases h1 : e1 = 0
    · rw [h.good he h1, thenK_ok, h1]
      unfold atE placeK
      cases byV rs x with
      | none => exact .inl ⟨6, rfl, refK_yes 6, by decide⟩
      | some v =>
        dsimp only
        cases hc : (s || (dark && !(decide (p.kind = 1) && decide (p.n < v.size)))) with
        | true => exact .inl ⟨10, by rw [if_pos rfl], refK_yes 10, by decide⟩
        | false => exact .inr ⟨v.secret, by rw [if_neg (by simp)], refK_no 0 10, rfl⟩
    · rw [h.bad he h1]
      refine .inl ⟨e1, rfl, ?_, h1⟩
      unfold atE
      cases byV rs x with
      | none => exact refK_ne h1
      | some v => exact refK_ne h1
set_option maxHeartbeats 4000000 in
set_option maxRecDepth 100000 in
theorem expr_at (m : Nat) (ih : ExprCk m) (M C B : Nat) (rs : List Vr) (A : Value) (ns : List Nm) (nv : Value) (wk lt : Nat) (e : Int) (dark : Bool) (en : Int) (x : List UInt8) (p : Ex) (sl : Value) (w : World) (hM : m + 1 ≤ M) (hw : wfE m p) (h : CK w C B rs A ns nv wk lt e) (hi : ExIs w B M ⟨5, en, x, [p]⟩ sl) :
    Calls Tryd.prog 46 #[.pointer (some ⟨C, 0, none⟩), .agg (exA ⟨5, en, x, [p]⟩ sl), .bool dark] w fun r w' => ExPost w C B rs A ns nv wk lt e (exprK rs ns dark (m + 1) ⟨5, en, x, [p]⟩) r w' := by
  obtain ⟨M, rfl⟩ : ∃ M', M = M' + 1 := ⟨M - 1, by omega⟩
  have hCl := h.lt
  have hBw : B ≤ w.heap.size := Nat.le_trans h.hB (Nat.le_of_lt hCl)
  obtain ⟨qp, qn, qc, rfl⟩ := hi.slice
  obtain ⟨w1, hw1⟩ : ∃ w1, w.alloc (.cells #[.int .i64 5, .int .i64 en, .string ⟨x.toArray⟩, .slice qp qn qc] 76) = w1 := ⟨_, rfl⟩
  have HB1 : Hid (Below w.heap.size w w1) := by
    show Below _ _ _
    rw [← hw1]; exact (Below.refl _ _).alloc (Nat.le_refl _) _
  have HX1 : Hid (Bk w1 w.heap.size [.int .i64 5, .int .i64 en, .string ⟨x.toArray⟩, .slice qp qn qc] 76) := by
    show Bk _ _ _ _
    rw [← hw1]; exact Bk.new _ _ _
  have HK := keep h
  have HIs := keep (hi.below (HB1.out.mono hBw))
  have HP := keep (part_any B M [p] (.slice qp qn qc) 0 p w1 (Nat.le_trans hBw HB1.out.size) (ExIs.same (e' := ar [p]) HIs.out rfl) rfl)
  have x0 := HX1.out.cell 0 rfl
  have x3 := HX1.out.cell 3 rfl
  have Hih := keep ih
  have Hwf := keep hw
  have HW1 := keep hw1
  clear h hi ih hw hw1
  unfold exA
  go_enter Tryd.func46, Tryd.ntmps46
  go_wp2_with (first | rw [HW1.out])
  refine HP.out.mono ?_
  rintro r w2 ⟨sp, rfl, hsp, hb2⟩
  obtain ⟨tp, tn, tc, rfl⟩ := hsp.slice
  obtain ⟨pk, pn, px, ps⟩ := p
  obtain ⟨w3, hw3⟩ : ∃ w3, w2.alloc (.cells #[.int .i64 pk, .int .i64 pn, .string ⟨px.toArray⟩, .slice tp tn tc] 76) = w3 := ⟨_, rfl⟩
  have hB13 : Below w1.heap.size w1 w3 := by rw [← hw3]; exact hb2.trans (((Below.refl _ _).alloc (Nat.le_refl _) _).mono hb2.size)
  have HB3 : Hid (Below w.heap.size w w3) := HB1.out.trans (hB13.mono HB1.out.size)
  have HX3 := keep (HX1.out.fs (Fs.of_below (l := []) hB13) (by simp))
  have HY3 : Hid (Bk w3 w2.heap.size [.int .i64 pk, .int .i64 pn, .string ⟨px.toArray⟩, .slice tp tn tc] 76) := by
    show Bk _ _ _ _
    rw [← hw3]; exact Bk.new _ _ _
  have hz2 : w.heap.size < w2.heap.size := Nat.lt_of_lt_of_le HX1.out.lt hb2.size
  have HS3 : Hid (ExIs w3 B M ⟨pk, pn, px, ps⟩ (.slice tp tn tc)) := hsp.below (hB13.mono (Nat.le_trans hBw HB1.out.size))
  have HW3 := keep hw3
  clear hsp hb2 hB13 hw3 HP x0 x3 HW1 HIs HB1
  unfold exA
  go_wp2_with (first | rw [HW3.out])
  refine wp_region_noPanic ?_
  refine Ord.wpM_begin (fun W' : World => W'.cell? ⟨w.heap.size, 2, none⟩ = some (.string ⟨x.toArray⟩) ∧ W'.cell? ⟨w2.heap.size, 0, none⟩ = some (.int .i64 pk) ∧ W'.cell? ⟨w2.heap.size, 1, none⟩ = some (.int .i64 pn) ∧ W'.cell? ⟨w2.heap.size, 2, none⟩ = some (.string ⟨px.toArray⟩) ∧ W'.cell? ⟨w2.heap.size, 3, none⟩ = some (.slice tp tn tc)) [0, 1, 2, 3, 4, 5, 6, 7, 8, 9, 10, 11] (by kernel_rfl) ?_
  have HB4 : Hid (Below w.heap.size w w3.drew) := Below.drew HB3.out
  have HX4 : Hid (Bk w3.drew w.heap.size [.int .i64 5, .int .i64 en, .string ⟨x.toArray⟩, .slice qp qn qc] 76) := HX3.out
  have HY4 : Hid (Bk w3.drew w2.heap.size [.int .i64 pk, .int .i64 pn, .string ⟨px.toArray⟩, .slice tp tn tc] 76) := HY3.out
  have HS4 : Hid (ExIs w3.drew B M ⟨pk, pn, px, ps⟩ (.slice tp tn tc)) := HS3.out.below (Below.drew (Below.refl _ _))
  generalize w3.drew = w4 at *
  have HK4 := keep (HK.out.below HB4.out)
  have HSS : Hid (∀ W, Bk W w.heap.size [.int .i64 5, .int .i64 en, .string ⟨x.toArray⟩, .slice qp qn qc] 76 → Bk W w2.heap.size [.int .i64 pk, .int .i64 pn, .string ⟨px.toArray⟩, .slice tp tn tc] 76 → (W.cell? ⟨w.heap.size, 2, none⟩ = some (.string ⟨x.toArray⟩) ∧ W.cell? ⟨w2.heap.size, 0, none⟩ = some (.int .i64 pk) ∧ W.cell? ⟨w2.heap.size, 1, none⟩ = some (.int .i64 pn) ∧ W.cell? ⟨w2.heap.size, 2, none⟩ = some (.string ⟨px.toArray⟩) ∧ W.cell? ⟨w2.heap.size, 3, none⟩ = some (.slice tp tn tc))) := fun W h1 h2 => ⟨h1.cell 2 rfl, h2.cell 0 rfl, h2.cell 1 rfl, h2.cell 2 rfl, h2.cell 3 rfl⟩
  have hS := HSS.out w4 HX4.out HY4.out
  refine Ord.wpM_take (i := 0) (v := .pointer (some ⟨C, 0, none⟩)) (by simp only [List.getElem?_toArray, List.getElem?_cons_zero, List.getElem?_cons_succ]; rfl) (by kernel_rfl) (by kernel_rfl) (by kernel_rfl) (by kernel_rfl) (fun _ _ _ h => h) (Or.inl ⟨by rfl, by intro W' hW; obtain ⟨q0, q1, q2, q3, q4⟩ := hW; go_simp⟩) hS ?_
  try simp only [Act.put, List.setIfInBounds_toArray, List.set_cons_zero, List.set_cons_succ]
  refine Ord.wpM_take (i := 1) (v := .pointer (some ⟨w.heap.size, 2, none⟩)) (by simp only [List.getElem?_toArray, List.getElem?_cons_zero, List.getElem?_cons_succ]; rfl) (by kernel_rfl) (by kernel_rfl) (by kernel_rfl) (by kernel_rfl) (fun _ _ _ h => h) (Or.inl ⟨by rfl, by intro W' hW; obtain ⟨q0, q1, q2, q3, q4⟩ := hW; go_simp⟩) hS ?_
  try simp only [Act.put, List.setIfInBounds_toArray, List.set_cons_zero, List.set_cons_succ]
  refine Ord.wpM_take (i := 2) (v := .string ⟨x.toArray⟩) (by simp only [List.getElem?_toArray, List.getElem?_cons_zero, List.getElem?_cons_succ]; rfl) (by kernel_rfl) (by kernel_rfl) (by kernel_rfl) (by kernel_rfl) (fun _ _ _ h => h) (Or.inl ⟨by rfl, by intro W' hW; obtain ⟨q0, q1, q2, q3, q4⟩ := hW; go_simp⟩) hS ?_
  try simp only [Act.put, List.setIfInBounds_toArray, List.set_cons_zero, List.set_cons_succ]
  refine Ord.wpM_take (i := 3) (v := .agg #[.int .i64 pk, .int .i64 pn, .string ⟨px.toArray⟩, .slice tp tn tc]) (by simp only [List.getElem?_toArray, List.getElem?_cons_zero, List.getElem?_cons_succ]; rfl) (by kernel_rfl) (by kernel_rfl) (by kernel_rfl) (by kernel_rfl) (fun _ _ _ h => h) (Or.inl ⟨by rfl, by intro W' hW; obtain ⟨q0, q1, q2, q3, q4⟩ := hW; go_simp⟩) hS ?_
  try simp only [Act.put, List.setIfInBounds_toArray, List.set_cons_zero, List.set_cons_succ]
  refine Ord.wpM_take (i := 4) (v := .pointer (some ⟨C, 0, none⟩)) (by simp only [List.getElem?_toArray, List.getElem?_cons_zero, List.getElem?_cons_succ]; rfl) (by kernel_rfl) (by kernel_rfl) (by kernel_rfl) (by kernel_rfl) (fun _ _ _ h => h) (Or.inl ⟨by rfl, by intro W' hW; obtain ⟨q0, q1, q2, q3, q4⟩ := hW; go_simp⟩) hS ?_
  try simp only [Act.put, List.setIfInBounds_toArray, List.set_cons_zero, List.set_cons_succ]
  refine Ord.wpM_take (i := 5) (v := .agg #[.int .i64 pk, .int .i64 pn, .string ⟨px.toArray⟩, .slice tp tn tc]) (by simp only [List.getElem?_toArray, List.getElem?_cons_zero, List.getElem?_cons_succ]; rfl) (by kernel_rfl) (by kernel_rfl) (by kernel_rfl) (by kernel_rfl) (fun _ _ _ h => h) (Or.inl ⟨by rfl, by intro W' hW; obtain ⟨q0, q1, q2, q3, q4⟩ := hW; go_simp⟩) hS ?_
  try simp only [Act.put, List.setIfInBounds_toArray, List.set_cons_zero, List.set_cons_succ]
  refine Ord.wpM_take (i := 6) (v := .bool dark) (by simp only [List.getElem?_toArray, List.getElem?_cons_zero, List.getElem?_cons_succ]; rfl) (by kernel_rfl) (by kernel_rfl) (by kernel_rfl) (by kernel_rfl) (fun _ _ _ h => h) (Or.inl ⟨by rfl, by intro W' hW; obtain ⟨q0, q1, q2, q3, q4⟩ := hW; go_simp⟩) hS ?_
  try simp only [Act.put, List.setIfInBounds_toArray, List.set_cons_zero, List.set_cons_succ]
  refine Ord.wpM_take (i := 8) (v := .bool dark) (by simp only [List.getElem?_toArray, List.getElem?_cons_zero, List.getElem?_cons_succ]; rfl) (by kernel_rfl) (by kernel_rfl) (by kernel_rfl) (by kernel_rfl) (fun _ _ _ h => h) (Or.inl ⟨by rfl, by intro W' hW; obtain ⟨q0, q1, q2, q3, q4⟩ := hW; go_simp⟩) hS ?_
  try simp only [Act.put, List.setIfInBounds_toArray, List.set_cons_zero, List.set_cons_succ]
  refine Ord.wpM_one (i := 7) (by kernel_rfl) (by simp only [List.getElem?_toArray, List.getElem?_cons_zero, List.getElem?_cons_succ]; rfl) (fun K hK => ?_)
  go_simp
  refine (Hih.out M C B rs A ns nv wk lt e dark ⟨pk, pn, px, ps⟩ (.slice tp tn tc) w4 (by omega) Hwf.out HK4.out HS4.out).mono ?_
  rintro r w5 ⟨s, e1, rfl, hk5, hf5, her⟩
  have HK5 := keep hk5
  have HX5 := keep (HX4.out.fs hf5 (by simp; omega))
  have HY5 := keep (HY4.out.fs hf5 (by simp; omega))
  have HF5 := keep ((Fs.of_below HB4.out).trans hf5)
  have HER := keep her
  clear hk5 hf5 her hS
  go_simp
  refine hK.out _ _ (fun _ => HSS.out _ HX5.out HY5.out) ?_
  clear hK K
  try simp only [Act.put, List.setIfInBounds_toArray, List.set_cons_zero, List.set_cons_succ]
  refine Ord.wpM_one (i := 9) (by kernel_rfl) (by simp only [List.getElem?_toArray, List.getElem?_cons_zero, List.getElem?_cons_succ]; rfl) (fun K hK => ?_)
  go_simp
  refine (at_any C B rs A ns nv wk lt e1 x ⟨pk, pn, px, ps⟩ (.slice tp tn tc) ⟨_, _, _, rfl⟩ s dark w5 HK5.out).mono ?_
  rintro r w6 ⟨rfl, hk6, hf6⟩
  have HK6 := keep hk6
  have HX6 := keep (HX5.out.fs hf6 (by simp; omega))
  have HY6 := keep (HY5.out.fs hf6 (by simp; omega))
  have HF6 := keep (HF5.out.trans hf6)
  have HEnd := keep (at_er (ex := ⟨5, en, x, [⟨pk, pn, px, ps⟩]⟩) (m := m) rfl rfl rfl HER.out)
  generalize atE rs x ⟨pk, pn, px, ps⟩ s dark e1 = e2 at *
  generalize vrO (byV rs x) = vo at *
  obtain ⟨on, os, oz⟩ := vo
  unfold vrA
  clear hk6 hf6 HER
  go_simp
  refine hK.out _ _ (fun _ => HSS.out _ HX6.out HY6.out) ?_
  clear hK K
  try simp only [Act.put, List.setIfInBounds_toArray, List.set_cons_zero, List.set_cons_succ]
  refine Ord.wpM_one (i := 10) (by kernel_rfl) (by simp only [List.getElem?_toArray, List.getElem?_cons_zero, List.getElem?_cons_succ]; rfl) (fun K hK => ?_)
  go_simp
  refine hK.out _ _ (fun _ => HSS.out _ HX6.out HY6.out) ?_
  clear hK K
  try simp only [Act.put, List.setIfInBounds_toArray, List.set_cons_zero, List.set_cons_succ]
  refine Ord.wpM_one (i := 11) (by kernel_rfl) (by simp only [List.getElem?_toArray, List.getElem?_cons_zero, List.getElem?_cons_succ]; rfl) (fun K hK => ?_)
  go_simp
  refine hK.out _ _ (fun _ => HSS.out _ HX6.out HY6.out) ?_
  clear hK K
  try simp only [Act.put, List.setIfInBounds_toArray, List.set_cons_zero, List.set_cons_succ]
  refine Ord.wpM_done (by kernel_rfl) ?_ _
  refine NoPanic.normal ?_
  go_wp2
  go_ret
  exact .mk _ _ rfl HK6.out HF6.out HEnd.out
set_option maxHeartbeats 4000000 in
set_option maxRecDepth 100000 in
theorem expr_num (m : Nat) (M C B : Nat) (rs : List Vr) (A : Value) (ns : List Nm) (nv : Value) (wk lt : Nat) (e : Int) (dark : Bool) (en : Int) (x : List UInt8) (l : List Ex) (sl : Value) (w : World) (h : CK w C B rs A ns nv wk lt e) (hi : ExIs w B M ⟨1, en, x, l⟩ sl) :
    Calls Tryd.prog 46 #[.pointer (some ⟨C, 0, none⟩), .agg (exA ⟨1, en, x, l⟩ sl), .bool dark] w fun r w' => ExPost w C B rs A ns nv wk lt e (exprK rs ns dark (m + 1) ⟨1, en, x, l⟩) r w' := by
  obtain ⟨qp, qn, qc, rfl⟩ := hi.slice
  have HB1 : Hid (Below w.heap.size w (w.alloc (.cells #[.int .i64 1, .int .i64 en, .string ⟨x.toArray⟩, .slice qp qn qc] 76))) := (Below.refl _ _).alloc (Nat.le_refl _) _
  have HK := keep (h.below HB1.out)
  have HR : Hid (exprK rs ns dark (m + 1) ⟨1, en, x, l⟩ = .ok false) := by show exprK _ _ _ _ _ = _; rw [exprK, if_pos rfl]
  clear h hi
  unfold exA
  go_enter Tryd.func46, Tryd.ntmps46
  go_wp2
  go_ret
  exact .mk _ _ rfl HK.out (Fs.of_below HB1.out) (by rw [HR.out]; exact .ok false)
theorem name_er {rs : List Vr} {ns : List Nm} {dark : Bool} {m : Nat} {ex : Ex} {x : List UInt8} {e : Int} (hk : ex.kind = 2) (hx : ex.name = x) :
    ER e (refK (!(byN ns x).isSome) e 6) (exprK rs ns dark (m + 1) ex) (nmO (byN ns x)).secret := by
  rw [exprK, if_neg (by omega), if_pos hk, hx]
  refine .mk (fun he => refK_ne he) fun he => ?_
  subst he
  cases byN ns x with
  | none => exact .inl ⟨6, rfl, refK_yes 6, by decide⟩
  | some v => exact .inr ⟨v.secret, rfl, refK_no 0 6, rfl⟩
set_option maxHeartbeats 1000000 in
set_option maxRecDepth 100000 in
theorem expr_name (m : Nat) (M C B : Nat) (rs : List Vr) (A : Value) (ns : List Nm) (nv : Value) (wk lt : Nat) (e : Int) (dark : Bool) (en : Int) (x : List UInt8) (l : List Ex) (sl : Value) (w : World) (h : CK w C B rs A ns nv wk lt e) (hi : ExIs w B M ⟨2, en, x, l⟩ sl) :
    Calls Tryd.prog 46 #[.pointer (some ⟨C, 0, none⟩), .agg (exA ⟨2, en, x, l⟩ sl), .bool dark] w fun r w' => ExPost w C B rs A ns nv wk lt e (exprK rs ns dark (m + 1) ⟨2, en, x, l⟩) r w' := by
  obtain ⟨qp, qn, qc, rfl⟩ := hi.slice
  have hCl := h.lt
  obtain ⟨w1, hw1⟩ : ∃ w1, w.alloc (.cells #[.int .i64 2, .int .i64 en, .string ⟨x.toArray⟩, .slice qp qn qc] 76) = w1 := ⟨_, rfl⟩
  have HB1 : Hid (Below w.heap.size w w1) := by
    show Below _ _ _
    rw [← hw1]; exact (Below.refl _ _).alloc (Nat.le_refl _) _
  have HX1 : Hid (Bk w1 w.heap.size [.int .i64 2, .int .i64 en, .string ⟨x.toArray⟩, .slice qp qn qc] 76) := by
    show Bk _ _ _ _
    rw [← hw1]; exact Bk.new _ _ _
  have HK := keep (h.below HB1.out)
  have HER := keep (name_er (rs := rs) (ns := ns) (dark := dark) (m := m) (ex := ⟨2, en, x, l⟩) (e := e) rfl rfl)
  have HN := keep (byName_any C B rs A ns nv wk lt e x w1 HK.out)
  generalize byN ns x = o at *
  generalize nmO o = vo at *
  generalize o.isSome = ob at *
  obtain ⟨on, os, ol⟩ := vo
  unfold nmA at HN
  have x0 := HX1.out.cell 0 rfl
  have x2 := HX1.out.cell 2 rfl
  have HW1 := keep hw1
  clear h hi hw1
  unfold exA
  go_enter Tryd.func46, Tryd.ntmps46
  go_wp2_with (first | rw [HW1.out])
  refine HN.out.mono ?_
  rintro r w2 ⟨rfl, hb2⟩
  obtain ⟨w3, hw3⟩ : ∃ w3, w2.alloc (.cells #[.string ⟨on.toArray⟩, .bool os, .bool ol] 52) = w3 := ⟨_, rfl⟩
  have hB13 : Below w1.heap.size w1 w3 := by rw [← hw3]; exact hb2.trans (((Below.refl _ _).alloc (Nat.le_refl _) _).mono hb2.size)
  have HB3 : Hid (Below w.heap.size w w3) := HB1.out.trans (hB13.mono HB1.out.size)
  have HK3 := keep (HK.out.below hB13)
  have HZ3 : Hid (Bk w3 w2.heap.size [.string ⟨on.toArray⟩, .bool os, .bool ol] 52) := by
    show Bk _ _ _ _
    rw [← hw3]; exact Bk.new _ _ _
  have hz2 : w.heap.size < w2.heap.size := Nat.lt_of_lt_of_le HX1.out.lt hb2.size
  have HW3 := keep hw3
  clear hb2 hB13 hw3 HN x0 x2 HW1 HX1 HK
  go_wp2_with (first | rw [HW3.out])
  refine (refuse_ck C B rs A ns nv wk lt e (!ob) 6 w3 HK3.out).mono ?_
  rintro r w4 ⟨rfl, hk4, hf4⟩
  have HK4 := keep hk4
  have HF4 := keep ((Fs.of_below HB3.out).trans hf4)
  have z1 := (HZ3.out.fs hf4 (by simp; omega)).cell 1 rfl
  clear hk4 hf4
  go_wp2
  go_ret
  exact .mk _ _ rfl HK4.out HF4.out HER.out
theorem args_er {rs : List Vr} {ns : List Nm} {dark : Bool} {m : Nat} {ex : Ex} {e e1 : Int} {s : Bool} (h1 : ¬ ex.kind = 1) (h2 : ¬ ex.kind = 2) (h5 : ¬ ex.kind = 5)
    (hne : ¬ e = 0 → e1 = e) (hbad : e = 0 → ¬ e1 = 0 → argsK (exprK rs ns dark m) ex.args false = .error e1) (hgood : e = 0 → e1 = 0 → argsK (exprK rs ns dark m) ex.args false = .ok s) : ER e e1 (exprK rs ns dark (m + 1) ex) s := by
  rw [exprK, if_neg h1, if_neg h2, if_neg h5]
  refine .mk hne fun he => ?_
  by_cases h : e1 = 0
  · exact .inr ⟨s, hgood he h, h, rfl⟩
  · exact .inl ⟨e1, hbad he h, rfl, h⟩
set_option maxHeartbeats 8000000 in
set_option maxRecDepth 100000 in
theorem expr_args (m : Nat) (ih : ExprCk m) (M C B : Nat) (rs : List Vr) (A : Value) (ns : List Nm) (nv : Value) (wk lt : Nat) (e : Int) (dark : Bool) (ek en : Int) (x : List UInt8) (l : List Ex) (sl : Value) (w : World) (hM : m + 1 ≤ M) (n1 : ¬ ek = 1) (n2 : ¬ ek = 2) (n5 : ¬ ek = 5) (hw : ∀ a ∈ l, wfE m a) (h : CK w C B rs A ns nv wk lt e) (hi : ExIs w B M ⟨ek, en, x, l⟩ sl) :
    Calls Tryd.prog 46 #[.pointer (some ⟨C, 0, none⟩), .agg (exA ⟨ek, en, x, l⟩ sl), .bool dark] w fun r w' => ExPost w C B rs A ns nv wk lt e (exprK rs ns dark (m + 1) ⟨ek, en, x, l⟩) r w' := by
  obtain ⟨M, rfl⟩ : ∃ M', M = M' + 1 := ⟨M - 1, by omega⟩
  have hCl := h.lt
  have hBC := h.hB
  obtain ⟨qp, qn, qc, rfl, hql, hqc, hqm, hqa⟩ := hi.parts
  have HQA := keep hqa
  have HQL : Hid (l.length = qn) := hql
  have HB1 : Hid (Below w.heap.size w (w.alloc (.cells #[.int .i64 ek, .int .i64 en, .string ⟨x.toArray⟩, .slice qp qn qc] 76))) := (Below.refl _ _).alloc (Nat.le_refl _) _
  have HK := keep (h.below HB1.out)
  have Hih := keep ih
  have Hwf := keep hw
  have HEnd := keep (fun (e1 : Int) (s : Bool) => args_er (rs := rs) (ns := ns) (dark := dark) (m := m) (ex := ⟨ek, en, x, l⟩) (e := e) (e1 := e1) (s := s) n1 n2 n5)
  have HBo : Hid (∀ W, Fs [C] w W → Below B w W) := fun W hW => hW.below (by omega) (by simp; omega)
  have d1 : (ek == 1) = false := by simpa using n1
  have d2 : (ek == 2) = false := by simpa using n2
  have d5 : (ek == 5) = false := by simpa using n5
  clear h hi ih hw hqa hql n1 n2 n5
  unfold exA
  go_enter Tryd.func46, Tryd.ntmps46
  go_wp2
  go_loopw [51, 10] (fun i sv wx => ∃ (k : Nat) (s1 : Bool) (e1 : Int), k ≤ qn ∧ i = .int .i64 (k : Int) ∧ sv = .bool s1 ∧ CK wx C B rs A ns nv wk lt e1 ∧ Fs [C] w wx ∧ (¬ e = 0 → e1 = e) ∧ (e = 0 → ¬ e1 = 0 → argsK (exprK rs ns dark m) l false = .error e1) ∧ (e = 0 → e1 = 0 → argsK (exprK rs ns dark m) l false = argsK (exprK rs ns dark m) (l.drop k) s1)) (fun i _ _ => qn - (intOf i).toNat)
  case atStart => exact ⟨0, false, e, by omega, rfl, rfl, HK.out, Fs.of_below HB1.out, fun _ => rfl, fun h1 h2 => absurd h1 h2, fun _ _ => rfl⟩
  case round =>
    obtain ⟨k, s1, e1, hkn, rfl, rfl, hck, hfs, hne, hbad, hgood⟩ := hrel
    have HCK := keep hck
    have HFS := keep hfs
    have HNe := keep hne
    have HBad := keep hbad
    have HGood := keep hgood
    clear hck hfs hne hbad hgood HK HB1
    by_cases hkl : k < qn
    · have e1' : decide ((k : Int) < (qn : Int)) = true := decide_eq_true (by omega)
      have hkz : (k : Int) < (qn : Int) := by omega
      have hk0 : (0 : Int) ≤ (k : Int) := by omega
      obtain ⟨a, ha⟩ : ∃ a, l[k]? = some a := ⟨_, List.getElem?_eq_getElem (by rw [HQL.out]; exact hkl)⟩
      obtain ⟨g, o, sa, rfl, hg, hat, hsub⟩ := HQA.out k a ha
      have hbo := HBo.out _ HFS.out
      have hat := hat.below hbo hg
      have hsub := hsub.below hbo
      obtain ⟨tp, tn, tc, rfl⟩ := hsub.slice
      have a0 := hat.c0
      have a1 := hat.c1
      have a2 := hat.c2
      have a3 := hat.c3
      have HA := keep ha
      have HWa := keep (Hwf.out a (List.mem_of_getElem? ha))
      obtain ⟨ak, an, ax, aa⟩ := a
      simp only at a0 a1 a2 a3
      have hBr : Below wr.heap.size wr (wr.alloc (.cells #[.int .i64 ak, .int .i64 an, .string ⟨ax.toArray⟩, .slice tp tn tc] 76)) := (Below.refl _ _).alloc (Nat.le_refl _) _
      have HC := keep (Hih.out M C B rs A ns nv wk lt e1 dark ⟨ak, an, ax, aa⟩ (.slice tp tn tc) (wr.alloc (.cells #[.int .i64 ak, .int .i64 an, .string ⟨ax.toArray⟩, .slice tp tn tc] 76)) (by omega) HWa.out (HCK.out.below hBr) (hsub.below (hBr.mono (Nat.le_trans hBC (Nat.le_of_lt HCK.out.lt)))))
      have HFr := keep (HFS.out.trans (Fs.of_below hBr))
      clear ha hat hsub hbo HQA hBr HCK HFS
      go_wp2_with fail
      refine HC.out.mono ?_
      rintro r w2 ⟨s2, e2, rfl, hk2, hf2, her⟩
      have HK2 := keep hk2
      have HF2 := keep (HFr.out.trans hf2)
      have HER := keep her
      have HRel : Hid ((¬ e = 0 → e2 = e) ∧ (e = 0 → ¬ e2 = 0 → argsK (exprK rs ns dark m) l false = .error e2) ∧ (e = 0 → e2 = 0 → argsK (exprK rs ns dark m) l false = argsK (exprK rs ns dark m) (l.drop (k + 1)) (s2 || s1))) := by
        refine ⟨fun he => ?_, fun he h2 => ?_, fun he h2 => ?_⟩
        · have h1 := HNe.out he
          rw [HER.out.1 (by rw [h1]; exact he), h1]
        · by_cases h1 : e1 = 0
          · rw [HGood.out he h1, args_step HA.out, HER.out.bad h1 h2]; rfl
          · rw [HER.out.1 h1]; exact HBad.out he h1
        · have h1 : e1 = 0 := by
            by_cases h1 : e1 = 0
            · exact h1
            · rw [HER.out.1 h1] at h2; exact absurd h2 h1
          rw [HGood.out he h1, args_step HA.out, HER.out.good h1 h2, thenK_ok]
      clear hk2 hf2 her HC HER HA HFr
      cases s2 with
      | true =>
        go_wp2
        go_roundw
        case rel => exact ⟨k + 1, true, e2, by omega, by go_num, rfl, HK2.out, HF2.out, HRel.out⟩
        case measure => simp [intOf]; omega
      | false =>
        go_wp2
        go_roundw
        case rel => exact ⟨k + 1, s1, e2, by omega, by go_num, rfl, HK2.out, HF2.out, HRel.out⟩
        case measure => simp [intOf]; omega
    · have hke : k = qn := by omega
      subst hke
      have dl : decide ((k : Int) < (k : Int)) = false := decide_eq_false (by omega)
      have HG2 : Hid (e = 0 → e1 = 0 → argsK (exprK rs ns dark m) l false = .ok s1) := fun h1 h2 => by
        rw [HGood.out h1 h2, List.drop_of_length_le (by rw [HQL.out]; exact Nat.le_refl _)]; rfl
      clear hkl
      go_wp2
      go_ret
      exact .mk _ _ rfl HCK.out HFS.out (HEnd.out e1 s1 HNe.out HBad.out HG2.out)
theorem expr_ck : ∀ m, ExprCk m
  | 0 => fun M C B rs A ns nv wk lt e dark ex sl w hM hw h hi => hw.elim
  | m + 1 => fun M C B rs A ns nv wk lt e dark ex sl w hM hw h hi => by
    obtain ⟨ek, en, x, l⟩ := ex
    rcases hw with ⟨h1, h2, h3, h4, h5⟩ | ⟨h1, h2, h3, h4⟩ | ⟨h1, h2, h3, h4, h5, h6⟩ | ⟨h1, h2, h3, h4, h5⟩ | ⟨h1, h2, h3, h4, h5⟩
    · dsimp only at h1; subst h1; exact expr_num m M C B rs A ns nv wk lt e dark en x l sl w h hi
    · dsimp only at h1; subst h1; exact expr_name m M C B rs A ns nv wk lt e dark en x l sl w h hi
    · dsimp only at h1; subst h1; exact expr_args m (expr_ck m) M C B rs A ns nv wk lt e dark 3 en x l sl w hM (by decide) (by decide) (by decide) h6 h hi
    · dsimp only at h1; subst h1; exact expr_args m (expr_ck m) M C B rs A ns nv wk lt e dark 4 en x l sl w hM (by decide) (by decide) (by decide) h5 h hi
    · dsimp only at h1 h4; subst h1
      obtain ⟨p, rfl⟩ := List.length_eq_one_iff.1 h4
      exact expr_at m (expr_ck m) M C B rs A ns nv wk lt e dark en x p sl w hM (h5 p (by simp)) h hi
end Go.Proofs.YtemdnmfldihalaaDoor.Lr
