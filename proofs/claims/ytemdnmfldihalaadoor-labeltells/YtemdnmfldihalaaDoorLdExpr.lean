/- The document's own reader: an expression that is a number, or a name. Written by tools/gen_dexpr.py. -/
import Derived.Test.YtemdnmfldihalaaDoorLdRead
import Derived.Laws.ResultCell
namespace Go.Proofs.YtemdnmfldihalaaDoor.Lr
set_option linter.unusedVariables false
set_option linter.unusedSimpArgs false
open Go.ChangeShapes Go.WideShapes Go.ChangeAt Go.RowKit Lg Rf

theorem Fs.fr {b : Nat} {w w' : World} (h : Fs [b] w w') : Fr b w w' := ⟨h.os, h.tape, h.output, h.size, fun k hk hl => h.block k hk (by simpa using hl)⟩
theorem tabs_fs {b : Nat} {w w' : World} (ht : Tabs w) (hg : GL b) (h : Fs [b] w w') (hb : b < w.heap.size) : Tabs w' := tabs_fr ht hg h.fr (by omega)
/-- An expression is read, where m may stand within one another. -/
def ExprOK (m : Nat) : Prop := ∀ (b : Nat) (s : ByteArray) (e : Int) (w : World), s.size ≤ 1200 → PB w b s e → Tabs w → GL b →
  Calls Tryd.prog 38 #[.pointer (some ⟨b, 0, none⟩), .int .i64 (9 - (m : Int))] w fun r w' => ∃ (ex : Ex) (sl : Value), r = .returned (.agg (exA ex sl)) ∧ ExX w' (New w w') (m + 1) ex sl ∧ Rd w' b s.size e (exprT m (words s.data.toList)) (fun a => a = ex) ∧ Fs [b] w w'
/-- How things stand while an expression is read: where it is laid. -/
structure ES (w W : World) (b : Nat) : Prop where
  fs : Fs [b] w W
  D : Bk W w.heap.size [.int .i64 0, .int .i64 0, .string ⟨#[]⟩, .slice none 0 0] 76
theorem ES.step {w W W' : World} {b : Nat} (h : ES w W b) (hb : b < w.heap.size) (k : Fs [b] W W') : ES w W' b := ⟨h.fs.trans k, h.D.fs k (by simp; omega)⟩
def exprW (w : World) : World := w.alloc (.cells #[.int .i64 0, .int .i64 0, .string ⟨#[]⟩, .slice none 0 0] 76)
theorem exprW_es (w : World) (b : Nat) : ES w (exprW w) b := ⟨(Fs.refl _ w).up _, Bk.new w [.int .i64 0, .int .i64 0, .string ⟨#[]⟩, .slice none 0 0] 76⟩
theorem ExX.none {w : World} {X : Nat → Prop} (m : Nat) (k n : Int) (nm : List UInt8) : ExX w X (m + 1) ⟨k, n, nm, []⟩ (.slice none 0 0) := .inl ⟨rfl, rfl⟩

set_option maxHeartbeats 2000000 in
set_option maxRecDepth 100000 in
theorem expr_zero : ExprOK 0 := by
  intro b s e w hs h ht hg
  have hbl := h.lt
  have HC := keep (bad_any b s e 9 (exprW w) (h.up _))
  have HEs := keep (exprW_es w b)
  clear h ht hg
  show Calls _ _ #[_, .int .i64 9] _ _
  go_enter Tryd.func38, Tryd.ntmps38
  go_wp2_with fail
  change Calls _ _ _ (exprW w) _
  refine HC.out.mono ?_
  rintro r w1 ⟨rfl, hp, hf⟩
  have HE1 := keep (HEs.out.step hbl hf.fs)
  have HD1 := keep HE1.out.D
  have HP1 := keep hp
  clear hp hf HC HEs
  go_wp2_with (first
    | refine wpList_store_row rfl 76 (.tmp 4) (.tmp 16) rfl w.heap.size #[.int .i64 0, .int .i64 0, .string ⟨#[]⟩, .slice none 0 0] rfl rfl 76 #[.int .i64 0, .int .i64 0, .string ⟨#[]⟩, .slice none 0 0] HD1.out (info_E [.int .i64 0, .int .i64 0, .string ⟨#[]⟩, .slice none 0 0] rfl) rfl (by simp [Value.oneCell']) ?_)
  (try simp only [Exit.inBlock, Exit.then])
  refine bodyPost_ret (results_cell_row rfl _ _ w.heap.size _ #[.int .i64 0, .int .i64 0, .string ⟨#[]⟩, .slice none 0 0] (0, 0) _ rfl (setRow_heap _ _ _ _ _ _ HD1.out) Tryd.underlying76 rfl (info_E [.int .i64 0, .int .i64 0, .string ⟨#[]⟩, .slice none 0 0] rfl)) rfl ?_
  refine ⟨⟨0, 0, [], []⟩, .slice none 0 0, rfl, ExX.none 0 _ _ _, ?_, HE1.out.fs.row (Nat.le_refl _) _⟩
  exact rd_bad (HP1.out.row (D := w.heap.size) (by omega) _) (Nat.le_refl _) (by decide)

set_option maxHeartbeats 8000000 in
set_option maxRecDepth 100000 in
/-- One word. -/
theorem expr_atom (m : Nat) (hm : m ≤ 8) (b : Nat) (s : ByteArray) (e : Int) (w : World) (hs : s.size ≤ 1200) (h : PB w b s e) (ht : Tabs w) (hg : GL b) (hop : ¬ wd s.data.toList = [40]) :
  Calls Tryd.prog 38 #[.pointer (some ⟨b, 0, none⟩), .int .i64 (8 - (m : Int))] w fun r w' => ∃ (ex : Ex) (sl : Value), r = .returned (.agg (exA ex sl)) ∧ ExX w' (New w w') (m + 2) ex sl ∧ Rd w' b s.size e (exprT (m + 1) (words s.data.toList)) (fun a => a = ex) ∧ Fs [b] w w' := by
  have hbl := h.lt
  have HTf : Hid (∀ W, Fs [b] w W → Tabs W) := fun W hW => tabs_fs ht hg hW hbl
  have HEs := keep (exprW_es w b)
  have HC := keep (w_rd b s (by omega) e (exprW w) (h.up _))
  have hd : decide (8 < 8 - (m : Int)) = false := decide_eq_false (by omega)
  have hl := wd_len s
  have HNum : Hid (∀ v, Tabs v → Calls Tryd.prog 28 #[.string ⟨(wd s.data.toList).toArray⟩] v fun r w' => NumEnds (wd s.data.toList) r ∧ Below v.heap.size v w') := fun v hv =>
    number_any ⟨(wd s.data.toList).toArray⟩ (by rw [size_mk]; omega) v hv
  have HNam : Hid (∀ v, Calls Tryd.prog 27 #[.string ⟨(wd s.data.toList).toArray⟩] v fun r w' => r = .returned (.bool (isName (wd s.data.toList))) ∧ Below v.heap.size v w') := fun v =>
    name_any ⟨(wd s.data.toList).toArray⟩ (by rw [size_mk]; omega) v
  clear h ht hg
  generalize 8 - (m : Int) = a8 at *
  generalize words s.data.toList = Ws at *
  generalize wd s.data.toList = W at *
  have hopb : (W == [40]) = false := by simpa using hop
  have HOp := keep hop
  clear hop
  go_enter Tryd.func38, Tryd.ntmps38
  go_wp2_with fail
  change Calls _ _ _ (exprW w) _
  refine HC.out.mono ?_
  rintro r w1 ⟨rfl, hr, hf⟩
  obtain ⟨s1, e1, hp, hn, h1, h2⟩ := hr
  have HE1 := keep (HEs.out.step hbl hf.fs)
  have HP1 := keep hp
  have H1 := keep h1
  have H2 := keep h2
  clear hp hf h1 h2 HC HEs
  go_wp2_with fail
  refine (HNum.out _ (HTf.out _ HE1.out.fs)).mono ?_
  rintro r w2 ⟨⟨m0, rfl, hm0⟩, hb2⟩
  have HM := keep hm0
  have HE2 := keep (HE1.out.step hbl (Fs.of_below hb2))
  have HP2 := keep (HP1.out.below hb2)
  have HD2 := keep HE2.out.D
  clear hb2 hm0 HE1 HP1 HNum
  obtain ⟨q, hq⟩ : ∃ q, Wd.isNum W = q := ⟨_, rfl⟩
  have HQ := keep hq
  rw [hq]
  clear hq
  cases q with
  | true =>
    go_wp2_with (first
      | refine wpList_store_row rfl 76 (.tmp 4) (.tmp 28) rfl w.heap.size #[.int .i64 1, .int .i64 m0, .string ⟨#[]⟩, .slice none 0 0] rfl rfl 76 #[.int .i64 0, .int .i64 0, .string ⟨#[]⟩, .slice none 0 0] HD2.out (info_E [.int .i64 1, .int .i64 m0, .string ⟨#[]⟩, .slice none 0 0] rfl) rfl (by simp [Value.oneCell']) ?_)
    (try simp only [Exit.inBlock, Exit.then])
    refine bodyPost_ret (results_cell_row rfl _ _ w.heap.size _ #[.int .i64 1, .int .i64 m0, .string ⟨#[]⟩, .slice none 0 0] (0, 0) _ rfl (setRow_heap _ _ _ _ _ _ HD2.out) Tryd.underlying76 rfl (info_E [.int .i64 1, .int .i64 m0, .string ⟨#[]⟩, .slice none 0 0] rfl)) rfl ?_
    refine ⟨⟨1, m0, [], []⟩, .slice none 0 0, rfl, ExX.none (m + 1) _ _ _, ?_, HE2.out.fs.row (Nat.le_refl _) _⟩
    rw [exprT]
    refine rd_then (x := W) (n1 := s.size) H1.out H2.out ?_ (Nat.le_refl _)
    rw [if_neg HOp.out, if_pos HQ.out]
    exact rd_ok (HP2.out.row (D := w.heap.size) (by omega) _) hn (by rw [HM.out HQ.out])
  | false =>
    obtain ⟨q2, hq2⟩ : ∃ q2, isName W = q2 := ⟨_, rfl⟩
    have HQ2 := keep hq2
    rw [hq2] at HNam
    clear hq2
    cases q2 with
    | true =>
      go_wp2_with fail
      refine (HNam.out _).mono ?_
      rintro r w3 ⟨rfl, hb3⟩
      have HE3 := keep (HE2.out.step hbl (Fs.of_below hb3))
      have HP3 := keep (HP2.out.below hb3)
      have HD3 := keep HE3.out.D
      clear hb3 HE2 HP2 HD2 HNam
      go_wp2_with (first
        | refine wpList_store_row rfl 76 (.tmp 4) (.tmp 35) rfl w.heap.size #[.int .i64 2, .int .i64 0, .string ⟨W.toArray⟩, .slice none 0 0] rfl rfl 76 #[.int .i64 0, .int .i64 0, .string ⟨#[]⟩, .slice none 0 0] HD3.out (info_E [.int .i64 2, .int .i64 0, .string ⟨W.toArray⟩, .slice none 0 0] rfl) rfl (by simp [Value.oneCell']) ?_)
      (try simp only [Exit.inBlock, Exit.then])
      refine bodyPost_ret (results_cell_row rfl _ _ w.heap.size _ #[.int .i64 2, .int .i64 0, .string ⟨W.toArray⟩, .slice none 0 0] (0, 0) _ rfl (setRow_heap _ _ _ _ _ _ HD3.out) Tryd.underlying76 rfl (info_E [.int .i64 2, .int .i64 0, .string ⟨W.toArray⟩, .slice none 0 0] rfl)) rfl ?_
      refine ⟨⟨2, 0, W, []⟩, .slice none 0 0, rfl, ExX.none (m + 1) _ _ _, ?_, HE3.out.fs.row (Nat.le_refl _) _⟩
      rw [exprT]
      refine rd_then (x := W) (n1 := s.size) H1.out H2.out ?_ (Nat.le_refl _)
      rw [if_neg HOp.out, if_neg (by rw [HQ.out]; decide), if_pos HQ2.out]
      exact rd_ok (HP3.out.row (D := w.heap.size) (by omega) _) hn rfl
    | false =>
      go_wp2_with fail
      refine (HNam.out _).mono ?_
      rintro r w3 ⟨rfl, hb3⟩
      have HE3 := keep (HE2.out.step hbl (Fs.of_below hb3))
      have HP3 := keep (HP2.out.below hb3)
      clear hb3 HE2 HP2 HD2 HNam
      go_wp2_with fail
      refine (bad_any b s1 e1 7 _ HP3.out).mono ?_
      rintro r w4 ⟨rfl, hp4, hf4⟩
      have HE4 := keep (HE3.out.step hbl hf4.fs)
      have HP4 := keep hp4
      have HD4 := keep HE4.out.D
      clear hp4 hf4 HE3 HP3
      go_wp2_with (first
        | refine wpList_store_row rfl 76 (.tmp 4) (.tmp 35) rfl w.heap.size #[.int .i64 2, .int .i64 0, .string ⟨W.toArray⟩, .slice none 0 0] rfl rfl 76 #[.int .i64 0, .int .i64 0, .string ⟨#[]⟩, .slice none 0 0] HD4.out (info_E [.int .i64 2, .int .i64 0, .string ⟨W.toArray⟩, .slice none 0 0] rfl) rfl (by simp [Value.oneCell']) ?_)
      (try simp only [Exit.inBlock, Exit.then])
      refine bodyPost_ret (results_cell_row rfl _ _ w.heap.size _ #[.int .i64 2, .int .i64 0, .string ⟨W.toArray⟩, .slice none 0 0] (0, 0) _ rfl (setRow_heap _ _ _ _ _ _ HD4.out) Tryd.underlying76 rfl (info_E [.int .i64 2, .int .i64 0, .string ⟨W.toArray⟩, .slice none 0 0] rfl)) rfl ?_
      refine ⟨⟨2, 0, W, []⟩, .slice none 0 0, rfl, ExX.none (m + 1) _ _ _, ?_, HE4.out.fs.row (Nat.le_refl _) _⟩
      rw [exprT]
      refine rd_then (x := W) (n1 := s.size) H1.out H2.out ?_ (Nat.le_refl _)
      rw [if_neg HOp.out, if_neg (by rw [HQ.out]; decide), if_neg (by rw [HQ2.out]; decide)]
      exact rd_bad (HP4.out.row (D := w.heap.size) (by omega) _) hn (by decide)
end Go.Proofs.YtemdnmfldihalaaDoor.Lr
