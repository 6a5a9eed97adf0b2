/- The program's own reader: an expression, however deep. -/
import Derived.Test.YtkobiojndamofaaDoorLwMade
namespace Go.Proofs.YtkobiojndamofaaDoor.Lr
set_option linter.unusedVariables false
open Go.ChangeShapes Go.WideShapes Go.ChangeAt Go.RowKit Lg

/-- How things stand while an expression is read: where it is laid. -/
structure ES (w W : World) (b c : Nat) : Prop where
  fs : Fs [b, c] w W
  D : Bk W w.heap.size [.int .i64 0, .int .i64 0, .string ⟨#[]⟩, .slice none 0 0] 39
theorem ES.step {w W W' : World} {b c : Nat} (h : ES w W b c) (hb : b < w.heap.size) (hc : c < w.heap.size) (k : Fs [b, c] W W') : ES w W' b c := ⟨h.fs.trans k, h.D.fs k (by simp; omega)⟩
def exprW (w : World) : World := w.alloc (.cells #[.int .i64 0, .int .i64 0, .string ⟨#[]⟩, .slice none 0 0] 39)
theorem exprW_es (w : World) (b c : Nat) : ES w (exprW w) b c := ⟨(Fs.refl _ w).up _, Bk.new w [.int .i64 0, .int .i64 0, .string ⟨#[]⟩, .slice none 0 0] 39⟩
theorem ExX.none {w : World} {X : Nat → Prop} (m : Nat) (k n : Int) (nm : List UInt8) : ExX w X (m + 1) ⟨k, n, nm, []⟩ (.slice none 0 0) := .inl ⟨rfl, rfl⟩

set_option maxHeartbeats 2000000 in
set_option maxRecDepth 100000 in
theorem expr_zero : ExprOK 0 := by
  intro b c s e w hs h ht hg
  have hbl := h.lt
  have hcl := h.ltc
  have HC := keep (deep_any b c s e 9 (exprW w) (h.up _))
  have HEs := keep (exprW_es w b c)
  clear h ht hg
  show Calls _ _ #[_, .int .i64 9] _ _
  go_enter Tryd.func87, Tryd.ntmps87
  go_wp2_with fail
  change Calls _ _ _ (exprW w) _
  refine HC.out.mono ?_
  rintro r w1 ⟨rfl, hp, hf⟩
  have HE1 := keep (HEs.out.step hbl hcl hf)
  have HD1 := keep HE1.out.D
  have HP1 := keep hp
  clear hp hf HC HEs
  go_wp2_with (first
    | refine wpList_store_row rfl 39 (.tmp 4) (.tmp 11) rfl w.heap.size #[.int .i64 0, .int .i64 0, .string ⟨#[]⟩, .slice none 0 0] rfl rfl 39 #[.int .i64 0, .int .i64 0, .string ⟨#[]⟩, .slice none 0 0] HD1.out (info_E [.int .i64 0, .int .i64 0, .string ⟨#[]⟩, .slice none 0 0] rfl) rfl (by simp [Value.oneCell']) ?_)
  (try simp only [Exit.inBlock, Exit.then])
  refine bodyPost_ret (results_cell_row rfl _ _ w.heap.size _ #[.int .i64 0, .int .i64 0, .string ⟨#[]⟩, .slice none 0 0] (0, 0) _ rfl (setRow_heap _ _ _ _ _ _ HD1.out) Tryd.underlying39 rfl (info_E [.int .i64 0, .int .i64 0, .string ⟨#[]⟩, .slice none 0 0] rfl)) rfl ?_
  refine ⟨⟨0, 0, [], []⟩, .slice none 0 0, rfl, ExX.none 0 _ _ _, ?_, HE1.out.fs.row (Nat.le_refl _) _⟩
  exact rd_bad (HP1.out.row (D := w.heap.size) (by omega) (by omega) _) (Nat.le_refl _) (by decide)

set_option maxHeartbeats 8000000 in
set_option maxRecDepth 100000 in
theorem expr_succ (m : Nat) (hm : m ≤ 8) (ih : ExprOK m) : ExprOK (m + 1) := by
  intro b c s e w hs h ht hg
  have hbl := h.lt
  have hcl := h.ltc
  have HTf : Hid (∀ W, Fs [b, c] w W → Tabs W) := fun W hW => tabs_fs ht hg hW hbl hcl
  have HMk : Hid (∀ (s : ByteArray) (e : Int) (W : World), s.size < 4294967281 → RB W b c s e → Tabs W → Calls Tryd.prog 91 #[.pointer (some ⟨b, 0, none⟩), .int .i64 (8 - (m : Int))] W fun r w' => ∃ (ex : Ex) (sl : Value), r = .returned (.agg (exA ex sl)) ∧ ExX w' (New W w') (m + 2) ex sl ∧ Rd w' b c s.size e (madeT m (words s.data.toList)) (fun a => a = ex) ∧ Fs [b, c] W w') :=
    fun s e W hs hp ht => made_rd m hm ih b c s e W hs hp ht hg
  have hd : decide (8 < 8 - (m : Int)) = false := decide_eq_false (by omega)
  have hif : (if 8 < 8 - (m : Int) then first e 9 else e) = e := if_neg (by omega)
  have HC := keep (deep_any b c s e (8 - (m : Int)) (exprW w) (h.up _))
  rw [hd, hif] at HC
  have HEs := keep (exprW_es w b c)
  clear h ht hg ih hif hd
  rw [show (9 : Int) - ((m + 1 : Nat) : Int) = 8 - (m : Int) by push_cast; omega]
  generalize 8 - (m : Int) = a8 at *
  have HWl := keep (fun w1 (hp : RB w1 b c s e) => word_rd b c s hs e w1 hp)
  have hl := wdE_len e s
  generalize hW : wdE e s.data.toList = W at *
  clear hW
  by_cases hop : W = [40]
  · subst hop
    go_enter Tryd.func87, Tryd.ntmps87
    go_wp2_with fail
    change Calls _ _ _ (exprW w) _
    refine HC.out.mono ?_
    rintro r w1 ⟨rfl, hp, hf⟩
    have HE1 := keep (HEs.out.step hbl hcl hf)
    have HP1 := keep hp
    clear hp hf HC HEs
    go_wp2_with fail
    refine (HWl.out w1 HP1.out).mono ?_
    rintro r w2 ⟨rfl, hr, hf⟩
    obtain ⟨s2, e2, hp, hn, h1, h2⟩ := hr
    have HE2 := keep (HE1.out.step hbl hcl hf)
    have HP2 := keep hp
    have H1 := keep h1
    have H2 := keep h2
    clear hp hf h1 h2 HWl HP1 HE1
    go_wp2_with fail
    refine (HMk.out s2 e2 w2 (by omega) HP2.out (HTf.out _ HE2.out.fs)).mono ?_
    rintro r w3 ⟨ex, sl, rfl, hex, hrd, hf⟩
    obtain ⟨p, q, cap, rfl⟩ := hex.slice
    obtain ⟨s3, e3, hp3, hn3, h31, h32⟩ := hrd
    have HE3 := keep (HE2.out.step hbl hcl hf)
    have HD3 := keep HE3.out.D
    have HP3 := keep hp3
    have H31 := keep h31
    have H32 := keep h32
    have HX := keep hex
    have hsz : w2.heap.size ≤ w3.heap.size := hf.size
    have hlt2 := HE2.out.D.lt
    clear hp3 hf h31 h32 hex HMk
    unfold exA
    go_wp2_with (first
      | refine wpList_store_row rfl 39 (.tmp 4) (.tmp 18) rfl w.heap.size #[.int .i64 ex.kind, .int .i64 ex.n, .string ⟨ex.name.toArray⟩, .slice p q cap] rfl rfl 39 #[.int .i64 0, .int .i64 0, .string ⟨#[]⟩, .slice none 0 0] HD3.out (info_E [.int .i64 ex.kind, .int .i64 ex.n, .string ⟨ex.name.toArray⟩, .slice p q cap] rfl) rfl (by simp [Value.oneCell']) ?_)
    (try simp only [Exit.inBlock, Exit.then])
    refine bodyPost_ret (results_cell_row rfl _ _ w.heap.size _ #[.int .i64 ex.kind, .int .i64 ex.n, .string ⟨ex.name.toArray⟩, .slice p q cap] (0, 0) _ rfl (setRow_heap _ _ _ _ _ _ HD3.out) Tryd.underlying39 rfl (info_E [.int .i64 ex.kind, .int .i64 ex.n, .string ⟨ex.name.toArray⟩, .slice p q cap] rfl)) rfl ?_
    refine ⟨ex, .slice p q cap, rfl, ?_, ?_, HE3.out.fs.row (Nat.le_refl _) _⟩
    · exact ExX.mono (X := New w2 w3) (fun i hi => ⟨by have := hi.1; omega, by have := hi.2; simp; omega⟩) (ExX.keep (fun i hi => setRow_other _ _ _ _ (by have := hi.1; omega)) HX.out)
    · rw [exprT]
      refine rd_then (x := [40]) (n1 := s.size) H1.out H2.out ?_ (Nat.le_refl _)
      rw [if_pos rfl]
      exact ⟨s3, e3, HP3.out.row (by omega) (by omega) _, by omega, H31.out, H32.out⟩
  · have hopb : (W == [40]) = false := by simpa using hop
    have HOp := keep hop
    clear hop HMk
    obtain ⟨n, hn⟩ : ∃ n, Wd.numV W = n := ⟨_, rfl⟩
    obtain ⟨q, hq⟩ : ∃ q, Wd.isNum W = q := ⟨_, rfl⟩
    have HNum : Hid (∀ v, Calls Tryd.prog 76 #[.string ⟨W.toArray⟩] v fun r w' => r = .returned (.tuple #[.int .i64 n, .bool q]) ∧ w' = v) := fun v => by
      rw [← hq, ← hn]; exact Wd.number_any ⟨W.toArray⟩ v (by rw [size_mk]; unfold maxLen; omega)
    have HV : Hid (q = true → n = (Wd.val W : Int)) := fun h => by rw [← hn]; unfold Wd.numV; rw [hq, h]; rfl
    have HQ := keep hq
    clear hq hn
    cases q with
    | true =>
      go_enter Tryd.func87, Tryd.ntmps87
      go_wp2_with fail
      change Calls _ _ _ (exprW w) _
      refine HC.out.mono ?_
      rintro r w1 ⟨rfl, hp, hf⟩
      have HE1 := keep (HEs.out.step hbl hcl hf)
      have HP1 := keep hp
      clear hp hf HC HEs
      go_wp2_with fail
      refine (HWl.out w1 HP1.out).mono ?_
      rintro r w2 ⟨rfl, hr, hf⟩
      obtain ⟨s2, e2, hp, hn, h1, h2⟩ := hr
      have HE2 := keep (HE1.out.step hbl hcl hf)
      have HD2 := keep HE2.out.D
      have HP2 := keep hp
      have H1 := keep h1
      have H2 := keep h2
      clear hp hf h1 h2 HWl HP1 HE1
      go_wp2_with fail
      refine (HNum.out _).mono ?_
      rintro r w3 ⟨rfl, hw⟩
      subst hw
      go_wp2_with (first
        | refine wpList_store_row rfl 39 (.tmp 4) (.tmp 26) rfl w.heap.size #[.int .i64 1, .int .i64 n, .string ⟨#[]⟩, .slice none 0 0] rfl rfl 39 #[.int .i64 0, .int .i64 0, .string ⟨#[]⟩, .slice none 0 0] HD2.out (info_E [.int .i64 1, .int .i64 n, .string ⟨#[]⟩, .slice none 0 0] rfl) rfl (by simp [Value.oneCell']) ?_)
      (try simp only [Exit.inBlock, Exit.then])
      refine bodyPost_ret (results_cell_row rfl _ _ w.heap.size _ #[.int .i64 1, .int .i64 n, .string ⟨#[]⟩, .slice none 0 0] (0, 0) _ rfl (setRow_heap _ _ _ _ _ _ HD2.out) Tryd.underlying39 rfl (info_E [.int .i64 1, .int .i64 n, .string ⟨#[]⟩, .slice none 0 0] rfl)) rfl ?_
      refine ⟨⟨1, n, [], []⟩, .slice none 0 0, rfl, ExX.none _ _ _ _, ?_, HE2.out.fs.row (Nat.le_refl _) _⟩
      rw [exprT]
      refine rd_then (x := W) (n1 := s.size) H1.out H2.out ?_ (Nat.le_refl _)
      rw [if_neg HOp.out, if_pos HQ.out]
      exact rd_ok (HP2.out.row (by omega) (by omega) _) hn (by rw [HV.out trivial])
    | false =>
      have HI : Hid (∃ z, isName W = z) := ⟨_, rfl⟩
      obtain ⟨z, hz⟩ := HI.out
      have HNm : Hid (∀ v, Tabs v → Calls Tryd.prog 11 #[.string ⟨W.toArray⟩] v fun r w' => r = .returned (.bool z) ∧ Below v.heap.size v w') := fun v hv => by
        rw [← hz]; exact name_any ⟨W.toArray⟩ (by rw [size_mk]; omega) v hv
      have HO : Hid (∀ v, Calls Tryd.prog 75 #[.string ⟨W.toArray⟩] v fun r w' => r = .returned (.string ⟨W.toArray⟩) ∧ Below v.heap.size v w') := fun v => own_any _ (by rw [size_mk]; omega) v
      have HZ := keep hz
      clear hz HI
      cases z with
      | true =>
        go_enter Tryd.func87, Tryd.ntmps87
        go_wp2_with fail
        change Calls _ _ _ (exprW w) _
        refine HC.out.mono ?_
        rintro r w1 ⟨rfl, hp, hf⟩
        have HE1 := keep (HEs.out.step hbl hcl hf)
        have HP1 := keep hp
        clear hp hf HC HEs
        go_wp2_with fail
        refine (HWl.out w1 HP1.out).mono ?_
        rintro r w2 ⟨rfl, hr, hf⟩
        obtain ⟨s2, e2, hp, hn, h1, h2⟩ := hr
        have HE2 := keep (HE1.out.step hbl hcl hf)
        have HP2 := keep hp
        have H1 := keep h1
        have H2 := keep h2
        clear hp hf h1 h2 HWl HP1 HE1
        go_wp2_with fail
        refine (HNum.out _).mono ?_
        rintro r w3 ⟨rfl, hw⟩
        subst hw
        go_wp2_with fail
        refine (HNm.out _ (HTf.out _ HE2.out.fs)).mono ?_
        rintro r w3 ⟨rfl, hb3⟩
        have HE3 := keep (HE2.out.step hbl hcl (Fs.of_below hb3))
        have HP3 := keep (HP2.out.below hb3)
        clear hb3 HE2 HP2 HNm
        go_wp2_with fail
        refine (HO.out _).mono ?_
        rintro r w5 ⟨rfl, hb5⟩
        have HE5 := keep (HE3.out.step hbl hcl (Fs.of_below hb5))
        have HP5 := keep (HP3.out.below hb5)
        have HD5 := keep HE5.out.D
        clear hb5
        go_wp2_with (first
          | refine wpList_store_row rfl 39 (.tmp 4) (.tmp 34) rfl w.heap.size #[.int .i64 2, .int .i64 0, .string ⟨W.toArray⟩, .slice none 0 0] rfl rfl 39 #[.int .i64 0, .int .i64 0, .string ⟨#[]⟩, .slice none 0 0] HD5.out (info_E [.int .i64 2, .int .i64 0, .string ⟨W.toArray⟩, .slice none 0 0] rfl) rfl (by simp [Value.oneCell']) ?_)
        (try simp only [Exit.inBlock, Exit.then])
        refine bodyPost_ret (results_cell_row rfl _ _ w.heap.size _ #[.int .i64 2, .int .i64 0, .string ⟨W.toArray⟩, .slice none 0 0] (0, 0) _ rfl (setRow_heap _ _ _ _ _ _ HD5.out) Tryd.underlying39 rfl (info_E [.int .i64 2, .int .i64 0, .string ⟨W.toArray⟩, .slice none 0 0] rfl)) rfl ?_
        refine ⟨⟨2, 0, W, []⟩, .slice none 0 0, rfl, ExX.none _ _ _ _, ?_, HE5.out.fs.row (Nat.le_refl _) _⟩
        rw [exprT]
        refine rd_then (x := W) (n1 := s.size) H1.out H2.out ?_ (Nat.le_refl _)
        rw [if_neg HOp.out, if_neg (by rw [HQ.out]; decide), if_pos HZ.out]
        exact rd_ok (HP5.out.row (by omega) (by omega) _) hn rfl
      | false =>
        go_enter Tryd.func87, Tryd.ntmps87
        go_wp2_with fail
        change Calls _ _ _ (exprW w) _
        refine HC.out.mono ?_
        rintro r w1 ⟨rfl, hp, hf⟩
        have HE1 := keep (HEs.out.step hbl hcl hf)
        have HP1 := keep hp
        clear hp hf HC HEs
        go_wp2_with fail
        refine (HWl.out w1 HP1.out).mono ?_
        rintro r w2 ⟨rfl, hr, hf⟩
        obtain ⟨s2, e2, hp, hn, h1, h2⟩ := hr
        have HE2 := keep (HE1.out.step hbl hcl hf)
        have HP2 := keep hp
        have H1 := keep h1
        have H2 := keep h2
        clear hp hf h1 h2 HWl HP1 HE1
        go_wp2_with fail
        refine (HNum.out _).mono ?_
        rintro r w3 ⟨rfl, hw⟩
        subst hw
        go_wp2_with fail
        refine (HNm.out _ (HTf.out _ HE2.out.fs)).mono ?_
        rintro r w3 ⟨rfl, hb3⟩
        have HE3 := keep (HE2.out.step hbl hcl (Fs.of_below hb3))
        have HP3 := keep (HP2.out.below hb3)
        clear hb3 HE2 HP2 HNm
        go_wp2_with fail
        refine (fail_any b c s2 e2 7 _ HP3.out).mono ?_
        rintro r w4 ⟨rfl, hp4, hf4⟩
        have HE4 := keep (HE3.out.step hbl hcl hf4)
        have HP4 := keep hp4
        clear hp4 hf4 HE3 HP3
        go_wp2_with fail
        refine (HO.out _).mono ?_
        rintro r w5 ⟨rfl, hb5⟩
        have HE5 := keep (HE4.out.step hbl hcl (Fs.of_below hb5))
        have HP5 := keep (HP4.out.below hb5)
        have HD5 := keep HE5.out.D
        clear hb5
        go_wp2_with (first
          | refine wpList_store_row rfl 39 (.tmp 4) (.tmp 34) rfl w.heap.size #[.int .i64 2, .int .i64 0, .string ⟨W.toArray⟩, .slice none 0 0] rfl rfl 39 #[.int .i64 0, .int .i64 0, .string ⟨#[]⟩, .slice none 0 0] HD5.out (info_E [.int .i64 2, .int .i64 0, .string ⟨W.toArray⟩, .slice none 0 0] rfl) rfl (by simp [Value.oneCell']) ?_)
        (try simp only [Exit.inBlock, Exit.then])
        refine bodyPost_ret (results_cell_row rfl _ _ w.heap.size _ #[.int .i64 2, .int .i64 0, .string ⟨W.toArray⟩, .slice none 0 0] (0, 0) _ rfl (setRow_heap _ _ _ _ _ _ HD5.out) Tryd.underlying39 rfl (info_E [.int .i64 2, .int .i64 0, .string ⟨W.toArray⟩, .slice none 0 0] rfl)) rfl ?_
        refine ⟨⟨2, 0, W, []⟩, .slice none 0 0, rfl, ExX.none _ _ _ _, ?_, HE5.out.fs.row (Nat.le_refl _) _⟩
        rw [exprT]
        refine rd_then (x := W) (n1 := s.size) H1.out H2.out ?_ (Nat.le_refl _)
        rw [if_neg HOp.out, if_neg (by rw [HQ.out]; decide), if_neg (by rw [HZ.out]; decide)]
        exact rd_bad (HP5.out.row (by omega) (by omega) _) hn (by decide)
theorem expr_ok : ∀ m : Nat, m ≤ 9 → ExprOK m
  | 0, _ => expr_zero
  | m + 1, h => expr_succ m (by omega) (expr_ok m (by omega))
end Go.Proofs.YtkobiojndamofaaDoor.Lr
