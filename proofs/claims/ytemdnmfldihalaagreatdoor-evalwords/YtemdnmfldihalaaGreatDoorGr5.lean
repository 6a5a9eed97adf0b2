/- Laid together: LePub, LeSame, LeSync, LfBase. -/
import Derived.Test.YtemdnmfldihalaaGreatDoorGr4
import Derived.Test.YtemdnmfldihalaaGreatDoorGr2
import Derived.Test.YtemdnmfldihalaaGreatDoorGr3
namespace Go.Proofs.YtemdnmfldihalaaGreatDoor.Lg
set_option linter.unusedVariables false
set_option linter.unusedSimpArgs false

theorem atV_cons (v : Vr) (rs : List Vr) (x : List UInt8) : atV (v :: rs) x = if v.name == x then some 0 else (atV rs x).map (· + 1) := by
  unfold atV
  rw [List.findIdx?_cons]
theorem place_inv {rs : List Vr} {dark s to : Bool} {x : List UInt8} {p : Ex} (h : placeK rs dark x p s = .ok to) : ∃ v, byV rs x = some v ∧ s = false ∧ to = v.secret ∧ (dark = true → p.kind = 1 ∧ p.n < v.size) := by
  unfold placeK at h
  cases hb : byV rs x with
  | none => rw [hb] at h; cases h
  | some v =>
    rw [hb] at h
    dsimp only at h
    split at h
    · cases h
    · rename_i hc
      cases h
      simp only [Bool.or_eq_true, Bool.and_eq_true, Bool.not_eq_true', not_or, not_and, Bool.not_eq_true] at hc
      refine ⟨v, rfl, hc.1, rfl, fun hd => ?_⟩
      have := hc.2 hd
      simpa using this
theorem stmt_cases {rs : List Vr} {m : Nat} {dark : Bool} {t : St} {ns : List Nm} {wk lt : Nat} {k' : Ks} (hw : wfS (m + 1) t) (h : stmtK rs (m + 1) dark t ⟨ns, wk, lt⟩ = .ok k') :
    (∃ x s, t.kind = 1 ∧ t.args = [x] ∧ exprK rs ns dark m x = .ok s ∧ byN ns t.name = none ∧ (t.secret = false → s = false ∧ dark = false) ∧ k' = ⟨ns ++ [⟨t.name, t.secret, false⟩], wk + 1, lt + 1⟩) ∨
    (∃ x s v, t.kind = 2 ∧ t.args = [x] ∧ exprK rs ns dark m x = .ok s ∧ byN ns t.name = some v ∧ (v.secret = false → s = false ∧ dark = false) ∧ k' = ⟨ns, wk + 1, lt⟩) ∨
    (∃ x y u v, t.kind = 3 ∧ t.args = [x, y] ∧ exprK rs ns dark m x = .ok false ∧ exprK rs ns dark m y = .ok u ∧ byV rs t.name = some v ∧ (dark = true → x.kind = 1 ∧ x.n < v.size) ∧ (v.secret = false → u = false ∧ dark = false) ∧ k' = ⟨ns, wk + 1, lt⟩) ∨
    (∃ x s k1, t.kind = 4 ∧ t.args = [x] ∧ exprK rs ns dark m x = .ok s ∧ (∀ u ∈ t.thn, wfS m u) ∧ (∀ u ∈ t.els, wfS m u) ∧ blockK (stmtK rs m (s || dark)) t.thn ⟨ns, wk + 1, lt⟩ = .ok k1 ∧ blockK (stmtK rs m (s || dark)) t.els k1 = .ok k') ∨
    (∃ k1, t.kind = 5 ∧ t.args = [] ∧ 0 ≤ t.n ∧ t.n ≤ 8 ∧ (∀ u ∈ t.thn, wfS m u) ∧ byN ns t.name = none ∧ roundsK (blockK (stmtK rs m dark) t.thn) t.n.toNat ⟨ns ++ [⟨t.name, false, true⟩], wk + 1, lt⟩ = .ok k1 ∧ k' = ⟨ns, k1.work, k1.lets⟩) ∨
    (∃ x s, t.kind = 6 ∧ t.args = [x] ∧ exprK rs ns dark m x = .ok s ∧ dark = false ∧ k' = ⟨ns, wk + 1, lt⟩) := by
  rw [stmtK] at h
  split at h
  · cases h
  dsimp only at h
  rcases hw with ⟨hk, _, _, _, x, hx, hwx⟩ | ⟨hk, _, _, _, _, _, x, y, hx, hwx, hwy⟩ | ⟨hk, _, _, _, ⟨x, hx, hwx⟩, hth, hel⟩ | ⟨hk, _, _, h0, h8, hx, _, hth⟩
  · rcases hk with ⟨hk, _⟩ | ⟨hk, _⟩ | ⟨hk, _⟩
    · rw [if_pos hk, hx] at h
      obtain ⟨s, hs, h⟩ := thenK_inv h
      unfold letK takenK at h
      split at h
      · cases h
      rename_i ht
      split at h
      · cases h
      rename_i hl
      split at h
      · cases h
      cases h
      refine .inl ⟨x, s, hk, hx, hs, ?_, fun h1 => ?_, rfl⟩
      · cases hb : byN ns t.name with
        | none => rfl
        | some v => exfalso; apply ht; dsimp only; rw [hb]; rfl
      · simp only [h1, Bool.not_false, Bool.true_and, Bool.or_eq_true, not_or, Bool.not_eq_true] at hl
        exact hl
    · rw [if_neg (by rw [hk]; decide), if_pos hk, hx] at h
      obtain ⟨s, hs, h⟩ := thenK_inv h
      unfold setK at h
      dsimp only at h
      cases hb : byN ns t.name with
      | none => rw [hb] at h; cases h
      | some v =>
        rw [hb] at h
        dsimp only at h
        split at h
        · cases h
        split at h
        · cases h
        rename_i hl
        cases h
        refine .inr (.inl ⟨x, s, v, hk, hx, hs, rfl, fun h1 => ?_, rfl⟩)
        simp only [h1, Bool.not_false, Bool.true_and, Bool.or_eq_true, not_or, Bool.not_eq_true] at hl
        exact hl
    · rw [if_neg (by rw [hk]; decide), if_neg (by rw [hk]; decide), if_neg (by rw [hk]; decide), if_neg (by rw [hk]; decide), if_neg (by rw [hk]; decide), if_pos hk, hx] at h
      obtain ⟨s, hs, h⟩ := thenK_inv h
      split at h
      · cases h
      rename_i hd
      cases h
      exact .inr (.inr (.inr (.inr (.inr ⟨x, s, hk, hx, hs, by simpa using hd, rfl⟩))))
  · rw [if_neg (by rw [hk]; decide), if_neg (by rw [hk]; decide), if_pos hk, hx] at h
    obtain ⟨s, hs, h⟩ := thenK_inv h
    obtain ⟨u, hu, h⟩ := thenK_inv h
    obtain ⟨to, hto, h⟩ := thenK_inv h
    split at h
    · cases h
    rename_i hl
    cases h
    obtain ⟨v, hv, rfl, rfl, hd⟩ := place_inv hto
    refine .inr (.inr (.inl ⟨x, y, u, v, hk, hx, hs, hu, hv, hd, fun h1 => ?_, rfl⟩))
    simp only [h1, Bool.not_false, Bool.true_and, Bool.or_eq_true, not_or, Bool.not_eq_true] at hl
    exact hl
  · rw [if_neg (by rw [hk]; decide), if_neg (by rw [hk]; decide), if_neg (by rw [hk]; decide), if_pos hk, hx] at h
    obtain ⟨s, hs, h⟩ := thenK_inv h
    obtain ⟨k1, hk1, h⟩ := thenK_inv h
    exact .inr (.inr (.inr (.inl ⟨x, s, k1, hk, hx, hs, hth, hel, hk1, h⟩)))
  · rw [if_neg (by rw [hk]; decide), if_neg (by rw [hk]; decide), if_neg (by rw [hk]; decide), if_neg (by rw [hk]; decide), if_pos hk] at h
    split at h
    · cases h
    rename_i ht
    obtain ⟨k1, hk1, h⟩ := thenK_inv h
    cases h
    refine .inr (.inr (.inr (.inr (.inl ⟨k1, hk, hx, h0, h8, hth, ?_, hk1, rfl⟩))))
    unfold takenK at ht
    cases hb : byN ns t.name with
    | none => rfl
    | some v => exfalso; apply ht; rw [hb]; rfl
def Sy (ks : Ks) (k : Mm) : Prop := k.env.map Prod.fst = ks.ns.map Nm.name ∧ k.work ≤ ks.work
def SyR (ks : Ks) (r : Rs) : Prop := AllR (Sy ks) (fun _ _ _ n => n ≤ ks.work) r
theorem Sy.len {ks : Ks} {k : Mm} (h : Sy ks k) : k.env.length = ks.ns.length := by
  have := congrArg List.length h.1
  simpa using this
theorem evL_sync {f : St → Mm → Rs} {g : St → Ks → Except Int Ks} : ∀ (l : List St), (∀ t ∈ l, ∀ ks ks', ks.work ≤ 300 → ks.lets ≤ 24 → g t ks = .ok ks' → Gd ks ks' ∧ ∀ k, Sy ks k → SyR ks' (f t k)) →
    ∀ ks ks', ks.work ≤ 300 → ks.lets ≤ 24 → stmtsK g l ks = .ok ks' → Gd ks ks' ∧ ∀ k, Sy ks k → SyR ks' (evL f l k)
  | [], _, ks, ks', h1, h2, h => by
    cases h
    exact ⟨Gd.refl h1 h2, fun k hk => hk⟩
  | t :: l, hf, ks, ks', h1, h2, h => by
    rw [stmtsK] at h
    obtain ⟨k1, hk1, h⟩ := thenK_inv h
    obtain ⟨hg, hd⟩ := hf t (by simp) ks k1 h1 h2 hk1
    obtain ⟨hg2, hd2⟩ := evL_sync l (fun u hu => hf u (by simp [hu])) k1 ks' hg.most hg.lets h
    refine ⟨hg.trans hg2, fun k hk => ?_⟩
    rw [evL]
    exact AllR.andThen (p := Sy k1) ((hd k hk).mono (fun _ h => h) fun _ _ _ n hn => Nat.le_trans hn hg2.work) fun k' hk' => hd2 k' hk'
theorem evB_sync {f : St → Mm → Rs} {g : St → Ks → Except Int Ks} (l : List St) (hf : ∀ t ∈ l, ∀ ks ks', ks.work ≤ 300 → ks.lets ≤ 24 → g t ks = .ok ks' → Gd ks ks' ∧ ∀ k, Sy ks k → SyR ks' (f t k))
    {ks ks' : Ks} (h1 : ks.work ≤ 300) (h2 : ks.lets ≤ 24) (h : blockK g l ks = .ok ks') : (Gd ks ks' ∧ ks'.ns = ks.ns) ∧ ∀ k, Sy ks k → SyR ks' (evB f l k) := by
  unfold blockK at h
  obtain ⟨k1, hk1, h⟩ := thenK_inv h
  cases h
  obtain ⟨hg, hd⟩ := evL_sync l hf ks k1 h1 h2 hk1
  refine ⟨⟨⟨⟨[], by simp⟩, hg.work, hg.most, hg.lets, by have := hg.work; dsimp only; omega⟩, rfl⟩, fun k hk => ?_⟩
  unfold evB cutR
  refine (hd k hk).andThen fun k' hk' => ⟨?_, hk'.2⟩
  obtain ⟨nx, hnx⟩ := hg.ns
  show (k'.env.take k.env.length).map Prod.fst = ks.ns.map Nm.name
  rw [List.map_take, hk'.1, hnx, hk.len, List.map_append, List.take_left' (by simp)]
theorem evS_sync {rs : List Vr} : ∀ (m : Nat) (t : St), wfS m t → ∀ dark ks ks', ks.work ≤ 300 → ks.lets ≤ 24 → stmtK rs m dark t ks = .ok ks' → Gd ks ks' ∧ ∀ k, Sy ks k → SyR ks' (evS rs m t k)
  | 0, t, hw, dark, ks, ks', _, _, h => hw.elim
  | m + 1, t, hw, dark, ks, ks', h1, h2, h => by
    have hgd := (stmt_gd rs (m + 1) dark t ks h1 h2).2 ks' h
    refine ⟨hgd, fun k hk => ?_⟩
    obtain ⟨ns, wk, lt⟩ := ks
    have hw1 : wk + 1 ≤ ks'.work := by
      have h' := h
      rcases stmt_cases hw h with ⟨x, s, _, hx, hs, hno, hl, rfl⟩ | ⟨x, s, v, _, hx, hs, hv, hl, rfl⟩ | ⟨x, y, u, v, _, hx, hs, hu, hv, hd, hl, rfl⟩ | ⟨x, s, k1, _, hx, hs, hth, hel, hb1, hb2⟩ | ⟨k1, _, hx, h0, h8, hth, hno, hr, rfl⟩ | ⟨x, s, _, hx, hs, hd, rfl⟩
      · exact Nat.le_refl _
      · exact Nat.le_refl _
      · exact Nat.le_refl _
      · rw [stmtK] at h
        split at h
        · cases h
        rename_i hn
        have g1 := ((block_gd t.thn (fun u _ k a b => stmt_gd rs m _ u k a b) ⟨ns, wk + 1, lt⟩ (by dsimp only at *; omega) h2).2 _ hb1).1
        have g2 := ((block_gd t.els (fun u _ k a b => stmt_gd rs m _ u k a b) k1 g1.most g1.lets).2 _ hb2).1
        exact Nat.le_trans g1.work g2.work
      · rw [stmtK] at h
        split at h
        · cases h
        rename_i hn
        have g1 := ((rounds_gd (fun k a b => block_gd t.thn (fun u _ k a b => stmt_gd rs m _ u k a b) k a b) t.n.toNat ⟨ns ++ [⟨t.name, false, true⟩], wk + 1, lt⟩ (by dsimp only at *; omega) h2).2 _ hr).1
        exact g1.work
      · exact Nat.le_refl _
    have hm := hgd.most
    dsimp only at h1 h2
    obtain ⟨hk1, hk2⟩ := hk
    dsimp only at hk1 hk2
    rw [evS]
    cases hl : allE (evE rs k.env k.arr m) t.args with
    | none => show k.work + 1 ≤ _; omega
    | some vs =>
      dsimp only
      rcases stmt_cases hw h with ⟨x, s, hk, hx, hs, hno, hl, rfl⟩ | ⟨x, s, v, hk, hx, hs, hv, hl, rfl⟩ | ⟨x, y, u, v, hk, hx, hs, hu, hv, hd, hl, rfl⟩ | ⟨x, s, k1, hk, hx, hs, hth, hel, hb1, hb2⟩ | ⟨k1, hk, hx, h0, h8, hth, hno, hr, rfl⟩ | ⟨x, s, hk, hx, hs, hd, rfl⟩
      · rw [if_pos hk]
        exact ⟨by simp [hk1], by dsimp only; omega⟩
      · rw [if_neg (by rw [hk]; decide), if_pos hk]
        exact ⟨by dsimp only; rw [set_names]; exact hk1, by dsimp only; omega⟩
      · rw [if_neg (by rw [hk]; decide), if_neg (by rw [hk]; decide), if_pos hk]
        split
        · exact ⟨hk1, by dsimp only; omega⟩
        · show k.work + 1 ≤ _; dsimp only; omega
      · have q1 : ¬ t.kind = 1 := by rw [hk]; decide
        have q2 : ¬ t.kind = 2 := by rw [hk]; decide
        have q3 : ¬ t.kind = 3 := by rw [hk]; decide
        rw [if_neg q1, if_neg q2, if_neg q3, if_pos hk]
        obtain ⟨⟨hg1, hn1⟩, hd1⟩ := evB_sync t.thn (fun u hu ks ks' a b c => evS_sync m u (hth u hu) _ ks ks' a b c) (ks := ⟨ns, wk + 1, lt⟩) (by dsimp only; omega) h2 hb1
        obtain ⟨⟨hg2, hn2⟩, hd2⟩ := evB_sync t.els (fun u hu ks ks' a b c => evS_sync m u (hel u hu) _ ks ks' a b c) (ks := k1) hg1.most hg1.lets hb2
        have hgw := hg1.work
        dsimp only at hn1 hgw
        split
        · refine hd2 _ ⟨by rw [hn1]; exact hk1, by dsimp only; omega⟩
        · have h3 : SyR k1 (evB (evS rs m) t.thn ⟨k.env, k.arr, k.work + 1⟩) := hd1 ⟨k.env, k.arr, k.work + 1⟩ ⟨hk1, by dsimp only; omega⟩
          exact AllR.mono (p := Sy k1) (p' := Sy ks') h3 (fun k' h' => ⟨by rw [hn2]; exact h'.1, Nat.le_trans h'.2 hg2.work⟩) fun _ _ _ n hn => Nat.le_trans hn hg2.work
      · have q1 : ¬ t.kind = 1 := by rw [hk]; decide
        have q2 : ¬ t.kind = 2 := by rw [hk]; decide
        have q3 : ¬ t.kind = 3 := by rw [hk]; decide
        have q4 : ¬ t.kind = 4 := by rw [hk]; decide
        rw [if_neg q1, if_neg q2, if_neg q3, if_neg q4, if_pos hk]
        have key : ∀ (n : Nat) (i : Int) (kc kd : Ks), kc.ns = ns ++ [⟨t.name, false, true⟩] → kc.work ≤ 300 → kc.lets ≤ 24 → roundsK (blockK (stmtK rs m dark) t.thn) n kc = .ok kd → ∀ k : Mm, k.env.map Prod.fst = ns.map Nm.name → k.work ≤ kc.work →
            SyR ⟨ns, kd.work, kd.lets⟩ (evR (fun i k => cutR k.env.length (evB (evS rs m) t.thn ⟨k.env ++ [(t.name, i)], k.arr, k.work⟩)) n i k) := by
          intro n
          induction n with
          | zero => intro i kc kd _ _ _ hr k hE hW; cases hr; exact ⟨hE, hW⟩
          | succ n ih =>
            intro i kc kd hc hc1 hc2 hr k hE hW
            rw [roundsK] at hr
            obtain ⟨ke, he, hr⟩ := thenK_inv hr
            obtain ⟨⟨hg1, hn1⟩, hd1⟩ := evB_sync t.thn (fun u hu ks ks' a b c => evS_sync m u (hth u hu) _ ks ks' a b c) hc1 hc2 he
            have g2 := ((rounds_gd (fun k a b => block_gd t.thn (fun u _ k a b => stmt_gd rs m _ u k a b) k a b) n ke hg1.most hg1.lets).2 _ hr).1
            rw [evR]
            have hl : k.env.length = ns.length := by have := congrArg List.length hE; simpa using this
            have h1 := hd1 ⟨k.env ++ [(t.name, i)], k.arr, k.work⟩ ⟨by rw [hc]; simp [hE], hW⟩
            refine AllR.andThen (p := fun k' : Mm => k'.env.map Prod.fst = ns.map Nm.name ∧ k'.work ≤ ke.work) ?_ fun k' hk' => ih (i + 1) ke kd (hn1.trans hc) hg1.most hg1.lets hr k' hk'.1 hk'.2
            refine AllR.andThen (h1.mono (fun _ h => h) fun _ _ _ n hn => Nat.le_trans hn g2.work) fun k' hk' => ⟨?_, hk'.2⟩
            show (k'.env.take k.env.length).map Prod.fst = ns.map Nm.name
            rw [List.map_take, hk'.1, hn1, hc, hl, List.map_append, List.take_left' (by simp)]
        exact key t.n.toNat 0 _ k1 rfl (by dsimp only; have := ((rounds_gd (fun k a b => block_gd t.thn (fun u _ k a b => stmt_gd rs m dark u k a b) k a b) t.n.toNat ⟨ns ++ [⟨t.name, false, true⟩], 0, lt⟩ (by simp) h2)); omega) h2 hr ⟨k.env, k.arr, k.work + 1⟩ hk1 (by dsimp only; omega)
      · rw [if_neg (by rw [hk]; decide), if_neg (by rw [hk]; decide), if_neg (by rw [hk]; decide), if_neg (by rw [hk]; decide), if_neg (by rw [hk]; decide), if_pos hk]
        show k.work + 1 ≤ _; dsimp only; omega
end Go.Proofs.YtemdnmfldihalaaGreatDoor.Lg
namespace Go.Proofs.YtemdnmfldihalaaGreatDoor.Ord
set_option linter.unusedVariables false
def left (ops : Array Oper) (d : Array Bool) : Nat := (List.range ops.size).countP fun i => !d.getD i true
theorem count_less {p q : Nat → Bool} {i : Nat} : ∀ {l : List Nat}, l.Nodup → i ∈ l → q i = false → p i = true → (∀ j, j ≠ i → q j = p j) → l.countP q < l.countP p
  | [], _, hi, _, _, _ => by cases hi
  | a :: l, hn, hi, hq, hp, h => by
    obtain ⟨hn1, hn2⟩ := List.nodup_cons.1 hn
    by_cases e : a = i
    · subst e
      rw [List.countP_cons_of_neg (by rw [hq]; simp), List.countP_cons_of_pos hp]
      have : l.countP q = l.countP p := by
        apply List.countP_congr
        intro x hx
        rw [h x (fun e => hn1 (e ▸ hx))]
      omega
    · have hi' : i ∈ l := by
        rcases List.mem_cons.1 hi with e2 | e2
        · exact absurd e2.symm e
        · exact e2
      have := count_less (l := l) hn2 hi' hq hp h
      rw [List.countP_cons, List.countP_cons, h a e]
      omega
theorem left_less {md : Region.Mode} {ops : Array Oper} {d : Array Bool} {i : Nat} (h : i ∈ Region.ready md ops d) : left ops (d.setIfInBounds i true) < left ops d := by
  unfold Region.ready at h
  obtain ⟨h1, h2⟩ := List.mem_filter.1 h
  rw [Bool.and_eq_true] at h2
  have hd : d.getD i true = false := by simpa using h2.1
  have hlt : i < d.size := by
    by_cases hl : i < d.size
    · exact hl
    · rw [Array.getD_eq_getD_getElem?, Array.getElem?_eq_none (Nat.le_of_not_lt hl)] at hd
      cases hd
  refine count_less (i := i) List.nodup_range h1 ?_ h2.1 ?_
  · rw [Array.getD_eq_getD_getElem?, Array.getElem?_setIfInBounds, if_pos rfl, if_pos hlt]; rfl
  · intro j hj
    rw [Array.getD_eq_getD_getElem?, Array.getD_eq_getD_getElem?, Array.getElem?_setIfInBounds, if_neg (fun e => hj e.symm)]
theorem ready_nil {md : Region.Mode} {ops : Array Oper} {d : Array Bool} (h : left ops d = 0) : Region.ready md ops d = [] := by
  unfold Region.ready left at *
  rw [List.filter_eq_nil_iff]
  intro i hi
  have := List.countP_eq_zero.1 h i hi
  rw [Bool.and_eq_true]
  exact fun h2 => this h2.1
theorem wpM_inv {P : Program} {md : Region.Mode} {ops : Array Oper} {Q : Exit → Act → World → Prop} {S : World → Prop} {L : List Nat} (J : Array Bool → Act → World → Prop) (hS : ∀ d a w, J d a w → S w) (hend : ∀ d a w, J d a w → Region.ready md ops d = [] → Q .normal a w)
    (hstep : ∀ d a w, J d a w → ∀ i ∈ Region.ready md ops d, wpOp P ops Q i (J (d.setIfInBounds i true)) a w) : ∀ n d a w, left ops d ≤ n → J d a w → wpM P md ops Q S L n d a w
  | 0, d, a, w, hn, hJ => ⟨ready_nil (by omega), hend d a w hJ (ready_nil (by omega))⟩
  | n + 1, d, a, w, hn, hJ => ⟨fun hr => hend d a w hJ hr, fun i hi => wpOp_mono (fun a' w' hJ' => ⟨fun _ => hS _ _ _ hJ', wpM_inv J hS hend hstep n _ a' w' (by have := left_less hi; omega) hJ'⟩) (hstep d a w hJ i hi)⟩
end Go.Proofs.YtemdnmfldihalaaGreatDoor.Ord
namespace Go.Proofs.YtemdnmfldihalaaGreatDoor.Lr
set_option linter.unusedVariables false
set_option linter.unusedSimpArgs false
open Go.ChangeShapes Go.WideShapes Go.ChangeAt Go.RowKit Lg

structure Rt where
  R : Nat
  M : Nat
  AO : Nat
  ab : List Nat
def EnvM (W : World) : List (List UInt8 × Nat) → Env → Prop
  | [], [] => True
  | p :: sc, q :: env => p.1 = q.1 ∧ Bk W p.2 [.int .i64 q.2] 3 ∧ EnvM W sc env
  | _, _ => False
def ArrM (t : Rt) (W : World) (arr : List (List Int)) : Prop := ∀ i row, arr[i]? = some row → ∃ b, t.ab[i]? = some b ∧ W.cell? ⟨t.AO, i, none⟩ = some (.slice (some ⟨b, 0, none⟩) row.length row.length) ∧ Bk W b (row.map (Value.int .i64)) 3
structure Sv where
  word : Int
  trap : Bool
  over : Bool
  work : Int
  err : Int
structure RM (t : Rt) (sc : List (List UInt8 × Nat)) (W : World) (env : Env) (arr : List (List Int)) (s : Sv) : Prop where
  mkr : W.cell? ⟨t.M, 0, none⟩ = some (.pointer (some ⟨t.R, 0, none⟩))
  run : Bk W t.R [.int .i64 s.word, .bool s.trap, .slice (some ⟨t.AO, 0, none⟩) arr.length arr.length, .bool s.over, .int .i64 s.work, .int .i64 s.err] 74
  arr : ArrM t W arr
  env : EnvM W sc env
structure Apart (t : Rt) (sc : List (List UInt8 × Nat)) : Prop where
  m : t.M ≠ t.R
  ao : t.AO ≠ t.R
  ab : ∀ b ∈ t.ab, b ≠ t.R
  sc : ∀ p ∈ sc, p.2 ≠ t.R
theorem EnvM.fs {R : Nat} {W W' : World} (hf : Fs [R] W W') : ∀ {sc : List (List UInt8 × Nat)} {env : Env}, (∀ p ∈ sc, p.2 ≠ R) → EnvM W sc env → EnvM W' sc env
  | [], [], _, _ => trivial
  | p :: sc, q :: env, hn, ⟨h1, h2, h3⟩ => ⟨h1, h2.fs hf (by simpa using hn p (by simp)), EnvM.fs hf (fun p hp => hn p (by simp [hp])) h3⟩
theorem cellF_fs {k : Nat} {w w' : World} (hf : Fs [k] w w') {g o : Nat} {v : Value} (h : w.cell? ⟨g, o, none⟩ = some v) (hk : g ≠ k) : w'.cell? ⟨g, o, none⟩ = some v := by
  rw [World.cell?_of_block (hf.block g (lt_of_cell h) (by simpa using hk))]; exact h
theorem ArrM.fs {t : Rt} {W W' : World} {arr : List (List Int)} (hf : Fs [t.R] W W') (ha : t.AO ≠ t.R) (hb : ∀ b ∈ t.ab, b ≠ t.R) (h : ArrM t W arr) : ArrM t W' arr := fun i row hi => by
  obtain ⟨b, h1, h2, h3⟩ := h i row hi
  exact ⟨b, h1, cellF_fs hf h2 ha, h3.fs hf (by simpa using hb b (List.mem_of_getElem? h1))⟩
theorem RM.turn {t : Rt} {sc : List (List UInt8 × Nat)} {W W' : World} {env : Env} {arr : List (List Int)} {s s' : Sv} (hA : Apart t sc) (h : RM t sc W env arr s) (hf : Fs [t.R] W W') (hb : Bk W' t.R [.int .i64 s'.word, .bool s'.trap, .slice (some ⟨t.AO, 0, none⟩) arr.length arr.length, .bool s'.over, .int .i64 s'.work, .int .i64 s'.err] 74) : RM t sc W' env arr s' :=
  ⟨cellF_fs hf h.mkr hA.m, hb, h.arr.fs hf hA.ao hA.ab, h.env.fs hf hA.sc⟩
theorem RM.below {t : Rt} {sc : List (List UInt8 × Nat)} {W W' : World} {env : Env} {arr : List (List Int)} {s : Sv} (hA : Apart t sc) (h : RM t sc W env arr s) (hb : Below W.heap.size W W') : RM t sc W' env arr s :=
  h.turn hA (Fs.of_below hb) (h.run.fs (Fs.of_below (l := []) hb) (by simp))
def Fv (v : Value) (k : FuncId) (binds : Array Value) : Prop := v = .func (.func k) #[] binds ∧ ∀ args w, (callFunc k args).run Tryz.prog w = .ok (.enter k args) w
def Keeps (lo hi : Nat) (w W : World) : Prop := ∀ i, lo ≤ i → i < hi → W.heap[i]? = w.heap[i]?
def trapped (s : Sv) : Sv := ⟨s.word, true, true, s.work, s.err⟩
def ExP (t : Rt) (sc : List (List UInt8 × Nat)) (W : World) (env : Env) (arr : List (List Int)) (s : Sv) (res : Option Int) (r : Ending) (W' : World) : Prop :=
  ∃ n, r = .returned (.int .i64 n) ∧ ((s.over = true ∧ Below W.heap.size W W') ∨ (s.over = false ∧ ((res = some n ∧ Below W.heap.size W W') ∨ (res = none ∧ Fs [t.R] W W' ∧ RM t sc W' env arr (trapped s)))))
def GoodE (t : Rt) (sc : List (List UInt8 × Nat)) (rs : List Vr) (m : Nat) (w1 : World) (lo hi : Nat) (v : Value) (e : Ex) : Prop :=
  ∃ k binds, Fv v k binds ∧ ∀ W, Keeps lo hi w1 W → hi ≤ W.heap.size → ∀ env arr s, RM t sc W env arr s → GE env → GA rs arr → Calls Tryz.prog k binds W fun r W' => ExP t sc W env arr s (evE rs env arr m e) r W'
theorem Keeps.trans {lo hi : Nat} {a b c : World} (h : Keeps lo hi a b) (k : Keeps lo hi b c) : Keeps lo hi a c := fun i h1 h2 => (k i h1 h2).trans (h i h1 h2)
theorem Keeps.of_fs {lo hi R : Nat} {w W : World} (h : Fs [R] w W) (hR : R < lo) (hhi : hi ≤ w.heap.size) : Keeps lo hi w W := fun i h1 h2 => h.block i (by omega) (by simp; omega)
theorem Keeps.sub {lo hi lo' hi' : Nat} {w W : World} (h : Keeps lo hi w W) (h1 : lo ≤ lo') (h2 : hi' ≤ hi) : Keeps lo' hi' w W := fun i a b => h i (by omega) (by omega)
end Go.Proofs.YtemdnmfldihalaaGreatDoor.Lr
