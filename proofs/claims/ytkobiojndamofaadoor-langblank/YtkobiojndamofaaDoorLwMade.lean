/- The program's own reader: an expression that is made of others. Written by tools/gen_made.py. -/
import Derived.Test.YtkobiojndamofaaDoorLwExpr
namespace Go.Proofs.YtkobiojndamofaaDoor.Lr
set_option linter.unusedVariables false
open Go.ChangeShapes Go.WideShapes Go.ChangeAt Go.RowKit Lg

theorem rd_go {β : Type} {w2 : World} {b c n n1 : Nat} {e e1 : Int} {s1 : ByteArray} {res : Res Unit} {f : Unit → List (List UInt8) → Res β} {post : β → Prop}
    (h1 : ¬ e = 0 → e1 = e) (h2 : e = 0 → (∀ y, res = .error y → e1 = y ∧ ¬ y = 0) ∧ ∀ a r, res = .ok (a, r) → e1 = 0 ∧ words s1.data.toList = r ∧ True)
    (h : Rd w2 b c n1 e1 (f () (words s1.data.toList)) post) (hn : n1 ≤ n) : Rd w2 b c n e (andT res f) post :=
  rd_then (x := ()) h1 (fun he => ⟨(h2 he).1, fun a r hr => ⟨((h2 he).2 a r hr).1, ((h2 he).2 a r hr).2.1, rfl⟩⟩) h hn
theorem head_sel (q : List (List UInt8)) : headT [115, 101, 108] q = .ok ((4, 0, []), q) := rfl
theorem head_at (q : List (List UInt8)) : headT [97, 116] q = andT (nameT q) fun x r => .ok ((5, 0, x), r) := rfl
theorem head_sign {W : List UInt8} (h1 : ¬ W = [115, 101, 108]) (h2 : ¬ W = [97, 116]) (q : List (List UInt8)) : headT W q = if signOf W = 0 then .error 1 else .ok ((3, (signOf W : Nat), []), q) := by
  unfold headT
  rw [if_neg h1, if_neg h2]
set_option maxHeartbeats 8000000 in
set_option maxRecDepth 100000 in
theorem made_rd (m : Nat) (hm : m ≤ 8) (ih : ExprOK m) (b c : Nat) (s : ByteArray) (e : Int) (w : World) (hs : s.size < 4294967281) (h : RB w b c s e) (ht : Tabs w) (hg : GL b ∧ GL c) :
    Calls Tryd.prog 91 #[.pointer (some ⟨b, 0, none⟩), .int .i64 (8 - (m : Int))] w fun r w' => ∃ (ex : Ex) (sl : Value), r = .returned (.agg (exA ex sl)) ∧ ExX w' (New w w') (m + 2) ex sl ∧ Rd w' b c s.size e (madeT m (words s.data.toList)) (fun a => a = ex) ∧ Fs [b, c] w w' := by
  have hbl := h.lt
  have hcl := h.ltc
  have HTf : Hid (∀ W, Fs [b, c] w W → Tabs W) := fun W hW => tabs_fs ht hg hW hbl hcl
  have HMd : Hid (∀ (n : Nat) (_ : n ≤ 3) (k k0 n0 : Int) (nm : ByteArray) (sl0 : Value) (s : ByteArray) (e : Int) (W : World), s.size < 4294967281 → RB W b c s e → MS w W b c (8 - (m : Int)) [.int .i64 k0, .int .i64 n0, .string nm, sl0] →
      Calls Tryd.prog 96 #[.int .i64 k, .int .i64 (n : Int), .pointer (some ⟨w.heap.size, 0, none⟩), .pointer (some ⟨w.heap.size + 1, 0, none⟩), .pointer (some ⟨w.heap.size + 1 + 1 + 1, 0, none⟩)] W fun r w' => r = .returned (.tuple #[]) ∧ ∃ (us : List Ex) (sl : Value),
        Bk w' (w.heap.size + 1 + 1 + 1) [.int .i64 k, .int .i64 n0, .string nm, sl] 39 ∧ ExX w' (New W w') (m + 2) (ar us) sl ∧ Rd w' b c s.size e (manyT (exprT m) n (words s.data.toList)) (fun a => a = us) ∧ Fs [b, c, w.heap.size + 1 + 1 + 1] W w') :=
    fun n hn k k0 n0 nm sl0 s e W hs hp hM => made1_rd m (by omega) ih b c _ _ _ n hn k k0 n0 nm sl0 s e W hs hp (HTf.out _ hM.fs) hg hM.R hM.A hM.E (by omega) (by omega)
  have HMW := keep (madeW_ms w b c (8 - (m : Int)))
  generalize ha8 : 8 - (m : Int) = a8 at *
  have HC := keep (word_rd b c s hs e (madeW w b a8) (show RB (madeW w b a8) b c s e from (((h.up _).up _).up _).up _))
  have HG := keep hg
  have HN := keep (Nat.le_refl s.size)
  clear h ht hg ih ha8 hm
  generalize wdE e s.data.toList = W at *
  by_cases hsel : W = [115, 101, 108]
  · subst hsel
    go_enter Tryd.func91, Tryd.ntmps91
    go_wp2_with fail
    change Calls _ _ _ (madeW w b a8) _
    refine HC.out.mono ?_
    rintro r w1 ⟨rfl, hr, hf⟩
    obtain ⟨s1, e1, hp, hn, h1, h2⟩ := hr
    have HM1 := keep (HMW.out.step hbl hcl hf)
    have HP1 := keep hp
    have H1 := keep h1
    have H2 := keep h2
    have hsz1 : w.heap.size + 4 ≤ w1.heap.size := by have := HM1.out.E.lt; omega
    have r1 := HM1.out.R.cell 0 rfl
    have a1 := HM1.out.A.cell 0 rfl
    clear hp hf h1 h2 HC HMW
    go_wp2_with fail
    refine (HMd.out 3 (by decide) 4 0 0 ⟨#[]⟩ (.slice none 0 0) s1 e1 w1 (by omega) HP1.out HM1.out).mono ?_
    rintro r w5 ⟨rfl, us, sl, hE5, hex, hrd, hf⟩
    obtain ⟨p, q, cap, rfl⟩ := hex.slice
    obtain ⟨s5, e5, hp5, hn5, h51, h52⟩ := hrd
    have HM5 := keep (HM1.out.stepE hbl hcl hf hE5)
    have HP5 := keep hp5
    have H51 := keep h51
    have H52 := keep h52
    have HX5 := keep hex
    have r5 := HM5.out.R.cell 0 rfl
    have hsz5 : w1.heap.size ≤ w5.heap.size := hf.size
    clear hp5 hf h51 h52 hex hE5 HMd
    go_wp2_with fail
    refine (must_rd b c s5 (by omega) e5 ⟨#[41]⟩ w5 HP5.out).mono ?_
    rintro r w6 ⟨rfl, hrd, hf⟩
    obtain ⟨s6, e6, hp6, hn6, h61, h62⟩ := hrd
    have HM6 := keep (HM5.out.step hbl hcl hf)
    have HP6 := keep hp6
    have H61 := keep h61
    have H62 := keep h62
    have HX6 := keep (ExX.keep (w' := w6) (fun i (hi : New w1 w5 i) => hf.block i hi.2 (by have := hi.1; simp; omega)) HX5.out)
    have hsz6 : w5.heap.size ≤ w6.heap.size := hf.size
    have HE6 := keep HM6.out.E
    have HD6 := keep HM6.out.D
    clear hp6 hf h61 h62 HX5
    go_wp2_with (first
      | refine wpList_load_row rfl 39 (.tmp 5) rfl (w.heap.size + 1 + 1 + 1) rfl 39 _ (0, 0) _ HE6.out Tryd.underlying39 rfl (info_E _ rfl) ?_
      | refine wpList_store_row rfl 39 (.tmp 4) (.tmp 38) rfl (w.heap.size + 1 + 1) #[.int .i64 4, .int .i64 0, .string ⟨#[]⟩, .slice p q cap] rfl rfl 39 #[.int .i64 0, .int .i64 0, .string ⟨#[]⟩, .slice none 0 0] HD6.out (info_E [.int .i64 4, .int .i64 0, .string ⟨#[]⟩, .slice p q cap] rfl) rfl (by simp [Value.oneCell']) ?_)
    (try simp only [Exit.inBlock, Exit.then])
    refine bodyPost_ret (results_cell_row rfl _ _ (w.heap.size + 1 + 1) _ #[.int .i64 4, .int .i64 0, .string ⟨#[]⟩, .slice p q cap] (0, 0) _ rfl (setRow_heap _ _ _ _ _ _ HD6.out) Tryd.underlying39 rfl (info_E _ rfl)) rfl ?_
    refine ⟨⟨4, 0, [], us⟩, .slice p q cap, rfl, ?_, ?_, HM6.out.fs.row (by omega) _⟩
    · refine ExX.args (e := ar us) (ExX.mono (X := New w1 w5) (fun i hi => ⟨by have := hi.1; omega, by have := hi.2; simp; omega⟩) (ExX.keep (fun i hi => setRow_other _ _ _ _ (by have := hi.1; omega)) HX6.out)) rfl
    · have hp7 := HP6.out.row (D := w.heap.size + 1 + 1) (by omega) (by omega) #[.int .i64 4, .int .i64 0, .string ⟨#[]⟩, .slice p q cap]
      refine rd_then (x := [115, 101, 108]) (n1 := s.size) H1.out H2.out ?_ (Nat.le_refl _)
      rw [head_sel, andT_ok]
      refine rd_then (x := us) (n1 := s.size) H51.out H52.out ?_ (Nat.le_refl _)
      refine rd_go (n1 := s.size) H61.out H62.out ?_ (Nat.le_refl _)
      exact rd_ok hp7 (by omega) rfl
  by_cases hat : W = [97, 116]
  · subst hat
    go_enter Tryd.func91, Tryd.ntmps91
    go_wp2_with fail
    change Calls _ _ _ (madeW w b a8) _
    refine HC.out.mono ?_
    rintro r w1 ⟨rfl, hr, hf⟩
    obtain ⟨s1, e1, hp, hn, h1, h2⟩ := hr
    have HM1 := keep (HMW.out.step hbl hcl hf)
    have HP1 := keep hp
    have H1 := keep h1
    have H2 := keep h2
    have hsz1 : w.heap.size + 4 ≤ w1.heap.size := by have := HM1.out.E.lt; omega
    have r1 := HM1.out.R.cell 0 rfl
    have a1 := HM1.out.A.cell 0 rfl
    clear hp hf h1 h2 HC HMW
    go_wp2_with fail
    refine (name_rd b c s1 (by omega) e1 w1 HP1.out (HTf.out _ HM1.out.fs) HG.out).mono ?_
    rintro r w2 ⟨x, rfl, hrd, hf⟩
    obtain ⟨s2, e2, hp2, hn2, h21, h22⟩ := hrd
    have HM2 := keep (HM1.out.step hbl hcl hf)
    have HM3 := keep (HM2.out.set 2 (.string ⟨x.toArray⟩))
    have HP3 := keep (hp2.set (k := w.heap.size + 1 + 1 + 1) (by omega) (by omega) 2 (.string ⟨x.toArray⟩))
    have H21 := keep h21
    have H22 := keep h22
    have hsz2 : w1.heap.size ≤ w2.heap.size := hf.size
    have c2 := HM2.out.E.cell 2 rfl
    have f2 := HM2.out.E.fr 2
    clear hp2 hf h21 h22
    obtain ⟨w3, hw3⟩ : ∃ w3, w2.setCell ⟨w.heap.size + 1 + 1 + 1, 2, none⟩ (.string ⟨x.toArray⟩) = w3 := ⟨_, rfl⟩
    rw [hw3] at HM3 HP3
    have hsz3 : w2.heap.size ≤ w3.heap.size := by rw [← hw3]; simp [World.setCell]
    go_wp2_with fail
    clear hw3 c2 f2
    refine (HMd.out 1 (by decide) 5 0 0 ⟨x.toArray⟩ (.slice none 0 0) s2 e2 w3 (by omega) HP3.out HM3.out).mono ?_
    rintro r w5 ⟨rfl, us, sl, hE5, hex, hrd, hf⟩
    obtain ⟨p, q, cap, rfl⟩ := hex.slice
    obtain ⟨s5, e5, hp5, hn5, h51, h52⟩ := hrd
    have HM5 := keep (HM3.out.stepE hbl hcl hf hE5)
    have HP5 := keep hp5
    have H51 := keep h51
    have H52 := keep h52
    have HX5 := keep hex
    have r5 := HM5.out.R.cell 0 rfl
    have hsz5 : w3.heap.size ≤ w5.heap.size := hf.size
    clear hp5 hf h51 h52 hex hE5 HMd
    go_wp2_with fail
    refine (must_rd b c s5 (by omega) e5 ⟨#[41]⟩ w5 HP5.out).mono ?_
    rintro r w6 ⟨rfl, hrd, hf⟩
    obtain ⟨s6, e6, hp6, hn6, h61, h62⟩ := hrd
    have HM6 := keep (HM5.out.step hbl hcl hf)
    have HP6 := keep hp6
    have H61 := keep h61
    have H62 := keep h62
    have HX6 := keep (ExX.keep (w' := w6) (fun i (hi : New w3 w5 i) => hf.block i hi.2 (by have := hi.1; simp; omega)) HX5.out)
    have hsz6 : w5.heap.size ≤ w6.heap.size := hf.size
    have HE6 := keep HM6.out.E
    have HD6 := keep HM6.out.D
    clear hp6 hf h61 h62 HX5
    go_wp2_with (first
      | refine wpList_load_row rfl 39 (.tmp 5) rfl (w.heap.size + 1 + 1 + 1) rfl 39 _ (0, 0) _ HE6.out Tryd.underlying39 rfl (info_E _ rfl) ?_
      | refine wpList_store_row rfl 39 (.tmp 4) (.tmp 38) rfl (w.heap.size + 1 + 1) #[.int .i64 5, .int .i64 0, .string ⟨x.toArray⟩, .slice p q cap] rfl rfl 39 #[.int .i64 0, .int .i64 0, .string ⟨#[]⟩, .slice none 0 0] HD6.out (info_E [.int .i64 5, .int .i64 0, .string ⟨x.toArray⟩, .slice p q cap] rfl) rfl (by simp [Value.oneCell']) ?_)
    (try simp only [Exit.inBlock, Exit.then])
    refine bodyPost_ret (results_cell_row rfl _ _ (w.heap.size + 1 + 1) _ #[.int .i64 5, .int .i64 0, .string ⟨x.toArray⟩, .slice p q cap] (0, 0) _ rfl (setRow_heap _ _ _ _ _ _ HD6.out) Tryd.underlying39 rfl (info_E _ rfl)) rfl ?_
    refine ⟨⟨5, 0, x, us⟩, .slice p q cap, rfl, ?_, ?_, HM6.out.fs.row (by omega) _⟩
    · refine ExX.args (e := ar us) (ExX.mono (X := New w3 w5) (fun i hi => ⟨by have := hi.1; omega, by have := hi.2; simp; omega⟩) (ExX.keep (fun i hi => setRow_other _ _ _ _ (by have := hi.1; omega)) HX6.out)) rfl
    · have hp7 := HP6.out.row (D := w.heap.size + 1 + 1) (by omega) (by omega) #[.int .i64 5, .int .i64 0, .string ⟨x.toArray⟩, .slice p q cap]
      refine rd_then (x := [97, 116]) (n1 := s.size) H1.out H2.out ?_ (Nat.le_refl _)
      rw [head_at]
      refine rd_then (x := ((5, 0, x) : Int × Int × List UInt8)) (n1 := s.size) (e1 := e2) (s1 := s2) H21.out (fun he => ?_) ?_ (Nat.le_refl _)
      · obtain ⟨g1, g2⟩ := H22.out he
        cases hx : nameT (words s1.data.toList) with
        | error y => exact ⟨fun z hz => (by cases hz; exact g1 y hx), fun a r hz => (by cases hz)⟩
        | ok pq =>
          obtain ⟨a, r⟩ := pq
          obtain ⟨i1, i2, i3⟩ := g2 a r hx
          exact ⟨fun z hz => (by cases hz), fun a' r' hz => (by cases hz; exact ⟨i1, i2, by rw [i3]⟩)⟩
      refine rd_then (x := us) (n1 := s.size) H51.out H52.out ?_ (Nat.le_refl _)
      refine rd_go (n1 := s.size) H61.out H62.out ?_ (Nat.le_refl _)
      exact rd_ok hp7 (by omega) rfl
  have HIx := keep (idx_signs W)
  have HFd : Hid (∀ v, Tabs v → Calls Tryd.prog 20 #[.string ⟨#[43, 32, 45, 32, 38, 32, 124, 32, 94, 32, 60, 60, 32, 62, 62, 32, 42, 32, 47, 32, 37, 32, 60, 32, 61]⟩] v fun e w' => e = .returned (.slice (some ⟨v.heap.size, 0, none⟩) 12 12) ∧ w' = v.alloc (.cells (listA signs) 9)) :=
    fun v hv => fields_any signsB signs fields_signs (by decide) (by decide) v hv
  have HCt : Hid (∀ v : World, Calls Tryd.prog 48 #[.slice (some ⟨v.heap.size, 0, none⟩) 12 12, .string ⟨W.toArray⟩] (v.alloc (.cells (listA signs) 9)) fun e w' => e = .returned (.int .i64 ((signOf W : Int) - 1)) ∧ w' = v.alloc (.cells (listA signs) 9)) := fun v => by
    have := Tryd.slices_Index_string v.heap.size 0 12 12 (bys signs) ⟨W.toArray⟩ (v.alloc (.cells (listA signs) 9)) (by decide) (by decide) (list_cell v signs)
    rw [HIx.out] at this
    exact this
  have hle := signOf_le W
  have d1 : (W == [115, 101, 108]) = false := by simpa using hsel
  have d2 : (W == [97, 116]) = false := by simpa using hat
  have HHd := keep (head_sign hsel hat)
  clear hsel hat
  by_cases hz : signOf W = 0
  · have dz : decide ((signOf W : Int) - 1 < 0) = true := decide_eq_true (by omega)
    have HZ := keep hz
    clear hz
    go_enter Tryd.func91, Tryd.ntmps91
    go_wp2_with fail
    change Calls _ _ _ (madeW w b a8) _
    refine HC.out.mono ?_
    rintro r w1 ⟨rfl, hr, hf⟩
    obtain ⟨s1, e1, hp, hn, h1, h2⟩ := hr
    have HM1 := keep (HMW.out.step hbl hcl hf)
    have HP1 := keep hp
    have H1 := keep h1
    have H2 := keep h2
    have hsz1 : w.heap.size + 4 ≤ w1.heap.size := by have := HM1.out.E.lt; omega
    have r1 := HM1.out.R.cell 0 rfl
    have a1 := HM1.out.A.cell 0 rfl
    clear hp hf h1 h2 HC HMW
    go_wp2_with fail
    refine (HFd.out _ (HTf.out _ HM1.out.fs)).mono ?_
    rintro r w2 ⟨rfl, hw2⟩
    subst hw2
    go_wp2_with fail
    refine (HCt.out _).mono ?_
    rintro r w2 ⟨rfl, hw2⟩
    have hb2 : Below w1.heap.size w1 w2 := by rw [hw2]; exact (Below.refl w1.heap.size w1).alloc (Nat.le_refl _) _
    have HB2 := keep (Fs.of_below (l := [b, c]) hb2)
    have HM2 := keep (HM1.out.step hbl hcl HB2.out)
    have HP2 := keep (HP1.out.below hb2)
    have hsz2 : w1.heap.size ≤ w2.heap.size := HB2.out.size
    have r2 := HM2.out.R.cell 0 rfl
    clear hw2 hb2 HB2 HFd HCt
    go_wp2_with fail
    refine (fail_any b c s1 e1 1 w2 HP2.out).mono ?_
    rintro r w3 ⟨rfl, hp3, hf⟩
    have HM3 := keep (HM2.out.step hbl hcl hf)
    have HP3 := keep hp3
    have hsz3 : w2.heap.size ≤ w3.heap.size := hf.size
    clear hp3 hf
    have HM4 := keep (HM3.out.set 1 (.int .i64 (signOf W : Int)))
    have HP4 := keep (HP3.out.set (k := w.heap.size + 1 + 1 + 1) (by omega) (by omega) 1 (.int .i64 (signOf W : Int)))
    have c1 := HM3.out.E.cell 1 rfl
    have f1 := HM3.out.E.fr 1
    have hws : (1 : Int) + ((signOf W : Int) - 1) = (signOf W : Int) := by omega
    obtain ⟨w4, hw4⟩ : ∃ w4, w3.setCell ⟨w.heap.size + 1 + 1 + 1, 1, none⟩ (.int .i64 (signOf W : Int)) = w4 := ⟨_, rfl⟩
    rw [hw4] at HM4 HP4
    have hsz4 : w3.heap.size ≤ w4.heap.size := by rw [← hw4]; simp [World.setCell]
    go_wp2_with fail
    clear hw4 c1 f1
    refine (HMd.out 2 (by decide) 3 0 _ ⟨#[]⟩ (.slice none 0 0) s1 (first e1 1) w4 (by omega) HP4.out HM4.out).mono ?_
    rintro r w5 ⟨rfl, us, sl, hE5, hex, hrd, hf⟩
    obtain ⟨p, q, cap, rfl⟩ := hex.slice
    obtain ⟨s5, e5, hp5, hn5, h51, h52⟩ := hrd
    have HM5 := keep (HM4.out.stepE hbl hcl hf hE5)
    have HP5 := keep hp5
    have H51 := keep h51
    have H52 := keep h52
    have HX5 := keep hex
    have r5 := HM5.out.R.cell 0 rfl
    have hsz5 : w4.heap.size ≤ w5.heap.size := hf.size
    clear hp5 hf h51 h52 hex hE5 HMd
    go_wp2_with fail
    refine (must_rd b c s5 (by omega) e5 ⟨#[41]⟩ w5 HP5.out).mono ?_
    rintro r w6 ⟨rfl, hrd, hf⟩
    obtain ⟨s6, e6, hp6, hn6, h61, h62⟩ := hrd
    have HM6 := keep (HM5.out.step hbl hcl hf)
    have HP6 := keep hp6
    have H61 := keep h61
    have H62 := keep h62
    have HX6 := keep (ExX.keep (w' := w6) (fun i (hi : New w4 w5 i) => hf.block i hi.2 (by have := hi.1; simp; omega)) HX5.out)
    have hsz6 : w5.heap.size ≤ w6.heap.size := hf.size
    have HE6 := keep HM6.out.E
    have HD6 := keep HM6.out.D
    clear hp6 hf h61 h62 HX5
    go_wp2_with (first
      | refine wpList_load_row rfl 39 (.tmp 5) rfl (w.heap.size + 1 + 1 + 1) rfl 39 _ (0, 0) _ HE6.out Tryd.underlying39 rfl (info_E _ rfl) ?_
      | refine wpList_store_row rfl 39 (.tmp 4) (.tmp 38) rfl (w.heap.size + 1 + 1) #[.int .i64 3, .int .i64 (signOf W : Int), .string ⟨#[]⟩, .slice p q cap] rfl rfl 39 #[.int .i64 0, .int .i64 0, .string ⟨#[]⟩, .slice none 0 0] HD6.out (info_E [.int .i64 3, .int .i64 (signOf W : Int), .string ⟨#[]⟩, .slice p q cap] rfl) rfl (by simp [Value.oneCell']) ?_)
    (try simp only [Exit.inBlock, Exit.then])
    refine bodyPost_ret (results_cell_row rfl _ _ (w.heap.size + 1 + 1) _ #[.int .i64 3, .int .i64 (signOf W : Int), .string ⟨#[]⟩, .slice p q cap] (0, 0) _ rfl (setRow_heap _ _ _ _ _ _ HD6.out) Tryd.underlying39 rfl (info_E _ rfl)) rfl ?_
    refine ⟨⟨3, (signOf W : Int), [], us⟩, .slice p q cap, rfl, ?_, ?_, HM6.out.fs.row (by omega) _⟩
    · refine ExX.args (e := ar us) (ExX.mono (X := New w4 w5) (fun i hi => ⟨by have := hi.1; omega, by have := hi.2; simp; omega⟩) (ExX.keep (fun i hi => setRow_other _ _ _ _ (by have := hi.1; omega)) HX6.out)) rfl
    · have hp7 := HP6.out.row (D := w.heap.size + 1 + 1) (by omega) (by omega) #[.int .i64 3, .int .i64 (signOf W : Int), .string ⟨#[]⟩, .slice p q cap]
      refine rd_then (x := W) (n1 := s.size) H1.out H2.out ?_ (Nat.le_refl _)
      rw [HHd.out, if_pos HZ.out]
      have h7 : e6 = first e1 1 := by
        have hz1 : ¬ first e1 1 = 0 := by unfold first; split <;> omega
        rw [H61.out (by rw [H51.out hz1]; exact hz1), H51.out hz1]
      rw [h7] at hp7
      exact rd_bad hp7 (by omega) (by decide)
  · have dz : decide ((signOf W : Int) - 1 < 0) = false := decide_eq_false (by omega)
    have HZ := keep hz
    clear hz
    go_enter Tryd.func91, Tryd.ntmps91
    go_wp2_with fail
    change Calls _ _ _ (madeW w b a8) _
    refine HC.out.mono ?_
    rintro r w1 ⟨rfl, hr, hf⟩
    obtain ⟨s1, e1, hp, hn, h1, h2⟩ := hr
    have HM1 := keep (HMW.out.step hbl hcl hf)
    have HP1 := keep hp
    have H1 := keep h1
    have H2 := keep h2
    have hsz1 : w.heap.size + 4 ≤ w1.heap.size := by have := HM1.out.E.lt; omega
    have r1 := HM1.out.R.cell 0 rfl
    have a1 := HM1.out.A.cell 0 rfl
    clear hp hf h1 h2 HC HMW
    go_wp2_with fail
    refine (HFd.out _ (HTf.out _ HM1.out.fs)).mono ?_
    rintro r w2 ⟨rfl, hw2⟩
    subst hw2
    go_wp2_with fail
    refine (HCt.out _).mono ?_
    rintro r w2 ⟨rfl, hw2⟩
    have hb2 : Below w1.heap.size w1 w2 := by rw [hw2]; exact (Below.refl w1.heap.size w1).alloc (Nat.le_refl _) _
    have HB2 := keep (Fs.of_below (l := [b, c]) hb2)
    have HM2 := keep (HM1.out.step hbl hcl HB2.out)
    have HP2 := keep (HP1.out.below hb2)
    have hsz2 : w1.heap.size ≤ w2.heap.size := HB2.out.size
    have r2 := HM2.out.R.cell 0 rfl
    clear hw2 hb2 HB2 HFd HCt
    have HM3 := HM2
    have HP3 := HP2
    obtain ⟨w3, hw3⟩ : ∃ w3, w2 = w3 := ⟨_, rfl⟩
    subst hw3
    have hsz3 : w2.heap.size ≤ w2.heap.size := Nat.le_refl _
    have HM4 := keep (HM3.out.set 1 (.int .i64 (signOf W : Int)))
    have HP4 := keep (HP3.out.set (k := w.heap.size + 1 + 1 + 1) (by omega) (by omega) 1 (.int .i64 (signOf W : Int)))
    have c1 := HM3.out.E.cell 1 rfl
    have f1 := HM3.out.E.fr 1
    have hws : (1 : Int) + ((signOf W : Int) - 1) = (signOf W : Int) := by omega
    obtain ⟨w4, hw4⟩ : ∃ w4, w2.setCell ⟨w.heap.size + 1 + 1 + 1, 1, none⟩ (.int .i64 (signOf W : Int)) = w4 := ⟨_, rfl⟩
    rw [hw4] at HM4 HP4
    have hsz4 : w2.heap.size ≤ w4.heap.size := by rw [← hw4]; simp [World.setCell]
    go_wp2_with fail
    clear hw4 c1 f1
    refine (HMd.out 2 (by decide) 3 0 _ ⟨#[]⟩ (.slice none 0 0) s1 e1 w4 (by omega) HP4.out HM4.out).mono ?_
    rintro r w5 ⟨rfl, us, sl, hE5, hex, hrd, hf⟩
    obtain ⟨p, q, cap, rfl⟩ := hex.slice
    obtain ⟨s5, e5, hp5, hn5, h51, h52⟩ := hrd
    have HM5 := keep (HM4.out.stepE hbl hcl hf hE5)
    have HP5 := keep hp5
    have H51 := keep h51
    have H52 := keep h52
    have HX5 := keep hex
    have r5 := HM5.out.R.cell 0 rfl
    have hsz5 : w4.heap.size ≤ w5.heap.size := hf.size
    clear hp5 hf h51 h52 hex hE5 HMd
    go_wp2_with fail
    refine (must_rd b c s5 (by omega) e5 ⟨#[41]⟩ w5 HP5.out).mono ?_
    rintro r w6 ⟨rfl, hrd, hf⟩
    obtain ⟨s6, e6, hp6, hn6, h61, h62⟩ := hrd
    have HM6 := keep (HM5.out.step hbl hcl hf)
    have HP6 := keep hp6
    have H61 := keep h61
    have H62 := keep h62
    have HX6 := keep (ExX.keep (w' := w6) (fun i (hi : New w4 w5 i) => hf.block i hi.2 (by have := hi.1; simp; omega)) HX5.out)
    have hsz6 : w5.heap.size ≤ w6.heap.size := hf.size
    have HE6 := keep HM6.out.E
    have HD6 := keep HM6.out.D
    clear hp6 hf h61 h62 HX5
    go_wp2_with (first
      | refine wpList_load_row rfl 39 (.tmp 5) rfl (w.heap.size + 1 + 1 + 1) rfl 39 _ (0, 0) _ HE6.out Tryd.underlying39 rfl (info_E _ rfl) ?_
      | refine wpList_store_row rfl 39 (.tmp 4) (.tmp 38) rfl (w.heap.size + 1 + 1) #[.int .i64 3, .int .i64 (signOf W : Int), .string ⟨#[]⟩, .slice p q cap] rfl rfl 39 #[.int .i64 0, .int .i64 0, .string ⟨#[]⟩, .slice none 0 0] HD6.out (info_E [.int .i64 3, .int .i64 (signOf W : Int), .string ⟨#[]⟩, .slice p q cap] rfl) rfl (by simp [Value.oneCell']) ?_)
    (try simp only [Exit.inBlock, Exit.then])
    refine bodyPost_ret (results_cell_row rfl _ _ (w.heap.size + 1 + 1) _ #[.int .i64 3, .int .i64 (signOf W : Int), .string ⟨#[]⟩, .slice p q cap] (0, 0) _ rfl (setRow_heap _ _ _ _ _ _ HD6.out) Tryd.underlying39 rfl (info_E _ rfl)) rfl ?_
    refine ⟨⟨3, (signOf W : Int), [], us⟩, .slice p q cap, rfl, ?_, ?_, HM6.out.fs.row (by omega) _⟩
    · refine ExX.args (e := ar us) (ExX.mono (X := New w4 w5) (fun i hi => ⟨by have := hi.1; omega, by have := hi.2; simp; omega⟩) (ExX.keep (fun i hi => setRow_other _ _ _ _ (by have := hi.1; omega)) HX6.out)) rfl
    · have hp7 := HP6.out.row (D := w.heap.size + 1 + 1) (by omega) (by omega) #[.int .i64 3, .int .i64 (signOf W : Int), .string ⟨#[]⟩, .slice p q cap]
      refine rd_then (x := W) (n1 := s.size) H1.out H2.out ?_ (Nat.le_refl _)
      rw [HHd.out, if_neg HZ.out, andT_ok]
      refine rd_then (x := us) (n1 := s.size) H51.out H52.out ?_ (Nat.le_refl _)
      refine rd_go (n1 := s.size) H61.out H62.out ?_ (Nat.le_refl _)
      exact rd_ok hp7 (by omega) rfl
end Go.Proofs.YtkobiojndamofaaDoor.Lr
