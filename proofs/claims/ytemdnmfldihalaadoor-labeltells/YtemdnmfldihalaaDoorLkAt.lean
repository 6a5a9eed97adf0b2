/- What the checker asks: part, taken, at. -/
import Derived.Test.YtemdnmfldihalaaDoorLkBase
namespace Go.Proofs.YtemdnmfldihalaaDoor.Lr
set_option linter.unusedVariables false
set_option linter.unusedSimpArgs false
open Go.ChangeShapes Go.WideShapes Go.ChangeAt Go.RowKit Lg

theorem ExIs.same {w : World} {B M : Nat} {e e' : Ex} {sl : Value} (h : ExIs w B M e sl) (he : e'.args = e.args) : ExIs w B M e' sl := by
  cases M with
  | zero => exact h.elim
  | succ M => unfold ExIs at h ⊢; rw [he]; exact h
set_option maxHeartbeats 1000000 in
theorem part_any (B m : Nat) (l : List Ex) (sl : Value) (j : Nat) (a : Ex) (w : World) (hB : B ≤ w.heap.size) (h : ExIs w B (m + 1) (ar l) sl) (hj : l[j]? = some a) :
    Calls Tryd.prog 47 #[sl, .int .i64 (j : Int)] w fun r w' => ∃ sl', r = .returned (.agg (exA a sl')) ∧ ExIs w B m a sl' ∧ Below w.heap.size w w' := by
  obtain ⟨p, n, cap, rfl, h1, h2, h3, h4⟩ := h.parts
  obtain ⟨g, o, sl', rfl, hg, hat, hsub⟩ := h4 j a hj
  have hjn : j < n := by
    have := (List.getElem?_eq_some_iff.1 hj).1
    rw [show (ar l).args = l from rfl] at h1
    omega
  have HB1 : Hid (Below w.heap.size w (w.alloc (.cells #[.int .i64 0, .int .i64 0, .string ⟨#[]⟩, .slice none 0 0] 76))) := (Below.refl _ _).alloc (Nat.le_refl _) _
  have hat := hat.below (HB1.out.mono hB) hg
  have a0 := hat.c0
  have a1 := hat.c1
  have a2 := hat.c2
  have a3 := hat.c3
  have d1 : decide ((j : Int) < (n : Int)) = true := decide_eq_true (by omega)
  have hj0 : (0 : Int) ≤ (j : Int) := by omega
  have hjz : (j : Int) < (n : Int) := by omega
  have HS := keep hsub
  have HZ := keep (Bk.new w [.int .i64 0, .int .i64 0, .string ⟨#[]⟩, .slice none 0 0] 76)
  have hsl : ∃ p n cap, sl' = .slice p n cap := by
    cases m with
    | zero => exact hsub.elim
    | succ m =>
      obtain ⟨p, n, cap, e, _⟩ := hsub.parts
      exact ⟨p, n, cap, e⟩
  obtain ⟨p', n', cap', rfl⟩ := hsl
  obtain ⟨ak, an, ax, as'⟩ := a
  clear h h4 hat hsub hj h1
  go_enter Tryd.func47, Tryd.ntmps47
  go_wp2_with (first
    | refine wpList_store_row rfl 76 (.tmp 4) (.tmp 12) rfl w.heap.size #[.int .i64 ak, .int .i64 an, .string ⟨ax.toArray⟩, .slice p' n' cap'] rfl rfl 76 #[.int .i64 0, .int .i64 0, .string ⟨#[]⟩, .slice none 0 0] HZ.out (info_E [.int .i64 ak, .int .i64 an, .string ⟨ax.toArray⟩, .slice p' n' cap'] rfl) rfl (by simp [Value.oneCell']) ?_)
  (try simp only [Exit.inBlock, Exit.then])
  refine bodyPost_ret (results_cell_row rfl _ _ w.heap.size 76 #[.int .i64 ak, .int .i64 an, .string ⟨ax.toArray⟩, .slice p' n' cap'] (0, 0) _ rfl (setRow_heap _ _ _ _ _ _ HZ.out) Tryd.underlying76 rfl (info_E [.int .i64 ak, .int .i64 an, .string ⟨ax.toArray⟩, .slice p' n' cap'] rfl)) rfl ?_
  exact ⟨_, rfl, HS.out, below_setRow HB1.out (Nat.le_refl _) _⟩

theorem Idx.ge {α : Type} {p : α → Bool} {l : List α} {i : Int} (h : Idx p l i) : decide (i ≥ 0) = (l.find? p).isSome := by
  rcases h with ⟨rfl, h⟩ | ⟨k, a, rfl, _, h, _⟩
  · rw [h]; rfl
  · rw [h]; simp
set_option maxHeartbeats 1000000 in
theorem taken_any (C B : Nat) (rs : List Vr) (A : Value) (ns : List Nm) (nv : Value) (wk lt : Nat) (e : Int) (y : List UInt8) (w : World) (h : CK w C B rs A ns nv wk lt e) :
    Calls Tryd.prog 53 #[.pointer (some ⟨C, 0, none⟩), .string ⟨y.toArray⟩] w fun r w' => r = .returned (.bool (takenK rs ns y)) ∧ Below w.heap.size w w' := by
  have HC := keep (byName_any C B rs A ns nv wk lt e y w h)
  have HK := keep h
  obtain ⟨pa, na, ca, rfl⟩ := h.arr.slice
  clear h
  obtain ⟨o, ho⟩ : ∃ o, byN ns y = o := ⟨_, rfl⟩
  have HT : Hid (takenK rs ns y = (o.isSome || (byV rs y).isSome)) := by show takenK rs ns y = _; unfold takenK; rw [ho]
  rw [ho] at HC
  clear ho
  go_enter Tryd.func53, Tryd.ntmps53
  go_wp2_with fail
  refine HC.out.mono ?_
  rintro r w1 ⟨rfl, hb⟩
  obtain ⟨vn, vs, vl⟩ : Nm := nmO o
  have HB2 : Hid (Below w.heap.size w (w1.alloc (.cells #[.string ⟨vn.toArray⟩, .bool vs, .bool vl] 52))) := hb.trans (((Below.refl _ _).alloc (Nat.le_refl _) _).mono hb.size)
  have HK2 := keep (HK.out.below HB2.out)
  have c0 := HK2.out.box.cell 0 rfl
  unfold nmA
  clear hb HC
  cases ob : o.isSome with
  | true =>
    go_wp2_with fail
    go_ret
    refine ⟨?_, HB2.out⟩
    rw [HT.out, ob]; rfl
  | false =>
    go_wp2_with fail
    refine (find_any B y rs _ _ (Nat.le_trans HK2.out.hB (Nat.le_of_lt HK2.out.lt)) HK2.out.arr).mono ?_
    rintro r w3 ⟨i, rfl, hi, hb3⟩
    have HB3 := keep (HB2.out.trans (hb3.mono HB2.out.size))
    have hge := hi.ge
    clear hi hb3
    go_wp2
    go_ret
    refine ⟨?_, HB3.out⟩
    rw [HT.out, ob, Bool.false_or]
    rfl

def vrO (o : Option Vr) : Vr := o.getD ⟨[], false, 0⟩
def vrA (v : Vr) : Array Value := #[.string ⟨v.name.toArray⟩, .bool v.secret, .int .i64 v.size]
/-- What is wrong with a place. -/
def atE (rs : List Vr) (x : List UInt8) (p : Ex) (s dark : Bool) (e : Int) : Int := match byV rs x with
  | none => refK true e 6
  | some v => refK (s || (dark && !(decide (p.kind = 1) && decide (p.n < v.size)))) e 10
theorem atE_none {rs : List Vr} {x : List UInt8} (h : byV rs x = none) (p : Ex) (s dark : Bool) (e : Int) : atE rs x p s dark e = refK true e 6 := by unfold atE; rw [h]
theorem atE_some {rs : List Vr} {x : List UInt8} {v : Vr} (h : byV rs x = some v) (p : Ex) (s dark : Bool) (e : Int) : atE rs x p s dark e = refK (s || (dark && !(decide (p.kind = 1) && decide (p.n < v.size)))) e 10 := by unfold atE; rw [h]
set_option maxHeartbeats 2000000 in
theorem at_any (C B : Nat) (rs : List Vr) (A : Value) (ns : List Nm) (nv : Value) (wk lt : Nat) (e : Int) (x : List UInt8) (p : Ex) (slp : Value) (hsl : ∃ q n c, slp = .slice q n c) (s dark : Bool) (w : World) (h : CK w C B rs A ns nv wk lt e) :
    Calls Tryd.prog 55 #[.pointer (some ⟨C, 0, none⟩), .string ⟨x.toArray⟩, .agg (exA p slp), .bool s, .bool dark] w fun r w' => r = .returned (.agg (vrA (vrO (byV rs x)))) ∧ CK w' C B rs A ns nv wk lt (atE rs x p s dark e) ∧ Fs [C] w w' := by
  obtain ⟨q, qn, qc, rfl⟩ := hsl
  obtain ⟨pk, pn, px, ps⟩ := p
  obtain ⟨pa, na, ca, rfl⟩ := h.arr.slice
  obtain ⟨W1, hW1⟩ : ∃ W1, (w.alloc (.cells #[.int .i64 pk, .int .i64 pn, .string ⟨px.toArray⟩, .slice q qn qc] 76)).alloc (.cells #[.string ⟨#[]⟩, .bool false, .int .i64 0] 35) = W1 := ⟨_, rfl⟩
  have HW1 := keep hW1
  have HB1 : Hid (Below w.heap.size w W1) := by
    show Below _ _ _
    rw [← hW1]; exact ((Below.refl _ _).alloc (Nat.le_refl _) _).alloc (by simp) _
  have HE1 : Hid (Bk W1 w.heap.size [.int .i64 pk, .int .i64 pn, .string ⟨px.toArray⟩, .slice q qn qc] 76) := by
    show Bk _ _ _ _
    rw [← hW1]; exact (Bk.new _ _ _).up _
  have HR1 : Hid (Bk W1 (w.heap.size + 1) [.string ⟨#[]⟩, .bool false, .int .i64 0] 35) := by
    show Bk _ _ _ _
    rw [← hW1]
    have hz := Bk.new (w.alloc (.cells #[.int .i64 pk, .int .i64 pn, .string ⟨px.toArray⟩, .slice q qn qc] 76)) [.string ⟨#[]⟩, .bool false, .int .i64 0] 35
    rw [show (w.alloc (.cells #[.int .i64 pk, .int .i64 pn, .string ⟨px.toArray⟩, .slice q qn qc] 76)).heap.size = w.heap.size + 1 by simp] at hz
    exact hz
  have HK1 := keep (h.below HB1.out)
  have hCl := h.lt
  have HOw := keep h.own
  have c0 := HK1.out.box.cell 0 rfl
  clear h hW1
  unfold exA
  go_enter Tryd.func55, Tryd.ntmps55
  go_wp2_with (first | rw [HW1.out])
  refine (find_any B x rs _ _ (Nat.le_trans HK1.out.hB (Nat.le_of_lt HK1.out.lt)) HK1.out.arr).mono ?_
  rintro r w2 ⟨i, rfl, hi, hb⟩
  have HB2 := keep (HB1.out.trans (hb.mono HB1.out.size))
  have HK2 := keep (HK1.out.below hb)
  have HE2 := keep (HE1.out.fs (Fs.of_below (l := []) hb) (by simp))
  have HR2 := keep (HR1.out.fs (Fs.of_below (l := []) hb) (by simp))
  have hz2 : w.heap.size + 1 < w2.heap.size := HR2.out.lt
  have c0' := HK2.out.box.cell 0 rfl
  rcases hi with ⟨rfl, hno⟩ | ⟨k, a, rfl, hka, hfa, hkl⟩
  · have HO : Hid (byV rs x = none) := hno
    clear hno hb HK1 HE1 HR1 c0 HW1
    go_wp2_with fail
    refine (refuse_ck C B rs _ ns nv wk lt e true 6 w2 HK2.out).mono ?_
    rintro r w3 ⟨rfl, hk3, hf3⟩
    have HK3 := keep hk3
    have HF3 := keep hf3
    have HR3 := keep (HR2.out.fs hf3 (by simp; omega))
    clear hk3 hf3
    go_wp2_with (first
      | refine wpList_store_row rfl 35 (.tmp 10) (.tmp 24) rfl (w.heap.size + 1) #[.string ⟨#[]⟩, .bool false, .int .i64 0] rfl rfl 35 #[.string ⟨#[]⟩, .bool false, .int .i64 0] HR3.out (info_V [.string ⟨#[]⟩, .bool false, .int .i64 0] rfl) rfl (by simp [Value.oneCell']) ?_)
    (try simp only [Exit.inBlock, Exit.then])
    refine bodyPost_ret (results_cell_row rfl _ _ (w.heap.size + 1) 35 #[.string ⟨#[]⟩, .bool false, .int .i64 0] (0, 0) _ rfl (setRow_heap _ _ _ _ _ _ HR3.out) Tryd.underlying35 rfl (info_V [.string ⟨#[]⟩, .bool false, .int .i64 0] rfl)) rfl ?_
    rw [HO.out, atE_none HO.out]
    refine ⟨rfl, ?_, ((Fs.of_below HB2.out).trans HF3.out).row (by omega) _⟩
    exact HK3.out.rowD _ (by omega) (fun e => by have := (HOw.out _ e).2; omega)
  · have HO : Hid (byV rs x = some a) := hfa
    obtain ⟨p', n', cap', e0, e1, e2, e3, hat⟩ := HK2.out.arr
    cases e0
    obtain ⟨g, o, rfl, hg, hat⟩ := hat k a hka
    have a0 := hat.c0
    have a1 := hat.c1
    have a2 := hat.c2
    have hk0 : (0 : Int) ≤ (k : Int) := by omega
    have hkz : (k : Int) < (na : Int) := by omega
    have dz : decide ((k : Int) < 0) = false := decide_eq_false (by omega)
    obtain ⟨an, as', az⟩ := a
    obtain ⟨w3, hw3⟩ : ∃ w3, w2.alloc (.cells #[.string ⟨an.toArray⟩, .bool as', .int .i64 az] 35) = w3 := ⟨_, rfl⟩
    have HW3 := keep hw3
    have HF3 : Hid (Fs [C] w w3) := by
      show Fs _ _ _
      rw [← hw3]; exact (Fs.of_below HB2.out).up _
    have HK3 : Hid (CK w3 C B rs (.slice (some ⟨g, o, none⟩) na ca) ns nv wk lt e) := by
      show CK _ _ _ _ _ _ _ _ _ _
      rw [← hw3]; exact HK2.out.below ((Below.refl _ _).alloc (Nat.le_refl _) _)
    have HT3 : Hid (Bk w3 w2.heap.size [.string ⟨an.toArray⟩, .bool as', .int .i64 az] 35) := by
      show Bk _ _ _ _
      rw [← hw3]; exact Bk.new _ _ _
    have HR3 : Hid (Bk w3 (w.heap.size + 1) [.string ⟨#[]⟩, .bool false, .int .i64 0] 35) := by
      show Bk _ _ _ _
      rw [← hw3]; exact HR2.out.up _
    have HE3 : Hid (Bk w3 w.heap.size [.int .i64 pk, .int .i64 pn, .string ⟨px.toArray⟩, .slice q qn qc] 76) := by
      show Bk _ _ _ _
      rw [← hw3]; exact HE2.out.up _
    have x0 := HE3.out.cell 0 rfl
    have x1 := HE3.out.cell 1 rfl
    have y2 := HT3.out.cell 2 rfl
    have HEnd : Hid (∀ c, (s || (dark && !(decide (pk = 1) && decide (pn < az)))) = c → Calls Tryd.prog 42 #[.pointer (some ⟨C, 0, none⟩), .bool c, .int .i64 10] w3 fun r w' => r = .returned (.tuple #[]) ∧ CK w' C B rs (.slice (some ⟨g, o, none⟩) na ca) ns nv wk lt (refK (s || (dark && !(decide (pk = 1) && decide (pn < az)))) e 10) ∧ Fs [C] w3 w') := fun c hc => by
      rw [hc]; exact refuse_ck C B rs _ ns nv wk lt e c 10 w3 HK3.out
    have hl3 : w3.heap.size = w2.heap.size + 1 := by rw [← hw3]; simp
    clear hfa hb hat hka e1 e2 e3 HK1 HE1 HR1 c0 HW1 hw3
    obtain ⟨b1, hb1⟩ : ∃ b, (pk == 1) = b := ⟨_, rfl⟩
    obtain ⟨b2, hb2⟩ : ∃ b, decide (pn < az) = b := ⟨_, rfl⟩
    have hb3 : decide (pk = 1) = b1 := by rw [← hb1]; simp [BEq.beq]
    rw [hb3, hb2] at HEnd
    have HAt : Hid (atE rs x ⟨pk, pn, px, ps⟩ s dark e = refK (s || (dark && !(b1 && b2))) e 10) := by
      show atE _ _ _ _ _ _ = _
      rw [atE_some HO.out]
      dsimp only
      rw [hb3, hb2]
    clear hb3
    cases s <;> cases dark <;> cases b1 <;> cases b2
    all_goals (
      first | have HC := keep (HEnd.out true rfl) | have HC := keep (HEnd.out false rfl)
      clear HEnd
      go_wp2_with (first | rw [HW3.out])
      refine HC.out.mono ?_
      rintro r w4 ⟨rfl, hk4, hf4⟩
      have HK4 := keep hk4
      have HF4 := keep (HF3.out.trans hf4)
      have HT4 := keep (HT3.out.fs hf4 (by simp; omega))
      have HR4 := keep (HR3.out.fs hf4 (by simp; omega))
      clear hk4 hf4 x0 x1 y2
      go_wp2_with (first
        | refine wpList_load_row rfl 35 (.tmp 12) rfl w2.heap.size rfl 35 #[.string ⟨an.toArray⟩, .bool as', .int .i64 az] (0, 0) _ HT4.out Tryd.underlying35 rfl (info_V [.string ⟨an.toArray⟩, .bool as', .int .i64 az] rfl) ?_
        | refine wpList_store_row rfl 35 (.tmp 10) (.tmp 52) rfl (w.heap.size + 1) #[.string ⟨an.toArray⟩, .bool as', .int .i64 az] rfl rfl 35 #[.string ⟨#[]⟩, .bool false, .int .i64 0] HR4.out (info_V [.string ⟨an.toArray⟩, .bool as', .int .i64 az] rfl) rfl (by simp [Value.oneCell']) ?_)
      (try simp only [Exit.inBlock, Exit.then])
      refine bodyPost_ret (results_cell_row rfl _ _ (w.heap.size + 1) 35 #[.string ⟨an.toArray⟩, .bool as', .int .i64 az] (0, 0) _ rfl (setRow_heap _ _ _ _ _ _ HR4.out) Tryd.underlying35 rfl (info_V [.string ⟨an.toArray⟩, .bool as', .int .i64 az] rfl)) rfl ?_
      rw [HO.out, HAt.out]
      refine ⟨rfl, ?_, HF4.out.row (by omega) _⟩
      exact HK4.out.rowD _ (by omega) (fun e => by have := (HOw.out _ e).2; omega))
end Go.Proofs.YtemdnmfldihalaaDoor.Lr
