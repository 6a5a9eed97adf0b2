/- Where a name is, in a list of variables, and of names that are there: find, byName. Written by tools/gen_kfind.py. -/
import Derived.Test.YtemdnmfldihalaaDoorLdBase
import Derived.Test.YtemdnmfldihalaaDoorLgAll
namespace Go.Proofs.YtemdnmfldihalaaDoor.Lr
set_option linter.unusedVariables false
set_option linter.unusedSimpArgs false
open Go.ChangeShapes Go.WideShapes Go.ChangeAt Go.RowKit Lg

structure NmAt (w : World) (g k : Nat) (v : Nm) : Prop where
  c0 : w.cell? ⟨g, k, none⟩ = some (.string ⟨v.name.toArray⟩)
  c1 : w.cell? ⟨g, k + 1, none⟩ = some (.bool v.secret)
  c2 : w.cell? ⟨g, k + 2, none⟩ = some (.bool v.loop)
/-- The slice sl holds names that are there, in a block below B. -/
def NmIs (w : World) (B : Nat) (vs : List Nm) (sl : Value) : Prop := ∃ (p : Option Addr) (n cap : Nat), sl = .slice p n cap ∧ vs.length = n ∧ n ≤ cap ∧ n ≤ 281474976710656 ∧
    ∀ j v, vs[j]? = some v → ∃ g o, p = some ⟨g, o, none⟩ ∧ g < B ∧ NmAt w g (o + j * 3) v
theorem NmAt.below {w w' : World} {B g k : Nat} {v : Nm} (h : NmAt w g k v) (hb : Below B w w') (hg : g < B) : NmAt w' g k v :=
  ⟨by rw [cell_below hb hg]; exact h.c0, by rw [cell_below hb hg]; exact h.c1, by rw [cell_below hb hg]; exact h.c2⟩
theorem NmIs.below {w w' : World} {B : Nat} {vs : List Nm} {sl : Value} (hb : Below B w w') (h : NmIs w B vs sl) : NmIs w' B vs sl := by
  obtain ⟨p, n, cap, h1, h2, h3, h4, h5⟩ := h
  exact ⟨p, n, cap, h1, h2, h3, h4, fun j v hj => by
    obtain ⟨g, o, k1, k2, k3⟩ := h5 j v hj
    exact ⟨g, o, k1, k2, k3.below hb k2⟩⟩
/-- Where the first one is. -/
def Idx {α : Type} (p : α → Bool) (l : List α) (i : Int) : Prop := (i = -1 ∧ l.find? p = none) ∨ ∃ (k : Nat) (a : α), i = (k : Int) ∧ l[k]? = some a ∧ l.find? p = some a ∧ k < l.length
theorem find_at {α : Type} {p : α → Bool} : ∀ {l : List α} {k : Nat} {a : α}, (∀ j b, j < k → l[j]? = some b → p b = false) → l[k]? = some a → p a = true → l.find? p = some a
  | [], k, a, h, hk, hp => by simp at hk
  | b :: l, 0, a, h, hk, hp => by
    simp at hk
    subst hk
    rw [List.find?_cons, hp]
  | b :: l, k + 1, a, h, hk, hp => by
    rw [List.find?_cons, h 0 b (by omega) rfl]
    exact find_at (k := k) (fun j c hj hc => h (j + 1) c (by omega) (by simpa using hc)) (by simpa using hk) hp
theorem find_no {α : Type} {p : α → Bool} {l : List α} (h : ∀ (j : Nat) b, l[j]? = some b → p b = false) : l.find? p = none := by
  rw [List.find?_eq_none]
  intro b hb
  obtain ⟨j, hj⟩ := List.getElem?_of_mem hb
  rw [h j b hj]; decide
theorem keep_cell_at {w w' : World} {g i : Nat} {v : Value} (hb : Below w.heap.size w w') (h : w.cell? ⟨g, i, none⟩ = some v) : w'.cell? ⟨g, i, none⟩ = some v := keep_cell hb h

set_option maxHeartbeats 2000000 in
theorem oneV_any (P : Nat) (y : List UInt8) (v : Vr) (w : World) (hc : w.cell? ⟨P, 0, none⟩ = some (.string ⟨y.toArray⟩)) :
    Calls Tryd.prog 41 #[.agg #[.string ⟨v.name.toArray⟩, .bool v.secret, .int .i64 v.size], .pointer (some ⟨P, 0, none⟩)] w fun r w' => r = .returned (.bool (v.name == y)) ∧ Below w.heap.size w w' := by
  have hP := lt_of_cell hc
  obtain ⟨vn, vs, vz⟩ := v
  have HB : Hid (Below w.heap.size w (w.alloc (.cells #[.string ⟨vn.toArray⟩, .bool vs, .int .i64 vz] 35))) := (Below.refl _ _).alloc (Nat.le_refl _) _
  have hc2 : (w.alloc (.cells #[.string ⟨vn.toArray⟩, .bool vs, .int .i64 vz] 35)).cell? ⟨P, 0, none⟩ = some (.string ⟨y.toArray⟩) := keep_cell HB.out hc
  go_enter Tryd.func41, Tryd.ntmps41
  go_wp2
  go_ret
  exact ⟨rfl, HB.out⟩

set_option maxHeartbeats 4000000 in
set_option maxRecDepth 100000 in
theorem indexV_any (B P : Nat) (y : List UInt8) (vs : List Vr) (sl : Value) (w : World) (hB : B ≤ w.heap.size) (ha : VrIs w B vs sl) (hc : w.cell? ⟨P, 0, none⟩ = some (.string ⟨y.toArray⟩)) :
    Calls Tryd.prog 40 #[sl, .func (.func 41) #[] #[.pointer (some ⟨P, 0, none⟩)]] w fun r w' => ∃ i : Int, r = .returned (.int .i64 i) ∧ Idx (fun v : Vr => v.name == y) vs i ∧ Below w.heap.size w w' := by
  obtain ⟨pa, na, ca, rfl, hna, hca, hla, hea⟩ := ha
  have HEA := keep hea
  have HNA := keep hna
  have HBB := keep hB
  have HC := keep hc
  clear hea hna hB hc
  go_enter Tryd.func40, Tryd.ntmps40
  go_wp2
  go_loopw [8] (fun i wx => ∃ k : Nat, k ≤ na ∧ i = .int .i64 (k : Int) ∧ (∀ j b, j < k → vs[j]? = some b → (b.name == y) = false) ∧ Below w.heap.size w wx) (fun i _ => na - (intOf i).toNat)
  case atStart => exact ⟨0, by omega, rfl, fun j b hj => by omega, Below.refl _ _⟩
  case round =>
    obtain ⟨k, hkn, rfl, hno, hbx⟩ := hrel
    have HS := keep hno
    have HX := keep hbx
    clear hno hbx
    by_cases hkl : k < na
    · have d1 : decide ((k : Int) < (na : Int)) = true := decide_eq_true (by omega)
      have hkz : (k : Int) < (na : Int) := by omega
      have hk0 : (0 : Int) ≤ (k : Int) := by omega
      obtain ⟨x, hx⟩ : ∃ x, vs[k]? = some x := ⟨_, List.getElem?_eq_getElem (by rw [HNA.out]; exact hkl)⟩
      obtain ⟨g, o, rfl, hg, hax⟩ := HEA.out k x hx
      have HUX := keep hx
      have hB := HBB.out
      have hax := hax.below HX.out (by omega)
      have a0 := hax.c0
      have a1 := hax.c1
      have a2 := hax.c2
      have HOne := keep (oneV_any P y x wr (keep_cell_at HX.out HC.out))
      clear hx hax HEA hB
      obtain ⟨nx, sx, zx⟩ := x
      simp only at a0 a1 a2 HOne
      obtain ⟨q, hq⟩ : ∃ q, (nx == y) = q := ⟨_, rfl⟩
      rw [hq] at HOne
      have HQ := keep hq
      clear hq
      go_wp2_with fail
      refine HOne.out.mono ?_
      rintro r w1 ⟨rfl, hb1⟩
      have HB1 := keep (HX.out.trans (hb1.mono HX.out.size))
      clear hb1
      cases q with
      | true =>
        go_wp2
        go_ret
        exact ⟨_, rfl, .inr ⟨k, _, rfl, HUX.out, find_at HS.out HUX.out HQ.out, by rw [HNA.out]; exact hkl⟩, HB1.out⟩
      | false =>
        go_wp2
        go_roundw
        case rel => exact ⟨k + 1, by omega, by go_num, fun j b hj hb => by
          by_cases e : j = k
          · rw [e, HUX.out] at hb
            cases hb; exact HQ.out
          · exact HS.out j b (by omega) hb, HB1.out⟩
        case measure => simp [intOf]; omega
    · have hke : k = na := by omega
      subst hke
      have dl : decide ((k : Int) < (k : Int)) = false := decide_eq_false (by omega)
      have HN := keep (find_no (p := fun v : Vr => v.name == y) (l := vs) fun j b hb => HS.out j b (by have := (List.getElem?_eq_some_iff.1 hb).1; rw [HNA.out] at this; exact this) hb)
      clear hkl
      go_wp2
      go_ret
      exact ⟨_, rfl, .inl ⟨rfl, HN.out⟩, HX.out⟩

set_option maxHeartbeats 2000000 in
theorem oneN_any (P : Nat) (y : List UInt8) (v : Nm) (w : World) (hc : w.cell? ⟨P, 0, none⟩ = some (.string ⟨y.toArray⟩)) :
    Calls Tryd.prog 63 #[.agg #[.string ⟨v.name.toArray⟩, .bool v.secret, .bool v.loop], .pointer (some ⟨P, 0, none⟩)] w fun r w' => r = .returned (.bool (v.name == y)) ∧ Below w.heap.size w w' := by
  have hP := lt_of_cell hc
  obtain ⟨vn, vs, vz⟩ := v
  have HB : Hid (Below w.heap.size w (w.alloc (.cells #[.string ⟨vn.toArray⟩, .bool vs, .bool vz] 52))) := (Below.refl _ _).alloc (Nat.le_refl _) _
  have hc2 : (w.alloc (.cells #[.string ⟨vn.toArray⟩, .bool vs, .bool vz] 52)).cell? ⟨P, 0, none⟩ = some (.string ⟨y.toArray⟩) := keep_cell HB.out hc
  go_enter Tryd.func63, Tryd.ntmps63
  go_wp2
  go_ret
  exact ⟨rfl, HB.out⟩

set_option maxHeartbeats 4000000 in
set_option maxRecDepth 100000 in
theorem indexN_any (B P : Nat) (y : List UInt8) (vs : List Nm) (sl : Value) (w : World) (hB : B ≤ w.heap.size) (ha : NmIs w B vs sl) (hc : w.cell? ⟨P, 0, none⟩ = some (.string ⟨y.toArray⟩)) :
    Calls Tryd.prog 62 #[sl, .func (.func 63) #[] #[.pointer (some ⟨P, 0, none⟩)]] w fun r w' => ∃ i : Int, r = .returned (.int .i64 i) ∧ Idx (fun v : Nm => v.name == y) vs i ∧ Below w.heap.size w w' := by
  obtain ⟨pa, na, ca, rfl, hna, hca, hla, hea⟩ := ha
  have HEA := keep hea
  have HNA := keep hna
  have HBB := keep hB
  have HC := keep hc
  clear hea hna hB hc
  go_enter Tryd.func62, Tryd.ntmps62
  go_wp2
  go_loopw [8] (fun i wx => ∃ k : Nat, k ≤ na ∧ i = .int .i64 (k : Int) ∧ (∀ j b, j < k → vs[j]? = some b → (b.name == y) = false) ∧ Below w.heap.size w wx) (fun i _ => na - (intOf i).toNat)
  case atStart => exact ⟨0, by omega, rfl, fun j b hj => by omega, Below.refl _ _⟩
  case round =>
    obtain ⟨k, hkn, rfl, hno, hbx⟩ := hrel
    have HS := keep hno
    have HX := keep hbx
    clear hno hbx
    by_cases hkl : k < na
    · have d1 : decide ((k : Int) < (na : Int)) = true := decide_eq_true (by omega)
      have hkz : (k : Int) < (na : Int) := by omega
      have hk0 : (0 : Int) ≤ (k : Int) := by omega
      obtain ⟨x, hx⟩ : ∃ x, vs[k]? = some x := ⟨_, List.getElem?_eq_getElem (by rw [HNA.out]; exact hkl)⟩
      obtain ⟨g, o, rfl, hg, hax⟩ := HEA.out k x hx
      have HUX := keep hx
      have hB := HBB.out
      have hax := hax.below HX.out (by omega)
      have a0 := hax.c0
      have a1 := hax.c1
      have a2 := hax.c2
      have HOne := keep (oneN_any P y x wr (keep_cell_at HX.out HC.out))
      clear hx hax HEA hB
      obtain ⟨nx, sx, zx⟩ := x
      simp only at a0 a1 a2 HOne
      obtain ⟨q, hq⟩ : ∃ q, (nx == y) = q := ⟨_, rfl⟩
      rw [hq] at HOne
      have HQ := keep hq
      clear hq
      go_wp2_with fail
      refine HOne.out.mono ?_
      rintro r w1 ⟨rfl, hb1⟩
      have HB1 := keep (HX.out.trans (hb1.mono HX.out.size))
      clear hb1
      cases q with
      | true =>
        go_wp2
        go_ret
        exact ⟨_, rfl, .inr ⟨k, _, rfl, HUX.out, find_at HS.out HUX.out HQ.out, by rw [HNA.out]; exact hkl⟩, HB1.out⟩
      | false =>
        go_wp2
        go_roundw
        case rel => exact ⟨k + 1, by omega, by go_num, fun j b hj hb => by
          by_cases e : j = k
          · rw [e, HUX.out] at hb
            cases hb; exact HQ.out
          · exact HS.out j b (by omega) hb, HB1.out⟩
        case measure => simp [intOf]; omega
    · have hke : k = na := by omega
      subst hke
      have dl : decide ((k : Int) < (k : Int)) = false := decide_eq_false (by omega)
      have HN := keep (find_no (p := fun v : Nm => v.name == y) (l := vs) fun j b hb => HS.out j b (by have := (List.getElem?_eq_some_iff.1 hb).1; rw [HNA.out] at this; exact this) hb)
      clear hkl
      go_wp2
      go_ret
      exact ⟨_, rfl, .inl ⟨rfl, HN.out⟩, HX.out⟩

set_option maxHeartbeats 2000000 in
/-- find: where a variable of that name is. -/
theorem find_any (B : Nat) (y : List UInt8) (vs : List Vr) (sl : Value) (w : World) (hB : B ≤ w.heap.size) (ha : VrIs w B vs sl) :
    Calls Tryd.prog 32 #[sl, .string ⟨y.toArray⟩] w fun r w' => ∃ i : Int, r = .returned (.int .i64 i) ∧ Idx (fun v : Vr => v.name == y) vs i ∧ Below w.heap.size w w' := by
  have HB1 : Hid (Below w.heap.size w (w.alloc (.cells #[.string ⟨y.toArray⟩] 9))) := (Below.refl _ _).alloc (Nat.le_refl _) _
  have HC := keep (indexV_any B w.heap.size y vs sl (w.alloc (.cells #[.string ⟨y.toArray⟩] 9)) (by simp; omega) (ha.below (HB1.out.mono hB)) (by simp))
  obtain ⟨p, n, cap, rfl⟩ := ha.slice
  clear ha
  go_enter Tryd.func32, Tryd.ntmps32
  go_wp2_with fail
  refine HC.out.mono ?_
  rintro r w1 ⟨i, rfl, hi, hb⟩
  have HI := keep hi
  have HB2 := keep (HB1.out.trans (hb.mono HB1.out.size))
  clear hi hb
  go_wp2
  go_ret
  exact ⟨i, rfl, HI.out, HB2.out⟩
end Go.Proofs.YtemdnmfldihalaaDoor.Lr
