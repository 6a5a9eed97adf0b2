/- What Wrong of package table answers, for whatever table. -/
import Derived.Test.YtfbmkcogkiejnaaTbWalks
import Derived.Test.YtfbmkcogkiejnaaTbBits
namespace Go.Proofs.Ytfbmkcogkiejnaa.Tb
set_option linter.unusedVariables false
open Go.ChangeShapes Go.WideShapes Go.ChangeAt Go.RowKit

/-- A table's cells. -/
abbrev tabA (t : Nat → Int) : Array Value := #[.int .i64 (t 0), .int .i64 (t 1), .int .i64 (t 2), .int .i64 (t 3), .int .i64 (t 4), .int .i64 (t 5), .int .i64 (t 6), .int .i64 (t 7), .int .i64 (t 8), .int .i64 (t 9), .int .i64 (t 10), .int .i64 (t 11), .int .i64 (t 12), .int .i64 (t 13), .int .i64 (t 14), .int .i64 (t 15), .int .i64 (t 16), .int .i64 (t 17)]
/-- Numbers of 64 bits. -/
def I64 (t : Nat → Int) : Prop := ∀ k, -9223372036854775808 ≤ t k ∧ t k ≤ 9223372036854775807

theorem tabA_at (t : Nat → Int) : ∀ k : Nat, k < 18 → (tabA t)[k]? = some (.int .i64 (t k)) := by
  intro k h
  match k, h with
  | 0, _ => rfl
  | 1, _ => rfl
  | 2, _ => rfl
  | 3, _ => rfl
  | 4, _ => rfl
  | 5, _ => rfl
  | 6, _ => rfl
  | 7, _ => rfl
  | 8, _ => rfl
  | 9, _ => rfl
  | 10, _ => rfl
  | 11, _ => rfl
  | 12, _ => rfl
  | 13, _ => rfl
  | 14, _ => rfl
  | 15, _ => rfl
  | 16, _ => rfl
  | 17, _ => rfl
  | k + 18, h => exact absurd h (by omega)

theorem wrongT_bad {t : Nat → Int} (h0 : t 0 = 0) {k : Nat} (k1 : 1 ≤ k) (k2 : k ≤ 17) (h : ¬ (0 ≤ t k ∧ t k ≤ most k)) : wrongT t = 3 := by
  unfold wrongT
  rw [if_neg (by simpa using h0), if_neg]
  intro hh
  have := hh ⟨k - 1, by omega⟩
  rw [show (⟨k - 1, by omega⟩ : Fin 17).val + 1 = k by simp; omega] at this
  exact h (of_decide_eq_true this)
theorem wrongT_good {t : Nat → Int} (h0 : t 0 = 0) (h : ∀ k, 1 ≤ k → k < 18 → 0 ≤ t k ∧ t k ≤ most k) : wrongT t = 0 := by
  unfold wrongT
  rw [if_neg (by simpa using h0), if_pos]
  intro k
  exact decide_eq_true (h (k.val + 1) (by omega) (by omega))

/-- What is right so far. -/
def upto (t : Nat → Int) (k : Nat) : Prop := ∀ j, 1 ≤ j → j < k → 0 ≤ t j ∧ t j ≤ most j

/-- The table's cells lie in a block. -/
def Lies (w : World) (b : Nat) (t : Nat → Int) : Prop := ∀ k : Nat, k < 18 → w.cell? ⟨b, k, none⟩ = some (.int .i64 (t k))
theorem lies_alloc (t : Nat → Int) (w : World) (T : TypeId) : Lies (w.alloc (.cells (tabA t) T)) w.heap.size t := fun k hk => by
  rw [World.cell?_alloc_new]
  exact tabA_at t k hk
theorem lies_drew {t : Nat → Int} {w : World} {b : Nat} (h : Lies w b t) (n : Nat) : Lies (w.drewN n) b t := h
theorem below_drewN {B : Nat} {a w : World} (h : Below B a w) (n : Nat) : Below B a (w.drewN n) := ⟨h.os, h.tape, h.output, h.size, h.block⟩

set_option maxHeartbeats 1000000 in
theorem wrong_any (t : Nat → Int) (ht : I64 t) (w : World) :
    Calls Try.prog 48 #[.agg (tabA t)] w fun e w' => e = .returned (.int .i64 (wrongT t)) ∧ Below w.heap.size w w' := by
  by_cases h0 : t 0 = 0
  · have d0 : (t 0 != 0) = false := by simpa using h0
    have H0 := keep h0
    have HT := keep ht
    clear h0 ht
    go_enter Try.func48, Try.ntmps48
    go_wp2
    go_loopw [3] (fun i wx => ∃ k : Nat, 1 ≤ k ∧ k ≤ 18 ∧ i = .int .i64 (k : Int) ∧ upto t k ∧ Lies wx w.heap.size t ∧ Below w.heap.size w wx) (fun i _ => 18 - (intOf i).toNat)
    case atStart => exact ⟨1, by omega, by omega, rfl, fun j _ _ => by omega, lies_alloc _ _ _, (Below.refl _ _).alloc (Nat.le_refl _) _⟩
    case round =>
      obtain ⟨k, k1, k2, rfl, hu, hl, hb⟩ := hrel
      have HU := keep hu
      have HL := keep hl
      have HB := keep hb
      clear hu hb
      by_cases hk : k ≤ 17
      · have hkz : (k : Int) ≤ 17 := by omega
        have hk0 : (0 : Int) ≤ (k : Int) := by omega
        have hk18 : (k : Int) < 18 := by omega
        have hcell := hl k (by omega)
        clear hl
        have hb := andNot_most (t k) (HT.out k).1 (HT.out k).2 k (by omega)
        by_cases hf : 0 ≤ t k ∧ t k ≤ most k
        · have hb0 : bits .andNot .i64 (t k) (most k) = 0 := hb.2 hf
          have HF := keep hf
          clear hb hf
          go_wp2
          go_quiet ((go_at_call 63; exact Calls.quiet_of_same (maySee_any k k1 hk _)))
          go_wp2
          go_roundw
          case rel => 
            exact ⟨k + 1, by omega, by omega, by go_num, fun j j1 j2 => by
              by_cases e : j = k
              · rw [e]; exact HF.out
              · exact HU.out j j1 (by omega), lies_drew HL.out _, below_drewN HB.out _⟩
          case measure => simp [intOf]; omega
        · have hbn : ¬ bits .andNot .i64 (t k) (most k) = 0 := fun e => hf (hb.1 e)
          have hb0 : (bits .andNot .i64 (t k) (most k) != 0) = true := by simpa using hbn
          have e := wrongT_bad H0.out k1 hk hf
          have HE := keep e
          clear hb hf hbn e
          go_wp2
          go_quiet ((go_at_call 63; exact Calls.quiet_of_same (maySee_any k k1 hk _)))
          go_wp2
          go_ret
          exact ⟨ret_int HE.out.symm, below_drewN HB.out _⟩
      · have hk18 : k = 18 := by omega
        subst hk18
        have e := wrongT_good H0.out fun j j1 j2 => HU.out j j1 j2
        have HE := keep e
        clear e hl
        go_wp2
        go_ret
        exact ⟨ret_int HE.out.symm, HB.out⟩
  · have e : wrongT t = 1 := by unfold wrongT; rw [if_pos h0]
    have d0 : (t 0 != 0) = true := by simpa using h0
    rw [e]
    clear h0 e
    go_enter Try.func48, Try.ntmps48
    go_wp2
    go_ret
    exact ⟨rfl, (Below.refl _ _).alloc (Nat.le_refl _) _⟩
end Go.Proofs.Ytfbmkcogkiejnaa.Tb
