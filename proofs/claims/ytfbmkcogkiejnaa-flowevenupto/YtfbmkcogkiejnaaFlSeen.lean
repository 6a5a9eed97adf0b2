/- What is seen of an instruction: flow's seenBits, Seen. -/
import Derived.Test.YtfbmkcogkiejnaaFlReads
import Derived.Test.YtfbmkcogkiejnaaLfRfit
import Derived.Test.YtfbmkcogkiejnaaTbBlk
namespace Go.Proofs.Ytfbmkcogkiejnaa.Fl
set_option linter.unusedVariables false
set_option linter.unusedSimpArgs false
open Go.ChangeShapes Go.WideShapes Go.ChangeAt Go.RowKit Lg Lr

/-- Which operands are seen. -/
def bitsG (T : Nat → Int) (op : Int) (all : Bool) : Int := if op = 19 then 1 else if all = true ∨ op < 1 ∨ 17 < op then Tb.allV op else T op.toNat
def valsW (n : Int) (P : List Int) : Nat → List Int → List Int
  | _, [] => []
  | k, p :: l => if bitOn n k = true ∧ wi p P.length = true then gI P p :: valsW n P (k + 1) l else valsW n P (k + 1) l
theorem valsW_in {n : Int} {P : List Int} : ∀ {l : List Int} {k : Nat}, (∀ p ∈ l, 0 ≤ p ∧ p < P.length) → valsW n P k l = valsL n P k l
  | [], _, _ => rfl
  | p :: l, k, h => by
    have ih := valsW_in (n := n) (P := P) (l := l) (k := k + 1) (fun q hq => h q (by simp [hq]))
    have hp := wi_iff.2 (h p (by simp))
    rw [valsW, valsL, ih, hp]
    simp
set_option maxHeartbeats 4000000 in
theorem seenBits_any (T : Nat → Int) (op : Int) (all : Bool) (w : World) : Calls Try.prog 37 #[.agg (Tb.tabA T), .int .i64 op, .bool all] w fun r w' => r = .returned (.int .i64 (bitsG T op all)) ∧ Below w.heap.size w w' := by
  have HB : Hid (Below w.heap.size w (w.alloc (.cells (Tb.tabA T) 29))) := (Below.refl _ _).alloc (Nat.le_refl _) _
  have HK := keep (Tb.blk_alloc w T)
  obtain ⟨w1, hw1⟩ : ∃ y, w.alloc (.cells (Tb.tabA T) 29) = y := ⟨_, rfl⟩
  rw [hw1] at HB HK
  have HW1 := keep hw1
  clear hw1
  by_cases h9 : op = 19
  · subst h9
    have HE : Hid (bitsG T 19 all = 1) := by show _ = _; unfold bitsG; rw [if_pos rfl]
    go_enter Try.func37, Try.ntmps37
    go_wp2_with (first | rw [HW1.out] | fail)
    go_ret
    exact ⟨by rw [HE.out]; rfl, HB.out⟩
  · have k9 : (op == 19) = false := by simpa using h9
    have HA := keep (Tb.all_any op w1)
    by_cases ha : all = true ∨ op < 1 ∨ 17 < op
    · have HE : Hid (bitsG T op all = Tb.allV op) := by show _ = _; unfold bitsG; rw [if_neg h9, if_pos ha]
      cases all with
      | true =>
        clear h9 ha
        go_enter Try.func37, Try.ntmps37
        go_wp2_with (first | rw [HW1.out] | fail)
        refine HA.out.mono ?_
        rintro r w2 ⟨rfl, rfl⟩
        clear HA
        go_wp2
        go_ret
        exact ⟨by rw [HE.out]; rfl, HB.out⟩
      | false =>
        by_cases h1 : op < 1
        · have d1 : decide (op < 1) = true := decide_eq_true h1
          clear h9 ha
          go_enter Try.func37, Try.ntmps37
          go_wp2_with (first | rw [HW1.out] | fail)
          refine HA.out.mono ?_
          rintro r w2 ⟨rfl, rfl⟩
          clear HA
          go_wp2
          go_ret
          exact ⟨by rw [HE.out]; rfl, HB.out⟩
        · have d1 : decide (op < 1) = false := decide_eq_false h1
          have d2 : decide (17 < op) = true := decide_eq_true (by rcases ha with h | h | h; cases h; exact absurd h h1; exact h)
          clear h9 ha h1
          go_enter Try.func37, Try.ntmps37
          go_wp2_with (first | rw [HW1.out] | fail)
          refine HA.out.mono ?_
          rintro r w2 ⟨rfl, rfl⟩
          clear HA
          go_wp2
          go_ret
          exact ⟨by rw [HE.out]; rfl, HB.out⟩
    · have HE : Hid (bitsG T op all = T op.toNat) := by show _ = _; unfold bitsG; rw [if_neg h9, if_neg ha]
      obtain rfl : all = false := by cases all; rfl; exact absurd (.inl rfl) ha
      have h1 : ¬ op < 1 := fun h => ha (.inr (.inl h))
      have h2 : ¬ 17 < op := fun h => ha (.inr (.inr h))
      have d1 : decide (op < 1) = false := decide_eq_false h1
      have d2 : decide (17 < op) = false := decide_eq_false h2
      obtain ⟨k, rfl⟩ : ∃ k : Nat, op = (k : Int) := ⟨op.toNat, by omega⟩
      have hk0 : (0 : Int) ≤ (k : Int) := by omega
      have hk18 : (k : Int) < 18 := by omega
      have hcell := HK.out.lies k (by omega)
      clear h9 ha h1 h2 HA
      go_enter Try.func37, Try.ntmps37
      go_wp2_with (first | rw [HW1.out] | fail)
      go_ret
      exact ⟨by rw [HE.out]; rfl, HB.out⟩
theorem bit_on (n : Int) (h0 : 0 ≤ n) (h7 : n ≤ 7) (k : Nat) (hk : k < 3) : (bits .and .i64 n (2 ^ k) != 0) = bitOn n k := by
  have : ∀ (a : Fin 8) (j : Fin 3), (bits .and .i64 ((a.val : Nat) : Int) (2 ^ j.val) != 0) = bitOn ((a.val : Nat) : Int) j.val := by decide
  have h := this ⟨n.toNat, by omega⟩ ⟨k, hk⟩
  dsimp only at h
  rw [Int.toNat_of_nonneg h0] at h
  exact h
theorem rds_len (i : Ix) : (rds i).length ≤ 3 := by
  unfold rds
  split
  · simp
  · split
    · simp
    · split
      · simp
      · split <;> simp
end Go.Proofs.Ytfbmkcogkiejnaa.Fl
