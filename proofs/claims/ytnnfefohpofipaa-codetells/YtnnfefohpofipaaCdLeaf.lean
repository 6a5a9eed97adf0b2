/- The program's own small questions: is a number no byte, an op, a word; is one of a list no byte. -/
import Derived.Test.YtnnfefohpofipaaCdPlain
namespace Go.Proofs.Ytnnfefohpofipaa.Cd
set_option linter.unusedVariables false
set_option linter.unusedSimpArgs false
open Go.ChangeShapes Go.WideShapes Go.ChangeAt Go.RowKit Lr

theorem nobyte_any (n : Int) (w : World) : Calls Try.prog 9 #[.int .i64 n] w fun e w' => e = .returned (.bool (nb n)) ∧ w' = w := by
  obtain ⟨p, hp⟩ : ∃ p, decide (n < 0) = p := ⟨_, rfl⟩
  obtain ⟨q, hq⟩ : ∃ q, decide (255 < n) = q := ⟨_, rfl⟩
  have e : nb n = (p || q) := by rw [← hp, ← hq]; rfl
  rw [e]
  clear e
  cases p <;> cases q <;> (go_enter Try.func9, Try.ntmps9; go_wp2; go_ret; exact ⟨rfl, rfl⟩)
theorem isop_any (n : Int) (w : World) : Calls Try.prog 10 #[.int .i64 n] w fun e w' => e = .returned (.bool (isOp n)) ∧ w' = w := by
  obtain ⟨p, hp⟩ : ∃ p, decide (1 ≤ n) = p := ⟨_, rfl⟩
  obtain ⟨q, hq⟩ : ∃ q, decide (n ≤ 23) = q := ⟨_, rfl⟩
  have e : isOp n = (p && q) := by rw [← hp, ← hq]; rfl
  rw [e]
  clear e
  cases p <;> cases q <;> (go_enter Try.func10, Try.ntmps10; go_wp2; go_ret; exact ⟨rfl, rfl⟩)
theorem isw_any (n : Int) (w : World) : Calls Try.prog 11 #[.int .i64 n] w fun e w' => e = .returned (.bool (isW n)) ∧ w' = w := by
  obtain ⟨p, hp⟩ : ∃ p, decide (0 ≤ n) = p := ⟨_, rfl⟩
  obtain ⟨q, hq⟩ : ∃ q, decide (n ≤ 4294967295) = q := ⟨_, rfl⟩
  have e : isW n = (p && q) := by rw [← hp, ← hq]; rfl
  rw [e]
  clear e
  cases p <;> cases q <;> (go_enter Try.func11, Try.ntmps11; go_wp2; go_ret; exact ⟨rfl, rfl⟩)

/-- A row of numbers in memory. -/
def RowN (w : World) (g : Nat) (l : List Int) : Prop := ∀ j x, l[j]? = some x → w.cell? ⟨g, j, none⟩ = some (.int .i64 x)
set_option maxHeartbeats 4000000 in
set_option maxRecDepth 100000 in
theorem index_nb (g : Nat) (l : List Int) (c : Nat) (w : World) (hl : l.length ≤ 1000) (ha : RowN w g l) :
    Calls Try.prog 12 #[.slice (some ⟨g, 0, none⟩) l.length c, .func (.func 9) #[] #[]] w fun r w' => ∃ i : Int, r = .returned (.int .i64 i) ∧ decide (0 ≤ i) = l.any nb ∧ w' = w := by
  obtain ⟨n, hn⟩ : ∃ n, l.length = n := ⟨_, rfl⟩
  have HA := keep ha
  have HN := keep hn
  rw [hn]
  rw [hn] at hl
  clear ha hn
  go_enter Try.func12, Try.ntmps12
  go_wp2
  go_loopw [8] (fun i wx => ∃ k : Nat, k ≤ n ∧ i = .int .i64 (k : Int) ∧ (∀ j b, j < k → l[j]? = some b → nb b = false) ∧ wx = w) (fun i _ => n - (intOf i).toNat)
  case atStart => exact ⟨0, by omega, rfl, fun j b hj => by omega, rfl⟩
  case round =>
    obtain ⟨k, hkn, rfl, hno, rfl⟩ := hrel
    have HS := keep hno
    clear hno
    by_cases hkl : k < n
    · have d1 : decide ((k : Int) < (n : Int)) = true := decide_eq_true (by omega)
      have hkz : (k : Int) < (n : Int) := by omega
      have hk0 : (0 : Int) ≤ (k : Int) := by omega
      obtain ⟨x, hx⟩ : ∃ x, l[k]? = some x := ⟨_, List.getElem?_eq_getElem (by rw [HN.out]; exact hkl)⟩
      have a0 : wr.cell? ⟨g, k, none⟩ = some (.int .i64 x) := HA.out k x hx
      have HX := keep hx
      have HOne := keep (nobyte_any x wr)
      clear hx
      obtain ⟨q, hq⟩ : ∃ q, nb x = q := ⟨_, rfl⟩
      rw [hq] at HOne
      have HQ := keep hq
      clear hq
      go_wp2_with fail
      refine HOne.out.mono ?_
      rintro r w1 ⟨rfl, rfl⟩
      cases q with
      | true =>
        go_wp2
        go_ret
        refine ⟨_, rfl, ?_, rfl⟩
        rw [decide_eq_true (by omega)]
        exact (List.any_eq_true.2 ⟨x, List.mem_of_getElem? HX.out, HQ.out⟩).symm
      | false =>
        go_wp2
        go_roundw
        case rel => exact ⟨k + 1, by omega, by go_num, fun j b hj hb => by
          by_cases e : j = k
          · rw [e, HX.out] at hb
            cases hb; exact HQ.out
          · exact HS.out j b (by omega) hb, trivial⟩
        case measure => simp [intOf]; omega
    · have hke : k = n := by omega
      subst hke
      have dl : decide ((k : Int) < (k : Int)) = false := decide_eq_false (by omega)
      clear hkl
      go_wp2
      go_ret
      refine ⟨_, rfl, ?_, rfl⟩
      symm
      rw [show decide ((0 : Int) ≤ -1) = false from rfl, List.any_eq_false]
      intro x hx
      obtain ⟨j, hj⟩ := List.getElem?_of_mem hx
      have := (List.getElem?_eq_some_iff.1 hj).1
      rw [HS.out j x (by rw [HN.out] at this; exact this) hj]; decide
set_option maxHeartbeats 4000000 in
theorem contains_nb (g : Nat) (l : List Int) (c : Nat) (w : World) (hl : l.length ≤ 1000) (ha : RowN w g l) :
    Calls Try.prog 8 #[.slice (some ⟨g, 0, none⟩) l.length c, .func (.func 9) #[] #[]] w fun r w' => r = .returned (.bool (l.any nb)) ∧ w' = w := by
  have HC := keep (index_nb g l c w hl ha)
  obtain ⟨n, hn⟩ : ∃ n, l.length = n := ⟨_, rfl⟩
  rw [hn] at HC ⊢
  obtain ⟨q, hq⟩ : ∃ q, l.any nb = q := ⟨_, rfl⟩
  rw [hq] at HC ⊢
  clear ha hl hn hq
  go_enter Try.func8, Try.ntmps8
  go_wp2_with fail
  refine HC.out.mono ?_
  rintro r w1 ⟨i, rfl, hi, rfl⟩
  go_wp2
  go_ret
  exact ⟨rfl, rfl⟩
end Go.Proofs.Ytnnfefohpofipaa.Cd
