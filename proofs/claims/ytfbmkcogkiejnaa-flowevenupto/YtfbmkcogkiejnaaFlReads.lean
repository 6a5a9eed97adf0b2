/- What an instruction reads. -/
import Derived.Test.YtfbmkcogkiejnaaFlBase
namespace Go.Proofs.Ytfbmkcogkiejnaa.Fl
set_option linter.unusedVariables false
set_option linter.unusedSimpArgs false
open Go.ChangeShapes Go.WideShapes Go.ChangeAt Go.RowKit Lg Lr

theorem ints_new (w : World) (l : List Int) (hl : l.length ≤ 100) : IntsIs (w.alloc (.cells (l.map (Value.int .i64)).toArray 3)) (w.alloc (.cells (l.map (Value.int .i64)).toArray 3)).heap.size l (.slice (some ⟨w.heap.size, 0, none⟩) l.length l.length) := by
  have hk := Bk.new w (l.map (Value.int .i64)) 3
  refine ⟨_, _, _, rfl, rfl, Nat.le_refl _, by omega, fun j x hj => ⟨_, 0, rfl, hk.lt, ?_⟩⟩
  rw [Nat.zero_add]
  exact hk.cell j (by rw [List.getElem?_map, hj]; rfl)
theorem ints_nil (w : World) (B : Nat) : IntsIs w B [] (.slice none 0 0) := ⟨none, 0, 0, rfl, rfl, Nat.le_refl _, by omega, fun j x hj => by cases hj⟩
def RdP (i : Ix) (w : World) (r : Ending) (w' : World) : Prop := ∃ v, r = .returned v ∧ IntsIs w' w'.heap.size (rds i) v ∧ Below w.heap.size w w'
theorem RdP.mk {i : Ix} {w : World} {o : Obj} (l : List Int) (hl : l.length ≤ 100) (he : rds i = l) : RdP i w (.returned (.slice (some ⟨w.heap.size + 1, 0, none⟩) l.length l.length)) ((w.alloc o).alloc (.cells (l.map (Value.int .i64)).toArray 3)) := by
  have h := ints_new (w.alloc o) l hl
  rw [show (w.alloc o).heap.size = w.heap.size + 1 by simp] at h
  exact ⟨_, rfl, by rw [he]; exact h, ((Below.refl _ _).alloc (Nat.le_refl _) _).alloc (by simp) _⟩
set_option maxHeartbeats 4000000 in
theorem reads_any (i : Ix) (w : World) : Calls Try.prog 12 #[.agg (ixA i)] w fun r w' => RdP i w r w' := by
  obtain ⟨op, d, a, b, c, imm⟩ := i
  by_cases h0 : 1 ≤ op ∧ op ≤ 12
  · have d0 : decide (1 ≤ op) = true := decide_eq_true h0.1
    have d1 : decide (op ≤ 12) = true := decide_eq_true h0.2
    have HE : Hid (rds ⟨op, d, a, b, c, imm⟩ = [a, b]) := by show _ = _; unfold rds; rw [if_pos h0]
    clear h0
    unfold ixA
    dsimp only
    go_enter Try.func12, Try.ntmps12
    go_wp2
    go_ret
    exact RdP.mk [a, b] (by simp) HE.out
  · have HN := keep h0
    have e0 : (decide (1 ≤ op) && decide (op ≤ 12)) = false := by rw [Bool.and_eq_false_iff, decide_eq_false_iff_not, decide_eq_false_iff_not]; omega
    by_cases h3 : op = 13
    · subst h3
      unfold ixA
      dsimp only
      clear h0 e0
      go_enter Try.func12, Try.ntmps12
      go_wp2
      go_ret
      exact RdP.mk [a, b, c] (by simp) (by unfold rds; rw [if_neg HN.out, if_pos rfl])
    · by_cases h7 : op = 17
      · subst h7
        unfold ixA
        dsimp only
        clear h0 e0 h3
        go_enter Try.func12, Try.ntmps12
        go_wp2
        go_ret
        exact RdP.mk [a, d] (by simp) rfl
      · by_cases h5 : op = 15
        · subst h5
          unfold ixA
          dsimp only
          clear h0 e0 h3 h7
          go_enter Try.func12, Try.ntmps12
          go_wp2
          go_ret
          exact RdP.mk [a] (by simp) rfl
        · by_cases h6 : op = 16
          · subst h6
            unfold ixA
            dsimp only
            clear h0 e0 h3 h7 h5
            go_enter Try.func12, Try.ntmps12
            go_wp2
            go_ret
            exact RdP.mk [a] (by simp) rfl
          · by_cases h9 : op = 19
            · subst h9
              unfold ixA
              dsimp only
              clear h0 e0 h3 h7 h5 h6
              go_enter Try.func12, Try.ntmps12
              go_wp2
              go_ret
              exact RdP.mk [a] (by simp) rfl
            · by_cases h2 : op = 20
              · subst h2
                unfold ixA
                dsimp only
                clear h0 e0 h3 h7 h5 h6 h9
                go_enter Try.func12, Try.ntmps12
                go_wp2
                go_ret
                exact RdP.mk [a] (by simp) rfl
              · have HE : Hid (rds ⟨op, d, a, b, c, imm⟩ = []) := by
                  show _ = _
                  unfold rds
                  rw [if_neg HN.out, if_neg h3, if_neg h7, if_neg (by dsimp only; omega)]
                have k3 : (op == 13) = false := by simpa using h3
                have k7 : (op == 17) = false := by simpa using h7
                have k5 : (op == 15) = false := by simpa using h5
                have k6 : (op == 16) = false := by simpa using h6
                have k9 : (op == 19) = false := by simpa using h9
                have k2 : (op == 20) = false := by simpa using h2
                have HF : Hid (∀ o : Obj, RdP ⟨op, d, a, b, c, imm⟩ w (.returned (.slice none 0 0)) (w.alloc o)) := fun o => ⟨_, rfl, by rw [HE.out]; exact ints_nil _ _, (Below.refl _ _).alloc (Nat.le_refl _) _⟩
                clear HE
                unfold ixA
                dsimp only
                by_cases q1 : 1 ≤ op
                · have d0 : decide (1 ≤ op) = true := decide_eq_true q1
                  have d1 : decide (op ≤ 12) = false := decide_eq_false (by omega)
                  clear h0 e0
                  go_enter Try.func12, Try.ntmps12
                  go_wp2
                  go_ret
                  exact HF.out _
                · have d0 : decide (1 ≤ op) = false := decide_eq_false q1
                  clear h0 e0
                  go_enter Try.func12, Try.ntmps12
                  go_wp2
                  go_ret
                  exact HF.out _
end Go.Proofs.Ytfbmkcogkiejnaa.Fl
