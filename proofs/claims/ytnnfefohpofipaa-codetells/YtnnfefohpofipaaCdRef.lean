/- The document's Bytes. -/
import Derived.Test.YtnnfefohpofipaaCdBytes
namespace Go.Proofs.Ytnnfefohpofipaa.Cd
set_option linter.unusedVariables false
set_option linter.unusedSimpArgs false
open Go.ChangeShapes Go.WideShapes Go.ChangeAt Go.RowKit Lr

theorem isop_no {n : Int} (h : 0 ≤ n ∧ n ≤ 255) : isOp n = true ↔ ¬ (n = 0 ∨ 23 < n) := by
  unfold isOp; rw [Bool.and_eq_true, decide_eq_true_eq, decide_eq_true_eq]; omega
theorem bad5 {i : Cx} {k : Nat} {x : Int} (h : [i.op, i.d, i.a, i.b, i.c][k]? = some x) (hx : x < 0 ∨ 255 < x) : bytesM i = (3, []) := by
  unfold bytesM
  have e : (five i).any nb = true := List.any_eq_true.2 ⟨x, List.mem_of_getElem? h, by unfold nb; rw [Bool.or_eq_true, decide_eq_true_eq, decide_eq_true_eq]; exact hx⟩
  rw [if_pos e]
set_option maxHeartbeats 8000000 in
set_option maxRecDepth 100000 in
theorem rbytes_any (i : Cx) (w : World) : Calls Try.prog 5 #[.agg (cxA i)] w fun r w' => ByP i w r w' := by
  obtain ⟨op, d, a, b, c, imm⟩ := i
  have HB := keep (fun (o1 o2 : Obj) => ((Below.refl w.heap.size w).alloc (Nat.le_refl _) o1).alloc (by simp) o2)
  have HR := keep (fun (w' : World) (g : Nat) (hg : w'.heap.size = g) => row5 w' g hg op d a b c)
  unfold cxA
  dsimp only
  go_enter Try.func5, Try.ntmps5
  go_wp2
  go_loopw [19] (fun i wx => ∃ k : Nat, k ≤ 5 ∧ i = .int .i64 (k : Int) ∧ (∀ j b', j < k → [op, d, a, b, c][j]? = some b' → nb b' = false) ∧ wx = (w.alloc (.cells #[.int .i64 op, .int .i64 d, .int .i64 a, .int .i64 b, .int .i64 c, .int .i64 imm] 23)).alloc (.cells #[.int .i64 op, .int .i64 d, .int .i64 a, .int .i64 b, .int .i64 c] 3)) (fun i _ => 5 - (intOf i).toNat)
  case atStart => exact ⟨0, by omega, rfl, fun j b hj => by omega, rfl⟩
  case round =>
    obtain ⟨k, hkn, rfl, hno, rfl⟩ := hrel
    have HS := keep hno
    clear hno
    by_cases hkl : k < 5
    · have d1 : decide ((k : Int) < 5) = true := decide_eq_true (by omega)
      have hkz : (k : Int) < 5 := by omega
      have hk0 : (0 : Int) ≤ (k : Int) := by omega
      obtain ⟨x, hx⟩ : ∃ x, [op, d, a, b, c][k]? = some x := ⟨_, List.getElem?_eq_getElem (by simpa using hkl)⟩
      have a0 := HR.out (w.alloc (.cells #[.int .i64 op, .int .i64 d, .int .i64 a, .int .i64 b, .int .i64 c, .int .i64 imm] 23)) (w.heap.size + 1) (by simp) k x hx
      have HX := keep hx
      clear hx
      by_cases n0 : x < 0
      · have e0 : decide (x < 0) = true := decide_eq_true n0
        have HY := keep (bad5 (i := ⟨op, d, a, b, c, imm⟩) HX.out (.inl n0))
        clear n0
        go_wp2
        go_ret2
        exact ByP.empty HY.out (HB.out _ _)
      · have e0 : decide (x < 0) = false := decide_eq_false n0
        by_cases n1 : 255 < x
        · have e1 : decide (255 < x) = true := decide_eq_true n1
          have HY := keep (bad5 (i := ⟨op, d, a, b, c, imm⟩) HX.out (.inr n1))
          clear n0 n1
          go_wp2
          go_ret2
          exact ByP.empty HY.out (HB.out _ _)
        · have e1 : decide (255 < x) = false := decide_eq_false n1
          have HQ : Hid (nb x = false) := nb_false.2 ⟨by omega, by omega⟩
          clear n0 n1
          go_wp2
          go_roundw
          case rel => exact ⟨k + 1, by omega, by go_num, fun j b' hj hb => by
            by_cases e : j = k
            · rw [e, HX.out] at hb
              cases hb; exact HQ.out
            · exact HS.out j b' (by omega) hb, trivial⟩
          case measure => simp [intOf]; omega
    · have hke : k = 5 := by omega
      subst hke
      have K1 : Hid ((five ⟨op, d, a, b, c, imm⟩).any nb = false) := by
        show _ = _
        rw [List.any_eq_false]
        intro x hx
        obtain ⟨j, hj⟩ := List.getElem?_of_mem hx
        have := (List.getElem?_eq_some_iff.1 hj).1
        rw [HS.out j x (by simpa [five] using this) hj]; decide
      have f0 : Hid (0 ≤ op ∧ op ≤ 255) := nb_false.1 (HS.out 0 op (by omega) rfl)
      have f4 : Hid (0 ≤ c ∧ c ≤ 255) := nb_false.1 (HS.out 4 c (by omega) rfl)
      have dl : decide (((5 : Nat) : Int) < 5) = false := rfl
      clear hkl HS HR
      have HN := keep K1.out
      by_cases h0 : op = 0
      · have e : bytesM ⟨op, d, a, b, c, imm⟩ = (1, []) := by
          unfold bytesM
          rw [if_neg (by rw [K1.out]; simp), if_pos (by unfold isOp; dsimp only; rw [Bool.and_eq_false_iff, decide_eq_false_iff_not, decide_eq_false_iff_not]; omega)]
        have HE := keep e
        have e0 : (op == 0) = true := by simpa using h0
        clear e h0 K1 f0 f4 HN
        go_wp2
        go_ret2
        exact ByP.empty HE.out (HB.out _ _)
      · have e0 : (op == 0) = false := by simpa using h0
        by_cases h1 : 23 < op
        · have e : bytesM ⟨op, d, a, b, c, imm⟩ = (1, []) := by
            unfold bytesM
            rw [if_neg (by rw [K1.out]; simp), if_pos (by unfold isOp; dsimp only; rw [Bool.and_eq_false_iff, decide_eq_false_iff_not, decide_eq_false_iff_not]; omega)]
          have HE := keep e
          have e1 : decide (23 < op) = true := decide_eq_true h1
          clear e h0 h1 K1 f0 f4 HN
          go_wp2
          go_ret2
          exact ByP.empty HE.out (HB.out _ _)
        · have e1 : decide (23 < op) = false := decide_eq_false h1
          have K2 : Hid (isOp op = true) := (isop_no f0.out).2 (by omega)
          clear h0 h1
          by_cases h2 : imm < 0
          · have e : bytesM ⟨op, d, a, b, c, imm⟩ = (3, []) := by
              unfold bytesM
              rw [if_neg (by rw [K1.out]; simp), if_neg (by rw [K2.out]; simp), if_pos (by unfold isW; dsimp only; rw [Bool.and_eq_false_iff, decide_eq_false_iff_not, decide_eq_false_iff_not]; omega)]
            have HE := keep e
            have e2 : decide (imm < 0) = true := decide_eq_true h2
            clear e h2 K1 K2 f0 f4 HN
            go_wp2
            go_ret2
            exact ByP.empty HE.out (HB.out _ _)
          · have e2 : decide (imm < 0) = false := decide_eq_false h2
            by_cases h3 : 4294967296 ≤ imm
            · have e : bytesM ⟨op, d, a, b, c, imm⟩ = (3, []) := by
                unfold bytesM
                rw [if_neg (by rw [K1.out]; simp), if_neg (by rw [K2.out]; simp), if_pos (by unfold isW; dsimp only; rw [Bool.and_eq_false_iff, decide_eq_false_iff_not, decide_eq_false_iff_not]; omega)]
              have HE := keep e
              have e3 : decide (4294967296 ≤ imm) = true := decide_eq_true h3
              clear e h2 h3 K1 K2 f0 f4 HN
              go_wp2
              go_ret2
              exact ByP.empty HE.out (HB.out _ _)
            · have e3 : decide (4294967296 ≤ imm) = false := decide_eq_false h3
              have K3 : Hid (isW imm = true) := by
                show _ = _
                unfold isW; rw [Bool.and_eq_true, decide_eq_true_eq, decide_eq_true_eq]; omega
              have hi : Hid (0 ≤ imm ∧ imm ≤ 4294967295) := ⟨by omega, by omega⟩
              clear h2 h3 HN
              have HG := keep (fun h4 => bytes_good (i := ⟨op, d, a, b, c, imm⟩) K1.out K2.out K3.out h4)
              have HF := keep (fun h4 => bytes_form (i := ⟨op, d, a, b, c, imm⟩) K1.out K2.out K3.out h4)
              clear K1 K2 K3 f0
              by_cases hz : op = 13
              · subst hz
                by_cases hn : 0 < imm
                · have e4 : decide (0 < imm) = true := decide_eq_true hn
                  have HE := keep (HF.out (by unfold noneN; rw [if_pos rfl]; dsimp only; omega))
                  clear HG HF hn hi f4
                  go_wp2
                  go_ret2
                  exact ByP.empty HE.out (HB.out _ _)
                · have e4 : decide (0 < imm) = false := decide_eq_false hn
                  have HE := keep (HG.out (by unfold noneN; rw [if_pos rfl]; have := hi.out.1; dsimp only; omega))
                  have c0 := f4.out.1
                  have c1 : c ≤ 9223372036854775807 := by have := f4.out.2; omega
                  clear HG HF hn hi f4
                  go_wp2
                  go_ret2
                  exact ByP.some HE.out (eight_mod _ _ _ _ _ _ _ _) (HB.out _ _) _ (by simp)
              · have e4 : (op == 13) = false := by simpa using hz
                have e5 : (op != 13) = true := by simpa using hz
                by_cases hn : 0 < c
                · have e6 : decide (0 < c) = true := decide_eq_true hn
                  have HE := keep (HF.out (by unfold noneN; rw [if_neg hz]; dsimp only; omega))
                  clear HG HF hn hi f4 hz
                  go_wp2
                  go_ret2
                  exact ByP.empty HE.out (HB.out _ _)
                · have e6 : decide (0 < c) = false := decide_eq_false hn
                  have HE := keep (HG.out (by unfold noneN; rw [if_neg hz]; have := f4.out.1; dsimp only; omega))
                  rw [show lastN ⟨op, d, a, b, c, imm⟩ = imm from if_neg hz] at HE
                  have c0 := hi.out.1
                  have c1 : imm ≤ 9223372036854775807 := by have := hi.out.2; omega
                  clear HG HF hn hi f4 hz
                  go_wp2
                  go_ret2
                  exact ByP.some HE.out (eight_mod _ _ _ _ _ _ _ _) (HB.out _ _) _ (by simp)
end Go.Proofs.Ytnnfefohpofipaa.Cd
