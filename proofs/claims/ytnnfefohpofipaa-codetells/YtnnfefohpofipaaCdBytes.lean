/- The program's Bytes. -/
import Derived.Test.YtnnfefohpofipaaCdLeaf
namespace Go.Proofs.Ytnnfefohpofipaa.Cd
set_option linter.unusedVariables false
set_option linter.unusedSimpArgs false
open Go.ChangeShapes Go.WideShapes Go.ChangeAt Go.RowKit Lr

def ByP (i : Cx) (w : World) (r : Ending) (w' : World) : Prop := ∃ sl, r = .returned (.tuple #[sl, .int .i64 (bytesM i).1]) ∧ BysIs w' w'.heap.size (bytesM i).2 sl ∧ Below w.heap.size w w'
theorem ByP.empty {i : Cx} {w w' : World} {e : Int} (he : bytesM i = (e, [])) (hb : Below w.heap.size w w') : ByP i w (.returned (.tuple #[.slice none 0 0, .int .i64 e])) w' :=
  ⟨_, by rw [he], by rw [he]; exact bys_nil _ _, hb⟩
theorem cell_new (w : World) (l : List Value) (t : TypeId) (j : Nat) (v : Value) (h : l[j]? = some v) : (w.alloc (.cells l.toArray t)).cell? ⟨w.heap.size, j, none⟩ = some v := by
  have hk : (w.alloc (.cells l.toArray t)).heap[w.heap.size]? = some (.cells l.toArray t) := (MapKept.heap_alloc w (.cells l.toArray t)).1
  rw [Lib.cell_of_heap hk, List.getElem?_toArray]; exact h
theorem row5 (w : World) (g : Nat) (hg : w.heap.size = g) (op d a b c : Int) : RowN (w.alloc (.cells #[.int .i64 op, .int .i64 d, .int .i64 a, .int .i64 b, .int .i64 c] 3)) g [op, d, a, b, c] := by
  subst hg
  intro j x hj
  exact cell_new w [.int .i64 op, .int .i64 d, .int .i64 a, .int .i64 b, .int .i64 c] 3 j _ (by
    match j with
    | 0 => cases hj; rfl
    | 1 => cases hj; rfl
    | 2 => cases hj; rfl
    | 3 => cases hj; rfl
    | 4 => cases hj; rfl
    | j + 5 => simp at hj)
/-- Eight bytes in a new block. -/
theorem bys_new (w : World) (g : Nat) (hg : w.heap.size = g) (a b c d e f h i : Int) (hx : ∀ x ∈ [a, b, c, d, e, f, h, i], 0 ≤ x ∧ x < 256) :
    BysIs (w.alloc (.cells #[.int .u8 a, .int .u8 b, .int .u8 c, .int .u8 d, .int .u8 e, .int .u8 f, .int .u8 h, .int .u8 i] 5)) (w.alloc (.cells #[.int .u8 a, .int .u8 b, .int .u8 c, .int .u8 d, .int .u8 e, .int .u8 f, .int .u8 h, .int .u8 i] 5)).heap.size [a, b, c, d, e, f, h, i] (.slice (some ⟨g, 0, none⟩) 8 8) := by
  subst hg
  refine ⟨_, _, rfl, Nat.le_refl _, hx, (fun h => by cases h), fun q hq => ?_⟩
  cases hq
  refine ⟨_, 0, rfl, by simp, fun j x hj => ?_⟩
  rw [Nat.zero_add]
  exact cell_new w [.int .u8 a, .int .u8 b, .int .u8 c, .int .u8 d, .int .u8 e, .int .u8 f, .int .u8 h, .int .u8 i] 5 j _ (by
    match j with
    | 0 => cases hj; rfl
    | 1 => cases hj; rfl
    | 2 => cases hj; rfl
    | 3 => cases hj; rfl
    | 4 => cases hj; rfl
    | 5 => cases hj; rfl
    | 6 => cases hj; rfl
    | 7 => cases hj; rfl
    | j + 8 => simp at hj)
theorem ByP.some {i : Cx} {w w1 : World} {a b c d e f h k : Int} (he : bytesM i = (0, [a, b, c, d, e, f, h, k])) (hx : ∀ x ∈ [a, b, c, d, e, f, h, k], 0 ≤ x ∧ x < 256) (hb : Below w.heap.size w w1) (g : Nat) (hg : w1.heap.size = g) :
    ByP i w (.returned (.tuple #[.slice (some ⟨g, 0, none⟩) 8 8, .int .i64 0])) (w1.alloc (.cells #[.int .u8 a, .int .u8 b, .int .u8 c, .int .u8 d, .int .u8 e, .int .u8 f, .int .u8 h, .int .u8 k] 5)) :=
  ⟨_, by rw [he], by rw [he]; exact bys_new w1 g hg a b c d e f h k hx, hb.alloc hb.size _⟩
theorem below_dr {B : Nat} {a w : World} (h : Below B a w) (n : Nat) : Below B a (w.drewN n) := ⟨h.os, h.tape, h.output, h.size, h.block⟩
/-- What comes of it where all are bytes. -/
theorem bytes_good {i : Cx} (h1 : (five i).any nb = false) (h2 : isOp i.op = true) (h3 : isW i.imm = true) (h4 : noneN i = 0) :
    bytesM i = (0, [i.op % 256, i.d % 256, i.a % 256, i.b % 256, lastN i / 16777216 % 256, lastN i / 65536 % 256, lastN i / 256 % 256, lastN i % 256]) := by
  have hf : ∀ x ∈ five i, 0 ≤ x ∧ x ≤ 255 := fun x hx => nb_false.1 (by
    have := List.any_eq_false.1 h1 x hx
    simpa using this)
  have f0 := hf i.op (by simp [five])
  have f1 := hf i.d (by simp [five])
  have f2 := hf i.a (by simp [five])
  have f3 := hf i.b (by simp [five])
  have f4 := hf i.c (by simp [five])
  have hw : 0 ≤ i.imm ∧ i.imm ≤ 4294967295 := by
    unfold isW at h3
    rw [Bool.and_eq_true, decide_eq_true_eq, decide_eq_true_eq] at h3
    exact h3
  have hl : 0 ≤ lastN i ∧ lastN i ≤ 4294967295 := by
    unfold lastN; split <;> omega
  unfold bytesM
  rw [if_neg (by rw [h1]; simp), if_neg (by rw [h2]; simp), if_neg (by rw [h3]; simp), if_neg (by rw [h4]; simp)]
  rw [show i.op % 256 = i.op by omega, show i.d % 256 = i.d by omega, show i.a % 256 = i.a by omega, show i.b % 256 = i.b by omega, show lastN i / 16777216 % 256 = lastN i / 16777216 by omega]
theorem bytes_form {i : Cx} (h1 : (five i).any nb = false) (h2 : isOp i.op = true) (h3 : isW i.imm = true) (h4 : ¬ noneN i = 0) : bytesM i = (2, []) := by
  unfold bytesM
  rw [if_neg (by rw [h1]; simp), if_neg (by rw [h2]; simp), if_neg (by rw [h3]; simp), if_pos h4]
theorem eight_mod (op a b c d e f g : Int) : ∀ x ∈ [op % 256, a % 256, b % 256, c % 256, d % 256, e % 256, f % 256, g % 256], 0 ≤ x ∧ x < 256 := by
  intro x hx
  simp only [List.mem_cons, List.not_mem_nil, or_false] at hx
  rcases hx with rfl | rfl | rfl | rfl | rfl | rfl | rfl | rfl <;> omega
set_option maxHeartbeats 4000000 in
theorem bytes_any (i : Cx) (w : World) : Calls Try.prog 4 #[.agg (cxA i)] w fun r w' => ByP i w r w' := by
  obtain ⟨op, d, a, b, c, imm⟩ := i
  have HB := fun (o1 o2 : Obj) => ((Below.refl w.heap.size w).alloc (Nat.le_refl _) o1).alloc (by simp) o2
  obtain ⟨q1, h1⟩ : ∃ q, (five ⟨op, d, a, b, c, imm⟩).any nb = q := ⟨_, rfl⟩
  obtain ⟨q2, h2⟩ : ∃ q, isOp op = q := ⟨_, rfl⟩
  obtain ⟨q3, h3⟩ : ∃ q, isW imm = q := ⟨_, rfl⟩
  have HC := fun (g : Nat) (c' : Nat) (w' : World) (h : RowN w' g [op, d, a, b, c]) => keep (contains_nb g [op, d, a, b, c] c' w' (by simp) h)
  have HO := fun (w' : World) => keep (isop_any op w')
  have HW := fun (w' : World) => keep (isw_any imm w')
  rw [show [op, d, a, b, c] = five ⟨op, d, a, b, c, imm⟩ from rfl, h1] at HC
  rw [h2] at HO
  rw [h3] at HW
  unfold cxA
  dsimp only
  have K1 := keep h1
  have K2 := keep h2
  have K3 := keep h3
  clear h1 h2 h3
  go_enter Try.func4, Try.ntmps4
  go_wp2_with fail
  refine (HC _ _ _ ?_).out.mono ?_
  · exact row5 _ _ (by simp) op d a b c
  rintro r w1 ⟨rfl, rfl⟩
  cases q1 with
  | true =>
    go_wp2
    go_ret2
    exact ByP.empty (by unfold bytesM; rw [if_pos K1.out]) (HB _ _)
  | false =>
    go_wp2_with fail
    refine (HO _).out.mono ?_
    rintro r w1 ⟨rfl, rfl⟩
    cases q2 with
    | false =>
      go_wp2
      go_ret2
      exact ByP.empty (by unfold bytesM; rw [if_neg (by rw [K1.out]; simp), if_pos K2.out]) (HB _ _)
    | true =>
      go_wp2_with fail
      refine (HW _).out.mono ?_
      rintro r w1 ⟨rfl, rfl⟩
      cases q3 with
      | false =>
        go_wp2
        go_ret2
        exact ByP.empty (by unfold bytesM; rw [if_neg (by rw [K1.out]; simp), if_neg (by rw [K2.out]; simp), if_pos K3.out]) (HB _ _)
      | true =>
        have HG := keep (fun h4 => bytes_good (i := ⟨op, d, a, b, c, imm⟩) K1.out K2.out K3.out h4)
        have HF := keep (fun h4 => bytes_form (i := ⟨op, d, a, b, c, imm⟩) K1.out K2.out K3.out h4)
        clear HC HO HW K1 K2 K3
        by_cases hz : op = 13
        · subst hz
          by_cases hn : imm = 0
          · have hn2 : (imm != 0) = false := by simpa using hn
            have hG := HG.out hn
            clear HG HF hn
            go_wp2
            go_quiet (fail)
            go_wp2
            go_quiet (fail)
            go_wp2
            go_ret2
            exact ByP.some hG (eight_mod _ _ _ _ _ _ _ _) (below_dr (HB _ _) _) _ (by simp)
          · have hn2 : (imm != 0) = true := by simpa using hn
            have hF := HF.out hn
            clear HG HF hn
            go_wp2
            go_quiet (fail)
            go_wp2
            go_quiet (fail)
            go_wp2
            go_ret2
            exact ByP.empty hF (below_dr (HB _ _) _)
        · have hz2 : (op == 13) = false := by simpa using hz
          by_cases hn : c = 0
          · have hn2 : (c != 0) = false := by simpa using hn
            have hG := HG.out (by unfold noneN; rw [if_neg hz]; exact hn)
            rw [show lastN ⟨op, d, a, b, c, imm⟩ = imm from if_neg hz] at hG
            clear HG HF hn
            go_wp2
            go_quiet (fail)
            go_wp2
            go_ret2
            exact ByP.some hG (eight_mod _ _ _ _ _ _ _ _) (below_dr (HB _ _) _) _ (by simp)
          · have hn2 : (c != 0) = true := by simpa using hn
            have hF := HF.out (by unfold noneN; rw [if_neg hz]; exact hn)
            clear HG HF hn
            go_wp2
            go_quiet (fail)
            go_wp2
            go_ret2
            exact ByP.empty hF (below_dr (HB _ _) _)
end Go.Proofs.Ytnnfefohpofipaa.Cd
