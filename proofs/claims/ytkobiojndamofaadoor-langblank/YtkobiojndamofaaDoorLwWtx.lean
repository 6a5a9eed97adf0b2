/- The program's own Expr and Stmt. Written by tools/gen_wtx.py. -/
import Derived.Test.YtkobiojndamofaaDoorLwWq
namespace Go.Proofs.YtkobiojndamofaaDoor.Lr
set_option linter.unusedVariables false
set_option linter.unusedSimpArgs false
open Go.ChangeShapes Go.WideShapes Go.ChangeAt Go.RowKit Lg

set_option maxHeartbeats 8000000 in
set_option maxRecDepth 100000 in
theorem exprText_any (B : Nat) (hg : GL B) (m n : Nat) (hmn : m ≤ n) (e : Ex) (sl : Value) (w : World) (hB : B ≤ w.heap.size) (ht : Tabs w) (hx : ExIs w B n e sl) (hw : wfE m e) (hne : ¬ addsW [] (toksE m e) = []) (hl : (addsW [] (toksE m e)).length ≤ 1000000) :
    Calls Tryd.prog 10 #[.agg (exA e sl)] w fun r w' => r = .returned (.string ⟨(addsW [] (toksE m e)).toArray⟩) ∧ Below w.heap.size w w' := by
  obtain ⟨n', rfl⟩ : ∃ n', n = n' + 1 := ⟨n - 1, by cases n with | zero => exact hx.elim | succ k => omega⟩
  obtain ⟨p, na, cap, rfl, _⟩ := hx.parts
  obtain ⟨w1, hw1⟩ : ∃ w1, w.alloc (.cells #[.int .i64 e.kind, .int .i64 e.n, .string ⟨e.name.toArray⟩, .slice p na cap] 39) = w1 := ⟨_, rfl⟩
  obtain ⟨w2, hw2⟩ : ∃ w2, w1.alloc (.cells #[.slice none 0 0] 48) = w2 := ⟨_, rfl⟩
  have hs1 : w1.heap.size = w.heap.size + 1 := by rw [← hw1]; simp
  have hs2 : w2.heap.size = w.heap.size + 1 + 1 := by rw [← hw2]; simp; omega
  have hb2 : Below w.heap.size w w2 := by rw [← hw2, ← hw1]; exact ((Below.refl w.heap.size w).alloc (Nat.le_refl _) _).alloc (by simp) _
  have hF : Bk w2 w.heap.size [.int .i64 e.kind, .int .i64 e.n, .string ⟨e.name.toArray⟩, .slice p na cap] 39 := by
    rw [← hw2, ← hw1]; exact (Bk.new w _ _).up _
  have hWr : Bk w2 (w.heap.size + 1) [.slice none 0 0] 48 := by
    rw [← hs1, ← hw2]; exact Bk.new w1 _ _
  have hO : WO w2 (w.heap.size + 1) (w.heap.size + 1 + 1) [] := ⟨.slice none 0 0, hWr, ⟨rfl, .inl ⟨rfl, rfl⟩⟩, by omega, by omega⟩
  have hbB := hb2.mono hB
  have HC := keep (expr_wr B (w.heap.size + 1) (w.heap.size + 1 + 1) (by omega) hg m _ e _ [] w2 hmn (hx.below hbB) hw hO (ht.up hb2) hl)
  have HNe := keep hne
  have HB2 := keep hb2
  have a0 := hF.cell 0 rfl
  have a1 := hF.cell 1 rfl
  have a2 := hF.cell 2 rfl
  have a3 := hF.cell 3 rfl
  generalize addsW [] (toksE m e) = T at *
  clear hx hw ht hl hne hg hbB hO hWr hF hb2
  unfold exA at HC ⊢
  go_enter Tryd.func10, Tryd.ntmps10
  go_wp2_with fail
  refine HC.out.mono ?_
  rintro r w3 ⟨rfl, ⟨v, h3⟩, hf⟩
  obtain ⟨g, cap, rfl, hconv⟩ := h3.text HNe.out
  have z0 := h3.bk.cell 0 rfl
  have HF : Hid (Below w.heap.size w w3) := HB2.out.trans (hf.below (B := w.heap.size) (by omega) (by omega) (by omega))
  clear hf h3 HC a0 a1 a2 a3
  go_wp2
  go_ret
  exact ⟨rfl, HF.out⟩

set_option maxHeartbeats 8000000 in
set_option maxRecDepth 100000 in
theorem stmtText_any (B : Nat) (hg : GL B) (k m n : Nat) (hmk : m ≤ k + 1) (hmn : m ≤ n) (t : St) (s1 s2 s3 : Value) (w : World) (hB : B ≤ w.heap.size) (ht : Tabs w) (hx1 : ExIs w B (k + 1) (ar t.args) s1) (hx2 : StIs w B k n t.thn s2) (hx3 : StIs w B k n t.els s3) (hw : wfS m t) (hne : ¬ addsW [] (toksS m t) = []) (hl : (addsW [] (toksS m t)).length ≤ 1000000) :
    Calls Tryd.prog 9 #[.agg (stA t s1 s2 s3)] w fun r w' => r = .returned (.string ⟨(addsW [] (toksS m t)).toArray⟩) ∧ Below w.heap.size w w' := by
  obtain ⟨p1, n1, c1, rfl, _⟩ := hx1.parts
  obtain ⟨p2, n2, c2, rfl⟩ := hx2.slice
  obtain ⟨p3, n3, c3, rfl⟩ := hx3.slice
  obtain ⟨w1, hw1⟩ : ∃ w1, w.alloc (.cells #[.int .i64 t.kind, .int .i64 t.n, .string ⟨t.name.toArray⟩, .bool t.secret, .slice p1 n1 c1, .slice p2 n2 c2, .slice p3 n3 c3] 36) = w1 := ⟨_, rfl⟩
  obtain ⟨w2, hw2⟩ : ∃ w2, w1.alloc (.cells #[.slice none 0 0] 48) = w2 := ⟨_, rfl⟩
  have hs1 : w1.heap.size = w.heap.size + 1 := by rw [← hw1]; simp
  have hs2 : w2.heap.size = w.heap.size + 1 + 1 := by rw [← hw2]; simp; omega
  have hb2 : Below w.heap.size w w2 := by rw [← hw2, ← hw1]; exact ((Below.refl w.heap.size w).alloc (Nat.le_refl _) _).alloc (by simp) _
  have hF : Bk w2 w.heap.size [.int .i64 t.kind, .int .i64 t.n, .string ⟨t.name.toArray⟩, .bool t.secret, .slice p1 n1 c1, .slice p2 n2 c2, .slice p3 n3 c3] 36 := by
    rw [← hw2, ← hw1]; exact (Bk.new w _ _).up _
  have hWr : Bk w2 (w.heap.size + 1) [.slice none 0 0] 48 := by
    rw [← hs1, ← hw2]; exact Bk.new w1 _ _
  have hO : WO w2 (w.heap.size + 1) (w.heap.size + 1 + 1) [] := ⟨.slice none 0 0, hWr, ⟨rfl, .inl ⟨rfl, rfl⟩⟩, by omega, by omega⟩
  have hbB := hb2.mono hB
  have HC := keep (stmt_wr B (w.heap.size + 1) (w.heap.size + 1 + 1) k (by omega) hg m hmk n t _ _ _ [] w2 hmn (hx1.below hbB) (hx2.below hbB) (hx3.below hbB) hw hO (ht.up hb2) hl)
  have HNe := keep hne
  have HB2 := keep hb2
  have a0 := hF.cell 0 rfl
  have a1 := hF.cell 1 rfl
  have a2 := hF.cell 2 rfl
  have a3 := hF.cell 3 rfl
  have a4 := hF.cell 4 rfl
  have a5 := hF.cell 5 rfl
  have a6 := hF.cell 6 rfl
  generalize addsW [] (toksS m t) = T at *
  clear hx1 hx2 hx3 hw ht hl hne hg hbB hO hWr hF hb2
  unfold stA at HC ⊢
  go_enter Tryd.func9, Tryd.ntmps9
  go_wp2_with fail
  refine HC.out.mono ?_
  rintro r w3 ⟨rfl, ⟨v, h3⟩, hf⟩
  obtain ⟨g, cap, rfl, hconv⟩ := h3.text HNe.out
  have z0 := h3.bk.cell 0 rfl
  have HF : Hid (Below w.heap.size w w3) := HB2.out.trans (hf.below (B := w.heap.size) (by omega) (by omega) (by omega))
  clear hf h3 HC a0 a1 a2 a3 a4 a5 a6
  go_wp2
  go_ret
  exact ⟨rfl, HF.out⟩

end Go.Proofs.YtkobiojndamofaaDoor.Lr
