/- How things stand while a statement is read: its own variables. Written by tools/gen_stmt.py. -/
import Derived.Test.YtkobiojndamofaaDoorLwBlk
namespace Go.Proofs.YtkobiojndamofaaDoor.Lr
set_option linter.unusedVariables false
open Go.ChangeShapes Go.WideShapes Go.ChangeAt Go.RowKit Lg

theorem idx_sts (W : List UInt8) : Lib.idxOfS ((bys sts).take 6) ⟨W.toArray⟩ = kindOf W - 1 := by
  by_cases h : W ∈ sts
  · simp only [sts, List.mem_cons, List.not_mem_nil, or_false] at h
    rcases h with rfl | rfl | rfl | rfl | rfl | rfl <;> rfl
  · have h1 := idx_miss sts W h
    rw [show sts.length = 6 from rfl] at h1
    rw [h1]
    have n : ∀ x ∈ sts, ¬ W = x := fun x hx e => h (e ▸ hx)
    unfold kindOf
    rw [if_neg (n _ (by decide)), if_neg (n _ (by decide)), if_neg (n _ (by decide)), if_neg (n _ (by decide)), if_neg (n _ (by decide)), if_neg (n _ (by decide))]
    rfl
theorem kindOf_bound (W : List UInt8) : 0 ≤ kindOf W ∧ kindOf W ≤ 6 := by
  unfold kindOf
  repeat' split
  all_goals omega
/-- The blocks behind a statement's own variables. -/
def Yb (w W : World) : Nat → Prop := fun i => w.heap.size + 4 ≤ i ∧ i < W.heap.size
structure SS (w W : World) (b c : Nat) (a : Int) (m : Nat) (p : St × Value × Value × Value) : Prop where
  fs : Fs [b, c] w W
  R : Bk W w.heap.size [.pointer (some ⟨b, 0, none⟩)] 40
  A : Bk W (w.heap.size + 1) [.int .i64 a] 3
  D : Bk W (w.heap.size + 1 + 1) [.int .i64 0, .int .i64 0, .string ⟨#[]⟩, .bool false, .slice none 0 0, .slice none 0 0, .slice none 0 0] 36
  E : Bk W (w.heap.size + 1 + 1 + 1) (cellsS p) 36
  nest : nestS m W (Yb w W) p
theorem SS.step {w W W' : World} {b c : Nat} {a : Int} {m : Nat} {p : St × Value × Value × Value} (h : SS w W b c a m p) (hb : b < w.heap.size) (hc : c < w.heap.size) (k : Fs [b, c] W W') : SS w W' b c a m p :=
  ⟨h.fs.trans k, h.R.fs k (by simp; omega), h.A.fs k (by simp; omega), h.D.fs k (by simp; omega), h.E.fs k (by simp; omega),
    (nestS_nest m).mono _ _ _ _ ((nestS_nest m).keep _ W' _ _ h.nest (fun i hi => k.block i hi.2 (by have := hi.1; simp; omega))) (fun i hi => ⟨hi.1, Nat.lt_of_lt_of_le hi.2 k.size⟩)⟩
theorem SS.set {w W : World} {b c : Nat} {a : Int} {m : Nat} {p : St × Value × Value × Value} (h : SS w W b c a m p) (i : Nat) (v : Value) (p' : St × Value × Value × Value) (hc : cellsS p' = (cellsS p).set i v) (hn : nestS m W (Yb w W) p') : SS w (W.setCell ⟨w.heap.size + 1 + 1 + 1, i, none⟩ v) b c a m p' :=
  ⟨⟨h.fs.os, h.fs.tape, h.fs.output, by simp [World.setCell]; exact h.fs.size, fun k hk hl => by
      rw [Below.heap_setCell _ _ _ _ (by show k ≠ w.heap.size + 1 + 1 + 1; omega)]; exact h.fs.block k hk hl⟩, h.R.far _ _ (by omega), h.A.far _ _ (by omega), h.D.far _ _ (by omega), by rw [hc]; exact h.E.set i v,
    (nestS_nest m).mono _ _ _ _ ((nestS_nest m).keep _ _ _ _ hn (fun k hk => Below.heap_setCell _ _ _ _ (by have := hk.1; show k ≠ w.heap.size + 1 + 1 + 1; omega))) (fun k hk => ⟨hk.1, by simp [World.setCell]; exact hk.2⟩)⟩
def stmtW (w : World) (b : Nat) (a : Int) : World := (((w.alloc (.cells #[.pointer (some ⟨b, 0, none⟩)] 40)).alloc (.cells #[.int .i64 a] 3)).alloc (.cells #[.int .i64 0, .int .i64 0, .string ⟨#[]⟩, .bool false, .slice none 0 0, .slice none 0 0, .slice none 0 0] 36)).alloc (.cells #[.int .i64 0, .int .i64 0, .string ⟨#[]⟩, .bool false, .slice none 0 0, .slice none 0 0, .slice none 0 0] 36)
theorem stmtW_ss (w : World) (b c m : Nat) (a : Int) : SS w (stmtW w b a) b c a (m + 1) (⟨0, 0, [], false, [], [], []⟩, .slice none 0 0, .slice none 0 0, .slice none 0 0) := by
  unfold stmtW
  have e1 : ∀ (v : World) (o : Obj), (v.alloc o).heap.size = v.heap.size + 1 := fun v o => by simp
  refine ⟨((((Fs.refl _ w).up _).up _).up _).up _, (((Bk.new w [.pointer (some ⟨b, 0, none⟩)] 40).up _).up _).up _, ?_, ?_, ?_, ⟨.inl ⟨rfl, rfl⟩, StX.none _, StX.none _⟩⟩
  · have h := ((Bk.new (w.alloc (.cells #[.pointer (some ⟨b, 0, none⟩)] 40)) [.int .i64 a] 3).up (.cells #[.int .i64 0, .int .i64 0, .string ⟨#[]⟩, .bool false, .slice none 0 0, .slice none 0 0, .slice none 0 0] 36)).up (.cells #[.int .i64 0, .int .i64 0, .string ⟨#[]⟩, .bool false, .slice none 0 0, .slice none 0 0, .slice none 0 0] 36)
    rw [e1] at h; exact h
  · have h := (Bk.new ((w.alloc (.cells #[.pointer (some ⟨b, 0, none⟩)] 40)).alloc (.cells #[.int .i64 a] 3)) [.int .i64 0, .int .i64 0, .string ⟨#[]⟩, .bool false, .slice none 0 0, .slice none 0 0, .slice none 0 0] 36).up (.cells #[.int .i64 0, .int .i64 0, .string ⟨#[]⟩, .bool false, .slice none 0 0, .slice none 0 0, .slice none 0 0] 36)
    rw [e1, e1] at h; exact h
  · have h := Bk.new (((w.alloc (.cells #[.pointer (some ⟨b, 0, none⟩)] 40)).alloc (.cells #[.int .i64 a] 3)).alloc (.cells #[.int .i64 0, .int .i64 0, .string ⟨#[]⟩, .bool false, .slice none 0 0, .slice none 0 0, .slice none 0 0] 36)) [.int .i64 0, .int .i64 0, .string ⟨#[]⟩, .bool false, .slice none 0 0, .slice none 0 0, .slice none 0 0] 36
    rw [e1, e1, e1] at h; exact h
set_option maxHeartbeats 1000000 in
set_option maxRecDepth 100000 in
/-- Expressions are read into a statement. -/
theorem stmt1_rd (m : Nat) (hm : m ≤ 8) (ih : ExprOK m) (b c n : Nat) (hn : n ≤ 3) (mm : Nat) (k0 n0 : Int) (nm : List UInt8) (sc : Bool) (w W : World) (hbl : b < w.heap.size) (hcl : c < w.heap.size) (s : ByteArray) (e : Int) (hs : s.size < 4294967281) (h : RB W b c s e) (ht : Tabs W) (hg : GL b ∧ GL c)
    (hS : SS w W b c (8 - (m : Int)) mm (⟨k0, n0, nm, sc, [], [], []⟩, .slice none 0 0, .slice none 0 0, .slice none 0 0)) :
    Calls Tryd.prog 78 #[.int .i64 (n : Int), .pointer (some ⟨w.heap.size, 0, none⟩), .pointer (some ⟨w.heap.size + 1, 0, none⟩), .pointer (some ⟨w.heap.size + 1 + 1 + 1, 0, none⟩)] W fun r w' => r = .returned (.tuple #[]) ∧ ∃ (us : List Ex) (sl : Value),
      SS w w' b c (8 - (m : Int)) mm (⟨k0, n0, nm, sc, us, [], []⟩, sl, .slice none 0 0, .slice none 0 0) ∧ Rd w' b c s.size e (manyT (exprT m) n (words s.data.toList)) (fun a => a = us) := by
  have HC := keep (exprs_rd m ih b c n hn s e W hs h ht hg)
  have r0 := hS.R.cell 0 rfl
  have a0 := hS.A.cell 0 rfl
  have HS := keep hS
  have hEl := hS.E.lt
  have hw8 := wrap_up m (by omega)
  generalize 9 - (m : Int) = a9 at *
  generalize 8 - (m : Int) = a8 at *
  clear h ht hg hS
  go_enter Tryd.func78, Tryd.ntmps78
  go_wp2_with fail
  refine HC.out.mono ?_
  rintro r w1 ⟨us, sl, rfl, hex, hrd, hf⟩
  obtain ⟨p, q, cap, rfl⟩ := hex.slice
  have HS1 := keep (HS.out.step hbl hcl hf)
  have HS2 := keep (HS1.out.set 4 (.slice p q cap) (⟨k0, n0, nm, sc, us, [], []⟩, .slice p q cap, .slice none 0 0, .slice none 0 0) rfl ⟨ExX.deep (ExX.args (ExX.mono (fun i hi => ⟨by have := hi.1; omega, hi.2⟩) hex) rfl) (by omega), HS1.out.nest.2.1, HS1.out.nest.2.2⟩)
  have HRd := keep hrd
  have hc4 := HS1.out.E.cell 4 rfl
  have hf4 := HS1.out.E.fr 4
  clear hf hex hrd HC HS r0 a0
  go_wp2
  go_end0
  obtain ⟨s1, e1, hp, hn1, h1, h2⟩ := HRd.out
  exact ⟨rfl, us, _, HS2.out, ⟨s1, e1, hp.set (by omega) (by omega) 4 _, hn1, h1, h2⟩⟩
end Go.Proofs.YtkobiojndamofaaDoor.Lr
