/- The program's own writer: what is written lies in its block; a word more; numbers, labels, brackets. -/
import Derived.Test.YtkobiojndamofaaDoorLwParse
import Derived.Test.YtkobiojndamofaaDoorLgAll
import Derived.Lib.AppendStr
namespace Go.Proofs.YtkobiojndamofaaDoor.Lr
set_option linter.unusedVariables false
open Go.ChangeShapes Go.WideShapes Go.ChangeAt Go.RowKit Lg

/-- Bytes as cells. -/
def byc (l : List UInt8) : List Value := l.map fun x => .int .u8 (x.toNat : Int)
/-- A writer at b: what is written so far, in rows from lo on. -/
structure WB (w : World) (b lo : Nat) (v : Value) (out : List UInt8) : Prop where
  bk : Bk w b [v] 48
  own : w.ownsRow lo 5 1 v out.length (byc out)
  lt : b < lo
  le : lo ≤ w.heap.size
/-- What a writer leaves as it was: the blocks below lo, and those above that hold no bytes. -/
structure Fw (b lo : Nat) (w w' : World) : Prop where
  os : w'.os = w.os
  tape : w'.tape = w.tape
  output : w'.output = w.output
  size : w.heap.size ≤ w'.heap.size
  low : ∀ k, k < lo → k < w.heap.size → k ≠ b → w'.heap[k]? = w.heap[k]?
  high : ∀ k, k < w.heap.size → k ≠ b → (∀ cur fz, ¬ w.heap[k]? = some (.cells cur 5 fz)) → w'.heap[k]? = w.heap[k]?
theorem Fw.refl (b lo : Nat) (w : World) : Fw b lo w w := ⟨rfl, rfl, rfl, Nat.le_refl _, fun _ _ _ _ => rfl, fun _ _ _ _ => rfl⟩
theorem Fw.trans {b lo : Nat} {u v w : World} (h : Fw b lo u v) (k : Fw b lo v w) : Fw b lo u w :=
  ⟨k.os.trans h.os, k.tape.trans h.tape, k.output.trans h.output, Nat.le_trans h.size k.size, fun i h1 h2 h3 => (k.low i h1 (Nat.lt_of_lt_of_le h2 h.size) h3).trans (h.low i h1 h2 h3), fun i h1 h2 h3 => by
    have e := h.high i h1 h2 h3
    exact (k.high i (Nat.lt_of_lt_of_le h1 h.size) h2 (fun cur fz hh => h3 cur fz (e.symm.trans hh))).trans e⟩
theorem Fw.of_below {b lo : Nat} {w w' : World} (h : Below w.heap.size w w') : Fw b lo w w' := ⟨h.os, h.tape, h.output, h.size, fun k _ h2 _ => h.block k h2, fun k h1 _ _ => h.block k h1⟩
theorem Fw.set {b lo : Nat} {w w' : World} (h : Fw b lo w w') (v : Value) : Fw b lo w (w'.setCell ⟨b, 0, none⟩ v) :=
  ⟨h.os, h.tape, h.output, by simp [World.setCell]; exact h.size, fun k h1 h2 h3 => by rw [Below.heap_setCell _ _ _ _ h3]; exact h.low k h1 h2 h3, fun k h1 h2 h3 => by rw [Below.heap_setCell _ _ _ _ h2]; exact h.high k h1 h2 h3⟩
/-- A row that grew. -/
theorem Fw.grown {b lo n : Nat} {w w' : World} {v : Value} {xs : List Value} (ho : w.ownsRow lo 5 1 v n xs) (h : w.grownBy w' v.ownBlock) : Fw b lo w w' := by
  refine ⟨h.os, h.tape, h.output, h.size, fun k h1 h2 _ => h.block k h2 (fun e => by have := (ho.lt k e.symm).1; omega), fun k h1 _ h3 => h.block k h1 (fun e => ?_)⟩
  rcases ho.2 with ⟨hv, _⟩ | ⟨g, cap, cur, hv, _, hg, _⟩
  · rw [hv] at e; cases e
  · rw [hv] at e
    have : k = g := by simpa [Value.ownBlock] using e
    subst this
    exact h3 cur (0, 0) hg
/-- A block that holds no bytes stays. -/
theorem Bk.fw {w w' : World} {b lo k : Nat} {l : List Value} {ty : TypeId} (h : Bk w k l ty) (hf : Fw b lo w w') (hk : k ≠ b) (ht : ¬ ty = 5) : Bk w' k l ty := by
  unfold Bk at h ⊢
  rw [hf.high k (Array.getElem?_eq_some_iff.1 h).1 hk (fun cur fz hh => by rw [h] at hh; simp at hh; exact ht hh.2.1)]; exact h
theorem WB.below {w w' : World} {b lo : Nat} {v : Value} {out : List UInt8} (h : WB w b lo v out) (k : Below w.heap.size w w') : WB w' b lo v out := by
  refine ⟨h.bk.fs (Fs.of_below (l := []) k) (by simp), ?_, h.lt, Nat.le_trans h.le k.size⟩
  obtain ⟨h1, h2⟩ := h.own
  refine ⟨h1, ?_⟩
  rcases h2 with h2 | ⟨g, cap, cur, a1, a2, a3, a4⟩
  · exact .inl h2
  · exact .inr ⟨g, cap, cur, a1, a2, by rw [k.block g (Array.getElem?_eq_some_iff.1 a3).1]; exact a3, a4⟩
theorem byc_len (l : List UInt8) : (byc l).length = l.length := by simp [byc]
theorem byc_app (l m : List UInt8) : byc (l ++ m) = byc l ++ byc m := by simp [byc]
/-- The row, and the slice that is stored. -/
theorem WB.store {w w' : World} {b lo : Nat} {v v' : Value} {out s : List UInt8} (h : WB w b lo v out) (hown : w'.ownsRow lo 5 1 v' (out ++ s).length (byc (out ++ s))) (hg : w.grownBy w' v.ownBlock) : WB (w'.setCell ⟨b, 0, none⟩ v') b lo v' (out ++ s) := by
  have hbk : Bk w' b [v] 48 := by
    have := h.bk
    unfold Bk at this ⊢
    rw [hg.block b (Array.getElem?_eq_some_iff.1 this).1 (fun e => by have := (h.own.lt b e.symm).1; have := h.lt; omega)]; exact this
  refine ⟨hbk.set 0 v', ?_, h.lt, by simp [World.setCell]; exact Nat.le_trans h.le hg.size⟩
  obtain ⟨h1, h2⟩ := hown
  refine ⟨h1, ?_⟩
  rcases h2 with h2 | ⟨g, cap, cur, a1, a2, a3, a4⟩
  · exact .inl h2
  · exact .inr ⟨g, cap, cur, a1, a2, by rw [Below.heap_setCell _ _ _ _ (by have := h.lt; show g ≠ b; omega)]; exact a3, a4⟩
theorem infoB : (Tryd.prog.info? 5).map (fun i => (i.zero, i.size, i.bytes)) = some (some (.int .u8 0), 1, 1) := by kernel_rfl
end Go.Proofs.YtkobiojndamofaaDoor.Lr
