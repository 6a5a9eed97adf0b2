/- Blocks that hold a table. -/
import Derived.Test.YtfbmkcogkiejnaaTbWrong
import Derived.Test.YtfbmkcogkiejnaaGr3
import Derived.Laws.Rows
import Derived.Laws.ResultCell
import Derived.Laws.CopyOwn
namespace Go.Proofs.Ytfbmkcogkiejnaa.Tb
set_option linter.unusedVariables false
open Go.ChangeShapes Go.WideShapes Go.ChangeAt Go.RowKit

/-- A block that holds a table. -/
def Blk (w : World) (b : Nat) (t : Nat → Int) : Prop := w.heap[b]? = some (.cells (tabA t) 29 (0, 0))
theorem Blk.lies {w : World} {b : Nat} {t : Nat → Int} (h : Blk w b t) : ∀ k : Nat, k < 18 → w.cell? ⟨b, k, none⟩ = some (.int .i64 (t k)) := fun k hk => by
  rw [Lib.cell_of_heap h]; exact tabA_at t k hk
theorem Blk.lt {w : World} {b : Nat} {t : Nat → Int} (h : Blk w b t) : b < w.heap.size := by
  rcases Nat.lt_or_ge b w.heap.size with h' | h'
  · exact h'
  · simp [Blk, Array.getElem?_eq_none h'] at h
theorem Blk.below {w w' : World} {b B : Nat} {t : Nat → Int} (h : Blk w b t) (hb : Below B w w') (hB : b < B) : Blk w' b t := by
  unfold Blk; rw [hb.block b hB]; exact h
theorem blk_alloc (w : World) (t : Nat → Int) : Blk (w.alloc (.cells (tabA t) 29)) w.heap.size t := (MapKept.heap_alloc w _).1
theorem Blk.alloc {w : World} {b : Nat} {t : Nat → Int} (h : Blk w b t) (o : Obj) : Blk (w.alloc o) b t := by
  unfold Blk; rw [(MapKept.heap_alloc w o).2 b h.lt]; exact h
theorem tab_info (t : Nat → Int) : (Try.prog.info? 29).map (·.size) = some (tabA t).size := by
  rw [show (tabA t).size = 18 from rfl]; kernel_rfl
/-- A table read whole out of its block, where a guard asks for it. -/
theorem load_want {ops : Array Oper} {rest : List Oper} {o : Oper} {a : Act} {w : World} {Q : Exit → Act → World → Prop} (hw : Region.wanted o (yielded ops a.tmps) = true) (x : Operand) (ho : o.op = .load 29 x)
    (g : Nat) (hx : a.eval x = .pointer (some ⟨g, 0, none⟩)) (t : Nat → Int) (hg : Blk w g t) (h : wpList Try.prog ops Q rest (a.put o.dst (.agg (tabA t))) w) : wpList Try.prog ops Q (o :: rest) a w :=
  BigFrame.wpList_want hw fun _ hK => wp_load_row 29 x ho g hx 29 (tabA t) (0, 0) _ hg Try.underlying29 rfl (tab_info t) (hK _ _ h)
/-- .. where no guard stands ahead. -/
theorem load_tab {ops : Array Oper} {rest : List Oper} {o : Oper} {a : Act} {w : World} {Q : Exit → Act → World → Prop} (hgd : o.guard = none) (x : Operand) (ho : o.op = .load 29 x)
    (g : Nat) (hx : a.eval x = .pointer (some ⟨g, 0, none⟩)) (t : Nat → Int) (hg : Blk w g t) (h : wpList Try.prog ops Q rest (a.put o.dst (.agg (tabA t))) w) : wpList Try.prog ops Q (o :: rest) a w :=
  wpList_load_row hgd 29 x ho g hx 29 (tabA t) (0, 0) _ hg Try.underlying29 rfl (tab_info t) h
end Go.Proofs.Ytfbmkcogkiejnaa.Tb
