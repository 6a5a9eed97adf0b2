/- A table is the same as itself, by the language's own comparing; a table read whole, where it is asked for. -/
import Derived.Test.YtkfingahinbdpaaDoorTbText
import Derived.ChangeKeysEq
import Derived.Laws.StructEq
namespace Go.Proofs.YtkfingahinbdpaaDoor.Tb
set_option linter.unusedVariables false
open Go.ChangeShapes Go.WideShapes Go.ChangeAt Go.RowKit

theorem items_self (t : Nat → Int) (d : Nat) (w : World) : ∀ is : List Nat, (∀ i ∈ is, i < 18) → (Op.eqItems (d + 1) 3 (Tryd.prog.cellsOf 3) (tabA t) (tabA t) is).run Tryd.prog w = .ok true w
  | [], _ => by simp [Op.eqItems]
  | i :: is, h => by
    have hi : i < 18 := h i (by simp)
    have hc : Tryd.prog.cellsOf 3 = 1 := by kernel_rfl
    have hp : (part 3 (tabA t) (i * 1)).run Tryd.prog w = .ok (.int .i64 (t i)) w := run_part_plain w (by kernel_rfl) (by rw [Nat.mul_one]; exact tabA_at t i hi)
    have ih := items_self t d w is (fun j hj => h j (by simp [hj]))
    rw [hc] at ih ⊢
    simp only [Op.eqItems, Sem.run_bind, hp, Result.andThen_ok, run_equalIn_int w d 3 .i64 .i64 (t i) (t i) Tryd.underlying3]
    simpa using ih
theorem tabA_whole (t : Nat → Int) : (tabA t).extract 0 (0 + 18) = tabA t := by
  have h : (tabA t).size = 18 := rfl
  rw [Nat.zero_add, ← h]
  exact Array.extract_size
theorem part_whole (t : Nat → Int) (w : World) : (part 22 (tabA t) 0).run Tryd.prog w = .ok (.agg (tabA t)) w := by
  have hs : (sizeOf 22).run Tryd.prog w = .ok 18 w := Tryd.sizeOf22 w
  have ha : (isAgg 22).run Tryd.prog w = .ok true w := Tryd.isAgg22 w
  simp only [part, Sem.run_bind, ha, hs, Result.andThen_ok, if_true, Sem.run_pure]
  rw [tabA_whole]
theorem tab_fields : (Tryd.prog.fieldsOf 24).toList = [{ name := "Seen", type := 22, offset := 0, embedded := false, tag := "", pkgPath := "", byteOffset := 0 }] := by kernel_rfl
theorem tab_under : Tryd.prog.underlying 24 = some (.struct (Tryd.prog.fieldsOf 24)) := by kernel_rfl
theorem tab_held : Tryd.prog.stoodInHeld 24 = false := by kernel_rfl
theorem int_info : ∃ i, Tryd.prog.info? 3 = some i := Option.isSome_iff_exists.1 (by kernel_rfl)
theorem equal_arr (t : Nat → Int) (d : Nat) (w : World) : (Op.equalIn (d + 2) 22 (.agg (tabA t)) (.agg (tabA t))).run Tryd.prog w = .ok true w := by
  obtain ⟨i, hi⟩ := int_info
  rw [run_equalIn_array w (d + 1) (tabA t) (tabA t) Tryd.underlying22 hi]
  exact items_self t d w (List.range 18) (fun i h => by simpa using h)
theorem fields_self (t : Nat → Int) (d : Nat) (w : World) : (Op.eqFields (d + 2) (tabA t) (tabA t) [{ name := "Seen", type := 22, offset := 0, embedded := false, tag := "", pkgPath := "", byteOffset := 0 }]).run Tryd.prog w = .ok true w := by
  have h0 : Op.eqFields (d + 2) (tabA t) (tabA t) [] = pure true := rfl
  rw [Op.eqFields, if_pos (by decide)]
  simp only [Sem.run_bind, part_whole, Result.andThen_ok, equal_arr, h0]
  simp
theorem equal_self (t : Nat → Int) (d : Nat) (w : World) : (Op.equalIn (d + 3) 24 (.agg (tabA t)) (.agg (tabA t))).run Tryd.prog w = .ok true w := by
  have h := run_equalIn_struct w (d + 2) 24 (tabA t) (tabA t) tab_under tab_held
  rw [tab_fields, fields_self] at h
  exact h
theorem eql_self (t : Nat → Int) (w : World) : (binOp .eql 24 (.agg (tabA t)) (.agg (tabA t))).run Tryd.prog w = .ok (.bool true) w := by
  rw [run_eql_struct, equal_self t 9997 w]; rfl
theorem neq_self (t : Nat → Int) (w : World) : (binOp .neq 24 (.agg (tabA t)) (.agg (tabA t))).run Tryd.prog w = .ok (.bool false) w := by
  rw [run_neq_struct, equal_self t 9997 w]; rfl

/-- A table read whole out of its block, where a guard asks for it. -/
theorem load_want {ops : Array Oper} {rest : List Oper} {o : Oper} {a : Act} {w : World} {Q : Exit → Act → World → Prop} (hw : Region.wanted o (yielded ops a.tmps) = true) (x : Operand) (ho : o.op = .load 24 x)
    (g : Nat) (hx : a.eval x = .pointer (some ⟨g, 0, none⟩)) (t : Nat → Int) (hg : Blk w g t) (h : wpList Tryd.prog ops Q rest (a.put o.dst (.agg (tabA t))) w) : wpList Tryd.prog ops Q (o :: rest) a w :=
  BigFrame.wpList_want hw fun _ hK => wp_load_row 24 x ho g hx 24 (tabA t) (0, 0) _ hg Tryd.underlying24 rfl (tab_info t) (hK _ _ h)
/-- .. where no guard stands ahead. -/
theorem load_tab {ops : Array Oper} {rest : List Oper} {o : Oper} {a : Act} {w : World} {Q : Exit → Act → World → Prop} (hgd : o.guard = none) (x : Operand) (ho : o.op = .load 24 x)
    (g : Nat) (hx : a.eval x = .pointer (some ⟨g, 0, none⟩)) (t : Nat → Int) (hg : Blk w g t) (h : wpList Tryd.prog ops Q rest (a.put o.dst (.agg (tabA t))) w) : wpList Tryd.prog ops Q (o :: rest) a w :=
  wpList_load_row hgd 24 x ho g hx 24 (tabA t) (0, 0) _ hg Tryd.underlying24 rfl (tab_info t) h
/-- A table stored whole. -/
theorem store_tab {ops : Array Oper} {rest : List Oper} {o : Oper} {a : Act} {w : World} {Q : Exit → Act → World → Prop} (hgd : o.guard = none) (x y : Operand) (ho : o.op = .store 24 x y)
    (g : Nat) (t u : Nat → Int) (hx : a.eval x = .pointer (some ⟨g, 0, none⟩)) (hy : a.eval y = .agg (tabA t)) (hg : Blk w g u) (h : wpList Tryd.prog ops Q rest (a.put o.dst undef) (w.setRow g (tabA t))) : wpList Tryd.prog ops Q (o :: rest) a w :=
  wpList_store_row hgd 24 x y ho g (tabA t) hx hy 24 (tabA u) hg (tab_info t) rfl (tab_one t) h
end Go.Proofs.YtkfingahinbdpaaDoor.Tb
