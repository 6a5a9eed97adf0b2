/- The tables of the library that are read, and that they stay. The program's own Name. -/
import Derived.Test.YtkobiojndamofaaDoorLwLex
import Derived.Test.YtkobiojndamofaaDoorWdNum
import Derived.Lib.AppendIntMem
import Derived.WalkSmall
import Derived.WalkSpells
namespace Go.Proofs.YtkobiojndamofaaDoor.Lr
set_option linter.unusedVariables false
open Go.ChangeShapes Go.WideShapes Go.ChangeAt Go.RowKit Lg

/-- The library's tables, as they were laid. -/
def Tabs (w : World) : Prop := Lib.TabIs Tryd.prog w "internal/strconv.uint64pow10" .u64 Lib.pow10Tab ∧ Lib.TabIs Tryd.prog w "strings.asciiSpace" .u8 Lib.asciiSpaceTab
theorem gPow : Tryd.prog.globalNamed "internal/strconv.uint64pow10" = some 5 := by kernel_rfl
theorem gSpc : Tryd.prog.globalNamed "strings.asciiSpace" = some 0 := by kernel_rfl
/-- Block b lies behind the variables that the library reads. -/
def GL (b : Nat) : Prop := 5 < b ∧ 0 < b
theorem Tabs.below {w w' : World} {B : Nat} (h : Tabs w) (hg : GL B) (hb : Below B w w') : Tabs w' :=
  ⟨var?_below hb gPow hg.1 h.1, var?_below hb gSpc hg.2 h.2⟩
theorem Tabs.up {w w' : World} (h : Tabs w) (hb : Below w.heap.size w w') : Tabs w' := ⟨Lib.tabBelow_of_tabIs h.1 w' hb, Lib.tabBelow_of_tabIs h.2 w' hb⟩
theorem var_lt {w : World} {n : String} {cs : Array Value} {g : Nat} (hg : Tryd.prog.globalNamed n = some g) (hv : w.var? Tryd.prog n = some cs) : g < w.heap.size := by
  unfold World.var? at hv
  simp only [hg, Option.bind_some] at hv
  by_cases h : g < w.heap.size
  · exact h
  · rw [Array.getElem?_eq_none (by omega)] at hv
    simp at hv
theorem Tabs.gl {w : World} (h : Tabs w) : GL w.heap.size := ⟨var_lt gPow h.1, var_lt gSpc h.2⟩

/-- The words that are no names, the signs, the statements: as texts, and as lists. -/
def keptB : ByteArray := ⟨#[102, 110, 32, 112, 117, 98, 32, 115, 101, 99, 32, 108, 101, 116, 32, 115, 101, 116, 32, 112, 117, 116, 32, 105, 102, 32, 102, 111, 114, 32, 114, 101, 116, 32, 115, 101, 108, 32, 97, 116]⟩
def signsB : ByteArray := ⟨#[43, 32, 45, 32, 38, 32, 124, 32, 94, 32, 60, 60, 32, 62, 62, 32, 42, 32, 47, 32, 37, 32, 60, 32, 61]⟩
def stsB : ByteArray := ⟨#[108, 101, 116, 32, 115, 101, 116, 32, 112, 117, 116, 32, 105, 102, 32, 102, 111, 114, 32, 114, 101, 116]⟩
def sts : List (List UInt8) := [[108, 101, 116], [115, 101, 116], [112, 117, 116], [105, 102], [102, 111, 114], [114, 101, 116]]
def listA (l : List (List UInt8)) : Array Value := (l.map fun l => Value.string ⟨l.toArray⟩).toArray
theorem fields_kept : Lib.fields keptB.data.toList = kept := by decide
theorem fields_signs : Lib.fields signsB.data.toList = signs := by decide
theorem fields_sts : Lib.fields stsB.data.toList = sts := by decide
theorem ascii_of (s : ByteArray) (h : ∀ x ∈ s.data.toList, x.toNat < 128) : ∀ (j : Nat) b, s.data.toList[j]? = some b → b.toNat < 128 := fun j b hb => h b (List.mem_of_getElem? hb)
theorem fields_any (s : ByteArray) (l : List (List UInt8)) (hf : Lib.fields s.data.toList = l) (hs : s.size < 4294967281) (ha : ∀ x ∈ s.data.toList, x.toNat < 128) (w : World) (ht : Tabs w) :
    Calls Tryd.prog 20 #[.string s] w fun e w' => e = .returned (.slice (some ⟨w.heap.size, 0, none⟩) l.length l.length) ∧ w' = w.alloc (.cells (listA l) 9) := by
  refine (Tryd.strings_Fields s w hs (ascii_of s ha) ht.2).mono ?_
  rintro e w' ⟨he, hw⟩
  rw [hf] at he hw
  exact ⟨he, hw⟩
theorem listA_at (l : List (List UInt8)) (k : Nat) (h : k < l.length) : (listA l)[k]? = some (.string ⟨(l.getD k []).toArray⟩) := by
  unfold listA
  rw [List.getElem?_toArray, List.getElem?_map, List.getElem?_eq_getElem h, List.getD_eq_getElem?_getD, List.getElem?_eq_getElem h]
  rfl
/-- The lists, as the library's search takes them. -/
def bys (l : List (List UInt8)) : List ByteArray := l.map fun x => ⟨x.toArray⟩
theorem list_cell (w : World) (l : List (List UInt8)) : ∀ j, j < (bys l).length → (w.alloc (.cells (listA l) 9)).cell? ⟨w.heap.size, 0 + j, none⟩ = some (.string ((bys l).getD j ByteArray.empty)) := by
  intro j hj
  have hj' : j < l.length := by simpa [bys] using hj
  rw [Lib.cell_of_heap (MapKept.heap_alloc w (.cells (listA l) 9)).1, Nat.zero_add]
  show (listA l)[j]? = _
  rw [listA_at l j hj']
  unfold bys
  rw [List.getD_eq_getElem?_getD, List.getD_eq_getElem?_getD, List.getElem?_map, List.getElem?_eq_getElem hj']
  rfl
end Go.Proofs.YtkobiojndamofaaDoor.Lr
