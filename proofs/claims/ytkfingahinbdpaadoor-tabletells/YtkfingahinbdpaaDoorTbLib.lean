/- What the library's functions that package table calls do at this program: Fields of the names; Cut at one byte; Atoi. -/
import Derived.Test.YtkfingahinbdpaaDoorShelf
import Derived.Test.YtkfingahinbdpaaDoorTbWrong
import Derived.Lib.AppendIntMem
import Derived.Lib.AtoiErrMem
import Derived.Lib.AtoiAllCases
import Derived.WalkSmall
import Derived.WalkSpells
namespace Go.Proofs.YtkfingahinbdpaaDoor.Tb
set_option linter.unusedVariables false
open Go.ChangeShapes Go.WideShapes Go.ChangeAt Go.RowKit

/-- The library's tables and its two errors, as they were laid. -/
def Tabs (w : World) : Prop :=
  Lib.TabIs Tryd.prog w "internal/strconv.uint64pow10" .u64 Lib.pow10Tab ∧ (∃ tp p, w.var? Tryd.prog "strconv.ErrSyntax" = some #[.iface tp p]) ∧ (∃ tp p, w.var? Tryd.prog "strconv.ErrRange" = some #[.iface tp p]) ∧
    Lib.TabIs Tryd.prog w "strings.asciiSpace" .u8 Lib.asciiSpaceTab

theorem var_lt {w : World} {n : String} {cs : Array Value} {g : Nat} (hg : Tryd.prog.globalNamed n = some g) (hv : w.var? Tryd.prog n = some cs) : g < w.heap.size := by
  unfold World.var? at hv
  simp only [hg, Option.bind_some] at hv
  by_cases h : g < w.heap.size
  · exact h
  · rw [Array.getElem?_eq_none (by omega)] at hv
    simp at hv

theorem gSyn : Tryd.prog.globalNamed "strconv.ErrSyntax" = some 3 := by kernel_rfl
theorem gRan : Tryd.prog.globalNamed "strconv.ErrRange" = some 4 := by kernel_rfl

theorem Tabs.below {w w' : World} (h : Tabs w) (hb : Below w.heap.size w w') : Tabs w' := by
  obtain ⟨h1, ⟨t2, p2, h2⟩, ⟨t3, p3, h3⟩, h4⟩ := h
  exact ⟨Lib.tabBelow_of_tabIs h1 w' hb, ⟨t2, p2, var?_below hb gSyn (var_lt gSyn h2) h2⟩, ⟨t3, p3, var?_below hb gRan (var_lt gRan h3) h3⟩, Lib.tabBelow_of_tabIs h4 w' hb⟩
theorem Tabs.mono {w0 w w' : World} {B : Nat} (h : Tabs w) (hB : w.heap.size ≤ B) (hb : Below B w w') : Tabs w' := h.below (hb.mono hB)

/-- The names, as values. -/
def nmV : Array Value := (nmL.map fun l => Value.string ⟨l.toArray⟩).toArray

theorem fields_names : Lib.fields [97, 100, 100, 32, 115, 117, 98, 32, 97, 110, 100, 32, 111, 114, 32, 120, 111, 114, 32, 115, 104, 108, 32, 115, 104, 114, 32, 109, 117, 108, 32, 100, 105, 118, 32, 114, 101, 109, 32, 108, 101, 115, 115, 32, 115, 97, 109, 101, 32, 115, 101, 108, 32, 99, 111, 110, 115, 116, 32, 109, 111, 118, 101, 32, 108, 111, 97, 100, 32, 115, 116, 111, 114, 101] = nmL := by decide

theorem names_any (w : World) (ht : Tabs w) :
    Calls Tryd.prog 6 #[] w fun e w' => e = .returned (.slice (some ⟨w.heap.size, 0, none⟩) 17 17) ∧ w' = w.alloc (.cells nmV 9) := by
  have HC : Hid (Calls Tryd.prog 15 #[.string ⟨#[97, 100, 100, 32, 115, 117, 98, 32, 97, 110, 100, 32, 111, 114, 32, 120, 111, 114, 32, 115, 104, 108, 32, 115, 104, 114, 32, 109, 117, 108, 32, 100, 105, 118, 32, 114, 101, 109, 32, 108, 101, 115, 115, 32, 115, 97, 109, 101, 32, 115, 101, 108, 32, 99, 111, 110, 115, 116, 32, 109, 111, 118, 101, 32, 108, 111, 97, 100, 32, 115, 116, 111, 114, 101]⟩] w fun e w' => e = .returned (.slice (some ⟨w.heap.size, 0, none⟩) 17 17) ∧ w' = w.alloc (.cells nmV 9)) := by
    refine (Tryd.strings_Fields _ w (by decide) ?_ ht.2.2.2).mono ?_
    · intro j b hb
      have hm := List.mem_of_getElem? hb
      have : ∀ x ∈ ([97, 100, 100, 32, 115, 117, 98, 32, 97, 110, 100, 32, 111, 114, 32, 120, 111, 114, 32, 115, 104, 108, 32, 115, 104, 114, 32, 109, 117, 108, 32, 100, 105, 118, 32, 114, 101, 109, 32, 108, 101, 115, 115, 32, 115, 97, 109, 101, 32, 115, 101, 108, 32, 99, 111, 110, 115, 116, 32, 109, 111, 118, 101, 32, 108, 111, 97, 100, 32, 115, 116, 111, 114, 101] : List UInt8), x.toNat < 128 := by decide
      exact this b hm
    · rintro e w' ⟨he, hw⟩
      simp only [fields_names] at he hw
      exact ⟨he, hw⟩
  clear ht
  go_enter Tryd.func6, Tryd.ntmps6
  go_wp2_with fail
  refine HC.out.mono ?_
  rintro e w' ⟨rfl, rfl⟩
  go_wp2
  go_ret
  exact ⟨rfl, rfl⟩

/-- How Cut at one byte ends. -/
def cutEnd (s : ByteArray) (c : UInt8) : Value :=
  if has c s.data.toList then .tuple #[.string ⟨(pre c s.data.toList).toArray⟩, .string ⟨(suf c s.data.toList).toArray⟩, .bool true] else .tuple #[.string s, .string ⟨#[]⟩, .bool false]
theorem cutEnd_yes {s : ByteArray} {c : UInt8} (h : has c s.data.toList = true) : cutEnd s c = .tuple #[.string ⟨(pre c s.data.toList).toArray⟩, .string ⟨(suf c s.data.toList).toArray⟩, .bool true] := by
  unfold cutEnd; rw [if_pos h]
theorem cutEnd_no {s : ByteArray} {c : UInt8} (h : has c s.data.toList = false) : cutEnd s c = .tuple #[.string s, .string ⟨#[]⟩, .bool false] := by
  unfold cutEnd; rw [if_neg (by simp [h])]

set_option maxHeartbeats 1000000 in
theorem lite_cut (s : ByteArray) (hs : s.size ≤ maxLen) (c : UInt8) (w : World) :
    Calls Tryd.prog 28 #[.string s, .string ⟨#[c]⟩] w fun e w' => e = .returned (cutEnd s c) ∧ ∃ n, w' = w.drewN n := by
  have hlen : s.data.toList.length = s.size := Lib.size_eq s |>.symm
  unfold maxLen at hs
  cases h : has c s.data.toList with
  | true =>
    have hm : c ∈ s.data.toList := of_decide_eq_true h
    rw [cutEnd_yes h]
    have hl := suf_length hm
    have HI : Hid (∀ w, Calls Tryd.prog 36 #[.string s, .string ⟨#[c]⟩] w fun e w' => e = .returned (.int .i64 ((pre c s.data.toList).length : Nat)) ∧ w' = w) := fun w => by
      have := Tryd.stringslite_Index_one s c w
      rw [index_yes hm] at this
      exact this
    have HP := keep (take_pre hm)
    have HS := keep (drop_suf hm)
    generalize (pre c s.data.toList).length = k at HI HP HS hl
    have c1 : (0 : Int) ≤ (k : Int) := by omega
    have c2 : (k : Int) ≤ (s.size : Int) := by omega
    have c3 : (0 : Int) ≤ (k : Int) + 1 := by omega
    have c4 : (k : Int) + 1 ≤ (s.size : Int) := by omega
    clear h hm
    go_enter Tryd.func28, Tryd.ntmps28
    go_wp2_with fail
    refine (HI.out _).mono ?_
    rintro e w' ⟨rfl, rfl⟩
    go_wp2
    go_quiet (fail)
    go_wp2
    go_ret3
    refine ⟨?_, _, rfl⟩
    rw [← HP.out, ← HS.out]
    show Ending.returned (.tuple #[.string (s.extract 0 k), .string (s.extract (k + 1) s.size), .bool true]) = _
    rw [Lib.extract_eq, Lib.extract_eq, List.drop_zero, Nat.sub_zero, List.take_of_length_le (i := s.size - (k + 1)) (by simp)]
  | false =>
    have hm : c ∉ s.data.toList := fun hh => by
      have : has c s.data.toList = true := decide_eq_true hh
      rw [h] at this; cases this
    rw [cutEnd_no h]
    have HI : Hid (∀ w, Calls Tryd.prog 36 #[.string s, .string ⟨#[c]⟩] w fun e w' => e = .returned (.int .i64 (-1)) ∧ w' = w) := fun w => by
      have := Tryd.stringslite_Index_one s c w
      rw [index_no hm] at this
      exact this
    clear h hm
    go_enter Tryd.func28, Tryd.ntmps28
    go_wp2_with fail
    refine (HI.out _).mono ?_
    rintro e w' ⟨rfl, rfl⟩
    go_wp2
    go_ret3
    exact ⟨rfl, 0, rfl⟩

set_option maxHeartbeats 1000000 in
theorem cut_any (s : ByteArray) (hs : s.size ≤ maxLen) (c : UInt8) (w : World) :
    Calls Tryd.prog 19 #[.string s, .string ⟨#[c]⟩] w fun e w' => e = .returned (cutEnd s c) ∧ ∃ n, w' = w.drewN n := by
  cases h : has c s.data.toList with
  | true =>
    have HC := keep (lite_cut s hs c w)
    rw [cutEnd_yes h] at HC ⊢
    clear h
    go_enter Tryd.func19, Tryd.ntmps19
    go_wp2_with fail
    refine HC.out.mono ?_
    rintro e w' ⟨rfl, n, rfl⟩
    go_wp2
    go_ret3
    exact ⟨rfl, n, rfl⟩
  | false =>
    have HC := keep (lite_cut s hs c w)
    rw [cutEnd_no h] at HC ⊢
    clear h
    go_enter Tryd.func19, Tryd.ntmps19
    go_wp2_with fail
    refine HC.out.mono ?_
    rintro e w' ⟨rfl, n, rfl⟩
    go_wp2
    go_ret3
    exact ⟨rfl, n, rfl⟩

/-- How Atoi ends: a number, or an error. -/
def AtoiEnds (l : List UInt8) (e : Ending) : Prop :=
  (∃ v : Int, Lib.atoiAll l = .ok v ∧ -9223372036854775808 ≤ v ∧ v ≤ 9223372036854775807 ∧ e = .returned (.tuple #[.int .i64 v, .nilIface])) ∨
    ((∀ v, Lib.atoiAll l ≠ .ok v) ∧ ∃ (m : Int) (N : Nat), e = .returned (.tuple #[.int .i64 m, .iface 77 (.pointer (some ⟨N, 0, none⟩))]))
theorem atoi_any (s : ByteArray) (hs : s.size ≤ 281474976710656) (w : World) (ht : Tabs w) :
    Calls Tryd.prog 22 #[.string s] w fun e w' => AtoiEnds s.data.toList e ∧ Below w.heap.size w w' := by
  cases h : Lib.atoiAll s.data.toList
  · rename_i v
    refine (Tryd.strconv_Atoi_ok s (by omega) v h w).mono ?_
    rintro e w' ⟨rfl, hw⟩
    refine ⟨.inl ⟨v, h, (Lib.atoiAll_bounds h).1, (Lib.atoiAll_bounds h).2, rfl⟩, ?_⟩
    rcases hw with rfl | ⟨t, rfl⟩
    · exact Below.refl _ _
    · exact Lib.bytesWorld_below w 5 t
  · obtain ⟨_, ⟨tp, p, hv⟩, _⟩ := ht
    have c : Calls Tryd.prog 22 #[.string s] w fun e w' => ∃ N, e = .returned (.tuple #[.int .i64 0, .iface 77 (.pointer (some ⟨N, 0, none⟩))]) ∧ w.heap.size ≤ N ∧ w'.heap[N]? = some (.cells #[.string ⟨#[65, 116, 111, 105]⟩, .string s, .iface tp p] 103 (0, 0)) ∧ Below w.heap.size w w' := Any.strconv_Atoi_syntax_var Tryd.laysC172 s hs h tp p w hv
    exact c.mono fun e w' ⟨N, he, _, _, hb⟩ => ⟨.inr ⟨fun v hv => absurd (h.symm.trans hv) (fun e => by cases e), 0, N, he⟩, hb⟩
  · obtain ⟨_, _, ⟨tp, p, hv⟩, _⟩ := ht
    exact (Tryd.strconv_Atoi_range_var s hs h tp p w hv).mono fun e w' ⟨N, he, _, _, hb⟩ => ⟨.inr ⟨fun v hv => absurd (h.symm.trans hv) (fun e => by cases e), _, N, he⟩, hb⟩
end Go.Proofs.YtkfingahinbdpaaDoor.Tb
