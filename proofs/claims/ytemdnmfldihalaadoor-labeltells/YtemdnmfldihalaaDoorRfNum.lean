/- What the document's own Number answers, for whatever text, where the library's table and its two errors lie as they were laid. -/
import Derived.Test.YtemdnmfldihalaaDoorLgAll
import Derived.Test.YtemdnmfldihalaaDoorShelf
import Derived.ProofKit
import Derived.OpenShut
import Derived.Below
import Derived.Lib.AppendIntMem
import Derived.Lib.AtoiErrMem
import Derived.Lib.AtoiAllCases
import Derived.WalkSmall
import Derived.WalkSpells
namespace Go.Proofs.YtemdnmfldihalaaDoor.Rf
set_option linter.unusedVariables false
open Go.ChangeShapes Go.WideShapes Go.ChangeAt Go.RowKit

theorem keepN {p : Prop} (h : p) : Hid p := h
/-- The library's table of tens, and its two errors, as they were laid. -/
def Tabs (w : World) : Prop :=
  Lib.TabIs Tryd.prog w "internal/strconv.uint64pow10" .u64 Lib.pow10Tab ∧ (∃ tp p, w.var? Tryd.prog "strconv.ErrSyntax" = some #[.iface tp p]) ∧ ∃ tp p, w.var? Tryd.prog "strconv.ErrRange" = some #[.iface tp p]

theorem var_lt {w : World} {n : String} {cs : Array Value} {g : Nat} (hg : Tryd.prog.globalNamed n = some g) (hv : w.var? Tryd.prog n = some cs) : g < w.heap.size := by
  unfold World.var? at hv
  simp only [hg, Option.bind_some] at hv
  by_cases h : g < w.heap.size
  · exact h
  · rw [Array.getElem?_eq_none (by omega)] at hv
    simp at hv

theorem gSyn : Tryd.prog.globalNamed "strconv.ErrSyntax" = some 0 := by kernel_rfl
theorem gRan : Tryd.prog.globalNamed "strconv.ErrRange" = some 1 := by kernel_rfl

theorem Tabs.below {w w' : World} (h : Tabs w) (hb : Below w.heap.size w w') : Tabs w' := by
  obtain ⟨h1, ⟨t2, p2, h2⟩, t3, p3, h3⟩ := h
  exact ⟨Lib.tabBelow_of_tabIs h1 w' hb, ⟨t2, p2, var?_below hb gSyn (var_lt gSyn h2) h2⟩, t3, p3, var?_below hb gRan (var_lt gRan h3) h3⟩

/-- How Number ends: the number that Atoi gave, and whether the text is a word. -/
def NumEnds (l : List UInt8) (e : Ending) : Prop := ∃ m : Int, e = .returned (.tuple #[.int .i64 m, .bool (Wd.isNum l)]) ∧ (Wd.isNum l = true → m = Wd.val l)

theorem number_err (s : ByteArray) (w : World) (m : Int) (hn : Wd.isNum s.data.toList = false)
    (hc : ∀ w, Tabs w → Calls Tryd.prog 36 #[.string s] w fun e w' => ∃ N, e = .returned (.tuple #[.int .i64 m, .iface 105 (.pointer (some ⟨N, 0, none⟩))]) ∧ Below w.heap.size w w') (ht : Tabs w) :
    Calls Tryd.prog 28 #[.string s] w fun e w' => NumEnds s.data.toList e ∧ Below w.heap.size w w' := by
  have HC := keepN (hc w ht)
  have HF : Hid (∀ m : Int, NumEnds s.data.toList (.returned (.tuple #[.int .i64 m, .bool false]))) := fun m => ⟨m, by rw [hn], fun h => by rw [hn] at h; cases h⟩
  clear hc hn
  go_enter Tryd.func28, Tryd.ntmps28
  go_wp2_with fail
  refine HC.out.mono ?_
  rintro e w' ⟨N, rfl, hb⟩
  go_wp2
  go_ret2
  exact ⟨HF.out m, hb⟩

theorem number_ok (s : ByteArray) (hs : s.size ≤ 281474976710656) (w : World) (v : Int) (h : Lib.atoiAll s.data.toList = .ok v) (v0 : -9223372036854775808 ≤ v) (v1 : v ≤ 9223372036854775807) (ht : Tabs w) :
    Calls Tryd.prog 28 #[.string s] w fun e w' => NumEnds s.data.toList e ∧ Below w.heap.size w w' := by
  have HC : Hid (Calls Tryd.prog 36 #[.string s] w fun e w' => e = .returned (.tuple #[.int .i64 v, .nilIface]) ∧ Below w.heap.size w w') := by
    refine (Tryd.strconv_Atoi_ok s (by omega) v h w).mono ?_
    rintro e w' ⟨rfl, hw⟩
    refine ⟨rfl, ?_⟩
    rcases hw with rfl | ⟨t, rfl⟩
    · exact Below.refl _ _
    · exact Lib.bytesWorld_below w 5 t
  have HF : Hid (¬ (0 ≤ v ∧ v < 4294967296 ∧ Lib.itoa v = s.data.toList) → NumEnds s.data.toList (.returned (.tuple #[.int .i64 v, .bool false]))) := by
    intro hno
    have hn : Wd.isNum s.data.toList = false := by
      cases hq : Wd.isNum s.data.toList with
      | false => rfl
      | true =>
        exfalso
        have h1 := atoi_of_num hq
        rw [h] at h1
        have h2 : v = (Wd.val s.data.toList : Int) := by injection h1
        obtain ⟨_, _, _, _, h5⟩ := num_parts hq
        exact hno ⟨by omega, by omega, by rw [h2]; exact num_back hq⟩
    exact ⟨v, by rw [hn], fun hh => by rw [hn] at hh; cases hh⟩
  have HT : Hid (0 ≤ v ∧ v < 4294967296 ∧ Lib.itoa v = s.data.toList → NumEnds s.data.toList (.returned (.tuple #[.int .i64 v, .bool true]))) := by
    rintro ⟨h1, h2, h3⟩
    obtain ⟨h4, h5⟩ := num_iff h h1 h2 h3
    exact ⟨v, by rw [h4], fun _ => h5⟩
  have HTab := keepN ht
  clear h ht
  by_cases c0 : 0 ≤ v
  · by_cases c1 : v < 4294967296
    · have hE : ∃ c : Bool, (Lib.itoa v == s.toList) = c ∧ NumEnds s.data.toList (.returned (.tuple #[.int .i64 v, .bool c])) := by
        cases hq : (Lib.itoa v == s.toList) with
        | false =>
          refine ⟨false, rfl, HF.out fun hh => ?_⟩
          rw [Lib.toList_data, beq_eq_false_iff_ne] at hq
          exact hq hh.2.2
        | true =>
          refine ⟨true, rfl, HT.out ⟨c0, c1, ?_⟩⟩
          rw [Lib.toList_data] at hq
          exact beq_iff_eq.1 hq
      obtain ⟨c, hc, hN⟩ := hE
      have HN := keepN hN
      clear hN HF HT
      go_enter Tryd.func28, Tryd.ntmps28
      go_wp2_with fail
      refine HC.out.mono ?_
      rintro e w1 ⟨rfl, hb⟩
      have HB := keepN hb
      have HT1 := keepN (HTab.out.below hb)
      clear hb
      go_wp2_with fail
      refine (Tryd.strconv_Itoa v (by omega) (by omega) _ HT1.out.1).mono ?_
      rintro e w2 ⟨rfl, k, os, rfl⟩
      go_wp2
      go_ret2
      exact ⟨HN.out, HB.out.trans (Lib.below_grow _ _ HB.out.size _ _)⟩
    · have HN := keepN (HF.out fun hh => c1 hh.2.1)
      clear HF HT
      go_enter Tryd.func28, Tryd.ntmps28
      go_wp2_with fail
      refine HC.out.mono ?_
      rintro e w1 ⟨rfl, hb⟩
      go_wp2
      go_ret2
      exact ⟨HN.out, hb⟩
  · have HN := keepN (HF.out fun hh => c0 hh.1)
    clear HF HT
    go_enter Tryd.func28, Tryd.ntmps28
    go_wp2_with fail
    refine HC.out.mono ?_
    rintro e w1 ⟨rfl, hb⟩
    go_wp2
    go_ret2
    exact ⟨HN.out, hb⟩

/-- Number, of whatever text. -/
theorem number_any (s : ByteArray) (hs : s.size ≤ 281474976710656) (w : World) (ht : Tabs w) :
    Calls Tryd.prog 28 #[.string s] w fun e w' => NumEnds s.data.toList e ∧ Below w.heap.size w w' := by
  have hno : (∀ v, Lib.atoiAll s.data.toList ≠ .ok v) → Wd.isNum s.data.toList = false := by
    intro h
    cases hq : Wd.isNum s.data.toList with
    | false => rfl
    | true => exact absurd (atoi_of_num hq) (h _)
  cases h : Lib.atoiAll s.data.toList
  · rename_i v
    exact number_ok s hs w v h (Lib.atoiAll_bounds h).1 (Lib.atoiAll_bounds h).2 ht
  · refine number_err s w 0 (hno fun v hv => by rw [h] at hv; cases hv) (fun w ht => ?_) ht
    obtain ⟨_, ⟨tp, p, hv⟩, _⟩ := ht
    have c : Calls Tryd.prog 36 #[.string s] w fun e w' => ∃ N, e = .returned (.tuple #[.int .i64 0, .iface 105 (.pointer (some ⟨N, 0, none⟩))]) ∧ w.heap.size ≤ N ∧ w'.heap[N]? = some (.cells #[.string ⟨#[65, 116, 111, 105]⟩, .string s, .iface tp p] 117 (0, 0)) ∧ Below w.heap.size w w' := Any.strconv_Atoi_syntax_var Tryd.laysC172 s hs h tp p w hv
    exact c.mono fun e w' ⟨N, he, _, _, hb⟩ => ⟨N, he, hb⟩
  · refine number_err s w (Lib.atoiSat s.data.toList) (hno fun v hv => by rw [h] at hv; cases hv) (fun w ht => ?_) ht
    obtain ⟨_, _, tp, p, hv⟩ := ht
    exact (Tryd.strconv_Atoi_range_var s hs h tp p w hv).mono fun e w' ⟨N, he, _, _, hb⟩ => ⟨N, he, hb⟩
end Go.Proofs.YtemdnmfldihalaaDoor.Rf
