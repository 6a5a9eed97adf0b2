/- Which texts are words in tens, and what Number answers for whatever text. -/
import Derived.Test.YtkobiojndamofaaDoorWdIs
import Derived.Test.YtkobiojndamofaaDoorLgAll
import Derived.Lib.Strings
namespace Go.Proofs.YtkobiojndamofaaDoor.Wd
set_option linter.unusedVariables false
open Go.ChangeShapes Go.WideShapes Go.ChangeAt Go.RowKit

theorem ret_num {a b : Int} {c d : Bool} (h : a = b) (hc : c = d) : Ending.returned (.tuple #[.int .i64 a, .bool c]) = .returned (.tuple #[.int .i64 b, .bool d]) := by rw [h, hc]

theorem number_short (s : ByteArray) (w : World) (hs : s.size ≤ maxLen) (h : s.size = 0 ∨ 10 < s.size ∨ (1 < s.size ∧ s.data.toList[0]? = some 48)) :
    Calls Tryd.prog 76 #[.string s] w fun e w' => e = .returned (.tuple #[.int .i64 0, .bool false]) ∧ w' = w := by
  unfold maxLen at hs
  by_cases h0 : s.size = 0
  · have e : s.toList.isEmpty = true := by
      rw [Lib.toList_data, List.eq_nil_of_length_eq_zero ((size_len s).trans h0)]; rfl
    clear h h0
    go_enter Tryd.func76, Tryd.ntmps76
    go_wp2
    go_ret2
    exact ⟨rfl, rfl⟩
  · have e : s.toList.isEmpty = false := by
      rw [Lib.toList_data]; cases hl : s.data.toList with
      | nil => exact absurd (by rw [← size_len, hl]; rfl) h0
      | cons a t => rfl
    by_cases h1 : 10 < s.size
    · have d : decide (10 < (s.size : Int)) = true := by simp; omega
      clear h
      go_enter Tryd.func76, Tryd.ntmps76
      go_wp2
      go_ret2
      exact ⟨rfl, rfl⟩
    · obtain ⟨h2, h3⟩ : 1 < s.size ∧ s.data.toList[0]? = some 48 := by
        rcases h with h | h | h
        · exact absurd h h0
        · exact absurd h h1
        · exact h
      rw [first_of s (by omega)] at h3
      have h4 : s[0] = 48 := Option.some.inj h3
      have d : decide (10 < (s.size : Int)) = false := by simp; omega
      have d2 : decide (1 < (s.size : Int)) = true := by simp; omega
      have d3 : ((s[0].toNat : Int) == 48) = true := by rw [h4]; rfl
      clear h h3 h4
      go_enter Tryd.func76, Tryd.ntmps76
      go_wp2
      go_ret2
      exact ⟨rfl, rfl⟩

/-- Digits alone, of a word: what is asked of a text that is neither too long nor opens with a needless 0. -/
def digs (l : List UInt8) : Bool := decide ((∀ c ∈ l, dig c = true) ∧ val l ≤ 4294967295)
def digV (l : List UInt8) : Int := if digs l then (val l : Int) else 0
theorem digs_no {l : List UInt8} (h : ¬ ((∀ c ∈ l, dig c = true) ∧ val l ≤ 4294967295)) : 0 = digV l ∧ false = digs l := by
  have e : digs l = false := decide_eq_false h
  unfold digV; rw [e]; exact ⟨rfl, rfl⟩
theorem digs_yes {l : List UInt8} (h : (∀ c ∈ l, dig c = true) ∧ val l ≤ 4294967295) : (val l : Int) = digV l ∧ true = digs l := by
  have e : digs l = true := decide_eq_true h
  unfold digV; rw [e]; exact ⟨rfl, rfl⟩
theorem digs_bad (s : ByteArray) (k : Nat) (h : k < s.size) (hc : dig s[k] = false) : 0 = digV s.data.toList ∧ false = digs s.data.toList := by
  refine digs_no fun hh => ?_
  have := hh.1 s[k] (by rw [← List.take_append_drop (k + 1) s.data.toList, take_snoc s k h]; simp)
  rw [hc] at this; cases this
theorem dig_lo {c : UInt8} (h : (c.toNat : Int) < 48) : dig c = false := decide_eq_false (by omega)
theorem dig_hi {c : UInt8} (h : 57 < (c.toNat : Int)) : dig c = false := decide_eq_false (by omega)

theorem number_loop (s : ByteArray) (w : World) (h0 : 1 ≤ s.size) (h1 : s.size ≤ 10) (hd0 : decide (1 < (s.size : Int)) = true → ((s[0].toNat : Int) == 48) = false) :
    Calls Tryd.prog 76 #[.string s] w fun e w' => e = .returned (.tuple #[.int .i64 (digV s.data.toList), .bool (digs s.data.toList)]) ∧ w' = w := by
  have e : s.toList.isEmpty = false := by
    rw [Lib.toList_data]; cases hl : s.data.toList with
    | nil => exact absurd (by rw [← size_len, hl]; rfl) (show ¬ s.size = 0 by omega)
    | cons a t => rfl
  have d : decide (10 < (s.size : Int)) = false := by simp; omega
  by_cases hone : 1 < s.size
  all_goals
    first
      | (have d2 : decide (1 < (s.size : Int)) = true := by simp; omega
         have d3 := hd0 d2)
      | (have d2 : decide (1 < (s.size : Int)) = false := by simp; omega)
    clear hd0
    go_enter Tryd.func76, Tryd.ntmps76
    go_wp2
    go_loop [4, 25] (fun n i => ∃ k : Nat, k ≤ s.size ∧ i = .int .i64 k ∧ n = .int .i64 (val (s.data.toList.take k)) ∧ ∀ c ∈ s.data.toList.take k, dig c = true) (fun _ i => s.size - (intOf i).toNat)
    case atStart => exact ⟨0, Nat.zero_le _, rfl, rfl, by simp⟩
    case round =>
      obtain ⟨k, hk, rfl, rfl, hall⟩ := hrel
      have hv := val_lt k (s.data.toList.take k) (by simp; omega) hall
      have hv10 : val (s.data.toList.take k) < 10000000000 := Nat.lt_of_lt_of_le hv (Nat.pow_le_pow_right (n := 10) (by decide) (show k ≤ 10 by omega))
      have Hall := keep hall
      have HT := keep (fun h => take_snoc s k h)
      clear hall hv
      generalize hvv : val (s.data.toList.take k) = v at hv10 ⊢
      have HV := keep hvv
      clear hvv
      by_cases hlt : k < s.size
      · by_cases hc0 : (s[k].toNat : Int) < 48
        · go_wp2
          go_ret2
          exact ⟨ret_num (digs_bad s k hlt (dig_lo hc0)).1 (digs_bad s k hlt (dig_lo hc0)).2, rfl⟩
        · by_cases hc1 : 57 < (s[k].toNat : Int)
          · go_wp2
            go_ret2
            exact ⟨ret_num (digs_bad s k hlt (dig_hi hc1)).1 (digs_bad s k hlt (dig_hi hc1)).2, rfl⟩
          · go_wp2
            go_round
            case rel =>
              refine ⟨k + 1, by omega, by go_num, ?_, ?_⟩
              · rw [HT.out hlt, val_snoc, HV.out]; exact congrArg (Value.int IntKind.i64) (by omega)
              · intro c hc
                rw [HT.out hlt] at hc
                rcases List.mem_append.1 hc with hc | hc
                · exact Hall.out c hc
                · have : c = s[k] := by simpa using hc
                  subst this; unfold dig; exact decide_eq_true (by omega)
            case measure => simp [intOf]; omega
      · have hks : k = s.size := by omega
        have HA : Hid (∀ c ∈ s.data.toList, dig c = true) := by
          have := Hall.out; rw [List.take_of_length_le (by simp; omega)] at this; exact this
        have HW : Hid (val s.data.toList = v) := by
          have := HV.out; rw [List.take_of_length_le (by simp; omega)] at this; exact this
        clear Hall HV HT
        by_cases hb : v ≤ 4294967295
        · go_wp2_with (go_at_call 86; refine (is_yes _ (by omega) (by omega) _).mono ?_; rintro e w' ⟨rfl, rfl⟩)
          go_ret2
          have hy := digs_yes ⟨HA.out, by rw [HW.out]; exact hb⟩
          rw [HW.out] at hy
          exact ⟨ret_num hy.1 hy.2, rfl⟩
        · go_wp2_with (go_at_call 86; refine (is_no _ (by omega) _).mono ?_; rintro e w' ⟨rfl, rfl⟩)
          go_ret2
          have hy := digs_no (l := s.data.toList) fun hh => by have := hh.2; rw [HW.out] at this; omega
          exact ⟨ret_num hy.1 hy.2, rfl⟩
/-- Number, of whatever text. -/
theorem number_any (s : ByteArray) (w : World) (hs : s.size ≤ maxLen) :
    Calls Tryd.prog 76 #[.string s] w fun e w' => e = .returned (.tuple #[.int .i64 (numV s.data.toList), .bool (isNum s.data.toList)]) ∧ w' = w := by
  by_cases h : s.size = 0 ∨ 10 < s.size ∨ (1 < s.size ∧ s.data.toList[0]? = some 48)
  · have e : isNum s.data.toList = false := isNum_no fun hh => by
      rw [size_len] at hh
      rcases h with h | h | h
      · omega
      · omega
      · exact hh.2.2.1 h
    rw [numV_no e, e]
    exact number_short s w hs h
  · have h0 : 1 ≤ s.size := by omega
    have h1 : s.size ≤ 10 := by omega
    have h2 : 1 < s.size → ¬ s.data.toList[0]? = some 48 := fun a b => h (.inr (.inr ⟨a, b⟩))
    have e : isNum s.data.toList = digs s.data.toList := by
      unfold isNum digs
      rw [decide_eq_decide, size_len]
      exact ⟨fun hh => hh.2.2.2, fun hh => ⟨h0, h1, fun hb => h2 hb.1 hb.2, hh⟩⟩
    have e2 : numV s.data.toList = digV s.data.toList := by unfold numV digV; rw [e]
    rw [e, e2]
    refine number_loop s w h0 h1 fun hd => ?_
    have hone : 1 < s.size := by have := of_decide_eq_true hd; omega
    rw [beq_eq_false_iff_ne]
    intro hh
    refine h2 hone ?_
    rw [first_of s (by omega), (u8_48 s[0]).2 (by omega)]
end Go.Proofs.YtkobiojndamofaaDoor.Wd
