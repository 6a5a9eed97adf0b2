/- Which texts are words in tens. No Go in it. -/
import Derived.Lib.Strings
import Derived.WalkKit
namespace Go.Proofs.Ytnnfefohpofipaa.Wd
set_option linter.unusedVariables false

/-- The number that digits write, in tens. -/
def val (l : List UInt8) : Nat := l.foldl (fun n c => n * 10 + (c.toNat - 48)) 0
def dig (c : UInt8) : Bool := decide (48 ≤ c.toNat ∧ c.toNat ≤ 57)
/-- A word in tens, without a needless 0 or a sign. -/
def isNum (l : List UInt8) : Bool :=
  decide (1 ≤ l.length ∧ l.length ≤ 10 ∧ ¬ (1 < l.length ∧ l[0]? = some 48) ∧ (∀ c ∈ l, dig c = true) ∧ val l ≤ 4294967295)

theorem isNum_mk {l : List UInt8} (h : 1 ≤ l.length ∧ l.length ≤ 10 ∧ ¬ (1 < l.length ∧ l[0]? = some 48) ∧ (∀ c ∈ l, dig c = true) ∧ val l ≤ 4294967295) : isNum l = true := decide_eq_true h
theorem isNum_no {l : List UInt8} (h : ¬ (1 ≤ l.length ∧ l.length ≤ 10 ∧ ¬ (1 < l.length ∧ l[0]? = some 48) ∧ (∀ c ∈ l, dig c = true) ∧ val l ≤ 4294967295)) : isNum l = false := decide_eq_false h

theorem val_snoc (l : List UInt8) (c : UInt8) : val (l ++ [c]) = val l * 10 + (c.toNat - 48) := by
  unfold val; rw [List.foldl_append]; rfl

theorem val_lt : ∀ (n : Nat) (l : List UInt8), l.length = n → (∀ c ∈ l, dig c = true) → val l < 10 ^ n := by
  intro n
  induction n with
  | zero => intro l hl _; have : l = [] := List.eq_nil_of_length_eq_zero hl
            subst this; decide
  | succ n ih =>
    intro l hl hd
    have hne : l ≠ [] := by intro h; subst h; simp at hl
    have e := List.dropLast_concat_getLast hne
    have h1 := ih l.dropLast (by simp; omega) (fun c hc => hd c (List.dropLast_subset l hc))
    have h2 := hd (l.getLast hne) (List.getLast_mem hne)
    unfold dig at h2
    have h3 := of_decide_eq_true h2
    rw [← e, val_snoc, Nat.pow_succ]
    omega

theorem take_snoc (s : ByteArray) (k : Nat) (h : k < s.size) : s.data.toList.take (k + 1) = s.data.toList.take k ++ [s[k]] := by
  rw [List.take_succ_eq_append_getElem (by simpa using h)]; rfl

theorem size_len (s : ByteArray) : s.data.toList.length = s.size := by simp
theorem first_of (s : ByteArray) (h : 0 < s.size) : s.data.toList[0]? = some s[0] := by
  rw [List.getElem?_eq_getElem (by simpa using h)]; rfl
theorem u8_48 (c : UInt8) : c = 48 ↔ c.toNat = 48 := by
  constructor
  · intro h; subst h; rfl
  · intro h; exact UInt8.toNat_inj.1 h

/-- What Number answers. -/
def numV (l : List UInt8) : Int := if isNum l then (val l : Int) else 0
theorem numV_yes {l : List UInt8} (h : isNum l = true) : numV l = val l := by unfold numV; rw [if_pos h]
theorem numV_no {l : List UInt8} (h : isNum l = false) : numV l = 0 := by unfold numV; rw [h]; rfl
end Go.Proofs.Ytnnfefohpofipaa.Wd
