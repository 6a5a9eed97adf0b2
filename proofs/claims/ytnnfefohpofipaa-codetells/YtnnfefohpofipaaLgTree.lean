/- Programs as trees; what a list of words is read as; how a tree is written as words; a tree that was read comes back from its words. No Go in it. -/
import Derived.Test.YtnnfefohpofipaaLgPlain
namespace Go.Proofs.Ytnnfefohpofipaa.Lg
set_option linter.unusedVariables false
open Wd Rf

/-- An expression, a statement, a variable, a program. -/
structure Ex where
  kind : Int
  n : Int
  name : List UInt8
  args : List Ex
structure St where
  kind : Int
  n : Int
  name : List UInt8
  secret : Bool
  args : List Ex
  thn : List St
  els : List St
structure Vr where
  name : List UInt8
  secret : Bool
  size : Int
structure Fn where
  params : List Vr
  arrays : List Vr
  body : List St

/-- The words that are no names. -/
def kept : List (List UInt8) := [[102, 110], [112, 117, 98], [115, 101, 99], [108, 101, 116], [115, 101, 116], [112, 117, 116], [105, 102], [102, 111, 114], [114, 101, 116], [115, 101, 108], [97, 116]]
def isName (w : List UInt8) : Bool := decide (1 ≤ w.length ∧ w.length ≤ 6 ∧ (∀ c ∈ w, 97 ≤ c.toNat ∧ c.toNat ≤ 122) ∧ w ∉ kept)
/-- The signs of ops, from the first one on. -/
def signs : List (List UInt8) := [[43], [45], [38], [124], [94], [60, 60], [62, 62], [42], [47], [37], [60], [61]]
def signOf (w : List UInt8) : Nat := if w ∈ signs then signs.idxOf w + 1 else 0
def sign (k : Nat) : List UInt8 := signs.getD (k - 1) []

/-- What comes of reading: what is wrong, or something, and the words behind it. -/
abbrev Res (α : Type) := Except Int (α × List (List UInt8))
def andT {α β : Type} (x : Res α) (f : α → List (List UInt8) → Res β) : Res β := match x with
  | .error e => .error e
  | .ok (a, r) => f a r
theorem andT_ok {α β : Type} (a : α) (r : List (List UInt8)) (f : α → List (List UInt8) → Res β) : andT (.ok (a, r)) f = f a r := rfl
theorem andT_inv {α β : Type} {x : Res α} {f : α → List (List UInt8) → Res β} {b : β} {q : List (List UInt8)} (h : andT x f = .ok (b, q)) : ∃ a r, x = .ok (a, r) ∧ f a r = .ok (b, q) := by
  cases x with
  | error e => cases h
  | ok p => exact ⟨p.1, p.2, rfl, h⟩

def next : List (List UInt8) → Res (List UInt8)
  | [] => .error 8
  | w :: r => .ok (w, r)
def want (x : List UInt8) (l : List (List UInt8)) : Res Unit := andT (next l) fun w r => if w = x then .ok ((), r) else .error 2
def nameT (l : List (List UInt8)) : Res (List UInt8) := andT (next l) fun w r => if isName w = true then .ok (w, r) else .error 7
def numT (low high : Int) (l : List (List UInt8)) : Res Int := andT (next l) fun w r =>
  if isNum w = true then (if (val w : Int) < low ∨ high < (val w : Int) then .error 3 else .ok ((val w : Int), r)) else .error 2
def labT (l : List (List UInt8)) : Res Bool := andT (next l) fun w r =>
  if w = [115, 101, 99] then .ok (true, r) else if w = [112, 117, 98] then .ok (false, r) else .error 2
/-- So many, one behind the other. -/
def manyT {α : Type} (f : List (List UInt8) → Res α) : Nat → List (List UInt8) → Res (List α)
  | 0, l => .ok ([], l)
  | n + 1, l => andT (f l) fun a r => andT (manyT f n r) fun as q => .ok (a :: as, q)
/-- All up to a bracket, which goes. -/
def uptoT {α : Type} (f : List (List UInt8) → Res α) : Nat → List (List UInt8) → Res (List α)
  | 0, l => .error 8
  | n + 1, l => if l.head? = some [41] then .ok ([], l.tail) else andT (f l) fun a r => andT (uptoT f n r) fun as q => .ok (a :: as, q)

/-- An expression's head: its kind, its op, its name. -/
def headT (k : List UInt8) (q : List (List UInt8)) : Res (Int × Int × List UInt8) :=
  if k = [115, 101, 108] then .ok ((4, 0, []), q) else if k = [97, 116] then andT (nameT q) fun x r => .ok ((5, 0, x), r) else if signOf k = 0 then .error 1 else .ok ((3, (signOf k : Nat), []), q)
def arity (k : Int) : Nat := if k = 4 then 3 else if k = 5 then 1 else 2
/-- An expression: m may stand within one another. -/
def exprT : Nat → List (List UInt8) → Res Ex
  | 0, _ => .error 9
  | m + 1, l => andT (next l) fun w r =>
    if w = [40] then andT (next r) fun k q => andT (headT k q) fun h q => andT (manyT (exprT m) (arity h.1) q) fun as q => andT (want [41] q) fun _ q => .ok (⟨h.1, h.2.1, h.2.2, as⟩, q)
    else if isNum w = true then .ok (⟨1, (val w : Int), [], []⟩, r) else if isName w = true then .ok (⟨2, 0, w, []⟩, r) else .error 7

/-- A statement's kind. -/
def kindOf (k : List UInt8) : Int := if k = [108, 101, 116] then 1 else if k = [115, 101, 116] then 2 else if k = [112, 117, 116] then 3 else if k = [105, 102] then 4 else if k = [102, 111, 114] then 5 else if k = [114, 101, 116] then 6 else 0
/-- A statement: m may stand within one another. -/
def stmtT : Nat → List (List UInt8) → Res St
  | 0, _ => .error 9
  | m + 1, l => andT (want [40] l) fun _ l => andT (next l) fun k l =>
    if kindOf k = 1 then andT (labT l) fun s l => andT (nameT l) fun x l => andT (exprT m l) fun a l => andT (want [41] l) fun _ l => .ok (⟨1, 0, x, s, [a], [], []⟩, l)
    else if kindOf k = 2 then andT (nameT l) fun x l => andT (exprT m l) fun a l => andT (want [41] l) fun _ l => .ok (⟨2, 0, x, false, [a], [], []⟩, l)
    else if kindOf k = 3 then andT (nameT l) fun x l => andT (exprT m l) fun a l => andT (exprT m l) fun b l => andT (want [41] l) fun _ l => .ok (⟨3, 0, x, false, [a, b], [], []⟩, l)
    else if kindOf k = 4 then andT (exprT m l) fun a l => andT (want [40] l) fun _ l => andT (uptoT (stmtT m) (l.length + 1) l) fun t l => andT (want [40] l) fun _ l =>
      andT (uptoT (stmtT m) (l.length + 1) l) fun e l => andT (want [41] l) fun _ l => .ok (⟨4, 0, [], false, [a], t, e⟩, l)
    else if kindOf k = 5 then andT (nameT l) fun x l => andT (numT 0 8 l) fun n l => andT (uptoT (stmtT m) (l.length + 1) l) fun t l => .ok (⟨5, n, x, false, [], t, []⟩, l)
    else if kindOf k = 6 then andT (exprT m l) fun a l => andT (want [41] l) fun _ l => .ok (⟨6, 0, [], false, [a], [], []⟩, l)
    else .error 1
def varT (l : List (List UInt8)) : Res Vr := andT (want [40] l) fun _ l => andT (labT l) fun s l => andT (nameT l) fun x l => andT (want [41] l) fun _ l => .ok (⟨x, s, 0⟩, l)
def arrT (l : List (List UInt8)) : Res Vr := andT (want [40] l) fun _ l => andT (labT l) fun s l => andT (nameT l) fun x l => andT (numT 1 8 l) fun n l => andT (want [41] l) fun _ l => .ok (⟨x, s, n⟩, l)
/-- A program. -/
def fnT (l : List (List UInt8)) : Res Fn := andT (want [40] l) fun _ l => andT (want [102, 110] l) fun _ l => andT (want [40] l) fun _ l => andT (uptoT varT (l.length + 1) l) fun ps l =>
  andT (want [40] l) fun _ l => andT (uptoT arrT (l.length + 1) l) fun rs l => andT (uptoT (stmtT 9) (l.length + 1) l) fun b l => if l = [] then .ok (⟨ps, rs, b⟩, l) else .error 2

/-- A tree's words. -/
def toksE : Nat → Ex → List (List UInt8)
  | 0, _ => []
  | m + 1, e => if e.kind = 1 then [Lib.decDigits e.n.toNat] else if e.kind = 2 then [e.name] else
    if e.kind = 3 then [40] :: sign e.n.toNat :: (e.args.flatMap (toksE m) ++ [[41]]) else
    if e.kind = 4 then [40] :: [115, 101, 108] :: (e.args.flatMap (toksE m) ++ [[41]]) else [40] :: [97, 116] :: e.name :: (e.args.flatMap (toksE m) ++ [[41]])
/-- A tree that can be read. -/
def wfE : Nat → Ex → Prop
  | 0, _ => False
  | m + 1, e => (e.kind = 1 ∧ 0 ≤ e.n ∧ e.n ≤ 4294967295 ∧ e.name = [] ∧ e.args = []) ∨ (e.kind = 2 ∧ e.n = 0 ∧ isName e.name = true ∧ e.args = []) ∨
    (e.kind = 3 ∧ 1 ≤ e.n ∧ e.n ≤ 12 ∧ e.name = [] ∧ e.args.length = 2 ∧ ∀ a ∈ e.args, wfE m a) ∨ (e.kind = 4 ∧ e.n = 0 ∧ e.name = [] ∧ e.args.length = 3 ∧ ∀ a ∈ e.args, wfE m a) ∨
    (e.kind = 5 ∧ e.n = 0 ∧ isName e.name = true ∧ e.args.length = 1 ∧ ∀ a ∈ e.args, wfE m a)

theorem manyT_toks {α : Type} {f : List (List UInt8) → Res α} {toks : α → List (List UInt8)} : ∀ (as : List α), (∀ a ∈ as, ∀ r, f (toks a ++ r) = .ok (a, r)) → ∀ r, manyT f as.length (as.flatMap toks ++ r) = .ok (as, r)
  | [], _, r => rfl
  | a :: as, h, r => by
    rw [List.flatMap_cons, List.append_assoc, List.length_cons, manyT, h a (by simp), andT_ok, manyT_toks as (fun b hb => h b (by simp [hb])) r, andT_ok]
theorem manyT_inv {α : Type} {f : List (List UInt8) → Res α} {P : α → Prop} (hf : ∀ l a r, f l = .ok (a, r) → P a) : ∀ (n : Nat) (l : List (List UInt8)) (as : List α) (r : List (List UInt8)), manyT f n l = .ok (as, r) → as.length = n ∧ ∀ a ∈ as, P a
  | 0, l, as, r, h => by
    simp only [manyT, Except.ok.injEq, Prod.mk.injEq] at h
    rw [← h.1]; simp
  | n + 1, l, as, r, h => by
    rw [manyT] at h
    obtain ⟨a, r1, h1, h2⟩ := andT_inv h
    obtain ⟨bs, r2, h3, h4⟩ := andT_inv h2
    simp only [Except.ok.injEq, Prod.mk.injEq] at h4
    obtain ⟨e1, e2⟩ := manyT_inv hf n r1 bs r2 h3
    rw [← h4.1]
    refine ⟨by simp [e1], fun x hx => ?_⟩
    rcases List.mem_cons.1 hx with e | e
    · rw [e]; exact hf _ _ _ h1
    · exact e2 x e

theorem sign_of : ∀ k : Nat, 1 ≤ k → k ≤ 12 → signOf (sign k) = k ∧ sign k ≠ [115, 101, 108] ∧ sign k ≠ [97, 116] := by
  intro k h1 h2
  have : ∀ j : Fin 12, signOf (sign (j.val + 1)) = j.val + 1 ∧ sign (j.val + 1) ≠ [115, 101, 108] ∧ sign (j.val + 1) ≠ [97, 116] := by decide
  have := this ⟨k - 1, by omega⟩
  rwa [show (⟨k - 1, by omega⟩ : Fin 12).val + 1 = k by simp; omega] at this
theorem signOf_le (k : List UInt8) : signOf k ≤ 12 := by
  unfold signOf
  split
  · rename_i h
    have := List.idxOf_lt_length_of_mem h
    have hl : signs.length = 12 := by decide
    omega
  · omega
theorem num_not_brack {w : List UInt8} (h : isNum w = true) : ¬ w = [40] := by
  intro e
  obtain ⟨_, _, _, h4, _⟩ := num_parts h
  have := h4 40 (by rw [e]; simp)
  exact absurd this (by decide)
theorem name_parts {w : List UInt8} (h : isName w = true) : 1 ≤ w.length ∧ w.length ≤ 6 ∧ (∀ c ∈ w, 97 ≤ c.toNat ∧ c.toNat ≤ 122) ∧ w ∉ kept := of_decide_eq_true h
theorem name_not_brack {w : List UInt8} (h : isName w = true) : ¬ w = [40] := by
  intro e
  have := (name_parts h).2.2.1 40 (by rw [e]; simp)
  exact absurd this (by decide)
theorem name_not_num {w : List UInt8} (h : isName w = true) : ¬ isNum w = true := by
  intro hn
  obtain ⟨h1, _, h3, _⟩ := name_parts h
  obtain ⟨_, _, _, h4, _⟩ := num_parts hn
  cases w with
  | nil => simp at h1
  | cons c r =>
    have a := h3 c (by simp)
    have b := h4 c (by simp)
    unfold dig at b
    have := of_decide_eq_true b
    omega

/-- What is read is a tree that can be read. -/
theorem exprT_wf : ∀ (m : Nat) (l : List (List UInt8)) (e : Ex) (r : List (List UInt8)), exprT m l = .ok (e, r) → wfE m e
  | 0, l, e, r, h => by cases h
  | m + 1, l, e, r, h => by
    rw [exprT] at h
    obtain ⟨w, r1, h1, h2⟩ := andT_inv h
    clear h h1
    by_cases hw : w = [40]
    · rw [if_pos hw] at h2
      obtain ⟨k, q1, h3, h4⟩ := andT_inv h2
      obtain ⟨hd, q2, h5, h6⟩ := andT_inv h4
      obtain ⟨as, q3, h7, h8⟩ := andT_inv h6
      obtain ⟨_, q4, h9, h10⟩ := andT_inv h8
      simp only [Except.ok.injEq, Prod.mk.injEq] at h10
      obtain ⟨e1, e2⟩ := manyT_inv (fun l a r hh => exprT_wf m l a r hh) _ _ _ _ h7
      clear h2 h4 h6 h8 h7 h9 h3
      rw [← h10.1]
      unfold headT at h5
      by_cases k1 : k = [115, 101, 108]
      · rw [if_pos k1] at h5
        simp only [Except.ok.injEq, Prod.mk.injEq] at h5
        rw [← h5.1] at e1 ⊢
        exact .inr (.inr (.inr (.inl ⟨rfl, rfl, rfl, e1, e2⟩)))
      · rw [if_neg k1] at h5
        by_cases k2 : k = [97, 116]
        · rw [if_pos k2] at h5
          obtain ⟨x, q5, h11, h12⟩ := andT_inv h5
          simp only [Except.ok.injEq, Prod.mk.injEq] at h12
          obtain ⟨y, q6, h13, h14⟩ := andT_inv h11
          by_cases hn : isName y = true
          · rw [if_pos hn] at h14
            simp only [Except.ok.injEq, Prod.mk.injEq] at h14
            rw [← h12.1] at e1 ⊢
            exact .inr (.inr (.inr (.inr ⟨rfl, rfl, by rw [← h14.1]; exact hn, e1, e2⟩)))
          · rw [if_neg hn] at h14; cases h14
        · rw [if_neg k2] at h5
          by_cases k3 : signOf k = 0
          · rw [if_pos k3] at h5; cases h5
          · rw [if_neg k3] at h5
            simp only [Except.ok.injEq, Prod.mk.injEq] at h5
            have := signOf_le k
            rw [← h5.1] at e1 ⊢
            exact .inr (.inr (.inl ⟨rfl, by show (1 : Int) ≤ ((signOf k : Nat) : Int); omega, by show ((signOf k : Nat) : Int) ≤ 12; omega, rfl, e1, e2⟩))
    · rw [if_neg hw] at h2
      by_cases hn : isNum w = true
      · rw [if_pos hn] at h2
        simp only [Except.ok.injEq, Prod.mk.injEq] at h2
        obtain ⟨_, _, _, _, h5⟩ := num_parts hn
        rw [← h2.1]
        exact .inl ⟨rfl, by show (0 : Int) ≤ ((val w : Nat) : Int); omega, by show ((val w : Nat) : Int) ≤ 4294967295; omega, rfl, rfl⟩
      · rw [if_neg hn] at h2
        by_cases hx : isName w = true
        · rw [if_pos hx] at h2
          simp only [Except.ok.injEq, Prod.mk.injEq] at h2
          rw [← h2.1]
          exact .inr (.inl ⟨rfl, rfl, hx, rfl⟩)
        · rw [if_neg hx] at h2; cases h2

/-- A tree that can be read comes back from its words. -/
theorem exprT_toks : ∀ (m : Nat) (e : Ex), wfE m e → ∀ r, exprT m (toksE m e ++ r) = .ok (e, r)
  | 0, e, h, r => h.elim
  | m + 1, ⟨kind, n, name, args⟩, h, r => by
    have hsub : ∀ as : List Ex, (∀ a ∈ as, wfE m a) → ∀ k, arity k = as.length → ∀ q, manyT (exprT m) (arity k) (as.flatMap (toksE m) ++ q) = .ok (as, q) := fun as hw k hk q => by
      rw [hk]
      exact manyT_toks as (fun a ha r => exprT_toks m a (hw a ha) r) q
    rcases h with ⟨k, h1, h2, h3, h4⟩ | ⟨k, h1, h2, h3⟩ | ⟨k, h1, h2, h3, h4, h5⟩ | ⟨k, h1, h2, h3, h4⟩ | ⟨k, h1, h2, h3, h4⟩
    all_goals simp only at k h1 h2 h3
    · simp only at h4
      subst k h3 h4
      have hn := isNum_dec n.toNat (by omega)
      have hv := (dec_facts (n.toNat + 1) n.toNat (by omega)).2.1
      rw [toksE, if_pos rfl, exprT, List.singleton_append, next, andT_ok, if_neg (num_not_brack hn), if_pos hn, hv, Int.toNat_of_nonneg h1]
    · subst k h1 h3
      rw [toksE, if_neg (by simp), if_pos rfl, exprT, List.singleton_append, next, andT_ok, if_neg (name_not_brack h2), if_neg (name_not_num h2), if_pos h2]
    · simp only at h4 h5
      subst k h3
      obtain ⟨s1, s2, s3⟩ := sign_of n.toNat (by omega) (by omega)
      rw [toksE, if_neg (by simp), if_neg (by simp), if_pos rfl, exprT, List.cons_append, next, andT_ok, if_pos rfl, List.cons_append, next, andT_ok]
      unfold headT
      rw [if_neg s2, if_neg s3, s1, if_neg (by omega), andT_ok, List.append_assoc, hsub args h5 3 (by rw [h4]; rfl), andT_ok]
      unfold want
      rw [List.singleton_append, next, andT_ok, if_pos rfl, andT_ok, Int.toNat_of_nonneg (by omega)]
    · simp only at h4
      subst k h1 h2
      rw [toksE, if_neg (by simp), if_neg (by simp), if_neg (by simp), if_pos rfl, exprT, List.cons_append, next, andT_ok, if_pos rfl, List.cons_append, next, andT_ok]
      unfold headT
      rw [if_pos rfl, andT_ok, List.append_assoc, hsub args h4 4 (by rw [h3]; rfl), andT_ok]
      unfold want
      rw [List.singleton_append, next, andT_ok, if_pos rfl, andT_ok]
    · simp only at h4
      subst k h1
      rw [toksE, if_neg (by simp), if_neg (by simp), if_neg (by simp), if_neg (by simp), exprT, List.cons_append, next, andT_ok, if_pos rfl, List.cons_append, next, andT_ok]
      unfold headT
      rw [if_neg (by decide), if_pos rfl]
      unfold nameT
      rw [List.cons_append, next, andT_ok, if_pos h2, andT_ok, andT_ok, List.append_assoc, hsub args h4 5 (by rw [h3]; rfl), andT_ok]
      unfold want
      rw [List.singleton_append, next, andT_ok, if_pos rfl, andT_ok]
end Go.Proofs.Ytnnfefohpofipaa.Lg
