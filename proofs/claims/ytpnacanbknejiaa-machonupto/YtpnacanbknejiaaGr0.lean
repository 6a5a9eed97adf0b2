/- Laid together: WdNumPlain, RfNumPlain, LgPlain, LgTree, LgStmt, LgShow, LgOwn, LcPlain, WdPlain, LePlain, TbPlain. -/
import Derived.Lib.Strings
import Derived.WalkKit
import Derived.Lib.AtoiAll
import Derived.Lib.ItoaNum
import Derived.Lib.ItoaMem
import Derived.Lib.Bytealg
namespace Go.Proofs.Ytpnacanbknejiaa.Wd
set_option linter.unusedVariables false
def val (l : List UInt8) : Nat := l.foldl (fun n c => n * 10 + (c.toNat - 48)) 0
end Go.Proofs.Ytpnacanbknejiaa.Wd
namespace Go.Proofs.Ytpnacanbknejiaa.Rf
set_option linter.unusedVariables false
open Wd
end Go.Proofs.Ytpnacanbknejiaa.Rf
namespace Go.Proofs.Ytpnacanbknejiaa.Lg
set_option linter.unusedVariables false
open Wd Rf
def blank (c : UInt8) : Bool := c == 32 || c == 10
def brack (c : UInt8) : Bool := c == 40 || c == 41
def stop (c : UInt8) : Bool := blank c || brack c
def skip (l : List UInt8) : List UInt8 := l.dropWhile blank
def word (l : List UInt8) : List UInt8 := if l.takeWhile (fun c => !stop c) = [] then l.take 1 else l.takeWhile (fun c => !stop c)
def wd (l : List UInt8) : List UInt8 := word (skip l)
def rs (l : List UInt8) : List UInt8 := (skip l).drop (wd l).length
structure Ex where
 kind : Int
 n : Int
 name : List UInt8
 args : List Ex
structure St where
 kind : Int
 n : Int
 name : List UInt8
 secret : Bool
 args : List Ex
 thn : List St
 els : List St
structure Vr where
 name : List UInt8
 secret : Bool
 size : Int
structure Fn where
 params : List Vr
 arrays : List Vr
 body : List St
set_option linter.unusedSimpArgs false
theorem flat_len {α : Type} {toks : α → List (List UInt8)} : ∀ (as : List α),(∀ a ∈ as,(toks a).head? = some [40]) → as.length ≤ (as.flatMap toks).length
 | [],_ => by simp
 | a :: as,h => by
  have h1 := h a (by simp)
  have h2 := flat_len as (fun b hb => h b (by simp [hb]))
  rw [List.flatMap_cons,List.length_append,List.length_cons]
  cases ht : toks a with
  | nil => rw [ht] at h1; cases h1
  | cons x y => rw [List.length_cons]; omega
set_option linter.unusedSimpArgs false
set_option linter.unusedSimpArgs false
end Go.Proofs.Ytpnacanbknejiaa.Lg
namespace Go.Proofs.Ytpnacanbknejiaa.Lg
set_option linter.unusedVariables false
set_option linter.unusedSimpArgs false
structure Nm where
 name : List UInt8
 secret : Bool
 loop : Bool
def thenK {α β : Type} (x : Except Int α) (f : α → Except Int β) : Except Int β := match x with
 | .error e => .error e
 | .ok a => f a
structure Ks where
 ns : List Nm
 work : Nat
 lets : Nat
def No (n : Int) {α : Type} (x : Except Int α) (p : α → Prop) : Prop := (∀ e,x = .error e → ¬ e = n) ∧ ∀ a,x = .ok a → p a
theorem No.ok {n : Int} {α : Type} {a : α} {p : α → Prop} (h : p a) : No n (.ok a) p := ⟨fun e he => (by cases he),fun b hb => (by cases hb; exact h)⟩
theorem No.err {n e : Int} {α : Type} {p : α → Prop} (h : ¬ e = n) : No n (.error e : Except Int α) p := ⟨fun x hx => (by cases hx; exact h),fun b hb => (by cases hb)⟩
theorem No.andThen {n : Int} {α β : Type} {x : Except Int α} {f : α → Except Int β} {p : α → Prop} {q : β → Prop} (h : No n x p) (hf : ∀ a,p a → No n (f a) q) : No n (thenK x f) q := by
 cases x with
 | error e => exact .err (h.1 e rfl)
 | ok a => exact hf a (h.2 a rfl)
theorem No.mono {n : Int} {α : Type} {x : Except Int α} {p q : α → Prop} (h : No n x p) (hq : ∀ a,p a → q a) : No n x q := ⟨h.1,fun a ha => hq a (h.2 a ha)⟩
structure Gd (k k' : Ks) : Prop where
 ns : ∃ ex,k'.ns = k.ns ++ ex
 work : k.work ≤ k'.work
 most : k'.work ≤ 300
 lets : k'.lets ≤ 24
 len : k'.ns.length + k.work ≤ k.ns.length + k'.work
theorem Gd.refl {k : Ks} (h1 : k.work ≤ 300) (h2 : k.lets ≤ 24) : Gd k k := ⟨⟨[],by simp⟩,Nat.le_refl _,h1,h2,Nat.le_refl _⟩
theorem Gd.trans {a b c : Ks} (h : Gd a b) (k : Gd b c) : Gd a c := by
 obtain ⟨x,hx⟩ := h.ns
 obtain ⟨y,hy⟩ := k.ns
 refine ⟨⟨x ++ y,by rw [hy,hx,List.append_assoc]⟩,Nat.le_trans h.work k.work,k.most,k.lets,?_⟩
 have := h.len; have := k.len; omega
end Go.Proofs.Ytpnacanbknejiaa.Lg
namespace Go.Proofs.Ytpnacanbknejiaa.Wd
set_option linter.unusedVariables false
theorem keep {p : Prop} (h : p) : Go.RowKit.Hid p := h
def two (op a b : Int) : Int :=
 if op = 1 then (a + b) % 4294967296
 else if op = 2 then (a - b) % 4294967296
 else if op = 3 then (((a % 4294967296).toNat &&& (b % 4294967296).toNat : Nat) : Int)
 else if op = 4 then (((a % 4294967296).toNat ||| (b % 4294967296).toNat : Nat) : Int)
 else if op = 5 then (((a % 4294967296).toNat ^^^ (b % 4294967296).toNat : Nat) : Int)
 else if op = 6 then (a % 4294967296) * 2 ^ (b % 32).toNat % 4294967296
 else if op = 7 then (a % 4294967296) / 2 ^ (b % 32).toNat
 else if op = 8 then (a % 4294967296) * (b % 4294967296) % 4294967296
 else if op = 9 then (if b % 4294967296 = 0 then 4294967295 else (a % 4294967296) / (b % 4294967296))
 else if op = 10 then (if b % 4294967296 = 0 then a % 4294967296 else (a % 4294967296) % (b % 4294967296))
 else if op = 11 then (if a % 4294967296 < b % 4294967296 then 1 else 0)
 else (if a % 4294967296 = b % 4294967296 then 1 else 0)
theorem two1 (a b : Int) : two 1 a b = (a + b) % 4294967296 := rfl
theorem two2 (a b : Int) : two 2 a b = (a - b) % 4294967296 := rfl
theorem two3 (a b : Int) : two 3 a b = (((a % 4294967296).toNat &&& (b % 4294967296).toNat : Nat) : Int) := rfl
theorem two4 (a b : Int) : two 4 a b = (((a % 4294967296).toNat ||| (b % 4294967296).toNat : Nat) : Int) := rfl
theorem two5 (a b : Int) : two 5 a b = (((a % 4294967296).toNat ^^^ (b % 4294967296).toNat : Nat) : Int) := rfl
theorem two6 (a b : Int) : two 6 a b = (a % 4294967296) * 2 ^ (b % 32).toNat % 4294967296 := rfl
theorem two7 (a b : Int) : two 7 a b = (a % 4294967296) / 2 ^ (b % 32).toNat := rfl
theorem two8 (a b : Int) : two 8 a b = (a % 4294967296) * (b % 4294967296) % 4294967296 := rfl
theorem two9 (a b : Int) : two 9 a b = (if b % 4294967296 = 0 then 4294967295 else (a % 4294967296) / (b % 4294967296)) := rfl
theorem two10 (a b : Int) : two 10 a b = (if b % 4294967296 = 0 then a % 4294967296 else (a % 4294967296) % (b % 4294967296)) := rfl
theorem two11 (a b : Int) : two 11 a b = (if a % 4294967296 < b % 4294967296 then 1 else 0) := rfl
theorem two12 (a b : Int) : two 12 a b = (if a % 4294967296 = b % 4294967296 then 1 else 0) := rfl
theorem and_lt (x y : Nat) (hx : x < 4294967296) : x &&& y < 4294967296 := Nat.lt_of_le_of_lt Nat.and_le_left hx
theorem or_lt (x y : Nat) (hx : x < 4294967296) (hy : y < 4294967296) : x ||| y < 4294967296 := Nat.or_lt_two_pow (n:=32) hx hy
theorem xor_lt (x y : Nat) (hx : x < 4294967296) (hy : y < 4294967296) : x ^^^ y < 4294967296 := Nat.xor_lt_two_pow (n:=32) hx hy
theorem word_lt (a : Int) : (a % 4294967296).toNat < 4294967296 := by omega
theorem two_word (op a b : Int) : 0 ≤ two op a b ∧ two op a b ≤ 4294967295 := by
 have ha := word_lt a
 have hb := word_lt b
 have h3 := and_lt (a % 4294967296).toNat (b % 4294967296).toNat ha
 have h4 := or_lt (a % 4294967296).toNat (b % 4294967296).toNat ha hb
 have h5 := xor_lt (a % 4294967296).toNat (b % 4294967296).toNat ha hb
 have h6 : ∀ z : Int,0 ≤ z % 4294967296 ∧ z % 4294967296 ≤ 4294967295 := fun z => by omega
 have h7 : 0 ≤ a % 4294967296 / 2 ^ (b % 32).toNat ∧ a % 4294967296 / 2 ^ (b % 32).toNat ≤ 4294967295 := by
  have hp : (0 : Int) < 2 ^ (b % 32).toNat := Int.pow_pos (by decide)
  refine ⟨Int.ediv_nonneg (by omega) (by omega),?_⟩
  have := Int.ediv_le_self (2 ^ (b % 32).toNat) (show 0 ≤ a % 4294967296 by omega)
  omega
 have h9 : ¬ b % 4294967296 = 0 → 0 ≤ a % 4294967296 / (b % 4294967296) ∧ a % 4294967296 / (b % 4294967296) ≤ 4294967295 := by
  intro _
  refine ⟨Int.ediv_nonneg (by omega) (by omega),?_⟩
  have := Int.ediv_le_self (b % 4294967296) (show 0 ≤ a % 4294967296 by omega)
  omega
 have h10 : ¬ b % 4294967296 = 0 → 0 ≤ a % 4294967296 % (b % 4294967296) ∧ a % 4294967296 % (b % 4294967296) ≤ 4294967295 := by
  intro hne
  have h1 := Int.emod_nonneg (a % 4294967296) hne
  have h2 := Int.emod_lt_of_pos (a % 4294967296) (show 0 < b % 4294967296 by omega)
  omega
 unfold two
 repeat' split
 all_goals first | exact h6 _ | exact h7 | exact h9 ‹_› | exact h10 ‹_› | omega
end Go.Proofs.Ytpnacanbknejiaa.Wd
namespace Go.Proofs.Ytpnacanbknejiaa.Lg
set_option linter.unusedVariables false
set_option linter.unusedSimpArgs false
abbrev Env := List (List UInt8 × Int)
structure Mm where
 env : Env
 arr : List (List Int)
 work : Nat
inductive Rs where
 | go (k : Mm)
 | over (trap : Bool) (word : Int) (arr : List (List Int)) (work : Nat)
def selP (a b c : Int) : Int := if a % 4294967296 = 0 then c % 4294967296 else b % 4294967296
def andR (r : Rs) (f : Mm → Rs) : Rs := match r with
 | .go k => f k
 | .over t w a n => .over t w a n
def AllR (p : Mm → Prop) (q : Bool → Int → List (List Int) → Nat → Prop) : Rs → Prop
 | .go k => p k
 | .over t w a n => q t w a n
theorem AllR.andThen {p p' : Mm → Prop} {q : Bool → Int → List (List Int) → Nat → Prop} {r : Rs} {f : Mm → Rs} (h : AllR p q r) (hf : ∀ k,p k → AllR p' q (f k)) : AllR p' q (andR r f) := by
 cases r with
 | go k => exact hf k h
 | over t w a n => exact h
theorem AllR.mono {p p' : Mm → Prop} {q q' : Bool → Int → List (List Int) → Nat → Prop} {r : Rs} (h : AllR p q r) (hp : ∀ k,p k → p' k) (hq : ∀ t w a n,q t w a n → q' t w a n) : AllR p' q' r := by
 cases r with
 | go k => exact hp k h
 | over t w a n => exact hq _ _ _ _ h
def isW (n : Int) : Prop := 0 ≤ n ∧ n ≤ 4294967295
structure GA (rs : List Vr) (arr : List (List Int)) : Prop where
 len : arr.length = rs.length
 size : ∀ (i : Nat) (row : List Int) (v : Vr),arr[i]? = some row → rs[i]? = some v → (row.length : Int) = v.size
 word : ∀ row ∈ arr,∀ x ∈ row,isW x
theorem isW_zero : isW 0 := ⟨by decide,by decide⟩
theorem selP_word (a b c : Int) : isW (selP a b c) := by
 unfold selP isW
 split <;> omega
end Go.Proofs.Ytpnacanbknejiaa.Lg
namespace Go.Proofs.Ytpnacanbknejiaa.Tb
set_option linter.unusedVariables false
def nmL : List (List UInt8) := [[97,100,100],[115,117,98],[97,110,100],[111,114],[120,111,114],[115,104,108],[115,104,114],[109,117,108],[100,105,118],[114,101,109],[108,101,115,115],[115,97,109,101],[115,101,108],[99,111,110,115,116],[109,111,118,101],[108,111,97,100],[115,116,111,114,101]]
def nm (op : Nat) : List UInt8 := nmL.getD (op - 1) []
def most (op : Nat) : Int := ([0,3,3,3,3,3,3,3,3,3,3,3,3,7,0,1,1,3] : List Int).getD op 0
def fits (t : Nat → Int) (op : Nat) : Bool := decide (0 ≤ t op ∧ t op ≤ most op)
def wrongT (t : Nat → Int) : Int := if ¬ t 0 = 0 then 1 else if ∀ k : Fin 17,fits t (k.val + 1) = true then 0 else 3
end Go.Proofs.Ytpnacanbknejiaa.Tb
