/- What is reckoned otherwise is the same: shifts, products, division, less, same, choice, in words of 32 bits. No function named, no Go in it. -/
import Derived.Test.YtfbmkcogkiejnaaHgEnd
namespace Go.Proofs.Ytfbmkcogkiejnaa.Hg
set_option linter.unusedVariables false
set_option linter.unusedSimpArgs false
open Lg Fl
abbrev WW : Nat := 4294967296
theorem n1 (a b : Nat) : Wd.two 1 (a : Int) (b : Int) = (((a + b) % WW : Nat) : Int) := by
 unfold Wd.two WW; rw [if_pos rfl]; omega
theorem n2 (a b : Nat) (hb : b < WW) : Wd.two 2 (a : Int) (b : Int) = (((a + WW - b) % WW : Nat) : Int) := by
 unfold Wd.two; rw [if_neg (by decide),if_pos rfl]; unfold WW at *; omega
theorem tn (a : Nat) (h : a < WW) : ((a : Int) % 4294967296).toNat = a := by unfold WW at h; omega
theorem n3 (a b : Nat) (ha : a < WW) (hb : b < WW) : Wd.two 3 (a : Int) (b : Int) = ((a &&& b : Nat) : Int) := by
 unfold Wd.two; rw [if_neg (by decide),if_neg (by decide),if_pos rfl,tn a ha,tn b hb]
theorem n4 (a b : Nat) (ha : a < WW) (hb : b < WW) : Wd.two 4 (a : Int) (b : Int) = ((a ||| b : Nat) : Int) := by
 unfold Wd.two; rw [if_neg (by decide),if_neg (by decide),if_neg (by decide),if_pos rfl,tn a ha,tn b hb]
theorem n5 (a b : Nat) (ha : a < WW) (hb : b < WW) : Wd.two 5 (a : Int) (b : Int) = ((a ^^^ b : Nat) : Int) := by
 unfold Wd.two; rw [if_neg (by decide),if_neg (by decide),if_neg (by decide),if_neg (by decide),if_pos rfl,tn a ha,tn b hb]
theorem n7 (a k : Nat) (ha : a < WW) (hk : k ≤ 31) : Wd.two 7 (a : Int) (k : Int) = ((a / 2 ^ k : Nat) : Int) := by
 unfold Wd.two
 rw [if_neg (by decide),if_neg (by decide),if_neg (by decide),if_neg (by decide),if_neg (by decide),if_neg (by decide),if_pos rfl]
 have h1 : ((a : Int) % 4294967296) = (a : Int) := by unfold WW at ha; omega
 have h2 : ((k : Int) % 32).toNat = k := by omega
 rw [h1,h2]
 simp
theorem lt_or {a b : Nat} (ha : a < WW) (hb : b < WW) : a ||| b < WW := Nat.or_lt_two_pow (n:=32) ha hb
theorem lt_xor {a b : Nat} (ha : a < WW) (hb : b < WW) : a ^^^ b < WW := Nat.xor_lt_two_pow (n:=32) ha hb
theorem w_top (a : Nat) (ha : a < WW) : vTop (a : Int) = ((a / 2147483648 : Nat) : Int) := n7 a 31 ha (by decide)
theorem w_all (t : Nat) (ht : t ≤ 1) : vAll (t : Int) = ((if t = 1 then WW - 1 else 0 : Nat) : Int) := by
 unfold vAll
 rw [show (0 : Int) = ((0 : Nat) : Int) from rfl,n2 0 t (by unfold WW; omega)]
 congr 1
 split <;> (unfold WW; omega)
theorem and_full (a : Nat) (ha : a < WW) : a &&& (WW - 1) = a := by
 have := Nat.and_two_pow_sub_one_eq_mod a 32
 rw [show (2 : Nat) ^ 32 - 1 = WW - 1 by decide] at this
 rw [this,Nat.mod_eq_of_lt ha]
theorem w_ch (t b c : Nat) (ht : t ≤ 1) (hb : b < WW) (hc : c < WW) : vCh (vAll (t : Int)) (b : Int) (c : Int) = ((if t = 1 then b else c : Nat) : Int) := by
 unfold vCh
 rw [w_all t ht,n5 b c hb hc]
 have hx := lt_xor hb hc
 split
 ·rw [n3 _ _ hx (by unfold WW; omega),and_full _ hx,n5 _ _ hc hx]
  congr 1
  rw [Nat.xor_comm b c,← Nat.xor_assoc,Nat.xor_self,Nat.zero_xor]
 ·rw [n3 _ _ hx (by unfold WW; omega),Nat.and_zero,n5 _ _ hc (by unfold WW; omega),Nat.xor_zero]
theorem xor_none {a b : Nat} (h : a ^^^ b = 0) : a = b := by
 have := congrArg (fun x => x ^^^ b) h
 simpa [Nat.xor_assoc] using this
theorem or_top (a b : Nat) : (a ||| b) / 2147483648 = a / 2147483648 ||| b / 2147483648 := by
 have := @Nat.or_div_two_pow a b 31
 exact this
theorem xor_top (a b : Nat) : (a ^^^ b) / 2147483648 = a / 2147483648 ^^^ b / 2147483648 := by
 have := @Nat.xor_div_two_pow a b 31
 exact this
theorem w_some (a : Nat) (ha : a < WW) : vSome (a : Int) = ((if a = 0 then 0 else 1 : Nat) : Int) := by
 unfold vSome
 have hs : (0 + WW - a) % WW < WW := Nat.mod_lt _ (by decide)
 rw [show (0 : Int) = ((0 : Nat) : Int) from rfl,n2 0 a ha,n4 _ _ ha hs,w_top _ (lt_or ha hs),or_top]
 congr 1
 by_cases h0 : a = 0
 ·subst h0; decide
 ·rw [if_neg h0]
  have h1 : a / 2147483648 = 0 ∨ a / 2147483648 = 1 := by unfold WW at ha; omega
  have h2 : (0 + WW - a) % WW = WW - a := by unfold WW at *; omega
  rw [h2]
  have h3 : (WW - a) / 2147483648 = 0 ∨ (WW - a) / 2147483648 = 1 := by unfold WW at *; omega
  have h4 : ¬ (a / 2147483648 = 0 ∧ (WW - a) / 2147483648 = 0) := by unfold WW at *; omega
  rcases h1 with e | e <;> rcases h3 with e' | e' <;> rw [e,e'] <;> first | rfl | exact absurd ⟨e,e'⟩ h4
theorem w_below (a b : Nat) (ha : a < WW) (hb : b < WW) : vBelow (a : Int) (b : Int) = ((if a < b then 1 else 0 : Nat) : Int) := by
 unfold vBelow
 have hl : (a + WW - b) % WW < WW := Nat.mod_lt _ (by decide)
 have h1 := lt_xor ha hb
 have h2 := lt_xor ha hl
 have h3 := lt_or h1 h2
 rw [n2 a b hb,n5 a b ha hb,n5 _ _ ha hl,n4 _ _ h1 h2,n5 _ _ ha h3,w_top _ (lt_xor ha h3),xor_top,or_top,xor_top,xor_top]
 congr 1
 have ta : a / 2147483648 = 0 ∨ a / 2147483648 = 1 := by unfold WW at ha; omega
 have tb : b / 2147483648 = 0 ∨ b / 2147483648 = 1 := by unfold WW at hb; omega
 have tl : ((a + WW - b) % WW) / 2147483648 = 0 ∨ ((a + WW - b) % WW) / 2147483648 = 1 := by unfold WW at *; omega
 have key1 : a / 2147483648 = b / 2147483648 → (((a + WW - b) % WW) / 2147483648 = 1 ↔ a < b) := by unfold WW at *; omega
 have key2 : a / 2147483648 = 0 → b / 2147483648 = 1 → a < b := by omega
 have key3 : a / 2147483648 = 1 → b / 2147483648 = 0 → ¬ a < b := by omega
 generalize ((a + WW - b) % WW) / 2147483648 = L at *
 generalize a / 2147483648 = A at *
 generalize b / 2147483648 = Bb at *
 rcases ta with e1 | e1 <;> rcases tb with e2 | e2 <;> rcases tl with e3 | e3 <;> subst e1 e2 e3
 ·rw [if_neg (fun h => absurd ((key1 rfl).2 h) (by decide))]; rfl
 ·rw [if_pos ((key1 rfl).1 rfl)]; rfl
 ·rw [if_pos (key2 rfl rfl)]; rfl
 ·rw [if_pos (key2 rfl rfl)]; rfl
 ·rw [if_neg (key3 rfl rfl)]; rfl
 ·rw [if_neg (key3 rfl rfl)]; rfl
 ·rw [if_neg (fun h => absurd ((key1 rfl).2 h) (by decide))]; rfl
 ·rw [if_pos ((key1 rfl).1 rfl)]; rfl
theorem w_up (a : Nat) : ∀ n : Nat,a < WW → vUp n (a : Int) = ((a * 2 ^ n % WW : Nat) : Int)
 | 0,h => by rw [vUp,Nat.pow_zero,Nat.mul_one,Nat.mod_eq_of_lt h]
 | n + 1,h => by
  rw [vUp,w_up a n h,n1]
  congr 1
  rw [Nat.pow_succ,← Nat.mul_assoc]
  generalize a * 2 ^ n = X
  unfold WW
  omega
theorem bit_and (b k : Nat) (hb : b < WW) (hk : k ≤ 31) : Wd.two 3 (Wd.two 7 (b : Int) (k : Int)) 1 = ((b / 2 ^ k % 2 : Nat) : Int) := by
 have hlt : b / 2 ^ k < WW := Nat.lt_of_le_of_lt (Nat.div_le_self _ _) hb
 rw [n7 b k hb hk,show (1 : Int) = ((1 : Nat) : Int) from rfl,n3 _ _ hlt (by decide),Nat.and_one_is_mod]
theorem mod_succ (b n : Nat) : b % 2 ^ (n + 1) = b % 2 ^ n + 2 ^ n * (b / 2 ^ n % 2) := by
 rw [Nat.pow_succ,Nat.mod_mul]
theorem w_shl (a b : Nat) (ha : a < WW) (hb : b < WW) : ∀ n : Nat,n ≤ 5 → vMoved vUp (b : Int) n (a : Int) = ((a * 2 ^ (b % 2 ^ n) % WW : Nat) : Int)
 | 0,_ => by rw [vMoved,Nat.pow_zero,Nat.mod_one,Nat.pow_zero,Nat.mul_one,Nat.mod_eq_of_lt ha]
 | n + 1,hn => by
  have hlt : a * 2 ^ (b % 2 ^ n) % WW < WW := Nat.mod_lt _ (by decide)
  rw [vMoved,w_shl a b ha hb n (by omega)]
  unfold vMove
  rw [bit_and b n hb (by omega),w_up _ _ hlt,w_ch _ _ _ (by omega) (Nat.mod_lt _ (by decide)) hlt]
  congr 1
  rw [mod_succ]
  have h2 : b / 2 ^ n % 2 = 0 ∨ b / 2 ^ n % 2 = 1 := by omega
  rcases h2 with e | e
  ·rw [e,if_neg (by decide),Nat.mul_zero,Nat.add_zero]
  ·rw [e,if_pos rfl,Nat.mul_one,Nat.pow_add,← Nat.mul_assoc,Nat.mod_mul_mod]
theorem w_shr (a b : Nat) (ha : a < WW) (hb : b < WW) : ∀ n : Nat,n ≤ 5 → vMoved vDown (b : Int) n (a : Int) = ((a / 2 ^ (b % 2 ^ n) : Nat) : Int)
 | 0,_ => by rw [vMoved,Nat.pow_zero,Nat.mod_one,Nat.pow_zero,Nat.div_one]
 | n + 1,hn => by
  have hlt : a / 2 ^ (b % 2 ^ n) < WW := Nat.lt_of_le_of_lt (Nat.div_le_self _ _) ha
  have hp : 2 ^ n ≤ 16 := by
   have : 2 ^ n ≤ 2 ^ 4 := Nat.pow_le_pow_right (by decide) (by omega)
   omega
  rw [vMoved,w_shr a b ha hb n (by omega)]
  unfold vMove vDown
  rw [bit_and b n hb (by omega),n7 _ _ hlt (by omega),w_ch _ _ _ (by omega) (Nat.lt_of_le_of_lt (Nat.div_le_self _ _) hlt) hlt]
  congr 1
  rw [mod_succ]
  have h2 : b / 2 ^ n % 2 = 0 ∨ b / 2 ^ n % 2 = 1 := by omega
  rcases h2 with e | e
  ·rw [e,if_neg (by decide),Nat.mul_zero,Nat.add_zero]
  ·rw [e,if_pos rfl,Nat.mul_one,Nat.pow_add,Nat.div_div_eq_div_mul]
theorem w_mul (a b : Nat) (ha : a < WW) (hb : b < WW) : ∀ n : Nat,n ≤ 32 → vProds n (0,(a : Int),(b : Int)) = (((a * (b % 2 ^ n) % WW : Nat) : Int),((a * 2 ^ n % WW : Nat) : Int),((b / 2 ^ n : Nat) : Int))
 | 0,_ => by
  rw [vProds,Nat.pow_zero,Nat.mod_one,Nat.mul_zero,Nat.mul_one,Nat.div_one,Nat.mod_eq_of_lt ha]; rfl
 | n + 1,hn => by
  have hA : a * 2 ^ n % WW < WW := Nat.mod_lt _ (by decide)
  have hB : b / 2 ^ n < WW := Nat.lt_of_le_of_lt (Nat.div_le_self _ _) hb
  rw [vProds,w_mul a b ha hb n (by omega)]
  unfold vProd
  dsimp only
  have hbit : Wd.two 3 (((b / 2 ^ n : Nat) : Int)) 1 = ((b / 2 ^ n % 2 : Nat) : Int) := by
   rw [show (1 : Int) = ((1 : Nat) : Int) from rfl,n3 _ _ hB (by decide),Nat.and_one_is_mod]
  have hdn : Wd.two 7 (((b / 2 ^ n : Nat) : Int)) 1 = ((b / 2 ^ (n + 1) : Nat) : Int) := by
   rw [show (1 : Int) = ((1 : Nat) : Int) from rfl,n7 _ _ hB (by decide),Nat.pow_one,Nat.div_div_eq_div_mul,← Nat.pow_succ]
  have hup : Wd.two 1 ((a * 2 ^ n % WW : Nat) : Int) ((a * 2 ^ n % WW : Nat) : Int) = ((a * 2 ^ (n + 1) % WW : Nat) : Int) := by
   rw [n1]
   congr 1
   rw [Nat.pow_succ,← Nat.mul_assoc]
   generalize a * 2 ^ n = X
   unfold WW
   omega
  rw [hbit,hdn,hup,w_all _ (by omega)]
  have h2 : b / 2 ^ n % 2 = 0 ∨ b / 2 ^ n % 2 = 1 := by omega
  have hsum : Wd.two 1 ((a * (b % 2 ^ n) % WW : Nat) : Int) (Wd.two 3 ((a * 2 ^ n % WW : Nat) : Int) ((if b / 2 ^ n % 2 = 1 then WW - 1 else 0 : Nat) : Int)) = ((a * (b % 2 ^ (n + 1)) % WW : Nat) : Int) := by
   rw [mod_succ]
   rcases h2 with e | e
   ·rw [e,if_neg (by decide),n3 _ _ hA (by decide),Nat.and_zero,n1,Nat.mul_zero,Nat.add_zero,Nat.add_zero,Nat.mod_mod]
   ·rw [e,if_pos rfl,n3 _ _ hA (by decide),and_full _ hA,n1,Nat.mul_one,← Nat.add_mod,← Nat.mul_add]
  rw [hsum]
def tops (a n : Nat) : Nat := a * 2 ^ n / WW
theorem tops_succ (a n : Nat) : tops a (n + 1) = 2 * tops a n + (a * 2 ^ n % WW) / 2147483648 := by
 unfold tops
 rw [Nat.pow_succ,← Nat.mul_assoc]
 generalize a * 2 ^ n = X
 unfold WW
 omega
theorem tops_lt (a n : Nat) (ha : a < WW) : tops a n < 2 ^ n := by
 unfold tops
 rw [Nat.div_lt_iff_lt_mul (by decide),Nat.mul_comm]
 exact Nat.mul_lt_mul_of_pos_left ha (Nat.two_pow_pos n)
def leftN (d p : Nat) : Nat := if d = 0 then p else p % d
def oftenN (d p n : Nat) : Nat := if d = 0 then 2 ^ n - 1 else p / d
theorem left_le (d p : Nat) : leftN d p ≤ p := by
 unfold leftN; split
 ·exact Nat.le_refl _
 ·exact Nat.mod_le _ _
theorem or_bit (x t : Nat) (ht : t ≤ 1) : 2 * x ||| t = 2 * x + t := by
 have := (Nat.two_pow_add_eq_or_of_lt (i:=1) (b:=t) (by omega) x).symm
 exact this
theorem w_step (a d n : Nat) (ha : a < WW) (hd : d < WW) (hn : n ≤ 31) :
  vStep (d : Int) (((a * 2 ^ n % WW : Nat) : Int),((leftN d (tops a n) : Nat) : Int)) =
   (((if 2 * leftN d (tops a n) + (a * 2 ^ n % WW) / 2147483648 < d then 0 else WW - 1 : Nat) : Int),((a * 2 ^ (n + 1) % WW : Nat) : Int),((leftN d (tops a (n + 1)) : Nat) : Int)) := by
 have hl := left_le d (tops a n)
 have ht := tops_lt a n ha
 have hp : 2 ^ n ≤ 2147483648 := by
  have : 2 ^ n ≤ 2 ^ 31 := Nat.pow_le_pow_right (by decide) hn
  omega
 have hr : a * 2 ^ n % WW < WW := Nat.mod_lt _ (by decide)
 have htop : (a * 2 ^ n % WW) / 2147483648 ≤ 1 := by unfold WW at hr ⊢; omega
 have hs := tops_succ a n
 have hup : Wd.two 1 ((a * 2 ^ n % WW : Nat) : Int) ((a * 2 ^ n % WW : Nat) : Int) = ((a * 2 ^ (n + 1) % WW : Nat) : Int) := by
  rw [n1]
  congr 1
  rw [Nat.pow_succ,← Nat.mul_assoc]
  generalize a * 2 ^ n = X
  unfold WW
  omega
 unfold vStep
 dsimp only
 rw [hup,w_top _ hr,n1]
 generalize hL : leftN d (tops a n) = L at *
 generalize hp1 : tops a n = p at *
 generalize (a * 2 ^ n % WW) / 2147483648 = t at *
 have e1 : (L + L) % WW = 2 * L := by unfold WW; omega
 have hv : 2 * L + t < WW := by unfold WW; omega
 rw [e1,n4 _ _ (by unfold WW; omega) (by unfold WW; omega),or_bit L t htop,w_below _ _ hv hd,hs]
 have hLd : leftN d (2 * p + t) = if 2 * L + t < d then 2 * L + t else 2 * L + t - d := by
  rw [← hL]
  unfold leftN
  by_cases h0 : d = 0
  ·subst h0; simp
  ·rw [if_neg h0,if_neg h0]
   have hm : p % d < d := Nat.mod_lt _ (by omega)
   have e2 : (2 * p + t) % d = (2 * (p % d) + t) % d := by
    rw [Nat.add_mod,Nat.mul_mod,Nat.add_mod (2 * (p % d)),Nat.mul_mod 2 (p % d),Nat.mod_mod]
   rw [e2]
   split
   ·rename_i h; exact Nat.mod_eq_of_lt h
   ·rename_i h
    rw [Nat.mod_eq_sub_mod (by omega)]
    exact Nat.mod_eq_of_lt (by omega)
 rw [hLd]
 by_cases hlt : 2 * L + t < d
 ·rw [if_pos hlt,if_pos hlt,if_pos hlt,show (1 : Int) = ((1 : Nat) : Int) from rfl,n2 1 1 (by decide)]
  rw [show (1 + WW - 1) % WW = 0 by decide,n3 _ _ hd (by decide),Nat.and_zero,n2 _ _ (by decide)]
  rw [show (2 * L + t + WW - 0) % WW = 2 * L + t by unfold WW at *; omega]
 ·rw [if_neg hlt,if_neg hlt,if_neg hlt,show (1 : Int) = ((1 : Nat) : Int) from rfl,n2 0 1 (by decide)]
  rw [show (0 + WW - 1) % WW = WW - 1 by decide,n3 _ _ hd (by decide),and_full _ hd,n2 _ _ hd]
  rw [show (2 * L + t + WW - d) % WW = 2 * L + t - d by unfold WW at *; omega]
theorem w_rem (a d : Nat) (ha : a < WW) (hd : d < WW) : ∀ n : Nat,n ≤ 32 → vRems (d : Int) n ((a : Int),0) = (((a * 2 ^ n % WW : Nat) : Int),((leftN d (tops a n) : Nat) : Int))
 | 0,_ => by
  have h0 : tops a 0 = 0 := by unfold tops; rw [Nat.pow_zero,Nat.mul_one]; exact Nat.div_eq_of_lt ha
  have h1 : leftN d 0 = 0 := by unfold leftN; split; rfl; exact Nat.zero_mod d
  rw [vRems,Nat.pow_zero,Nat.mul_one,Nat.mod_eq_of_lt ha,h0,h1]; rfl
 | n + 1,hn => by rw [vRems,w_rem a d ha hd n (by omega),w_step a d n ha hd (by omega)]
theorem tops_all (a : Nat) : tops a 32 = a := by
 unfold tops
 rw [show (2 : Nat) ^ 32 = WW by decide]
 exact Nat.mul_div_cancel _ (by decide)
theorem w_quo (a d : Nat) (ha : a < WW) (hd : d < WW) : ∀ n : Nat,n ≤ 32 → vQuos (d : Int) n (0,(a : Int),0) = (((oftenN d (tops a n) n : Nat) : Int),((a * 2 ^ n % WW : Nat) : Int),((leftN d (tops a n) : Nat) : Int))
 | 0,_ => by
  have h0 : tops a 0 = 0 := by unfold tops; rw [Nat.pow_zero,Nat.mul_one]; exact Nat.div_eq_of_lt ha
  have h1 : leftN d 0 = 0 := by unfold leftN; split; rfl; exact Nat.zero_mod d
  have h2 : oftenN d 0 0 = 0 := by unfold oftenN; split; rfl; exact Nat.zero_div d
  rw [vQuos,Nat.pow_zero,Nat.mul_one,Nat.mod_eq_of_lt ha,h0,h1,h2]; rfl
 | n + 1,hn => by
  rw [vQuos,w_quo a d ha hd n (by omega)]
  unfold vQuo
  dsimp only
  rw [w_step a d n ha hd (by omega)]
  dsimp only
  have ht := tops_lt a n ha
  have hp : 2 ^ n ≤ 2147483648 := by
   have : 2 ^ n ≤ 2 ^ 31 := Nat.pow_le_pow_right (by decide) (show n ≤ 31 by omega)
   omega
  have hr : a * 2 ^ n % WW < WW := Nat.mod_lt _ (by decide)
  have htop : (a * 2 ^ n % WW) / 2147483648 ≤ 1 := by unfold WW at hr ⊢; omega
  have hs := tops_succ a n
  have hole : oftenN d (tops a n) n < 2147483648 := by
   unfold oftenN; split
   ·have := Nat.two_pow_pos n; omega
   ·have := Nat.div_le_self (tops a n) d; omega
  rw [n1,hs]
  have key : oftenN d (2 * tops a n + (a * 2 ^ n % WW) / 2147483648) (n + 1) = if 2 * leftN d (tops a n) + (a * 2 ^ n % WW) / 2147483648 < d then 2 * oftenN d (tops a n) n else 2 * oftenN d (tops a n) n + 1 := by
   generalize (a * 2 ^ n % WW) / 2147483648 = t at *
   generalize tops a n = p at *
   unfold oftenN leftN
   by_cases h0 : d = 0
   ·subst h0
    have := Nat.two_pow_pos n
    rw [if_pos rfl,if_pos rfl,if_pos rfl,if_neg (by omega),Nat.pow_succ]; omega
   ·rw [if_neg h0,if_neg h0,if_neg h0]
    have hm : p % d < d := Nat.mod_lt _ (by omega)
    have e2 : 2 * p + t = (2 * (p % d) + t) + d * (2 * (p / d)) := by
     have h1 := Nat.div_add_mod p d
     have h2 : d * (2 * (p / d)) = 2 * (d * (p / d)) := Nat.mul_left_comm _ _ _
     rw [h2]; omega
    rw [e2,Nat.add_mul_div_left _ _ (by omega)]
    split
    ·rename_i h; rw [Nat.div_eq_of_lt h]; omega
    ·rename_i h
     have : (2 * (p % d) + t) / d = 1 := by
      rw [Nat.div_eq_of_lt_le]
      ·omega
      ·omega
     rw [this]; omega
  rw [key]
  generalize oftenN d (tops a n) n = O at *
  by_cases hlt : 2 * leftN d (tops a n) + (a * 2 ^ n % WW) / 2147483648 < d
  ·rw [if_pos hlt,if_pos hlt,n2 _ _ (by decide)]
   rw [show ((O + O) % WW + WW - 0) % WW = 2 * O by unfold WW; omega]
  ·rw [if_neg hlt,if_neg hlt,n2 _ _ (by decide)]
   rw [show ((O + O) % WW + WW - (WW - 1)) % WW = 2 * O + 1 by unfold WW; omega]
theorem other_made {i : Ix} {P : List Int} (A : List (List Int)) (hw : ways i.op = true) (hP : Wds P) : vOther i P = made i P A := by
 have hop : 6 ≤ i.op ∧ i.op ≤ 13 := by unfold ways at hw; rw [Bool.and_eq_true,decide_eq_true_eq,decide_eq_true_eq] at hw; exact hw
 obtain ⟨a,ea,ha⟩ : ∃ n : Nat,gI P i.a = (n : Int) ∧ n < WW := ⟨(gI P i.a).toNat,by have := gI_word hP i.a; unfold isW at this; unfold WW; omega⟩
 obtain ⟨b,eb,hb⟩ : ∃ n : Nat,gI P i.b = (n : Int) ∧ n < WW := ⟨(gI P i.b).toNat,by have := gI_word hP i.b; unfold isW at this; unfold WW; omega⟩
 obtain ⟨c,ec,hc⟩ : ∃ n : Nat,gI P i.c = (n : Int) ∧ n < WW := ⟨(gI P i.c).toNat,by have := gI_word hP i.c; unfold isW at this; unfold WW; omega⟩
 have ma : ((a : Int) % 4294967296) = (a : Int) := by unfold WW at ha; omega
 have mb : ((b : Int) % 4294967296) = (b : Int) := by unfold WW at hb; omega
 have mc : ((c : Int) % 4294967296) = (c : Int) := by unfold WW at hc; omega
 have b32 : ((b : Int) % 32).toNat = b % 2 ^ 5 := by
  rw [show (2 : Nat) ^ 5 = 32 by decide]; omega
 unfold vOther made
 rw [ea,eb,ec]
 by_cases h13 : i.op = 13
 ·rw [if_neg (by omega),if_neg (by omega),if_neg (by omega),if_neg (by omega),if_neg (by omega),if_neg (by omega),if_neg (by omega),if_pos h13]
  rw [w_some a ha,w_ch _ b c (by split <;> omega) hb hc]
  unfold selP
  rw [ma,mb,mc]
  by_cases h0 : a = 0
  ·rw [if_pos h0,if_neg (show ¬ (0 : Nat) = 1 by decide),if_pos (show (a : Int) = 0 by omega)]
  ·rw [if_neg h0,if_pos (show (1 : Nat) = 1 from rfl),if_neg (show ¬ (a : Int) = 0 by omega)]
 rw [if_neg h13,if_neg (show ¬ i.op = 14 by omega),if_neg (show ¬ i.op = 15 by omega),if_neg (show ¬ i.op = 16 by omega)]
 generalize hR : Wd.two i.op (a : Int) (b : Int) = R
 unfold Wd.two at hR
 rw [if_neg (show ¬ i.op = 1 by omega),if_neg (show ¬ i.op = 2 by omega),if_neg (show ¬ i.op = 3 by omega),if_neg (show ¬ i.op = 4 by omega),if_neg (show ¬ i.op = 5 by omega)] at hR
 rw [ma,mb,b32] at hR
 by_cases h6 : i.op = 6
 ·rw [if_pos h6] at hR
  rw [← hR,if_pos h6,w_shl a b ha hb 5 (by decide)]
  unfold WW
  simp
 rw [if_neg h6] at hR
 rw [if_neg h6]
 by_cases h7 : i.op = 7
 ·rw [if_pos h7] at hR
  rw [← hR,if_pos h7,w_shr a b ha hb 5 (by decide)]
  simp
 rw [if_neg h7] at hR
 rw [if_neg h7]
 by_cases h8 : i.op = 8
 ·rw [if_pos h8] at hR
  rw [← hR,if_pos h8,w_mul a b ha hb 32 (by decide)]
  dsimp only
  rw [show (2 : Nat) ^ 32 = WW by decide,Nat.mod_eq_of_lt hb]
  unfold WW
  simp
 rw [if_neg h8] at hR
 rw [if_neg h8]
 by_cases h9 : i.op = 9
 ·rw [if_pos h9] at hR
  rw [← hR,if_pos h9,w_quo a b ha hb 32 (by decide),tops_all]
  dsimp only
  unfold oftenN
  by_cases h0 : b = 0
  ·rw [if_pos h0,if_pos (show (b : Int) = 0 by omega)]; rfl
  ·rw [if_neg h0,if_neg (show ¬ (b : Int) = 0 by omega)]; simp
 rw [if_neg h9] at hR
 rw [if_neg h9]
 by_cases h10 : i.op = 10
 ·rw [if_pos h10] at hR
  rw [← hR,if_pos h10,w_rem a b ha hb 32 (by decide),tops_all]
  dsimp only
  unfold leftN
  by_cases h0 : b = 0
  ·rw [if_pos h0,if_pos (show (b : Int) = 0 by omega)]
  ·rw [if_neg h0,if_neg (show ¬ (b : Int) = 0 by omega)]; simp
 rw [if_neg h10] at hR
 rw [if_neg h10]
 by_cases h11 : i.op = 11
 ·rw [if_pos h11] at hR
  rw [← hR,if_pos h11,w_below a b ha hb]
  by_cases hlt : a < b
  ·rw [if_pos hlt,if_pos (show (a : Int) < (b : Int) by omega)]; rfl
  ·rw [if_neg hlt,if_neg (show ¬ (a : Int) < (b : Int) by omega)]; rfl
 rw [if_neg h11] at hR
 rw [← hR,if_neg h11,if_pos (show i.op = 12 by omega)]
 rw [n5 a b ha hb,w_some _ (lt_xor ha hb),show (1 : Int) = ((1 : Nat) : Int) from rfl,n5 _ _ (by split <;> decide) (by decide)]
 by_cases he : a = b
 ·rw [if_pos (by rw [he]; exact Nat.xor_self b),if_pos (show (a : Int) = (b : Int) by omega)]; rfl
 ·rw [if_neg (fun h => he (xor_none h)),if_neg (show ¬ (a : Int) = (b : Int) by omega)]; rfl
end Go.Proofs.Ytfbmkcogkiejnaa.Hg
