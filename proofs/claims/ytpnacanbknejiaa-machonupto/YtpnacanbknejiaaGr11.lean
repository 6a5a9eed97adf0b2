/- Laid together: TbWalks, TbBits, TbWrong, TbBlk, FlSeen. -/
import Derived.Test.YtpnacanbknejiaaProg
import Derived.Test.YtpnacanbknejiaaGr0
import Derived.ProofKit
import Derived.OpenShut
import Derived.Deep.QuietTactic
import Derived.BigQuiet
import Derived.WalkKit
import Derived.Laws.BitsLemmas
import Derived.Test.YtpnacanbknejiaaGr2
import Derived.Laws.Rows
import Derived.Laws.ResultCell
import Derived.Laws.CopyOwn
import Derived.Test.YtpnacanbknejiaaGr9
import Derived.Test.YtpnacanbknejiaaLfRfit
namespace Go.Proofs.Ytpnacanbknejiaa.Tb
set_option linter.unusedVariables false
open Go.ChangeShapes Go.WideShapes Go.ChangeAt Go.RowKit
theorem keep {p : Prop} (h : p) : Hid p := h
theorem ret_int {k : IntKind} {a b : Int} (h : a = b) : Ending.returned (.int k a) = .returned (.int k b) := by rw [h]
def allV (op : Int) : Int := if 1 ≤ op ∧ op ≤ 12 ∨ op = 16 ∨ op = 17 then 3 else if op = 13 then 7 else if op = 15 then 1 else 0
theorem all_any (op : Int) (w : World) :
  Calls Try.prog 64 #[.int .i64 op] w fun e w' => e = .returned (.int .i64 (allV op)) ∧ w' = w := by
 by_cases h1 : 1 ≤ op
 ·have d1 : decide (1 ≤ op) = true := by simpa using h1
  by_cases h2 : op ≤ 12
  ·have d2 : decide (op ≤ 12) = true := by simpa using h2
   have e : allV op = 3 := if_pos (.inl ⟨h1,h2⟩)
   rw [e]
   go_enter Try.func64,Try.ntmps64
   go_wp2
   go_ret
   exact ⟨rfl,rfl⟩
  ·have d2 : decide (op ≤ 12) = false := by simpa using h2
   have h0 : op = 16 ∨ op = 17 ∨ op = 13 ∨ op = 15 ∨ (¬ op = 16 ∧ ¬ op = 17 ∧ ¬ op = 13 ∧ ¬ op = 15) := by omega
   rcases h0 with rfl | rfl | rfl | rfl | ⟨h16,h17,h13,h15⟩
   ·go_enter Try.func64,Try.ntmps64
    go_wp2
    go_ret
    exact ⟨rfl,rfl⟩
   ·go_enter Try.func64,Try.ntmps64
    go_wp2
    go_ret
    exact ⟨rfl,rfl⟩
   ·go_enter Try.func64,Try.ntmps64
    go_wp2
    go_ret
    exact ⟨rfl,rfl⟩
   ·go_enter Try.func64,Try.ntmps64
    go_wp2
    go_ret
    exact ⟨rfl,rfl⟩
   ·have e : allV op = 0 := by
     unfold allV
     rw [if_neg (by omega),if_neg h13,if_neg h15]
    rw [e]
    go_enter Try.func64,Try.ntmps64
    go_wp2
    go_ret
    exact ⟨rfl,rfl⟩
 ·have d1 : decide (1 ≤ op) = false := by simpa using h1
  have h16 : ¬ op = 16 := by omega
  have h17 : ¬ op = 17 := by omega
  have h13 : ¬ op = 13 := by omega
  have h15 : ¬ op = 15 := by omega
  have e : allV op = 0 := by
   unfold allV
   rw [if_neg (by omega),if_neg h13,if_neg h15]
  rw [e]
  clear h1
  go_enter Try.func64,Try.ntmps64
  go_wp2
  go_ret
  exact ⟨rfl,rfl⟩
end Go.Proofs.Ytpnacanbknejiaa.Tb
namespace Go.Proofs.Ytpnacanbknejiaa.Tb
set_option linter.unusedVariables false
theorem or_iff (X M : BitVec 64) : X ||| M = M ↔ X &&& M = X := by
 constructor
 ·intro h
  apply BitVec.eq_of_getLsbD_eq
  intro i hi
  have := congrArg (fun v => BitVec.getLsbD v i) h
  simp only [BitVec.getLsbD_and,BitVec.getLsbD_or] at this ⊢
  cases h1 : X.getLsbD i <;> cases h2 : M.getLsbD i <;> simp_all
 ·intro h
  apply BitVec.eq_of_getLsbD_eq
  intro i hi
  have := congrArg (fun v => BitVec.getLsbD v i) h
  simp only [BitVec.getLsbD_and,BitVec.getLsbD_or] at this ⊢
  cases h1 : X.getLsbD i <;> cases h2 : M.getLsbD i <;> simp_all
theorem and_low (X : BitVec 64) (j : Nat) (hj : j < 64) (M : BitVec 64) (hM : M.toNat = 2 ^ j - 1) : X &&& M = X ↔ X.toNat < 2 ^ j := by
 rw [← BitVec.toNat_inj,BitVec.toNat_and,hM,Nat.and_two_pow_sub_one_eq_mod]
 constructor
 ·intro h
  have := Nat.mod_lt X.toNat (Nat.two_pow_pos j)
  omega
 ·intro h; exact Nat.mod_eq_of_lt h
theorem ofInt_lt (x : Int) (h1 : -9223372036854775808 ≤ x) (h2 : x ≤ 9223372036854775807) (B : Nat) (hB : B ≤ 8) : (BitVec.ofInt 64 x).toNat < B ↔ 0 ≤ x ∧ x < B := by
 rw [BitVec.toNat_ofInt]
 have : ((2 ^ 64 : Nat) : Int) = 18446744073709551616 := by decide
 rw [this]
 omega
theorem wrap_small (n : Nat) (h : n < 2 ^ 64) (m : Nat) (hm : m ≤ 7) : IntKind.i64.wrap (n : Int) = (m : Int) ↔ n = m := by
 have : (2 : Nat) ^ 64 = 18446744073709551616 := by decide
 rw [IntKind.wrap_i64]
 omega
theorem most_pow (k : Nat) (h : k < 18) : ∃ j : Nat,j < 4 ∧ most k = ((2 ^ j - 1 : Nat) : Int) := by
 have : ∀ i : Fin 18,∃ j : Fin 4,most i.val = ((2 ^ j.val - 1 : Nat) : Int) := by decide
 obtain ⟨j,hj⟩ := this ⟨k,h⟩
 exact ⟨j.val,j.isLt,hj⟩
theorem bits_core (x : Int) (h1 : -9223372036854775808 ≤ x) (h2 : x ≤ 9223372036854775807) (k : Nat) (hk : k < 18) :
  (BitVec.ofInt 64 x &&& BitVec.ofInt 64 (most k) = BitVec.ofInt 64 x ↔ 0 ≤ x ∧ x ≤ most k) ∧ (BitVec.ofInt 64 (most k)).toNat = (most k).toNat ∧ 0 ≤ most k ∧ most k ≤ 7 := by
 obtain ⟨j,hj,e⟩ := most_pow k hk
 have hm : (BitVec.ofInt 64 (most k)).toNat = 2 ^ j - 1 := by
  rw [e]
  have : j = 0 ∨ j = 1 ∨ j = 2 ∨ j = 3 := by omega
  rcases this with rfl | rfl | rfl | rfl <;> decide
 have hp : 2 ^ j ≤ 8 ∧ 1 ≤ 2 ^ j := by
  have : j = 0 ∨ j = 1 ∨ j = 2 ∨ j = 3 := by omega
  rcases this with rfl | rfl | rfl | rfl <;> decide
 refine ⟨?_,by rw [hm,e]; omega,by rw [e]; omega,by rw [e]; omega⟩
 rw [and_low _ j (by omega) _ hm,ofInt_lt x h1 h2 _ hp.1,e]
 omega
theorem or_most (x : Int) (h1 : -9223372036854775808 ≤ x) (h2 : x ≤ 9223372036854775807) (k : Nat) (hk : k < 18) : bits .or .i64 x (most k) = most k ↔ 0 ≤ x ∧ x ≤ most k := by
 obtain ⟨c1,c2,c3,c4⟩ := bits_core x h1 h2 k hk
 rw [← c1,← or_iff,← BitVec.toNat_inj,c2]
 show IntKind.i64.wrap (((BitVec.ofInt 64 x ||| BitVec.ofInt 64 (most k)).toNat : Nat) : Int) = most k ↔ _
 have e : most k = (((most k).toNat : Nat) : Int) := by omega
 conv => lhs; rhs; rw [e]
 rw [wrap_small _ (BitVec.isLt _) _ (by omega)]
end Go.Proofs.Ytpnacanbknejiaa.Tb
namespace Go.Proofs.Ytpnacanbknejiaa.Tb
set_option linter.unusedVariables false
open Go.ChangeShapes Go.WideShapes Go.ChangeAt Go.RowKit
abbrev tabA (t : Nat → Int) : Array Value := #[.int .i64 (t 0),.int .i64 (t 1),.int .i64 (t 2),.int .i64 (t 3),.int .i64 (t 4),.int .i64 (t 5),.int .i64 (t 6),.int .i64 (t 7),.int .i64 (t 8),.int .i64 (t 9),.int .i64 (t 10),.int .i64 (t 11),.int .i64 (t 12),.int .i64 (t 13),.int .i64 (t 14),.int .i64 (t 15),.int .i64 (t 16),.int .i64 (t 17)]
def I64 (t : Nat → Int) : Prop := ∀ k,-9223372036854775808 ≤ t k ∧ t k ≤ 9223372036854775807
theorem tabA_at (t : Nat → Int) : ∀ k : Nat,k < 18 → (tabA t)[k]? = some (.int .i64 (t k)) := by
 intro k h
 match k,h with
 | 0,_ => rfl
 | 1,_ => rfl
 | 2,_ => rfl
 | 3,_ => rfl
 | 4,_ => rfl
 | 5,_ => rfl
 | 6,_ => rfl
 | 7,_ => rfl
 | 8,_ => rfl
 | 9,_ => rfl
 | 10,_ => rfl
 | 11,_ => rfl
 | 12,_ => rfl
 | 13,_ => rfl
 | 14,_ => rfl
 | 15,_ => rfl
 | 16,_ => rfl
 | 17,_ => rfl
 | k + 18,h => exact absurd h (by omega)
theorem wrongT_bad {t : Nat → Int} (h0 : t 0 = 0) {k : Nat} (k1 : 1 ≤ k) (k2 : k ≤ 17) (h : ¬ (0 ≤ t k ∧ t k ≤ most k)) : wrongT t = 3 := by
 unfold wrongT
 rw [if_neg (by simpa using h0),if_neg]
 intro hh
 have := hh ⟨k - 1,by omega⟩
 rw [show (⟨k - 1,by omega⟩ : Fin 17).val + 1 = k by simp; omega] at this
 exact h (of_decide_eq_true this)
theorem wrongT_good {t : Nat → Int} (h0 : t 0 = 0) (h : ∀ k,1 ≤ k → k < 18 → 0 ≤ t k ∧ t k ≤ most k) : wrongT t = 0 := by
 unfold wrongT
 rw [if_neg (by simpa using h0),if_pos]
 intro k
 exact decide_eq_true (h (k.val + 1) (by omega) (by omega))
def upto (t : Nat → Int) (k : Nat) : Prop := ∀ j,1 ≤ j → j < k → 0 ≤ t j ∧ t j ≤ most j
theorem below_drewN {B : Nat} {a w : World} (h : Below B a w) (n : Nat) : Below B a (w.drewN n) := ⟨h.os,h.tape,h.output,h.size,h.block⟩
def Blk (w : World) (b : Nat) (t : Nat → Int) : Prop := w.heap[b]? = some (.cells (tabA t) 29 (0,0))
theorem Blk.lies {w : World} {b : Nat} {t : Nat → Int} (h : Blk w b t) : ∀ k : Nat,k < 18 → w.cell? ⟨b,k,none⟩ = some (.int .i64 (t k)) := fun k hk => by
 rw [Lib.cell_of_heap h]; exact tabA_at t k hk
theorem Blk.lt {w : World} {b : Nat} {t : Nat → Int} (h : Blk w b t) : b < w.heap.size := by
 rcases Nat.lt_or_ge b w.heap.size with h' | h'
 ·exact h'
 ·simp [Blk,Array.getElem?_eq_none h'] at h
theorem Blk.below {w w' : World} {b B : Nat} {t : Nat → Int} (h : Blk w b t) (hb : Below B w w') (hB : b < B) : Blk w' b t := by
 unfold Blk; rw [hb.block b hB]; exact h
theorem blk_alloc (w : World) (t : Nat → Int) : Blk (w.alloc (.cells (tabA t) 29)) w.heap.size t := (MapKept.heap_alloc w _).1
theorem Blk.alloc {w : World} {b : Nat} {t : Nat → Int} (h : Blk w b t) (o : Obj) : Blk (w.alloc o) b t := by
 unfold Blk; rw [(MapKept.heap_alloc w o).2 b h.lt]; exact h
theorem tab_info (t : Nat → Int) : (Try.prog.info? 29).map (·.size) = some (tabA t).size := by
 rw [show (tabA t).size = 18 from rfl]; kernel_rfl
theorem load_want {ops : Array Oper} {rest : List Oper} {o : Oper} {a : Act} {w : World} {Q : Exit → Act → World → Prop} (hw : Region.wanted o (yielded ops a.tmps) = true) (x : Operand) (ho : o.op = .load 29 x)
  (g : Nat) (hx : a.eval x = .pointer (some ⟨g,0,none⟩)) (t : Nat → Int) (hg : Blk w g t) (h : wpList Try.prog ops Q rest (a.put o.dst (.agg (tabA t))) w) : wpList Try.prog ops Q (o :: rest) a w :=
 BigFrame.wpList_want hw fun _ hK => wp_load_row 29 x ho g hx 29 (tabA t) (0,0) _ hg Try.underlying29 rfl (tab_info t) (hK _ _ h)
theorem load_tab {ops : Array Oper} {rest : List Oper} {o : Oper} {a : Act} {w : World} {Q : Exit → Act → World → Prop} (hgd : o.guard = none) (x : Operand) (ho : o.op = .load 29 x)
  (g : Nat) (hx : a.eval x = .pointer (some ⟨g,0,none⟩)) (t : Nat → Int) (hg : Blk w g t) (h : wpList Try.prog ops Q rest (a.put o.dst (.agg (tabA t))) w) : wpList Try.prog ops Q (o :: rest) a w :=
 wpList_load_row hgd 29 x ho g hx 29 (tabA t) (0,0) _ hg Try.underlying29 rfl (tab_info t) h
end Go.Proofs.Ytpnacanbknejiaa.Tb
namespace Go.Proofs.Ytpnacanbknejiaa.Fl
set_option maxHeartbeats 32000000
set_option maxRecDepth 100000
set_option linter.unusedVariables false
set_option linter.unusedSimpArgs false
open Go.ChangeShapes Go.WideShapes Go.ChangeAt Go.RowKit Lg Lr
def bitsG (T : Nat → Int) (op : Int) (all : Bool) : Int := if op = 19 then 1 else if all = true ∨ op < 1 ∨ 17 < op then Tb.allV op else T op.toNat
def valsW (n : Int) (P : List Int) : Nat → List Int → List Int
 | _,[] => []
 | k,p :: l => if bitOn n k = true ∧ wi p P.length = true then gI P p :: valsW n P (k + 1) l else valsW n P (k + 1) l
theorem valsW_in {n : Int} {P : List Int} : ∀ {l : List Int} {k : Nat},(∀ p ∈ l,0 ≤ p ∧ p < P.length) → valsW n P k l = valsL n P k l
 | [],_,_ => rfl
 | p :: l,k,h => by
  have ih := valsW_in (n:=n) (P:=P) (l:=l) (k:=k + 1) (fun q hq => h q (by simp [hq]))
  have hp := wi_iff.2 (h p (by simp))
  rw [valsW,valsL,ih,hp]
  simp
theorem seenBits_any (T : Nat → Int) (op : Int) (all : Bool) (w : World) : Calls Try.prog 41 #[.agg (Tb.tabA T),.int .i64 op,.bool all] w fun r w' => r = .returned (.int .i64 (bitsG T op all)) ∧ Below w.heap.size w w' := by
 have HB : Hid (Below w.heap.size w (w.alloc (.cells (Tb.tabA T) 29))) := (Below.refl _ _).alloc (Nat.le_refl _) _
 have HK := keep (Tb.blk_alloc w T)
 obtain ⟨w1,hw1⟩ : ∃ y,w.alloc (.cells (Tb.tabA T) 29) = y := ⟨_,rfl⟩
 rw [hw1] at HB HK
 have HW1 := keep hw1
 clear hw1
 by_cases h9 : op = 19
 ·subst h9
  have HE : Hid (bitsG T 19 all = 1) := by show _ = _; unfold bitsG; rw [if_pos rfl]
  go_enter Try.func41,Try.ntmps41
  go_wp2_with (first | rw [HW1.out] | fail)
  go_ret
  exact ⟨by rw [HE.out]; rfl,HB.out⟩
 ·have k9 : (op == 19) = false := by simpa using h9
  have HA := keep (Tb.all_any op w1)
  by_cases ha : all = true ∨ op < 1 ∨ 17 < op
  ·have HE : Hid (bitsG T op all = Tb.allV op) := by show _ = _; unfold bitsG; rw [if_neg h9,if_pos ha]
   cases all with
   | true =>
    clear h9 ha
    go_enter Try.func41,Try.ntmps41
    go_wp2_with (first | rw [HW1.out] | fail)
    refine HA.out.mono ?_
    rintro r w2 ⟨rfl,rfl⟩
    clear HA
    go_wp2
    go_ret
    exact ⟨by rw [HE.out]; rfl,HB.out⟩
   | false =>
    by_cases h1 : op < 1
    ·have d1 : decide (op < 1) = true := decide_eq_true h1
     clear h9 ha
     go_enter Try.func41,Try.ntmps41
     go_wp2_with (first | rw [HW1.out] | fail)
     refine HA.out.mono ?_
     rintro r w2 ⟨rfl,rfl⟩
     clear HA
     go_wp2
     go_ret
     exact ⟨by rw [HE.out]; rfl,HB.out⟩
    ·have d1 : decide (op < 1) = false := decide_eq_false h1
     have d2 : decide (17 < op) = true := decide_eq_true (by rcases ha with h | h | h; cases h; exact absurd h h1; exact h)
     clear h9 ha h1
     go_enter Try.func41,Try.ntmps41
     go_wp2_with (first | rw [HW1.out] | fail)
     refine HA.out.mono ?_
     rintro r w2 ⟨rfl,rfl⟩
     clear HA
     go_wp2
     go_ret
     exact ⟨by rw [HE.out]; rfl,HB.out⟩
  ·have HE : Hid (bitsG T op all = T op.toNat) := by show _ = _; unfold bitsG; rw [if_neg h9,if_neg ha]
   obtain rfl : all = false := by cases all; rfl; exact absurd (.inl rfl) ha
   have h1 : ¬ op < 1 := fun h => ha (.inr (.inl h))
   have h2 : ¬ 17 < op := fun h => ha (.inr (.inr h))
   have d1 : decide (op < 1) = false := decide_eq_false h1
   have d2 : decide (17 < op) = false := decide_eq_false h2
   obtain ⟨k,rfl⟩ : ∃ k : Nat,op = (k : Int) := ⟨op.toNat,by omega⟩
   have hk0 : (0 : Int) ≤ (k : Int) := by omega
   have hk18 : (k : Int) < 18 := by omega
   have hcell := HK.out.lies k (by omega)
   clear h9 ha h1 h2 HA
   go_enter Try.func41,Try.ntmps41
   go_wp2_with (first | rw [HW1.out] | fail)
   go_ret
   exact ⟨by rw [HE.out]; rfl,HB.out⟩
theorem bit_on (n : Int) (h0 : 0 ≤ n) (h7 : n ≤ 7) (k : Nat) (hk : k < 3) : (bits .and .i64 n (2 ^ k) != 0) = bitOn n k := by
 have : ∀ (a : Fin 8) (j : Fin 3),(bits .and .i64 ((a.val : Nat) : Int) (2 ^ j.val) != 0) = bitOn ((a.val : Nat) : Int) j.val := by decide
 have h := this ⟨n.toNat,by omega⟩ ⟨k,hk⟩
 dsimp only at h
 rw [Int.toNat_of_nonneg h0] at h
 exact h
theorem rds_len (i : Ix) : (rds i).length ≤ 3 := by
 unfold rds
 split
 ·simp
 ·split
  ·simp
  ·split
   ·simp
   ·split <;> simp
end Go.Proofs.Ytpnacanbknejiaa.Fl
