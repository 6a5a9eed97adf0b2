/- Laid together: MhLeaf, CdPlain, CdLeaf. -/
import Derived.Test.YtpnacanbknejiaaMhPlain
import Derived.Test.YtpnacanbknejiaaFlSeen2
import Derived.Test.YtpnacanbknejiaaGr2
import Derived.Test.YtpnacanbknejiaaGr4
import Derived.Laws.BytesArg
import Derived.Lib.SlBytesRowKit
namespace Go.Proofs.Ytpnacanbknejiaa.Mh
set_option maxHeartbeats 32000000
set_option maxRecDepth 100000
set_option linter.unusedVariables false
set_option linter.unusedSimpArgs false
open Go.ChangeShapes Go.WideShapes Go.ChangeAt Go.RowKit Lg Lr Fl
def ns (n : Int) : Bool := decide (120 ≤ n)
def rdM (i : Ix) : List Int := if i.op = 23 then [i.a] else rds i
def okM (m : Int) (i : Ix) : Bool := !(ns i.d || (rdM i).any ns) && (decide (i.op ≠ 16 ∧ i.op ≠ 17) || decide (i.b < m))
theorem noslot_any (n : Int) (w : World) : Calls Try.prog 73 #[.int .i64 n] w fun e w' => e = .returned (.bool (ns n)) ∧ w' = w := by
 obtain ⟨p,hp⟩ : ∃ p,decide (120 ≤ n) = p := ⟨_,rfl⟩
 have e : ns n = p := hp
 rw [e]
 clear e
 cases p <;> (go_enter Try.func73,Try.ntmps73; go_wp2; go_ret; exact ⟨rfl,rfl⟩)
theorem index_ns (B : Nat) (l : List Int) (sl : Value) (w : World) (ha : IntsIs w B l sl) (hl : l.length ≤ 1000) :
  Calls Try.prog 84 #[sl,.func (.func 73) #[] #[]] w fun r w' => ∃ i : Int,r = .returned (.int .i64 i) ∧ decide (0 ≤ i) = l.any ns ∧ w' = w := by
 obtain ⟨pa,n,ca,rfl,hn,hca,hla,hea⟩ := ha
 have HA := keep hea
 have HN := keep hn
 rw [hn] at hl
 clear hea hn
 go_enter Try.func84,Try.ntmps84
 go_wp2
 go_loopw [8] (fun i wx => ∃ k : Nat,k ≤ n ∧ i = .int .i64 (k : Int) ∧ (∀ j b,j < k → l[j]? = some b → ns b = false) ∧ wx = w) (fun i _ => n - (intOf i).toNat)
 case atStart => exact ⟨0,by omega,rfl,fun j b hj => by omega,rfl⟩
 case round =>
  obtain ⟨k,hkn,rfl,hno,rfl⟩ := hrel
  have HS := keep hno
  clear hno
  by_cases hkl : k < n
  ·have d1 : decide ((k : Int) < (n : Int)) = true := decide_eq_true (by omega)
   have hkz : (k : Int) < (n : Int) := by omega
   have hk0 : (0 : Int) ≤ (k : Int) := by omega
   obtain ⟨x,hx⟩ : ∃ x,l[k]? = some x := ⟨_,List.getElem?_eq_getElem (by rw [HN.out]; exact hkl)⟩
   obtain ⟨g,o,rfl,hg,a0⟩ := HA.out k x hx
   have HX := keep hx
   have HOne := keep (noslot_any x wr)
   clear hx HA
   obtain ⟨q,hq⟩ : ∃ q,ns x = q := ⟨_,rfl⟩
   rw [hq] at HOne
   have HQ := keep hq
   clear hq
   go_wp2_with fail
   refine HOne.out.mono ?_
   rintro r w1 ⟨rfl,rfl⟩
   cases q with
   | true =>
    go_wp2
    go_ret
    refine ⟨_,rfl,?_,rfl⟩
    rw [decide_eq_true (by omega)]
    exact (List.any_eq_true.2 ⟨x,List.mem_of_getElem? HX.out,HQ.out⟩).symm
   | false =>
    go_wp2
    go_roundw
    case rel => exact ⟨k + 1,by omega,by go_num,fun j b hj hb => by
     by_cases e : j = k
     ·rw [e,HX.out] at hb
      cases hb; exact HQ.out
     ·exact HS.out j b (by omega) hb,trivial⟩
    case measure => simp [intOf]; omega
  ·have hke : k = n := by omega
   subst hke
   have dl : decide ((k : Int) < (k : Int)) = false := decide_eq_false (by omega)
   clear hkl
   go_wp2
   go_ret
   refine ⟨_,rfl,?_,rfl⟩
   symm
   rw [show decide ((0 : Int) ≤ -1) = false from rfl,List.any_eq_false]
   intro x hx
   obtain ⟨j,hj⟩ := List.getElem?_of_mem hx
   have := (List.getElem?_eq_some_iff.1 hj).1
   rw [HS.out j x (by rw [HN.out] at this; exact this) hj]; decide
theorem contains_ns (B : Nat) (l : List Int) (sl : Value) (w : World) (ha : IntsIs w B l sl) (hl : l.length ≤ 1000) :
  Calls Try.prog 74 #[sl,.func (.func 73) #[] #[]] w fun r w' => r = .returned (.bool (l.any ns)) ∧ w' = w := by
 have HC := keep (index_ns B l sl w ha hl)
 obtain ⟨q,hq⟩ : ∃ q,l.any ns = q := ⟨_,rfl⟩
 rw [hq] at HC ⊢
 clear ha hl hq
 go_enter Try.func74,Try.ntmps74
 go_wp2_with fail
 refine HC.out.mono ?_
 rintro r w1 ⟨i,rfl,hi,rfl⟩
 go_wp2
 go_ret
 exact ⟨rfl,rfl⟩
theorem rdM_len (i : Ix) : (rdM i).length ≤ 3 := by
 unfold rdM; split
 ·exact (by simp : ([i.a] : List Int).length ≤ 3)
 ·exact rds_len i
def RdQ (i : Ix) (w : World) (r : Ending) (w' : World) : Prop := ∃ v,r = .returned v ∧ IntsIs w' w'.heap.size (rdM i) v ∧ Below w.heap.size w w'
theorem mreads_any (i : Ix) (w : World) : Calls Try.prog 75 #[.agg (ixA i)] w fun r w' => RdQ i w r w' := by
 obtain ⟨op,d,a,b,c,imm⟩ := i
 obtain ⟨w1,hw1⟩ : ∃ y,w.alloc (.cells #[.int .i64 op,.int .i64 d,.int .i64 a,.int .i64 b,.int .i64 c,.int .i64 imm] 35) = y := ⟨_,rfl⟩
 obtain ⟨X,hX⟩ : ∃ y,w.heap.size = y := ⟨_,rfl⟩
 have b1 : Below w.heap.size w w1 := by rw [← hw1]; exact (Below.refl _ _).alloc (Nat.le_refl _) _
 have kI : Bk w1 X [.int .i64 op,.int .i64 d,.int .i64 a,.int .i64 b,.int .i64 c,.int .i64 imm] 35 := by rw [← hw1,← hX]; exact Bk.new _ _ _
 have y0 := kI.cell 0 rfl
 have y1 := kI.cell 1 rfl
 have y2 := kI.cell 2 rfl
 have y3 := kI.cell 3 rfl
 have y4 := kI.cell 4 rfl
 have y5 := kI.cell 5 rfl
 have HW1 := keep hw1
 have HX := keep hX
 have HB := keep b1
 have HC := keep (reads_any ⟨op,d,a,b,c,imm⟩ w1)
 unfold ixA at HC ⊢
 dsimp only at HC ⊢
 by_cases h23 : op = 23
 ·subst h23
  have HG : Hid (RdQ ⟨23,d,a,b,c,imm⟩ w (.returned (.slice (some ⟨w1.heap.size,0,none⟩) 1 1)) (w1.alloc (.cells #[.int .i64 a] 3))) := by
   have h := ints_new w1 [a] (by simp)
   exact ⟨_,rfl,h,HB.out.trans (((Below.refl _ _).alloc (Nat.le_refl _) _).mono HB.out.size)⟩
  clear hw1 hX b1 kI HC
  go_enter Try.func75,Try.ntmps75
  go_wp2_with (first | rw [HW1.out] | rw [HX.out] | fail)
  go_ret
  exact HG.out
 ·have k23 : (op == 23) = false := by simpa using h23
  have HE : Hid (rdM ⟨op,d,a,b,c,imm⟩ = rds ⟨op,d,a,b,c,imm⟩) := if_neg h23
  clear hw1 hX b1 kI h23
  go_enter Try.func75,Try.ntmps75
  go_wp2_with (first | rw [HW1.out] | rw [HX.out] | fail)
  refine HC.out.mono ?_
  rintro r w2 ⟨v,rfl,hv,hb⟩
  have HG : Hid (RdQ ⟨op,d,a,b,c,imm⟩ w (.returned v) w2) := ⟨v,rfl,by rw [HE.out]; exact hv,HB.out.trans (hb.mono HB.out.size)⟩
  clear hv hb HC
  go_wp2
  go_ret
  exact HG.out
theorem minR_any (i : Ix) (m : Int) (w : World) : Calls Try.prog 53 #[.agg (ixA i),.int .i64 m] w fun r w' => r = .returned (.bool (okM m i)) ∧ Below w.heap.size w w' := by
 obtain ⟨op,d,a,b,c,imm⟩ := i
 obtain ⟨w1,hw1⟩ : ∃ y,w.alloc (.cells #[.int .i64 op,.int .i64 d,.int .i64 a,.int .i64 b,.int .i64 c,.int .i64 imm] 35) = y := ⟨_,rfl⟩
 obtain ⟨X,hX⟩ : ∃ y,w.heap.size = y := ⟨_,rfl⟩
 have b1 : Below w.heap.size w w1 := by rw [← hw1]; exact (Below.refl _ _).alloc (Nat.le_refl _) _
 have kI : Bk w1 X [.int .i64 op,.int .i64 d,.int .i64 a,.int .i64 b,.int .i64 c,.int .i64 imm] 35 := by rw [← hw1,← hX]; exact Bk.new _ _ _
 have y0 := kI.cell 0 rfl
 have y1 := kI.cell 1 rfl
 have y2 := kI.cell 2 rfl
 have y3 := kI.cell 3 rfl
 have y4 := kI.cell 4 rfl
 have y5 := kI.cell 5 rfl
 have HkI := keep kI
 have HW1 := keep hw1
 have HX := keep hX
 have HB := keep b1
 have HN := keep (noslot_any d w1)
 have HR := keep (mreads_any ⟨op,d,a,b,c,imm⟩ w1)
 unfold ixA at HR ⊢
 dsimp only at HR ⊢
 have HK : Hid (∀ q1 q2 q3 q4 q5 : Bool,ns d = q1 → (rdM ⟨op,d,a,b,c,imm⟩).any ns = q2 → (op != 16) = q3 → (op != 17) = q4 → decide (b < m) = q5 → okM m ⟨op,d,a,b,c,imm⟩ = (!(q1 || q2) && (q3 && q4 || q5))) := by
  intro q1 q2 q3 q4 q5 e1 e2 e3 e4 e5
  unfold okM
  dsimp only
  rw [e1,e2,e5]
  have : decide (op ≠ 16 ∧ op ≠ 17) = (q3 && q4) := by
   rw [← e3,← e4,Bool.eq_iff_iff]; simp
  rw [this]
 obtain ⟨q1,hq1⟩ : ∃ q,ns d = q := ⟨_,rfl⟩
 obtain ⟨q2,hq2⟩ : ∃ q,(rdM ⟨op,d,a,b,c,imm⟩).any ns = q := ⟨_,rfl⟩
 obtain ⟨q3,hq3⟩ : ∃ q,(op != 16) = q := ⟨_,rfl⟩
 obtain ⟨q4,hq4⟩ : ∃ q,(op != 17) = q := ⟨_,rfl⟩
 obtain ⟨q5,hq5⟩ : ∃ q,decide (b < m) = q := ⟨_,rfl⟩
 rw [HK.out q1 q2 q3 q4 q5 hq1 hq2 hq3 hq4 hq5]
 rw [hq1] at HN
 have HQ2 := keep hq2
 clear hw1 hX b1 kI HK hq1 hq2
 go_enter Try.func53,Try.ntmps53
 go_wp2_with (first | rw [HW1.out] | rw [HX.out] | fail)
 refine HN.out.mono ?_
 rintro r w2 ⟨rfl,rfl⟩
 cases q1 with
 | true =>
  clear HN HR
  go_wp2
  go_ret
  exact ⟨rfl,HB.out⟩
 | false =>
  clear HN
  go_wp2_with fail
  refine HR.out.mono ?_
  rintro r w3 ⟨v,rfl,hv,hb⟩
  have HC := keep (contains_ns _ _ v w3 hv (by have := rdM_len ⟨op,d,a,b,c,imm⟩; omega))
  have HB3 := keep (HB.out.trans (hb.mono HB.out.size))
  rw [HQ2.out] at HC
  have kI3 := HkI.out.fs (Fs.of_below (l:=[]) hb) (by simp)
  clear y0 y1 y2 y3 y4 y5 hv hb HR
  have y0 := kI3.cell 0 rfl
  have y3 := kI3.cell 3 rfl
  clear kI3
  go_wp2_with fail
  refine HC.out.mono ?_
  rintro r w4 ⟨rfl,rfl⟩
  clear HC
  cases q2 with
  | true =>
   go_wp2
   go_ret
   exact ⟨rfl,HB3.out⟩
  | false =>
   cases q3 <;> cases q4 <;> cases q5 <;> (go_wp2; go_ret; exact ⟨rfl,HB3.out⟩)
end Go.Proofs.Ytpnacanbknejiaa.Mh
namespace Go.Proofs.Ytpnacanbknejiaa.Cd
set_option linter.unusedVariables false
open Go.ChangeShapes Go.WideShapes Go.ChangeAt Go.RowKit Lr
structure Cx where
 op : Int
 d : Int
 a : Int
 b : Int
 c : Int
 imm : Int
deriving DecidableEq
def cxA (i : Cx) : Array Value := #[.int .i64 i.op,.int .i64 i.d,.int .i64 i.a,.int .i64 i.b,.int .i64 i.c,.int .i64 i.imm]
def nb (n : Int) : Bool := decide (n < 0) || decide (255 < n)
def isOp (n : Int) : Bool := decide (1 ≤ n) && decide (n ≤ 23)
def isW (n : Int) : Bool := decide (0 ≤ n) && decide (n ≤ 4294967295)
def five (i : Cx) : List Int := [i.op,i.d,i.a,i.b,i.c]
def num4 (l : List Int) : Int := l.foldl (fun s x => s * 256 + x) 0
def parseM (l : List Int) : Cx × Int :=
 if l.length ≠ 8 then (⟨0,0,0,0,0,0⟩,2) else if isOp (l.getD 0 0) = false then (⟨0,0,0,0,0,0⟩,1) else
 if l.getD 0 0 ≠ 13 then (⟨l.getD 0 0,l.getD 1 0,l.getD 2 0,l.getD 3 0,0,num4 (l.drop 4)⟩,0) else
 if nb (num4 (l.drop 4)) then (⟨0,0,0,0,0,0⟩,3) else (⟨l.getD 0 0,l.getD 1 0,l.getD 2 0,l.getD 3 0,num4 (l.drop 4),0⟩,0)
def BysIs (w : World) (B : Nat) (l : List Int) (sl : Value) : Prop := ∃ (p : Option Addr) (cap : Nat),sl = .slice p l.length cap ∧ l.length ≤ cap ∧
 (∀ x ∈ l,0 ≤ x ∧ x < 256) ∧ (p = none → l = []) ∧ (∀ q,p = some q → ∃ g o,q = ⟨g,o,none⟩ ∧ g < B ∧ ∀ j x,l[j]? = some x → w.cell? ⟨g,o + j,none⟩ = some (.int .u8 x))
theorem BysIs.below {w w' : World} {B : Nat} {l : List Int} {sl : Value} (hb : Below B w w') (h : BysIs w B l sl) : BysIs w' B l sl := by
 obtain ⟨p,cap,h1,h2,h3,h4,h5⟩ := h
 refine ⟨p,cap,h1,h2,h3,h4,fun q hq => ?_⟩
 obtain ⟨g,o,e,hg,hc⟩ := h5 q hq
 exact ⟨g,o,e,hg,fun j x hj => by rw [cell_below hb hg]; exact hc j x hj⟩
theorem BysIs.mono {w : World} {B B' : Nat} {l : List Int} {sl : Value} (hB : B ≤ B') (h : BysIs w B l sl) : BysIs w B' l sl := by
 obtain ⟨p,cap,h1,h2,h3,h4,h5⟩ := h
 refine ⟨p,cap,h1,h2,h3,h4,fun q hq => ?_⟩
 obtain ⟨g,o,e,hg,hc⟩ := h5 q hq
 exact ⟨g,o,e,by omega,hc⟩
set_option linter.unusedSimpArgs false
theorem nobyte_any (n : Int) (w : World) : Calls Try.prog 72 #[.int .i64 n] w fun e w' => e = .returned (.bool (nb n)) ∧ w' = w := by
 obtain ⟨p,hp⟩ : ∃ p,decide (n < 0) = p := ⟨_,rfl⟩
 obtain ⟨q,hq⟩ : ∃ q,decide (255 < n) = q := ⟨_,rfl⟩
 have e : nb n = (p || q) := by rw [← hp,← hq]; rfl
 rw [e]
 clear e
 cases p <;> cases q <;> (go_enter Try.func72,Try.ntmps72; go_wp2; go_ret; exact ⟨rfl,rfl⟩)
theorem isop_any (n : Int) (w : World) : Calls Try.prog 71 #[.int .i64 n] w fun e w' => e = .returned (.bool (isOp n)) ∧ w' = w := by
 obtain ⟨p,hp⟩ : ∃ p,decide (1 ≤ n) = p := ⟨_,rfl⟩
 obtain ⟨q,hq⟩ : ∃ q,decide (n ≤ 23) = q := ⟨_,rfl⟩
 have e : isOp n = (p && q) := by rw [← hp,← hq]; rfl
 rw [e]
 clear e
 cases p <;> cases q <;> (go_enter Try.func71,Try.ntmps71; go_wp2; go_ret; exact ⟨rfl,rfl⟩)
end Go.Proofs.Ytpnacanbknejiaa.Cd
