/- Laid together: MhAlive, RtOps, LmCode. -/
import Derived.Test.YtpnacanbknejiaaMhWords
import Derived.Great.BuildSlice
import Derived.Test.YtpnacanbknejiaaGr9
import Derived.Test.YtpnacanbknejiaaGr1
import Derived.Test.YtpnacanbknejiaaGr5
namespace Go.Proofs.Ytpnacanbknejiaa.Mh
set_option linter.unusedVariables false
set_option linter.unusedSimpArgs false
open Go.ChangeShapes Go.WideShapes Go.ChangeAt Go.RowKit Lg Lr Fl
end Go.Proofs.Ytpnacanbknejiaa.Mh
namespace Go.Proofs.Ytpnacanbknejiaa.Rt
set_option maxHeartbeats 32000000
set_option maxRecDepth 100000
set_option linter.unusedVariables false
open Go.ChangeShapes Go.WideShapes Go.ChangeAt Go.RowKit Tb
def opsN : Array Value := #[.string ⟨#[]⟩,.string ⟨#[97,100,100]⟩,.string ⟨#[115,117,98]⟩,.string ⟨#[97,110,100]⟩,.string ⟨#[111,114]⟩,.string ⟨#[120,111,114]⟩,.string ⟨#[115,104,108]⟩,.string ⟨#[115,104,114]⟩,.string ⟨#[109,117,108]⟩,.string ⟨#[100,105,118]⟩,.string ⟨#[114,101,109]⟩,.string ⟨#[108,101,115,115]⟩,.string ⟨#[115,97,109,101]⟩,.string ⟨#[115,101,108]⟩,.string ⟨#[99,111,110,115,116]⟩,.string ⟨#[109,111,118,101]⟩,.string ⟨#[108,111,97,100]⟩,.string ⟨#[115,116,111,114,101]⟩]
def opsM : Array Value := #[.int .i64 0,.int .i64 3,.int .i64 3,.int .i64 3,.int .i64 3,.int .i64 3,.int .i64 3,.int .i64 3,.int .i64 3,.int .i64 3,.int .i64 3,.int .i64 3,.int .i64 3,.int .i64 7,.int .i64 0,.int .i64 1,.int .i64 1,.int .i64 3]
theorem ops_any (w : World) :
  Calls Try.prog 40 #[] w fun e w' => e = .returned (.tuple #[.slice (some ⟨w.heap.size,0,none⟩) 18 18,.slice (some ⟨w.heap.size + 1,0,none⟩) 18 18]) ∧ w' = (w.alloc (.cells opsN 9)).alloc (.cells opsM 3) := by
 go_enter Try.func40,Try.ntmps40
 go_wp2
 go_ret2
 exact ⟨rfl,rfl⟩
theorem opsM_at (k : Nat) (h : k < 18) : opsM[k]? = some (.int .i64 (most k)) := by
 have : ∀ j : Fin 18,opsM[j.val]? = some (.int .i64 (most j.val)) := by
  intro j
  match j with
  | ⟨0,_⟩ => rfl
  | ⟨1,_⟩ => rfl
  | ⟨2,_⟩ => rfl
  | ⟨3,_⟩ => rfl
  | ⟨4,_⟩ => rfl
  | ⟨5,_⟩ => rfl
  | ⟨6,_⟩ => rfl
  | ⟨7,_⟩ => rfl
  | ⟨8,_⟩ => rfl
  | ⟨9,_⟩ => rfl
  | ⟨10,_⟩ => rfl
  | ⟨11,_⟩ => rfl
  | ⟨12,_⟩ => rfl
  | ⟨13,_⟩ => rfl
  | ⟨14,_⟩ => rfl
  | ⟨15,_⟩ => rfl
  | ⟨16,_⟩ => rfl
  | ⟨17,_⟩ => rfl
  | ⟨i + 18,h⟩ => exact absurd h (by omega)
 exact this ⟨k,h⟩
theorem opsN_at (k : Nat) (h1 : 1 ≤ k) (h : k < 18) : opsN[k]? = some (.string ⟨(nm k).toArray⟩) := by
 have : ∀ j : Fin 17,opsN[j.val + 1]? = some (.string ⟨(nm (j.val + 1)).toArray⟩) := by
  intro j
  match j with
  | ⟨0,_⟩ => rfl
  | ⟨1,_⟩ => rfl
  | ⟨2,_⟩ => rfl
  | ⟨3,_⟩ => rfl
  | ⟨4,_⟩ => rfl
  | ⟨5,_⟩ => rfl
  | ⟨6,_⟩ => rfl
  | ⟨7,_⟩ => rfl
  | ⟨8,_⟩ => rfl
  | ⟨9,_⟩ => rfl
  | ⟨10,_⟩ => rfl
  | ⟨11,_⟩ => rfl
  | ⟨12,_⟩ => rfl
  | ⟨13,_⟩ => rfl
  | ⟨14,_⟩ => rfl
  | ⟨15,_⟩ => rfl
  | ⟨16,_⟩ => rfl
  | ⟨i + 17,h⟩ => exact absurd h (by omega)
 have := this ⟨k - 1,by omega⟩
 rwa [show (⟨k - 1,by omega⟩ : Fin 17).val + 1 = k by simp; omega] at this
def NBlk (w : World) (b : Nat) : Prop := w.heap[b]? = some (.cells opsN 9 (0,0))
def MBlk (w : World) (b : Nat) : Prop := w.heap[b]? = some (.cells opsM 3 (0,0))
theorem MBlk.cell {w : World} {b : Nat} (h : MBlk w b) (k : Nat) (hk : k < 18) : w.cell? ⟨b,k,none⟩ = some (.int .i64 (most k)) := by
 rw [Lib.cell_of_heap h]; exact opsM_at k hk
theorem NBlk.cell {w : World} {b : Nat} (h : NBlk w b) (k : Nat) (h1 : 1 ≤ k) (hk : k < 18) : w.cell? ⟨b,k,none⟩ = some (.string ⟨(nm k).toArray⟩) := by
 rw [Lib.cell_of_heap h]; exact opsN_at k h1 hk
theorem NBlk.zero {w : World} {b : Nat} (h : NBlk w b) : w.cell? ⟨b,0,none⟩ = some (.string ⟨#[]⟩) := by
 rw [Lib.cell_of_heap h]; rfl
theorem ops_lies (w : World) :
  Calls Try.prog 40 #[] w fun e w' => e = .returned (.tuple #[.slice (some ⟨w.heap.size,0,none⟩) 18 18,.slice (some ⟨w.heap.size + 1,0,none⟩) 18 18]) ∧ NBlk w' w.heap.size ∧ MBlk w' (w.heap.size + 1) ∧ Below w.heap.size w w' := by
 refine (ops_any w).mono ?_
 rintro e w' ⟨rfl,rfl⟩
 refine ⟨rfl,?_,?_,((Below.refl _ _).alloc (Nat.le_refl _) _).alloc (by simp) _⟩
 ·unfold NBlk
  rw [(MapKept.heap_alloc _ _).2 w.heap.size (by simp)]
  exact (MapKept.heap_alloc _ _).1
 ·unfold MBlk
  have := (MapKept.heap_alloc (w.alloc (.cells opsN 9)) (.cells opsM 3)).1
  rw [show (w.alloc (.cells opsN 9)).heap.size = w.heap.size + 1 by simp] at this
  exact this
theorem wrong_any (t : Nat → Int) (ht : I64 t) (w : World) :
  Calls Try.prog 18 #[.agg (tabA t)] w fun e w' => e = .returned (.int .i64 (wrongT t)) ∧ Below w.heap.size w w' := by
 by_cases h0 : t 0 = 0
 ·have d0 : (t 0 != 0) = false := by simpa using h0
  have H0 := keep h0
  have HT := keep ht
  have HK0 := keep (blk_alloc w t)
  have HB0 := keep ((Below.refl w.heap.size w).alloc (Nat.le_refl _) (.cells (tabA t) 29))
  clear h0 ht
  go_enter Try.func18,Try.ntmps18
  go_wp2_with fail
  refine (ops_lies _).mono ?_
  rintro e w1 ⟨rfl,-,hm,hb⟩
  rw [show (w.alloc (.cells (tabA t) 29)).heap.size = w.heap.size + 1 by simp] at hm
  have HK1 := keep (HK0.out.below hb HK0.out.lt)
  have HM1 := keep hm
  have HB1 := keep (HB0.out.trans (hb.mono HB0.out.size))
  clear hm hb HK0 HB0
  go_wp2
  go_loopw [5] (fun i wx => ∃ k : Nat,1 ≤ k ∧ k ≤ 18 ∧ i = .int .i64 (k : Int) ∧ upto t k ∧ Blk wx w.heap.size t ∧ MBlk wx (w.heap.size + 2) ∧ Below w.heap.size w wx) (fun i _ => 18 - (intOf i).toNat)
  case atStart => exact ⟨1,by omega,by omega,rfl,fun j _ _ => by omega,HK1.out,HM1.out,HB1.out⟩
  case round =>
   clear HK1 HM1 HB1
   obtain ⟨k,k1,k2,rfl,hu,hbt,hm,hb⟩ := hrel
   have HU := keep hu
   have HBT := keep hbt
   have HM := keep hm
   have HB := keep hb
   clear hu hb hbt hm
   by_cases hk : k ≤ 17
   ·have hkz : (k : Int) ≤ 17 := by omega
    have hk0 : (0 : Int) ≤ (k : Int) := by omega
    have hk18 : (k : Int) < 18 := by omega
    have hcell := HBT.out.lies k (by omega)
    have hcm := HM.out.cell k (by omega)
    have hb := or_most (t k) (HT.out k).1 (HT.out k).2 k (by omega)
    by_cases hf : 0 ≤ t k ∧ t k ≤ most k
    ·have hb0 : (bits .or .i64 (t k) (most k) != most k) = false := by simpa using hb.2 hf
     have HF := keep hf
     clear hb hf
     go_wp2
     go_quiet (fail)
     go_wp2
     go_roundw
     case rel =>
      exact ⟨k + 1,by omega,by omega,by go_num,fun j j1 j2 => by
       by_cases e : j = k
       ·rw [e]; exact HF.out
       ·exact HU.out j j1 (by omega),HBT.out,HM.out,Tb.below_drewN HB.out _⟩
     case measure => simp [intOf]; omega
    ·have hb0 : (bits .or .i64 (t k) (most k) != most k) = true := by simpa using fun e => hf (hb.1 e)
     have HE := keep (wrongT_bad H0.out k1 hk hf)
     clear hb hf
     go_wp2
     go_quiet (fail)
     go_wp2
     go_ret
     exact ⟨ret_int HE.out.symm,Tb.below_drewN HB.out _⟩
   ·have hk18 : k = 18 := by omega
    subst hk18
    have HE := keep (wrongT_good H0.out fun j j1 j2 => HU.out j j1 j2)
    go_wp2
    go_ret
    exact ⟨ret_int HE.out.symm,HB.out⟩
 ·have e : wrongT t = 1 := by unfold wrongT; rw [if_pos h0]
  have d0 : (t 0 != 0) = true := by simpa using h0
  rw [e]
  clear h0 e
  go_enter Try.func18,Try.ntmps18
  go_wp2
  go_ret
  exact ⟨rfl,(Below.refl _ _).alloc (Nat.le_refl _) _⟩
end Go.Proofs.Ytpnacanbknejiaa.Rt
namespace Go.Proofs.Ytpnacanbknejiaa.Lr
set_option linter.unusedVariables false
open Go.RowKit
def fstC : Code → Code
 | .seq a _ => a
 | _ => .skip
def sndC : Code → Code
 | .seq _ b => b
 | _ => .skip
def inC : Code → Code
 | .block _ c => c
 | _ => .skip
def rndC : Code → Code
 | .loop c => c
 | _ => .skip
def slot (a : Act) (i : Nat) : Value := a.tmps.toList.getD i undef
end Go.Proofs.Ytpnacanbknejiaa.Lr
