/- Laid together: MhAlive, RtOps, LmCode. -/
import Derived.Test.YtpnacanbknejiaaMhWords
import Derived.Great.BuildSlice
import Derived.Test.YtpnacanbknejiaaGr11
import Derived.Test.YtpnacanbknejiaaGr2
import Derived.Test.YtpnacanbknejiaaGr5
namespace Go.Proofs.Ytpnacanbknejiaa.Mh
set_option maxHeartbeats 32000000
set_option maxRecDepth 100000
set_option linter.unusedVariables false
set_option linter.unusedSimpArgs false
open Go.ChangeShapes Go.WideShapes Go.ChangeAt Go.RowKit Lg Lr Fl
def T0 : Nat → Int := fun _ => 0
def byA : List Int := [20,0,1,0,0,0,0,0]
theorem loadA : loadM ((0 : Nat) : Int) byA = ([⟨20,0,1,0,0,0⟩],0) := by kernel_rfl
theorem ranA : ranM T0 byA 1 0 [4] [] 1 3 = ⟨0,[⟨0,20,[]⟩],⟨4,false,[]⟩,1⟩ := by kernel_rfl
theorem t7A : T7 T0 := fun k _ _ => ⟨by show (0 : Int) ≤ 0; decide,by show (0 : Int) ≤ 7; decide⟩
theorem alive_any (w : World) : Calls Try.prog 35 #[] w fun r w' => r = .returned (.bool true) ∧ Below w.heap.size w w' := by
 obtain ⟨w1,hw1⟩ : ∃ y,w.alloc (.cells #[.int .u8 20,.int .u8 0,.int .u8 1,.int .u8 0,.int .u8 0,.int .u8 0,.int .u8 0,.int .u8 0] 5) = y := ⟨_,rfl⟩
 obtain ⟨YB,hYB⟩ : ∃ y,w.heap.size = y := ⟨_,rfl⟩
 obtain ⟨w2,hw2⟩ : ∃ y,w1.alloc (.cells #[.slice (some ⟨YB,0,none⟩) 8 8,.int .i64 1,.slice none 0 0] 66) = y := ⟨_,rfl⟩
 obtain ⟨XB,hXB⟩ : ∃ y,w1.heap.size = y := ⟨_,rfl⟩
 have b1 : Below w.heap.size w w1 := by rw [← hw1]; exact (Below.refl _ _).alloc (Nat.le_refl _) _
 have b2 : Below w1.heap.size w1 w2 := by rw [← hw2]; exact (Below.refl _ _).alloc (Nat.le_refl _) _
 have kY1 : Bk w1 YB [.int .u8 20,.int .u8 0,.int .u8 1,.int .u8 0,.int .u8 0,.int .u8 0,.int .u8 0,.int .u8 0] 5 := by rw [← hw1,← hYB]; exact Bk.new _ _ _
 have kY := kY1.fs (Fs.of_below (l:=[]) b2) (by simp)
 have kX : Bk w2 XB [.slice (some ⟨YB,0,none⟩) 8 8,.int .i64 1,.slice none 0 0] 66 := by rw [← hw2,← hXB]; exact Bk.new _ _ _
 have HB2 := keep (b1.trans (b2.mono b1.size))
 have HBy : Hid (∀ W,Below w2.heap.size w2 W → BysW W W.heap.size byA (.slice (some ⟨YB,0,none⟩) 8 8)) := fun W hW => by
  have k := kY.fs (Fs.of_below (l:=[]) hW) (by simp)
  refine ⟨_,_,rfl,Nat.le_refl _,by decide,fun _ => ⟨YB,0,rfl,k.lt,fun j x hj => ?_⟩⟩
  rw [Nat.zero_add]
  refine k.cell j ?_
  have : ([.int .u8 20,.int .u8 0,.int .u8 1,.int .u8 0,.int .u8 0,.int .u8 0,.int .u8 0,.int .u8 0] : List Value) = byA.map (Value.int .u8) := rfl
  rw [this,List.getElem?_map,hj]; rfl
 have HkX := keep kX
 have HLd := keep (load_any w2.heap.size byA _ 1 none 0 0 w2 (Nat.le_refl _) (HBy.out w2 (Below.refl _ _)) (by decide))
 have HW1 := keep hw1
 have HW2 := keep hw2
 have HYB := keep hYB
 have HXB := keep hXB
 have x0 := kX.cell 0 rfl
 have x1 := kX.cell 1 rfl
 have x2 := kX.cell 2 rfl
 clear hw1 hw2 hYB hXB b1 b2 kY1 kY kX
 go_enter Try.func35,Try.ntmps35
 go_wp2_with (first | rw [HW1.out,HYB.out] | rw [HW2.out,HXB.out] | fail)
 refine HLd.out.mono ?_
 rintro r w3 ⟨v,lo,rfl,hlo1,hlo2,hrow,hb3⟩
 rw [loadA] at hrow ⊢
 obtain ⟨pv,nv,cv,rfl⟩ := RowX.slice hrow
 have hnv : nv = 1 := RowX.len hrow
 subst hnv
 have HB3 := keep (HB2.out.trans (hb3.mono HB2.out.size))
 obtain ⟨w4,hw4⟩ : ∃ y,w3.alloc (.cells #[.int .i64 4] 3) = y := ⟨_,rfl⟩
 obtain ⟨ZB,hZB⟩ : ∃ y,w3.heap.size = y := ⟨_,rfl⟩
 have b4 : Below w3.heap.size w3 w4 := by rw [← hw4]; exact (Below.refl _ _).alloc (Nat.le_refl _) _
 have kZ : Bk w4 ZB [.int .i64 4] 3 := by rw [← hw4,← hZB]; exact Bk.new _ _ _
 have HB4 := keep (HB3.out.trans (b4.mono HB3.out.size))
 have b24 := hb3.trans (b4.mono hb3.size)
 have hgv : GvIs w4 w4.heap.size [4] [] (.agg #[.slice (some ⟨ZB,0,none⟩) 1 1,.slice none 0 0]) := by
  refine ⟨_,_,rfl,⟨_,_,_,rfl,rfl,Nat.le_refl _,by omega,fun j x hj => ⟨ZB,0,rfl,kZ.lt,?_⟩⟩,⟨none,0,0,rfl,rfl,Nat.le_refl _,by omega,(fun j l hj => by cases hj)⟩⟩
  rw [Nat.zero_add]
  exact kZ.cell j (by rw [show ([.int .i64 4] : List Value) = ([4] : List Int).map (Value.int .i64) from rfl,List.getElem?_map,hj]; rfl)
 have HRn := keep (mran_any w4.heap.size byA _ 1 none 0 0 T0 [4] [] _ 1 3 w4 (Nat.le_refl _) (HBy.out w4 b24) (by decide) hgv ⟨fun x hx => by rw [List.mem_singleton] at hx; rw [hx]; exact ⟨by decide,by decide⟩,(fun a ha => by cases ha)⟩ t7A (by decide) (by decide))
 rw [ranA] at HRn
 have k3 := HkX.out.fs (Fs.of_below (l:=[]) hb3) (by simp)
 have HW4 := keep hw4
 have HZB := keep hZB
 have HT : Hid ((.agg #[.int .i64 0,.int .i64 0,.int .i64 0,.int .i64 0,.int .i64 0,.int .i64 0,.int .i64 0,.int .i64 0,.int .i64 0,.int .i64 0,.int .i64 0,.int .i64 0,.int .i64 0,.int .i64 0,.int .i64 0,.int .i64 0,.int .i64 0,.int .i64 0] : Value) = .agg (Tb.tabA T0)) := by show _ = _; rfl
 clear x0 x1 x2 HLd hlo1 hlo2 hrow hb3 hw4 hZB b4 kZ b24 hgv
 rw [← HT.out] at HRn
 have x0 := k3.cell 0 rfl
 have x1 := k3.cell 1 rfl
 have x2 := k3.cell 2 rfl
 dsimp only
 clear k3
 go_wp2_with (first | rw [HW4.out,HZB.out] | fail)
 refine HRn.out.mono ?_
 rintro r w5 ⟨sA,v,rfl,hst,hb5⟩
 obtain ⟨ha,hl⟩ := hst w5 [] (Fs.refl _ _) (by simp)
 obtain ⟨pa,na,ca,rfl⟩ := ha.slice
 obtain ⟨pl,cl,rfl⟩ := lks_slice hl
 dsimp only [List.length_cons,List.length_nil]
 obtain ⟨w6,hw6⟩ : ∃ y,w5.alloc (.cells #[.int .i64 4,.bool false,.slice pa na ca,.int .i64 0,.int .i64 1,.int .i64 1,.slice pl 1 cl] 72) = y := ⟨_,rfl⟩
 obtain ⟨RB,hRB⟩ : ∃ y,w5.heap.size = y := ⟨_,rfl⟩
 have b6 : Below w5.heap.size w5 w6 := by rw [← hw6]; exact (Below.refl _ _).alloc (Nat.le_refl _) _
 have kR : Bk w6 RB [.int .i64 4,.bool false,.slice pa na ca,.int .i64 0,.int .i64 1,.int .i64 1,.slice pl 1 cl] 72 := by rw [← hw6,← hRB]; exact Bk.new _ _ _
 have HB6 : Hid (Below w.heap.size w w6) := HB4.out.trans ((hb5.trans (b6.mono hb5.size)).mono HB4.out.size)
 have HW6 := keep hw6
 have HRB := keep hRB
 have z0 := kR.cell 0 rfl
 have z1 := kR.cell 1 rfl
 have z2 := kR.cell 2 rfl
 have z3 := kR.cell 3 rfl
 have z4 := kR.cell 4 rfl
 have z5 := kR.cell 5 rfl
 have z6 := kR.cell 6 rfl
 clear x0 x1 x2 HRn ha hl hst hb5 hw6 hRB b6 kR
 go_wp2_with (first | rw [HW6.out,HRB.out] | fail)
 go_ret
 exact ⟨rfl,HB6.out⟩
end Go.Proofs.Ytpnacanbknejiaa.Mh
namespace Go.Proofs.Ytpnacanbknejiaa.Rt
set_option maxHeartbeats 32000000
set_option maxRecDepth 100000
set_option linter.unusedVariables false
open Go.ChangeShapes Go.WideShapes Go.ChangeAt Go.RowKit Tb
def opsN : Array Value := #[.string ⟨#[]⟩,.string ⟨#[97,100,100]⟩,.string ⟨#[115,117,98]⟩,.string ⟨#[97,110,100]⟩,.string ⟨#[111,114]⟩,.string ⟨#[120,111,114]⟩,.string ⟨#[115,104,108]⟩,.string ⟨#[115,104,114]⟩,.string ⟨#[109,117,108]⟩,.string ⟨#[100,105,118]⟩,.string ⟨#[114,101,109]⟩,.string ⟨#[108,101,115,115]⟩,.string ⟨#[115,97,109,101]⟩,.string ⟨#[115,101,108]⟩,.string ⟨#[99,111,110,115,116]⟩,.string ⟨#[109,111,118,101]⟩,.string ⟨#[108,111,97,100]⟩,.string ⟨#[115,116,111,114,101]⟩]
def opsM : Array Value := #[.int .i64 0,.int .i64 3,.int .i64 3,.int .i64 3,.int .i64 3,.int .i64 3,.int .i64 3,.int .i64 3,.int .i64 3,.int .i64 3,.int .i64 3,.int .i64 3,.int .i64 3,.int .i64 7,.int .i64 0,.int .i64 1,.int .i64 1,.int .i64 3]
theorem ops_any (w : World) :
  Calls Try.prog 40 #[] w fun e w' => e = .returned (.tuple #[.slice (some ⟨w.heap.size,0,none⟩) 18 18,.slice (some ⟨w.heap.size + 1,0,none⟩) 18 18]) ∧ w' = (w.alloc (.cells opsN 9)).alloc (.cells opsM 3) := by
 go_enter Try.func40,Try.ntmps40
 go_wp2
 go_ret2
 exact ⟨rfl,rfl⟩
theorem opsM_at (k : Nat) (h : k < 18) : opsM[k]? = some (.int .i64 (most k)) := by
 have : ∀ j : Fin 18,opsM[j.val]? = some (.int .i64 (most j.val)) := by
  intro j
  match j with
  | ⟨0,_⟩ => rfl
  | ⟨1,_⟩ => rfl
  | ⟨2,_⟩ => rfl
  | ⟨3,_⟩ => rfl
  | ⟨4,_⟩ => rfl
  | ⟨5,_⟩ => rfl
  | ⟨6,_⟩ => rfl
  | ⟨7,_⟩ => rfl
  | ⟨8,_⟩ => rfl
  | ⟨9,_⟩ => rfl
  | ⟨10,_⟩ => rfl
  | ⟨11,_⟩ => rfl
  | ⟨12,_⟩ => rfl
  | ⟨13,_⟩ => rfl
  | ⟨14,_⟩ => rfl
  | ⟨15,_⟩ => rfl
  | ⟨16,_⟩ => rfl
  | ⟨17,_⟩ => rfl
  | ⟨i + 18,h⟩ => exact absurd h (by omega)
 exact this ⟨k,h⟩
theorem opsN_at (k : Nat) (h1 : 1 ≤ k) (h : k < 18) : opsN[k]? = some (.string ⟨(nm k).toArray⟩) := by
 have : ∀ j : Fin 17,opsN[j.val + 1]? = some (.string ⟨(nm (j.val + 1)).toArray⟩) := by
  intro j
  match j with
  | ⟨0,_⟩ => rfl
  | ⟨1,_⟩ => rfl
  | ⟨2,_⟩ => rfl
  | ⟨3,_⟩ => rfl
  | ⟨4,_⟩ => rfl
  | ⟨5,_⟩ => rfl
  | ⟨6,_⟩ => rfl
  | ⟨7,_⟩ => rfl
  | ⟨8,_⟩ => rfl
  | ⟨9,_⟩ => rfl
  | ⟨10,_⟩ => rfl
  | ⟨11,_⟩ => rfl
  | ⟨12,_⟩ => rfl
  | ⟨13,_⟩ => rfl
  | ⟨14,_⟩ => rfl
  | ⟨15,_⟩ => rfl
  | ⟨16,_⟩ => rfl
  | ⟨i + 17,h⟩ => exact absurd h (by omega)
 have := this ⟨k - 1,by omega⟩
 rwa [show (⟨k - 1,by omega⟩ : Fin 17).val + 1 = k by simp; omega] at this
def NBlk (w : World) (b : Nat) : Prop := w.heap[b]? = some (.cells opsN 9 (0,0))
def MBlk (w : World) (b : Nat) : Prop := w.heap[b]? = some (.cells opsM 3 (0,0))
theorem MBlk.cell {w : World} {b : Nat} (h : MBlk w b) (k : Nat) (hk : k < 18) : w.cell? ⟨b,k,none⟩ = some (.int .i64 (most k)) := by
 rw [Lib.cell_of_heap h]; exact opsM_at k hk
theorem NBlk.cell {w : World} {b : Nat} (h : NBlk w b) (k : Nat) (h1 : 1 ≤ k) (hk : k < 18) : w.cell? ⟨b,k,none⟩ = some (.string ⟨(nm k).toArray⟩) := by
 rw [Lib.cell_of_heap h]; exact opsN_at k h1 hk
theorem NBlk.zero {w : World} {b : Nat} (h : NBlk w b) : w.cell? ⟨b,0,none⟩ = some (.string ⟨#[]⟩) := by
 rw [Lib.cell_of_heap h]; rfl
theorem ops_lies (w : World) :
  Calls Try.prog 40 #[] w fun e w' => e = .returned (.tuple #[.slice (some ⟨w.heap.size,0,none⟩) 18 18,.slice (some ⟨w.heap.size + 1,0,none⟩) 18 18]) ∧ NBlk w' w.heap.size ∧ MBlk w' (w.heap.size + 1) ∧ Below w.heap.size w w' := by
 refine (ops_any w).mono ?_
 rintro e w' ⟨rfl,rfl⟩
 refine ⟨rfl,?_,?_,((Below.refl _ _).alloc (Nat.le_refl _) _).alloc (by simp) _⟩
 ·unfold NBlk
  rw [(MapKept.heap_alloc _ _).2 w.heap.size (by simp)]
  exact (MapKept.heap_alloc _ _).1
 ·unfold MBlk
  have := (MapKept.heap_alloc (w.alloc (.cells opsN 9)) (.cells opsM 3)).1
  rw [show (w.alloc (.cells opsN 9)).heap.size = w.heap.size + 1 by simp] at this
  exact this
theorem wrong_any (t : Nat → Int) (ht : I64 t) (w : World) :
  Calls Try.prog 18 #[.agg (tabA t)] w fun e w' => e = .returned (.int .i64 (wrongT t)) ∧ Below w.heap.size w w' := by
 by_cases h0 : t 0 = 0
 ·have d0 : (t 0 != 0) = false := by simpa using h0
  have H0 := keep h0
  have HT := keep ht
  have HK0 := keep (blk_alloc w t)
  have HB0 := keep ((Below.refl w.heap.size w).alloc (Nat.le_refl _) (.cells (tabA t) 29))
  clear h0 ht
  go_enter Try.func18,Try.ntmps18
  go_wp2_with fail
  refine (ops_lies _).mono ?_
  rintro e w1 ⟨rfl,-,hm,hb⟩
  rw [show (w.alloc (.cells (tabA t) 29)).heap.size = w.heap.size + 1 by simp] at hm
  have HK1 := keep (HK0.out.below hb HK0.out.lt)
  have HM1 := keep hm
  have HB1 := keep (HB0.out.trans (hb.mono HB0.out.size))
  clear hm hb HK0 HB0
  go_wp2
  go_loopw [5] (fun i wx => ∃ k : Nat,1 ≤ k ∧ k ≤ 18 ∧ i = .int .i64 (k : Int) ∧ upto t k ∧ Blk wx w.heap.size t ∧ MBlk wx (w.heap.size + 2) ∧ Below w.heap.size w wx) (fun i _ => 18 - (intOf i).toNat)
  case atStart => exact ⟨1,by omega,by omega,rfl,fun j _ _ => by omega,HK1.out,HM1.out,HB1.out⟩
  case round =>
   clear HK1 HM1 HB1
   obtain ⟨k,k1,k2,rfl,hu,hbt,hm,hb⟩ := hrel
   have HU := keep hu
   have HBT := keep hbt
   have HM := keep hm
   have HB := keep hb
   clear hu hb hbt hm
   by_cases hk : k ≤ 17
   ·have hkz : (k : Int) ≤ 17 := by omega
    have hk0 : (0 : Int) ≤ (k : Int) := by omega
    have hk18 : (k : Int) < 18 := by omega
    have hcell := HBT.out.lies k (by omega)
    have hcm := HM.out.cell k (by omega)
    have hb := or_most (t k) (HT.out k).1 (HT.out k).2 k (by omega)
    by_cases hf : 0 ≤ t k ∧ t k ≤ most k
    ·have hb0 : (bits .or .i64 (t k) (most k) != most k) = false := by simpa using hb.2 hf
     have HF := keep hf
     clear hb hf
     go_wp2
     go_quiet (fail)
     go_wp2
     go_roundw
     case rel =>
      exact ⟨k + 1,by omega,by omega,by go_num,fun j j1 j2 => by
       by_cases e : j = k
       ·rw [e]; exact HF.out
       ·exact HU.out j j1 (by omega),HBT.out,HM.out,Tb.below_drewN HB.out _⟩
     case measure => simp [intOf]; omega
    ·have hb0 : (bits .or .i64 (t k) (most k) != most k) = true := by simpa using fun e => hf (hb.1 e)
     have HE := keep (wrongT_bad H0.out k1 hk hf)
     clear hb hf
     go_wp2
     go_quiet (fail)
     go_wp2
     go_ret
     exact ⟨ret_int HE.out.symm,Tb.below_drewN HB.out _⟩
   ·have hk18 : k = 18 := by omega
    subst hk18
    have HE := keep (wrongT_good H0.out fun j j1 j2 => HU.out j j1 j2)
    go_wp2
    go_ret
    exact ⟨ret_int HE.out.symm,HB.out⟩
 ·have e : wrongT t = 1 := by unfold wrongT; rw [if_pos h0]
  have d0 : (t 0 != 0) = true := by simpa using h0
  rw [e]
  clear h0 e
  go_enter Try.func18,Try.ntmps18
  go_wp2
  go_ret
  exact ⟨rfl,(Below.refl _ _).alloc (Nat.le_refl _) _⟩
end Go.Proofs.Ytpnacanbknejiaa.Rt
namespace Go.Proofs.Ytpnacanbknejiaa.Lr
set_option linter.unusedVariables false
open Go.RowKit
def fstC : Code → Code
 | .seq a _ => a
 | _ => .skip
def sndC : Code → Code
 | .seq _ b => b
 | _ => .skip
def inC : Code → Code
 | .block _ c => c
 | _ => .skip
def rndC : Code → Code
 | .loop c => c
 | _ => .skip
def slot (a : Act) (i : Nat) : Value := a.tmps.toList.getD i undef
end Go.Proofs.Ytpnacanbknejiaa.Lr
