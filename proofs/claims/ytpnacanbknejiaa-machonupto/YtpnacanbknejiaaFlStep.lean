/- One instruction is done: flow's step. Written by tools/gen_flstep.py. -/
import Derived.Test.YtpnacanbknejiaaFlMade
namespace Go.Proofs.Ytpnacanbknejiaa.Fl
set_option maxHeartbeats 32000000
set_option maxRecDepth 100000
set_option linter.unusedVariables false
set_option linter.unusedSimpArgs false
open Go.ChangeShapes Go.WideShapes Go.ChangeAt Go.RowKit Lg Lr
theorem nx_zero {i : Ix} {at' : Nat} {P : List Int} (h : i.op = 19) (hi : 0 ≤ i.imm) : ((nx i at' P : Nat) : Int) = if gI P i.a = 0 then i.imm else (at' : Int) + 1 := by
 unfold nx
 rw [if_neg (by omega)]
 by_cases hz : gI P i.a = 0
 ·rw [if_pos ⟨h,hz⟩,if_pos hz]; omega
 ·rw [if_neg (fun x => hz x.2),if_neg hz]; omega
def StepP (PB AO : Nat) (P : List Int) (ps : List (Nat × List Int)) (i : Ix) (at' : Nat) (w : World) (r : Ending) (w' : World) : Prop :=
 r = .returned (.int .i64 (nx i at' P : Nat)) ∧ ∃ ps',Mc w' PB AO (pl i P (ars ps)) ps' ∧ ars ps' = arr i P (ars ps) ∧ ps'.map Prod.fst = ps.map Prod.fst ∧ Fs (PB :: ps.map Prod.fst) w w'
theorem StepP.same {PB AO : Nat} {P : List Int} {ps : List (Nat × List Int)} {i : Ix} {at' : Nat} {w w' : World} {n : Int} (hn : n = (nx i at' P : Nat)) (hm : mks i = false) (ha : arr i P (ars ps) = ars ps) (h : Mc w PB AO P ps) (hb : Below w.heap.size w w') : StepP PB AO P ps i at' w (.returned (.int .i64 n)) w' := by
 refine ⟨by rw [hn],ps,?_,ha.symm,rfl,Fs.of_below hb⟩
 unfold pl
 rw [if_neg (by rw [hm]; simp)]
 exact h.below hb
theorem StepP.makes {PB AO : Nat} {P : List Int} {ps : List (Nat × List Int)} {i : Ix} {at' : Nat} {w w' : World} {n v : Int} {kd : Nat} (hn : n = (nx i at' P : Nat)) (hm : mks i = true) (hv : made i P (ars ps) = v) (hd : i.d = (kd : Int)) (h : Mc w PB AO P ps) (hb : Below w.heap.size w w') : StepP PB AO P ps i at' w (.returned (.int .i64 n)) (w'.setCell ⟨PB,kd,none⟩ (.int .i64 v)) := by
 have ho : i.op ≤ 16 := by unfold mks at hm; rw [Bool.and_eq_true,decide_eq_true_eq,decide_eq_true_eq] at hm; exact hm.2
 refine ⟨by rw [hn],ps,?_,?_,rfl,(Fs.of_below hb).set (by simp) _ _⟩
 ·unfold pl
  rw [if_pos hm,hv,hd,Int.toNat_natCast]
  exact (h.below hb).setP kd v
 ·unfold arr
  rw [if_neg (fun x => by omega)]
theorem StepP.stores {PB AO : Nat} {P : List Int} {ps : List (Nat × List Int)} {i : Ix} {at' : Nat} {w w' : World} {n v : Int} {kb gb ka : Nat} {row : List Int} (hn : n = (nx i at' P : Nat)) (ho : i.op = 17) (hb' : i.b = (kb : Int)) (hg : ps[kb]? = some (gb,row)) (hrow : rowA (ars ps) (kb : Int) = row) (ha : gI P i.a = (ka : Int)) (hlt : ka < row.length) (hv : gI P i.d = v) (h : Mc w PB AO P ps) (hb : Below w.heap.size w w') : StepP PB AO P ps i at' w (.returned (.int .i64 n)) (w'.setCell ⟨gb,ka,none⟩ (.int .i64 v)) := by
 refine ⟨by rw [hn],ps.set kb (gb,row.set ka v),?_,?_,?_,(Fs.of_below hb).set (by rw [List.mem_cons]; exact .inr (List.mem_map.2 ⟨_,List.mem_of_getElem? hg,rfl⟩)) _ _⟩
 ·unfold pl
  rw [if_neg (by unfold mks; rw [ho]; simp)]
  exact (h.below hb).setA hg ka v
 ·unfold arr
  rw [hb',hrow,ha,hv,if_pos ⟨ho,by omega⟩,ars_set,Int.toNat_natCast,Int.toNat_natCast]
 ·rw [List.map_set]
  apply List.ext_getElem?
  intro j
  rw [List.getElem?_set,List.length_map,List.getElem?_map]
  split
  ·rename_i e
   subst e
   (try rw [if_pos (List.getElem?_eq_some_iff.1 hg).1]); rw [hg]; rfl
  ·rfl
theorem step_any (PB AO : Nat) (P : List Int) (ps : List (Nat × List Int)) (i : Ix) (at' : Nat) (w : World) (h : Mc w PB AO P ps) (hL : P.length ≤ 17592186044416) (hat : at' ≤ 4294967296) (ho1 : 1 ≤ i.op) (ho2 : i.op ≤ 19) (hmd : mks i = true → 0 ≤ i.d ∧ i.d < P.length) (hr : ∀ p ∈ rds i,0 ≤ p ∧ p < P.length) (hb : i.op = 16 ∨ i.op = 17 → 0 ≤ i.b ∧ i.b < ps.length) (hj : i.op = 18 ∨ i.op = 19 → 0 ≤ i.imm) (hw : ∀ x ∈ P,isW x) :
  Calls Try.prog 46 #[.agg #[.slice (some ⟨PB,0,none⟩) P.length P.length,.slice (some ⟨AO,0,none⟩) ps.length ps.length],.agg (ixA i),.int .i64 (at' : Int)] w fun r w' => StepP PB AO P ps i at' w r w' := by
 obtain ⟨op,d,a,b,c,imm⟩ := i
 have HGW := keep (fun k => gI_word hw k)
 have HM := keep h
 have HW := keep hw
 obtain ⟨n,hn⟩ : ∃ n,P.length = n := ⟨_,rfl⟩
 obtain ⟨m,hmm⟩ : ∃ m,ps.length = m := ⟨_,rfl⟩
 have HPl : Hid (∀ (W : World) (k : Nat),Below w.heap.size w W → k < n → W.cell? ⟨PB,k,none⟩ = some (.int .i64 (gI P (k : Int)))) := fun W k hW hk => by
  have := h.place (k:=k) (by omega)
  rw [cell_below hW (lt_of_cell this)]; exact this
 have HSp := keep (fun W (hW : Below w.heap.size w W) ha hb hv gb row hg => spot_any PB AO P ps ⟨op,d,a,b,c,imm⟩ W (h.below hW) hL ha hb hv gb row hg)
 have HMd := keep (fun W (hW : Below w.heap.size w W) hm => made_any PB AO P ps ⟨op,d,a,b,c,imm⟩ W (h.below hW) hL hm hr (fun x => hb (.inl x)) hw)
 unfold ixA at HSp HMd
 dsimp only at HSp HMd hb ho1 ho2 hmd hj
 rw [hn] at hL hr HSp HMd hmd
 rw [hmm] at hb HSp HMd
 rw [hn,hmm]
 have HNN := keep hn
 have HMM := keep hmm
 obtain ⟨w1,hw1⟩ : ∃ y,w.alloc (.cells #[.slice (some ⟨PB,0,none⟩) n n,.slice (some ⟨AO,0,none⟩) m m] 91) = y := ⟨_,rfl⟩
 obtain ⟨w2,hw2⟩ : ∃ y,w1.alloc (.cells #[.int .i64 op,.int .i64 d,.int .i64 a,.int .i64 b,.int .i64 c,.int .i64 imm] 35) = y := ⟨_,rfl⟩
 obtain ⟨X,hX⟩ : ∃ y,w.heap.size = y := ⟨_,rfl⟩
 obtain ⟨I,hI⟩ : ∃ y,w1.heap.size = y := ⟨_,rfl⟩
 have b1 : Below w.heap.size w w1 := by rw [← hw1]; exact (Below.refl _ _).alloc (Nat.le_refl _) _
 have b2 : Below w1.heap.size w1 w2 := by rw [← hw2]; exact (Below.refl _ _).alloc (Nat.le_refl _) _
 have b12 := b1.trans (b2.mono b1.size)
 have kX1 : Bk w1 X [.slice (some ⟨PB,0,none⟩) n n,.slice (some ⟨AO,0,none⟩) m m] 91 := by rw [← hw1,← hX]; exact Bk.new _ _ _
 have kX := kX1.fs (Fs.of_below (l:=[]) b2) (by simp)
 have kI : Bk w2 I [.int .i64 op,.int .i64 d,.int .i64 a,.int .i64 b,.int .i64 c,.int .i64 imm] 35 := by rw [← hw2,← hI]; exact Bk.new _ _ _
 have HBx : Hid (Bx w2 X I PB AO n m op d a b c imm) := ⟨kX.cell 0 rfl,kX.cell 1 rfl,kI.cell 0 rfl,kI.cell 1 rfl,kI.cell 2 rfl,kI.cell 3 rfl,kI.cell 4 rfl,kI.cell 5 rfl⟩
 obtain ⟨x0,x1,y0,y1,y2,y3,y4,y5⟩ := id HBx.out
 have HW1 := keep hw1
 have HW2 := keep hw2
 have HX := keep hX
 have HI := keep hI
 have HB := keep b12
 have HRd := keep hr
 unfold ixA
 dsimp only
 have HBw : Hid (∀ W,Below w2.heap.size w2 W → Below w.heap.size w W) := fun W hW => b12.trans (hW.mono b12.size)
 have hwr : IntKind.i64.wrap ((at' : Int) + 1) = (at' : Int) + 1 := by rw [IntKind.wrap_i64]; omega
 clear hw1 hw2 hX hI b1 b2 b12 kX1 kX kI h hw hr hat
 by_cases h18 : op = 18
 ·subst h18
  have hi0 := hj (.inl rfl)
  have HE : Hid (∀ w',Below w.heap.size w w' → StepP PB AO P ps ⟨18,d,a,b,c,imm⟩ at' w (.returned (.int .i64 imm)) w') := fun w' hw' => .same (by show imm = ((imm.toNat : Nat) : Int); omega) rfl rfl HM.out hw'
  clear hi0
  go_enter Try.func46,Try.ntmps46
  go_wp2_with (first | rw [HW1.out] | rw [HW2.out] | rw [HX.out] | rw [HI.out] | fail)
  go_ret
  exact HE.out _ HB.out
 ·have k18 : (op == 18) = false := by simpa using h18
  by_cases h19 : op = 19
  ·subst h19
   have hi0 := hj (.inr rfl)
   obtain ⟨a0,a1⟩ := HRd.out a (by rw [rds_one (.inr (.inr (.inl rfl)))]; simp)
   obtain ⟨ka,rfl⟩ : ∃ k : Nat,a = (k : Int) := ⟨a.toNat,by omega⟩
   have z0 := HPl.out w2 ka HB.out (by omega)
   have HE : Hid (∀ w' (k : Int),Below w.heap.size w w' → k = (if gI P (ka : Int) = 0 then imm else (at' : Int) + 1) → StepP PB AO P ps ⟨19,d,(ka : Int),b,c,imm⟩ at' w (.returned (.int .i64 k)) w') := fun w' k hw' hk => .same (by rw [hk]; exact (nx_zero (i:=⟨19,d,(ka : Int),b,c,imm⟩) rfl hi0).symm) rfl rfl HM.out hw'
   generalize gI P (ka : Int) = va at *
   clear hi0 h18
   by_cases hz : va = 0
   ·subst hz
    go_enter Try.func46,Try.ntmps46
    go_wp2_with (first | rw [HW1.out] | rw [HW2.out] | rw [HX.out] | rw [HI.out] | fail)
    go_ret
    exact HE.out _ _ HB.out rfl
   ·have kz : (va == 0) = false := by simpa using hz
    have HE2 : Hid (∀ w',Below w.heap.size w w' → StepP PB AO P ps ⟨19,d,(ka : Int),b,c,imm⟩ at' w (.returned (.int .i64 ((at' : Int) + 1))) w') := fun w' hw' => HE.out w' _ hw' (by rw [if_neg hz])
    clear hz
    go_enter Try.func46,Try.ntmps46
    go_wp2_with (first | rw [HW1.out] | rw [HW2.out] | rw [HX.out] | rw [HI.out] | fail)
    go_ret
    first | exact HE2.out _ HB.out | (rw [hwr]; exact HE2.out _ HB.out)
  ·have k19 : (op == 19) = false := by simpa using h19
   by_cases h17 : op = 17
   ·subst h17
    obtain ⟨a0,a1⟩ := HRd.out a (by rw [rds_sto rfl]; simp)
    obtain ⟨d0,d1⟩ := HRd.out d (by rw [rds_sto rfl]; simp)
    obtain ⟨e0,e1⟩ := hb (.inr rfl)
    obtain ⟨ka,rfl⟩ : ∃ k : Nat,a = (k : Int) := ⟨a.toNat,by omega⟩
    obtain ⟨kb,rfl⟩ : ∃ k : Nat,b = (k : Int) := ⟨b.toNat,by omega⟩
    obtain ⟨kd,rfl⟩ : ∃ k : Nat,d = (k : Int) := ⟨d.toNat,by omega⟩
    have HPd : Hid (∀ W,Below w2.heap.size w2 W → W.cell? ⟨PB,kd,none⟩ = some (.int .i64 (gI P (kd : Int)))) := fun W hW => HPl.out W kd (HBw.out W hW) (by omega)
    obtain ⟨gb,row,hg,hrow,_,kg⟩ := HM.out.arr (b:=kb) (by omega)
    have HC := keep (HSp.out w2 HB.out ⟨a0,a1⟩ ⟨e0,e1⟩ (HGW.out _).1 gb row (by rw [Int.toNat_natCast]; exact hg))
    have hv0 := (HGW.out (ka : Int)).1
    obtain ⟨v,hv⟩ : ∃ v,gI P (ka : Int) = v := ⟨_,rfl⟩
    have HV := keep hv
    rw [hv] at HC hv0
    clear hv
    obtain ⟨kv,rfl⟩ : ∃ k : Nat,v = (k : Int) := ⟨v.toNat,by omega⟩
    obtain ⟨u,hu⟩ : ∃ u,gI P (kd : Int) = u := ⟨_,rfl⟩
    have HU := keep hu
    rw [hu] at HPd
    clear hu
    have HKg : Hid (∀ W,Below w2.heap.size w2 W → Bk W gb (row.map (Value.int .i64)) 3) := fun W hW => kg.fs (Fs.of_below (l:=[]) (HBw.out W hW)) (by simp)
    have HNx : Hid ((at' : Int) + 1 = ((nx ⟨17,(kd : Int),(ka : Int),(kb : Int),c,imm⟩ at' P : Nat) : Int)) := by show _ = _; unfold nx; dsimp only; rw [if_neg (by decide),if_neg (by omega)]; rfl
    have HG := keep hg
    have HRo := keep hrow
    clear kg hg hrow h18 h19 k18 k19
    unfold spotV at HC
    by_cases hlt : (kv : Int) < row.length
    ·rw [if_pos hlt,Int.toNat_natCast] at HC
     have HE : Hid (∀ w',Below w.heap.size w w' → StepP PB AO P ps ⟨17,(kd : Int),(ka : Int),(kb : Int),c,imm⟩ at' w (.returned (.int .i64 ((at' : Int) + 1))) (w'.setCell ⟨gb,kv,none⟩ (.int .i64 u))) := fun w' hw' => .stores HNx.out rfl rfl HG.out HRo.out HV.out (by omega) HU.out HM.out hw'
     obtain ⟨u0,hu0⟩ : ∃ u0,row[kv]? = some u0 := ⟨_,List.getElem?_eq_getElem (by omega)⟩
     have HU0 : Hid (∀ W,Below w2.heap.size w2 W → W.cell? ⟨gb,kv,none⟩ = some (.int .i64 u0) ∧ W.frozen? ⟨gb,kv,none⟩ = false) := fun W hW => ⟨(HKg.out W hW).cell kv (by rw [List.getElem?_map,hu0]; rfl),(HKg.out W hW).fr kv⟩
     clear hu0 hlt
     go_enter Try.func46,Try.ntmps46
     go_wp2_with (first | rw [HW1.out] | rw [HW2.out] | rw [HX.out] | rw [HI.out] | fail)
     refine HC.out.mono ?_
     rintro r w3 ⟨rfl,hb3⟩
     obtain ⟨u3,u4⟩ := HU0.out w3 hb3
     have u5 := HPd.out w3 hb3
     have HB3 := keep hb3
     clear x0 x1 y0 y1 y2 y3 y4 y5
     obtain ⟨x0,x1,y0,y1,y2,y3,y4,y5⟩ := HBx.out.below hb3
     clear hb3 HC
     go_wp2
     go_ret
     first | exact HE.out _ (HBw.out _ HB3.out) | (rw [hwr]; exact HE.out _ (HBw.out _ HB3.out))
    ·rw [if_neg hlt] at HC
     have HE : Hid (∀ w',Below w.heap.size w w' → StepP PB AO P ps ⟨17,(kd : Int),(ka : Int),(kb : Int),c,imm⟩ at' w (.returned (.int .i64 ((at' : Int) + 1))) w') := fun w' hw' => .same HNx.out rfl (by unfold arr; rw [if_neg (fun x => hlt (by have := x.2; dsimp only at this; rw [HV.out,HRo.out] at this; exact this))]) HM.out hw'
     clear hlt
     go_enter Try.func46,Try.ntmps46
     go_wp2_with (first | rw [HW1.out] | rw [HW2.out] | rw [HX.out] | rw [HI.out] | fail)
     refine HC.out.mono ?_
     rintro r w3 ⟨rfl,hb3⟩
     have HB3 := keep hb3
     clear x0 x1 y0 y1 y2 y3 y4 y5 hb3 HC
     go_wp2
     go_ret
     first | exact HE.out _ (HBw.out _ HB3.out) | (rw [hwr]; exact HE.out _ (HBw.out _ HB3.out))
   ·have k17 : (op == 17) = false := by simpa using h17
    have hm : mks ⟨op,d,a,b,c,imm⟩ = true := by unfold mks; dsimp only; rw [decide_eq_true ho1,decide_eq_true (show op ≤ 16 by omega)]; rfl
    obtain ⟨d0,d1⟩ := hmd hm
    obtain ⟨kd,rfl⟩ : ∃ k : Nat,d = (k : Int) := ⟨d.toNat,by omega⟩
    have HC := keep (fun W hW => HMd.out W (HBw.out W hW) hm)
    have HNx : Hid ((at' : Int) + 1 = ((nx ⟨op,(kd : Int),a,b,c,imm⟩ at' P : Nat) : Int)) := by show _ = _; unfold nx; dsimp only; rw [if_neg h18,if_neg (fun x => h19 x.1)]; rfl
    obtain ⟨v,hv⟩ : ∃ v,made ⟨op,(kd : Int),a,b,c,imm⟩ P (ars ps) = v := ⟨_,rfl⟩
    have HV := keep hv
    rw [hv] at HC
    clear hv
    have HE : Hid (∀ w',Below w.heap.size w w' → StepP PB AO P ps ⟨op,(kd : Int),a,b,c,imm⟩ at' w (.returned (.int .i64 ((at' : Int) + 1))) (w'.setCell ⟨PB,kd,none⟩ (.int .i64 v))) := fun w' hw' => .makes HNx.out hm HV.out rfl HM.out hw'
    have HK : Hid (∀ W,Below w2.heap.size w2 W → W.frozen? ⟨PB,kd,none⟩ = false) := fun W hW => ((HM.out.below (HBw.out W hW)).pl).fr kd
    have HPd : Hid (∀ W,Below w2.heap.size w2 W → W.cell? ⟨PB,kd,none⟩ = some (.int .i64 (gI P (kd : Int)))) := fun W hW => HPl.out W kd (HBw.out W hW) (by omega)
    generalize gI P (kd : Int) = v0 at *
    have HSS : Hid (∀ W',Below w2.heap.size w2 W' → W'.cell? ⟨X,0,none⟩ = some (.slice (some ⟨PB,0,none⟩) n n) ∧ W'.cell? ⟨X,1,none⟩ = some (.slice (some ⟨AO,0,none⟩) m m) ∧ W'.cell? ⟨I,0,none⟩ = some (.int .i64 op) ∧ W'.cell? ⟨I,1,none⟩ = some (.int .i64 (kd : Int)) ∧ W'.cell? ⟨I,2,none⟩ = some (.int .i64 a) ∧ W'.cell? ⟨I,3,none⟩ = some (.int .i64 b) ∧ W'.cell? ⟨I,4,none⟩ = some (.int .i64 c) ∧ W'.cell? ⟨I,5,none⟩ = some (.int .i64 imm)) := fun W' hW => ⟨(HBx.out.below hW).p,(HBx.out.below hW).r,(HBx.out.below hW).c0,(HBx.out.below hW).c1,(HBx.out.below hW).c2,(HBx.out.below hW).c3,(HBx.out.below hW).c4,(HBx.out.below hW).c5⟩
    clear hm h17 h18 h19
    go_enter Try.func46,Try.ntmps46
    go_wp2_with (first | rw [HW1.out] | rw [HW2.out] | rw [HX.out] | rw [HI.out] | fail)
    refine wp_region_noPanic ?_
    refine Ord.wpM_begin (fun W' : World => W'.cell? ⟨X,0,none⟩ = some (.slice (some ⟨PB,0,none⟩) n n) ∧ W'.cell? ⟨X,1,none⟩ = some (.slice (some ⟨AO,0,none⟩) m m) ∧ W'.cell? ⟨I,0,none⟩ = some (.int .i64 op) ∧ W'.cell? ⟨I,1,none⟩ = some (.int .i64 (kd : Int)) ∧ W'.cell? ⟨I,2,none⟩ = some (.int .i64 a) ∧ W'.cell? ⟨I,3,none⟩ = some (.int .i64 b) ∧ W'.cell? ⟨I,4,none⟩ = some (.int .i64 c) ∧ W'.cell? ⟨I,5,none⟩ = some (.int .i64 imm)) [0,1,2,3,4,5,6,7] (by kernel_rfl) ?_
    have HD : Hid (Below w2.heap.size w2 w2.drew) := Below.drew (Below.refl _ _)
    generalize w2.drew = wd at *
    have hS := HSS.out wd HD.out
    refine Ord.tk (i:=0) (v:=.pointer (some ⟨X,0,none⟩)) (hy:=Or.inl ⟨by rfl,by rintro W' ⟨q0,q1,q2,q3,q4,q5,q6,q7⟩; go_simp⟩) (hS:=hS) (h:=?_)
    try simp only [Act.put,Ord.t,Ord.z,Ord.s]
    refine Ord.tk (i:=1) (v:=.slice (some ⟨PB,0,none⟩) n n) (hy:=Or.inl ⟨by rfl,by rintro W' ⟨q0,q1,q2,q3,q4,q5,q6,q7⟩; go_simp⟩) (hS:=hS) (h:=?_)
    try simp only [Act.put,Ord.t,Ord.z,Ord.s]
    refine Ord.tk (i:=2) (v:=.pointer (some ⟨I,1,none⟩)) (hy:=Or.inl ⟨by rfl,by rintro W' ⟨q0,q1,q2,q3,q4,q5,q6,q7⟩; go_simp⟩) (hS:=hS) (h:=?_)
    try simp only [Act.put,Ord.t,Ord.z,Ord.s]
    refine Ord.tk (i:=3) (v:=.int .i64 (kd : Int)) (hy:=Or.inl ⟨by rfl,by rintro W' ⟨q0,q1,q2,q3,q4,q5,q6,q7⟩; go_simp⟩) (hS:=hS) (h:=?_)
    try simp only [Act.put,Ord.t,Ord.z,Ord.s]
    refine Ord.tk (i:=4) (v:=.agg #[.slice (some ⟨PB,0,none⟩) n n,.slice (some ⟨AO,0,none⟩) m m]) (hy:=Or.inl ⟨by rfl,by rintro W' ⟨q0,q1,q2,q3,q4,q5,q6,q7⟩; go_simp⟩) (hS:=hS) (h:=?_)
    try simp only [Act.put,Ord.t,Ord.z,Ord.s]
    refine Ord.tk (i:=5) (v:=.agg #[.int .i64 op,.int .i64 (kd : Int),.int .i64 a,.int .i64 b,.int .i64 c,.int .i64 imm]) (hy:=Or.inl ⟨by rfl,by rintro W' ⟨q0,q1,q2,q3,q4,q5,q6,q7⟩; go_simp⟩) (hS:=hS) (h:=?_)
    try simp only [Act.put,Ord.t,Ord.z,Ord.s]
    refine Ord.on (i:=6) (h:=fun K hK => ?_)
    go_simp
    refine (HC.out wd HD.out).mono ?_
    rintro r w3 ⟨rfl,hb3⟩
    have HB3 := keep (HD.out.trans (hb3.mono HD.out.size))
    clear hb3
    have f3 := HK.out w3 HB3.out
    have u3 := HPd.out w3 HB3.out
    go_simp
    refine hK.out _ _ (fun _ => HSS.out w3 HB3.out) ?_
    clear hK K
    try simp only [Act.put,Ord.t,Ord.z,Ord.s]
    refine Ord.on (i:=7) (h:=fun K hK => ?_)
    go_simp
    refine hK.out _ _ (fun _ => HSS.out w3 HB3.out) ?_
    clear hK K
    try simp only [Act.put,Ord.t,Ord.z,Ord.s]
    refine Ord.on (i:=8) (h:=fun K hK => ?_)
    go_simp
    refine hK.out _ _ (fun h => absurd h (by decide)) ?_
    clear hK K
    try simp only [Act.put,Ord.t,Ord.z,Ord.s]
    refine Ord.wpM_done (by kernel_rfl) ?_ _
    refine NoPanic.normal ?_
    have HG := keep (HE.out w3 (HBw.out _ HB3.out))
    generalize w3.setCell ⟨PB,kd,none⟩ (.int .i64 v) = w4 at *
    clear HC HSS hS f3 u3 x0 x1 y0 y1 y2 y3 y4 y5
    go_wp2
    go_ret
    first | exact HG.out | (rw [hwr]; exact HG.out)
end Go.Proofs.Ytpnacanbknejiaa.Fl
