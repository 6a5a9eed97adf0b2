/- The closed fact that chapter 7's laws ask first. Written by tools/gen_flalive.py. -/
import Derived.Test.YtpnacanbknejiaaFlOwn
namespace Go.Proofs.Ytpnacanbknejiaa.Fl
set_option maxHeartbeats 32000000
set_option maxRecDepth 100000
set_option linter.unusedVariables false
set_option linter.unusedSimpArgs false
open Go.ChangeShapes Go.WideShapes Go.ChangeAt Go.RowKit Lg Lr
def i8 : Ix := ⟨8,1,0,0,0,0⟩
def i20 : Ix := ⟨20,0,1,0,0,0⟩
def fA : Fx := ⟨[i8,i20],[true,true],1,[]⟩
def gA : Fx := ⟨[i8,i20],[true,false],1,[]⟩
def tZ : Nat → Int := fun _ => 0
def tM : Nat → Int := fun k => if k = 8 then 2 else 0
theorem checkA : checkF fA = (0,-1) := by decide
theorem checkG : checkF gA = (10,0) := by decide
theorem runA {ls : List Lk} {e : En} (h : Runs fA.code tZ 0 (firstP fA.sec.length [6]) [] ls e) : e.word = 36 ∧ ls.length = 2 := by
 cases h with
 | ret _ _ _ i hi ho => simp [fA] at hi; subst hi; simp [i8] at ho
 | trap _ _ _ i hi ho => simp [fA] at hi; subst hi; simp [i8] at ho
 | step _ _ _ i ls e hi h0 h1 hr =>
  simp [fA] at hi
  subst hi
  have e1 : nx i8 0 (firstP fA.sec.length [6]) = 1 := by decide
  have e2 : pl i8 (firstP fA.sec.length [6]) [] = [6,36] := by decide
  have e3 : arr i8 (firstP fA.sec.length [6]) [] = [] := by decide
  rw [e1,e2,e3] at hr
  cases hr with
  | ret _ _ _ i hi ho =>
   simp [fA] at hi
   subst hi
   exact ⟨rfl,rfl⟩
  | trap _ _ _ i hi ho => simp [fA] at hi; subst hi; simp [i20] at ho
  | step _ _ _ i ls e hi h0 h1 hr => simp [fA] at hi; subst hi; simp [i20] at h0
theorem lks_slice {w : World} {B : Nat} {ls : List Lk} {v : Value} (h : LksIs w B ls v) : ∃ p c,v = .slice p ls.length c := by
 obtain ⟨p,n,cap,h1,h2,_⟩ := h
 exact ⟨p,cap,by rw [h1,h2]⟩
theorem code_two (w : World) : CodeIs (w.alloc (.cells #[.int .i64 8,.int .i64 1,.int .i64 0,.int .i64 0,.int .i64 0,.int .i64 0,.int .i64 20,.int .i64 0,.int .i64 1,.int .i64 0,.int .i64 0,.int .i64 0] 35)) (w.heap.size + 1) [i8,i20] (.slice (some ⟨w.heap.size,0,none⟩) 2 2) := by
 have hk := Bk.new w [.int .i64 8,.int .i64 1,.int .i64 0,.int .i64 0,.int .i64 0,.int .i64 0,.int .i64 20,.int .i64 0,.int .i64 1,.int .i64 0,.int .i64 0,.int .i64 0] 35
 refine ⟨_,_,_,rfl,rfl,Nat.le_refl _,by omega,fun j i hj => ⟨_,0,rfl,by omega,?_⟩⟩
 match j,hj with
 | 0,hj => cases hj; exact ⟨hk.cell 0 rfl,hk.cell 1 rfl,hk.cell 2 rfl,hk.cell 3 rfl,hk.cell 4 rfl,hk.cell 5 rfl⟩
 | 1,hj => cases hj; exact ⟨hk.cell 6 rfl,hk.cell 7 rfl,hk.cell 8 rfl,hk.cell 9 rfl,hk.cell 10 rfl,hk.cell 11 rfl⟩
theorem bools_two (w : World) : BoolsIs (w.alloc (.cells #[.bool true,.bool true] 4)) (w.heap.size + 1) [true,true] (.slice (some ⟨w.heap.size,0,none⟩) 2 2) := by
 have hk := Bk.new w [.bool true,.bool true] 4
 refine ⟨_,_,_,rfl,rfl,Nat.le_refl _,by omega,fun j i hj => ⟨_,0,rfl,by omega,?_⟩⟩
 match j,hj with
 | 0,hj => cases hj; exact hk.cell 0 rfl
 | 1,hj => cases hj; exact hk.cell 1 rfl
theorem vars_none (w : World) (B : Nat) : VrIs w B [] (.slice none 0 0) := ⟨none,0,0,rfl,rfl,Nat.le_refl _,by omega,fun j i hj => by simp at hj⟩
theorem arrs_none (w : World) (B : Nat) : ArrsIs w B [] (.slice none 0 0) := ⟨none,0,0,rfl,rfl,Nat.le_refl _,by omega,fun j i hj => by simp at hj⟩
theorem own_turn {w : World} {v1 v2 v3 : Value} {lo1 lo2 lo3 : Nat} (hl : lo1 ≤ lo2 ∧ lo2 ≤ lo3) (h1 : ∀ i,v1.ownBlock = some i → i < lo2) (r1 : RowX nest0 cellsX 6 35 w lo1 v1 fA.code) (r2 : RowX nest0 cellsB 1 4 w lo2 v2 fA.sec) (r3 : RowX nest0 cellsW 3 82 w lo3 v3 fA.arrs) :
  ∃ p1 c1 g c2 p3 c3,v1 = .slice p1 2 c1 ∧ v2 = .slice (some ⟨g,0,none⟩) 2 c2 ∧ v3 = .slice p3 0 c3 ∧ w.cell? ⟨g,1,none⟩ = some (.bool true) ∧ w.frozen? ⟨g,1,none⟩ = false ∧ lo2 ≤ g ∧ g < w.heap.size ∧ FxIs (w.setCell ⟨g,1,none⟩ (.bool false)) w.heap.size gA v1 v2 v3 := by
 obtain ⟨p3,n3,c3,rfl⟩ := RowX.slice r3
 have hn3 := RowX.len r3
 have hn3' : n3 = 0 := hn3
 subst hn3'
 have hv3 := rowX_vars r3 (by decide)
 rcases RowX.form cellsB_len r2 with ⟨e,_⟩ | ⟨g,cap,e2,q1,q2,q3,q4⟩
 ·cases e
 rcases RowX.form cellsX_len r1 with ⟨e,_⟩ | ⟨g1,cap1,e1,y1,y2,y3,y4⟩
 ·cases e
 subst e1 e2
 have hg1 := h1 g1 rfl
 have ho := RowX.own r2
 have hs : (w.setCell ⟨g,1,none⟩ (.bool false)).heap.size = w.heap.size := by simp [World.setCell]
 refine ⟨_,_,g,cap,p3,c3,rfl,rfl,rfl,q4 1 true 0 (.bool true) rfl rfl,ho.frozenAt _,q2,q3,?_,?_,?_⟩
 ·have r1' : RowX nest0 cellsX 6 35 (w.setCell ⟨g,1,none⟩ (.bool false)) lo1 (.slice (some ⟨g1,0,none⟩) 2 cap1) fA.code := ⟨own_stay (RowX.own r1) (Below.heap_setCell _ _ _ _ (by show g1 ≠ g; omega)),fun _ _ => trivial⟩
  have := rowX_code r1' (by decide)
  rw [hs] at this
  exact this
 ·have h2 := (ho.stored 1 (.bool false)).1
  have r2' : RowX nest0 cellsB 1 4 (w.setCell ⟨g,1,none⟩ (.bool false)) lo2 (.slice (some ⟨g,0,none⟩) 2 cap) gA.sec := ⟨h2,fun _ _ => trivial⟩
  have := rowX_bools r2' (by decide)
  rw [hs] at this
  exact this
 ·obtain ⟨z1,z2,z3,z4,z5,z6,z7,z8⟩ := hv3
  exact ⟨z1,z2,z3,z4,z5,z6,z7,fun j v hj => by simp [gA] at hj⟩
theorem alive_any (w : World) : Calls Try.prog 26 #[] w fun r w' => r = .returned (.bool true) ∧ Below w.heap.size w w' := by
 obtain ⟨wc,hwc⟩ : ∃ y,w.alloc (.cells #[.int .i64 8,.int .i64 1,.int .i64 0,.int .i64 0,.int .i64 0,.int .i64 0,.int .i64 20,.int .i64 0,.int .i64 1,.int .i64 0,.int .i64 0,.int .i64 0] 35) = y := ⟨_,rfl⟩
 obtain ⟨wsb,hws⟩ : ∃ y,wc.alloc (.cells #[.bool true,.bool true] 4) = y := ⟨_,rfl⟩
 obtain ⟨C,hC⟩ : ∃ y,w.heap.size = y := ⟨_,rfl⟩
 obtain ⟨S,hS⟩ : ∃ y,wc.heap.size = y := ⟨_,rfl⟩
 obtain ⟨wf,hwf⟩ : ∃ y,wsb.alloc (.cells #[.slice (some ⟨C,0,none⟩) 2 2,.slice (some ⟨S,0,none⟩) 2 2,.int .i64 1,.slice none 0 0] 26) = y := ⟨_,rfl⟩
 obtain ⟨F,hF⟩ : ∃ y,wsb.heap.size = y := ⟨_,rfl⟩
 have bc : Below w.heap.size w wc := by rw [← hwc]; exact (Below.refl _ _).alloc (Nat.le_refl _) _
 have bs : Below wc.heap.size wc wsb := by rw [← hws]; exact (Below.refl _ _).alloc (Nat.le_refl _) _
 have bf : Below wsb.heap.size wsb wf := by rw [← hwf]; exact (Below.refl _ _).alloc (Nat.le_refl _) _
 have bsf := bs.trans (bf.mono bs.size)
 have ball := bc.trans (bsf.mono bc.size)
 have hcs : wc.heap.size = w.heap.size + 1 := by rw [← hwc]; simp
 have hss : wsb.heap.size = wc.heap.size + 1 := by rw [← hws]; simp
 have kc : CodeIs wc wc.heap.size [i8,i20] (.slice (some ⟨C,0,none⟩) 2 2) := by
  have := code_two w
  rw [hwc,hC] at this
  rw [hcs,hC]; exact this
 have ks : BoolsIs wsb wsb.heap.size [true,true] (.slice (some ⟨S,0,none⟩) 2 2) := by
  have := bools_two wc
  rw [hws,hS] at this
  rw [hss,hS]; exact this
 have kF : Bk wf F [.slice (some ⟨C,0,none⟩) 2 2,.slice (some ⟨S,0,none⟩) 2 2,.int .i64 1,.slice none 0 0] 26 := by rw [← hwf,← hF]; exact Bk.new _ _ _
 have hbox : BoxF wf F wsb.heap.size fA (.slice (some ⟨C,0,none⟩) 2 2) (.slice (some ⟨S,0,none⟩) 2 2) (.slice none 0 0) := ⟨kF,⟨((kc.below bsf).mono bs.size),(ks.below bf),vars_none _ _⟩,bf.size⟩
 have HBox := keep hbox
 have HBall := keep ball
 have HWc := keep hwc
 have HWs := keep hws
 have HWf := keep hwf
 have HC := keep hC
 have HS := keep hS
 have HF := keep hF
 clear hwc hws hC hS hwf hF bc bs bf bsf ball hcs hss kc ks
 have f0 := kF.cell 0 rfl
 have f1 := kF.cell 1 rfl
 have f2 := kF.cell 2 rfl
 have f3 := kF.cell 3 rfl
 clear kF hbox
 go_enter Try.func26,Try.ntmps26
 go_wp2_with (first | rw [HWc.out,HC.out] | rw [HWs.out,HS.out] | rw [HWf.out,HF.out] | fail)
 have hfx := HBox.out.is
 have hg1 : Below wf.heap.size wf (wf.alloc (.cells #[.int .i64 6] 3)) := (Below.refl _ _).alloc (Nat.le_refl _) _
 have HRun := keep (run_any (wf.alloc (.cells #[.int .i64 6] 3)).heap.size fA tZ (.slice (some ⟨C,0,none⟩) 2 2) (.slice (some ⟨S,0,none⟩) 2 2) (.slice none 0 0) [6] [] (.agg #[.slice (some ⟨wf.heap.size,0,none⟩) 1 1,.slice none 0 0]) (wf.alloc (.cells #[.int .i64 6] 3)) (Nat.le_refl _) (((HBox.out.below hg1).is).mono (by have := HBox.out.le; have := hg1.size; omega)) ⟨_,_,rfl,ints_new wf [6] (by decide),arrs_none _ _⟩ checkA (fun k _ _ => by unfold tZ; omega) (by decide) (by decide) ⟨rfl,rfl,fun i v a h1 h2 => by simp [fA] at h1⟩ ⟨fun x hx => by simp at hx; subst hx; unfold isW; omega,fun a ha => by simp at ha⟩ (by decide))
 refine HRun.out.mono ?_
 rintro r w1 ⟨ls,e,v,sA,hruns,rfl,hlks,harr,hb1⟩
 obtain ⟨he,hlen⟩ := runA hruns
 obtain ⟨pl,cl,rfl⟩ := lks_slice hlks
 obtain ⟨pa,na,ca,rfl⟩ := harr.slice
 rw [hlen,he]
 have hbw1 : Below wf.heap.size wf w1 := hg1.trans (hb1.mono hg1.size)
 have HB1 := keep hbw1
 obtain ⟨tr,htr⟩ : ∃ y,e.trap = y := ⟨_,rfl⟩
 rw [htr]
 clear hfx hg1 HRun hruns hlks harr hb1 he hlen htr f0 f1 f2 f3
 obtain ⟨w2,hw2⟩ : ∃ y,w1.alloc (.cells #[.int .i64 36,.bool tr,.slice pa na ca] 51) = y := ⟨_,rfl⟩
 obtain ⟨EB,hEB⟩ : ∃ y,w1.heap.size = y := ⟨_,rfl⟩
 have hb2 : Below w1.heap.size w1 w2 := by rw [← hw2]; exact (Below.refl _ _).alloc (Nat.le_refl _) _
 have HB2 := keep (hbw1.trans (hb2.mono hbw1.size))
 have kE : Bk w2 EB [.int .i64 36,.bool tr,.slice pa na ca] 51 := by rw [← hw2,← hEB]; exact Bk.new _ _ _
 have HkE := keep kE
 have HFE : Hid (F < EB) := by show _ < _; rw [← hEB]; have := HBox.out.box.lt; have := hbw1.size; omega
 have hbx2 := HBox.out.below HB2.out
 have HCk := keep (check_any wsb.heap.size fA _ _ _ w2 hbx2.le hbx2.is)
 unfold fxA at HCk
 dsimp only [fA] at HCk
 have f0 := hbx2.box.cell 0 rfl
 have f1 := hbx2.box.cell 1 rfl
 have f2 := hbx2.box.cell 2 rfl
 have f3 := hbx2.box.cell 3 rfl
 dsimp only [fA] at f2
 have HW2 := keep hw2
 have HEB := keep hEB
 clear hbw1 hw2 hEB hb2 kE hbx2
 go_wp2_with (first | rw [HW2.out,HEB.out] | fail)
 refine HCk.out.mono ?_
 rintro r w3 ⟨rfl,hb3⟩
 rw [show checkF ⟨[i8,i20],[true,true],1,[]⟩ = (0,-1) from checkA]
 have HB3 := keep (HB2.out.trans (hb3.mono HB2.out.size))
 have HkE3 := keep (HkE.out.fs (Fs.of_below (l:=[]) hb3) (by simp))
 have hbx3 := HBox.out.below HB3.out
 have HOw := keep (own_any wsb.heap.size fA _ _ _ w3 hbx3.le hbx3.is (by decide) (by decide) (by decide))
 unfold fxA at HOw
 dsimp only [fA] at HOw
 clear hb3 HCk f0 f1 f2 f3
 have f0 := hbx3.box.cell 0 rfl
 have f1 := hbx3.box.cell 1 rfl
 have f2 := hbx3.box.cell 2 rfl
 have f3 := hbx3.box.cell 3 rfl
 dsimp only [fA] at f2
 clear hbx3
 go_wp2_with fail
 refine HOw.out.mono ?_
 rintro r w4 ⟨v1,v2,v3,lo1,lo2,lo3,rfl,hl0,hl1,hl2,ho1,ho2,hr1,hr2,hr3,hb4⟩
 have HB4 := keep (HB3.out.trans (hb4.mono HB3.out.size))
 obtain ⟨w5,hw5⟩ : ∃ y,w4.alloc (.cells #[v1,v2,.int .i64 1,v3] 26) = y := ⟨_,rfl⟩
 obtain ⟨GB,hGB⟩ : ∃ y,w4.heap.size = y := ⟨_,rfl⟩
 have hb5 : Below w4.heap.size w4 w5 := by rw [← hw5]; exact (Below.refl _ _).alloc (Nat.le_refl _) _
 have HB5 := keep (HB4.out.trans (hb5.mono HB4.out.size))
 have kG : Bk w5 GB [v1,v2,.int .i64 1,v3] 26 := by rw [← hw5,← hGB]; exact Bk.new _ [v1,v2,.int .i64 1,v3] _
 have hf5 := Fs.of_below (l:=[]) hb5
 obtain ⟨pg1,cg1,g,cg2,pg3,cg3,e1,e2,e3,hcg,hfg,hlg,hltg,hFg⟩ := own_turn ⟨hl1,hl2⟩ ho1 (RowX.fs nest0_nest hr1 hf5 (by simp)) (RowX.fs nest0_nest hr2 hf5 (by simp)) (RowX.fs nest0_nest hr3 hf5 (by simp))
 have hltg4 : g < w4.heap.size := by
  have := (RowX.own hr2).lt g (by rw [e2]; rfl)
  exact this.2
 subst e1 e2 e3
 have HkG := keep kG
 have HGN : Hid (g < GB ∧ F < g ∧ EB < g ∧ w3.heap.size ≤ g) := ⟨by omega,by have h1 := HkE3.out.lt; have h2 := HFE.out; omega,by have h1 := HkE3.out.lt; omega,by omega⟩
 obtain ⟨w6,hw6⟩ : ∃ y,w5.setCell ⟨g,1,none⟩ (.bool false) = y := ⟨_,rfl⟩
 rw [hw6] at hFg
 have hs6 : w6.heap.size = w5.heap.size := by rw [← hw6]; simp [World.setCell]
 have hf6 : Fs [g] w5 w6 := by rw [← hw6]; exact (Fs.refl _ _).set (by simp) 1 _
 have HF6 := keep hf6
 have hE5 := HkE3.out.fs (Fs.of_below (l:=[]) (hb4.trans (hb5.mono hb4.size))) (by simp)
 have HkE6 := keep (hE5.fs hf6 (by simp; have := HGN.out; omega))
 have HkG6 := keep (kG.fs hf6 (by simp; have := HGN.out; omega))
 have hF5 := HBox.out.below HB5.out
 have HBel6 : Hid (Below wf.heap.size wf w6) := HB5.out.trans (hf6.below HB5.out.size (fun z hz => by simp at hz; have h1 := HB3.out.size; have h2 := HGN.out; omega))
 have HCk2 := keep (check_any w5.heap.size gA _ _ _ w6 (by rw [hs6]; exact Nat.le_refl _) hFg)
 unfold fxA at HCk2
 dsimp only [gA] at HCk2
 have q0 := kG.cell 0 rfl
 have q1 := kG.cell 1 rfl
 have q2 := kG.cell 2 rfl
 have q3 := kG.cell 3 rfl
 have p0 := HkG6.out.cell 0 rfl
 have p1 := HkG6.out.cell 1 rfl
 have p2 := HkG6.out.cell 2 rfl
 have p3 := HkG6.out.cell 3 rfl
 have HW5 := keep hw5
 have HGB := keep hGB
 have HW6 := keep hw6
 clear hl0 hl1 hl2 ho1 ho2 hr1 hr2 hr3 hb4 hw5 hGB hb5 kG hf5 hlg hltg hFg hltg4 hw6 hs6 hf6 hE5 hF5 HOw f0 f1 f2 f3
 go_wp2_with (first | rw [HW5.out,HGB.out] | rw [HW6.out] | fail)
 refine HCk2.out.mono ?_
 rintro r w7 ⟨rfl,hb7⟩
 rw [show checkF ⟨[i8,i20],[true,false],1,[]⟩ = (10,0) from checkG]
 have HB7 := keep (HBel6.out.trans (hb7.mono HBel6.out.size))
 have HkE7 := keep (HkE6.out.fs (Fs.of_below (l:=[]) hb7) (by simp))
 obtain ⟨w8,hw8⟩ : ∃ y,w7.alloc (.cells #[.int .i64 0,.int .i64 0,.int .i64 0,.int .i64 0,.int .i64 0,.int .i64 0,.int .i64 0,.int .i64 0,.int .i64 2,.int .i64 0,.int .i64 0,.int .i64 0,.int .i64 0,.int .i64 0,.int .i64 0,.int .i64 0,.int .i64 0,.int .i64 0] 29) = y := ⟨_,rfl⟩
 obtain ⟨TB,hTB⟩ : ∃ y,w7.heap.size = y := ⟨_,rfl⟩
 have hb8 : Below w7.heap.size w7 w8 := by rw [← hw8]; exact (Below.refl _ _).alloc (Nat.le_refl _) _
 have kT : Tb.Blk w8 TB tM := by rw [← hw8,← hTB]; exact Tb.blk_alloc w7 tM
 have HkT := keep kT
 have HB8 := keep (HB7.out.trans (hb8.mono HB7.out.size))
 have HkE8 := keep (HkE7.out.fs (Fs.of_below (l:=[]) hb8) (by simp))
 have HW8 := keep hw8
 have HTB := keep hTB
 have hbx8 := HBox.out.below HB8.out
 obtain ⟨z1,z2,z3,z4,z5,z6,z7,z8⟩ := id hbx8.is.code
 have hz := z8 0 i8 rfl
 obtain ⟨g9,o9,z9,z10,hix⟩ := hz
 cases z4
 have z9' : (⟨C,0,none⟩ : Addr) = ⟨g9,o9,none⟩ := Option.some.inj z9
 cases z9'
 have HBox8 := keep hbx8
 have HSS : Hid (∀ W',Below w8.heap.size w8 W' → (Tb.Blk W' TB tM ∧ W'.cell? ⟨F,0,none⟩ = some (.slice (some ⟨C,0,none⟩) 2 2) ∧ W'.cell? ⟨C,0,none⟩ = some (.int .i64 8) ∧ W'.cell? ⟨C,1,none⟩ = some (.int .i64 1) ∧ W'.cell? ⟨C,2,none⟩ = some (.int .i64 0) ∧ W'.cell? ⟨C,3,none⟩ = some (.int .i64 0) ∧ W'.cell? ⟨C,4,none⟩ = some (.int .i64 0) ∧ W'.cell? ⟨C,5,none⟩ = some (.int .i64 0))) := fun W' hW => by
  exact ⟨HkT.out.below hW HkT.out.lt,(HBox8.out.below hW).box.cell 0 rfl,keep_cell hW hix.c0,keep_cell hW hix.c1,keep_cell hW hix.c2,keep_cell hW hix.c3,keep_cell hW hix.c4,keep_cell hW hix.c5⟩
 have HSeen := keep (fun W => seen_any (W.alloc (.cells #[.int .i64 6,.int .i64 0] 3)).heap.size tM i8 [6,0] (.slice (some ⟨W.heap.size,0,none⟩) 2 2) false (W.alloc (.cells #[.int .i64 6,.int .i64 0] 3)) (Nat.le_refl _) (ints_new W [6,0] (by decide)) (by decide))
 unfold ixA i8 at HSeen
 dsimp only at HSeen
 clear hb7 HCk2 hw8 hTB hb8 kT hbx8 z8 z9 z10 hix q0 q1 q2 q3 p0 p1 p2 p3
 go_wp2_with (first | rw [HW8.out,HTB.out] | fail)
 refine wp_region_noPanic ?_
 refine Ord.wpM_begin (fun W' : World => Tb.Blk W' TB tM ∧ W'.cell? ⟨F,0,none⟩ = some (.slice (some ⟨C,0,none⟩) 2 2) ∧ W'.cell? ⟨C,0,none⟩ = some (.int .i64 8) ∧ W'.cell? ⟨C,1,none⟩ = some (.int .i64 1) ∧ W'.cell? ⟨C,2,none⟩ = some (.int .i64 0) ∧ W'.cell? ⟨C,3,none⟩ = some (.int .i64 0) ∧ W'.cell? ⟨C,4,none⟩ = some (.int .i64 0) ∧ W'.cell? ⟨C,5,none⟩ = some (.int .i64 0)) [0,1,2,3,4,5,6] (by kernel_rfl) ?_
 have HD : Hid (Below w8.heap.size w8 w8.drew) := Below.drew (Below.refl _ _)
 generalize w8.drew = wd at *
 have hS := HSS.out wd HD.out
 refine Ord.wpM_take (i:=0) (v:=.agg (Tb.tabA tM)) (by simp only [List.getElem?_toArray,List.getElem?_cons_zero,List.getElem?_cons_succ]; rfl) (by kernel_rfl) (by kernel_rfl) (by kernel_rfl) (by kernel_rfl) (fun _ _ _ h => h) (tab_yields rfl (.tmp 9) rfl TB rfl tM (fun W hW => hW.1)) hS ?_
 try simp only [Act.put,Ord.t,Ord.z,Ord.s]
 refine Ord.tk (i:=1) (v:=.pointer (some ⟨F,0,none⟩)) (hy:=Or.inl ⟨by rfl,by rintro W' ⟨q0,q1,q2,q3,q4,q5,q6,q7⟩; go_simp⟩) (hS:=hS) (h:=?_)
 try simp only [Act.put,Ord.t,Ord.z,Ord.s]
 refine Ord.tk (i:=2) (v:=.slice (some ⟨C,0,none⟩) 2 2) (hy:=Or.inl ⟨by rfl,by rintro W' ⟨q0,q1,q2,q3,q4,q5,q6,q7⟩; go_simp⟩) (hS:=hS) (h:=?_)
 try simp only [Act.put,Ord.t,Ord.z,Ord.s]
 refine Ord.tk (i:=3) (v:=.pointer (some ⟨C,0,none⟩)) (hy:=Or.inl ⟨by rfl,by rintro W' ⟨q0,q1,q2,q3,q4,q5,q6,q7⟩; go_simp⟩) (hS:=hS) (h:=?_)
 try simp only [Act.put,Ord.t,Ord.z,Ord.s]
 refine Ord.tk (i:=4) (v:=.agg #[.int .i64 8,.int .i64 1,.int .i64 0,.int .i64 0,.int .i64 0,.int .i64 0]) (hy:=Or.inl ⟨by rfl,by rintro W' ⟨q0,q1,q2,q3,q4,q5,q6,q7⟩; go_simp⟩) (hS:=hS) (h:=?_)
 try simp only [Act.put,Ord.t,Ord.z,Ord.s]
 have hb1 : Below wd.heap.size wd (wd.alloc (.cells #[.int .i64 6,.int .i64 0] 3)) := (Below.refl _ _).alloc (Nat.le_refl _) _
 refine Ord.on (i:=5) (h:=fun K hK => ?_)
 go_simp
 refine hK.out _ _ (fun _ => HSS.out _ (HD.out.trans (hb1.mono HD.out.size))) ?_
 clear hK K
 try simp only [Act.put,Ord.t,Ord.z,Ord.s]
 refine Ord.on (i:=6) (h:=fun K hK => ?_)
 go_simp
 refine (HSeen.out wd).mono ?_
 rintro r we ⟨vv,rfl,hvv,hbe⟩
 have HBe := keep ((HD.out.trans (hb1.mono HD.out.size)).trans (hbe.mono (Nat.le_trans HD.out.size hb1.size)))
 go_simp
 refine hK.out _ _ (fun _ => HSS.out _ HBe.out) ?_
 clear hK K
 try simp only [Act.put,Ord.t,Ord.z,Ord.s]
 refine Ord.on (i:=7) (h:=fun K hK => ?_)
 go_simp
 refine hK.out _ _ (fun h => absurd h (by decide)) ?_
 clear hK K
 try simp only [Act.put,Ord.t,Ord.z,Ord.s]
 refine Ord.wpM_done (by kernel_rfl) ?_ _
 refine NoPanic.normal ?_
 have hv6 : valsW (bitsG tM (8 : Int) false) [6,0] 0 (rds ⟨8,1,0,0,0,0⟩) = [6] := by decide
 rw [hv6] at hvv
 rcases RowX.form cellsI_len hvv with ⟨e9,_⟩ | ⟨gz,cz,e9,_,_,hltz,hcz⟩
 ·cases e9
 subst e9
 have c9 : we.cell? ⟨gz,0,none⟩ = some (.int .i64 6) := hcz 0 6 0 _ rfl rfl
 have kEe := HkE8.out.fs (Fs.of_below (l:=[]) HBe.out) (by simp)
 have x0 := kEe.cell 0 rfl
 have hbxe := HBox8.out.below HBe.out
 have f0 := hbxe.box.cell 0 rfl
 have f1 := hbxe.box.cell 1 rfl
 obtain ⟨_,y0,y1,y2,y3,y4,y5,y6⟩ := HSS.out we HBe.out
 obtain ⟨u1,u2,u3,u4,u5,u6,u7,u8⟩ := hbxe.is.sec
 obtain ⟨ug,uo,ue,_,uc⟩ := u8 1 true rfl
 cases u4
 have ue' : (⟨S,0,none⟩ : Addr) = ⟨ug,uo,none⟩ := Option.some.inj ue
 cases ue'
 have uc' : we.cell? ⟨S,1,none⟩ = some (.bool true) := uc
 have HRd := keep (reads_any i8 we)
 unfold ixA i8 at HRd
 dsimp only at HRd
 have HBee := keep (HB8.out.trans (HBe.out.mono HB8.out.size))
 have HUc := keep uc'
 have HXx := keep hbxe
 have HC9 := keep c9
 clear hvv hv6 hltz hcz kEe hbxe u8 uc ue HSeen HSS hS
 go_wp2_with fail
 refine HRd.out.mono ?_
 rintro r wh ⟨vr,rfl,hvr,hbh⟩
 obtain ⟨pr,nr,cr,rfl⟩ := hvr.slice
 have hnr : nr = 2 := by obtain ⟨k1,k2,k3,k4,k5,_⟩ := hvr; cases k4; exact k5.symm
 subst hnr
 have HMk := keep (makes_any i8 wh)
 unfold ixA i8 at HMk
 dsimp only at HMk
 rw [show mks ⟨8,1,0,0,0,0⟩ = true from rfl] at HMk
 have hXh := HXx.out.below hbh
 have HBh := keep hbh
 have c9h := keep_cell hbh HC9.out
 have uch := keep_cell hbh HUc.out
 have y1h := keep_cell hbh y1
 have y2h := keep_cell hbh y2
 have y3h := keep_cell hbh y3
 have y4h := keep_cell hbh y4
 have y5h := keep_cell hbh y5
 have y6h := keep_cell hbh y6
 clear hvr hbh HRd f0 f1 y0 y1 y2 y3 y4 y5 y6 x0 c9 uc'
 have f0 := hXh.box.cell 0 rfl
 have f1 := hXh.box.cell 1 rfl
 have HXh := keep hXh
 have HC9h := keep c9h
 have HUch := keep uch
 clear hXh
 go_wp2_with fail
 refine HMk.out.mono ?_
 rintro r wi ⟨rfl,hbi⟩
 have hXi := HXh.out.below hbi
 have c9i := keep_cell hbi HC9h.out
 have uci := keep_cell hbi HUch.out
 have HEnd : Hid (Below w.heap.size w wi) := by
  have h1 := HBee.out.trans ((HBh.out.trans (hbi.mono HBh.out.size)).mono HBee.out.size)
  exact HBall.out.trans (h1.mono HBall.out.size)
 clear hbi HMk f0 f1 c9h uch y1h y2h y3h y4h y5h y6h
 have f1 := hXi.box.cell 1 rfl
 clear hXi
 go_wp2
 go_ret
 exact ⟨rfl,HEnd.out⟩
end Go.Proofs.Ytpnacanbknejiaa.Fl
