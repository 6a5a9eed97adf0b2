/- Laid together: HgAlive, HgWhenL, HgLay. -/
import Derived.Test.YtfbmkcogkiejnaaGr39
import Derived.Test.YtfbmkcogkiejnaaHgAll
import Derived.Test.YtfbmkcogkiejnaaGr26
import Derived.Test.YtfbmkcogkiejnaaFrRun
namespace Go.Proofs.Ytfbmkcogkiejnaa.Hg
set_option maxHeartbeats 32000000
set_option maxRecDepth 100000
set_option linter.unusedVariables false
set_option linter.unusedSimpArgs false
open Go.ChangeShapes Go.WideShapes Go.ChangeAt Go.RowKit Go.Maps Lg Lr Fl
theorem code_b (w : World) : CodeIs (w.alloc (.cells #[.int .i64 1,.int .i64 1,.int .i64 0,.int .i64 0,.int .i64 0,.int .i64 0,.int .i64 20,.int .i64 0,.int .i64 1,.int .i64 0,.int .i64 0,.int .i64 0] 35)) (w.heap.size + 1) fB.code (.slice (some ⟨w.heap.size,0,none⟩) 2 2) := by
 have hk := Bk.new w [.int .i64 1,.int .i64 1,.int .i64 0,.int .i64 0,.int .i64 0,.int .i64 0,.int .i64 20,.int .i64 0,.int .i64 1,.int .i64 0,.int .i64 0,.int .i64 0] 35
 refine ⟨_,_,_,rfl,rfl,Nat.le_refl _,by omega,fun j i hj => ⟨_,0,rfl,by omega,?_⟩⟩
 match j,hj with
 | 0,hj => cases hj; exact ⟨hk.cell 0 rfl,hk.cell 1 rfl,hk.cell 2 rfl,hk.cell 3 rfl,hk.cell 4 rfl,hk.cell 5 rfl⟩
 | 1,hj => cases hj; exact ⟨hk.cell 6 rfl,hk.cell 7 rfl,hk.cell 8 rfl,hk.cell 9 rfl,hk.cell 10 rfl,hk.cell 11 rfl⟩
theorem two_laid (w : World) (c : Array Value) (l : List Ix) (hc : ∀ w : World,CodeIs (w.alloc (.cells c 35)) (w.heap.size + 1) l (.slice (some ⟨w.heap.size,0,none⟩) 2 2)) (w1 w2 : World) (C S : Nat) (h1 : w.alloc (.cells c 35) = w1) (h2 : w1.alloc (.cells #[.bool true,.bool true] 4) = w2) (e1 : w.heap.size = C) (e2 : w1.heap.size = S) :
  Below w.heap.size w w2 ∧ FxIs w2 w2.heap.size ⟨l,[true,true],1,[]⟩ (.slice (some ⟨C,0,none⟩) 2 2) (.slice (some ⟨S,0,none⟩) 2 2) (.slice none 0 0) := by
 have b1 : Below w.heap.size w w1 := by rw [← h1]; exact (Below.refl _ _).alloc (Nat.le_refl _) _
 have b2 : Below w1.heap.size w1 w2 := by rw [← h2]; exact (Below.refl _ _).alloc (Nat.le_refl _) _
 have z1 : w1.heap.size = w.heap.size + 1 := by rw [← h1]; simp
 have z2 : w2.heap.size = w1.heap.size + 1 := by rw [← h2]; simp
 have k1 := hc w
 rw [h1,e1] at k1
 have k2 := bools_two w1
 rw [h2,e2] at k2
 refine ⟨b1.trans (b2.mono b1.size),⟨?_,?_,vars_none _ _⟩⟩
 ·exact (k1.below (b2.mono (by omega))).mono (by omega)
 ·exact k2.mono (by omega)
theorem i64_8 : Tb.I64 t8 := fun k => by unfold t8; split <;> omega
theorem i64_18 : Tb.I64 t18 := fun k => by unfold t18; split <;> (try split) <;> omega
theorem tabR_18 : TabR t18 := by
 refine ⟨rfl,fun k h1 h2 => ?_⟩
 have : ∀ j : Fin 18,1 ≤ j.val → 0 ≤ t18 j.val ∧ t18 j.val ≤ Tb.most j.val := by decide
 exact this ⟨k,by omega⟩ h1
theorem wg_fx {f : Fx} {T : Nat → Int} {s : S8} {w w' : World} {r : Ending} (h : Wg f T w r w') (he : err8 f T = 0) (hs : run8 f T = some s) (hl1 : (leadM s.st s.m.code).length ≤ 1048576) (hl2 : s.m.sec.length ≤ 100000000) (hl3 : f.arrs.length ≤ 1048576) : Below w.heap.size w w' ∧ ∃ (p1 : Option Addr) (N c1 : Nat) (LB M : Nat) (p3 : Option Addr) (n3 c3 : Nat),r = .returned (.tuple #[.agg #[.slice p1 N c1,.slice (some ⟨LB,0,none⟩) M M,.int .i64 f.params,.slice p3 n3 c3],.int .i64 0]) ∧ (∀ (l : List Nat) (W : World),Fs l w' W → (∀ k ∈ l,k < w.heap.size) → FxIs W W.heap.size ⟨leadM s.st s.m.code,is1 s.m.sec,f.params,f.arrs⟩ (.slice p1 N c1) (.slice (some ⟨LB,0,none⟩) M M) (.slice p3 n3 c3)) ∧ (leadM s.st s.m.code).length = N ∧ (is1 s.m.sec).length = M := by
 obtain ⟨hb,⟨he',_⟩ | ⟨_,s',hs',hm,v1,LB,v3,lo1,lo3,rfl,h1,h2,h3,hr1,hk,hr3⟩⟩ := h
 ·exact absurd he he'
 ·obtain rfl : s = s' := Option.some.inj (hs.symm.trans hs')
  obtain ⟨p1,n1,c1,rfl⟩ := RowX.slice hr1
  have hn : n1 = (leadM s.st s.m.code).length := RowX.len hr1
  have hsl : (is1 s.m.sec).length = s.m.sec.length := by unfold is1; rw [List.length_map]
  obtain ⟨p3,n3,c3,rfl⟩ := RowX.slice hr3
  refine ⟨hb,p1,n1,c1,LB,s.m.sec.length,p3,n3,c3,rfl,fun l W hW hlw => ⟨rowX_code (RowX.fs nest0_nest hr1 hW (fun i hi => Nat.lt_of_lt_of_le (hlw i hi) h1)) hl1,?_,rowX_vars (RowX.fs nest0_nest hr3 hW (fun i hi => Nat.lt_of_lt_of_le (hlw i hi) h3)) hl3⟩,hn.symm,hsl⟩
  have hk' := hk.fs hW (fun hx => by have := hlw _ hx; omega)
  refine ⟨_,_,_,rfl,hsl,Nat.le_refl _,by omega,fun j b hj => ⟨_,0,rfl,hk'.lt,?_⟩⟩
  rw [Nat.zero_add]
  exact hk'.cell j (by rw [List.getElem?_map]; show Option.map _ (is1 s.m.sec)[j]? = _; rw [show (is1 s.m.sec)[j]? = some b from hj]; rfl)
theorem wg_A {w w' : World} {r : Ending} (h : Wg fA t8 w r w') : Below w.heap.size w w' ∧ ∃ (p1 : Option Addr) (N c1 : Nat) (LB M : Nat) (p3 : Option Addr) (n3 c3 : Nat),r = .returned (.tuple #[.agg #[.slice p1 N c1,.slice (some ⟨LB,0,none⟩) M M,.int .i64 1,.slice p3 n3 c3],.int .i64 0]) ∧ (∀ (l : List Nat) (W : World),Fs l w' W → (∀ k ∈ l,k < w.heap.size) → FxIs W W.heap.size xA (.slice p1 N c1) (.slice (some ⟨LB,0,none⟩) M M) (.slice p3 n3 c3)) ∧ xA.code.length = N ∧ xA.sec.length = M := by
 have := wg_fx h err_A run_A len_A2 (Nat.le_trans len_A3 (by decide)) (by decide)
 rw [show fA.params = 1 from rfl,show fA.arrs = [] from rfl] at this
 unfold xA
 dsimp only
 exact this
theorem alive_any (w : World) : Calls Try.prog 29 #[] w fun r w' => r = .returned (.bool true) ∧ Below w.heap.size w w' := by
 obtain ⟨wc,hwc⟩ : ∃ y,w.alloc (.cells #[.int .i64 8,.int .i64 1,.int .i64 0,.int .i64 0,.int .i64 0,.int .i64 0,.int .i64 20,.int .i64 0,.int .i64 1,.int .i64 0,.int .i64 0,.int .i64 0] 35) = y := ⟨_,rfl⟩
 obtain ⟨wsb,hws⟩ : ∃ y,wc.alloc (.cells #[.bool true,.bool true] 4) = y := ⟨_,rfl⟩
 obtain ⟨C,hC⟩ : ∃ y,w.heap.size = y := ⟨_,rfl⟩
 obtain ⟨S,hS⟩ : ∃ y,wc.heap.size = y := ⟨_,rfl⟩
 obtain ⟨wf,hwf⟩ : ∃ y,wsb.alloc (.cells #[.slice (some ⟨C,0,none⟩) 2 2,.slice (some ⟨S,0,none⟩) 2 2,.int .i64 1,.slice none 0 0] 26) = y := ⟨_,rfl⟩
 obtain ⟨F,hF⟩ : ∃ y,wsb.heap.size = y := ⟨_,rfl⟩
 obtain ⟨wt,hwt⟩ : ∃ y,wf.alloc (.cells #[.int .i64 0,.int .i64 0,.int .i64 0,.int .i64 0,.int .i64 0,.int .i64 0,.int .i64 0,.int .i64 0,.int .i64 1,.int .i64 0,.int .i64 0,.int .i64 0,.int .i64 0,.int .i64 0,.int .i64 0,.int .i64 0,.int .i64 0,.int .i64 0] 29) = y := ⟨_,rfl⟩
 obtain ⟨TB,hTB⟩ : ∃ y,wf.heap.size = y := ⟨_,rfl⟩
 obtain ⟨b02,hx2⟩ := two_laid w _ [i8,i20] code_two wc wsb C S hwc hws hC hS
 have b23 : Below wsb.heap.size wsb wf := by rw [← hwf]; exact (Below.refl _ _).alloc (Nat.le_refl _) _
 have b34 : Below wf.heap.size wf wt := by rw [← hwt]; exact (Below.refl _ _).alloc (Nat.le_refl _) _
 have b24 := b23.trans (b34.mono b23.size)
 have b04 := b02.trans (b24.mono b02.size)
 have kF : Bk wt F [.slice (some ⟨C,0,none⟩) 2 2,.slice (some ⟨S,0,none⟩) 2 2,.int .i64 1,.slice none 0 0] 26 := by
  have : Bk wf F [.slice (some ⟨C,0,none⟩) 2 2,.slice (some ⟨S,0,none⟩) 2 2,.int .i64 1,.slice none 0 0] 26 := by rw [← hwf,← hF]; exact Bk.new _ _ _
  exact this.fs (Fs.of_below (l:=[]) b34) (by simp)
 have kT : Tb.Blk wt TB t8 := by rw [← hwt,← hTB]; exact Tb.blk_alloc wf t8
 have HkT := keep kT
 have HLg := keep (legal_whole wsb.heap.size fA _ _ _ t8 wt b24.size (hx2.below b24) (by decide) (by decide) i64_8)
 have HB4 := keep b04
 have HN4 : Hid (C < S ∧ S < F ∧ F < TB ∧ TB < wt.heap.size ∧ w.heap.size = C) := ⟨by rw [← hC,← hS,← hwc]; simp,by rw [← hS,← hF,← hws]; simp,by rw [← hF,← hTB,← hwf]; simp,kT.lt,hC⟩
 have HWc := keep hwc
 have HWs := keep hws
 have HWf := keep hwf
 have HWt := keep hwt
 have HC := keep hC
 have HS := keep hS
 have HF := keep hF
 have HTB := keep hTB
 have f0 := kF.cell 0 rfl
 have f1 := kF.cell 1 rfl
 have f2 := kF.cell 2 rfl
 have f3 := kF.cell 3 rfl
 unfold fxA at HLg
 dsimp only [fA] at HLg
 clear hwc hws hwf hwt hC hS hF hTB b02 hx2 b23 b34 b24 b04 kF kT
 go_enter Try.func29,Try.ntmps29
 go_wp2_with (first | refine Tb.load_tab rfl _ rfl TB rfl t8 HkT.out ?_ | rw [HWc.out,HC.out] | rw [HWs.out,HS.out] | rw [HWf.out,HF.out] | rw [HWt.out,HTB.out] | fail)
 refine HLg.out.mono ?_
 rintro r w1 hq
 obtain ⟨hb1,p1,N,c1,LB,M,p3,n3,c3,rfl,hfx,hN,hM⟩ := wg_A hq
 clear HLg hq f0 f1 f2 f3
 have HB1 := keep (HB4.out.trans (hb1.mono HB4.out.size))
 have HkT1 := keep (HkT.out.below hb1 HkT.out.lt)
 obtain ⟨w2,hw2⟩ : ∃ y,w1.alloc (.cells #[.slice p1 N c1,.slice (some ⟨LB,0,none⟩) M M,.int .i64 1,.slice p3 n3 c3] 26) = y := ⟨_,rfl⟩
 obtain ⟨X,hX⟩ : ∃ y,w1.heap.size = y := ⟨_,rfl⟩
 have hb2 : Below w1.heap.size w1 w2 := by rw [← hw2]; exact (Below.refl _ _).alloc (Nat.le_refl _) _
 have kX : Bk w2 X [.slice p1 N c1,.slice (some ⟨LB,0,none⟩) M M,.int .i64 1,.slice p3 n3 c3] 26 := by rw [← hw2,← hX]; exact Bk.new _ _ _
 have HkT2 := keep (HkT1.out.below hb2 HkT1.out.lt)
 have k1 := HkT2.out.lies 1 (by omega)
 have u1 := HkT2.out.frozen 1
 have HW2 := keep hw2
 have HX := keep hX
 have HB2 := keep (HB1.out.trans (hb2.mono HB1.out.size))
 have HkX := keep kX
 have HXA := keep hfx
 have HXN : Hid (TB < X ∧ w1.heap.size = X ∧ w2.heap.size = X + 1) := ⟨by rw [← hX]; exact HkT1.out.lt,hX,by rw [← hw2,← hX]; simp⟩
 have HNM := keep len_A
 rw [hN,hM] at HNM
 have HN := keep hN
 have HM := keep hM
 obtain ⟨w3,hw3⟩ : ∃ y,w2.setCell ⟨TB,1,none⟩ (.int .i64 1) = y := ⟨_,rfl⟩
 have hs3 : w3.heap.size = w2.heap.size := by rw [← hw3]; simp [World.setCell]
 have hf3 : Fs [TB] w2 w3 := by rw [← hw3]; exact (Fs.refl _ _).set (by simp) 1 _
 have kT3 : Tb.Blk w3 TB t18 := by
  have h := HkT2.out
  unfold Tb.Blk at h ⊢
  rw [← hw3]
  have e : Tb.tabA t18 = (Tb.tabA t8).set! 1 (.int .i64 1) := rfl
  rw [e]
  simp [World.setCell,Array.getElem?_modify,h]
 have HkT3 := keep kT3
 have HkX3 := keep (kX.fs hf3 (by simp; have := HXN.out; omega))
 have HG3 : Hid (Fs [TB] w1 w3) := (Fs.of_below hb2).trans hf3
 have HB3 : Hid (Below w.heap.size w w3) := HB2.out.trans (hf3.below HB2.out.size (fun z hz => by simp at hz; have h1 := HN4.out; omega))
 obtain ⟨wc2,hwc2⟩ : ∃ y,w3.alloc (.cells #[.int .i64 1,.int .i64 1,.int .i64 0,.int .i64 0,.int .i64 0,.int .i64 0,.int .i64 20,.int .i64 0,.int .i64 1,.int .i64 0,.int .i64 0,.int .i64 0] 35) = y := ⟨_,rfl⟩
 obtain ⟨ws2,hws2⟩ : ∃ y,wc2.alloc (.cells #[.bool true,.bool true] 4) = y := ⟨_,rfl⟩
 obtain ⟨C2,hC2⟩ : ∃ y,w3.heap.size = y := ⟨_,rfl⟩
 obtain ⟨S2,hS2⟩ : ∃ y,wc2.heap.size = y := ⟨_,rfl⟩
 obtain ⟨b34,hx4⟩ := two_laid w3 _ fB.code code_b wc2 ws2 C2 S2 hwc2 hws2 hC2 hS2
 have HkT4 := keep (HkT3.out.below b34 HkT3.out.lt)
 have HLg := keep (legal_whole ws2.heap.size fB _ _ _ t18 ws2 (Nat.le_refl _) hx4 (by decide) (by decide) i64_18)
 unfold fxA at HLg
 dsimp only [fB] at HLg
 have HB4 := keep (HB3.out.trans (b34.mono HB3.out.size))
 have HkX4 := keep (HkX3.out.fs (Fs.of_below (l:=[]) b34) (by simp))
 have HG4 : Hid (Fs [TB] w1 ws2) := HG3.out.trans (Fs.of_below b34)
 have HW3 := keep hw3
 have HWc2 := keep hwc2
 have HWs2 := keep hws2
 have HC2 := keep hC2
 have HS2 := keep hS2
 clear hw3 hs3 hf3 kT3 hwc2 hws2 hC2 hS2 b34 hx4
 clear hw2 hX kX hb1 hb2 hfx hN hM
 go_wp2_with (first | refine Tb.load_tab rfl _ rfl TB rfl t18 HkT4.out ?_ | rw [HW2.out,HX.out] | rw [HW3.out] | rw [HWc2.out,HC2.out] | rw [HWs2.out,HS2.out] | fail)
 refine HLg.out.mono ?_
 rintro r w5 ⟨hb5,⟨_,rfl⟩ | ⟨he,_⟩⟩
 rotate_left
 ·exact absurd (he.symm.trans err_B) (by decide)
 rw [show err8 ⟨[⟨1,1,0,0,0,0⟩,i20],[true,true],1,[]⟩ t18 = 11 from err_B]
 clear HLg
 have HkX5 := keep (HkX4.out.fs (Fs.of_below (l:=[]) hb5) (by simp))
 have HkT5 := keep (HkT4.out.below hb5 HkT4.out.lt)
 have HB5 := keep (HB4.out.trans (hb5.mono HB4.out.size))
 have HG5 : Hid (Fs [TB] w1 w5) := HG4.out.trans (Fs.of_below hb5)
 obtain ⟨w6,hw6⟩ : ∃ y,w5.alloc (.cells #[.slice none 0 0,.slice none 0 0,.int .i64 0,.slice none 0 0] 26) = y := ⟨_,rfl⟩
 obtain ⟨Y,hY⟩ : ∃ y,w5.heap.size = y := ⟨_,rfl⟩
 have hb6 : Below w5.heap.size w5 w6 := by rw [← hw6]; exact (Below.refl _ _).alloc (Nat.le_refl _) _
 have HkX6 := keep (HkX5.out.fs (Fs.of_below (l:=[]) hb6) (by simp))
 have HkT6 := keep (HkT5.out.below hb6 HkT5.out.lt)
 have HB6 := keep (HB5.out.trans (hb6.mono HB5.out.size))
 have HG6 : Hid (Fs [TB] w1 w6) := HG5.out.trans (Fs.of_below hb6)
 have dN : decide ((N : Int) < 3) = false := decide_eq_false (by have := HNM.out; omega)
 have x0 := HkX6.out.cell 0 rfl
 have x1 := HkX6.out.cell 1 rfl
 have x2 := HkX6.out.cell 2 rfl
 have x3 := HkX6.out.cell 3 rfl
 have HCk := keep (rcheck_any w6.heap.size xA _ _ _ w6 (Nat.le_refl _) (HXA.out [TB] w6 HG6.out (by simp; exact HN4.out.2.2.2.1)))
 unfold fxA at HCk
 rw [show xA.params = 1 from rfl] at HCk
 clear hb5 hb6 k1 u1
 subst hw6
 go_wp2_with fail
 refine HCk.out.mono ?_
 rintro r w7 ⟨rfl,hb7⟩
 rw [check_A]
 clear HCk x0 x1 x2 x3 dN
 have HkX7 := keep (HkX6.out.fs (Fs.of_below (l:=[]) hb7) (by simp))
 have HkT7 := keep (HkT6.out.below hb7 HkT6.out.lt)
 have HB7 := keep (HB6.out.trans (hb7.mono HB6.out.size))
 have HG7 : Hid (Fs [TB] w1 w7) := HG6.out.trans (Fs.of_below hb7)
 obtain ⟨w8,hw8⟩ : ∃ y,w7.alloc (.cells #[.int .i64 9] 3) = y := ⟨_,rfl⟩
 obtain ⟨Z,hZ⟩ : ∃ y,w7.heap.size = y := ⟨_,rfl⟩
 have hb8 : Below w7.heap.size w7 w8 := by rw [← hw8]; exact (Below.refl _ _).alloc (Nat.le_refl _) _
 have HG8 : Hid (Fs [TB] w1 w8) := HG7.out.trans (Fs.of_below hb8)
 have HB8 := keep (HB7.out.trans (hb8.mono HB7.out.size))
 have hgv : GvIs w8 w8.heap.size [9] [] (.agg #[.slice (some ⟨Z,0,none⟩) 1 1,.slice none 0 0]) := by
  have := ints_new w7 [9] (by decide)
  rw [← hZ,← hw8]
  exact ⟨_,_,rfl,this,arrs_none _ _⟩
 have HRun := keep (rrun_any w8.heap.size xA t18 _ _ _ [9] [] _ w8 (Nat.le_refl _) (HXA.out [TB] w8 HG8.out (by simp; exact HN4.out.2.2.2.1)) hgv check_A tabR_18 (Nat.le_trans len_A.2.2.1 (by decide)) ⟨rfl,rfl,fun i v a h1 h2 => by simp at h2⟩ ⟨fun x hx => by simp at hx; subst hx; unfold isW; omega,fun a ha => by simp at ha⟩ (by decide) (by decide))
 unfold fxA at HRun
 rw [show xA.params = 1 from rfl] at HRun
 have HW8 := keep hw8
 have HZ := keep hZ
 have x0 := HkX7.out.cell 0 rfl
 have x1 := HkX7.out.cell 1 rfl
 have x2 := HkX7.out.cell 2 rfl
 have x3 := HkX7.out.cell 3 rfl
 clear hb7 hw8 hZ hb8 hgv
 go_wp2_with (first | refine Tb.load_tab rfl _ rfl TB rfl t18 HkT7.out ?_ | rw [HW8.out,HZ.out] | fail)
 refine HRun.out.mono ?_
 rintro r w9 ⟨ls,e,v,sE,hruns,rfl,hlks,harr,hb9⟩
 rw [end_A hruns]
 obtain ⟨pl,cl,rfl⟩ := lks_slice hlks
 obtain ⟨pa,na,ca,rfl⟩ := harr.slice
 have HB9 := keep (HB8.out.trans (hb9.mono HB8.out.size))
 obtain ⟨tr,htr⟩ : ∃ y,e.trap = y := ⟨_,rfl⟩
 rw [htr]
 obtain ⟨nl,hnl⟩ : ∃ y,ls.length = y := ⟨_,rfl⟩
 rw [hnl]
 clear HRun hruns hlks harr hb9 htr hnl x0 x1 x2 x3
 have HFin : Hid (∀ o : Obj,Below w.heap.size w (w9.alloc o)) := fun o => HB9.out.alloc HB9.out.size o
 go_wp2_with fail
 go_ret
 exact ⟨rfl,HFin.out _⟩
end Go.Proofs.Ytfbmkcogkiejnaa.Hg
namespace Go.Proofs.Ytfbmkcogkiejnaa.Hg
set_option linter.unusedVariables false
set_option linter.unusedSimpArgs false
open Lg Fl
def Wds (P : List Int) : Prop := ∀ x ∈ P,isW x
def Ag (n : Nat) (P Q : List Int) : Prop := ∀ p : Int,0 ≤ p → p < n → gI Q p = gI P p
def run1 (x : Ix) (P : List Int) : List Int := P.set x.d.toNat (made x P [])
def runC (C : List Ix) (P : List Int) : List Int := C.foldl (fun P x => run1 x P) P
def Inn (sec : List Int) (p : Int) : Prop := 0 ≤ p ∧ p < sec.length
def NumP (m : Mk) (P : List Int) : Prop := ∀ k p,m.nums.lookup k = some p → gI P p = k
structure OkN (sec : List Int) (x : Ix) : Prop where
 op : x.op = 14 ∧ isW x.imm ∨ (1 ≤ x.op ∧ x.op ≤ 7 ∧ Inn sec x.a ∧ Inn sec x.b)
 d : Inn sec x.d
 lab : gI sec x.d = 1 ∨ orS sec (rds x) = 0
theorem OkN.rds {sec : List Int} {x : Ix} (h : OkN sec x) : ∀ p ∈ rds x,Inn sec p := fun p hp => by
 unfold Fl.rds at hp
 rcases h.op with ⟨h14,_⟩ | ⟨h1,h7,ha,hb⟩
 ·rw [if_neg (by omega),if_neg (by omega),if_neg (by omega),if_neg (by omega)] at hp; cases hp
 ·rw [if_pos (by omega)] at hp
  simp only [List.mem_cons,List.not_mem_nil,or_false] at hp
  rcases hp with e | e <;> (subst e; assumption)
theorem Inn.app {sec : List Int} {p : Int} (h : Inn sec p) (S : List Int) : Inn (sec ++ S) p := ⟨h.1,by have := h.2; rw [List.length_append]; omega⟩
theorem orS_app {sec : List Int} {l : List Int} (h : ∀ p ∈ l,Inn sec p) (S : List Int) : orS (sec ++ S) l = orS sec l := by
 unfold orS
 have : l.any (fun p => gI (sec ++ S) p == 1) = l.any (fun p => gI sec p == 1) := by
  rw [Bool.eq_iff_iff,List.any_eq_true,List.any_eq_true]
  constructor
  ·rintro ⟨p,hp,hh⟩; exact ⟨p,hp,by rw [gI_app _ _ _ (h p hp)] at hh; exact hh⟩
  ·rintro ⟨p,hp,hh⟩; exact ⟨p,hp,by rw [gI_app _ _ _ (h p hp)]; exact hh⟩
 rw [this]
theorem valsW_app {n : Int} {sec S : List Int} : ∀ {l : List Int} {k : Nat},(∀ p ∈ l,Inn sec p) → valsW n (sec ++ S) k l = valsW n sec k l
 | [],_,_ => rfl
 | p :: l,k,h => by
  have hp := h p (by simp)
  rw [valsW,valsW,valsW_app (l:=l) (k:=k + 1) (fun q hq => h q (by simp [hq])),gI_app _ _ _ hp,wi_iff.2 hp,wi_iff.2 (hp.app S)]
theorem shw_app (T : Nat → Int) {sec : List Int} {x : Ix} (h : ∀ p ∈ Fl.rds x,Inn sec p) (S : List Int) : shwM T (sec ++ S) x = shwM T sec x := by
 unfold shwM; rw [valsW_app h]
theorem OkN.app {sec : List Int} {x : Ix} (h : OkN sec x) (S : List Int) : OkN (sec ++ S) x := by
 refine ⟨?_,h.d.app S,?_⟩
 ·rcases h.op with h1 | ⟨h1,h2,h3,h4⟩
  ·exact .inl h1
  ·exact .inr ⟨h1,h2,h3.app S,h4.app S⟩
 ·rcases h.lab with h1 | h1
  ·left; rw [gI_app _ _ _ h.d]; exact h1
  ·right; rw [orS_app h.rds]; exact h1
theorem gI_set_ne {P : List Int} {d p v : Int} (h : 0 ≤ p) (hd : 0 ≤ d) (hne : p ≠ d) : gI (P.set d.toNat v) p = gI P p := by
 unfold gI
 rw [List.getD_eq_getElem?_getD,List.getD_eq_getElem?_getD,List.getElem?_set_ne (by omega)]
theorem gI_set_eq {P : List Int} {d v : Int} (hd : 0 ≤ d ∧ d < P.length) : gI (P.set d.toNat v) d = v := by
 unfold gI
 rw [List.getD_eq_getElem?_getD,List.getElem?_set_self (by omega)]; rfl
theorem made_ok {sec : List Int} {x : Ix} (h : OkN sec x) {P : List Int} : isW (made x P []) := by
 unfold made
 rcases h.op with ⟨h14,hi⟩ | ⟨h1,h7,_,_⟩
 ·rw [if_neg (by omega),if_pos h14]; exact hi
 ·rw [if_neg (by omega),if_neg (by omega),if_neg (by omega),if_neg (by omega)]; exact Wd.two_word _ _ _
theorem run1_len (x : Ix) (P : List Int) : (run1 x P).length = P.length := by unfold run1; rw [List.length_set]
theorem run1_wds {sec : List Int} {x : Ix} (h : OkN sec x) {P : List Int} (hP : Wds P) : Wds (run1 x P) := fun v hv => by
 rcases List.mem_or_eq_of_mem_set hv with e | e
 ·exact hP v e
 ·rw [e]; exact made_ok h
theorem runC_cons (x : Ix) (C : List Ix) (P : List Int) : runC (x :: C) P = runC C (run1 x P) := rfl
theorem runC_app (C D : List Ix) (P : List Int) : runC (C ++ D) P = runC D (runC C P) := by unfold runC; rw [List.foldl_append]
theorem runC_len : ∀ (C : List Ix) (P : List Int),(runC C P).length = P.length
 | [],P => rfl
 | x :: C,P => by rw [runC_cons,runC_len C,run1_len]
theorem runC_wds {sec : List Int} : ∀ {C : List Ix} {P : List Int},(∀ x ∈ C,OkN sec x) → Wds P → Wds (runC C P)
 | [],P,_,h => h
 | x :: C,P,hC,h => by rw [runC_cons]; exact runC_wds (fun y hy => hC y (by simp [hy])) (run1_wds (hC x (by simp)) h)
theorem runC_ag {n : Nat} : ∀ {C : List Ix} {P : List Int},(∀ x ∈ C,(n : Int) ≤ x.d) → Ag n P (runC C P)
 | [],P,_ => fun p _ _ => rfl
 | x :: C,P,hC => fun p h0 h1 => by
  have hx := hC x (by simp)
  rw [runC_cons,runC_ag (C:=C) (fun y hy => hC y (by simp [hy])) p h0 h1]
  unfold run1
  exact gI_set_ne h0 (by omega) (by omega)
theorem Ag.mono {n k : Nat} {P Q : List Int} (h : Ag n P Q) (hk : k ≤ n) : Ag k P Q := fun p h0 h1 => h p h0 (by omega)
theorem Ag.trans {n : Nat} {P Q R : List Int} (h : Ag n P Q) (h' : Ag n Q R) : Ag n P R := fun p h0 h1 => (h' p h0 h1).trans (h p h0 h1)
theorem Ag.at {sec : List Int} {P Q : List Int} (h : Ag sec.length P Q) {p : Int} (hp : Inn sec p) : gI Q p = gI P p := h p hp.1 hp.2
structure Lay (T : Nat → Int) (m M : Mk) (R : List Int → List Int → Prop) : Prop where
 gd : Gd M
 sh : M.shown = false → m.shown = false
 ex : ∃ C S,M.code = m.code ++ C ∧ M.sec = m.sec ++ S ∧ (∀ x ∈ C,OkN M.sec x ∧ (m.sec.length : Int) ≤ x.d ∧ (M.shown = false → shwM T M.sec x = false)) ∧
  ∀ P,Wds P → M.sec.length ≤ P.length → NumP m P → NumP M (runC C P) ∧ R P (runC C P)
theorem Lay.ge {T : Nat → Int} {m M : Mk} {R : List Int → List Int → Prop} (h : Lay T m M R) : m.sec.length ≤ M.sec.length := by
 obtain ⟨C,S,_,h2,_⟩ := h.ex
 rw [h2,List.length_append]; omega
theorem Lay.inn {T : Nat → Int} {m M : Mk} {R : List Int → List Int → Prop} (h : Lay T m M R) {p : Int} (hp : Inn m.sec p) : Inn M.sec p := ⟨hp.1,by have := hp.2; have := h.ge; omega⟩
theorem Lay.weak {T : Nat → Int} {m M : Mk} {R R' : List Int → List Int → Prop} (h : Lay T m M R) (hR : ∀ P Q,Wds P → Wds Q → Ag m.sec.length P Q → R P Q → R' P Q) : Lay T m M R' := by
 obtain ⟨C,S,h1,h2,h3,h4⟩ := h.ex
 refine ⟨h.gd,h.sh,C,S,h1,h2,h3,fun P hP hl hN => ?_⟩
 obtain ⟨q1,q2⟩ := h4 P hP hl hN
 exact ⟨q1,hR P _ hP (runC_wds (fun x hx => (h3 x hx).1) hP) (runC_ag fun x hx => (h3 x hx).2.1) q2⟩
def Seq (k l : Nat) (R R' : List Int → List Int → Prop) (P Q : List Int) : Prop := ∃ P',Wds P' ∧ Ag k P P' ∧ Ag l P' Q ∧ R P P' ∧ R' P' Q
theorem Lay.then {T : Nat → Int} {m M N : Mk} {R R' : List Int → List Int → Prop} (h : Lay T m M R) (h' : Lay T M N R') : Lay T m N (Seq m.sec.length M.sec.length R R') := by
 obtain ⟨C,S,h1,h2,h3,h4⟩ := h.ex
 obtain ⟨C',S',k1,k2,k3,k4⟩ := h'.ex
 refine ⟨h'.gd,fun hs => h.sh (h'.sh hs),C ++ C',S ++ S',by rw [k1,h1,List.append_assoc],by rw [k2,h2,List.append_assoc],fun x hx => ?_,fun P hP hl hN => ?_⟩
 ·rcases List.mem_append.1 hx with hx | hx
  ·obtain ⟨q1,q2,q3⟩ := h3 x hx
   refine ⟨by rw [k2]; exact q1.app _,q2,fun hs => ?_⟩
   rw [k2,shw_app T q1.rds]
   exact q3 (h'.sh hs)
  ·obtain ⟨q1,q2,q3⟩ := k3 x hx
   exact ⟨q1,by have := h.ge; omega,q3⟩
 ·have hw := runC_wds (fun x hx => (h3 x hx).1) hP
  have hl2 : M.sec.length ≤ P.length := Nat.le_trans h'.ge hl
  obtain ⟨q1,q2⟩ := h4 P hP hl2 hN
  obtain ⟨r1,r2⟩ := k4 (runC C P) hw (by rw [runC_len]; exact hl) q1
  rw [runC_app]
  exact ⟨r1,_,hw,runC_ag fun x hx => (h3 x hx).2.1,runC_ag fun x hx => (k3 x hx).2.1,q2,r2⟩
theorem Lay.refl (T : Nat → Int) {m : Mk} (h : Gd m) : Lay T m m (fun P Q => Q = P) := ⟨h,id,[],[],by simp,by simp,(fun x hx => by cases hx),fun P _ _ hN => ⟨hN,rfl⟩⟩
theorem made_lay (T : Nat → Int) (i : Ix) {m : Mk} (h : Gd m) (hi : i.op = 14 ∧ isW i.imm ∨ (1 ≤ i.op ∧ i.op ≤ 7 ∧ Inn m.sec i.a ∧ Inn m.sec i.b)) :
  Lay T m (madeM T i m).2 (fun P Q => gI Q (madeM T i m).1 = made (atD i m.sec.length) P []) := by
 have hd : Inn (m.sec ++ [orS m.sec (rds i)]) (m.sec.length : Int) := ⟨by omega,by rw [List.length_append,List.length_singleton]; omega⟩
 have hr : ∀ p ∈ rds (atD i m.sec.length),Inn m.sec p := fun p hp => by
  unfold rds at hp
  rcases hi with ⟨h14,_⟩ | ⟨h1,h7,ha,hb⟩
  ·rw [if_neg (by show ¬ (1 ≤ i.op ∧ i.op ≤ 12); omega),if_neg (by show ¬ i.op = 13; omega),if_neg (by show ¬ i.op = 17; omega),if_neg (by show ¬ (i.op = 15 ∨ i.op = 16 ∨ i.op = 19 ∨ i.op = 20); omega)] at hp; cases hp
  ·rw [if_pos (by show 1 ≤ i.op ∧ i.op ≤ 12; omega)] at hp
   simp only [List.mem_cons,List.not_mem_nil,or_false] at hp
   rcases hp with e | e <;> (rw [e]; assumption)
 have hrd : rds (atD i m.sec.length) = rds i := by
  unfold rds
  rcases hi with ⟨h14,_⟩ | ⟨h1,h7,_,_⟩
  ·rw [if_neg (by show ¬ (1 ≤ i.op ∧ i.op ≤ 12); omega),if_neg (by show ¬ i.op = 13; omega),if_neg (by show ¬ i.op = 17; omega),if_neg (by show ¬ (i.op = 15 ∨ i.op = 16 ∨ i.op = 19 ∨ i.op = 20); omega),if_neg (by omega),if_neg (by omega),if_neg (by omega),if_neg (by omega)]
  ·rw [if_pos (by show 1 ≤ i.op ∧ i.op ≤ 12; omega),if_pos (by omega)]; rfl
 have hlast : gI (m.sec ++ [orS m.sec (rds i)]) (m.sec.length : Int) = orS m.sec (rds i) := by
  unfold gI
  rw [Int.toNat_natCast,List.getD_eq_getElem?_getD,List.getElem?_append_right (Nat.le_refl _),Nat.sub_self]; rfl
 have hok : OkN (m.sec ++ [orS m.sec (rds i)]) (atD i m.sec.length) := by
  refine ⟨?_,hd,?_⟩
  ·rcases hi with h1 | ⟨h1,h7,ha,hb⟩
   ·exact .inl h1
   ·exact .inr ⟨h1,h7,ha.app _,hb.app _⟩
  ·rw [orS_app hr,hrd]
   rw [show (atD i m.sec.length).d = (m.sec.length : Int) from rfl,hlast]
   rcases orS_01 m.sec (rds i) with e | e
   ·exact .inr e
   ·exact .inl e
 have hgd := (made_stp T i h).gd
 refine ⟨hgd,fun hs => ?_,[atD i m.sec.length],[orS m.sec (rds i)],rfl,rfl,fun x hx => ?_,fun P hP hl hN => ?_⟩
 ·have hs' : (m.shown || shwM T m.sec (atD i m.sec.length)) = false := hs
  rw [Bool.or_eq_false_iff] at hs'; exact hs'.1
 ·rw [List.mem_singleton] at hx
  subst hx
  refine ⟨hok,Int.le_refl _,fun hs => ?_⟩
  have hs' : (m.shown || shwM T m.sec (atD i m.sec.length)) = false := hs
  rw [Bool.or_eq_false_iff] at hs'
  show shwM T (m.sec ++ [_]) _ = false
  rw [shw_app T hr]; exact hs'.2
 ·have hl' : m.sec.length + 1 ≤ P.length := by
   have : (madeM T i m).2.sec.length = m.sec.length + 1 := by show (m.sec ++ [_]).length = _; simp
   omega
  refine ⟨fun k p hk => ?_,?_⟩
  ·have hg := h.num k p hk
   show gI (run1 (atD i m.sec.length) P) p = k
   unfold run1
   rw [gI_set_ne hg.1 (by show (0 : Int) ≤ (m.sec.length : Int); omega) (by show p ≠ (m.sec.length : Int); omega)]
   exact hN k p hk
  ·show gI (run1 (atD i m.sec.length) P) (m.sec.length : Int) = _
   unfold run1
   exact gI_set_eq (d:=(m.sec.length : Int)) ⟨by omega,by omega⟩
theorem two_inn (T : Nat → Int) (op a b : Int) {m : Mk} (h : Gd m) : Inn (twoM T op a b m).2.sec (twoM T op a b m).1 := ⟨(two_stp T op a b h).p0,(two_stp T op a b h).p1⟩
theorem two_lay (T : Nat → Int) {op a b : Int} {m : Mk} (h : Gd m) (ho : 1 ≤ op ∧ op ≤ 7) (ha : Inn m.sec a) (hb : Inn m.sec b) : Lay T m (twoM T op a b m).2 (fun P Q => gI Q (twoM T op a b m).1 = Wd.two op (gI P a) (gI P b)) := by
 refine (made_lay T ⟨op,0,a,b,0,0⟩ h (.inr ⟨ho.1,ho.2,ha,hb⟩)).weak fun P Q _ _ _ hR => hR.trans ?_
 unfold made
 rw [if_neg (by show ¬ op = 13; omega),if_neg (by show ¬ op = 14; omega),if_neg (by show ¬ op = 15; omega),if_neg (by show ¬ op = 16; omega)]; rfl
theorem num_inn (T : Nat → Int) (n : Int) {m : Mk} (h : Gd m) : Inn (numM T n m).2.sec (numM T n m).1 := ⟨(num_stp T n h).p0,(num_stp T n h).p1⟩
theorem num_lay (T : Nat → Int) {n : Int} {m : Mk} (h : Gd m) (hn : isW n) : Lay T m (numM T n m).2 (fun P Q => gI Q (numM T n m).1 = n) := by
 unfold numM
 cases hl : m.nums.lookup n with
 | some p => exact ⟨h,id,[],[],by simp,by simp,(fun x hx => by cases hx),fun P _ _ hN => ⟨hN,hN n p hl⟩⟩
 | none =>
  have hm := made_lay T ⟨14,0,0,0,0,n⟩ h (.inl ⟨rfl,hn⟩)
  have hg := (num_stp T n h).gd
  unfold numM at hg
  rw [hl] at hg
  obtain ⟨C,S,h1,h2,h3,h4⟩ := hm.ex
  refine ⟨hg,hm.sh,C,S,h1,h2,h3,fun P hP hl' hN => ?_⟩
  obtain ⟨q1,q2⟩ := h4 P hP hl' hN
  have q2' : gI (runC C P) (madeM T ⟨14,0,0,0,0,n⟩ m).1 = n := q2
  refine ⟨fun k p hk => ?_,q2'⟩
  dsimp only at hk
  rw [List.lookup_cons] at hk
  split at hk
  ·rename_i e
   cases hk
   rw [q2']; exact (beq_iff_eq.1 e).symm
  ·exact q1 k p hk
end Go.Proofs.Ytfbmkcogkiejnaa.Hg
