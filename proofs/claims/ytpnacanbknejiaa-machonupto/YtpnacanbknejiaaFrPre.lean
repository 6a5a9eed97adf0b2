/- The document's Check of instructions: what comes ahead of an instruction, and what it reads. Written by tools/gen_frchk.py. -/
import Derived.Test.YtpnacanbknejiaaFrReads
namespace Go.Proofs.Ytpnacanbknejiaa.Fl
set_option maxHeartbeats 32000000
set_option maxRecDepth 100000
set_option linter.unusedVariables false
set_option linter.unusedSimpArgs false
open Go.ChangeShapes Go.WideShapes Go.ChangeAt Go.RowKit Lg Lr
noncomputable def kT1 : Code := sndC kOne
noncomputable def kT2 : Code := sndC kT1
noncomputable def kT3 : Code := sndC kT2
noncomputable def kT4 : Code := sndC kT3
noncomputable def kT5 : Code := sndC kT4
noncomputable def kT6 : Code := sndC kT5
noncomputable def kT7 : Code := sndC kT6
noncomputable def kT8 : Code := sndC kT7
noncomputable def kT9 : Code := sndC kT8
noncomputable def kT10 : Code := sndC kT9
noncomputable def kT11 : Code := sndC kT10
noncomputable def kT12 : Code := sndC kT11
noncomputable def kT13 : Code := sndC kT12
noncomputable def kT14 : Code := sndC kT13
theorem CW.lo {w w' : World} {F B lo : Nat} {f : Fx} {s1 s2 s3 : Value} {X : Nat} {op d a b c imm : Int} (h : CW w F B f s1 s2 s3 X op d a b c imm) (hb : Below lo w w') (hF : F < lo) (hX : X < lo) (hB : B ≤ lo) : CW w' F B f s1 s2 s3 X op d a b c imm := by
 refine ⟨⟨?_,h.f.is.below (hb.mono hB),Nat.le_trans h.f.le hb.size⟩,?_⟩
 ·have := h.f.box
  unfold Bk at this ⊢
  rw [hb.block F hF]; exact this
 ·have := h.x
  unfold Bk at this ⊢
  rw [hb.block X hX]; exact this
def rdm (i : Ix) : List Int := rds i ++ (if mks i = true then [i.d] else [])
theorem k0 {aa : Act} (F n1 n2 k c1 : Nat) (p1 : Option Addr) (g o : Nat) (hF : FC aa F n1 n2 k c1 (some ⟨g,o,none⟩)) (i : Ix) (w : World) (hx : IxAt w g (o + k * 6) i) (hk : k < n1) :
  (fstC kOne).wp Try.prog (OnB fun a' w' => FO a' F n1 n2 k c1 (some ⟨g,o,none⟩) w.heap.size ∧ w' = w.alloc (.cells #[.int .i64 i.op,.int .i64 i.d,.int .i64 i.a,.int .i64 i.b,.int .i64 i.c,.int .i64 i.imm] 35)) aa w := by
 obtain ⟨gg,rfl⟩ := hF.opens
 have z0 := hx.c0
 have z1 := hx.c1
 have z2 := hx.c2
 have z3 := hx.c3
 have z4 := hx.c4
 have z5 := hx.c5
 have h0 : (0 : Int) ≤ (k : Int) := by omega
 have h1 : (k : Int) < (n1 : Int) := by omega
 clear hF hx
 conv => arg 2; whnf
 go_wp2
 exact ⟨rfl,⟨⟨rfl,rfl⟩,rfl,rfl,rfl,rfl,rfl,rfl,rfl⟩,rfl⟩
theorem k1 {aa : Act} (F n1 n2 k c1 : Nat) (p1 : Option Addr) (X B : Nat) (f : Fx) (p2 p3 : Option Addr) (c2 n3 c3 : Nat) (op d a b c imm : Int) (hF : FO aa F n1 n2 k c1 p1 X) (w : World) (hC : CW w F B f (.slice p1 n1 c1) (.slice p2 n2 c2) (.slice p3 n3 c3) X op d a b c imm) :
  (fstC kT1).wp Try.prog (OnR (fun a' w' => FO a' F n1 n2 k c1 p1 X ∧ w' = w ∧ 1 ≤ op ∧ op ≤ 21) (fun a' w' => FE a' 1 (k : Int) ∧ w' = w ∧ (op < 1 ∨ 21 < op))) aa w := by
 obtain ⟨gg,rfl⟩ := hF.opens
 have x0 := hC.x.cell 0 rfl
 have x1 := hC.x.cell 1 rfl
 have x2 := hC.x.cell 2 rfl
 have x3 := hC.x.cell 3 rfl
 have x4 := hC.x.cell 4 rfl
 have x5 := hC.x.cell 5 rfl
 clear hF hC
 conv => arg 2; whnf
 by_cases h1 : op < 1
 ·have d1 : decide (op < 1) = true := decide_eq_true h1
  have H1 := keep h1
  clear h1
  go_wp2
  exact .inr ⟨rfl,⟨⟨rfl,rfl⟩,rfl,rfl⟩,rfl,.inl H1.out⟩
 ·have d1 : decide (op < 1) = false := decide_eq_false h1
  by_cases h2 : 21 < op
  ·have d2 : decide (21 < op) = true := decide_eq_true h2
   have H2 := keep h2
   clear h1 h2
   go_wp2
   exact .inr ⟨rfl,⟨⟨rfl,rfl⟩,rfl,rfl⟩,rfl,.inr H2.out⟩
  ·have d2 : decide (21 < op) = false := decide_eq_false h2
   have H1 : Hid (1 ≤ op ∧ op ≤ 21) := ⟨by omega,by omega⟩
   clear h1 h2
   go_wp2
   exact .inl ⟨rfl,⟨⟨rfl,rfl⟩,rfl,rfl,rfl,rfl,rfl,rfl,rfl⟩,rfl,H1.out⟩
theorem k2 {aa : Act} (F n1 n2 k c1 : Nat) (p1 : Option Addr) (X B : Nat) (f : Fx) (p2 p3 : Option Addr) (c2 n3 c3 : Nat) (op d a b c imm : Int) (hF : FO aa F n1 n2 k c1 p1 X) (w : World) (hC : CW w F B f (.slice p1 n1 c1) (.slice p2 n2 c2) (.slice p3 n3 c3) X op d a b c imm) :
  (fstC kT2).wp Try.prog (OnB fun a' w' => ∃ pl nl cl,FL a' F n1 n2 k c1 p1 X pl nl cl ∧ RowI w' w.heap.size (.slice pl nl cl) (rds ⟨op,d,a,b,c,imm⟩) ∧ Below w.heap.size w w') aa w := by
 obtain ⟨gg,rfl⟩ := hF.opens
 have HR := keep (rreads_any ⟨op,d,a,b,c,imm⟩ w)
 unfold ixA at HR
 dsimp only at HR
 have x0 := hC.x.cell 0 rfl
 have x1 := hC.x.cell 1 rfl
 have x2 := hC.x.cell 2 rfl
 have x3 := hC.x.cell 3 rfl
 have x4 := hC.x.cell 4 rfl
 have x5 := hC.x.cell 5 rfl
 clear hF hC
 conv => arg 2; whnf
 go_wp2_with fail
 refine HR.out.mono ?_
 rintro r w2 ⟨v,rfl,hv,hb⟩
 obtain ⟨pl,nl,cl,rfl⟩ := RowX.slice hv
 have HV := keep hv
 have HB := keep hb
 clear hv hb HR x0 x1 x2 x3 x4 x5
 go_wp2
 exact ⟨rfl,pl,nl,cl,⟨⟨rfl,rfl⟩,rfl,rfl,rfl,rfl,rfl,rfl,rfl,rfl⟩,HV.out,HB.out⟩
theorem k3 {aa : Act} (F n1 n2 k c1 : Nat) (p1 : Option Addr) (X B : Nat) (f : Fx) (p2 p3 : Option Addr) (c2 n3 c3 : Nat) (op d a b c imm : Int) (pl : Option Addr) (nl cl : Nat) (hF : FL aa F n1 n2 k c1 p1 X pl nl cl) (w : World) (lo : Nat) (hlo : lo ≤ w.heap.size) (hC : CW w F B f (.slice p1 n1 c1) (.slice p2 n2 c2) (.slice p3 n3 c3) X op d a b c imm) (hr : RowI w lo (.slice pl nl cl) (rds ⟨op,d,a,b,c,imm⟩)) :
  (fstC kT3).wp Try.prog (OnB fun a' w' => ∃ pl nl cl,FL a' F n1 n2 k c1 p1 X pl nl cl ∧ RowI w' lo (.slice pl nl cl) (rdm ⟨op,d,a,b,c,imm⟩) ∧ Below lo w w') aa w := by
 obtain ⟨gg,rfl⟩ := hF.opens
 have HM := keep (rmakes_any ⟨op,d,a,b,c,imm⟩ w)
 unfold ixA at HM
 dsimp only at HM
 have HC := keep hC
 have HR := keep hr
 have HLo := keep hlo
 have hrl := rds_len ⟨op,d,a,b,c,imm⟩
 have HRl := keep hrl
 have x0 := hC.x.cell 0 rfl
 have x1 := hC.x.cell 1 rfl
 have x2 := hC.x.cell 2 rfl
 have x3 := hC.x.cell 3 rfl
 have x4 := hC.x.cell 4 rfl
 have x5 := hC.x.cell 5 rfl
 have HE : Hid (rdm ⟨op,d,a,b,c,imm⟩ = rds ⟨op,d,a,b,c,imm⟩ ++ (if mks ⟨op,d,a,b,c,imm⟩ = true then [d] else [])) := rfl
 obtain ⟨m,hm⟩ : ∃ m,mks ⟨op,d,a,b,c,imm⟩ = m := ⟨_,rfl⟩
 rw [hm] at HM HE
 clear hF hC hr hlo hrl hm
 conv => arg 2; whnf
 go_wp2_with fail
 refine HM.out.mono ?_
 rintro r w2 ⟨rfl,hb2⟩
 have HB2 := keep hb2
 have HR2 : Hid (RowI w2 lo (.slice pl nl cl) (rds ⟨op,d,a,b,c,imm⟩)) := RowX.fs (l:=[]) nestI_nest HR.out (Fs.of_below hb2) (by simp)
 have hC2 := HC.out.below hb2
 clear x0 x1 x2 x3 x4 x5
 have x1 := hC2.x.cell 1 rfl
 clear hb2 HM HR hC2
 cases m with
 | false =>
  have HR3 : Hid (RowI w2 lo (.slice pl nl cl) (rdm ⟨op,d,a,b,c,imm⟩)) := by
   show RowI _ _ _ _
   rw [HE.out,if_neg (by simp),List.append_nil]; exact HR2.out
  go_wp2
  exact ⟨rfl,pl,nl,cl,⟨⟨rfl,rfl⟩,rfl,rfl,rfl,rfl,rfl,rfl,rfl,rfl⟩,HR3.out,HB2.out.mono HLo.out⟩
 | true =>
  obtain ⟨w5,hw5⟩ : ∃ y,w2.alloc (.cells #[.int .i64 d] 3) = y := ⟨_,rfl⟩
  have HB5 : Hid (Below w2.heap.size w2 w5) := by show Below _ _ _; rw [← hw5]; exact (Below.refl _ _).alloc (Nat.le_refl _) _
  have HI5 : Hid (IntsIs w5 w5.heap.size [d] (.slice (some ⟨w2.heap.size,0,none⟩) 1 1)) := by
   have h := ints_new w2 [d] (by simp)
   show IntsIs _ _ _ _
   rw [← hw5]; exact h
  have HR5 : Hid (RowI w5 lo (.slice pl nl cl) (rds ⟨op,d,a,b,c,imm⟩)) := RowX.fs (l:=[]) nestI_nest HR2.out (Fs.of_below HB5.out) (by simp)
  have HW5 := keep hw5
  have HWs5 : Hid (lo ≤ w5.heap.size) := by have h1 := HB2.out.size; have h4 := HB5.out.size; have h5 := HLo.out; show _ ≤ _; omega
  have HLe : Hid ((rds ⟨op,d,a,b,c,imm⟩).length + [d].length ≤ 1048576) := by show _ ≤ _; have := HRl.out; simp; omega
  clear hw5
  go_wp2_with (first | rw [HW5.out] | (at_builtin; refine wpList_append_ints rfl (.tmp 61) (.tmp 64) rfl lo w5.heap.size _ _ (rds ⟨op,d,a,b,c,imm⟩) [d] rfl rfl HR5.out HI5.out HWs5.out HLe.out ?_) | fail)
  intro p6 n6 c6 w6 hr6 hb6
  have HR6 : Hid (RowI w6 lo (.slice p6 n6 c6) (rdm ⟨op,d,a,b,c,imm⟩)) := by
   show RowI _ _ _ _
   rw [HE.out]
   first | exact hr6 | (simp; exact hr6) | simpa using hr6
  have HB6 : Hid (Below lo w w6) := ((HB2.out.trans (HB5.out.mono HB2.out.size)).mono HLo.out).trans hb6
  clear hr6 hb6
  go_wp2
  exact ⟨rfl,p6,n6,c6,⟨⟨rfl,rfl⟩,rfl,rfl,rfl,rfl,rfl,rfl,rfl,rfl⟩,HR6.out,HB6.out⟩
theorem k4 {aa : Act} (F n1 n2 k c1 : Nat) (p1 : Option Addr) (X : Nat) (pl : Option Addr) (nl cl : Nat) (hF : FL aa F n1 n2 k c1 p1 X pl nl cl) (w : World) :
  (fstC kT4).wp Try.prog (OnB fun a' w' => FM a' F n1 n2 k c1 p1 X pl nl cl ∧ w' = w) aa w := by
 obtain ⟨gg,rfl⟩ := hF.opens
 clear hF
 conv => arg 2; whnf
 go_wp2
 exact ⟨rfl,⟨⟨rfl,rfl⟩,rfl,rfl,rfl,rfl,rfl,rfl,rfl,rfl,rfl⟩,rfl⟩
end Go.Proofs.Ytpnacanbknejiaa.Fl
