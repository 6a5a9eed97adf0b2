/- The document's Check of instructions: whether it would show what is secret. Written by tools/gen_frchk.py. -/
import Derived.Test.YtpnacanbknejiaaFrBad
import Derived.Test.YtpnacanbknejiaaFlMade
namespace Go.Proofs.Ytpnacanbknejiaa.Fl
set_option maxHeartbeats 32000000
set_option maxRecDepth 100000
set_option linter.unusedVariables false
set_option linter.unusedSimpArgs false
open Go.ChangeShapes Go.WideShapes Go.ChangeAt Go.RowKit Lg Lr
theorem seen_16 {f : Fx} {i : Ix} (h : i.op = 16) : ((rds i).any (gB f.sec) || vB f.arrs i.b && !gB f.sec i.d) = spl f i := by
 unfold spl
 rw [rds_one (.inr (.inl h)),if_pos h]
 simp
theorem seen_17 {f : Fx} {i : Ix} (h : i.op = 17) : (gB f.sec i.a || gB f.sec i.d && !vB f.arrs i.b) = spl f i := by
 unfold spl
 rw [if_neg (by omega),if_pos h]
theorem seen_19 {f : Fx} {i : Ix} (h : i.op = 19) : (rds i).any (gB f.sec) = spl f i := by
 unfold spl
 rw [rds_one (.inr (.inr (.inl h))),if_neg (by omega),if_neg (by omega),if_pos h]
 simp
theorem seen_else {f : Fx} {i : Ix} (h6 : i.op ≠ 16) (h7 : i.op ≠ 17) (h9 : i.op ≠ 19) : ((mks i && (rds i).any (gB f.sec)) && !gB f.sec i.d) = spl f i := by
 unfold spl
 rw [if_neg h6,if_neg h7,if_neg h9]
 cases mks i <;> cases (rds i).any (gB f.sec) <;> cases gB f.sec i.d <;> rfl
theorem k13 {aa : Act} (F n1 n2 k c1 : Nat) (p1 : Option Addr) (X B : Nat) (f : Fx) (p2 p3 : Option Addr) (c2 n3 c3 : Nat) (op d a b c imm : Int) (q : Bool) (hF : FS aa F n1 n2 k c1 p1 X q) (w : World) (hC : CW w F B f (.slice p1 n1 c1) (.slice p2 n2 c2) (.slice p3 n3 c3) X op d a b c imm) (ht : There f ⟨op,d,a,b,c,imm⟩) (hq : (rds ⟨op,d,a,b,c,imm⟩).any (gB f.sec) = q) :
  (fstC kT13).wp Try.prog (OnB fun a' w' => FT a' F n1 n2 k c1 p1 X q (spl f ⟨op,d,a,b,c,imm⟩) ∧ Below w.heap.size w w') aa w := by
 obtain ⟨gg,rfl⟩ := hF.opens
 have hs2 : f.sec.length = n2 := by obtain ⟨q1,q2,q3,q4,q5,_⟩ := hC.f.is.sec; cases q4; exact q5
 have hs3 : f.arrs.length = n3 := by obtain ⟨q1,q2,q3,q4,q5,_⟩ := hC.f.is.arrs; cases q4; exact q5
 have hb2 : ∀ (kk : Nat),kk < n2 → ∃ g o,p2 = some ⟨g,o,none⟩ ∧ g < B ∧ w.cell? ⟨g,o + kk,none⟩ = some (.bool (gB f.sec (kk : Int))) := fun kk hk => by
  obtain ⟨u1,u2,u3,u4,u5,_,_,u8⟩ := hC.f.is.sec
  cases u4
  exact bools_at hs2 u8 hk
 have hb3 : ∀ (kk : Nat),kk < n3 → ∃ g o,p3 = some ⟨g,o,none⟩ ∧ g < B ∧ w.cell? ⟨g,o + kk * 3 + 1,none⟩ = some (.bool (vB f.arrs (kk : Int))) := fun kk hk => by
  obtain ⟨u1,u2,u3,u4,u5,_,_,u8⟩ := hC.f.is.arrs
  cases u4
  exact vars_at hs3 u8 hk
 have HC := keep hC
 have HT := keep ht
 have HM := keep (rmakes_any ⟨op,d,a,b,c,imm⟩ w)
 unfold ixA at HM
 dsimp only at HM
 have x0 := hC.x.cell 0 rfl
 have x1 := hC.x.cell 1 rfl
 have x2 := hC.x.cell 2 rfl
 have x3 := hC.x.cell 3 rfl
 have x4 := hC.x.cell 4 rfl
 have x5 := hC.x.cell 5 rfl
 have y1 := hC.f.box.cell 1 rfl
 have y3 := hC.f.box.cell 3 rfl
 have HQ := keep hq
 have HS2 := keep hs2
 have HS3 := keep hs3
 have HB2 := keep hb2
 have HB3 := keep hb3
 obtain ⟨R,hR⟩ : ∃ R,spl f ⟨op,d,a,b,c,imm⟩ = R := ⟨_,rfl⟩
 rw [hR]
 have HR := keep hR
 clear hF hC ht hq hs2 hs3 hb2 hb3 hR
 conv => arg 2; whnf
 by_cases h16 : op = 16
 ·subst h16
  obtain ⟨d0,d1⟩ := HT.out.d rfl
  obtain ⟨b0,b1⟩ := HT.out.b (.inl rfl)
  dsimp only at d0 d1 b0 b1
  rw [HS2.out] at d1
  rw [HS3.out] at b1
  obtain ⟨kd,rfl⟩ : ∃ k : Nat,d = (k : Int) := ⟨d.toNat,by omega⟩
  obtain ⟨kb,rfl⟩ : ∃ k : Nat,b = (k : Int) := ⟨b.toNat,by omega⟩
  obtain ⟨g2,o2,rfl,_,u2⟩ := HB2.out kd (by omega)
  obtain ⟨g3,o3,rfl,_,u3⟩ := HB3.out kb (by omega)
  have HE := keep (seen_16 (f:=f) (i:=⟨16,(kd : Int),a,(kb : Int),c,imm⟩) rfl)
  rw [HQ.out,HR.out] at HE
  dsimp only at HE
  generalize gB f.sec (kd : Int) = q2 at *
  generalize vB f.arrs (kb : Int) = q3 at *
  clear HM
  cases q <;> cases q2 <;> cases q3 <;> (go_wp2; exact ⟨rfl,by rw [← HE.out]; exact ⟨⟨rfl,rfl⟩,rfl,rfl,rfl,rfl,rfl,rfl,rfl,rfl,rfl⟩,Below.refl _ _⟩)
 ·have k16 : (op == 16) = false := by simpa using h16
  by_cases h17 : op = 17
  ·subst h17
   obtain ⟨a0,a1⟩ := HT.out.r a (by rw [rds_sto rfl]; simp)
   obtain ⟨d0,d1⟩ := HT.out.r d (by rw [rds_sto rfl]; simp)
   obtain ⟨b0,b1⟩ := HT.out.b (.inr rfl)
   dsimp only at b0 b1
   rw [HS2.out] at a1 d1
   rw [HS3.out] at b1
   obtain ⟨ka,rfl⟩ : ∃ k : Nat,a = (k : Int) := ⟨a.toNat,by omega⟩
   obtain ⟨kd,rfl⟩ : ∃ k : Nat,d = (k : Int) := ⟨d.toNat,by omega⟩
   obtain ⟨kb,rfl⟩ : ∃ k : Nat,b = (k : Int) := ⟨b.toNat,by omega⟩
   obtain ⟨g2,o2,rfl,_,u1⟩ := HB2.out ka (by omega)
   obtain ⟨g2',o2',e2,_,u2⟩ := HB2.out kd (by omega)
   cases e2
   obtain ⟨g3,o3,rfl,_,u3⟩ := HB3.out kb (by omega)
   have HE := keep (seen_17 (f:=f) (i:=⟨17,(kd : Int),(ka : Int),(kb : Int),c,imm⟩) rfl)
   rw [HR.out] at HE
   dsimp only at HE
   obtain ⟨v1,e1⟩ : ∃ v,gB f.sec (ka : Int) = v := ⟨_,rfl⟩
   obtain ⟨v2,e2⟩ : ∃ v,gB f.sec (kd : Int) = v := ⟨_,rfl⟩
   obtain ⟨v3,e3⟩ : ∃ v,vB f.arrs (kb : Int) = v := ⟨_,rfl⟩
   rw [e1,e2,e3] at HE
   rw [e1] at u1
   rw [e2] at u2
   rw [e3] at u3
   clear HM e1 e2 e3 HQ HB2 HB3 h16
   cases v1 <;> cases v2 <;> cases v3 <;> (go_wp2; exact ⟨rfl,by rw [← HE.out]; exact ⟨⟨rfl,rfl⟩,rfl,rfl,rfl,rfl,rfl,rfl,rfl,rfl,rfl⟩,Below.refl _ _⟩)
  ·have k17 : (op == 17) = false := by simpa using h17
   by_cases h19 : op = 19
   ·subst h19
    have HE := keep (seen_19 (f:=f) (i:=⟨19,d,a,b,c,imm⟩) rfl)
    rw [HQ.out,HR.out] at HE
    clear HM h16 h17
    go_wp2
    exact ⟨rfl,by rw [← HE.out]; exact ⟨⟨rfl,rfl⟩,rfl,rfl,rfl,rfl,rfl,rfl,rfl,rfl,rfl⟩,Below.refl _ _⟩
   ·have k19 : (op == 19) = false := by simpa using h19
    have HE := keep (seen_else (f:=f) (i:=⟨op,d,a,b,c,imm⟩) h16 h17 h19)
    rw [HQ.out,HR.out] at HE
    dsimp only at HE
    obtain ⟨m,hm⟩ : ∃ m,mks ⟨op,d,a,b,c,imm⟩ = m := ⟨_,rfl⟩
    rw [hm] at HM HE
    have HMm := keep hm
    clear h16 h17 h19 hm
    go_wp2_with fail
    refine HM.out.mono ?_
    rintro r w2 ⟨rfl,hb⟩
    have HB := keep hb
    have hC2 := HC.out.below hb
    clear x0 x1 x2 x3 x4 x5 y1 y3 hb HM
    have x1 := hC2.x.cell 1 rfl
    have y1 := hC2.f.box.cell 1 rfl
    clear hC2
    cases m with
    | false =>
     have HE2 : Hid (R = false) := by show _ = _; rw [← HE.out]; rfl
     go_wp2
     exact ⟨rfl,by rw [HE2.out]; exact ⟨⟨rfl,rfl⟩,rfl,rfl,rfl,rfl,rfl,rfl,rfl,rfl,rfl⟩,HB.out⟩
    | true =>
     obtain ⟨d0,d1⟩ := HT.out.d HMm.out
     dsimp only at d0 d1
     rw [HS2.out] at d1
     obtain ⟨kd,rfl⟩ : ∃ k : Nat,d = (k : Int) := ⟨d.toNat,by omega⟩
     obtain ⟨g2,o2,rfl,_,u2⟩ := HB2.out kd (by omega)
     have v2 := keep_cell HB.out u2
     generalize gB f.sec (kd : Int) = q2 at *
     cases q <;> cases q2 <;> (go_wp2; exact ⟨rfl,by rw [← HE.out]; exact ⟨⟨rfl,rfl⟩,rfl,rfl,rfl,rfl,rfl,rfl,rfl,rfl,rfl⟩,HB.out⟩)
theorem k14 {aa : Act} (F n1 n2 k c1 : Nat) (p1 : Option Addr) (X : Nat) (q t : Bool) (hF : FT aa F n1 n2 k c1 p1 X q t) (w : World) :
  kT14.wp Try.prog (OnR (fun a' w' => FO a' F n1 n2 k c1 p1 X ∧ w' = w ∧ t = false) (fun a' w' => FE a' 10 (k : Int) ∧ w' = w ∧ t = true)) aa w := by
 obtain ⟨gg,rfl⟩ := hF.opens
 clear hF
 conv => arg 2; whnf
 cases t with
 | true =>
  go_wp2
  first | exact .inr ⟨rfl,⟨⟨rfl,rfl⟩,rfl,rfl⟩,rfl,rfl⟩ | exact .inr ⟨rfl,⟨⟨rfl,rfl⟩,rfl,rfl⟩,rfl⟩
 | false =>
  go_wp2
  first | exact .inl ⟨rfl,⟨⟨rfl,rfl⟩,rfl,rfl,rfl,rfl,rfl,rfl,rfl⟩,rfl,rfl⟩ | exact .inl ⟨rfl,⟨⟨rfl,rfl⟩,rfl,rfl,rfl,rfl,rfl,rfl,rfl⟩,rfl⟩
end Go.Proofs.Ytpnacanbknejiaa.Fl
