/- Laid together: FrSome, FrOne. -/
import Derived.Test.YtfbmkcogkiejnaaGr24
import Derived.Test.YtfbmkcogkiejnaaFlMade
namespace Go.Proofs.Ytfbmkcogkiejnaa.Fl
set_option maxHeartbeats 32000000
set_option maxRecDepth 100000
set_option linter.unusedVariables false
set_option linter.unusedSimpArgs false
open Go.ChangeShapes Go.WideShapes Go.ChangeAt Go.RowKit Lg Lr
theorem k10 {aa : Act} (F n1 n2 k c1 : Nat) (p1 : Option Addr) (X : Nat) (hF : FO aa F n1 n2 k c1 p1 X) (w : World) :
  (fstC kT10).wp Try.prog (OnB fun a' w' => FS a' F n1 n2 k c1 p1 X false ∧ w' = w) aa w := by
 obtain ⟨gg,rfl⟩ := hF.opens
 clear hF
 conv => arg 2; whnf
 go_wp2
 exact ⟨rfl,⟨⟨rfl,rfl⟩,rfl,rfl,rfl,rfl,rfl,rfl,rfl,rfl⟩,rfl⟩
theorem k11 {aa : Act} (F n1 n2 k c1 : Nat) (p1 : Option Addr) (X B : Nat) (f : Fx) (p2 p3 : Option Addr) (c2 n3 c3 : Nat) (op d a b c imm : Int) (hF : FS aa F n1 n2 k c1 p1 X false) (w : World) (hC : CW w F B f (.slice p1 n1 c1) (.slice p2 n2 c2) (.slice p3 n3 c3) X op d a b c imm) (hin : ∀ p ∈ rds ⟨op,d,a,b,c,imm⟩,0 ≤ p ∧ p < f.sec.length) :
  (fstC kT11).wp Try.prog (OnB fun a' w' => FS a' F n1 n2 k c1 p1 X ((rds ⟨op,d,a,b,c,imm⟩).any (gB f.sec)) ∧ Below w.heap.size w w') aa w := by
 obtain ⟨gg,rfl⟩ := hF.opens
 have HR := keep (rreads_any ⟨op,d,a,b,c,imm⟩ w)
 unfold ixA at HR
 dsimp only at HR
 have HC := keep hC
 have HIn := keep hin
 have hsn : f.sec.length = n2 := by obtain ⟨q1,q2,q3,q4,q5,_⟩ := hC.f.is.sec; cases q4; exact q5
 have HSn := keep hsn
 have x0 := hC.x.cell 0 rfl
 have x1 := hC.x.cell 1 rfl
 have x2 := hC.x.cell 2 rfl
 have x3 := hC.x.cell 3 rfl
 have x4 := hC.x.cell 4 rfl
 have x5 := hC.x.cell 5 rfl
 obtain ⟨l,hl⟩ : ∃ l,rds ⟨op,d,a,b,c,imm⟩ = l := ⟨_,rfl⟩
 rw [hl]
 have HLd := keep hl
 rw [hl] at HIn
 clear hF hC hin hsn hl
 conv => arg 2; whnf
 go_wp2_with fail
 refine HR.out.mono ?_
 rintro r w2 ⟨v,rfl,hv,hb⟩
 obtain ⟨pl,nl,cl,rfl⟩ := RowX.slice hv
 have hnl := RowX.len hv
 have HV := keep (RowI.ints hv (by have := rds_len ⟨op,d,a,b,c,imm⟩; omega))
 have HNl : Hid (nl ≤ 3) := by show _ ≤ _; rw [hnl]; exact rds_len _
 have HNL : Hid ((rds ⟨op,d,a,b,c,imm⟩).length = nl) := hnl.symm
 have HB := keep hb
 have HC2 := keep (HC.out.below hb)
 rw [HLd.out] at HV HNL
 clear hv hb HR x0 x1 x2 x3 x4 x5 hnl
 go_wp2
 go_loopw [153,11] (fun j q wx => w2 = wx ∧ ∃ i : Nat,i ≤ nl ∧ j = .int .i64 (i : Int) ∧ q = .bool ((l.take i).any (gB f.sec))) (fun j _ _ => nl - (intOf j).toNat)
 case atStart => exact ⟨rfl,0,by omega,rfl,rfl⟩
 case round =>
  obtain ⟨rfl,i,hin,rfl,rfl⟩ := hrel
  by_cases hil : i < nl
  ·have d1 : decide ((i : Int) < (nl : Int)) = true := decide_eq_true (by omega)
   have hiz : (i : Int) < (nl : Int) := by omega
   have hi0 : (0 : Int) ≤ (i : Int) := by omega
   have hwr : IntKind.i64.wrap ((i : Int) + 1) = (i : Int) + 1 := by rw [IntKind.wrap_i64]; have := HNl.out; omega
   obtain ⟨p,hp⟩ : ∃ p,l[i]? = some p := ⟨_,List.getElem?_eq_getElem (by rw [HNL.out]; exact hil)⟩
   obtain ⟨g,o,rfl,hgB,hc⟩ := int_at HV.out (k:=i) (by rw [HNL.out]; exact hil)
   have e : gI l (i : Int) = p := by unfold gI; rw [Int.toNat_natCast,List.getD_eq_getElem?_getD,hp]; rfl
   rw [e] at hc
   obtain ⟨q0,q1⟩ := HIn.out p (List.mem_of_getElem? hp)
   rw [HSn.out] at q1
   have HSt : Hid (((l.take (i + 1)).any (gB f.sec)) = (((l.take i).any (gB f.sec)) || gB f.sec p)) := by
    show _ = _
    rw [List.take_add_one,hp,Option.toList_some,List.any_append]
    simp
   obtain ⟨kp,rfl⟩ : ∃ kp : Nat,p = (kp : Int) := ⟨p.toNat,by omega⟩
   obtain ⟨u1,u2,u3,u4,u5,_,_,u8⟩ := HC2.out.f.is.sec
   cases u4
   obtain ⟨g2,o2,rfl,_,c2'⟩ := bools_at HSn.out u8 (k:=kp) (by omega)
   have y1 := HC2.out.f.box.cell 1 rfl
   clear hp e hgB u8
   generalize gB f.sec (kp : Int) = v at *
   generalize ((l.take i).any (gB f.sec)) = q at *
   cases q with
   | true =>
    go_wp2
    go_roundw
    case rel => exact ⟨by first | rfl | trivial,i + 1,by omega,by go_num,by rw [HSt.out]; rfl⟩
    case measure => simp [intOf]; omega
   | false =>
    go_wp2
    go_roundw
    case rel => exact ⟨by first | rfl | trivial,i + 1,by omega,by go_num,by rw [HSt.out]; rfl⟩
    case measure => simp [intOf]; omega
  ·have hie : i = nl := by omega
   subst hie
   have dl : decide ((i : Int) < (i : Int)) = false := decide_eq_false (by omega)
   have HE : Hid (((l.take i).any (gB f.sec)) = (l.any (gB f.sec))) := by show _ = _; rw [← HNL.out,List.take_length]
   generalize ((l.take i).any (gB f.sec)) = q at *
   clear hil
   go_wp2
   exact ⟨rfl,by rw [← HE.out]; exact ⟨⟨rfl,rfl⟩,rfl,rfl,rfl,rfl,rfl,rfl,rfl,rfl⟩,HB.out⟩
theorem seen_16 {f : Fx} {i : Ix} (h : i.op = 16) : ((rds i).any (gB f.sec) || vB f.arrs i.b && !gB f.sec i.d) = spl f i := by
 unfold spl
 rw [rds_one (.inr (.inl h)),if_pos h]
 simp
theorem seen_17 {f : Fx} {i : Ix} (h : i.op = 17) : (gB f.sec i.a || gB f.sec i.d && !vB f.arrs i.b) = spl f i := by
 unfold spl
 rw [if_neg (by omega),if_pos h]
theorem seen_19 {f : Fx} {i : Ix} (h : i.op = 19) : (rds i).any (gB f.sec) = spl f i := by
 unfold spl
 rw [rds_one (.inr (.inr (.inl h))),if_neg (by omega),if_neg (by omega),if_pos h]
 simp
theorem seen_else {f : Fx} {i : Ix} (h6 : i.op ≠ 16) (h7 : i.op ≠ 17) (h9 : i.op ≠ 19) : ((mks i && (rds i).any (gB f.sec)) && !gB f.sec i.d) = spl f i := by
 unfold spl
 rw [if_neg h6,if_neg h7,if_neg h9]
 cases mks i <;> cases (rds i).any (gB f.sec) <;> cases gB f.sec i.d <;> rfl
theorem k12 {aa : Act} (F n1 n2 k c1 : Nat) (p1 : Option Addr) (X : Nat) (q : Bool) (hF : FS aa F n1 n2 k c1 p1 X q) (w : World) :
  (fstC kT12).wp Try.prog (OnB fun a' w' => FS a' F n1 n2 k c1 p1 X q ∧ w' = w) aa w := by
 obtain ⟨gg,rfl⟩ := hF.opens
 clear hF
 conv => arg 2; whnf
 go_wp2
 exact ⟨rfl,⟨⟨rfl,rfl⟩,rfl,rfl,rfl,rfl,rfl,rfl,rfl,rfl⟩,rfl⟩
theorem k13 {aa : Act} (F n1 n2 k c1 : Nat) (p1 : Option Addr) (X B : Nat) (f : Fx) (p2 p3 : Option Addr) (c2 n3 c3 : Nat) (op d a b c imm : Int) (q : Bool) (hF : FS aa F n1 n2 k c1 p1 X q) (w : World) (hC : CW w F B f (.slice p1 n1 c1) (.slice p2 n2 c2) (.slice p3 n3 c3) X op d a b c imm) (ht : There f ⟨op,d,a,b,c,imm⟩) (hq : (rds ⟨op,d,a,b,c,imm⟩).any (gB f.sec) = q) :
  (fstC kT13).wp Try.prog (OnB fun a' w' => FT a' F n1 n2 k c1 p1 X q (spl f ⟨op,d,a,b,c,imm⟩) ∧ Below w.heap.size w w') aa w := by
 obtain ⟨gg,rfl⟩ := hF.opens
 have hs2 : f.sec.length = n2 := by obtain ⟨q1,q2,q3,q4,q5,_⟩ := hC.f.is.sec; cases q4; exact q5
 have hs3 : f.arrs.length = n3 := by obtain ⟨q1,q2,q3,q4,q5,_⟩ := hC.f.is.arrs; cases q4; exact q5
 have hb2 : ∀ (kk : Nat),kk < n2 → ∃ g o,p2 = some ⟨g,o,none⟩ ∧ g < B ∧ w.cell? ⟨g,o + kk,none⟩ = some (.bool (gB f.sec (kk : Int))) := fun kk hk => by
  obtain ⟨u1,u2,u3,u4,u5,_,_,u8⟩ := hC.f.is.sec
  cases u4
  exact bools_at hs2 u8 hk
 have hb3 : ∀ (kk : Nat),kk < n3 → ∃ g o,p3 = some ⟨g,o,none⟩ ∧ g < B ∧ w.cell? ⟨g,o + kk * 3 + 1,none⟩ = some (.bool (vB f.arrs (kk : Int))) := fun kk hk => by
  obtain ⟨u1,u2,u3,u4,u5,_,_,u8⟩ := hC.f.is.arrs
  cases u4
  exact vars_at hs3 u8 hk
 have HC := keep hC
 have HT := keep ht
 have HM := keep (rmakes_any ⟨op,d,a,b,c,imm⟩ w)
 unfold ixA at HM
 dsimp only at HM
 have x0 := hC.x.cell 0 rfl
 have x1 := hC.x.cell 1 rfl
 have x2 := hC.x.cell 2 rfl
 have x3 := hC.x.cell 3 rfl
 have x4 := hC.x.cell 4 rfl
 have x5 := hC.x.cell 5 rfl
 have y1 := hC.f.box.cell 1 rfl
 have y3 := hC.f.box.cell 3 rfl
 have HQ := keep hq
 have HS2 := keep hs2
 have HS3 := keep hs3
 have HB2 := keep hb2
 have HB3 := keep hb3
 obtain ⟨R,hR⟩ : ∃ R,spl f ⟨op,d,a,b,c,imm⟩ = R := ⟨_,rfl⟩
 rw [hR]
 have HR := keep hR
 clear hF hC ht hq hs2 hs3 hb2 hb3 hR
 conv => arg 2; whnf
 by_cases h16 : op = 16
 ·subst h16
  obtain ⟨d0,d1⟩ := HT.out.d rfl
  obtain ⟨b0,b1⟩ := HT.out.b (.inl rfl)
  dsimp only at d0 d1 b0 b1
  rw [HS2.out] at d1
  rw [HS3.out] at b1
  obtain ⟨kd,rfl⟩ : ∃ k : Nat,d = (k : Int) := ⟨d.toNat,by omega⟩
  obtain ⟨kb,rfl⟩ : ∃ k : Nat,b = (k : Int) := ⟨b.toNat,by omega⟩
  obtain ⟨g2,o2,rfl,_,u2⟩ := HB2.out kd (by omega)
  obtain ⟨g3,o3,rfl,_,u3⟩ := HB3.out kb (by omega)
  have HE := keep (seen_16 (f:=f) (i:=⟨16,(kd : Int),a,(kb : Int),c,imm⟩) rfl)
  rw [HQ.out,HR.out] at HE
  dsimp only at HE
  generalize gB f.sec (kd : Int) = q2 at *
  generalize vB f.arrs (kb : Int) = q3 at *
  clear HM
  cases q <;> cases q2 <;> cases q3 <;> (go_wp2; exact ⟨rfl,by rw [← HE.out]; exact ⟨⟨rfl,rfl⟩,rfl,rfl,rfl,rfl,rfl,rfl,rfl,rfl,rfl⟩,Below.refl _ _⟩)
 ·have k16 : (op == 16) = false := by simpa using h16
  by_cases h17 : op = 17
  ·subst h17
   obtain ⟨a0,a1⟩ := HT.out.r a (by rw [rds_sto rfl]; simp)
   obtain ⟨d0,d1⟩ := HT.out.r d (by rw [rds_sto rfl]; simp)
   obtain ⟨b0,b1⟩ := HT.out.b (.inr rfl)
   dsimp only at b0 b1
   rw [HS2.out] at a1 d1
   rw [HS3.out] at b1
   obtain ⟨ka,rfl⟩ : ∃ k : Nat,a = (k : Int) := ⟨a.toNat,by omega⟩
   obtain ⟨kd,rfl⟩ : ∃ k : Nat,d = (k : Int) := ⟨d.toNat,by omega⟩
   obtain ⟨kb,rfl⟩ : ∃ k : Nat,b = (k : Int) := ⟨b.toNat,by omega⟩
   obtain ⟨g2,o2,rfl,_,u1⟩ := HB2.out ka (by omega)
   obtain ⟨g2',o2',e2,_,u2⟩ := HB2.out kd (by omega)
   cases e2
   obtain ⟨g3,o3,rfl,_,u3⟩ := HB3.out kb (by omega)
   have HE := keep (seen_17 (f:=f) (i:=⟨17,(kd : Int),(ka : Int),(kb : Int),c,imm⟩) rfl)
   rw [HR.out] at HE
   dsimp only at HE
   obtain ⟨v1,e1⟩ : ∃ v,gB f.sec (ka : Int) = v := ⟨_,rfl⟩
   obtain ⟨v2,e2⟩ : ∃ v,gB f.sec (kd : Int) = v := ⟨_,rfl⟩
   obtain ⟨v3,e3⟩ : ∃ v,vB f.arrs (kb : Int) = v := ⟨_,rfl⟩
   rw [e1,e2,e3] at HE
   rw [e1] at u1
   rw [e2] at u2
   rw [e3] at u3
   clear HM e1 e2 e3 HQ HB2 HB3 h16
   cases v1 <;> cases v2 <;> cases v3 <;> (go_wp2; exact ⟨rfl,by rw [← HE.out]; exact ⟨⟨rfl,rfl⟩,rfl,rfl,rfl,rfl,rfl,rfl,rfl,rfl,rfl⟩,Below.refl _ _⟩)
  ·have k17 : (op == 17) = false := by simpa using h17
   by_cases h19 : op = 19
   ·subst h19
    have HE := keep (seen_19 (f:=f) (i:=⟨19,d,a,b,c,imm⟩) rfl)
    rw [HQ.out,HR.out] at HE
    clear HM h16 h17
    go_wp2
    exact ⟨rfl,by rw [← HE.out]; exact ⟨⟨rfl,rfl⟩,rfl,rfl,rfl,rfl,rfl,rfl,rfl,rfl,rfl⟩,Below.refl _ _⟩
   ·have k19 : (op == 19) = false := by simpa using h19
    have HE := keep (seen_else (f:=f) (i:=⟨op,d,a,b,c,imm⟩) h16 h17 h19)
    rw [HQ.out,HR.out] at HE
    dsimp only at HE
    obtain ⟨m,hm⟩ : ∃ m,mks ⟨op,d,a,b,c,imm⟩ = m := ⟨_,rfl⟩
    rw [hm] at HM HE
    have HMm := keep hm
    clear h16 h17 h19 hm
    go_wp2_with fail
    refine HM.out.mono ?_
    rintro r w2 ⟨rfl,hb⟩
    have HB := keep hb
    have hC2 := HC.out.below hb
    clear x0 x1 x2 x3 x4 x5 y1 y3 hb HM
    have x1 := hC2.x.cell 1 rfl
    have y1 := hC2.f.box.cell 1 rfl
    clear hC2
    cases m with
    | false =>
     have HE2 : Hid (R = false) := by show _ = _; rw [← HE.out]; rfl
     go_wp2
     exact ⟨rfl,by rw [HE2.out]; exact ⟨⟨rfl,rfl⟩,rfl,rfl,rfl,rfl,rfl,rfl,rfl,rfl,rfl⟩,HB.out⟩
    | true =>
     obtain ⟨d0,d1⟩ := HT.out.d HMm.out
     dsimp only at d0 d1
     rw [HS2.out] at d1
     obtain ⟨kd,rfl⟩ : ∃ k : Nat,d = (k : Int) := ⟨d.toNat,by omega⟩
     obtain ⟨g2,o2,rfl,_,u2⟩ := HB2.out kd (by omega)
     have v2 := keep_cell HB.out u2
     generalize gB f.sec (kd : Int) = q2 at *
     cases q <;> cases q2 <;> (go_wp2; exact ⟨rfl,by rw [← HE.out]; exact ⟨⟨rfl,rfl⟩,rfl,rfl,rfl,rfl,rfl,rfl,rfl,rfl,rfl⟩,HB.out⟩)
theorem k14 {aa : Act} (F n1 n2 k c1 : Nat) (p1 : Option Addr) (X : Nat) (q t : Bool) (hF : FT aa F n1 n2 k c1 p1 X q t) (w : World) :
  kT14.wp Try.prog (OnR (fun a' w' => FO a' F n1 n2 k c1 p1 X ∧ w' = w ∧ t = false) (fun a' w' => FE a' 10 (k : Int) ∧ w' = w ∧ t = true)) aa w := by
 obtain ⟨gg,rfl⟩ := hF.opens
 clear hF
 conv => arg 2; whnf
 cases t with
 | true =>
  go_wp2
  first | exact .inr ⟨rfl,⟨⟨rfl,rfl⟩,rfl,rfl⟩,rfl,rfl⟩ | exact .inr ⟨rfl,⟨⟨rfl,rfl⟩,rfl,rfl⟩,rfl⟩
 | false =>
  go_wp2
  first | exact .inl ⟨rfl,⟨⟨rfl,rfl⟩,rfl,rfl,rfl,rfl,rfl,rfl,rfl⟩,rfl,rfl⟩ | exact .inl ⟨rfl,⟨⟨rfl,rfl⟩,rfl,rfl,rfl,rfl,rfl,rfl,rfl⟩,rfl⟩
theorem kOne_eq : kOne = .seq (fstC kOne) kT1 := by kernel_rfl
theorem kT1_eq : kT1 = .seq (fstC kT1) kT2 := by kernel_rfl
theorem kT2_eq : kT2 = .seq (fstC kT2) kT3 := by kernel_rfl
theorem kT3_eq : kT3 = .seq (fstC kT3) kT4 := by kernel_rfl
theorem kT4_eq : kT4 = .seq (fstC kT4) kT5 := by kernel_rfl
theorem kT5_eq : kT5 = .seq (fstC kT5) kT6 := by kernel_rfl
theorem kT6_eq : kT6 = .seq (fstC kT6) kT7 := by kernel_rfl
theorem kT7_eq : kT7 = .seq (fstC kT7) kT8 := by kernel_rfl
theorem kT8_eq : kT8 = .seq (fstC kT8) kT9 := by kernel_rfl
theorem kT9_eq : kT9 = .seq (fstC kT9) kT10 := by kernel_rfl
theorem kT10_eq : kT10 = .seq (fstC kT10) kT11 := by kernel_rfl
theorem kT11_eq : kT11 = .seq (fstC kT11) kT12 := by kernel_rfl
theorem kT12_eq : kT12 = .seq (fstC kT12) kT13 := by kernel_rfl
theorem kT13_eq : kT13 = .seq (fstC kT13) kT14 := by kernel_rfl
theorem FO.c {aa : Act} {F n1 n2 k c1 : Nat} {p1 : Option Addr} {X : Nat} (h : FO aa F n1 n2 k c1 p1 X) : FC aa F n1 n2 k c1 p1 := ⟨h.wide,h.s1,h.s4,h.s41,h.s42,h.s43⟩
def OneP (F n1 n2 k c1 : Nat) (p1 : Option Addr) (f : Fx) (i : Ix) (w : World) (e : Exit) (a' : Act) (w' : World) : Prop :=
 Below w.heap.size w w' ∧ ((e = .normal ∧ FC a' F n1 n2 k c1 p1 ∧ wrg f k i = 0) ∨ (e = .ret ∧ FE a' (wrg f k i) (k : Int) ∧ wrg f k i ≠ 0))
theorem one_ok {aa : Act} (F n1 n2 k c1 B : Nat) (f : Fx) (p1 p2 p3 : Option Addr) (c2 n3 c3 g o : Nat) (i : Ix) (hp : p1 = some ⟨g,o,none⟩) (hF : FC aa F n1 n2 k c1 p1) (w : World) (hb : BoxF w F B f (.slice p1 n1 c1) (.slice p2 n2 c2) (.slice p3 n3 c3)) (hx : IxAt w g (o + k * 6) i) (hk : k < n1) :
  kOne.wp Try.prog (OneP F n1 n2 k c1 p1 f i w) aa w := by
 subst hp
 have hn1 : f.code.length = n1 := by obtain ⟨q1,q2,q3,q4,q5,_⟩ := hb.is.code; cases q4; exact q5
 have hn2 : f.sec.length = n2 := by obtain ⟨q1,q2,q3,q4,q5,_⟩ := hb.is.sec; cases q4; exact q5
 have hn3 : f.arrs.length = n3 := by obtain ⟨q1,q2,q3,q4,q5,_⟩ := hb.is.arrs; cases q4; exact q5
 have hFl : F < w.heap.size := hb.box.lt
 rw [kOne_eq]
 refine OnB.go (k0 F n1 n2 k c1 (some ⟨g,o,none⟩) g o hF i w hx hk) ?_
 rintro a0 w0 ⟨hF0,rfl⟩
 have hb0 : Below w.heap.size w (w.alloc (.cells #[.int .i64 i.op,.int .i64 i.d,.int .i64 i.a,.int .i64 i.b,.int .i64 i.c,.int .i64 i.imm] 35)) := (Below.refl _ _).alloc (Nat.le_refl _) _
 have hC0 : CW (w.alloc (.cells #[.int .i64 i.op,.int .i64 i.d,.int .i64 i.a,.int .i64 i.b,.int .i64 i.c,.int .i64 i.imm] 35)) F B f (.slice (some ⟨g,o,none⟩) n1 c1) (.slice p2 n2 c2) (.slice p3 n3 c3) w.heap.size i.op i.d i.a i.b i.c i.imm := ⟨hb.below hb0,Bk.new _ [.int .i64 i.op,.int .i64 i.d,.int .i64 i.a,.int .i64 i.b,.int .i64 i.c,.int .i64 i.imm] _⟩
 generalize w.alloc (.cells #[.int .i64 i.op,.int .i64 i.d,.int .i64 i.a,.int .i64 i.b,.int .i64 i.c,.int .i64 i.imm] 35) = w0 at *
 rw [kT1_eq]
 refine OnR.go (k1 F n1 n2 k c1 _ w.heap.size B f p2 p3 c2 n3 c3 i.op i.d i.a i.b i.c i.imm hF0 w0 hC0) ?_ ?_
 ·rintro a1 w1 ⟨hF1,rfl,ho⟩
  rw [kT2_eq]
  refine OnB.go (k2 F n1 n2 k c1 _ w.heap.size B f p2 p3 c2 n3 c3 i.op i.d i.a i.b i.c i.imm hF1 w1 hC0) ?_
  rintro a2 w2 ⟨pl,nl,cl,hF2,hr2,hb2⟩
  rw [kT3_eq]
  refine OnB.go (k3 F n1 n2 k c1 _ w.heap.size B f p2 p3 c2 n3 c3 i.op i.d i.a i.b i.c i.imm pl nl cl hF2 w2 w1.heap.size hb2.size (hC0.below hb2) hr2) ?_
  rintro a3 w3 ⟨pl,nl,cl,hF3,hr3,hb3⟩
  have hC3 := (hC0.below hb2).lo hb3 (by have := hb0.size; omega) hC0.x.lt hC0.f.le
  have hnl := RowX.len hr3
  have hlr : (rdm i).length ≤ 4 := by
   unfold rdm
   rw [List.length_append]
   have := rds_len i
   split <;> simp <;> omega
  have hb03 : Below w.heap.size w w3 := (hb0.trans (hb2.mono hb0.size)).trans (hb3.mono hb0.size)
  rw [kT4_eq]
  refine OnB.go (k4 F n1 n2 k c1 _ w.heap.size pl nl cl hF3 w3) ?_
  rintro a4 w4 ⟨hF4,rfl⟩
  rw [kT5_eq]
  refine OnB.go (k5 F n1 n2 k c1 _ w.heap.size pl nl cl hF4 w4 (rdm i) (RowI.ints hr3 (by omega)) (by rw [hnl]; exact hlr)) ?_
  rintro a5 w5 ⟨hF5,rfl⟩
  rw [kT6_eq]
  refine OnB.go (k6 F n1 n2 k c1 _ w.heap.size B f p2 p3 c2 n3 c3 i.op i.d i.a i.b i.c i.imm _ hF5 w5 hC3) ?_
  rintro a6 w6 ⟨hF6,rfl⟩
  rw [kT7_eq]
  refine OnB.go (k7 F n1 n2 k c1 _ w.heap.size B f p2 p3 c2 n3 c3 i.op i.d i.a i.b i.c i.imm _ hF6 w6 hC3) ?_
  rintro a7 w7 ⟨hF7,rfl⟩
  rw [kT8_eq]
  refine OnB.go (k8 F n1 n2 k c1 _ w.heap.size B f p2 p3 c2 n3 c3 i.op i.d i.a i.b i.c i.imm _ hF7 w7 hC3) ?_
  rintro a8 w8 ⟨hF8,rfl⟩
  have hbad := bad_inR f k i
  rw [hn1,hn2,hn3] at hbad
  rw [hbad] at hF8
  rw [kT9_eq]
  refine OnR.go (k9 F n1 n2 k c1 _ w.heap.size _ hF8 w8) ?_ ?_
  ·rintro a9 w9 ⟨hF9,rfl,hq⟩
   have hin : inR f k i = true := by simpa using hq
   have hT := there_of hin
   rw [kT10_eq]
   refine OnB.go (k10 F n1 n2 k c1 _ w.heap.size hF9 w9) ?_
   rintro a10 w10 ⟨hF10,rfl⟩
   rw [kT11_eq]
   refine OnB.go (k11 F n1 n2 k c1 _ w.heap.size B f p2 p3 c2 n3 c3 i.op i.d i.a i.b i.c i.imm hF10 w10 hC3 hT.r) ?_
   rintro a11 w11 ⟨hF11,hb11⟩
   rw [kT12_eq]
   refine OnB.go (k12 F n1 n2 k c1 _ w.heap.size _ hF11 w11) ?_
   rintro a12 w12 ⟨hF12,rfl⟩
   rw [kT13_eq]
   refine OnB.go (k13 F n1 n2 k c1 _ w.heap.size B f p2 p3 c2 n3 c3 i.op i.d i.a i.b i.c i.imm _ hF12 w12 (hC3.below hb11) hT rfl) ?_
   rintro a13 w13 ⟨hF13,hb13⟩
   have hb013 : Below w.heap.size w w13 := (hb03.trans (hb11.mono hb03.size)).trans (hb13.mono (Nat.le_trans hb03.size hb11.size))
   have hw : wrg f k i = if spl f i = true then 10 else 0 := by
    unfold wrg
    rw [if_neg (by omega),if_neg (by rw [hin]; simp)]
   refine wp_mono (k14 F n1 n2 k c1 _ w.heap.size _ _ hF13 w13) ?_
   rintro e a14 w14 (⟨rfl,hF14,rfl,ht⟩ | ⟨rfl,hF14,rfl,ht⟩)
   ·refine ⟨hb013,.inl ⟨rfl,hF14.c,?_⟩⟩
    rw [hw,if_neg (by intro x; exact Bool.noConfusion (ht.symm.trans x))]
   ·refine ⟨hb013,.inr ⟨rfl,?_,?_⟩⟩
    ·rw [hw,if_pos ht]; exact hF14
    ·rw [hw,if_pos ht]; decide
  ·rintro a9 w9 ⟨hF9,rfl,hq⟩
   have hin : inR f k i = false := by simpa using hq
   have hw : wrg f k i = 3 := by
    unfold wrg
    rw [if_neg (by omega),if_pos hin]
   exact ⟨hb03,.inr ⟨rfl,by rw [hw]; exact hF9,by rw [hw]; decide⟩⟩
 ·rintro a1 w1 ⟨hF1,rfl,ho⟩
  have hw : wrg f k i = 1 := by
   unfold wrg
   rw [if_pos ho]
  exact ⟨hb0,.inr ⟨rfl,by rw [hw]; exact hF1,by rw [hw]; decide⟩⟩
end Go.Proofs.Ytfbmkcogkiejnaa.Fl
