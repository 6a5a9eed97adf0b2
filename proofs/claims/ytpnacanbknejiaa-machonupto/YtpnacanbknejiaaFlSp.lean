/- Whether an instruction would show what is secret, what is wrong with one, with all: flow's spills, wrong, Check. Written by tools/gen_flsp.py. -/
import Derived.Test.YtpnacanbknejiaaFlIn
namespace Go.Proofs.Ytpnacanbknejiaa.Fl
set_option maxHeartbeats 32000000
set_option maxRecDepth 100000
set_option linter.unusedVariables false
set_option linter.unusedSimpArgs false
open Go.ChangeShapes Go.WideShapes Go.ChangeAt Go.RowKit Lg Lr
theorem bools_at {w : World} {B : Nat} {l : List Bool} {p : Option Addr} {n : Nat} (hn : l.length = n) (hq : ∀ j x,l[j]? = some x → ∃ g o,p = some ⟨g,o,none⟩ ∧ g < B ∧ w.cell? ⟨g,o + j,none⟩ = some (.bool x)) {k : Nat} (hk : k < n) : ∃ g o,p = some ⟨g,o,none⟩ ∧ g < B ∧ w.cell? ⟨g,o + k,none⟩ = some (.bool (gB l (k : Int))) := by
 obtain ⟨v,hv⟩ : ∃ v,l[k]? = some v := ⟨_,List.getElem?_eq_getElem (by omega)⟩
 have e : gB l (k : Int) = v := by unfold gB; rw [Int.toNat_natCast,List.getD_eq_getElem?_getD,hv]; rfl
 rw [e]
 exact hq k v hv
theorem vars_at {w : World} {B : Nat} {l : List Vr} {p : Option Addr} {n : Nat} (hn : l.length = n) (hq : ∀ j v,l[j]? = some v → ∃ g o,p = some ⟨g,o,none⟩ ∧ g < B ∧ VrAt w g (o + j * 3) v) {k : Nat} (hk : k < n) : ∃ g o,p = some ⟨g,o,none⟩ ∧ g < B ∧ w.cell? ⟨g,o + k * 3 + 1,none⟩ = some (.bool (vB l (k : Int))) := by
 obtain ⟨v,hv⟩ : ∃ v,l[k]? = some v := ⟨_,List.getElem?_eq_getElem (by omega)⟩
 have e : vB l (k : Int) = v.secret := by unfold vB; rw [Int.toNat_natCast,hv]; rfl
 rw [e]
 obtain ⟨g,o,h1,h2,h3⟩ := hq k v hv
 exact ⟨g,o,h1,h2,h3.c1⟩
structure There (f : Fx) (i : Ix) : Prop where
 d : mks i = true → 0 ≤ i.d ∧ i.d < f.sec.length
 r : ∀ p ∈ rds i,0 ≤ p ∧ p < f.sec.length
 b : i.op = 16 ∨ i.op = 17 → 0 ≤ i.b ∧ i.b < f.arrs.length
theorem there_of {f : Fx} {k : Int} {i : Ix} (h : inR f k i = true) : There f i := by
 unfold inR at h
 rw [Bool.and_eq_true,Bool.and_eq_true] at h
 obtain ⟨⟨h1,h2⟩,h3⟩ := h
 refine ⟨fun hm => ?_,fun p hp => wi_iff.1 (List.all_eq_true.1 h2 p hp),fun ho => ?_⟩
 ·rw [hm] at h1
  exact wi_iff.1 (by simpa using h1)
 ·unfold ext at h3
  rw [if_neg (by omega),if_pos ho] at h3
  exact wi_iff.1 h3
theorem spl_any (B : Nat) (f : Fx) (s1 s2 s3 : Value) (i : Ix) (w : World) (hB : B ≤ w.heap.size) (h : FxIs w B f s1 s2 s3) (ht : There f i) :
  Calls Try.prog 63 #[.agg (fxA f s1 s2 s3),.agg (ixA i)] w fun r w' => r = .returned (.bool (spl f i)) ∧ Below w.heap.size w w' := by
 obtain ⟨p1,n1,c1,hs1,hn1,_,hm1,hq1⟩ := id h.code
 obtain ⟨p2,n2,c2,hs2,hn2,_,hm2,hq2⟩ := id h.sec
 obtain ⟨p3,n3,c3,hs3,hn3,_,hm3,hq3⟩ := id h.arrs
 subst hs1 hs2 hs3
 obtain ⟨w1,hw1⟩ : ∃ y,w.alloc (.cells #[.slice p1 n1 c1,.slice p2 n2 c2,.int .i64 f.params,.slice p3 n3 c3] 26) = y := ⟨_,rfl⟩
 obtain ⟨P,hP⟩ : ∃ y,w.heap.size = y := ⟨_,rfl⟩
 have b1 : Below w.heap.size w w1 := by rw [← hw1]; exact (Below.refl _ _).alloc (Nat.le_refl _) _
 have kP : Bk w1 P [.slice p1 n1 c1,.slice p2 n2 c2,.int .i64 f.params,.slice p3 n3 c3] 26 := by rw [← hw1,← hP]; exact Bk.new _ _ _
 obtain ⟨op,d,a,b,c,imm⟩ := i
 obtain ⟨w2,hw2⟩ : ∃ y,w1.alloc (.cells #[.int .i64 op,.int .i64 d,.int .i64 a,.int .i64 b,.int .i64 c,.int .i64 imm] 35) = y := ⟨_,rfl⟩
 obtain ⟨I,hI⟩ : ∃ y,w1.heap.size = y := ⟨_,rfl⟩
 have b2 : Below w1.heap.size w1 w2 := by rw [← hw2]; exact (Below.refl _ _).alloc (Nat.le_refl _) _
 have b12 := b1.trans (b2.mono b1.size)
 have kP2 := kP.fs (Fs.of_below (l:=[]) b2) (by simp)
 have kI : Bk w2 I [.int .i64 op,.int .i64 d,.int .i64 a,.int .i64 b,.int .i64 c,.int .i64 imm] 35 := by rw [← hw2,← hI]; exact Bk.new _ _ _
 have h2 := h.below (b12.mono hB)
 have hF : BoxF w2 P B f (.slice p1 n1 c1) (.slice p2 n2 c2) (.slice p3 n3 c3) := ⟨kP2,h2,by have := b12.size; omega⟩
 have HQ2 : Hid (∀ {k : Nat},k < n2 → ∃ g o,p2 = some ⟨g,o,none⟩ ∧ g < B ∧ w2.cell? ⟨g,o + k,none⟩ = some (.bool (gB f.sec (k : Int)))) := fun {k} hk => by
  obtain ⟨q1,q2,q3,q4,q5,q6,q7,q8⟩ := h2.sec
  cases q4
  exact bools_at hn2 q8 hk
 have HQ3 : Hid (∀ {k : Nat},k < n3 → ∃ g o,p3 = some ⟨g,o,none⟩ ∧ g < B ∧ w2.cell? ⟨g,o + k * 3 + 1,none⟩ = some (.bool (vB f.arrs (k : Int)))) := fun {k} hk => by
  obtain ⟨q1,q2,q3,q4,q5,q6,q7,q8⟩ := h2.arrs
  cases q4
  exact vars_at hn3 q8 hk
 have HF := keep hF
 have HI := keep kI
 have HW1 := keep hw1
 have HW2 := keep hw2
 have HP := keep hP
 have HIe := keep hI
 have HBw := keep b12
 have HN2 := keep hn2
 have HN3 := keep hn3
 have HT := keep ht
 have x0 := kI.cell 0 rfl
 have x1 := kI.cell 1 rfl
 have x2 := kI.cell 2 rfl
 have x3 := kI.cell 3 rfl
 have x4 := kI.cell 4 rfl
 have x5 := kI.cell 5 rfl
 have y1 := kP2.cell 1 rfl
 have y3 := kP2.cell 3 rfl
 unfold fxA ixA
 dsimp only
 clear hw1 hw2 hP hI b1 b2 b12 kP kP2 kI hF hq1 hq2 hq3 hn1 hn2 hn3 h hB h2 ht
 by_cases h16 : op = 16
 ·subst h16
  obtain ⟨a0,a1⟩ := HT.out.r a (by simp [rds])
  obtain ⟨d0,d1⟩ := HT.out.d rfl
  obtain ⟨b0,b1⟩ := HT.out.b (.inl rfl)
  dsimp only at d0 d1 b0 b1
  rw [HN2.out] at a1 d1
  rw [HN3.out] at b1
  obtain ⟨ka,rfl⟩ : ∃ k : Nat,a = (k : Int) := ⟨a.toNat,by omega⟩
  obtain ⟨kd,rfl⟩ : ∃ k : Nat,d = (k : Int) := ⟨d.toNat,by omega⟩
  obtain ⟨kb,rfl⟩ : ∃ k : Nat,b = (k : Int) := ⟨b.toNat,by omega⟩
  obtain ⟨g2,o2,rfl,_,u1⟩ := HQ2.out (k:=ka) (by omega)
  obtain ⟨g2',o2',e2,_,u2⟩ := HQ2.out (k:=kd) (by omega)
  cases e2
  obtain ⟨g3,o3,rfl,_,u3⟩ := HQ3.out (k:=kb) (by omega)
  have HE : Hid (spl f ⟨16,(kd : Int),(ka : Int),(kb : Int),c,imm⟩ = (gB f.sec (ka : Int) || vB f.arrs (kb : Int) && !gB f.sec (kd : Int))) := by show _ = _; unfold spl; rw [if_pos rfl]
  obtain ⟨q1,e1⟩ : ∃ q,gB f.sec (ka : Int) = q := ⟨_,rfl⟩
  obtain ⟨q2,e2⟩ : ∃ q,gB f.sec (kd : Int) = q := ⟨_,rfl⟩
  obtain ⟨q3,e3⟩ : ∃ q,vB f.arrs (kb : Int) = q := ⟨_,rfl⟩
  rw [e1,e2,e3] at HE
  rw [e1] at u1
  rw [e2] at u2
  rw [e3] at u3
  clear e1 e2 e3 HQ2 HQ3 HF HI HN2 HN3 HT
  cases q1 <;> cases q2 <;> cases q3 <;> (go_enter Try.func63,Try.ntmps63; go_wp2_with (first | rw [HW1.out] | rw [HW2.out] | rw [HP.out] | rw [HIe.out]); go_ret; exact ⟨by rw [HE.out]; rfl,by first | exact HBw.out | (rw [← HP.out]; exact HBw.out)⟩)
 ·by_cases h17 : op = 17
  ·subst h17
   obtain ⟨a0,a1⟩ := HT.out.r a (by simp [rds])
   obtain ⟨d0,d1⟩ := HT.out.r d (by simp [rds])
   obtain ⟨b0,b1⟩ := HT.out.b (.inr rfl)
   dsimp only at b0 b1
   rw [HN2.out] at a1 d1
   rw [HN3.out] at b1
   obtain ⟨ka,rfl⟩ : ∃ k : Nat,a = (k : Int) := ⟨a.toNat,by omega⟩
   obtain ⟨kd,rfl⟩ : ∃ k : Nat,d = (k : Int) := ⟨d.toNat,by omega⟩
   obtain ⟨kb,rfl⟩ : ∃ k : Nat,b = (k : Int) := ⟨b.toNat,by omega⟩
   obtain ⟨g2,o2,rfl,_,u1⟩ := HQ2.out (k:=ka) (by omega)
   obtain ⟨g2',o2',e2,_,u2⟩ := HQ2.out (k:=kd) (by omega)
   cases e2
   obtain ⟨g3,o3,rfl,_,u3⟩ := HQ3.out (k:=kb) (by omega)
   have HE : Hid (spl f ⟨17,(kd : Int),(ka : Int),(kb : Int),c,imm⟩ = (gB f.sec (ka : Int) || gB f.sec (kd : Int) && !vB f.arrs (kb : Int))) := by show _ = _; unfold spl; rw [if_neg (by dsimp only; omega),if_pos rfl]
   obtain ⟨q1,e1⟩ : ∃ q,gB f.sec (ka : Int) = q := ⟨_,rfl⟩
   obtain ⟨q2,e2⟩ : ∃ q,gB f.sec (kd : Int) = q := ⟨_,rfl⟩
   obtain ⟨q3,e3⟩ : ∃ q,vB f.arrs (kb : Int) = q := ⟨_,rfl⟩
   rw [e1,e2,e3] at HE
   rw [e1] at u1
   rw [e2] at u2
   rw [e3] at u3
   clear e1 e2 e3 HQ2 HQ3 HF HI HN2 HN3 HT h16
   cases q1 <;> cases q2 <;> cases q3 <;> (go_enter Try.func63,Try.ntmps63; go_wp2_with (first | rw [HW1.out] | rw [HW2.out] | rw [HP.out] | rw [HIe.out]); go_ret; exact ⟨by rw [HE.out]; rfl,by first | exact HBw.out | (rw [← HP.out]; exact HBw.out)⟩)
  ·by_cases h19 : op = 19
   ·subst h19
    obtain ⟨a0,a1⟩ := HT.out.r a (by simp [rds])
    rw [HN2.out] at a1
    obtain ⟨ka,rfl⟩ : ∃ k : Nat,a = (k : Int) := ⟨a.toNat,by omega⟩
    obtain ⟨g2,o2,rfl,_,u1⟩ := HQ2.out (k:=ka) (by omega)
    have HE : Hid (spl f ⟨19,d,(ka : Int),b,c,imm⟩ = gB f.sec (ka : Int)) := by show _ = _; unfold spl; rw [if_neg (by dsimp only; omega),if_neg (by dsimp only; omega),if_pos rfl]
    obtain ⟨q1,e1⟩ : ∃ q,gB f.sec (ka : Int) = q := ⟨_,rfl⟩
    rw [e1] at HE
    rw [e1] at u1
    clear e1 HQ2 HQ3 HF HI HN2 HN3 HT h16 h17
    go_enter Try.func63,Try.ntmps63
    go_wp2_with (first | rw [HW1.out] | rw [HW2.out] | rw [HP.out] | rw [HIe.out])
    go_ret
    exact ⟨by rw [HE.out]; rfl,by first | exact HBw.out | (rw [← HP.out]; exact HBw.out)⟩
   ·have k16 : (op == 16) = false := by simpa using h16
    have k17 : (op == 17) = false := by simpa using h17
    have k19 : (op == 19) = false := by simpa using h19
    have HE : Hid (spl f ⟨op,d,a,b,c,imm⟩ = (mks ⟨op,d,a,b,c,imm⟩ && !gB f.sec d && (rds ⟨op,d,a,b,c,imm⟩).any (gB f.sec))) := by show _ = _; unfold spl; rw [if_neg h16,if_neg h17,if_neg h19]
    have HM := keep (makes_any ⟨op,d,a,b,c,imm⟩ w2)
    unfold ixA at HM
    dsimp only at HM
    clear h16 h17 h19
    go_enter Try.func63,Try.ntmps63
    go_wp2_with (first | rw [HW1.out] | rw [HW2.out] | rw [HP.out] | rw [HIe.out] | fail)
    refine HM.out.mono ?_
    rintro r w3 ⟨rfl,hb3⟩
    have HB3 := keep hb3
    obtain ⟨m,hm⟩ : ∃ m,mks ⟨op,d,a,b,c,imm⟩ = m := ⟨_,rfl⟩
    have HMk := keep hm
    clear hb3 HM x0 x1 x2 x3 x4 x5 y1 y3
    rw [hm]
    rw [hm] at HE
    clear hm
    cases m with
    | false =>
     go_wp2
     go_ret
     exact ⟨by rw [HE.out]; rfl,by first | exact HBw.out.trans (HB3.out.mono HBw.out.size) | (rw [← HP.out]; exact HBw.out.trans (HB3.out.mono HBw.out.size))⟩
    | true =>
     obtain ⟨d0,d1⟩ := HT.out.d HMk.out
     dsimp only at d0 d1
     rw [HN2.out] at d1
     obtain ⟨kd,rfl⟩ : ∃ k : Nat,d = (k : Int) := ⟨d.toNat,by omega⟩
     obtain ⟨g2,o2,rfl,hg2,u0⟩ := HQ2.out (k:=kd) (by omega)
     obtain ⟨q1,e1⟩ : ∃ q,gB f.sec (kd : Int) = q := ⟨_,rfl⟩
     rw [e1] at HE
     rw [e1] at u0
     have kI3 := HI.out.fs (Fs.of_below (l:=[]) HB3.out) (by simp)
     have kF3 := (HF.out.below HB3.out).box
     have x0 := kI3.cell 0 rfl
     have x1 := kI3.cell 1 rfl
     have x2 := kI3.cell 2 rfl
     have x3 := kI3.cell 3 rfl
     have x4 := kI3.cell 4 rfl
     have x5 := kI3.cell 5 rfl
     have y1 := kF3.cell 1 rfl
     have u1 : w3.cell? ⟨g2,o2 + kd,none⟩ = some (.bool q1) := keep_cell HB3.out u0
     clear e1 u0 kI3 kF3
     cases q1 with
     | true =>
      go_wp2
      go_ret
      exact ⟨by rw [HE.out]; rfl,by first | exact HBw.out.trans (HB3.out.mono HBw.out.size) | (rw [← HP.out]; exact HBw.out.trans (HB3.out.mono HBw.out.size))⟩
     | false =>
      have HR := keep (reads_any ⟨op,(kd : Int),a,b,c,imm⟩ w3)
      unfold ixA at HR
      dsimp only at HR
      go_wp2_with fail
      refine HR.out.mono ?_
      rintro r w4 ⟨v,rfl,hv,hb4⟩
      obtain ⟨pv,nv,cv,rfl⟩ := hv.slice
      have HB4 := keep (HB3.out.trans (hb4.mono HB3.out.size))
      have HC := keep (contains_sp P B f _ _ _ w4.heap.size (rds ⟨op,(kd : Int),a,b,c,imm⟩) _ w4 (Nat.le_refl _) hv (HF.out.below HB4.out) HT.out.r)
      clear hv hb4 HR x0 x1 x2 x3 x4 x5 y1 u1
      go_wp2_with fail
      refine HC.out.mono ?_
      rintro r w5 ⟨rfl,hb5⟩
      have HB5 := keep (HB4.out.trans (hb5.mono HB4.out.size))
      clear hb5 HC
      obtain ⟨q,hq⟩ : ∃ q,(rds ⟨op,(kd : Int),a,b,c,imm⟩).any (gB f.sec) = q := ⟨_,rfl⟩
      have e2 : ((rds ⟨op,(kd : Int),a,b,c,imm⟩).any fun x => gB f.sec x) = q := hq
      rw [e2]
      rw [hq] at HE
      clear hq e2
      go_wp2
      go_ret
      exact ⟨by rw [HE.out]; rfl,by first | exact HBw.out.trans (HB5.out.mono HBw.out.size) | (rw [← HP.out]; exact HBw.out.trans (HB5.out.mono HBw.out.size))⟩
theorem last_any (op : Int) (w : World) : Calls Try.prog 39 #[.int .i64 op] w fun r w' => r = .returned (.bool (lst op)) ∧ w' = w := by
 unfold lst
 by_cases h18 : op = 18
 ·subst h18
  go_enter Try.func39,Try.ntmps39
  go_wp2
  go_ret
  exact ⟨rfl,rfl⟩
 ·by_cases h20 : op = 20
  ·subst h20
   go_enter Try.func39,Try.ntmps39
   go_wp2
   go_ret
   exact ⟨rfl,rfl⟩
  ·have k18 : (op == 18) = false := by simpa using h18
   have k20 : (op == 20) = false := by simpa using h20
   have e : (op == 21) = decide (op = 21) := rfl
   rw [decide_eq_false h18,decide_eq_false h20,Bool.false_or,Bool.false_or,← e]
   obtain ⟨q,hq⟩ : ∃ q,(op == 21) = q := ⟨_,rfl⟩
   rw [hq]
   clear e h18 h20
   cases q
   ·go_enter Try.func39,Try.ntmps39
    go_wp2
    go_ret
    exact ⟨rfl,rfl⟩
   ·go_enter Try.func39,Try.ntmps39
    go_wp2
    go_ret
    exact ⟨rfl,rfl⟩
end Go.Proofs.Ytpnacanbknejiaa.Fl
