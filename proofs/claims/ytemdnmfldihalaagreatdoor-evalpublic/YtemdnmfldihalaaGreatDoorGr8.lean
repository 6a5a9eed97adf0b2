/- Laid together: LfFind, LfNone, LmCode, LfBox. -/
import Derived.Test.YtemdnmfldihalaaGreatDoorLfVal
import Derived.Test.YtemdnmfldihalaaGreatDoorGr2
namespace Go.Proofs.YtemdnmfldihalaaGreatDoor.Lr
set_option maxHeartbeats 32000000
set_option maxRecDepth 100000
set_option linter.unusedVariables false
set_option linter.unusedSimpArgs false
open Go.ChangeShapes Go.WideShapes Go.ChangeAt Go.RowKit Lg
structure ScAt (w : World) (g k : Nat) (v : List UInt8 × Nat) : Prop where
 c0 : w.cell? ⟨g,k,none⟩ = some (.string ⟨v.1.toArray⟩)
 c1 : w.cell? ⟨g,k + 1,none⟩ = some (.pointer (some ⟨v.2,0,none⟩))
def ScIs (w : World) (B : Nat) (vs : List (List UInt8 × Nat)) (sl : Value) : Prop := ∃ (p : Option Addr) (n cap : Nat),sl = .slice p n cap ∧ vs.length = n ∧ n ≤ cap ∧ n ≤ 281474976710656 ∧
  ∀ j v,vs[j]? = some v → ∃ g o,p = some ⟨g,o,none⟩ ∧ g < B ∧ ScAt w g (o + j * 2) v
theorem ScAt.below {w w' : World} {B g k : Nat} {v : List UInt8 × Nat} (h : ScAt w g k v) (hb : Below B w w') (hg : g < B) : ScAt w' g k v :=
 ⟨by rw [cell_below hb hg]; exact h.c0,by rw [cell_below hb hg]; exact h.c1⟩
theorem ScIs.below {w w' : World} {B : Nat} {vs : List (List UInt8 × Nat)} {sl : Value} (hb : Below B w w') (h : ScIs w B vs sl) : ScIs w' B vs sl := by
 obtain ⟨p,n,cap,h1,h2,h3,h4,h5⟩ := h
 exact ⟨p,n,cap,h1,h2,h3,h4,fun j v hj => by
  obtain ⟨g,o,k1,k2,k3⟩ := h5 j v hj
  exact ⟨g,o,k1,k2,k3.below hb k2⟩⟩
def Idx {α : Type} (p : α → Bool) (l : List α) (i : Int) : Prop := (i = -1 ∧ l.find? p = none) ∨ ∃ (k : Nat) (a : α),i = (k : Int) ∧ l[k]? = some a ∧ l.find? p = some a ∧ k < l.length ∧ ∀ j b,j < k → l[j]? = some b → p b = false
theorem find_at {α : Type} {p : α → Bool} : ∀ {l : List α} {k : Nat} {a : α},(∀ j b,j < k → l[j]? = some b → p b = false) → l[k]? = some a → p a = true → l.find? p = some a
 | [],k,a,h,hk,hp => by simp at hk
 | b :: l,0,a,h,hk,hp => by
  simp at hk
  subst hk
  rw [List.find?_cons,hp]
 | b :: l,k + 1,a,h,hk,hp => by
  rw [List.find?_cons,h 0 b (by omega) rfl]
  exact find_at (k:=k) (fun j c hj hc => h (j + 1) c (by omega) (by simpa using hc)) (by simpa using hk) hp
theorem find_no {α : Type} {p : α → Bool} {l : List α} (h : ∀ (j : Nat) b,l[j]? = some b → p b = false) : l.find? p = none := by
 rw [List.find?_eq_none]
 intro b hb
 obtain ⟨j,hj⟩ := List.getElem?_of_mem hb
 rw [h j b hj]; decide
theorem keep_cell_at {w w' : World} {g i : Nat} {v : Value} (hb : Below w.heap.size w w') (h : w.cell? ⟨g,i,none⟩ = some v) : w'.cell? ⟨g,i,none⟩ = some v := keep_cell hb h
theorem oneV_any (P : Nat) (y : List UInt8) (v : Vr) (w : World) (hc : w.cell? ⟨P,0,none⟩ = some (.string ⟨y.toArray⟩)) :
  Calls Tryz.prog 101 #[.agg #[.string ⟨v.name.toArray⟩,.bool v.secret,.int .i64 v.size],.pointer (some ⟨P,0,none⟩)] w fun r w' => r = .returned (.bool (v.name == y)) ∧ Below w.heap.size w w' := by
 have hP := lt_of_cell hc
 obtain ⟨vn,vs,vz⟩ := v
 have HB : Hid (Below w.heap.size w (w.alloc (.cells #[.string ⟨vn.toArray⟩,.bool vs,.int .i64 vz] 46))) := (Below.refl _ _).alloc (Nat.le_refl _) _
 have hc2 : (w.alloc (.cells #[.string ⟨vn.toArray⟩,.bool vs,.int .i64 vz] 46)).cell? ⟨P,0,none⟩ = some (.string ⟨y.toArray⟩) := keep_cell HB.out hc
 go_enter Tryz.func101,Tryz.ntmps101
 go_wp2
 go_ret
 exact ⟨rfl,HB.out⟩
theorem indexV_any (B P : Nat) (y : List UInt8) (vs : List Vr) (sl : Value) (w : World) (hB : B ≤ w.heap.size) (ha : VrIs w B vs sl) (hc : w.cell? ⟨P,0,none⟩ = some (.string ⟨y.toArray⟩)) :
  Calls Tryz.prog 100 #[sl,.func (.func 101) #[] #[.pointer (some ⟨P,0,none⟩)]] w fun r w' => ∃ i : Int,r = .returned (.int .i64 i) ∧ Idx (fun v : Vr => v.name == y) vs i ∧ Below w.heap.size w w' := by
 obtain ⟨pa,na,ca,rfl,hna,hca,hla,hea⟩ := ha
 have HEA := keep hea
 have HNA := keep hna
 have HBB := keep hB
 have HC := keep hc
 clear hea hna hB hc
 go_enter Tryz.func100,Tryz.ntmps100
 go_wp2
 go_loopw [8] (fun i wx => ∃ k : Nat,k ≤ na ∧ i = .int .i64 (k : Int) ∧ (∀ j b,j < k → vs[j]? = some b → (b.name == y) = false) ∧ Below w.heap.size w wx) (fun i _ => na - (intOf i).toNat)
 case atStart => exact ⟨0,by omega,rfl,fun j b hj => by omega,Below.refl _ _⟩
 case round =>
  obtain ⟨k,hkn,rfl,hno,hbx⟩ := hrel
  have HS := keep hno
  have HX := keep hbx
  clear hno hbx
  by_cases hkl : k < na
  ·have d1 : decide ((k : Int) < (na : Int)) = true := decide_eq_true (by omega)
   have hkz : (k : Int) < (na : Int) := by omega
   have hk0 : (0 : Int) ≤ (k : Int) := by omega
   obtain ⟨x,hx⟩ : ∃ x,vs[k]? = some x := ⟨_,List.getElem?_eq_getElem (by rw [HNA.out]; exact hkl)⟩
   obtain ⟨g,o,rfl,hg,hax⟩ := HEA.out k x hx
   have HUX := keep hx
   have hB := HBB.out
   have hax := hax.below HX.out (by omega)
   have a0 := hax.c0
   have a1 := hax.c1
   have a2 := hax.c2
   have HOne := keep (oneV_any P y x wr (keep_cell_at HX.out HC.out))
   clear hx hax HEA hB
   obtain ⟨nx,sx,zx⟩ := x
   simp only at a0 a1 a2 HOne
   obtain ⟨q,hq⟩ : ∃ q,(nx == y) = q := ⟨_,rfl⟩
   rw [hq] at HOne
   have HQ := keep hq
   clear hq
   go_wp2_with fail
   refine HOne.out.mono ?_
   rintro r w1 ⟨rfl,hb1⟩
   have HB1 := keep (HX.out.trans (hb1.mono HX.out.size))
   clear hb1
   cases q with
   | true =>
    go_wp2
    go_ret
    exact ⟨_,rfl,.inr ⟨k,_,rfl,HUX.out,find_at HS.out HUX.out HQ.out,by rw [HNA.out]; exact hkl,HS.out⟩,HB1.out⟩
   | false =>
    go_wp2
    go_roundw
    case rel => exact ⟨k + 1,by omega,by go_num,fun j b hj hb => by
     by_cases e : j = k
     ·rw [e,HUX.out] at hb
      cases hb; exact HQ.out
     ·exact HS.out j b (by omega) hb,HB1.out⟩
    case measure => simp [intOf]; omega
  ·have hke : k = na := by omega
   subst hke
   have dl : decide ((k : Int) < (k : Int)) = false := decide_eq_false (by omega)
   have HN := keep (find_no (p:=fun v : Vr => v.name == y) (l:=vs) fun j b hb => HS.out j b (by have := (List.getElem?_eq_some_iff.1 hb).1; rw [HNA.out] at this; exact this) hb)
   clear hkl
   go_wp2
   go_ret
   exact ⟨_,rfl,.inl ⟨rfl,HN.out⟩,HX.out⟩
theorem oneS_any (P : Nat) (y : List UInt8) (v : List UInt8 × Nat) (w : World) (hc : w.cell? ⟨P,0,none⟩ = some (.string ⟨y.toArray⟩)) :
  Calls Tryz.prog 79 #[.agg #[.string ⟨v.1.toArray⟩,.pointer (some ⟨v.2,0,none⟩)],.pointer (some ⟨P,0,none⟩)] w fun r w' => r = .returned (.bool (v.1 == y)) ∧ Below w.heap.size w w' := by
 have hP := lt_of_cell hc
 obtain ⟨vn,vz⟩ := v
 have HB : Hid (Below w.heap.size w (w.alloc (.cells #[.string ⟨vn.toArray⟩,.pointer (some ⟨vz,0,none⟩)] 116))) := (Below.refl _ _).alloc (Nat.le_refl _) _
 have hc2 : (w.alloc (.cells #[.string ⟨vn.toArray⟩,.pointer (some ⟨vz,0,none⟩)] 116)).cell? ⟨P,0,none⟩ = some (.string ⟨y.toArray⟩) := keep_cell HB.out hc
 go_enter Tryz.func79,Tryz.ntmps79
 go_wp2
 go_ret
 exact ⟨rfl,HB.out⟩
theorem indexS_any (B P : Nat) (y : List UInt8) (vs : List (List UInt8 × Nat)) (sl : Value) (w : World) (hB : B ≤ w.heap.size) (ha : ScIs w B vs sl) (hc : w.cell? ⟨P,0,none⟩ = some (.string ⟨y.toArray⟩)) :
  Calls Tryz.prog 78 #[sl,.func (.func 79) #[] #[.pointer (some ⟨P,0,none⟩)]] w fun r w' => ∃ i : Int,r = .returned (.int .i64 i) ∧ Idx (fun v : List UInt8 × Nat => v.1 == y) vs i ∧ Below w.heap.size w w' := by
 obtain ⟨pa,na,ca,rfl,hna,hca,hla,hea⟩ := ha
 have HEA := keep hea
 have HNA := keep hna
 have HBB := keep hB
 have HC := keep hc
 clear hea hna hB hc
 go_enter Tryz.func78,Tryz.ntmps78
 go_wp2
 go_loopw [8] (fun i wx => ∃ k : Nat,k ≤ na ∧ i = .int .i64 (k : Int) ∧ (∀ j b,j < k → vs[j]? = some b → (b.1 == y) = false) ∧ Below w.heap.size w wx) (fun i _ => na - (intOf i).toNat)
 case atStart => exact ⟨0,by omega,rfl,fun j b hj => by omega,Below.refl _ _⟩
 case round =>
  obtain ⟨k,hkn,rfl,hno,hbx⟩ := hrel
  have HS := keep hno
  have HX := keep hbx
  clear hno hbx
  by_cases hkl : k < na
  ·have d1 : decide ((k : Int) < (na : Int)) = true := decide_eq_true (by omega)
   have hkz : (k : Int) < (na : Int) := by omega
   have hk0 : (0 : Int) ≤ (k : Int) := by omega
   obtain ⟨x,hx⟩ : ∃ x,vs[k]? = some x := ⟨_,List.getElem?_eq_getElem (by rw [HNA.out]; exact hkl)⟩
   obtain ⟨g,o,rfl,hg,hax⟩ := HEA.out k x hx
   have HUX := keep hx
   have hB := HBB.out
   have hax := hax.below HX.out (by omega)
   have a0 := hax.c0
   have a1 := hax.c1
   have HOne := keep (oneS_any P y x wr (keep_cell_at HX.out HC.out))
   clear hx hax HEA hB
   obtain ⟨nx,zx⟩ := x
   simp only at a0 a1 HOne
   obtain ⟨q,hq⟩ : ∃ q,(nx == y) = q := ⟨_,rfl⟩
   rw [hq] at HOne
   have HQ := keep hq
   clear hq
   go_wp2_with fail
   refine HOne.out.mono ?_
   rintro r w1 ⟨rfl,hb1⟩
   have HB1 := keep (HX.out.trans (hb1.mono HX.out.size))
   clear hb1
   cases q with
   | true =>
    go_wp2
    go_ret
    exact ⟨_,rfl,.inr ⟨k,_,rfl,HUX.out,find_at HS.out HUX.out HQ.out,by rw [HNA.out]; exact hkl,HS.out⟩,HB1.out⟩
   | false =>
    go_wp2
    go_roundw
    case rel => exact ⟨k + 1,by omega,by go_num,fun j b hj hb => by
     by_cases e : j = k
     ·rw [e,HUX.out] at hb
      cases hb; exact HQ.out
     ·exact HS.out j b (by omega) hb,HB1.out⟩
    case measure => simp [intOf]; omega
  ·have hke : k = na := by omega
   subst hke
   have dl : decide ((k : Int) < (k : Int)) = false := decide_eq_false (by omega)
   have HN := keep (find_no (p:=fun v : List UInt8 × Nat => v.1 == y) (l:=vs) fun j b hb => HS.out j b (by have := (List.getElem?_eq_some_iff.1 hb).1; rw [HNA.out] at this; exact this) hb)
   clear hkl
   go_wp2
   go_ret
   exact ⟨_,rfl,.inl ⟨rfl,HN.out⟩,HX.out⟩
structure MK (w : World) (t : Rt) (B : Nat) (rs : List Vr) (A : Value) (sc : List (List UInt8 × Nat)) (nv : Value) : Prop where
 box : Bk w t.M [.pointer (some ⟨t.R,0,none⟩),A,nv] 103
 arr : VrIs w B rs A
 sc : ScIs w w.heap.size sc nv
 hB : B ≤ t.M
theorem MK.below {w w' : World} {t : Rt} {B : Nat} {rs : List Vr} {A : Value} {sc : List (List UInt8 × Nat)} {nv : Value} (h : MK w t B rs A sc nv) (hb : Below w.heap.size w w') : MK w' t B rs A sc nv := by
 refine ⟨h.box.fs (Fs.of_below (l:=[]) hb) (by simp),h.arr.below (hb.mono (by have := h.hB; have := h.box.lt; omega)),?_,h.hB⟩
 obtain ⟨p,n,cap,h1,h2,h3,h4,h5⟩ := h.sc
 exact ⟨p,n,cap,h1,h2,h3,h4,fun j v hj => by
  obtain ⟨g,o,k1,k2,k3⟩ := h5 j v hj
  exact ⟨g,o,k1,Nat.lt_of_lt_of_le k2 hb.size,k3.below hb k2⟩⟩
theorem array_any (t : Rt) (B : Nat) (rs : List Vr) (A : Value) (sc : List (List UInt8 × Nat)) (nv : Value) (x : List UInt8) (w : World) (h : MK w t B rs A sc nv) :
  Calls Tryz.prog 80 #[.pointer (some ⟨t.M,0,none⟩),.string ⟨x.toArray⟩] w fun r w' => ∃ i : Int,r = .returned (.int .i64 i) ∧ Idx (fun v : Vr => v.name == x) rs i ∧ Below w.heap.size w w' := by
 obtain ⟨pa,na,ca,rfl,_⟩ := id h.arr
 obtain ⟨w1,hw1⟩ : ∃ y,w.alloc (.cells #[.string ⟨x.toArray⟩] 9) = y := ⟨_,rfl⟩
 have hb1 : Below w.heap.size w w1 := by rw [← hw1]; exact (Below.refl _ _).alloc (Nat.le_refl _) _
 have hx1 : Bk w1 w.heap.size [.string ⟨x.toArray⟩] 9 := by rw [← hw1]; exact Bk.new _ _ _
 have h1 := h.below hb1
 have c1 := h1.box.cell 1 rfl
 have HB1 := keep hb1
 have HC := keep (indexV_any B w.heap.size x rs _ w1 (by have := h1.hB; have := h1.box.lt; omega) h1.arr (hx1.cell 0 rfl))
 have HW1 := keep hw1
 clear h h1 hb1 hx1 hw1
 go_enter Tryz.func80,Tryz.ntmps80
 go_wp2_with (first | rw [HW1.out])
 refine HC.out.mono ?_
 rintro r w2 ⟨i,rfl,hi,hb2⟩
 have HI := keep hi
 have HB2 := keep (HB1.out.trans (hb2.mono HB1.out.size))
 clear hi hb2 HC HB1
 go_wp2
 go_ret
 exact ⟨_,rfl,HI.out,HB2.out⟩
theorem byName_any (t : Rt) (B : Nat) (rs : List Vr) (A : Value) (sc : List (List UInt8 × Nat)) (nv : Value) (x : List UInt8) (p : List UInt8 × Nat) (hp : sc.find? (fun v => v.1 == x) = some p) (w : World) (h : MK w t B rs A sc nv) :
  Calls Tryz.prog 63 #[.pointer (some ⟨t.M,0,none⟩),.string ⟨x.toArray⟩] w fun r w' => r = .returned (.pointer (some ⟨p.2,0,none⟩)) ∧ Below w.heap.size w w' := by
 obtain ⟨pa,na,ca,rfl,_⟩ := id h.sc
 obtain ⟨w1,hw1⟩ : ∃ y,w.alloc (.cells #[.string ⟨x.toArray⟩] 9) = y := ⟨_,rfl⟩
 have hb1 : Below w.heap.size w w1 := by rw [← hw1]; exact (Below.refl _ _).alloc (Nat.le_refl _) _
 have hx1 : Bk w1 w.heap.size [.string ⟨x.toArray⟩] 9 := by rw [← hw1]; exact Bk.new _ _ _
 have h1 := h.below hb1
 have c1 := h1.box.cell 2 rfl
 have HB1 := keep hb1
 have HC := keep (indexS_any w1.heap.size w.heap.size x sc _ w1 (Nat.le_refl _) h1.sc (hx1.cell 0 rfl))
 have HM := keep (fun W (hW : Below w1.heap.size w1 W) => h1.below hW)
 have HW1 := keep hw1
 have HP := keep hp
 clear h h1 hb1 hx1 hw1 hp
 go_enter Tryz.func63,Tryz.ntmps63
 go_wp2_with (first | rw [HW1.out])
 refine HC.out.mono ?_
 rintro r w2 ⟨i,rfl,hi,hb2⟩
 have hm2 := HM.out w2 hb2
 have c2 := hm2.box.cell 2 rfl
 rcases hi with ⟨rfl,hno⟩ | ⟨k,a,rfl,hk,hf,hkl,_⟩
 ·rw [HP.out] at hno; cases hno
 ·have ea : a = p := Option.some.inj (hf.symm.trans HP.out)
  subst ea
  obtain ⟨q1,q2,q3,e0,hql,_,_,hqa⟩ := hm2.sc
  injection e0 with e1 e2 e3
  subst e1 e2 e3
  obtain ⟨g,o,rfl,_,hat⟩ := hqa k a hk
  have s1 := hat.c1
  have HB2 := keep (HB1.out.trans (hb2.mono HB1.out.size))
  have hk0 : (0 : Int) ≤ (k : Int) := by omega
  have hk1 : (k : Int) < (na : Int) := by omega
  have dz : decide ((k : Int) < 0) = false := decide_eq_false (by omega)
  clear hb2 HC HB1 hm2 HM hqa hat hf hk HP
  go_wp2
  go_ret
  exact ⟨rfl,HB2.out⟩
theorem EnvM.look_none {W : World} {x : List UInt8} : ∀ {sc : List (List UInt8 × Nat)} {env : Env},EnvM W sc env → sc.find? (fun v => v.1 == x) = none → lookE env x = 0
 | [],[],_,h => rfl
 | q :: sc,r :: env,⟨h1,h2,h3⟩,h => by
  rw [List.find?_cons] at h
  unfold lookE
  rw [List.find?_cons,← h1]
  cases hx : q.1 == x with
  | true =>
   rw [hx] at h
   cases h
  | false =>
   rw [hx] at h
   exact EnvM.look_none h3 h
def ByN (sc : List (List UInt8 × Nat)) (x : List UInt8) (w : World) (r : Ending) (w' : World) : Prop := ∃ b,r = .returned (.pointer (some ⟨b,0,none⟩)) ∧ Below w.heap.size w w' ∧ ((∃ q,sc.find? (fun v => v.1 == x) = some q ∧ b = q.2) ∨ (sc.find? (fun v => v.1 == x) = none ∧ w.heap.size ≤ b ∧ Bk w' b [.int .i64 0] 3))
theorem byName_none (t : Rt) (B : Nat) (rs : List Vr) (A : Value) (sc : List (List UInt8 × Nat)) (nv : Value) (x : List UInt8) (hp : sc.find? (fun v => v.1 == x) = none) (w : World) (h : MK w t B rs A sc nv) :
  Calls Tryz.prog 63 #[.pointer (some ⟨t.M,0,none⟩),.string ⟨x.toArray⟩] w fun r w' => ByN sc x w r w' := by
 obtain ⟨pa,na,ca,rfl,_⟩ := id h.sc
 obtain ⟨w1,hw1⟩ : ∃ y,w.alloc (.cells #[.string ⟨x.toArray⟩] 9) = y := ⟨_,rfl⟩
 have hb1 : Below w.heap.size w w1 := by rw [← hw1]; exact (Below.refl _ _).alloc (Nat.le_refl _) _
 have hx1 : Bk w1 w.heap.size [.string ⟨x.toArray⟩] 9 := by rw [← hw1]; exact Bk.new _ _ _
 have h1 := h.below hb1
 have c1 := h1.box.cell 2 rfl
 have HB1 := keep hb1
 have HC := keep (indexS_any w1.heap.size w.heap.size x sc _ w1 (Nat.le_refl _) h1.sc (hx1.cell 0 rfl))
 have HM := keep (fun W (hW : Below w1.heap.size w1 W) => h1.below hW)
 have HW1 := keep hw1
 have HP := keep hp
 clear h h1 hb1 hx1 hw1 hp
 go_enter Tryz.func63,Tryz.ntmps63
 go_wp2_with (first | rw [HW1.out])
 refine HC.out.mono ?_
 rintro r w2 ⟨i,rfl,hi,hb2⟩
 rcases hi with ⟨rfl,hno⟩ | ⟨k,a,rfl,hk,hf,hkl,_⟩
 ·obtain ⟨w3,hw3⟩ : ∃ y,w2.alloc (.cells #[.int .i64 0] 3) = y := ⟨_,rfl⟩
  have hb3 : Below w2.heap.size w2 w3 := by rw [← hw3]; exact (Below.refl _ _).alloc (Nat.le_refl _) _
  have hk3 : Bk w3 w2.heap.size [.int .i64 0] 3 := by rw [← hw3]; exact Bk.new _ _ _
  have hb12 := HB1.out.trans (hb2.mono HB1.out.size)
  have HE : Hid (ByN sc x w (.returned (.pointer (some ⟨w2.heap.size,0,none⟩))) w3) := ⟨_,rfl,hb12.trans (hb3.mono hb12.size),.inr ⟨hno,hb12.size,hk3⟩⟩
  have HW3 := keep hw3
  clear hb2 HC HB1 HM hno HP hw3 hb3 hk3 hb12
  go_wp2_with (first | rw [HW3.out])
  go_ret
  exact HE.out
 ·rw [HP.out] at hf; cases hf
theorem byName_all (t : Rt) (B : Nat) (rs : List Vr) (A : Value) (sc : List (List UInt8 × Nat)) (nv : Value) (x : List UInt8) (w : World) (h : MK w t B rs A sc nv) :
  Calls Tryz.prog 63 #[.pointer (some ⟨t.M,0,none⟩),.string ⟨x.toArray⟩] w fun r w' => ByN sc x w r w' := by
 cases hq : sc.find? (fun v => v.1 == x) with
 | none => exact byName_none t B rs A sc nv x hq w h
 | some q =>
  refine (byName_any t B rs A sc nv x q hq w h).mono ?_
  rintro r w' ⟨rfl,hb⟩
  exact ⟨q.2,rfl,hb,.inl ⟨q,hq,rfl⟩⟩
theorem spot_none (t : Rt) (sc : List (List UInt8 × Nat)) (W : World) (env : Env) (arr : List (List Int)) (s : Sv) (hA : Apart t sc) (h : RM t sc W env arr s) (n : Int) :
  Calls Tryz.prog 82 #[.pointer (some ⟨t.R,0,none⟩),.int .i64 (-1),.int .i64 n] W fun r W' => r = .returned (.pointer none) ∧ Fs [t.R] W W' ∧ RM t sc W' env arr (trapped s) := by
 have c2 := h.run.cell 2 rfl
 have HFall := keep (fall_any t.R _ _ _ _ _ _ W h.run ⟨_,rfl⟩ ⟨_,rfl⟩)
 have HT := keep (fun W' (h1 : Fs [t.R] W W') h2 => h.turn (s' := trapped s) hA h1 h2)
 clear h
 go_enter Tryz.func82,Tryz.ntmps82
 go_wp2_with fail
 refine HFall.out.mono ?_
 rintro r w5 ⟨rfl,hb5,hf5⟩
 have HE := keep (HT.out w5 hf5 hb5)
 have HF5 := keep hf5
 clear hb5 hf5 HFall HT
 go_wp2
 go_ret
 exact ⟨rfl,HF5.out,HE.out⟩
theorem at_none (t : Rt) (sc : List (List UInt8 × Nat)) (rs : List Vr) (hrs : rs.length ≤ 1000) (hsz : ∀ v ∈ rs,v.size ≤ 8) (m : Nat) (x : List UInt8) (hxi : atV rs x = none) (ep : Ex) (hwf : wfE m ep) (b0 b1 b2 lo hi : Nat) (vp : Value) (w1 : World) (hA : Apart t sc) (hR : t.R < lo) (hb0 : lo ≤ b0) (hb1 : lo ≤ b1) (hb2 : lo ≤ b2) (ht0 : b0 < hi) (ht1 : b1 < hi) (ht2 : b2 < hi)
  (hc0 : w1.cell? ⟨b0,0,none⟩ = some vp) (hc1 : w1.cell? ⟨b1,0,none⟩ = some (.pointer (some ⟨t.M,0,none⟩))) (hc2 : w1.cell? ⟨b2,0,none⟩ = some (.int .i64 (-1))) (G1 : GoodE t sc rs m w1 lo hi vp ep)
  (W : World) (hKp : Keeps lo hi w1 W) (hWh : hi ≤ W.heap.size) (env : Env) (arr : List (List Int)) (s : Sv) (hM : RM t sc W env arr s) (hE : GE env) (hG : GA rs arr) :
  Calls Tryz.prog 114 #[.pointer (some ⟨b0,0,none⟩),.pointer (some ⟨b1,0,none⟩),.pointer (some ⟨b2,0,none⟩)] W fun r W' => ExP t sc W env arr s (evE rs env arr (m + 1) ⟨5,0,x,[ep]⟩) r W' := by
 obtain ⟨k1,d1,⟨rfl,eg1⟩,C1⟩ := G1
 have hcell : ∀ b v,lo ≤ b → b < hi → w1.cell? ⟨b,0,none⟩ = some v → ∀ W',Fs [t.R] W W' → W'.cell? ⟨b,0,none⟩ = some v := fun b v h1 h2 h3 W' hf => cellF_fs hf (by rw [World.cell?_of_block (hKp b h1 h2)]; exact h3) (by omega)
 have HSS : Hid (∀ W' : World,Fs [t.R] W W' → (W'.cell? ⟨b1,0,none⟩ = some (.pointer (some ⟨t.M,0,none⟩)) ∧ W'.cell? ⟨t.M,0,none⟩ = some (.pointer (some ⟨t.R,0,none⟩)) ∧ W'.cell? ⟨b2,0,none⟩ = some (.int .i64 (-1)))) := fun W' hf => ⟨hcell _ _ hb1 ht1 hc1 W' hf,cellF_fs hf hM.mkr hA.m,hcell _ _ hb2 ht2 hc2 W' hf⟩
 have c0 := hcell _ _ hb0 ht0 hc0 W (Fs.refl _ _)
 have hro : rowOf rs arr x = [] := by
  unfold rowOf
  rw [hxi]
 have HRo := keep hro
 have HWd := keep (fun n h => evE_word hE hG m ep hwf n h)
 have HC := keep (C1 W hKp hWh env arr s hM hE hG)
 have HM := keep hM
 have HA := keep hA
 have HEN := keep (ev_at (rs:=rs) (env:=env) (arr:=arr) (m:=m) (x:=x) (p:=ep))
 clear hcell C1 hM hKp hc0 hc1 hc2 hro hG hE hxi
 go_enter Tryz.func114,Tryz.ntmps114
 go_wp2_with fail
 refine HC.out.mono ?_
 intro r w4 hx
 obtain ⟨n1,s4,rfl,hm4,hn4⟩ := hx.next HA.out HM.out
 have HM4 := keep hm4
 have HF4 := keep hn4.fs
 have z := HSS.out w4 HF4.out
 obtain ⟨z1,z2,z3⟩ := z
 have z4 := hm4.run.cell 3 rfl
 have HN4 := keep hn4
 clear hx hm4 hn4 HC c0
 rcases HN4.out with ⟨rfl,hbl,h1⟩ | ⟨ho,h1,rfl,hf⟩
 ·have HBl := keep hbl
  clear hbl
  cases ho : s4.over with
  | true =>
   rw [ho] at z4
   have HOv := keep ho
   clear ho h1 HN4
   go_wp2
   go_ret
   exact ⟨0,rfl,.inl ⟨HOv.out,HBl.out⟩⟩
  | false =>
   rw [ho] at z4
   have HOv := keep ho
   have hev : evE rs env arr m ep = some n1 := by
    rcases h1 with h1 | h1
    ·rw [ho] at h1; cases h1
    ·exact h1
   have HEv : Hid (AtEv rs env arr m x ep [] n1) := ⟨hev,HRo.out⟩
   have HW1 : Hid (0 ≤ n1) := (HWd.out n1 hev).1
   clear ho h1 HN4 hev HWd HEN HRo
   go_wp2_with fail
   refine wp_region_noPanic ?_
   refine Ord.wpM_begin (fun W' : World => W'.cell? ⟨b1,0,none⟩ = some (.pointer (some ⟨t.M,0,none⟩)) ∧ W'.cell? ⟨t.M,0,none⟩ = some (.pointer (some ⟨t.R,0,none⟩)) ∧ W'.cell? ⟨b2,0,none⟩ = some (.int .i64 (-1))) [0,1,2,3,4,5,6,7] (by kernel_rfl) ?_
   have HB5 : Hid (Below w4.heap.size w4 w4.drew) := Below.drew (Below.refl _ _)
   have HM5 := keep (HM4.out.below hA HB5.out)
   have HF5 := keep (HF4.out.trans (Fs.of_below HB5.out))
   generalize w4.drew = w5 at *
   have hS := HSS.out w5 HF5.out
   refine Ord.tk (i:=0) (v:=.pointer (some ⟨t.M,0,none⟩)) (hy:=Or.inl ⟨by rfl,by rintro W' ⟨q0,q1,q2⟩; go_simp⟩) (hS:=hS) (h:=?_)
   try simp only [Act.put,Ord.t,Ord.z,Ord.s]
   refine Ord.tk (i:=1) (v:=.pointer (some ⟨t.M,0,none⟩)) (hy:=Or.inl ⟨by rfl,by rintro W' ⟨q0,q1,q2⟩; go_simp⟩) (hS:=hS) (h:=?_)
   try simp only [Act.put,Ord.t,Ord.z,Ord.s]
   refine Ord.tk (i:=2) (v:=.pointer (some ⟨t.M,0,none⟩)) (hy:=Or.inl ⟨by rfl,by rintro W' ⟨q0,q1,q2⟩; go_simp⟩) (hS:=hS) (h:=?_)
   try simp only [Act.put,Ord.t,Ord.z,Ord.s]
   refine Ord.tk (i:=3) (v:=.pointer (some ⟨t.R,0,none⟩)) (hy:=Or.inl ⟨by rfl,by rintro W' ⟨q0,q1,q2⟩; go_simp⟩) (hS:=hS) (h:=?_)
   try simp only [Act.put,Ord.t,Ord.z,Ord.s]
   refine Ord.tk (i:=4) (v:=.int .i64 (-1)) (hy:=Or.inl ⟨by rfl,by rintro W' ⟨q0,q1,q2⟩; go_simp⟩) (hS:=hS) (h:=?_)
   try simp only [Act.put,Ord.t,Ord.z,Ord.s]
   refine Ord.tk (i:=5) (v:=.int .i64 n1) (hy:=Or.inl ⟨by rfl,by rintro W' ⟨q0,q1,q2⟩; go_simp⟩) (hS:=hS) (h:=?_)
   try simp only [Act.put,Ord.t,Ord.z,Ord.s]
   refine Ord.on (i:=6) (h:=fun K hK => ?_)
   go_simp
   refine (spot_none t sc w5 env arr s4 HA.out HM5.out n1).mono ?_
   intro r w6 hx
   obtain ⟨rfl,hf6,hm6⟩ := hx
   ·have HRes := keep (at_no (n1:=n1) HEv.out (by have := HW1.out; simp; omega))
    have HFe := keep (HF5.out.trans hf6)
    have HMe := keep hm6
    go_simp
    refine hK.out _ _ (fun _ => HSS.out _ HFe.out) ?_
    clear hK K hf6 hm6
    try simp only [Act.put,Ord.t,Ord.z,Ord.s]
    refine Ord.on (i:=7) (h:=fun K hK => ?_)
    go_simp
    refine hK.out _ _ (fun _ => HSS.out _ HFe.out) ?_
    clear hK K
    try simp only [Act.put,Ord.t,Ord.z,Ord.s]
    refine Ord.wpM_done (by kernel_rfl) ?_ _
    refine NoPanic.normal ?_
    clear hS HSS HM4 HM5 HF4 HF5 HEv HW1 HBl
    go_wp2
    go_ret
    exact ⟨0,rfl,.inr ⟨HOv.out,.inr ⟨HRes.out,HFe.out,HMe.out⟩⟩⟩
 ·have HR : Hid (evE rs env arr (m + 1) ⟨5,0,x,[ep]⟩ = none) := by
   show evE _ _ _ _ _ = _
   rw [HEN.out,h1]
  have HOv := keep ho
  clear ho h1 HN4 hf HEN HWd
  dsimp only [trapped] at z4
  go_wp2
  go_ret
  exact ⟨0,rfl,.inr ⟨HOv.out,.inr ⟨HR.out,HF4.out,HM4.out⟩⟩⟩
def AtIx (rs : List Vr) (x : List UInt8) (ix : Int) : Prop := (∃ i : Nat,ix = (i : Int) ∧ atV rs x = some i) ∨ (ix = -1 ∧ atV rs x = none)
theorem at_both (t : Rt) (sc : List (List UInt8 × Nat)) (rs : List Vr) (hrs : rs.length ≤ 1000) (hsz : ∀ v ∈ rs,v.size ≤ 8) (m : Nat) (x : List UInt8) (ix : Int) (hIx : AtIx rs x ix) (ep : Ex) (hwf : wfE m ep) (b0 b1 b2 lo hi : Nat) (vp : Value) (w1 : World) (hA : Apart t sc) (hR : t.R < lo) (hb0 : lo ≤ b0) (hb1 : lo ≤ b1) (hb2 : lo ≤ b2) (ht0 : b0 < hi) (ht1 : b1 < hi) (ht2 : b2 < hi)
  (hc0 : w1.cell? ⟨b0,0,none⟩ = some vp) (hc1 : w1.cell? ⟨b1,0,none⟩ = some (.pointer (some ⟨t.M,0,none⟩))) (hc2 : w1.cell? ⟨b2,0,none⟩ = some (.int .i64 ix)) (G1 : GoodE t sc rs m w1 lo hi vp ep)
  (W : World) (hKp : Keeps lo hi w1 W) (hWh : hi ≤ W.heap.size) (env : Env) (arr : List (List Int)) (s : Sv) (hM : RM t sc W env arr s) (hE : GE env) (hG : GA rs arr) :
  Calls Tryz.prog 114 #[.pointer (some ⟨b0,0,none⟩),.pointer (some ⟨b1,0,none⟩),.pointer (some ⟨b2,0,none⟩)] W fun r W' => ExP t sc W env arr s (evE rs env arr (m + 1) ⟨5,0,x,[ep]⟩) r W' := by
 rcases hIx with ⟨i,rfl,hi⟩ | ⟨rfl,hi⟩
 ·exact at_val t sc rs hrs hsz m x i hi ep hwf b0 b1 b2 lo _ vp w1 hA hR hb0 hb1 hb2 ht0 ht1 ht2 hc0 hc1 hc2 G1 W hKp hWh env arr s hM hE hG
 ·exact at_none t sc rs hrs hsz m x hi ep hwf b0 b1 b2 lo _ vp w1 hA hR hb0 hb1 hb2 ht0 ht1 ht2 hc0 hc1 hc2 G1 W hKp hWh env arr s hM hE hG
theorem idx_at {x : List UInt8} {rs : List Vr} {i : Int} {k : Nat} (h : Idx (fun v : Vr => v.name == x) rs i) (hk : atV rs x = some k) : i = (k : Int) := by
 unfold atV at hk
 have h2 := List.findIdx?_eq_some_iff_getElem.1 hk
 obtain ⟨hl,hp,hn⟩ := h2
 rcases h with ⟨_,hno⟩ | ⟨j,a,rfl,hj,hf,hjl,hj2⟩
 ·rw [List.find?_eq_none] at hno
  exact absurd hp (hno _ (List.getElem_mem hl))
 ·obtain ⟨hjl',rfl⟩ := List.getElem?_eq_some_iff.1 hj
  have hp2 := List.find?_some hf
  rcases Nat.lt_trichotomy j k with h | h | h
  ·exact absurd hp2 (hn j h)
  ·rw [h]
  ·have := hj2 k _ h (List.getElem?_eq_getElem hl)
   dsimp only at this
   rw [hp] at this; cases this
theorem idx_ex (rs : List Vr) (x : List UInt8) : ∃ ix,AtIx rs x ix ∧ ∀ i,Idx (fun v : Vr => v.name == x) rs i → i = ix := by
 cases hk : atV rs x with
 | none =>
  refine ⟨-1,.inr ⟨rfl,hk⟩,fun i h => ?_⟩
  rcases h with ⟨h,_⟩ | ⟨k,a,_,hj,hf,_,_⟩
  ·exact h
  ·unfold atV at hk
   rw [List.findIdx?_eq_none_iff] at hk
   have := hk a (List.mem_of_getElem? hj)
   have h2 := List.find?_some hf
   try dsimp only at h2
   rw [this] at h2; cases h2
 | some k =>
  refine ⟨(k : Int),.inl ⟨k,rfl,hk⟩,fun i h => ?_⟩
  exact idx_at h hk
end Go.Proofs.YtemdnmfldihalaaGreatDoor.Lr
namespace Go.Proofs.YtemdnmfldihalaaGreatDoor.Lr
set_option linter.unusedVariables false
open Go.RowKit
def fstC : Code → Code
 | .seq a _ => a
 | _ => .skip
def sndC : Code → Code
 | .seq _ b => b
 | _ => .skip
def inC : Code → Code
 | .block _ c => c
 | _ => .skip
def rndC : Code → Code
 | .loop c => c
 | _ => .skip
def yesC : Code → Code
 | .cond _ a _ => a
 | _ => .skip
def noC : Code → Code
 | .cond _ _ b => b
 | _ => .skip
def opsC : Code → Array Oper
 | .region _ l _ => l
 | _ => #[]
def slot (a : Act) (i : Nat) : Value := a.tmps.toList.getD i undef
end Go.Proofs.YtemdnmfldihalaaGreatDoor.Lr
namespace Go.Proofs.YtemdnmfldihalaaGreatDoor.Lr
set_option linter.unusedVariables false
set_option linter.unusedSimpArgs false
open Go.ChangeShapes Go.WideShapes Go.ChangeAt Go.RowKit Lg
def Stays (P : World → Nat → Nat → Value → Prop) : Prop := ∀ w w' lo hi u,P w lo hi u → Keeps lo hi w w' → P w' lo hi u
def Made (P : World → Nat → Nat → Value → Prop) (lo : Nat) (w : World) (bs : List Nat) (u : Value) : Prop := ∃ l h,lo ≤ l ∧ l ≤ h ∧ h ≤ w.heap.size ∧ P w l h u ∧ ∀ b ∈ bs,b < l ∨ h ≤ b
def Boxed (lo : Nat) (w : World) (ty : TypeId) (b : Nat) (u x : Value) : Prop := u = .pointer (some ⟨b,0,none⟩) ∧ lo ≤ b ∧ Bk w b [x] ty
theorem Made.below {P : World → Nat → Nat → Value → Prop} (hP : Stays P) {lo : Nat} {w w' : World} {bs : List Nat} {u : Value} (h : Made P lo w bs u) (hb : Below w.heap.size w w') : Made P lo w' bs u := by
 obtain ⟨l,k,h1,h2,h3,h4,h5⟩ := h
 exact ⟨l,k,h1,h2,Nat.le_trans h3 hb.size,hP _ _ _ _ _ h4 (fun i _ hi => hb.block i (by omega)),h5⟩
theorem Made.more {P : World → Nat → Nat → Value → Prop} {lo : Nat} {w : World} {bs : List Nat} {u : Value} {b : Nat} (h : Made P lo w bs u) (hb : w.heap.size ≤ b) : Made P lo w (b :: bs) u := by
 obtain ⟨l,k,h1,h2,h3,h4,h5⟩ := h
 refine ⟨l,k,h1,h2,h3,h4,fun c hc => ?_⟩
 rcases List.mem_cons.1 hc with rfl | hc
 ·exact .inr (by omega)
 ·exact h5 c hc
theorem Made.set {P : World → Nat → Nat → Value → Prop} (hP : Stays P) {lo : Nat} {w : World} {bs : List Nat} {u : Value} (h : Made P lo w bs u) {b : Nat} (hb : b ∈ bs) (v : Value) : Made P lo (w.setCell ⟨b,0,none⟩ v) bs u := by
 obtain ⟨l,k,h1,h2,h3,h4,h5⟩ := h
 refine ⟨l,k,h1,h2,by simp [World.setCell]; exact h3,hP _ _ _ _ _ h4 (fun i hi1 hi2 => Below.heap_setCell _ _ _ _ (by show i ≠ b; have := h5 b hb; omega)),h5⟩
theorem Boxed.below {lo : Nat} {w w' : World} {ty : TypeId} {b : Nat} {u x : Value} (h : Boxed lo w ty b u x) (hb : Below w.heap.size w w') : Boxed lo w' ty b u x := ⟨h.1,h.2.1,h.2.2.fs (Fs.of_below (l:=[]) hb) (by simp)⟩
theorem Boxed.far {lo : Nat} {w : World} {ty : TypeId} {b c : Nat} {u x : Value} (h : Boxed lo w ty b u x) (hb : b ≠ c) (v : Value) : Boxed lo (w.setCell ⟨c,0,none⟩ v) ty b u x := ⟨h.1,h.2.1,h.2.2.far 0 v hb⟩
end Go.Proofs.YtemdnmfldihalaaGreatDoor.Lr
