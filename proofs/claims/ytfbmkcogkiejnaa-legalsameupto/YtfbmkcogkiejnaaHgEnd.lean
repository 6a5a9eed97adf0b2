/- How each way ends: with one that two words make, of what lies behind. Written by tools/gen_hgend.py. No function named. -/
import Derived.Test.YtfbmkcogkiejnaaHgLay2
namespace Go.Proofs.Ytfbmkcogkiejnaa.Hg
set_option linter.unusedVariables false
set_option linter.unusedSimpArgs false
open Lg Fl
def EndL (T : Nat → Int) (m : Mk) (r : Int × Mk) (V : List Int → Int) : Prop := ∃ op a b m0 R0,r = twoM T op a b m0 ∧ (1 ≤ op ∧ op ≤ 7) ∧ Inn m0.sec a ∧ Inn m0.sec b ∧ Lay T m m0 R0 ∧ ∀ P Q,Wds P → Wds Q → Ag m.sec.length P Q → R0 P Q → Wd.two op (gI Q a) (gI Q b) = V P
theorem EndL.after {T : Nat → Int} {m M : Mk} {r : Int × Mk} {R : List Int → List Int → Prop} {V V' : List Int → Int} (h : Lay T m M R) (h' : EndL T M r V') (hv : ∀ P P',Wds P → Wds P' → Ag m.sec.length P P' → R P P' → V' P' = V P) : EndL T m r V := by
 obtain ⟨op,a,b,m0,R0,e,ho,ha,hb,l,hq⟩ := h'
 refine ⟨op,a,b,m0,_,e,ho,ha,hb,h.then l,fun P Q hP hQ _ hs => ?_⟩
 obtain ⟨P',hw,a1,a2,h1,h2⟩ := hs
 rw [hq P' Q hw hQ a2 h2]
 exact hv P P' hP hw a1 h1
section
variable (T : Nat → Int) {m : Mk}
theorem down_endl {a far : Int} (h : Gd m) (ha : Inn m.sec a) (hf : isW far) : EndL T m (downM T a far m) (fun P => Wd.two 7 (gI P a) far) := by
 unfold downM
 dsimp only
 have l1 := num_lay T h hf
 have i1 := num_inn T far h
 generalize numM T far m = r1 at *
 exact ⟨7,a,r1.1,r1.2,_,rfl,by decide,l1.inn ha,i1,l1,fun P Q _ _ ag h => by rw [h,ag.at ha]⟩
theorem top_endl {a : Int} (h : Gd m) (ha : Inn m.sec a) : EndL T m (topM T a m) (fun P => vTop (gI P a)) := down_endl T h ha (isW_small 31 (by decide) (by decide))
theorem choose_endl {k b c : Int} (h : Gd m) (hk : Inn m.sec k) (hb : Inn m.sec b) (hc : Inn m.sec c) : EndL T m (chooseM T k b c m) (fun P => vCh (gI P k) (gI P b) (gI P c)) := by
 unfold chooseM
 dsimp only
 have l1 := two_lay T (op:=5) h (by omega) hb hc
 have i1 := two_inn T 5 b c h
 generalize twoM T 5 b c m = r1 at *
 have l2 := two_lay T (op:=3) l1.gd (by omega) i1 (l1.inn hk)
 have i2 := two_inn T 3 r1.1 k l1.gd
 generalize twoM T 3 r1.1 k r1.2 = r2 at *
 have l12 := (l1.then l2).weak (R' := fun P Q => gI Q r2.1 = Wd.two 3 (Wd.two 5 (gI P b) (gI P c)) (gI P k)) fun P Q _ _ _ ⟨P',_,a1,a2,h1,h2⟩ => by rw [h2,h1,a1.at hk]
 exact ⟨5,c,r2.1,r2.2,_,rfl,by decide,l12.inn hc,i2,l12,fun P Q _ _ ag h => by rw [h,ag.at hc]; rfl⟩
theorem below_endl {a b : Int} (h : Gd m) (ha : Inn m.sec a) (hb : Inn m.sec b) : EndL T m (belowM T a b m) (fun P => vBelow (gI P a) (gI P b)) := by
 unfold belowM
 dsimp only
 have l1 := two_lay T (op:=2) h (by omega) ha hb
 have i1 := two_inn T 2 a b h
 generalize twoM T 2 a b m = r1 at *
 have l2 := two_lay T (op:=5) l1.gd (by omega) (l1.inn ha) (l1.inn hb)
 have i2 := two_inn T 5 a b l1.gd
 generalize twoM T 5 a b r1.2 = r2 at *
 have l12 := (l1.then l2).weak (R' := fun P Q => gI Q r1.1 = Wd.two 2 (gI P a) (gI P b) ∧ gI Q r2.1 = Wd.two 5 (gI P a) (gI P b)) fun P Q _ _ _ ⟨P',_,a1,a2,h1,h2⟩ => ⟨by rw [a2.at i1,h1],by rw [h2,a1.at ha,a1.at hb]⟩
 have j1 := l2.inn i1
 have l3 := two_lay T (op:=5) l12.gd (by omega) (l12.inn ha) j1
 have i3 := two_inn T 5 a r1.1 l12.gd
 generalize twoM T 5 a r1.1 r2.2 = r3 at *
 have l13 := (l12.then l3).weak (R' := fun P Q => gI Q r2.1 = Wd.two 5 (gI P a) (gI P b) ∧ gI Q r3.1 = Wd.two 5 (gI P a) (Wd.two 2 (gI P a) (gI P b))) fun P Q _ _ _ ⟨P',_,a1,a2,⟨h1,h1'⟩,h2⟩ => ⟨by rw [a2.at i2,h1'],by rw [h2,a1.at ha,h1]⟩
 have j2 := l3.inn i2
 have l4 := two_lay T (op:=4) l13.gd (by omega) j2 i3
 have i4 := two_inn T 4 r2.1 r3.1 l13.gd
 generalize twoM T 4 r2.1 r3.1 r3.2 = r4 at *
 have l14 := (l13.then l4).weak (R' := fun P Q => gI Q r4.1 = Wd.two 4 (Wd.two 5 (gI P a) (gI P b)) (Wd.two 5 (gI P a) (Wd.two 2 (gI P a) (gI P b)))) fun P Q _ _ _ ⟨P',_,a1,a2,⟨h1,h1'⟩,h2⟩ => by rw [h2,h1,h1']
 have l5 := two_lay T (op:=5) l14.gd (by omega) (l14.inn ha) i4
 have i5 := two_inn T 5 a r4.1 l14.gd
 generalize twoM T 5 a r4.1 r4.2 = r5 at *
 have l15 := (l14.then l5).weak (R' := fun P Q => gI Q r5.1 = Wd.two 5 (gI P a) (Wd.two 4 (Wd.two 5 (gI P a) (gI P b)) (Wd.two 5 (gI P a) (Wd.two 2 (gI P a) (gI P b))))) fun P Q _ _ _ ⟨P',_,a1,a2,h1,h2⟩ => by rw [h2,h1,a1.at ha]
 exact EndL.after l15 (top_endl T l15.gd i5) fun P P' _ _ ag h => by rw [h]; rfl
theorem move_endl {by' : Nat → Int → Mk → Int × Mk} {v : Nat → Int → Int} (hv : ByLay T by' v) {k : Nat} (hk : k ≤ 4) {a b : Int} (h : Gd m) (ha : Inn m.sec a) (hb : Inn m.sec b) :
  EndL T m (moveM T by' k a b m) (fun P => vMove v k (gI P a) (gI P b)) := by
 have hp : 2 ^ k ≤ 31 := by
  have : 2 ^ k ≤ 2 ^ 4 := Nat.pow_le_pow_right (by decide) hk
  omega
 unfold moveM
 dsimp only
 have l1 := num_lay T h (isW_small k (by omega) (by omega))
 have i1 := num_inn T k h
 generalize numM T k m = r1 at *
 have l2 := two_lay T (op:=7) l1.gd (by omega) (l1.inn hb) i1
 have i2 := two_inn T 7 b r1.1 l1.gd
 generalize twoM T 7 b r1.1 r1.2 = r2 at *
 have l12 := (l1.then l2).weak (R' := fun P Q => gI Q r2.1 = Wd.two 7 (gI P b) k) fun P Q _ _ _ ⟨P',_,a1,a2,h1,h2⟩ => by rw [h2,h1,a1.at hb]
 have l3 := num_lay T l12.gd (isW_small 1 (by decide) (by decide))
 have i3 := num_inn T 1 l12.gd
 generalize numM T 1 r2.2 = r3 at *
 have l13 := (l12.then l3).weak (R' := fun P Q => gI Q r2.1 = Wd.two 7 (gI P b) k ∧ gI Q r3.1 = 1) fun P Q _ _ _ ⟨P',_,a1,a2,h1,h2⟩ => ⟨by rw [a2.at i2,h1],h2⟩
 have j2 := l3.inn i2
 have l4 := two_lay T (op:=3) l13.gd (by omega) j2 i3
 have i4 := two_inn T 3 r2.1 r3.1 l13.gd
 generalize twoM T 3 r2.1 r3.1 r3.2 = r4 at *
 have l14 := (l13.then l4).weak (R' := fun P Q => gI Q r4.1 = Wd.two 3 (Wd.two 7 (gI P b) k) 1) fun P Q _ _ _ ⟨P',_,a1,a2,⟨h1,h1'⟩,h2⟩ => by rw [h2,h1,h1']
 have l5 := all_lay T l14.gd i4
 have i5 := stp_inn (all_stp T r4.1 l14.gd)
 generalize allM T r4.1 r4.2 = r5 at *
 have l15 := (l14.then l5).weak (R' := fun P Q => gI Q r5.1 = vAll (Wd.two 3 (Wd.two 7 (gI P b) k) 1)) fun P Q _ _ _ ⟨P',_,a1,a2,h1,h2⟩ => by rw [h2,h1]
 have ha5 := l15.inn ha
 obtain ⟨l6,i6⟩ := hv (2 ^ k) a r5.2 hp l15.gd ha5
 generalize by' (2 ^ k) a r5.2 = r6 at *
 have l16 := (l15.then l6).weak (R' := fun P Q => gI Q r5.1 = vAll (Wd.two 3 (Wd.two 7 (gI P b) k) 1) ∧ gI Q r6.1 = v (2 ^ k) (gI P a)) fun P Q _ _ _ ⟨P',_,a1,a2,h1,h2⟩ => ⟨by rw [a2.at i5,h1],by rw [h2,a1.at ha]⟩
 have j5 := l6.inn i5
 exact EndL.after l16 (choose_endl T l16.gd j5 i6 (l16.inn ha)) fun P P' _ _ ag ⟨h1,h2⟩ => by rw [h1,h2,ag.at ha]; rfl
theorem prod_endl {p : Pr} {R : List Int → Int × Int × Int} (h : PrL T m p R) : EndL T m ((prodM T p).sum,(prodM T p).m) (fun P => (vProd (R P)).1) := by
 obtain ⟨sum,a,b,q⟩ := p
 have l0 := h.l
 have hs := h.s
 have ha := h.a
 have hb := h.b
 dsimp only at l0 hs ha hb
 clear h
 unfold prodM
 dsimp only
 have l1 := num_lay T l0.gd (isW_small 1 (by decide) (by decide))
 have i1 := num_inn T 1 l0.gd
 generalize numM T 1 q = r1 at *
 have l2 := two_lay T (op:=3) l1.gd (by omega) (l1.inn hb) i1
 have i2 := two_inn T 3 b r1.1 l1.gd
 generalize twoM T 3 b r1.1 r1.2 = r2 at *
 have l12 := (l1.then l2).weak (R' := fun P Q => gI Q r2.1 = Wd.two 3 (gI P b) 1) fun P Q _ _ _ ⟨P',_,a1,a2,h1,h2⟩ => by rw [h2,h1,a1.at hb]
 have l3 := all_lay T l12.gd i2
 have i3 := stp_inn (all_stp T r2.1 l12.gd)
 generalize allM T r2.1 r2.2 = r3 at *
 have l13 := (l12.then l3).weak (R' := fun P Q => gI Q r3.1 = vAll (Wd.two 3 (gI P b) 1)) fun P Q _ _ _ ⟨P',_,a1,a2,h1,h2⟩ => by rw [h2,h1]
 have l4 := two_lay T (op:=3) l13.gd (by omega) (l13.inn ha) i3
 have i4 := two_inn T 3 a r3.1 l13.gd
 generalize twoM T 3 a r3.1 r3.2 = r4 at *
 have l14 := (l13.then l4).weak (R' := fun P Q => gI Q r4.1 = Wd.two 3 (gI P a) (vAll (Wd.two 3 (gI P b) 1))) fun P Q _ _ _ ⟨P',_,a1,a2,h1,h2⟩ => by rw [h2,h1,a1.at ha]
 have l5 := double_lay T l14.gd (l14.inn ha)
 have i5 := stp_inn (double_stp T a l14.gd)
 generalize doubleM T a r4.2 = r5 at *
 have l15 := (l14.then l5).weak (R' := fun P Q => gI Q r4.1 = Wd.two 3 (gI P a) (vAll (Wd.two 3 (gI P b) 1)) ∧ gI Q r5.1 = Wd.two 1 (gI P a) (gI P a)) fun P Q _ _ _ ⟨P',_,a1,a2,h1,h2⟩ => ⟨by rw [a2.at i4,h1],by rw [h2,a1.at ha]⟩
 have j4 := l5.inn i4
 have l6 := down_lay T (far:=1) l15.gd (l15.inn hb) (isW_small 1 (by decide) (by decide))
 have i6 := stp_inn (down_stp T b 1 l15.gd)
 generalize downM T b 1 r5.2 = r6 at *
 have l16 := (l15.then l6).weak (R' := fun P Q => gI Q r4.1 = Wd.two 3 (gI P a) (vAll (Wd.two 3 (gI P b) 1)) ∧ gI Q r5.1 = Wd.two 1 (gI P a) (gI P a) ∧ gI Q r6.1 = Wd.two 7 (gI P b) 1) fun P Q _ _ _ ⟨P',_,a1,a2,⟨h1,h1'⟩,h2⟩ => ⟨by rw [a2.at j4,h1],by rw [a2.at i5,h1'],by rw [h2,a1.at hb]⟩
 have k4 := l6.inn j4
 have k5 := l6.inn i5
 refine EndL.after l0 (V' := fun P => (vProd (gI P sum,gI P a,gI P b)).1) ⟨1,sum,r4.1,r6.2,_,rfl,by decide,l16.inn hs,k4,l16,fun P Q _ _ ag ⟨h1,_⟩ => by rw [h1,ag.at hs]; rfl⟩ fun P P' _ _ ag h => by rw [h]
theorem step_endl {by' : Int} {d : Dv} {R : List Int → Int × Int} (h : DvL T m d R) (hy : Inn m.sec by') :
  EndL T m ((stepM T by' d).2.left,(stepM T by' d).2.m) (fun P => (vStep (gI P by') (R P)).2.2) := by
 obtain ⟨rest,left,q⟩ := d
 have l0 := h.l
 have hr := h.r
 have hl := h.l'
 dsimp only at l0 hr hl
 clear h
 have hy0 := l0.inn hy
 unfold stepM
 dsimp only
 have l1 := double_lay T l0.gd hl
 have i1 := stp_inn (double_stp T left l0.gd)
 generalize doubleM T left q = r1 at *
 have l2 := top_lay T l1.gd (l1.inn hr)
 have i2 := stp_inn (top_stp T rest l1.gd)
 generalize topM T rest r1.2 = r2 at *
 have l12 := (l1.then l2).weak (R' := fun P Q => gI Q r1.1 = Wd.two 1 (gI P left) (gI P left) ∧ gI Q r2.1 = vTop (gI P rest)) fun P Q _ _ _ ⟨P',_,a1,a2,h1,h2⟩ => ⟨by rw [a2.at i1,h1],by rw [h2,a1.at hr]⟩
 have j1 := l2.inn i1
 have l3 := two_lay T (op:=4) l12.gd (by omega) j1 i2
 have i3 := two_inn T 4 r1.1 r2.1 l12.gd
 generalize twoM T 4 r1.1 r2.1 r2.2 = r3 at *
 have l13 := (l12.then l3).weak (R' := fun P Q => gI Q r3.1 = Wd.two 4 (Wd.two 1 (gI P left) (gI P left)) (vTop (gI P rest))) fun P Q _ _ _ ⟨P',_,a1,a2,⟨h1,h1'⟩,h2⟩ => by rw [h2,h1,h1']
 have l4 := double_lay T l13.gd (l13.inn hr)
 have i4 := stp_inn (double_stp T rest l13.gd)
 generalize doubleM T rest r3.2 = r4 at *
 have l14 := (l13.then l4).weak (R' := fun P Q => gI Q r3.1 = Wd.two 4 (Wd.two 1 (gI P left) (gI P left)) (vTop (gI P rest)) ∧ gI Q r4.1 = Wd.two 1 (gI P rest) (gI P rest)) fun P Q _ _ _ ⟨P',_,a1,a2,h1,h2⟩ => ⟨by rw [a2.at i3,h1],by rw [h2,a1.at hr]⟩
 have j3 := l4.inn i3
 have l5 := below_lay T l14.gd j3 (l14.inn hy0)
 have i5 := stp_inn (below_stp T r3.1 by' l14.gd)
 generalize belowM T r3.1 by' r4.2 = r5 at *
 have l15 := (l14.then l5).weak (R' := fun P Q => gI Q r3.1 = Wd.two 4 (Wd.two 1 (gI P left) (gI P left)) (vTop (gI P rest)) ∧ gI Q r4.1 = Wd.two 1 (gI P rest) (gI P rest) ∧ gI Q r5.1 = vBelow (Wd.two 4 (Wd.two 1 (gI P left) (gI P left)) (vTop (gI P rest))) (gI P by')) fun P Q _ _ _ ⟨P',_,a1,a2,⟨h1,h1'⟩,h2⟩ => ⟨by rw [a2.at j3,h1],by rw [a2.at i4,h1'],by rw [h2,h1,a1.at hy0]⟩
 have k3 := l5.inn j3
 have k4 := l5.inn i4
 have l6 := num_lay T l15.gd (isW_small 1 (by decide) (by decide))
 have i6 := num_inn T 1 l15.gd
 generalize numM T 1 r5.2 = r6 at *
 have l16 := (l15.then l6).weak (R' := fun P Q => gI Q r3.1 = Wd.two 4 (Wd.two 1 (gI P left) (gI P left)) (vTop (gI P rest)) ∧ gI Q r4.1 = Wd.two 1 (gI P rest) (gI P rest) ∧ gI Q r5.1 = vBelow (Wd.two 4 (Wd.two 1 (gI P left) (gI P left)) (vTop (gI P rest))) (gI P by') ∧ gI Q r6.1 = 1) fun P Q _ _ _ ⟨P',_,a1,a2,⟨h1,h1',h1''⟩,h2⟩ => ⟨by rw [a2.at k3,h1],by rw [a2.at k4,h1'],by rw [a2.at i5,h1''],h2⟩
 have m3 := l6.inn k3
 have m4 := l6.inn k4
 have m5 := l6.inn i5
 have l7 := two_lay T (op:=2) l16.gd (by omega) m5 i6
 have i7 := two_inn T 2 r5.1 r6.1 l16.gd
 generalize twoM T 2 r5.1 r6.1 r6.2 = r7 at *
 have l17 := (l16.then l7).weak (R' := fun P Q => gI Q r3.1 = Wd.two 4 (Wd.two 1 (gI P left) (gI P left)) (vTop (gI P rest)) ∧ gI Q r4.1 = Wd.two 1 (gI P rest) (gI P rest) ∧ gI Q r7.1 = Wd.two 2 (vBelow (Wd.two 4 (Wd.two 1 (gI P left) (gI P left)) (vTop (gI P rest))) (gI P by')) 1) fun P Q _ _ _ ⟨P',_,a1,a2,⟨h1,h1',h1'',h1'''⟩,h2⟩ => ⟨by rw [a2.at m3,h1],by rw [a2.at m4,h1'],by rw [h2,h1'',h1''']⟩
 have n3 := l7.inn m3
 have n4 := l7.inn m4
 have l8 := two_lay T (op:=3) l17.gd (by omega) (l17.inn hy0) i7
 have i8 := two_inn T 3 by' r7.1 l17.gd
 generalize twoM T 3 by' r7.1 r7.2 = r8 at *
 have l18 := (l17.then l8).weak (R' := fun P Q => gI Q r3.1 = Wd.two 4 (Wd.two 1 (gI P left) (gI P left)) (vTop (gI P rest)) ∧ gI Q r4.1 = Wd.two 1 (gI P rest) (gI P rest) ∧ gI Q r7.1 = Wd.two 2 (vBelow (Wd.two 4 (Wd.two 1 (gI P left) (gI P left)) (vTop (gI P rest))) (gI P by')) 1 ∧ gI Q r8.1 = Wd.two 3 (gI P by') (Wd.two 2 (vBelow (Wd.two 4 (Wd.two 1 (gI P left) (gI P left)) (vTop (gI P rest))) (gI P by')) 1)) fun P Q _ _ _ ⟨P',_,a1,a2,⟨h1,h1',h1''⟩,h2⟩ => ⟨by rw [a2.at n3,h1],by rw [a2.at n4,h1'],by rw [a2.at i7,h1''],by rw [h2,h1'',a1.at hy0]⟩
 have o3 := l8.inn n3
 have o4 := l8.inn n4
 have o7 := l8.inn i7
 refine EndL.after l0 (V' := fun P => (vStep (gI P by') (gI P rest,gI P left)).2.2) ⟨2,r3.1,r8.1,r8.2,_,rfl,by decide,o3,i8,l18,fun P Q _ _ ag ⟨h1,_,_,h4⟩ => by rw [h1,h4]; rfl⟩ fun P P' _ _ ag h => by rw [h,ag.at hy]
theorem quo_endl {by' : Int} {p : Int × Dv} {R : List Int → Int × Int × Int} (h : QuL T m p R) (hy : Inn m.sec by') : EndL T m ((quoM T by' p).1,(quoM T by' p).2.m) (fun P => (vQuo (gI P by') (R P)).1) := by
 obtain ⟨often,d⟩ := p
 have l0 := h.l
 have ho := h.o
 have hr := h.r
 have hl := h.l'
 dsimp only at l0 ho hr hl
 clear h
 have hy0 := l0.inn hy
 have hd : DvL T d.m d (fun P => (gI P d.rest,gI P d.left)) := ⟨(Lay.refl T l0.gd).weak fun P Q _ _ _ e => by rw [e],hr,hl⟩
 obtain ⟨l1,i1,i2,i3⟩ := step_lay T hd hy0
 unfold quoM
 dsimp only
 generalize stepM T by' d = r1 at *
 have l2 := double_lay T l1.gd (l1.inn ho)
 have j2 := stp_inn (double_stp T often l1.gd)
 generalize doubleM T often r1.2.m = r2 at *
 have l12 := (l1.then l2).weak (R' := fun P Q => gI Q r2.1 = Wd.two 1 (gI P often) (gI P often) ∧ (gI Q r1.1,gI Q r1.2.rest,gI Q r1.2.left) = vStep (gI P by') (gI P d.rest,gI P d.left)) fun P Q _ _ _ ⟨P',_,a1,a2,h1,h2⟩ => ⟨by rw [h2,a1.at ho],by rw [a2.at i1,a2.at i2,a2.at i3,h1]⟩
 have k1 := l2.inn i1
 have k2 := l2.inn i2
 have k3 := l2.inn i3
 refine EndL.after l0 (V' := fun P => (vQuo (gI P by') (gI P often,gI P d.rest,gI P d.left)).1) ⟨2,r2.1,r1.1,r2.2,_,rfl,by decide,j2,k1,l12,fun P Q _ _ ag ⟨h1,h2⟩ => by
  have e1 : gI Q r1.1 = (vStep (gI P by') (gI P d.rest,gI P d.left)).1 := congrArg Prod.fst h2
  rw [h1,e1]; rfl⟩ fun P P' _ _ ag h => by rw [h,ag.at hy]
def vOther (i : Ix) (P : List Int) : Int :=
 if i.op = 6 then vMoved vUp (gI P i.b) 5 (gI P i.a) else if i.op = 7 then vMoved vDown (gI P i.b) 5 (gI P i.a) else if i.op = 8 then (vProds 32 (0,gI P i.a,gI P i.b)).1
 else if i.op = 9 then (vQuos (gI P i.b) 32 (0,gI P i.a,0)).1 else if i.op = 10 then (vRems (gI P i.b) 32 (gI P i.a,0)).2 else if i.op = 11 then vBelow (gI P i.a) (gI P i.b)
 else if i.op = 12 then Wd.two 5 (vSome (Wd.two 5 (gI P i.a) (gI P i.b))) 1 else vCh (vAll (vSome (gI P i.a))) (gI P i.b) (gI P i.c)
theorem other_endl (i : Ix) (hg : Gd (fresh m)) (hw : ways i.op = true) (hr : ∀ p ∈ rds i,Inn m.sec p) : ∃ r,otherM T i m = r.2 ∧ EndL T (fresh m) r (vOther i) := by
 have hop : 6 ≤ i.op ∧ i.op ≤ 13 := by unfold ways at hw; rw [Bool.and_eq_true,decide_eq_true_eq,decide_eq_true_eq] at hw; exact hw
 have ha : Inn (fresh m).sec i.a := hr i.a (by
  unfold rds
  by_cases h : i.op = 13
  ·rw [if_neg (by omega),if_pos h]; simp
  ·rw [if_pos (by omega)]; simp)
 have hb : Inn (fresh m).sec i.b := hr i.b (by
  unfold rds
  by_cases h : i.op = 13
  ·rw [if_neg (by omega),if_pos h]; simp
  ·rw [if_pos (by omega)]; simp)
 unfold otherM vOther
 by_cases h6 : i.op = 6
 ·simp only [if_pos h6]
  obtain ⟨l,j⟩ := moved_lay T (up_by T) hg ha hb 4 (by omega)
  exact ⟨_,rfl,EndL.after l (move_endl T (up_by T) (k:=4) (by omega) l.gd j (l.inn hb)) fun P P' _ _ ag h => by rw [h,ag.at hb]; rfl⟩
 simp only [if_neg h6]
 by_cases h7 : i.op = 7
 ·simp only [if_pos h7]
  obtain ⟨l,j⟩ := moved_lay T (down_by T) hg ha hb 4 (by omega)
  exact ⟨_,rfl,EndL.after l (move_endl T (down_by T) (k:=4) (by omega) l.gd j (l.inn hb)) fun P P' _ _ ag h => by rw [h,ag.at hb]; rfl⟩
 simp only [if_neg h7]
 by_cases h8 : i.op = 8
 ·simp only [if_pos h8]
  have l1 := num_lay T hg isW_zero
  have i1 := num_inn T 0 hg
  unfold mulM
  dsimp only
  generalize numM T 0 (fresh m) = r1 at *
  have h0 : PrL T (fresh m) ⟨r1.1,i.a,i.b,r1.2⟩ (fun P => (0,gI P i.a,gI P i.b)) := ⟨l1.weak fun P Q _ _ ag h => by rw [h,ag.at ha,ag.at hb],i1,l1.inn ha,l1.inn hb⟩
  exact ⟨_,rfl,prod_endl T (prods_lay T h0 31)⟩
 simp only [if_neg h8]
 by_cases h9 : i.op = 9
 ·simp only [if_pos h9]
  have l1 := num_lay T hg isW_zero
  have i1 := num_inn T 0 hg
  unfold divM
  dsimp only
  generalize numM T 0 (fresh m) = r1 at *
  have l2 := num_lay T l1.gd isW_zero
  have i2 := num_inn T 0 l1.gd
  generalize numM T 0 r1.2 = r2 at *
  have l12 := l1.then l2
  have h0 : QuL T (fresh m) (r2.1,(⟨i.a,r1.1,r2.2⟩ : Dv)) (fun P => (0,gI P i.a,0)) := ⟨l12.weak fun P Q _ _ ag ⟨P',_,a1,a2,h1,h2⟩ => by rw [h2,ag.at ha,a2.at i1,h1],i2,l12.inn ha,l2.inn i1⟩
  exact ⟨_,rfl,quo_endl T (quos_lay T h0 hb 31) hb⟩
 simp only [if_neg h9]
 by_cases h10 : i.op = 10
 ·simp only [if_pos h10]
  have l1 := num_lay T hg isW_zero
  have i1 := num_inn T 0 hg
  unfold remM
  dsimp only
  generalize numM T 0 (fresh m) = r1 at *
  have h0 : DvL T (fresh m) ⟨i.a,r1.1,r1.2⟩ (fun P => (gI P i.a,0)) := ⟨l1.weak fun P Q _ _ ag h => by rw [h,ag.at ha],l1.inn ha,i1⟩
  exact ⟨_,rfl,step_endl T (rems_lay T h0 hb 31) hb⟩
 simp only [if_neg h10]
 by_cases h11 : i.op = 11
 ·simp only [if_pos h11]
  exact ⟨_,rfl,below_endl T hg ha hb⟩
 simp only [if_neg h11]
 by_cases h12 : i.op = 12
 ·simp only [if_pos h12]
  unfold sameM
  dsimp only
  have l1 := two_lay T (op:=5) hg (by omega) ha hb
  have i1 := two_inn T 5 i.a i.b hg
  generalize twoM T 5 i.a i.b (fresh m) = r1 at *
  have l2 := some_lay T l1.gd i1
  have i2 := stp_inn (some_stp T r1.1 l1.gd)
  generalize someM T r1.1 r1.2 = r2 at *
  have l12 := (l1.then l2).weak (R' := fun P Q => gI Q r2.1 = vSome (Wd.two 5 (gI P i.a) (gI P i.b))) fun P Q _ _ _ ⟨P',_,a1,a2,h1,h2⟩ => by rw [h2,h1]
  have l3 := num_lay T l12.gd (isW_small 1 (by decide) (by decide))
  have i3 := num_inn T 1 l12.gd
  generalize numM T 1 r2.2 = r3 at *
  have l13 := (l12.then l3).weak (R' := fun P Q => gI Q r2.1 = vSome (Wd.two 5 (gI P i.a) (gI P i.b)) ∧ gI Q r3.1 = 1) fun P Q _ _ _ ⟨P',_,a1,a2,h1,h2⟩ => ⟨by rw [a2.at i2,h1],h2⟩
  exact ⟨_,rfl,5,r2.1,r3.1,r3.2,_,rfl,by decide,l3.inn i2,i3,l13,fun P Q _ _ ag ⟨h1,h2⟩ => by rw [h1,h2]⟩
 have h13 : i.op = 13 := by omega
 have hc : Inn (fresh m).sec i.c := hr i.c (by unfold rds; rw [if_neg (by omega),if_pos h13]; simp)
 simp only [if_neg h12,if_pos h13]
 unfold selM
 dsimp only
 have l1 := some_lay T hg ha
 have i1 := stp_inn (some_stp T i.a hg)
 generalize someM T i.a (fresh m) = r1 at *
 have l2 := all_lay T l1.gd i1
 have i2 := stp_inn (all_stp T r1.1 l1.gd)
 generalize allM T r1.1 r1.2 = r2 at *
 have l12 := (l1.then l2).weak (R' := fun P Q => gI Q r2.1 = vAll (vSome (gI P i.a))) fun P Q _ _ _ ⟨P',_,a1,a2,h1,h2⟩ => by rw [h2,h1]
 exact ⟨_,rfl,EndL.after l12 (choose_endl T l12.gd i2 (l12.inn hb) (l12.inn hc)) fun P P' _ _ ag h => by rw [h,ag.at hb,ag.at hc]⟩
end
end Go.Proofs.Ytfbmkcogkiejnaa.Hg
