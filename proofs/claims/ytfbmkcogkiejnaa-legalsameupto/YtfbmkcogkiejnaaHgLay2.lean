/- What each way makes, as it is reckoned. No function named. -/
import Derived.Test.YtfbmkcogkiejnaaGr46
namespace Go.Proofs.Ytfbmkcogkiejnaa.Hg
set_option linter.unusedVariables false
set_option linter.unusedSimpArgs false
open Lg Fl
def vTop (a : Int) : Int := Wd.two 7 a 31
def vAll (b : Int) : Int := Wd.two 2 0 b
def vCh (k b c : Int) : Int := Wd.two 5 c (Wd.two 3 (Wd.two 5 b c) k)
def vSome (a : Int) : Int := vTop (Wd.two 4 a (Wd.two 2 0 a))
def vBelow (a b : Int) : Int := vTop (Wd.two 5 a (Wd.two 4 (Wd.two 5 a b) (Wd.two 5 a (Wd.two 2 a b))))
def vUp : Nat → Int → Int
 | 0,a => a
 | n + 1,a => Wd.two 1 (vUp n a) (vUp n a)
def vDown (n : Nat) (a : Int) : Int := Wd.two 7 a n
def vMove (by' : Nat → Int → Int) (k : Nat) (a b : Int) : Int := vCh (vAll (Wd.two 3 (Wd.two 7 b k) 1)) (by' (2 ^ k) a) a
def vMoved (by' : Nat → Int → Int) (b : Int) : Nat → Int → Int
 | 0,a => a
 | n + 1,a => vMove by' n (vMoved by' b n a) b
def vProd (s : Int × Int × Int) : Int × Int × Int := (Wd.two 1 s.1 (Wd.two 3 s.2.1 (vAll (Wd.two 3 s.2.2 1))),Wd.two 1 s.2.1 s.2.1,Wd.two 7 s.2.2 1)
def vProds : Nat → Int × Int × Int → Int × Int × Int
 | 0,s => s
 | n + 1,s => vProd (vProds n s)
def vStep (by' : Int) (d : Int × Int) : Int × Int × Int :=
 let n := Wd.two 4 (Wd.two 1 d.2 d.2) (vTop d.1)
 let i := Wd.two 2 (vBelow n by') 1
 (i,Wd.two 1 d.1 d.1,Wd.two 2 n (Wd.two 3 by' i))
def vRems (by' : Int) : Nat → Int × Int → Int × Int
 | 0,d => d
 | n + 1,d => (vStep by' (vRems by' n d)).2
def vQuo (by' : Int) (p : Int × Int × Int) : Int × Int × Int :=
 let s := vStep by' p.2
 (Wd.two 2 (Wd.two 1 p.1 p.1) s.1,s.2)
def vQuos (by' : Int) : Nat → Int × Int × Int → Int × Int × Int
 | 0,p => p
 | n + 1,p => vQuo by' (vQuos by' n p)
theorem isW_small (n : Int) (h0 : 0 ≤ n) (h1 : n ≤ 31) : isW n := ⟨h0,by omega⟩
theorem stp_inn {k : Nat} {m : Mk} {r : Int × Mk} (h : Stp k m r) : Inn r.2.sec r.1 := ⟨h.p0,h.p1⟩
section
variable (T : Nat → Int) {m : Mk}
theorem down_lay {a far : Int} (h : Gd m) (ha : Inn m.sec a) (hf : isW far) : Lay T m (downM T a far m).2 (fun P Q => gI Q (downM T a far m).1 = Wd.two 7 (gI P a) far) := by
 unfold downM
 dsimp only
 have l1 := num_lay T h hf
 have i1 := num_inn T far h
 generalize numM T far m = r1 at *
 have l2 := two_lay T (op:=7) l1.gd (by omega) (l1.inn ha) i1
 exact (l1.then l2).weak fun P Q _ _ _ ⟨P',_,a1,a2,h1,h2⟩ => by rw [h2,h1,a1.at ha]
theorem top_lay {a : Int} (h : Gd m) (ha : Inn m.sec a) : Lay T m (topM T a m).2 (fun P Q => gI Q (topM T a m).1 = vTop (gI P a)) := down_lay T h ha (isW_small 31 (by decide) (by decide))
theorem double_lay {a : Int} (h : Gd m) (ha : Inn m.sec a) : Lay T m (doubleM T a m).2 (fun P Q => gI Q (doubleM T a m).1 = Wd.two 1 (gI P a) (gI P a)) := two_lay T h (by decide) ha ha
theorem all_lay {a : Int} (h : Gd m) (ha : Inn m.sec a) : Lay T m (allM T a m).2 (fun P Q => gI Q (allM T a m).1 = vAll (gI P a)) := by
 unfold allM
 dsimp only
 have l1 := num_lay T h isW_zero
 have i1 := num_inn T 0 h
 generalize numM T 0 m = r1 at *
 have l2 := two_lay T (op:=2) l1.gd (by omega) i1 (l1.inn ha)
 exact (l1.then l2).weak fun P Q _ _ _ ⟨P',_,a1,a2,h1,h2⟩ => by rw [h2,h1,a1.at ha]; rfl
theorem choose_lay {k b c : Int} (h : Gd m) (hk : Inn m.sec k) (hb : Inn m.sec b) (hc : Inn m.sec c) : Lay T m (chooseM T k b c m).2 (fun P Q => gI Q (chooseM T k b c m).1 = vCh (gI P k) (gI P b) (gI P c)) := by
 unfold chooseM
 dsimp only
 have l1 := two_lay T (op:=5) h (by omega) hb hc
 have i1 := two_inn T 5 b c h
 generalize twoM T 5 b c m = r1 at *
 have l2 := two_lay T (op:=3) l1.gd (by omega) i1 (l1.inn hk)
 have i2 := two_inn T 3 r1.1 k l1.gd
 generalize twoM T 3 r1.1 k r1.2 = r2 at *
 have l12 := (l1.then l2).weak (R' := fun P Q => gI Q r2.1 = Wd.two 3 (Wd.two 5 (gI P b) (gI P c)) (gI P k)) fun P Q _ _ _ ⟨P',_,a1,a2,h1,h2⟩ => by rw [h2,h1,a1.at hk]
 have l3 := two_lay T (op:=5) l12.gd (by omega) (l12.inn hc) i2
 exact (l12.then l3).weak fun P Q _ _ _ ⟨P',_,a1,a2,h1,h2⟩ => by rw [h2,h1,a1.at hc]; rfl
theorem some_lay {a : Int} (h : Gd m) (ha : Inn m.sec a) : Lay T m (someM T a m).2 (fun P Q => gI Q (someM T a m).1 = vSome (gI P a)) := by
 unfold someM
 dsimp only
 have l1 := num_lay T h isW_zero
 have i1 := num_inn T 0 h
 generalize numM T 0 m = r1 at *
 have l2 := two_lay T (op:=2) l1.gd (by omega) i1 (l1.inn ha)
 have i2 := two_inn T 2 r1.1 a l1.gd
 generalize twoM T 2 r1.1 a r1.2 = r2 at *
 have l12 := (l1.then l2).weak (R' := fun P Q => gI Q r2.1 = Wd.two 2 0 (gI P a)) fun P Q _ _ _ ⟨P',_,a1,a2,h1,h2⟩ => by rw [h2,h1,a1.at ha]
 have l3 := two_lay T (op:=4) l12.gd (by omega) (l12.inn ha) i2
 have i3 := two_inn T 4 a r2.1 l12.gd
 generalize twoM T 4 a r2.1 r2.2 = r3 at *
 have l13 := (l12.then l3).weak (R' := fun P Q => gI Q r3.1 = Wd.two 4 (gI P a) (Wd.two 2 0 (gI P a))) fun P Q _ _ _ ⟨P',_,a1,a2,h1,h2⟩ => by rw [h2,h1,a1.at ha]
 have l4 := top_lay T l13.gd i3
 exact (l13.then l4).weak fun P Q _ _ _ ⟨P',_,a1,a2,h1,h2⟩ => by rw [h2,h1]; rfl
theorem below_lay {a b : Int} (h : Gd m) (ha : Inn m.sec a) (hb : Inn m.sec b) : Lay T m (belowM T a b m).2 (fun P Q => gI Q (belowM T a b m).1 = vBelow (gI P a) (gI P b)) := by
 unfold belowM
 dsimp only
 have l1 := two_lay T (op:=2) h (by omega) ha hb
 have i1 := two_inn T 2 a b h
 generalize twoM T 2 a b m = r1 at *
 have l2 := two_lay T (op:=5) l1.gd (by omega) (l1.inn ha) (l1.inn hb)
 have i2 := two_inn T 5 a b l1.gd
 generalize twoM T 5 a b r1.2 = r2 at *
 have l12 := (l1.then l2).weak (R' := fun P Q => gI Q r1.1 = Wd.two 2 (gI P a) (gI P b) ∧ gI Q r2.1 = Wd.two 5 (gI P a) (gI P b)) fun P Q _ _ _ ⟨P',_,a1,a2,h1,h2⟩ => ⟨by rw [a2.at i1,h1],by rw [h2,a1.at ha,a1.at hb]⟩
 have j1 := l2.inn i1
 have l3 := two_lay T (op:=5) l12.gd (by omega) (l12.inn ha) j1
 have i3 := two_inn T 5 a r1.1 l12.gd
 generalize twoM T 5 a r1.1 r2.2 = r3 at *
 have l13 := (l12.then l3).weak (R' := fun P Q => gI Q r2.1 = Wd.two 5 (gI P a) (gI P b) ∧ gI Q r3.1 = Wd.two 5 (gI P a) (Wd.two 2 (gI P a) (gI P b))) fun P Q _ _ _ ⟨P',_,a1,a2,⟨h1,h1'⟩,h2⟩ => ⟨by rw [a2.at i2,h1'],by rw [h2,a1.at ha,h1]⟩
 have j2 := l3.inn i2
 have l4 := two_lay T (op:=4) l13.gd (by omega) j2 i3
 have i4 := two_inn T 4 r2.1 r3.1 l13.gd
 generalize twoM T 4 r2.1 r3.1 r3.2 = r4 at *
 have l14 := (l13.then l4).weak (R' := fun P Q => gI Q r4.1 = Wd.two 4 (Wd.two 5 (gI P a) (gI P b)) (Wd.two 5 (gI P a) (Wd.two 2 (gI P a) (gI P b)))) fun P Q _ _ _ ⟨P',_,a1,a2,⟨h1,h1'⟩,h2⟩ => by rw [h2,h1,h1']
 have l5 := two_lay T (op:=5) l14.gd (by omega) (l14.inn ha) i4
 have i5 := two_inn T 5 a r4.1 l14.gd
 generalize twoM T 5 a r4.1 r4.2 = r5 at *
 have l15 := (l14.then l5).weak (R' := fun P Q => gI Q r5.1 = Wd.two 5 (gI P a) (Wd.two 4 (Wd.two 5 (gI P a) (gI P b)) (Wd.two 5 (gI P a) (Wd.two 2 (gI P a) (gI P b))))) fun P Q _ _ _ ⟨P',_,a1,a2,h1,h2⟩ => by rw [h2,h1,a1.at ha]
 have l6 := top_lay T l15.gd i5
 exact (l15.then l6).weak fun P Q _ _ _ ⟨P',_,a1,a2,h1,h2⟩ => by rw [h2,h1]; rfl
theorem up_lay {a : Int} (h : Gd m) (ha : Inn m.sec a) : ∀ n : Nat,Lay T m (upM T n a m).2 (fun P Q => gI Q (upM T n a m).1 = vUp n (gI P a)) ∧ Inn (upM T n a m).2.sec (upM T n a m).1
 | 0 => ⟨(Lay.refl T h).weak fun P Q _ _ _ e => by rw [e]; rfl,ha⟩
 | n + 1 => by
  obtain ⟨l1,i1⟩ := up_lay h ha n
  rw [upM]
  generalize upM T n a m = r1 at *
  have l2 := double_lay T l1.gd i1
  exact ⟨(l1.then l2).weak fun P Q _ _ _ ⟨P',_,a1,a2,h1,h2⟩ => by rw [h2,h1]; rfl,two_inn T 1 r1.1 r1.1 l1.gd⟩
def ByLay (by' : Nat → Int → Mk → Int × Mk) (v : Nat → Int → Int) : Prop := ∀ (n : Nat) (a : Int) (m : Mk),n ≤ 31 → Gd m → Inn m.sec a → Lay T m (by' n a m).2 (fun P Q => gI Q (by' n a m).1 = v n (gI P a)) ∧ Inn (by' n a m).2.sec (by' n a m).1
theorem up_by : ByLay T (upM T) vUp := fun n a m _ h ha => up_lay T h ha n
theorem down_by : ByLay T (fun n a => downM T a n) vDown := fun n a m hn h ha => ⟨down_lay T h ha (isW_small n (by omega) (by omega)),stp_inn (down_stp T a n h)⟩
theorem move_lay {by' : Nat → Int → Mk → Int × Mk} {v : Nat → Int → Int} (hv : ByLay T by' v) {k : Nat} (hk : k ≤ 4) {a b : Int} (h : Gd m) (ha : Inn m.sec a) (hb : Inn m.sec b) :
  Lay T m (moveM T by' k a b m).2 (fun P Q => gI Q (moveM T by' k a b m).1 = vMove v k (gI P a) (gI P b)) ∧ Inn (moveM T by' k a b m).2.sec (moveM T by' k a b m).1 := by
 have hp : 2 ^ k ≤ 31 := by
  have : 2 ^ k ≤ 2 ^ 4 := Nat.pow_le_pow_right (by decide) hk
  omega
 unfold moveM
 dsimp only
 have l1 := num_lay T h (isW_small k (by omega) (by omega))
 have i1 := num_inn T k h
 generalize numM T k m = r1 at *
 have l2 := two_lay T (op:=7) l1.gd (by omega) (l1.inn hb) i1
 have i2 := two_inn T 7 b r1.1 l1.gd
 generalize twoM T 7 b r1.1 r1.2 = r2 at *
 have l12 := (l1.then l2).weak (R' := fun P Q => gI Q r2.1 = Wd.two 7 (gI P b) k) fun P Q _ _ _ ⟨P',_,a1,a2,h1,h2⟩ => by rw [h2,h1,a1.at hb]
 have l3 := num_lay T l12.gd (isW_small 1 (by decide) (by decide))
 have i3 := num_inn T 1 l12.gd
 generalize numM T 1 r2.2 = r3 at *
 have l13 := (l12.then l3).weak (R' := fun P Q => gI Q r2.1 = Wd.two 7 (gI P b) k ∧ gI Q r3.1 = 1) fun P Q _ _ _ ⟨P',_,a1,a2,h1,h2⟩ => ⟨by rw [a2.at i2,h1],h2⟩
 have j2 := l3.inn i2
 have l4 := two_lay T (op:=3) l13.gd (by omega) j2 i3
 have i4 := two_inn T 3 r2.1 r3.1 l13.gd
 generalize twoM T 3 r2.1 r3.1 r3.2 = r4 at *
 have l14 := (l13.then l4).weak (R' := fun P Q => gI Q r4.1 = Wd.two 3 (Wd.two 7 (gI P b) k) 1) fun P Q _ _ _ ⟨P',_,a1,a2,⟨h1,h1'⟩,h2⟩ => by rw [h2,h1,h1']
 have l5 := all_lay T l14.gd i4
 have i5 := stp_inn (all_stp T r4.1 l14.gd)
 generalize allM T r4.1 r4.2 = r5 at *
 have l15 := (l14.then l5).weak (R' := fun P Q => gI Q r5.1 = vAll (Wd.two 3 (Wd.two 7 (gI P b) k) 1)) fun P Q _ _ _ ⟨P',_,a1,a2,h1,h2⟩ => by rw [h2,h1]
 have ha5 := l15.inn ha
 obtain ⟨l6,i6⟩ := hv (2 ^ k) a r5.2 hp l15.gd ha5
 generalize by' (2 ^ k) a r5.2 = r6 at *
 have l16 := (l15.then l6).weak (R' := fun P Q => gI Q r5.1 = vAll (Wd.two 3 (Wd.two 7 (gI P b) k) 1) ∧ gI Q r6.1 = v (2 ^ k) (gI P a)) fun P Q _ _ _ ⟨P',_,a1,a2,h1,h2⟩ => ⟨by rw [a2.at i5,h1],by rw [h2,a1.at ha]⟩
 have j5 := l6.inn i5
 have l7 := choose_lay T l16.gd j5 i6 (l16.inn ha)
 exact ⟨(l16.then l7).weak fun P Q _ _ _ ⟨P',_,a1,a2,⟨h1,h1'⟩,h2⟩ => by rw [h2,h1,h1',a1.at ha]; rfl,stp_inn (choose_stp T _ _ _ l16.gd)⟩
theorem moved_lay {by' : Nat → Int → Mk → Int × Mk} {v : Nat → Int → Int} (hv : ByLay T by' v) {a b : Int} (h : Gd m) (ha : Inn m.sec a) (hb : Inn m.sec b) : ∀ n : Nat,n ≤ 5 →
  Lay T m (movedM T by' b n a m).2 (fun P Q => gI Q (movedM T by' b n a m).1 = vMoved v (gI P b) n (gI P a)) ∧ Inn (movedM T by' b n a m).2.sec (movedM T by' b n a m).1
 | 0,_ => ⟨(Lay.refl T h).weak fun P Q _ _ _ e => by rw [e]; rfl,ha⟩
 | n + 1,hn => by
  obtain ⟨l1,i1⟩ := moved_lay hv h ha hb n (by omega)
  rw [movedM]
  generalize movedM T by' b n a m = r1 at *
  obtain ⟨l2,i2⟩ := move_lay T hv (k:=n) (by omega) l1.gd i1 (l1.inn hb)
  exact ⟨(l1.then l2).weak fun P Q _ _ _ ⟨P',_,a1,a2,h1,h2⟩ => by rw [h2,h1,a1.at hb]; rfl,i2⟩
structure PrL (m : Mk) (p : Pr) (R : List Int → Int × Int × Int) : Prop where
 l : Lay T m p.m (fun P Q => (gI Q p.sum,gI Q p.a,gI Q p.b) = R P)
 s : Inn p.m.sec p.sum
 a : Inn p.m.sec p.a
 b : Inn p.m.sec p.b
theorem prod_lay {p : Pr} {R : List Int → Int × Int × Int} (h : PrL T m p R) : PrL T m (prodM T p) (fun P => vProd (R P)) := by
 obtain ⟨sum,a,b,q⟩ := p
 have l0 := h.l
 have hs := h.s
 have ha := h.a
 have hb := h.b
 dsimp only at l0 hs ha hb
 clear h
 unfold prodM
 dsimp only
 have l1 := num_lay T l0.gd (isW_small 1 (by decide) (by decide))
 have i1 := num_inn T 1 l0.gd
 generalize numM T 1 q = r1 at *
 have l2 := two_lay T (op:=3) l1.gd (by omega) (l1.inn hb) i1
 have i2 := two_inn T 3 b r1.1 l1.gd
 generalize twoM T 3 b r1.1 r1.2 = r2 at *
 have l12 := (l1.then l2).weak (R' := fun P Q => gI Q r2.1 = Wd.two 3 (gI P b) 1) fun P Q _ _ _ ⟨P',_,a1,a2,h1,h2⟩ => by rw [h2,h1,a1.at hb]
 have l3 := all_lay T l12.gd i2
 have i3 := stp_inn (all_stp T r2.1 l12.gd)
 generalize allM T r2.1 r2.2 = r3 at *
 have l13 := (l12.then l3).weak (R' := fun P Q => gI Q r3.1 = vAll (Wd.two 3 (gI P b) 1)) fun P Q _ _ _ ⟨P',_,a1,a2,h1,h2⟩ => by rw [h2,h1]
 have l4 := two_lay T (op:=3) l13.gd (by omega) (l13.inn ha) i3
 have i4 := two_inn T 3 a r3.1 l13.gd
 generalize twoM T 3 a r3.1 r3.2 = r4 at *
 have l14 := (l13.then l4).weak (R' := fun P Q => gI Q r4.1 = Wd.two 3 (gI P a) (vAll (Wd.two 3 (gI P b) 1))) fun P Q _ _ _ ⟨P',_,a1,a2,h1,h2⟩ => by rw [h2,h1,a1.at ha]
 have l5 := double_lay T l14.gd (l14.inn ha)
 have i5 := stp_inn (double_stp T a l14.gd)
 generalize doubleM T a r4.2 = r5 at *
 have l15 := (l14.then l5).weak (R' := fun P Q => gI Q r4.1 = Wd.two 3 (gI P a) (vAll (Wd.two 3 (gI P b) 1)) ∧ gI Q r5.1 = Wd.two 1 (gI P a) (gI P a)) fun P Q _ _ _ ⟨P',_,a1,a2,h1,h2⟩ => ⟨by rw [a2.at i4,h1],by rw [h2,a1.at ha]⟩
 have j4 := l5.inn i4
 have l6 := down_lay T (far:=1) l15.gd (l15.inn hb) (isW_small 1 (by decide) (by decide))
 have i6 := stp_inn (down_stp T b 1 l15.gd)
 generalize downM T b 1 r5.2 = r6 at *
 have l16 := (l15.then l6).weak (R' := fun P Q => gI Q r4.1 = Wd.two 3 (gI P a) (vAll (Wd.two 3 (gI P b) 1)) ∧ gI Q r5.1 = Wd.two 1 (gI P a) (gI P a) ∧ gI Q r6.1 = Wd.two 7 (gI P b) 1) fun P Q _ _ _ ⟨P',_,a1,a2,⟨h1,h1'⟩,h2⟩ => ⟨by rw [a2.at j4,h1],by rw [a2.at i5,h1'],by rw [h2,a1.at hb]⟩
 have k4 := l6.inn j4
 have k5 := l6.inn i5
 have l7 := two_lay T (op:=1) l16.gd (by omega) (l16.inn hs) k4
 have i7 := two_inn T 1 sum r4.1 l16.gd
 generalize twoM T 1 sum r4.1 r6.2 = r7 at *
 have l17 := (l16.then l7).weak (R' := fun P Q => (gI Q r7.1,gI Q r5.1,gI Q r6.1) = vProd (gI P sum,gI P a,gI P b)) fun P Q _ _ _ ⟨P',_,a1,a2,⟨h1,h1',h1''⟩,h2⟩ => by
  rw [h2,h1,a1.at hs,a2.at k5,a2.at i6,h1',h1'']; rfl
 exact ⟨(l0.then l17).weak fun P Q _ _ _ ⟨P',_,a1,a2,h1,h2⟩ => by rw [h2,h1],i7,l7.inn k5,l7.inn i6⟩
theorem prods_lay {p : Pr} {R : List Int → Int × Int × Int} (h : PrL T m p R) : ∀ n : Nat,PrL T m (prodsM T n p) (fun P => vProds n (R P))
 | 0 => h
 | n + 1 => prod_lay T (prods_lay h n)
structure DvL (m : Mk) (d : Dv) (R : List Int → Int × Int) : Prop where
 l : Lay T m d.m (fun P Q => (gI Q d.rest,gI Q d.left) = R P)
 r : Inn d.m.sec d.rest
 l' : Inn d.m.sec d.left
theorem step_lay {by' : Int} {d : Dv} {R : List Int → Int × Int} (h : DvL T m d R) (hy : Inn m.sec by') :
  Lay T m (stepM T by' d).2.m (fun P Q => (gI Q (stepM T by' d).1,gI Q (stepM T by' d).2.rest,gI Q (stepM T by' d).2.left) = vStep (gI P by') (R P)) ∧ Inn (stepM T by' d).2.m.sec (stepM T by' d).1 ∧ Inn (stepM T by' d).2.m.sec (stepM T by' d).2.rest ∧ Inn (stepM T by' d).2.m.sec (stepM T by' d).2.left := by
 obtain ⟨rest,left,q⟩ := d
 have l0 := h.l
 have hr := h.r
 have hl := h.l'
 dsimp only at l0 hr hl
 clear h
 have hy0 := l0.inn hy
 unfold stepM
 dsimp only
 have l1 := double_lay T l0.gd hl
 have i1 := stp_inn (double_stp T left l0.gd)
 generalize doubleM T left q = r1 at *
 have l2 := top_lay T l1.gd (l1.inn hr)
 have i2 := stp_inn (top_stp T rest l1.gd)
 generalize topM T rest r1.2 = r2 at *
 have l12 := (l1.then l2).weak (R' := fun P Q => gI Q r1.1 = Wd.two 1 (gI P left) (gI P left) ∧ gI Q r2.1 = vTop (gI P rest)) fun P Q _ _ _ ⟨P',_,a1,a2,h1,h2⟩ => ⟨by rw [a2.at i1,h1],by rw [h2,a1.at hr]⟩
 have j1 := l2.inn i1
 have l3 := two_lay T (op:=4) l12.gd (by omega) j1 i2
 have i3 := two_inn T 4 r1.1 r2.1 l12.gd
 generalize twoM T 4 r1.1 r2.1 r2.2 = r3 at *
 have l13 := (l12.then l3).weak (R' := fun P Q => gI Q r3.1 = Wd.two 4 (Wd.two 1 (gI P left) (gI P left)) (vTop (gI P rest))) fun P Q _ _ _ ⟨P',_,a1,a2,⟨h1,h1'⟩,h2⟩ => by rw [h2,h1,h1']
 have l4 := double_lay T l13.gd (l13.inn hr)
 have i4 := stp_inn (double_stp T rest l13.gd)
 generalize doubleM T rest r3.2 = r4 at *
 have l14 := (l13.then l4).weak (R' := fun P Q => gI Q r3.1 = Wd.two 4 (Wd.two 1 (gI P left) (gI P left)) (vTop (gI P rest)) ∧ gI Q r4.1 = Wd.two 1 (gI P rest) (gI P rest)) fun P Q _ _ _ ⟨P',_,a1,a2,h1,h2⟩ => ⟨by rw [a2.at i3,h1],by rw [h2,a1.at hr]⟩
 have j3 := l4.inn i3
 have l5 := below_lay T l14.gd j3 (l14.inn hy0)
 have i5 := stp_inn (below_stp T r3.1 by' l14.gd)
 generalize belowM T r3.1 by' r4.2 = r5 at *
 have l15 := (l14.then l5).weak (R' := fun P Q => gI Q r3.1 = Wd.two 4 (Wd.two 1 (gI P left) (gI P left)) (vTop (gI P rest)) ∧ gI Q r4.1 = Wd.two 1 (gI P rest) (gI P rest) ∧ gI Q r5.1 = vBelow (Wd.two 4 (Wd.two 1 (gI P left) (gI P left)) (vTop (gI P rest))) (gI P by')) fun P Q _ _ _ ⟨P',_,a1,a2,⟨h1,h1'⟩,h2⟩ => ⟨by rw [a2.at j3,h1],by rw [a2.at i4,h1'],by rw [h2,h1,a1.at hy0]⟩
 have k3 := l5.inn j3
 have k4 := l5.inn i4
 have l6 := num_lay T l15.gd (isW_small 1 (by decide) (by decide))
 have i6 := num_inn T 1 l15.gd
 generalize numM T 1 r5.2 = r6 at *
 have l16 := (l15.then l6).weak (R' := fun P Q => gI Q r3.1 = Wd.two 4 (Wd.two 1 (gI P left) (gI P left)) (vTop (gI P rest)) ∧ gI Q r4.1 = Wd.two 1 (gI P rest) (gI P rest) ∧ gI Q r5.1 = vBelow (Wd.two 4 (Wd.two 1 (gI P left) (gI P left)) (vTop (gI P rest))) (gI P by') ∧ gI Q r6.1 = 1) fun P Q _ _ _ ⟨P',_,a1,a2,⟨h1,h1',h1''⟩,h2⟩ => ⟨by rw [a2.at k3,h1],by rw [a2.at k4,h1'],by rw [a2.at i5,h1''],h2⟩
 have m3 := l6.inn k3
 have m4 := l6.inn k4
 have m5 := l6.inn i5
 have l7 := two_lay T (op:=2) l16.gd (by omega) m5 i6
 have i7 := two_inn T 2 r5.1 r6.1 l16.gd
 generalize twoM T 2 r5.1 r6.1 r6.2 = r7 at *
 have l17 := (l16.then l7).weak (R' := fun P Q => gI Q r3.1 = Wd.two 4 (Wd.two 1 (gI P left) (gI P left)) (vTop (gI P rest)) ∧ gI Q r4.1 = Wd.two 1 (gI P rest) (gI P rest) ∧ gI Q r7.1 = Wd.two 2 (vBelow (Wd.two 4 (Wd.two 1 (gI P left) (gI P left)) (vTop (gI P rest))) (gI P by')) 1) fun P Q _ _ _ ⟨P',_,a1,a2,⟨h1,h1',h1'',h1'''⟩,h2⟩ => ⟨by rw [a2.at m3,h1],by rw [a2.at m4,h1'],by rw [h2,h1'',h1''']⟩
 have n3 := l7.inn m3
 have n4 := l7.inn m4
 have l8 := two_lay T (op:=3) l17.gd (by omega) (l17.inn hy0) i7
 have i8 := two_inn T 3 by' r7.1 l17.gd
 generalize twoM T 3 by' r7.1 r7.2 = r8 at *
 have l18 := (l17.then l8).weak (R' := fun P Q => gI Q r3.1 = Wd.two 4 (Wd.two 1 (gI P left) (gI P left)) (vTop (gI P rest)) ∧ gI Q r4.1 = Wd.two 1 (gI P rest) (gI P rest) ∧ gI Q r7.1 = Wd.two 2 (vBelow (Wd.two 4 (Wd.two 1 (gI P left) (gI P left)) (vTop (gI P rest))) (gI P by')) 1 ∧ gI Q r8.1 = Wd.two 3 (gI P by') (Wd.two 2 (vBelow (Wd.two 4 (Wd.two 1 (gI P left) (gI P left)) (vTop (gI P rest))) (gI P by')) 1)) fun P Q _ _ _ ⟨P',_,a1,a2,⟨h1,h1',h1''⟩,h2⟩ => ⟨by rw [a2.at n3,h1],by rw [a2.at n4,h1'],by rw [a2.at i7,h1''],by rw [h2,h1'',a1.at hy0]⟩
 have o3 := l8.inn n3
 have o4 := l8.inn n4
 have o7 := l8.inn i7
 have l9 := two_lay T (op:=2) l18.gd (by omega) o3 i8
 have i9 := two_inn T 2 r3.1 r8.1 l18.gd
 generalize twoM T 2 r3.1 r8.1 r8.2 = r9 at *
 have l19 := (l18.then l9).weak (R' := fun P Q => (gI Q r7.1,gI Q r4.1,gI Q r9.1) = vStep (gI P by') (gI P rest,gI P left)) fun P Q _ _ _ ⟨P',_,a1,a2,⟨h1,h1',h1'',h1'''⟩,h2⟩ => by
  rw [h2,a2.at o7,a2.at o4,h1'',h1',h1,h1''']; rfl
 refine ⟨(l0.then l19).weak fun P Q _ _ _ ⟨P',_,a1,a2,h1,h2⟩ => by rw [h2,h1,a1.at hy],l9.inn o7,l9.inn o4,i9⟩
theorem rems_lay {by' : Int} {d : Dv} {R : List Int → Int × Int} (h : DvL T m d R) (hy : Inn m.sec by') : ∀ n : Nat,DvL T m (remsM T by' n d) (fun P => vRems (gI P by') n (R P))
 | 0 => h
 | n + 1 => by
  obtain ⟨l1,i1,i2,i3⟩ := step_lay T (rems_lay h hy n) hy
  exact ⟨l1.weak fun P Q _ _ _ e => by
   have := congrArg Prod.snd e
   exact this,i2,i3⟩
structure QuL (m : Mk) (p : Int × Dv) (R : List Int → Int × Int × Int) : Prop where
 l : Lay T m p.2.m (fun P Q => (gI Q p.1,gI Q p.2.rest,gI Q p.2.left) = R P)
 o : Inn p.2.m.sec p.1
 r : Inn p.2.m.sec p.2.rest
 l' : Inn p.2.m.sec p.2.left
theorem quo_lay {by' : Int} {p : Int × Dv} {R : List Int → Int × Int × Int} (h : QuL T m p R) (hy : Inn m.sec by') : QuL T m (quoM T by' p) (fun P => vQuo (gI P by') (R P)) := by
 obtain ⟨often,d⟩ := p
 have l0 := h.l
 have ho := h.o
 have hr := h.r
 have hl := h.l'
 dsimp only at l0 ho hr hl
 clear h
 have hy0 := l0.inn hy
 have hd : DvL T d.m d (fun P => (gI P d.rest,gI P d.left)) := ⟨(Lay.refl T l0.gd).weak fun P Q _ _ _ e => by rw [e],hr,hl⟩
 obtain ⟨l1,i1,i2,i3⟩ := step_lay T hd hy0
 unfold quoM
 dsimp only
 generalize stepM T by' d = r1 at *
 have l2 := double_lay T l1.gd (l1.inn ho)
 have j2 := stp_inn (double_stp T often l1.gd)
 generalize doubleM T often r1.2.m = r2 at *
 have l12 := (l1.then l2).weak (R' := fun P Q => gI Q r2.1 = Wd.two 1 (gI P often) (gI P often) ∧ (gI Q r1.1,gI Q r1.2.rest,gI Q r1.2.left) = vStep (gI P by') (gI P d.rest,gI P d.left)) fun P Q _ _ _ ⟨P',_,a1,a2,h1,h2⟩ => ⟨by rw [h2,a1.at ho],by rw [a2.at i1,a2.at i2,a2.at i3,h1]⟩
 have k1 := l2.inn i1
 have k2 := l2.inn i2
 have k3 := l2.inn i3
 have l3 := two_lay T (op:=2) l12.gd (by omega) j2 k1
 have j3 := two_inn T 2 r2.1 r1.1 l12.gd
 generalize twoM T 2 r2.1 r1.1 r2.2 = r3 at *
 have l13 := (l12.then l3).weak (R' := fun P Q => (gI Q r3.1,gI Q r1.2.rest,gI Q r1.2.left) = vQuo (gI P by') (gI P often,gI P d.rest,gI P d.left)) fun P Q _ _ _ ⟨P',_,a1,a2,⟨h1,h1'⟩,h2⟩ => by
  have e1 : gI P' r1.1 = (vStep (gI P by') (gI P d.rest,gI P d.left)).1 := congrArg Prod.fst h1'
  have e2 : (gI P' r1.2.rest,gI P' r1.2.left) = (vStep (gI P by') (gI P d.rest,gI P d.left)).2 := congrArg Prod.snd h1'
  rw [h2,h1,e1,a2.at k2,a2.at k3,e2]; rfl
 exact ⟨(l0.then l13).weak fun P Q _ _ _ ⟨P',_,a1,a2,h1,h2⟩ => by rw [h2,h1,a1.at hy],j3,l3.inn k2,l3.inn k3⟩
theorem quos_lay {by' : Int} {p : Int × Dv} {R : List Int → Int × Int × Int} (h : QuL T m p R) (hy : Inn m.sec by') : ∀ n : Nat,QuL T m (quosM T by' n p) (fun P => vQuos (gI P by') n (R P))
 | 0 => h
 | n + 1 => quo_lay T (quos_lay h hy n) hy
end
end Go.Proofs.Ytfbmkcogkiejnaa.Hg
