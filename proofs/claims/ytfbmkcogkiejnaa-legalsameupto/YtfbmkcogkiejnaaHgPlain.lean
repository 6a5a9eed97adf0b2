/- How instructions are done otherwise, in plain words: what is laid down, one behind the other; how much that is. No function named. -/
import Derived.Test.YtfbmkcogkiejnaaGr8
namespace Go.Proofs.Ytfbmkcogkiejnaa.Hg
set_option linter.unusedVariables false
set_option linter.unusedSimpArgs false
open Lg Fl
structure Mk where
 code : List Ix
 sec : List Int
 nums : List (Int × Int)
 shown : Bool
def shwM (T : Nat → Int) (sec : List Int) (i : Ix) : Bool := (valsW (bitsG T i.op false) sec 0 (rds i)).contains 1
def emitM (T : Nat → Int) (i : Ix) (m : Mk) : Mk := ⟨m.code ++ [i],m.sec,m.nums,m.shown || shwM T m.sec i⟩
def orS (sec : List Int) (l : List Int) : Int := if l.any (fun p => gI sec p == 1) = true then 1 else 0
def atD (i : Ix) (d : Int) : Ix := ⟨i.op,d,i.a,i.b,i.c,i.imm⟩
def madeM (T : Nat → Int) (i : Ix) (m : Mk) : Int × Mk :=
 let e := emitM T (atD i m.sec.length) m
 (m.sec.length,⟨e.code,e.sec ++ [orS m.sec (rds i)],e.nums,e.shown⟩)
def twoM (T : Nat → Int) (op a b : Int) (m : Mk) : Int × Mk := madeM T ⟨op,0,a,b,0,0⟩ m
def numM (T : Nat → Int) (n : Int) (m : Mk) : Int × Mk := match m.nums.lookup n with
 | some p => (p,m)
 | none => let r := madeM T ⟨14,0,0,0,0,n⟩ m; (r.1,⟨r.2.code,r.2.sec,(n,r.1) :: r.2.nums,r.2.shown⟩)
def downM (T : Nat → Int) (a far : Int) (m : Mk) : Int × Mk := let r := numM T far m; twoM T 7 a r.1 r.2
def topM (T : Nat → Int) (a : Int) (m : Mk) : Int × Mk := downM T a 31 m
def doubleM (T : Nat → Int) (a : Int) (m : Mk) : Int × Mk := twoM T 1 a a m
def allM (T : Nat → Int) (bit : Int) (m : Mk) : Int × Mk := let z := numM T 0 m; twoM T 2 z.1 bit z.2
def chooseM (T : Nat → Int) (mask b c : Int) (m : Mk) : Int × Mk := let x := twoM T 5 b c m; let y := twoM T 3 x.1 mask x.2; twoM T 5 c y.1 y.2
def someM (T : Nat → Int) (a : Int) (m : Mk) : Int × Mk := let z := numM T 0 m; let s := twoM T 2 z.1 a z.2; let o := twoM T 4 a s.1 s.2; topM T o.1 o.2
def belowM (T : Nat → Int) (a b : Int) (m : Mk) : Int × Mk := let l := twoM T 2 a b m; let x := twoM T 5 a b l.2; let y := twoM T 5 a l.1 x.2; let o := twoM T 4 x.1 y.1 y.2; let z := twoM T 5 a o.1 o.2; topM T z.1 z.2
def upM (T : Nat → Int) : Nat → Int → Mk → Int × Mk
 | 0,a,m => (a,m)
 | n + 1,a,m => let r := upM T n a m; doubleM T r.1 r.2
def moveM (T : Nat → Int) (by' : Nat → Int → Mk → Int × Mk) (k : Nat) (a b : Int) (m : Mk) : Int × Mk :=
 let n := numM T k m; let s := twoM T 7 b n.1 n.2; let o := numM T 1 s.2; let t := twoM T 3 s.1 o.1 o.2; let q := allM T t.1 t.2; let c := by' (2 ^ k) a q.2; chooseM T q.1 c.1 a c.2
def movedM (T : Nat → Int) (by' : Nat → Int → Mk → Int × Mk) (b : Int) : Nat → Int → Mk → Int × Mk
 | 0,a,m => (a,m)
 | n + 1,a,m => let r := movedM T by' b n a m; moveM T by' n r.1 b r.2
structure Pr where
 sum : Int
 a : Int
 b : Int
 m : Mk
def prodM (T : Nat → Int) (p : Pr) : Pr :=
 let o := numM T 1 p.m; let t := twoM T 3 p.b o.1 o.2; let q := allM T t.1 t.2; let r := twoM T 3 p.a q.1 q.2; let d := doubleM T p.a r.2; let e := downM T p.b 1 d.2; let s := twoM T 1 p.sum r.1 e.2; ⟨s.1,d.1,e.1,s.2⟩
def prodsM (T : Nat → Int) : Nat → Pr → Pr
 | 0,p => p
 | n + 1,p => prodM T (prodsM T n p)
structure Dv where
 rest : Int
 left : Int
 m : Mk
def stepM (T : Nat → Int) (by' : Int) (d : Dv) : Int × Dv :=
 let e := doubleM T d.left d.m; let t := topM T d.rest e.2; let n := twoM T 4 e.1 t.1 t.2; let r := doubleM T d.rest n.2; let l := belowM T n.1 by' r.2; let o := numM T 1 l.2; let i := twoM T 2 l.1 o.1 o.2; let a := twoM T 3 by' i.1 i.2; let f := twoM T 2 n.1 a.1 a.2; (i.1,⟨r.1,f.1,f.2⟩)
def remsM (T : Nat → Int) (by' : Int) : Nat → Dv → Dv
 | 0,d => d
 | n + 1,d => (stepM T by' (remsM T by' n d)).2
def quoM (T : Nat → Int) (by' : Int) (p : Int × Dv) : Int × Dv :=
 let s := stepM T by' p.2; let d := doubleM T p.1 s.2.m; let o := twoM T 2 d.1 s.1 d.2; (o.1,⟨s.2.rest,s.2.left,o.2⟩)
def quosM (T : Nat → Int) (by' : Int) : Nat → Int × Dv → Int × Dv
 | 0,p => p
 | n + 1,p => quoM T by' (quosM T by' n p)
def ways (op : Int) : Bool := decide (6 ≤ op) && decide (op ≤ 13)
def shlM (T : Nat → Int) (a b : Int) (m : Mk) : Mk := (movedM T (upM T) b 5 a m).2
def shrM (T : Nat → Int) (a b : Int) (m : Mk) : Mk := (movedM T (fun n a => downM T a n) b 5 a m).2
def mulM (T : Nat → Int) (a b : Int) (m : Mk) : Mk := let z := numM T 0 m; (prodsM T 32 ⟨z.1,a,b,z.2⟩).m
def divM (T : Nat → Int) (a b : Int) (m : Mk) : Mk := let z := numM T 0 m; let o := numM T 0 z.2; (quosM T b 32 (o.1,⟨a,z.1,o.2⟩)).2.m
def remM (T : Nat → Int) (a b : Int) (m : Mk) : Mk := let z := numM T 0 m; (remsM T b 32 ⟨a,z.1,z.2⟩).m
def lessM (T : Nat → Int) (a b : Int) (m : Mk) : Mk := (belowM T a b m).2
def sameM (T : Nat → Int) (a b : Int) (m : Mk) : Mk := let x := twoM T 5 a b m; let s := someM T x.1 x.2; let o := numM T 1 s.2; (twoM T 5 s.1 o.1 o.2).2
def selM (T : Nat → Int) (a b c : Int) (m : Mk) : Mk := let s := someM T a m; let q := allM T s.1 s.2; (chooseM T q.1 b c q.2).2
def fresh (m : Mk) : Mk := ⟨m.code,m.sec,[],m.shown⟩
def otherM (T : Nat → Int) (i : Ix) (m : Mk) : Mk :=
 if i.op = 6 then shlM T i.a i.b (fresh m) else if i.op = 7 then shrM T i.a i.b (fresh m) else if i.op = 8 then mulM T i.a i.b (fresh m) else if i.op = 9 then divM T i.a i.b (fresh m) else if i.op = 10 then remM T i.a i.b (fresh m) else if i.op = 11 then lessM T i.a i.b (fresh m) else if i.op = 12 then sameM T i.a i.b (fresh m) else if i.op = 13 then selM T i.a i.b i.c (fresh m) else fresh m
def swapD (i : Ix) (m : Mk) : Mk := match m.code.getLast? with
 | some l => ⟨m.code.dropLast ++ [atD l i.d],m.sec.take l.d.toNat,m.nums,m.shown⟩
 | none => m
def legalM (T : Nat → Int) (i : Ix) (m : Mk) : Mk := if shwM T m.sec i = false then emitM T i m else if ways i.op = false then emitM T i (fresh m) else swapD i (otherM T i m)
structure Gd (m : Mk) : Prop where
 num : ∀ n p,m.nums.lookup n = some p → 0 ≤ p ∧ p < m.sec.length
 sec : ∀ s ∈ m.sec,s = 0 ∨ s = 1
structure Stp (k : Nat) (m : Mk) (r : Int × Mk) : Prop where
 gd : Gd r.2
 p0 : 0 ≤ r.1
 p1 : r.1 < r.2.sec.length
 ge : m.sec.length ≤ r.2.sec.length
 c : ∃ C,r.2.code = m.code ++ C ∧ C.length ≤ k
 s : ∃ S,r.2.sec = m.sec ++ S ∧ S.length ≤ k
 n : r.2.nums.length ≤ m.nums.length + k
theorem Stp.then {k l : Nat} {m : Mk} {r s : Int × Mk} (h : Stp k m r) (h' : Stp l r.2 s) : Stp (k + l) m s := by
 obtain ⟨C,hc,hcl⟩ := h.c
 obtain ⟨S,hs,hsl⟩ := h.s
 obtain ⟨C',hc',hcl'⟩ := h'.c
 obtain ⟨S',hs',hsl'⟩ := h'.s
 refine ⟨h'.gd,h'.p0,h'.p1,Nat.le_trans h.ge h'.ge,⟨C ++ C',by rw [hc',hc,List.append_assoc],by rw [List.length_append]; omega⟩,⟨S ++ S',by rw [hs',hs,List.append_assoc],by rw [List.length_append]; omega⟩,by have := h.n; have := h'.n; omega⟩
theorem Stp.mono {k l : Nat} {m : Mk} {r : Int × Mk} (h : Stp k m r) (hl : k ≤ l) : Stp l m r := by
 obtain ⟨C,hc,hcl⟩ := h.c
 obtain ⟨S,hs,hsl⟩ := h.s
 exact ⟨h.gd,h.p0,h.p1,h.ge,⟨C,hc,by omega⟩,⟨S,hs,by omega⟩,by have := h.n; omega⟩
theorem Stp.same {m : Mk} {a : Int} (h : Gd m) (h0 : 0 ≤ a) (h1 : a < m.sec.length) : Stp 0 m (a,m) := ⟨h,h0,h1,Nat.le_refl _,⟨[],by simp,Nat.le_refl _⟩,⟨[],by simp,Nat.le_refl _⟩,Nat.le_refl _⟩
theorem orS_01 (sec : List Int) (l : List Int) : orS sec l = 0 ∨ orS sec l = 1 := by unfold orS; split <;> simp
theorem made_stp (T : Nat → Int) (i : Ix) {m : Mk} (h : Gd m) : Stp 1 m (madeM T i m) := by
 refine ⟨⟨fun n p hp => ?_,fun s hs => ?_⟩,?_,?_,?_,⟨[atD i m.sec.length],rfl,Nat.le_refl _⟩,⟨[orS m.sec (rds i)],rfl,Nat.le_refl _⟩,by show m.nums.length ≤ _; omega⟩
 ·have := h.num n p hp
  show 0 ≤ p ∧ p < ((m.sec ++ [_]).length : Int)
  rw [List.length_append,List.length_singleton]; omega
 ·rcases List.mem_append.1 hs with e | e
  ·exact h.sec s e
  ·rw [List.mem_singleton] at e; rw [e]; exact orS_01 _ _
 ·show (0 : Int) ≤ (m.sec.length : Int); omega
 ·show (m.sec.length : Int) < ((m.sec ++ [_]).length : Int)
  rw [List.length_append,List.length_singleton]; omega
 ·show m.sec.length ≤ (m.sec ++ [_]).length
  rw [List.length_append]; omega
theorem two_stp (T : Nat → Int) (op a b : Int) {m : Mk} (h : Gd m) : Stp 1 m (twoM T op a b m) := made_stp T _ h
theorem num_stp (T : Nat → Int) (n : Int) {m : Mk} (h : Gd m) : Stp 1 m (numM T n m) := by
 unfold numM
 split
 ·rename_i p hp
  exact (Stp.same h (h.num n p hp).1 (h.num n p hp).2).mono (by omega)
 ·have h1 := made_stp T ⟨14,0,0,0,0,n⟩ h
  obtain ⟨g,p0,p1,ge,c,s,hn⟩ := h1
  refine ⟨⟨fun k p hp => ?_,g.sec⟩,p0,p1,ge,c,s,by show (_ :: m.nums).length ≤ _; rw [List.length_cons]; exact Nat.le_refl _⟩
  dsimp only at hp ⊢
  rw [List.lookup_cons] at hp
  split at hp
  ·cases hp; exact ⟨p0,p1⟩
  ·exact g.num k p hp
theorem down_stp (T : Nat → Int) (a far : Int) {m : Mk} (h : Gd m) : Stp 2 m (downM T a far m) := by
 unfold downM
 dsimp only
 have h1 := num_stp T far h
 generalize numM T far m = r1 at *
 exact h1.then (two_stp T _ _ _ h1.gd)
theorem top_stp (T : Nat → Int) (a : Int) {m : Mk} (h : Gd m) : Stp 2 m (topM T a m) := down_stp T a 31 h
theorem double_stp (T : Nat → Int) (a : Int) {m : Mk} (h : Gd m) : Stp 1 m (doubleM T a m) := two_stp T _ _ _ h
theorem all_stp (T : Nat → Int) (a : Int) {m : Mk} (h : Gd m) : Stp 2 m (allM T a m) := by
 unfold allM
 dsimp only
 have h1 := num_stp T 0 h
 generalize numM T 0 m = r1 at *
 exact h1.then (two_stp T _ _ _ h1.gd)
theorem choose_stp (T : Nat → Int) (a b c : Int) {m : Mk} (h : Gd m) : Stp 3 m (chooseM T a b c m) := by
 unfold chooseM
 dsimp only
 have h1 := two_stp T 5 b c h
 generalize twoM T 5 b c m = r1 at *
 have h2 := two_stp T 3 r1.1 a h1.gd
 generalize twoM T 3 r1.1 a r1.2 = r2 at *
 exact (h1.then h2).then (two_stp T _ _ _ h2.gd)
theorem some_stp (T : Nat → Int) (a : Int) {m : Mk} (h : Gd m) : Stp 5 m (someM T a m) := by
 unfold someM
 dsimp only
 have h1 := num_stp T 0 h
 generalize numM T 0 m = r1 at *
 have h2 := two_stp T 2 r1.1 a h1.gd
 generalize twoM T 2 r1.1 a r1.2 = r2 at *
 have h3 := two_stp T 4 a r2.1 h2.gd
 generalize twoM T 4 a r2.1 r2.2 = r3 at *
 exact ((h1.then h2).then h3).then (top_stp T _ h3.gd)
theorem below_stp (T : Nat → Int) (a b : Int) {m : Mk} (h : Gd m) : Stp 7 m (belowM T a b m) := by
 unfold belowM
 dsimp only
 have h1 := two_stp T 2 a b h
 generalize twoM T 2 a b m = r1 at *
 have h2 := two_stp T 5 a b h1.gd
 generalize twoM T 5 a b r1.2 = r2 at *
 have h3 := two_stp T 5 a r1.1 h2.gd
 generalize twoM T 5 a r1.1 r2.2 = r3 at *
 have h4 := two_stp T 4 r2.1 r3.1 h3.gd
 generalize twoM T 4 r2.1 r3.1 r3.2 = r4 at *
 have h5 := two_stp T 5 a r4.1 h4.gd
 generalize twoM T 5 a r4.1 r4.2 = r5 at *
 exact ((((h1.then h2).then h3).then h4).then h5).then (top_stp T _ h5.gd)
theorem up_stp (T : Nat → Int) : ∀ (n : Nat) (a : Int) {m : Mk},Gd m → 0 ≤ a → a < m.sec.length → Stp n m (upM T n a m)
 | 0,a,m,h,h0,h1 => Stp.same h h0 h1
 | n + 1,a,m,h,h0,h1 => (up_stp T n a h h0 h1).then (double_stp T _ (up_stp T n a h h0 h1).gd)
def ByOk (by' : Nat → Int → Mk → Int × Mk) : Prop := ∀ (n : Nat) (a : Int) (m : Mk),Gd m → 0 ≤ a → a < m.sec.length → Stp (max n 2) m (by' n a m)
theorem up_ok (T : Nat → Int) : ByOk (upM T) := fun n a m h h0 h1 => (up_stp T n a h h0 h1).mono (by omega)
theorem down_ok (T : Nat → Int) : ByOk (fun n a => downM T a n) := fun n a m h h0 h1 => (down_stp T a n h).mono (by omega)
theorem move_stp (T : Nat → Int) {by' : Nat → Int → Mk → Int × Mk} (hb : ByOk by') (k : Nat) (hk : k ≤ 4) (a b : Int) {m : Mk} (h : Gd m) (h0 : 0 ≤ a) (h1 : a < m.sec.length) : Stp 25 m (moveM T by' k a b m) := by
 have hp : 2 ^ k ≤ 16 := by
  have : 2 ^ k ≤ 2 ^ 4 := Nat.pow_le_pow_right (by decide) hk
  omega
 unfold moveM
 dsimp only
 have e1 := num_stp T k h
 generalize numM T k m = r1 at *
 have e2 := two_stp T 7 b r1.1 e1.gd
 generalize twoM T 7 b r1.1 r1.2 = r2 at *
 have e3 := num_stp T 1 e2.gd
 generalize numM T 1 r2.2 = r3 at *
 have e4 := two_stp T 3 r2.1 r3.1 e3.gd
 generalize twoM T 3 r2.1 r3.1 r3.2 = r4 at *
 have e5 := all_stp T r4.1 e4.gd
 generalize allM T r4.1 r4.2 = r5 at *
 have e15 := (((e1.then e2).then e3).then e4).then e5
 have e6 := hb (2 ^ k) a _ e5.gd h0 (by have := e15.ge; omega)
 generalize by' (2 ^ k) a r5.2 = r6 at *
 exact ((e15.then e6).then (choose_stp T _ _ a e6.gd)).mono (by omega)
theorem moved_stp (T : Nat → Int) {by' : Nat → Int → Mk → Int × Mk} (hb : ByOk by') (b : Int) : ∀ (n : Nat) (a : Int) {m : Mk},n ≤ 5 → Gd m → 0 ≤ a → a < m.sec.length → Stp (n * 25) m (movedM T by' b n a m)
 | 0,a,m,hn,h,h0,h1 => by
  have := Stp.same h h0 h1
  rw [Nat.zero_mul]; exact this
 | n + 1,a,m,hn,h,h0,h1 => by
  have e := moved_stp T hb b n a (by omega) h h0 h1
  rw [Nat.add_mul,Nat.one_mul]
  exact e.then (move_stp T hb n (by omega) _ b e.gd e.p0 e.p1)
structure PrOk (k : Nat) (m : Mk) (p : Pr) : Prop where
 s : Stp k m (p.sum,p.m)
 a0 : 0 ≤ p.a
 a1 : p.a < p.m.sec.length
 b0 : 0 ≤ p.b
 b1 : p.b < p.m.sec.length
theorem prod_stp (T : Nat → Int) {k : Nat} {m : Mk} {p : Pr} (h : PrOk k m p) : PrOk (k + 9) m (prodM T p) := by
 obtain ⟨sum,a,b,q⟩ := p
 have hs := h.s
 have a0 := h.a0
 have b0 := h.b0
 dsimp only at hs a0 b0
 clear h
 unfold prodM
 dsimp only
 have e1 := num_stp T 1 hs.gd
 dsimp only at e1
 generalize numM T 1 q = r1 at *
 have e2 := two_stp T 3 b r1.1 e1.gd
 generalize twoM T 3 b r1.1 r1.2 = r2 at *
 have e3 := all_stp T r2.1 e2.gd
 generalize allM T r2.1 r2.2 = r3 at *
 have e4 := two_stp T 3 a r3.1 e3.gd
 generalize twoM T 3 a r3.1 r3.2 = r4 at *
 have e5 := double_stp T a e4.gd
 generalize doubleM T a r4.2 = r5 at *
 have e6 := down_stp T b 1 e5.gd
 generalize downM T b 1 r5.2 = r6 at *
 have e7 := two_stp T 1 sum r4.1 e6.gd
 generalize twoM T 1 sum r4.1 r6.2 = r7 at *
 have h2 := ((((((hs.then e1).then e2).then e3).then e4).then e5).then e6).then e7
 have g6 := e6.ge
 have g7 := e7.ge
 have q5 := e5.p1
 have q6 := e6.p1
 exact ⟨h2,e5.p0,by dsimp only; omega,e6.p0,by dsimp only; omega⟩
theorem prods_stp (T : Nat → Int) {m : Mk} {k : Nat} {p : Pr} (h : PrOk k m p) : ∀ n,PrOk (k + n * 9) m (prodsM T n p)
 | 0 => by rw [Nat.zero_mul]; exact h
 | n + 1 => by
  have := prod_stp T (prods_stp T h n)
  rw [Nat.add_mul,Nat.one_mul,← Nat.add_assoc]
  exact this
structure DvOk (k : Nat) (m : Mk) (d : Dv) : Prop where
 s : Stp k m (d.left,d.m)
 r0 : 0 ≤ d.rest
 r1 : d.rest < d.m.sec.length
theorem step_stp (T : Nat → Int) (by' : Int) {k : Nat} {m : Mk} {d : Dv} (h : DvOk k m d) : DvOk (k + 16) m (stepM T by' d).2 ∧ 0 ≤ (stepM T by' d).1 ∧ (stepM T by' d).1 < (stepM T by' d).2.m.sec.length := by
 obtain ⟨rest,left,q⟩ := d
 have hs := h.s
 dsimp only at hs
 clear h
 unfold stepM
 dsimp only
 have e1 := double_stp T left hs.gd
 dsimp only at e1
 generalize doubleM T left q = r1 at *
 have e2 := top_stp T rest e1.gd
 generalize topM T rest r1.2 = r2 at *
 have e3 := two_stp T 4 r1.1 r2.1 e2.gd
 generalize twoM T 4 r1.1 r2.1 r2.2 = r3 at *
 have e4 := double_stp T rest e3.gd
 generalize doubleM T rest r3.2 = r4 at *
 have e5 := below_stp T r3.1 by' e4.gd
 generalize belowM T r3.1 by' r4.2 = r5 at *
 have e6 := num_stp T 1 e5.gd
 generalize numM T 1 r5.2 = r6 at *
 have e7 := two_stp T 2 r5.1 r6.1 e6.gd
 generalize twoM T 2 r5.1 r6.1 r6.2 = r7 at *
 have e8 := two_stp T 3 by' r7.1 e7.gd
 generalize twoM T 3 by' r7.1 r7.2 = r8 at *
 have e9 := two_stp T 2 r3.1 r8.1 e8.gd
 generalize twoM T 2 r3.1 r8.1 r8.2 = r9 at *
 have ht := ((((((((hs.then e1).then e2).then e3).then e4).then e5).then e6).then e7).then e8).then e9
 have g5 := e5.ge
 have g6 := e6.ge
 have g7 := e7.ge
 have g8 := e8.ge
 have g9 := e9.ge
 have q4 := e4.p1
 have q7 := e7.p1
 exact ⟨⟨ht,e4.p0,by dsimp only; omega⟩,e7.p0,by omega⟩
theorem rems_stp (T : Nat → Int) (by' : Int) {m : Mk} {k : Nat} {d : Dv} (h : DvOk k m d) : ∀ n,DvOk (k + n * 16) m (remsM T by' n d)
 | 0 => by rw [Nat.zero_mul]; exact h
 | n + 1 => by
  have := (step_stp T by' (rems_stp T by' h n)).1
  rw [Nat.add_mul,Nat.one_mul,← Nat.add_assoc]
  exact this
theorem quo_stp (T : Nat → Int) (by' : Int) {k : Nat} {m : Mk} {p : Int × Dv} (h : DvOk k m p.2) : DvOk (k + 18) m (quoM T by' p).2 ∧ 0 ≤ (quoM T by' p).1 ∧ (quoM T by' p).1 < (quoM T by' p).2.m.sec.length := by
 obtain ⟨often,d⟩ := p
 dsimp only at h
 obtain ⟨h1,h2,h3⟩ := step_stp T by' h
 unfold quoM
 dsimp only
 generalize stepM T by' d = r1 at *
 have hs := h1.s
 have hl := h1.s.p1
 have l0 := h1.s.p0
 have r0 := h1.r0
 have hr := h1.r1
 clear h1 h
 have e1 := double_stp T often hs.gd
 dsimp only at e1 hl l0
 generalize doubleM T often r1.2.m = r2 at *
 have e2 := two_stp T 2 r2.1 r1.1 e1.gd
 generalize twoM T 2 r2.1 r1.1 r2.2 = r3 at *
 obtain ⟨g,q0,q1,ge,c,s,hn⟩ := (hs.then e1).then e2
 have g1 := e1.ge
 have g2 := e2.ge
 exact ⟨⟨⟨g,l0,by dsimp only; omega,ge,c,s,hn⟩,r0,by dsimp only; omega⟩,e2.p0,e2.p1⟩
theorem quos_stp (T : Nat → Int) (by' : Int) {m : Mk} {k : Nat} {p : Int × Dv} (h : DvOk k m p.2) (h0 : 0 ≤ p.1) (h1 : p.1 < p.2.m.sec.length) : ∀ n,DvOk (k + n * 18) m (quosM T by' n p).2 ∧ 0 ≤ (quosM T by' n p).1 ∧ (quosM T by' n p).1 < (quosM T by' n p).2.m.sec.length
 | 0 => by rw [Nat.zero_mul]; exact ⟨h,h0,h1⟩
 | n + 1 => by
  have := quo_stp T by' (quos_stp T by' h h0 h1 n).1
  rw [Nat.add_mul,Nat.one_mul,← Nat.add_assoc]
  exact this
end Go.Proofs.Ytfbmkcogkiejnaa.Hg
