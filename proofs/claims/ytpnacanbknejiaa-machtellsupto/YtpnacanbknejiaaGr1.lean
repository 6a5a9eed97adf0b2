/- Laid together: FlPlain, LrBase, LdIs. -/
import Derived.Test.YtpnacanbknejiaaGr0
import Derived.Test.YtpnacanbknejiaaProg
import Derived.ProofKit
import Derived.OpenShut
import Derived.Below
import Derived.Lib.Strings
import Derived.Lib.FrozenHead
import Derived.Lib.Builder
import Derived.Lib.Walk
import Derived.Lib.IndexBytes
import Derived.Deep.QuietTactic
import Derived.BigQuiet
import Derived.Deep.RegionHeld3
import Derived.Deep.DrawnRows
namespace Go.Proofs.Ytpnacanbknejiaa.Fl
set_option linter.unusedVariables false
set_option linter.unusedSimpArgs false
open Lg
structure Ix where
 op : Int
 d : Int
 a : Int
 b : Int
 c : Int
 imm : Int
structure Fx where
 code : List Ix
 sec : List Bool
 params : Int
 arrs : List Vr
def rds (i : Ix) : List Int := if 1 ≤ i.op ∧ i.op ≤ 12 then [i.a,i.b] else if i.op = 13 then [i.a,i.b,i.c] else if i.op = 17 then [i.a,i.d] else if i.op = 15 ∨ i.op = 16 ∨ i.op = 19 ∨ i.op = 20 then [i.a] else []
def mks (i : Ix) : Bool := decide (1 ≤ i.op) && decide (i.op ≤ 16)
def wi (p n : Int) : Bool := decide (0 ≤ p) && decide (p < n)
def gI (l : List Int) (k : Int) : Int := l.getD k.toNat 0
def gB (l : List Bool) (k : Int) : Bool := l.getD k.toNat false
def vB (l : List Vr) (k : Int) : Bool := (l[k.toNat]?.map (·.secret)).getD false
def rowA (A : List (List Int)) (b : Int) : List Int := A.getD b.toNat []
def ext (f : Fx) (at' : Int) (i : Ix) : Bool := if i.op = 14 then decide (0 ≤ i.imm) && decide (i.imm ≤ 4294967295) else if i.op = 16 ∨ i.op = 17 then wi i.b f.arrs.length else if i.op = 18 ∨ i.op = 19 then decide (at' < i.imm) && decide (i.imm < f.code.length) else true
def inR (f : Fx) (at' : Int) (i : Ix) : Bool := (!mks i || wi i.d f.sec.length) && (rds i).all (fun p => wi p f.sec.length) && ext f at' i
def spl (f : Fx) (i : Ix) : Bool := if i.op = 16 then gB f.sec i.a || vB f.arrs i.b && !gB f.sec i.d else if i.op = 17 then gB f.sec i.a || gB f.sec i.d && !vB f.arrs i.b else if i.op = 19 then gB f.sec i.a else mks i && !gB f.sec i.d && (rds i).any (gB f.sec)
def wrg (f : Fx) (at' : Int) (i : Ix) : Int := if i.op < 1 ∨ 21 < i.op then 1 else if inR f at' i = false then 3 else if spl f i = true then 10 else 0
def lst (op : Int) : Bool := decide (op = 18) || decide (op = 20) || decide (op = 21)
def endF (f : Fx) : Int × Int := match f.code.getLast? with
 | none => (0,-1)
 | some i => if lst i.op = true then (0,-1) else (8,f.code.length - 1)
def chkL (f : Fx) : Int → List Ix → Int × Int
 | _,[] => endF f
 | at',i :: l => if wrg f at' i = 0 then chkL f (at' + 1) l else (wrg f at' i,at')
def room (f : Fx) : Bool := !decide (f.code.length < 1) && !decide (12000 < f.code.length) && !decide (f.params < 0) && !decide ((f.sec.length : Int) < f.params)
def checkF (f : Fx) : Int × Int := if room f = true then chkL f 0 f.code else (4,-1)
theorem wi_iff {p n : Int} : wi p n = true ↔ 0 ≤ p ∧ p < n := by unfold wi; rw [Bool.and_eq_true,decide_eq_true_eq,decide_eq_true_eq]
def made (i : Ix) (P : List Int) (A : List (List Int)) : Int := if i.op = 13 then selP (gI P i.a) (gI P i.b) (gI P i.c) else if i.op = 14 then i.imm else if i.op = 15 then gI P i.a else if i.op = 16 then (rowA A i.b).getD (gI P i.a).toNat 0 else Wd.two i.op (gI P i.a) (gI P i.b)
def nx (i : Ix) (at' : Nat) (P : List Int) : Nat := if i.op = 18 then i.imm.toNat else if i.op = 19 ∧ gI P i.a = 0 then i.imm.toNat else at' + 1
def pl (i : Ix) (P : List Int) (A : List (List Int)) : List Int := if mks i = true then P.set i.d.toNat (made i P A) else P
def arr (i : Ix) (P : List Int) (A : List (List Int)) : List (List Int) := if i.op = 17 ∧ gI P i.a < (rowA A i.b).length then A.set i.b.toNat ((rowA A i.b).set (gI P i.a).toNat (gI P i.d)) else A
def bitOn (n : Int) (k : Nat) : Bool := decide (n / 2 ^ k % 2 = 1)
def valsL (n : Int) (P : List Int) : Nat → List Int → List Int
 | _,[] => []
 | k,p :: l => if bitOn n k = true then gI P p :: valsL n P (k + 1) l else valsL n P (k + 1) l
structure Lk where
 at' : Nat
 op : Int
 vs : List Int
structure En where
 word : Int
 trap : Bool
 arr : List (List Int)
theorem gI_word {P : List Int} (h : ∀ x ∈ P,isW x) (k : Int) : isW (gI P k) := by
 unfold gI
 rw [List.getD_eq_getElem?_getD]
 cases hv : P[k.toNat]? with
 | none => exact isW_zero
 | some v => exact h v (List.mem_of_getElem? hv)
theorem getD_word {l : List Int} (h : ∀ x ∈ l,isW x) (k : Nat) : isW (l.getD k 0) := by
 rw [List.getD_eq_getElem?_getD]
 cases hv : l[k]? with
 | none => exact isW_zero
 | some v => exact h v (List.mem_of_getElem? hv)
def ao (l : Lk) : Nat × Int := (l.at',l.op)
end Go.Proofs.Ytpnacanbknejiaa.Fl
namespace Go.Proofs.Ytpnacanbknejiaa.Lr
set_option linter.unusedVariables false
open Go.ChangeShapes Go.WideShapes Go.ChangeAt Go.RowKit Lg
theorem keep {p : Prop} (h : p) : Hid p := h
def first (e x : Int) : Int := if e = 0 then x else e
set_option linter.unusedSimpArgs false
structure ExAt (w : World) (g k : Nat) (e : Ex) (sl : Value) : Prop where
 c0 : w.cell? ⟨g,k,none⟩ = some (.int .i64 e.kind)
 c1 : w.cell? ⟨g,k + 1,none⟩ = some (.int .i64 e.n)
 c2 : w.cell? ⟨g,k + 2,none⟩ = some (.string ⟨e.name.toArray⟩)
 c3 : w.cell? ⟨g,k + 3,none⟩ = some sl
def ExIs (w : World) (B : Nat) : Nat → Ex → Value → Prop
 | 0,_,_ => False
 | m + 1,e,sl => (e.args = [] ∧ sl = .slice none 0 0) ∨ ∃ (g o cap : Nat),sl = .slice (some ⟨g,o,none⟩) e.args.length cap ∧ e.args.length ≤ cap ∧ e.args.length ≤ 281474976710656 ∧ g < B ∧
   ∀ j a,e.args[j]? = some a → ∃ sl',ExAt w g (o + j * 4) a sl' ∧ ExIs w B m a sl'
theorem ExAt.below {w w' : World} {B g k : Nat} {e : Ex} {sl : Value} (h : ExAt w g k e sl) (hb : Below B w w') (hg : g < B) : ExAt w' g k e sl := by
 have key : ∀ i,w'.cell? ⟨g,i,none⟩ = w.cell? ⟨g,i,none⟩ := fun i => by
  unfold World.cell?; simp only [hb.block g hg]
 exact ⟨by rw [key]; exact h.c0,by rw [key]; exact h.c1,by rw [key]; exact h.c2,by rw [key]; exact h.c3⟩
theorem ExIs.below {w w' : World} {B : Nat} (hb : Below B w w') : ∀ {m : Nat} {e : Ex} {sl : Value},ExIs w B m e sl → ExIs w' B m e sl
 | 0,_,_,h => h
 | m + 1,e,sl,h => by
  rcases h with h | ⟨g,o,cap,h1,h2,h5,h3,h4⟩
  ·exact .inl h
  ·exact .inr ⟨g,o,cap,h1,h2,h5,h3,fun j a hj => by
    obtain ⟨sl',k1,k2⟩ := h4 j a hj
    exact ⟨sl',k1.below hb h3,k2.below hb⟩⟩
theorem cell_below {w w' : World} {B g i : Nat} (hb : Below B w w') (hg : g < B) : w'.cell? ⟨g,i,none⟩ = w.cell? ⟨g,i,none⟩ := by
 unfold World.cell?; simp only [hb.block g hg]
theorem lt_of_cell {w : World} {g i : Nat} {v : Value} (h : w.cell? ⟨g,i,none⟩ = some v) : g < w.heap.size := by
 by_cases hg : g < w.heap.size
 ·exact hg
 ·unfold World.cell? at h
  simp only [Array.getElem?_eq_none (Nat.le_of_not_lt hg)] at h
  simp at h
theorem keep_cell {w w' : World} {g i : Nat} {v : Value} (hb : Below w.heap.size w w') (h : w.cell? ⟨g,i,none⟩ = some v) : w'.cell? ⟨g,i,none⟩ = some v := by
 rw [cell_below hb (lt_of_cell h)]; exact h
structure VrAt (w : World) (g k : Nat) (v : Vr) : Prop where
 c0 : w.cell? ⟨g,k,none⟩ = some (.string ⟨v.name.toArray⟩)
 c1 : w.cell? ⟨g,k + 1,none⟩ = some (.bool v.secret)
 c2 : w.cell? ⟨g,k + 2,none⟩ = some (.int .i64 v.size)
def VrIs (w : World) (B : Nat) (vs : List Vr) (sl : Value) : Prop := ∃ (p : Option Addr) (n cap : Nat),sl = .slice p n cap ∧ vs.length = n ∧ n ≤ cap ∧ n ≤ 281474976710656 ∧
  ∀ j v,vs[j]? = some v → ∃ g o,p = some ⟨g,o,none⟩ ∧ g < B ∧ VrAt w g (o + j * 3) v
theorem VrAt.below {w w' : World} {B g k : Nat} {v : Vr} (h : VrAt w g k v) (hb : Below B w w') (hg : g < B) : VrAt w' g k v :=
 ⟨by rw [cell_below hb hg]; exact h.c0,by rw [cell_below hb hg]; exact h.c1,by rw [cell_below hb hg]; exact h.c2⟩
theorem VrIs.below {w w' : World} {B : Nat} {vs : List Vr} {sl : Value} (hb : Below B w w') (h : VrIs w B vs sl) : VrIs w' B vs sl := by
 obtain ⟨p,n,cap,h1,h2,h3,h4,h5⟩ := h
 exact ⟨p,n,cap,h1,h2,h3,h4,fun j v hj => by
  obtain ⟨g,o,k1,k2,k3⟩ := h5 j v hj
  exact ⟨g,o,k1,k2,k3.below hb k2⟩⟩
def BD (w w' : World) : Prop := ∃ v : World,Below w.heap.size w v ∧ w'.heap = v.heap ∧ w'.os = v.os ∧ w'.tape = v.tape ∧ w'.output = v.output
theorem BD.out {w w' : World} (h : BD w w') : Below w.heap.size w w' := by
 obtain ⟨v,h1,e1,e2,e3,e4⟩ := h
 exact ⟨e2.trans h1.os,e3.trans h1.tape,e4.trans h1.output,by rw [e1]; exact h1.size,fun k hk => by rw [e1]; exact h1.block k hk⟩
structure StAt (w : World) (g k : Nat) (t : St) (s1 s2 s3 : Value) : Prop where
 c0 : w.cell? ⟨g,k,none⟩ = some (.int .i64 t.kind)
 c1 : w.cell? ⟨g,k + 1,none⟩ = some (.int .i64 t.n)
 c2 : w.cell? ⟨g,k + 2,none⟩ = some (.string ⟨t.name.toArray⟩)
 c3 : w.cell? ⟨g,k + 3,none⟩ = some (.bool t.secret)
 c4 : w.cell? ⟨g,k + 4,none⟩ = some s1
 c5 : w.cell? ⟨g,k + 5,none⟩ = some s2
 c6 : w.cell? ⟨g,k + 6,none⟩ = some s3
def ar (l : List Ex) : Ex := ⟨0,0,[],l⟩
def StIs (w : World) (B e : Nat) : Nat → List St → Value → Prop
 | 0,_,_ => False
 | m + 1,l,sl => ∃ (p : Option Addr) (n cap : Nat),sl = .slice p n cap ∧ l.length = n ∧ n ≤ cap ∧ n ≤ 281474976710656 ∧
   ∀ j t,l[j]? = some t → ∃ g o s1 s2 s3,p = some ⟨g,o,none⟩ ∧ g < B ∧ StAt w g (o + j * 7) t s1 s2 s3 ∧ ExIs w B (e + 1) (ar t.args) s1 ∧ StIs w B e m t.thn s2 ∧ StIs w B e m t.els s3
theorem StAt.below {w w' : World} {B g k : Nat} {t : St} {s1 s2 s3 : Value} (h : StAt w g k t s1 s2 s3) (hb : Below B w w') (hg : g < B) : StAt w' g k t s1 s2 s3 :=
 ⟨by rw [cell_below hb hg]; exact h.c0,by rw [cell_below hb hg]; exact h.c1,by rw [cell_below hb hg]; exact h.c2,by rw [cell_below hb hg]; exact h.c3,by rw [cell_below hb hg]; exact h.c4,by rw [cell_below hb hg]; exact h.c5,by rw [cell_below hb hg]; exact h.c6⟩
theorem StIs.below {w w' : World} {B e : Nat} (hb : Below B w w') : ∀ {m : Nat} {l : List St} {sl : Value},StIs w B e m l sl → StIs w' B e m l sl
 | 0,_,_,h => h
 | m + 1,l,sl,h => by
  obtain ⟨p,n,cap,h1,h2,h3,h4,h5⟩ := h
  exact ⟨p,n,cap,h1,h2,h3,h4,fun j t hj => by
   obtain ⟨g,o,s1,s2,s3,k1,k2,k3,k4,k5,k6⟩ := h5 j t hj
   exact ⟨g,o,s1,s2,s3,k1,k2,k3.below hb k2,k4.below hb,k5.below hb,k6.below hb⟩⟩
theorem StIs.slice {w : World} {B e : Nat} : ∀ {m : Nat} {l : List St} {sl : Value},StIs w B e m l sl → ∃ p n cap,sl = .slice p n cap
 | 0,_,_,h => h.elim
 | _ + 1,_,_,h => by
  obtain ⟨p,n,cap,h1,_⟩ := h
  exact ⟨p,n,cap,h1⟩
def FnIs (w : World) (B e m : Nat) (f : Lg.Fn) (v : Value) : Prop := ∃ s1 s2 s3,v = .agg #[s1,s2,s3] ∧ VrIs w B f.params s1 ∧ VrIs w B f.arrays s2 ∧ StIs w B e m f.body s3
theorem FnIs.below {w w' : World} {B e m : Nat} {f : Lg.Fn} {v : Value} (hb : Below B w w') (h : FnIs w B e m f v) : FnIs w' B e m f v := by
 obtain ⟨s1,s2,s3,h0,h1,h2,h3⟩ := h
 exact ⟨s1,s2,s3,h0,h1.below hb,h2.below hb,h3.below hb⟩
theorem VrIs.slice {w : World} {B : Nat} {l : List Vr} {sl : Value} (h : VrIs w B l sl) : ∃ p n cap,sl = .slice p n cap := by
 obtain ⟨p,n,cap,h1,_⟩ := h
 exact ⟨p,n,cap,h1⟩
end Go.Proofs.Ytpnacanbknejiaa.Lr
