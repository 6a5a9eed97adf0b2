/- Laid together: LrBase, LdIs, LdFs. -/
import Derived.Test.YtpnacanbknejiaaProg
import Derived.Test.YtpnacanbknejiaaGr0
import Derived.ProofKit
import Derived.OpenShut
import Derived.Below
import Derived.Lib.Strings
import Derived.Lib.FrozenHead
import Derived.Lib.Builder
import Derived.Lib.Walk
import Derived.Lib.IndexBytes
import Derived.Deep.QuietTactic
import Derived.BigQuiet
import Derived.Deep.RegionHeld3
import Derived.Deep.DrawnRows
import Derived.Laws.EntriesVeiled
import Derived.Laws.CopyOwn
namespace Go.Proofs.Ytpnacanbknejiaa.Lr
set_option linter.unusedVariables false
open Go.ChangeShapes Go.WideShapes Go.ChangeAt Go.RowKit Lg
theorem keep {p : Prop} (h : p) : Hid p := h
def first (e x : Int) : Int := if e = 0 then x else e
set_option linter.unusedSimpArgs false
structure ExAt (w : World) (g k : Nat) (e : Ex) (sl : Value) : Prop where
 c0 : w.cell? ⟨g,k,none⟩ = some (.int .i64 e.kind)
 c1 : w.cell? ⟨g,k + 1,none⟩ = some (.int .i64 e.n)
 c2 : w.cell? ⟨g,k + 2,none⟩ = some (.string ⟨e.name.toArray⟩)
 c3 : w.cell? ⟨g,k + 3,none⟩ = some sl
def ExIs (w : World) (B : Nat) : Nat → Ex → Value → Prop
 | 0,_,_ => False
 | m + 1,e,sl => (e.args = [] ∧ sl = .slice none 0 0) ∨ ∃ (g o cap : Nat),sl = .slice (some ⟨g,o,none⟩) e.args.length cap ∧ e.args.length ≤ cap ∧ e.args.length ≤ 281474976710656 ∧ g < B ∧
   ∀ j a,e.args[j]? = some a → ∃ sl',ExAt w g (o + j * 4) a sl' ∧ ExIs w B m a sl'
theorem ExAt.below {w w' : World} {B g k : Nat} {e : Ex} {sl : Value} (h : ExAt w g k e sl) (hb : Below B w w') (hg : g < B) : ExAt w' g k e sl := by
 have key : ∀ i,w'.cell? ⟨g,i,none⟩ = w.cell? ⟨g,i,none⟩ := fun i => by
  unfold World.cell?; simp only [hb.block g hg]
 exact ⟨by rw [key]; exact h.c0,by rw [key]; exact h.c1,by rw [key]; exact h.c2,by rw [key]; exact h.c3⟩
theorem ExIs.below {w w' : World} {B : Nat} (hb : Below B w w') : ∀ {m : Nat} {e : Ex} {sl : Value},ExIs w B m e sl → ExIs w' B m e sl
 | 0,_,_,h => h
 | m + 1,e,sl,h => by
  rcases h with h | ⟨g,o,cap,h1,h2,h5,h3,h4⟩
  ·exact .inl h
  ·exact .inr ⟨g,o,cap,h1,h2,h5,h3,fun j a hj => by
    obtain ⟨sl',k1,k2⟩ := h4 j a hj
    exact ⟨sl',k1.below hb h3,k2.below hb⟩⟩
theorem cell_below {w w' : World} {B g i : Nat} (hb : Below B w w') (hg : g < B) : w'.cell? ⟨g,i,none⟩ = w.cell? ⟨g,i,none⟩ := by
 unfold World.cell?; simp only [hb.block g hg]
theorem lt_of_cell {w : World} {g i : Nat} {v : Value} (h : w.cell? ⟨g,i,none⟩ = some v) : g < w.heap.size := by
 by_cases hg : g < w.heap.size
 ·exact hg
 ·unfold World.cell? at h
  simp only [Array.getElem?_eq_none (Nat.le_of_not_lt hg)] at h
  simp at h
theorem keep_cell {w w' : World} {g i : Nat} {v : Value} (hb : Below w.heap.size w w') (h : w.cell? ⟨g,i,none⟩ = some v) : w'.cell? ⟨g,i,none⟩ = some v := by
 rw [cell_below hb (lt_of_cell h)]; exact h
structure VrAt (w : World) (g k : Nat) (v : Vr) : Prop where
 c0 : w.cell? ⟨g,k,none⟩ = some (.string ⟨v.name.toArray⟩)
 c1 : w.cell? ⟨g,k + 1,none⟩ = some (.bool v.secret)
 c2 : w.cell? ⟨g,k + 2,none⟩ = some (.int .i64 v.size)
def VrIs (w : World) (B : Nat) (vs : List Vr) (sl : Value) : Prop := ∃ (p : Option Addr) (n cap : Nat),sl = .slice p n cap ∧ vs.length = n ∧ n ≤ cap ∧ n ≤ 281474976710656 ∧
  ∀ j v,vs[j]? = some v → ∃ g o,p = some ⟨g,o,none⟩ ∧ g < B ∧ VrAt w g (o + j * 3) v
theorem VrAt.below {w w' : World} {B g k : Nat} {v : Vr} (h : VrAt w g k v) (hb : Below B w w') (hg : g < B) : VrAt w' g k v :=
 ⟨by rw [cell_below hb hg]; exact h.c0,by rw [cell_below hb hg]; exact h.c1,by rw [cell_below hb hg]; exact h.c2⟩
theorem VrIs.below {w w' : World} {B : Nat} {vs : List Vr} {sl : Value} (hb : Below B w w') (h : VrIs w B vs sl) : VrIs w' B vs sl := by
 obtain ⟨p,n,cap,h1,h2,h3,h4,h5⟩ := h
 exact ⟨p,n,cap,h1,h2,h3,h4,fun j v hj => by
  obtain ⟨g,o,k1,k2,k3⟩ := h5 j v hj
  exact ⟨g,o,k1,k2,k3.below hb k2⟩⟩
def BD (w w' : World) : Prop := ∃ v : World,Below w.heap.size w v ∧ w'.heap = v.heap ∧ w'.os = v.os ∧ w'.tape = v.tape ∧ w'.output = v.output
theorem BD.out {w w' : World} (h : BD w w') : Below w.heap.size w w' := by
 obtain ⟨v,h1,e1,e2,e3,e4⟩ := h
 exact ⟨e2.trans h1.os,e3.trans h1.tape,e4.trans h1.output,by rw [e1]; exact h1.size,fun k hk => by rw [e1]; exact h1.block k hk⟩
theorem BD.of {w w' : World} (h : Below w.heap.size w w') : BD w w' := ⟨w',h,rfl,rfl,rfl,rfl⟩
structure StAt (w : World) (g k : Nat) (t : St) (s1 s2 s3 : Value) : Prop where
 c0 : w.cell? ⟨g,k,none⟩ = some (.int .i64 t.kind)
 c1 : w.cell? ⟨g,k + 1,none⟩ = some (.int .i64 t.n)
 c2 : w.cell? ⟨g,k + 2,none⟩ = some (.string ⟨t.name.toArray⟩)
 c3 : w.cell? ⟨g,k + 3,none⟩ = some (.bool t.secret)
 c4 : w.cell? ⟨g,k + 4,none⟩ = some s1
 c5 : w.cell? ⟨g,k + 5,none⟩ = some s2
 c6 : w.cell? ⟨g,k + 6,none⟩ = some s3
def ar (l : List Ex) : Ex := ⟨0,0,[],l⟩
def StIs (w : World) (B e : Nat) : Nat → List St → Value → Prop
 | 0,_,_ => False
 | m + 1,l,sl => ∃ (p : Option Addr) (n cap : Nat),sl = .slice p n cap ∧ l.length = n ∧ n ≤ cap ∧ n ≤ 281474976710656 ∧
   ∀ j t,l[j]? = some t → ∃ g o s1 s2 s3,p = some ⟨g,o,none⟩ ∧ g < B ∧ StAt w g (o + j * 7) t s1 s2 s3 ∧ ExIs w B (e + 1) (ar t.args) s1 ∧ StIs w B e m t.thn s2 ∧ StIs w B e m t.els s3
theorem StAt.below {w w' : World} {B g k : Nat} {t : St} {s1 s2 s3 : Value} (h : StAt w g k t s1 s2 s3) (hb : Below B w w') (hg : g < B) : StAt w' g k t s1 s2 s3 :=
 ⟨by rw [cell_below hb hg]; exact h.c0,by rw [cell_below hb hg]; exact h.c1,by rw [cell_below hb hg]; exact h.c2,by rw [cell_below hb hg]; exact h.c3,by rw [cell_below hb hg]; exact h.c4,by rw [cell_below hb hg]; exact h.c5,by rw [cell_below hb hg]; exact h.c6⟩
theorem StIs.below {w w' : World} {B e : Nat} (hb : Below B w w') : ∀ {m : Nat} {l : List St} {sl : Value},StIs w B e m l sl → StIs w' B e m l sl
 | 0,_,_,h => h
 | m + 1,l,sl,h => by
  obtain ⟨p,n,cap,h1,h2,h3,h4,h5⟩ := h
  exact ⟨p,n,cap,h1,h2,h3,h4,fun j t hj => by
   obtain ⟨g,o,s1,s2,s3,k1,k2,k3,k4,k5,k6⟩ := h5 j t hj
   exact ⟨g,o,s1,s2,s3,k1,k2,k3.below hb k2,k4.below hb,k5.below hb,k6.below hb⟩⟩
theorem StIs.slice {w : World} {B e : Nat} : ∀ {m : Nat} {l : List St} {sl : Value},StIs w B e m l sl → ∃ p n cap,sl = .slice p n cap
 | 0,_,_,h => h.elim
 | _ + 1,_,_,h => by
  obtain ⟨p,n,cap,h1,_⟩ := h
  exact ⟨p,n,cap,h1⟩
def FnIs (w : World) (B e m : Nat) (f : Lg.Fn) (v : Value) : Prop := ∃ s1 s2 s3,v = .agg #[s1,s2,s3] ∧ VrIs w B f.params s1 ∧ VrIs w B f.arrays s2 ∧ StIs w B e m f.body s3
theorem FnIs.below {w w' : World} {B e m : Nat} {f : Lg.Fn} {v : Value} (hb : Below B w w') (h : FnIs w B e m f v) : FnIs w' B e m f v := by
 obtain ⟨s1,s2,s3,h0,h1,h2,h3⟩ := h
 exact ⟨s1,s2,s3,h0,h1.below hb,h2.below hb,h3.below hb⟩
theorem VrIs.slice {w : World} {B : Nat} {l : List Vr} {sl : Value} (h : VrIs w B l sl) : ∃ p n cap,sl = .slice p n cap := by
 obtain ⟨p,n,cap,h1,_⟩ := h
 exact ⟨p,n,cap,h1⟩
set_option linter.unusedSimpArgs false
structure Fs (l : List Nat) (w w' : World) : Prop where
 os : w'.os = w.os
 tape : w'.tape = w.tape
 output : w'.output = w.output
 size : w.heap.size ≤ w'.heap.size
 block : ∀ k,k < w.heap.size → k ∉ l → w'.heap[k]? = w.heap[k]?
theorem Fs.refl (l : List Nat) (w : World) : Fs l w w := ⟨rfl,rfl,rfl,Nat.le_refl _,fun _ _ _ => rfl⟩
theorem Fs.trans {l : List Nat} {u v w : World} (h : Fs l u v) (k : Fs l v w) : Fs l u w :=
 ⟨k.os.trans h.os,k.tape.trans h.tape,k.output.trans h.output,Nat.le_trans h.size k.size,fun i hi hb => (k.block i (Nat.lt_of_lt_of_le hi h.size) hb).trans (h.block i hi hb)⟩
theorem Fs.of_below {l : List Nat} {w w' : World} (h : Below w.heap.size w w') : Fs l w w' := ⟨h.os,h.tape,h.output,h.size,fun k hk _ => h.block k hk⟩
theorem Fs.mono {l m : List Nat} {w w' : World} (h : Fs l w w') (hl : ∀ k ∈ l,k ∈ m) : Fs m w w' := ⟨h.os,h.tape,h.output,h.size,fun k hk hm => h.block k hk (fun hx => hm (hl k hx))⟩
theorem Fs.set {l : List Nat} {w w' : World} (h : Fs l w w') {b : Nat} (hb : b ∈ l) (k : Nat) (v : Value) : Fs l w (w'.setCell ⟨b,k,none⟩ v) :=
 ⟨h.os,h.tape,h.output,by rw [show (w'.setCell ⟨b,k,none⟩ v).heap.size = w'.heap.size by simp [World.setCell]]; exact h.size,fun i hi hl => by
  have hne : i ≠ b := fun e => hl (by rw [e]; exact hb)
  rw [Below.heap_setCell _ _ _ _ hne]; exact h.block i hi hl⟩
theorem Fs.below {l : List Nat} {B : Nat} {w w' : World} (h : Fs l w w') (hB : B ≤ w.heap.size) (hl : ∀ k ∈ l,B ≤ k) : Below B w w' :=
 ⟨h.os,h.tape,h.output,h.size,fun k hk => h.block k (by omega) (fun hx => by have := hl k hx; omega)⟩
structure Fh (B : Nat) (l : List Nat) (w w' : World) : Prop where
 os : w'.os = w.os
 tape : w'.tape = w.tape
 output : w'.output = w.output
 size : w.heap.size ≤ w'.heap.size
 block : ∀ k,k < B → k ∉ l → w'.heap[k]? = w.heap[k]?
theorem Fh.refl (B : Nat) (l : List Nat) (w : World) : Fh B l w w := ⟨rfl,rfl,rfl,Nat.le_refl _,fun _ _ _ => rfl⟩
theorem Fh.trans {B : Nat} {l : List Nat} {u v w : World} (h : Fh B l u v) (k : Fh B l v w) : Fh B l u w :=
 ⟨k.os.trans h.os,k.tape.trans h.tape,k.output.trans h.output,Nat.le_trans h.size k.size,fun i hi hb => (k.block i hi hb).trans (h.block i hi hb)⟩
theorem Fh.fs {l : List Nat} {w w' : World} (h : Fh w.heap.size l w w') : Fs l w w' := ⟨h.os,h.tape,h.output,h.size,h.block⟩
theorem Fh.mono {B C : Nat} {l : List Nat} {w w' : World} (h : Fh B l w w') (hC : C ≤ B) : Fh C l w w' := ⟨h.os,h.tape,h.output,h.size,fun k hk hl => h.block k (by omega) hl⟩
theorem new_cell (w : World) (l : List Value) (ty : TypeId) (j : Nat) (u : Value) (h : l[j]? = some u) : (w.alloc (.cells l.toArray ty)).cell? ((⟨w.heap.size,0,none⟩ : Addr).add j) = some u := by
 have he : (⟨w.heap.size,0,none⟩ : Addr).add j = ⟨w.heap.size,j,none⟩ := by
  simp [Addr.add]
  intro h; omega
 rw [he,Lib.cell_of_heap (MapKept.heap_alloc w (.cells l.toArray ty)).1]
 rw [List.getElem?_toArray]; exact h
def Bk (w : World) (k : Nat) (l : List Value) (ty : TypeId) : Prop := w.heap[k]? = some (.cells l.toArray ty (0,0))
theorem Bk.cell {w : World} {k : Nat} {l : List Value} {ty : TypeId} (h : Bk w k l ty) (i : Nat) {u : Value} (hu : l[i]? = some u) : w.cell? ⟨k,i,none⟩ = some u := by
 rw [Lib.cell_of_heap h,List.getElem?_toArray]; exact hu
theorem Bk.fr {w : World} {k : Nat} {l : List Value} {ty : TypeId} (h : Bk w k l ty) (i : Nat) : w.frozen? ⟨k,i,none⟩ = false := Lib.frozen_of_heap h i
theorem Bk.lt {w : World} {k : Nat} {l : List Value} {ty : TypeId} (h : Bk w k l ty) : k < w.heap.size := (Array.getElem?_eq_some_iff.1 h).1
theorem Bk.set {w : World} {k : Nat} {l : List Value} {ty : TypeId} (h : Bk w k l ty) (i : Nat) (v : Value) : Bk (w.setCell ⟨k,i,none⟩ v) k (l.set i v) ty := by
 unfold Bk at h ⊢
 simp [World.setCell,Array.getElem?_modify,h]
theorem Bk.far {w : World} {k j : Nat} {l : List Value} {ty : TypeId} (h : Bk w k l ty) (i : Nat) (v : Value) (hne : k ≠ j) : Bk (w.setCell ⟨j,i,none⟩ v) k l ty := by
 unfold Bk at h ⊢
 rw [Below.heap_setCell _ _ _ _ hne]; exact h
theorem Bk.fs {w w' : World} {k : Nat} {l : List Value} {ty : TypeId} {m : List Nat} (h : Bk w k l ty) (hf : Fs m w w') (hk : k ∉ m) : Bk w' k l ty := by
 unfold Bk at h ⊢
 rw [hf.block k (Array.getElem?_eq_some_iff.1 h).1 hk]; exact h
theorem Bk.new (w : World) (l : List Value) (ty : TypeId) : Bk (w.alloc (.cells l.toArray ty)) w.heap.size l ty := (MapKept.heap_alloc w (.cells l.toArray ty)).1
theorem Bk.up {w : World} {k : Nat} {l : List Value} {ty : TypeId} (h : Bk w k l ty) (o : Obj) : Bk (w.alloc o) k l ty := h.fs (Fs.of_below (l:=[]) ((Below.refl _ _).alloc (Nat.le_refl _) o)) (by simp)
theorem Fs.row {l : List Nat} {w w' : World} (h : Fs l w w') {D : Nat} (hD : w.heap.size ≤ D) (cs : Array Value) : Fs l w (w'.setRow D cs) :=
 ⟨h.os,h.tape,h.output,by simp; exact h.size,fun k hk hl => by rw [setRow_other _ _ _ _ (by omega)]; exact h.block k hk hl⟩
end Go.Proofs.Ytpnacanbknejiaa.Lr
