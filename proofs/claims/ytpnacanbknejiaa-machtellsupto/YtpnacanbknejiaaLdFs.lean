/- What has turned, and what has not: blocks, and cells of blocks. -/
import Derived.Test.YtpnacanbknejiaaGr1
import Derived.Test.YtpnacanbknejiaaGr0
import Derived.Laws.EntriesVeiled
import Derived.Laws.CopyOwn
namespace Go.Proofs.Ytpnacanbknejiaa.Lr
set_option linter.unusedVariables false
set_option linter.unusedSimpArgs false
open Go.ChangeShapes Go.WideShapes Go.ChangeAt Go.RowKit Lg
structure Fs (l : List Nat) (w w' : World) : Prop where
 os : w'.os = w.os
 tape : w'.tape = w.tape
 output : w'.output = w.output
 size : w.heap.size ≤ w'.heap.size
 block : ∀ k,k < w.heap.size → k ∉ l → w'.heap[k]? = w.heap[k]?
theorem Fs.refl (l : List Nat) (w : World) : Fs l w w := ⟨rfl,rfl,rfl,Nat.le_refl _,fun _ _ _ => rfl⟩
theorem Fs.trans {l : List Nat} {u v w : World} (h : Fs l u v) (k : Fs l v w) : Fs l u w :=
 ⟨k.os.trans h.os,k.tape.trans h.tape,k.output.trans h.output,Nat.le_trans h.size k.size,fun i hi hb => (k.block i (Nat.lt_of_lt_of_le hi h.size) hb).trans (h.block i hi hb)⟩
theorem Fs.of_below {l : List Nat} {w w' : World} (h : Below w.heap.size w w') : Fs l w w' := ⟨h.os,h.tape,h.output,h.size,fun k hk _ => h.block k hk⟩
theorem Fs.mono {l m : List Nat} {w w' : World} (h : Fs l w w') (hl : ∀ k ∈ l,k ∈ m) : Fs m w w' := ⟨h.os,h.tape,h.output,h.size,fun k hk hm => h.block k hk (fun hx => hm (hl k hx))⟩
theorem Fs.set {l : List Nat} {w w' : World} (h : Fs l w w') {b : Nat} (hb : b ∈ l) (k : Nat) (v : Value) : Fs l w (w'.setCell ⟨b,k,none⟩ v) :=
 ⟨h.os,h.tape,h.output,by rw [show (w'.setCell ⟨b,k,none⟩ v).heap.size = w'.heap.size by simp [World.setCell]]; exact h.size,fun i hi hl => by
  have hne : i ≠ b := fun e => hl (by rw [e]; exact hb)
  rw [Below.heap_setCell _ _ _ _ hne]; exact h.block i hi hl⟩
theorem Fs.below {l : List Nat} {B : Nat} {w w' : World} (h : Fs l w w') (hB : B ≤ w.heap.size) (hl : ∀ k ∈ l,B ≤ k) : Below B w w' :=
 ⟨h.os,h.tape,h.output,h.size,fun k hk => h.block k (by omega) (fun hx => by have := hl k hx; omega)⟩
structure Fh (B : Nat) (l : List Nat) (w w' : World) : Prop where
 os : w'.os = w.os
 tape : w'.tape = w.tape
 output : w'.output = w.output
 size : w.heap.size ≤ w'.heap.size
 block : ∀ k,k < B → k ∉ l → w'.heap[k]? = w.heap[k]?
theorem Fh.refl (B : Nat) (l : List Nat) (w : World) : Fh B l w w := ⟨rfl,rfl,rfl,Nat.le_refl _,fun _ _ _ => rfl⟩
theorem Fh.trans {B : Nat} {l : List Nat} {u v w : World} (h : Fh B l u v) (k : Fh B l v w) : Fh B l u w :=
 ⟨k.os.trans h.os,k.tape.trans h.tape,k.output.trans h.output,Nat.le_trans h.size k.size,fun i hi hb => (k.block i hi hb).trans (h.block i hi hb)⟩
theorem Fs.fh {B : Nat} {l : List Nat} {w w' : World} (h : Fs l w w') (hB : B ≤ w.heap.size) : Fh B l w w' := ⟨h.os,h.tape,h.output,h.size,fun k hk hl => h.block k (by omega) hl⟩
theorem Fh.fs {l : List Nat} {w w' : World} (h : Fh w.heap.size l w w') : Fs l w w' := ⟨h.os,h.tape,h.output,h.size,h.block⟩
theorem Fh.mono {B C : Nat} {l : List Nat} {w w' : World} (h : Fh B l w w') (hC : C ≤ B) : Fh C l w w' := ⟨h.os,h.tape,h.output,h.size,fun k hk hl => h.block k (by omega) hl⟩
theorem new_cell (w : World) (l : List Value) (ty : TypeId) (j : Nat) (u : Value) (h : l[j]? = some u) : (w.alloc (.cells l.toArray ty)).cell? ((⟨w.heap.size,0,none⟩ : Addr).add j) = some u := by
 have he : (⟨w.heap.size,0,none⟩ : Addr).add j = ⟨w.heap.size,j,none⟩ := by
  simp [Addr.add]
  intro h; omega
 rw [he,Lib.cell_of_heap (MapKept.heap_alloc w (.cells l.toArray ty)).1]
 rw [List.getElem?_toArray]; exact h
def Bk (w : World) (k : Nat) (l : List Value) (ty : TypeId) : Prop := w.heap[k]? = some (.cells l.toArray ty (0,0))
theorem Bk.cell {w : World} {k : Nat} {l : List Value} {ty : TypeId} (h : Bk w k l ty) (i : Nat) {u : Value} (hu : l[i]? = some u) : w.cell? ⟨k,i,none⟩ = some u := by
 rw [Lib.cell_of_heap h,List.getElem?_toArray]; exact hu
theorem Bk.fr {w : World} {k : Nat} {l : List Value} {ty : TypeId} (h : Bk w k l ty) (i : Nat) : w.frozen? ⟨k,i,none⟩ = false := Lib.frozen_of_heap h i
theorem Bk.lt {w : World} {k : Nat} {l : List Value} {ty : TypeId} (h : Bk w k l ty) : k < w.heap.size := (Array.getElem?_eq_some_iff.1 h).1
theorem Bk.set {w : World} {k : Nat} {l : List Value} {ty : TypeId} (h : Bk w k l ty) (i : Nat) (v : Value) : Bk (w.setCell ⟨k,i,none⟩ v) k (l.set i v) ty := by
 unfold Bk at h ⊢
 simp [World.setCell,Array.getElem?_modify,h]
theorem Bk.far {w : World} {k j : Nat} {l : List Value} {ty : TypeId} (h : Bk w k l ty) (i : Nat) (v : Value) (hne : k ≠ j) : Bk (w.setCell ⟨j,i,none⟩ v) k l ty := by
 unfold Bk at h ⊢
 rw [Below.heap_setCell _ _ _ _ hne]; exact h
theorem Bk.fs {w w' : World} {k : Nat} {l : List Value} {ty : TypeId} {m : List Nat} (h : Bk w k l ty) (hf : Fs m w w') (hk : k ∉ m) : Bk w' k l ty := by
 unfold Bk at h ⊢
 rw [hf.block k (Array.getElem?_eq_some_iff.1 h).1 hk]; exact h
theorem Bk.new (w : World) (l : List Value) (ty : TypeId) : Bk (w.alloc (.cells l.toArray ty)) w.heap.size l ty := (MapKept.heap_alloc w (.cells l.toArray ty)).1
theorem Bk.up {w : World} {k : Nat} {l : List Value} {ty : TypeId} (h : Bk w k l ty) (o : Obj) : Bk (w.alloc o) k l ty := h.fs (Fs.of_below (l:=[]) ((Below.refl _ _).alloc (Nat.le_refl _) o)) (by simp)
theorem Fs.row {l : List Nat} {w w' : World} (h : Fs l w w') {D : Nat} (hD : w.heap.size ≤ D) (cs : Array Value) : Fs l w (w'.setRow D cs) :=
 ⟨h.os,h.tape,h.output,by simp; exact h.size,fun k hk hl => by rw [setRow_other _ _ _ _ (by omega)]; exact h.block k hk hl⟩
end Go.Proofs.Ytpnacanbknejiaa.Lr
