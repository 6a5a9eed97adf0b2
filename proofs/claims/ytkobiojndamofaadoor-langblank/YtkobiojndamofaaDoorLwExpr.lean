/- The program's own reader: expressions. -/
import Derived.Test.YtkobiojndamofaaDoorLwExprs
namespace Go.Proofs.YtkobiojndamofaaDoor.Lr
set_option linter.unusedVariables false
open Go.ChangeShapes Go.WideShapes Go.ChangeAt Go.RowKit Lg

/-- Block k holds these cells. -/
def Bk (w : World) (k : Nat) (l : List Value) (ty : TypeId) : Prop := w.heap[k]? = some (.cells l.toArray ty (0, 0))
theorem Bk.cell {w : World} {k : Nat} {l : List Value} {ty : TypeId} (h : Bk w k l ty) (i : Nat) {u : Value} (hu : l[i]? = some u) : w.cell? ⟨k, i, none⟩ = some u := by
  rw [Lib.cell_of_heap h, List.getElem?_toArray]; exact hu
theorem Bk.fr {w : World} {k : Nat} {l : List Value} {ty : TypeId} (h : Bk w k l ty) (i : Nat) : w.frozen? ⟨k, i, none⟩ = false := Lib.frozen_of_heap h i
theorem Bk.lt {w : World} {k : Nat} {l : List Value} {ty : TypeId} (h : Bk w k l ty) : k < w.heap.size := (Array.getElem?_eq_some_iff.1 h).1
theorem Bk.set {w : World} {k : Nat} {l : List Value} {ty : TypeId} (h : Bk w k l ty) (i : Nat) (v : Value) : Bk (w.setCell ⟨k, i, none⟩ v) k (l.set i v) ty := by
  unfold Bk at h ⊢
  simp [World.setCell, Array.getElem?_modify, h]
theorem Bk.far {w : World} {k j : Nat} {l : List Value} {ty : TypeId} (h : Bk w k l ty) (i : Nat) (v : Value) (hne : k ≠ j) : Bk (w.setCell ⟨j, i, none⟩ v) k l ty := by
  unfold Bk at h ⊢
  rw [Below.heap_setCell _ _ _ _ hne]; exact h
theorem Bk.fs {w w' : World} {k : Nat} {l : List Value} {ty : TypeId} {m : List Nat} (h : Bk w k l ty) (hf : Fs m w w') (hk : k ∉ m) : Bk w' k l ty := by
  unfold Bk at h ⊢
  rw [hf.block k (Array.getElem?_eq_some_iff.1 h).1 hk]; exact h
theorem Bk.new (w : World) (l : List Value) (ty : TypeId) : Bk (w.alloc (.cells l.toArray ty)) w.heap.size l ty := (MapKept.heap_alloc w (.cells l.toArray ty)).1
theorem Bk.up {w : World} {k : Nat} {l : List Value} {ty : TypeId} (h : Bk w k l ty) (o : Obj) : Bk (w.alloc o) k l ty := h.fs (Fs.of_below (l := []) ((Below.refl _ _).alloc (Nat.le_refl _) o)) (by simp)
theorem Fs.up {l : List Nat} {w w' : World} (h : Fs l w w') (o : Obj) : Fs l w (w'.alloc o) := h.trans (Fs.of_below ((Below.refl _ _).alloc (Nat.le_refl _) o))
theorem RB.up {w : World} {b c : Nat} {s : ByteArray} {e : Int} (h : RB w b c s e) (o : Obj) : RB (w.alloc o) b c s e := h.below ((Below.refl _ _).alloc (Nat.le_refl _) o)
/-- The reader's blocks are others. -/
theorem RB.set {w : World} {b c : Nat} {s : ByteArray} {e : Int} (h : RB w b c s e) {k : Nat} (hb : b ≠ k) (hc : c ≠ k) (i : Nat) (v : Value) : RB (w.setCell ⟨k, i, none⟩ v) b c s e :=
  ⟨by rw [Below.heap_setCell _ _ _ _ hb]; exact h.1, by show (w.setCell ⟨k, i, none⟩ v).heap[c]? = _; rw [Below.heap_setCell _ _ _ _ hc]; exact h.2⟩

theorem wrap_up (m : Nat) (hm : m ≤ 9) : wrap64 (8 - (m : Int) + 1) = 9 - (m : Int) := by
  have h : wrap64 (8 - (m : Int) + 1) = 8 - (m : Int) + 1 := by
    unfold wrap64; omega
  omega
set_option maxHeartbeats 1000000 in
set_option maxRecDepth 100000 in
/-- What is read of an expression's parts is laid in its block. -/
theorem made1_rd (m : Nat) (hm : m ≤ 9) (ih : ExprOK m) (b c R A E n : Nat) (hn : n ≤ 3) (k k0 n0 : Int) (nm : ByteArray) (sl0 : Value) (s : ByteArray) (e : Int) (w : World) (hs : s.size < 4294967281) (h : RB w b c s e) (ht : Tabs w) (hg : GL b ∧ GL c)
    (hR : Bk w R [.pointer (some ⟨b, 0, none⟩)] 40) (hA : Bk w A [.int .i64 (8 - (m : Int))] 3) (hE : Bk w E [.int .i64 k0, .int .i64 n0, .string nm, sl0] 39) (hbE : b ≠ E) (hcE : c ≠ E) :
    Calls Tryd.prog 96 #[.int .i64 k, .int .i64 (n : Int), .pointer (some ⟨R, 0, none⟩), .pointer (some ⟨A, 0, none⟩), .pointer (some ⟨E, 0, none⟩)] w fun r w' => r = .returned (.tuple #[]) ∧ ∃ (us : List Ex) (sl : Value),
      Bk w' E [.int .i64 k, .int .i64 n0, .string nm, sl] 39 ∧ ExX w' (New w w') (m + 2) (ar us) sl ∧ Rd w' b c s.size e (manyT (exprT m) n (words s.data.toList)) (fun a => a = us) ∧ Fs [b, c, E] w w' := by
  have HC := keep (exprs_rd m ih b c n hn s e w hs h ht hg)
  have r0 := hR.cell 0 rfl
  have a0 := hA.cell 0 rfl
  have HE := keep hE
  have hEl := hE.lt
  have hw8 := wrap_up m hm
  generalize 9 - (m : Int) = a9 at *
  generalize 8 - (m : Int) = a8 at *
  clear h ht hg hR hA hE
  go_enter Tryd.func96, Tryd.ntmps96
  go_wp2_with fail
  refine HC.out.mono ?_
  rintro r w1 ⟨us, sl, rfl, hex, hrd, hf⟩
  obtain ⟨p, q, cap, rfl⟩ := hex.slice
  have HE1 := keep (HE.out.fs hf (by simp; exact ⟨Ne.symm hbE, Ne.symm hcE⟩))
  have hs1 := hf.size
  have HE2 := keep (HE1.out.set 0 (.int .i64 k))
  have HE3 := keep (HE2.out.set 3 (.slice p q cap))
  have HF1 := keep (hf.mono (m := [b, c, E]) (by simp))
  have HF3 := keep ((HF1.out.set (b := E) (by simp) 0 (.int .i64 k)).set (b := E) (by simp) 3 (.slice p q cap))
  have HX := keep (ExX.keep (w' := (w1.setCell ⟨E, 0, none⟩ (.int .i64 k)).setCell ⟨E, 3, none⟩ (.slice p q cap)) (fun i (hi : New w w1 i) => by
    have : i ≠ E := by have := hi.1; omega
    rw [Below.heap_setCell _ _ _ _ this, Below.heap_setCell _ _ _ _ this]) hex)
  have HRd := keep hrd
  have hc0 := HE1.out.cell 0 rfl
  have hf0 := HE1.out.fr 0
  have hc3 := HE2.out.cell 3 rfl
  have hf3 := HE2.out.fr 3
  clear hf hex hrd HC HE r0 a0
  go_wp2
  go_end0
  obtain ⟨s1, e1, hp, hn1, h1, h2⟩ := HRd.out
  refine ⟨rfl, us, _, HE3.out, ?_, ⟨s1, e1, (hp.set hbE hcE 0 _).set hbE hcE 3 _, hn1, h1, h2⟩, HF3.out⟩
  exact ExX.mono (fun i hi => ⟨hi.1, by simp [World.setCell]; exact hi.2⟩) HX.out

theorem idx_miss (l : List (List UInt8)) (W : List UInt8) (h : W ∉ l) : Lib.idxOfS ((bys l).take l.length) ⟨W.toArray⟩ = -1 := by
  refine Lib.idxOfS_miss (bys l) l.length _ fun j hj e => h ?_
  have hj' : j < (bys l).length := by rw [bys_len]; exact hj
  have hm : (bys l).getD j ByteArray.empty ∈ bys l := by
    rw [List.getD_eq_getElem?_getD, List.getElem?_eq_getElem hj']; exact List.getElem_mem _
  rw [e, mem_bys] at hm
  exact hm
theorem idx_signs (W : List UInt8) : Lib.idxOfS ((bys signs).take 12) ⟨W.toArray⟩ = (signOf W : Int) - 1 := by
  by_cases h : W ∈ signs
  · simp only [signs, List.mem_cons, List.not_mem_nil, or_false] at h
    rcases h with rfl | rfl | rfl | rfl | rfl | rfl | rfl | rfl | rfl | rfl | rfl | rfl <;> rfl
  · have h1 := idx_miss signs W h
    rw [show signs.length = 12 from rfl] at h1
    rw [h1]
    unfold signOf
    rw [if_neg h]; rfl

/-- How things stand while an expression is read that is made of others: its own variables. -/
structure MS (w W : World) (b c : Nat) (a : Int) (l : List Value) : Prop where
  fs : Fs [b, c] w W
  R : Bk W w.heap.size [.pointer (some ⟨b, 0, none⟩)] 40
  A : Bk W (w.heap.size + 1) [.int .i64 a] 3
  D : Bk W (w.heap.size + 1 + 1) [.int .i64 0, .int .i64 0, .string ⟨#[]⟩, .slice none 0 0] 39
  E : Bk W (w.heap.size + 1 + 1 + 1) l 39
theorem MS.step {w W W' : World} {b c : Nat} {a : Int} {l : List Value} (h : MS w W b c a l) (hb : b < w.heap.size) (hc : c < w.heap.size) (k : Fs [b, c] W W') : MS w W' b c a l :=
  ⟨h.fs.trans k, h.R.fs k (by simp; omega), h.A.fs k (by simp; omega), h.D.fs k (by simp; omega), h.E.fs k (by simp; omega)⟩
theorem MS.stepE {w W W' : World} {b c : Nat} {a : Int} {l l' : List Value} (h : MS w W b c a l) (hb : b < w.heap.size) (hc : c < w.heap.size) (k : Fs [b, c, w.heap.size + 1 + 1 + 1] W W') (hE : Bk W' (w.heap.size + 1 + 1 + 1) l' 39) : MS w W' b c a l' :=
  ⟨⟨k.os.trans h.fs.os, k.tape.trans h.fs.tape, k.output.trans h.fs.output, Nat.le_trans h.fs.size k.size, fun i hi hl => (k.block i (Nat.lt_of_lt_of_le hi h.fs.size) (by simp at hl ⊢; omega)).trans (h.fs.block i hi hl)⟩,
    h.R.fs k (by simp; omega), h.A.fs k (by simp; omega), h.D.fs k (by simp; omega), hE⟩
theorem MS.set {w W : World} {b c : Nat} {a : Int} {l : List Value} (h : MS w W b c a l) (i : Nat) (v : Value) : MS w (W.setCell ⟨w.heap.size + 1 + 1 + 1, i, none⟩ v) b c a (l.set i v) :=
  ⟨⟨h.fs.os, h.fs.tape, h.fs.output, by simp [World.setCell]; exact h.fs.size, fun k hk hl => by
      rw [Below.heap_setCell _ _ _ _ (by show k ≠ w.heap.size + 1 + 1 + 1; omega)]; exact h.fs.block k hk hl⟩, h.R.far _ _ (by omega), h.A.far _ _ (by omega), h.D.far _ _ (by omega), h.E.set i v⟩
/-- The world in which an expression's parts are read. -/
def madeW (w : World) (b : Nat) (a : Int) : World := (((w.alloc (.cells #[.pointer (some ⟨b, 0, none⟩)] 40)).alloc (.cells #[.int .i64 a] 3)).alloc (.cells #[.int .i64 0, .int .i64 0, .string ⟨#[]⟩, .slice none 0 0] 39)).alloc (.cells #[.int .i64 0, .int .i64 0, .string ⟨#[]⟩, .slice none 0 0] 39)
theorem madeW_ms (w : World) (b c : Nat) (a : Int) : MS w (madeW w b a) b c a [.int .i64 0, .int .i64 0, .string ⟨#[]⟩, .slice none 0 0] := by
  unfold madeW
  have e1 : ∀ (v : World) (o : Obj), (v.alloc o).heap.size = v.heap.size + 1 := fun v o => by simp
  refine ⟨((((Fs.refl _ w).up _).up _).up _).up _, (((Bk.new w [.pointer (some ⟨b, 0, none⟩)] 40).up _).up _).up _, ?_, ?_, ?_⟩
  · have h := ((Bk.new (w.alloc (.cells #[.pointer (some ⟨b, 0, none⟩)] 40)) [.int .i64 a] 3).up (.cells #[.int .i64 0, .int .i64 0, .string ⟨#[]⟩, .slice none 0 0] 39)).up (.cells #[.int .i64 0, .int .i64 0, .string ⟨#[]⟩, .slice none 0 0] 39)
    rw [e1] at h; exact h
  · have h := (Bk.new ((w.alloc (.cells #[.pointer (some ⟨b, 0, none⟩)] 40)).alloc (.cells #[.int .i64 a] 3)) [.int .i64 0, .int .i64 0, .string ⟨#[]⟩, .slice none 0 0] 39).up (.cells #[.int .i64 0, .int .i64 0, .string ⟨#[]⟩, .slice none 0 0] 39)
    rw [e1, e1] at h; exact h
  · have h := Bk.new (((w.alloc (.cells #[.pointer (some ⟨b, 0, none⟩)] 40)).alloc (.cells #[.int .i64 a] 3)).alloc (.cells #[.int .i64 0, .int .i64 0, .string ⟨#[]⟩, .slice none 0 0] 39)) [.int .i64 0, .int .i64 0, .string ⟨#[]⟩, .slice none 0 0] 39
    rw [e1, e1, e1] at h; exact h
theorem info_E (l : List Value) (h : l.length = 4) : (Tryd.prog.info? 39).map (·.size) = some l.toArray.size := by
  rw [List.size_toArray, h]; kernel_rfl
/-- What stands behind the bracket of an expression that is made of others. -/
def madeT (m : Nat) (r : List (List UInt8)) : Res Ex := andT (next r) fun k q => andT (headT k q) fun h q => andT (manyT (exprT m) (arity h.1) q) fun as_ q => andT (want [41] q) fun _ q => .ok (⟨h.1, h.2.1, h.2.2, as_⟩, q)
/-- Behind the parts: the bracket; what is read is handed back. -/
theorem Fs.row {l : List Nat} {w w' : World} (h : Fs l w w') {D : Nat} (hD : w.heap.size ≤ D) (cs : Array Value) : Fs l w (w'.setRow D cs) :=
  ⟨h.os, h.tape, h.output, by simp; exact h.size, fun k hk hl => by rw [setRow_other _ _ _ _ (by omega)]; exact h.block k hk hl⟩
theorem RB.row {w : World} {b c : Nat} {s : ByteArray} {e : Int} (h : RB w b c s e) {D : Nat} (hb : b ≠ D) (hc : c ≠ D) (cs : Array Value) : RB (w.setRow D cs) b c s e :=
  ⟨by rw [setRow_other _ _ _ _ hb]; exact h.1, by show (w.setRow D cs).heap[c]? = _; rw [setRow_other _ _ _ _ hc]; exact h.2⟩
end Go.Proofs.YtkobiojndamofaaDoor.Lr
