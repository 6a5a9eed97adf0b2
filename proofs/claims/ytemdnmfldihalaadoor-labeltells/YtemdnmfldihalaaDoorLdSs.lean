/- The document's own reader: how things stand while a statement is read. Written by tools/gen_dstmt.py. -/
import Derived.Test.YtemdnmfldihalaaDoorLdKind
namespace Go.Proofs.YtemdnmfldihalaaDoor.Lr
set_option linter.unusedVariables false
set_option linter.unusedSimpArgs false
open Go.ChangeShapes Go.WideShapes Go.ChangeAt Go.RowKit Lg Rf

structure SS (w W : World) (b S : Nat) (l : List Value) : Prop where
  fs : Fs [b] w W
  D : Bk W w.heap.size [.int .i64 0, .int .i64 0, .string ⟨#[]⟩, .bool false, .slice none 0 0, .slice none 0 0, .slice none 0 0] 67
  S : Bk W S l 67
theorem SS.step {w W W' : World} {b S : Nat} {l : List Value} (h : SS w W b S l) (hb : b < w.heap.size) (hS : w.heap.size < S) (k : Fs [b] W W') : SS w W' b S l :=
  ⟨h.fs.trans k, h.D.fs k (by simp; omega), h.S.fs k (by simp; omega)⟩
theorem SS.set {w W : World} {b S : Nat} {l : List Value} (h : SS w W b S l) (hS : w.heap.size < S) (i : Nat) (v : Value) : SS w (W.setCell ⟨S, i, none⟩ v) b S (l.set i v) :=
  ⟨⟨h.fs.os, h.fs.tape, h.fs.output, by simp [World.setCell]; exact h.fs.size, fun k hk hl => by
      rw [Below.heap_setCell _ _ _ _ (by show k ≠ S; omega)]; exact h.fs.block k hk hl⟩, h.D.far _ _ (by omega), h.S.set i v⟩
theorem SS.grow {w W W' : World} {b S : Nat} {l : List Value} (h : SS w W b S l) (hS : w.heap.size < S) (os : W'.os = W.os) (tape : W'.tape = W.tape) (output : W'.output = W.output) (size : W.heap.size ≤ W'.heap.size) (k : ∀ i, i ≤ S → W'.heap[i]? = W.heap[i]?) : SS w W' b S l :=
  ⟨⟨os.trans h.fs.os, tape.trans h.fs.tape, output.trans h.fs.output, Nat.le_trans h.fs.size size, fun i hi hl => (k i (by omega)).trans (h.fs.block i hi hl)⟩,
    by have := h.D; unfold Bk at this ⊢; rw [k _ (by omega)]; exact this, by have := h.S; unfold Bk at this ⊢; rw [k _ (Nat.le_refl _)]; exact this⟩
def stmtW (w : World) : World := w.alloc (.cells #[.int .i64 0, .int .i64 0, .string ⟨#[]⟩, .bool false, .slice none 0 0, .slice none 0 0, .slice none 0 0] 67)
theorem many_one_eq {α : Type} (g : List (List UInt8) → Res Ex) (l : List (List UInt8)) (k : List Ex → List (List UInt8) → Res α) : andT (manyT g 1 l) k = andT (g l) fun a l => k [a] l := by
  rw [manyT]
  cases g l with
  | error e => rfl
  | ok p => rfl
theorem many_two_eq {α : Type} (g : List (List UInt8) → Res Ex) (l : List (List UInt8)) (k : List Ex → List (List UInt8) → Res α) : andT (manyT g 2 l) k = andT (g l) fun a l => andT (g l) fun b l => k [a, b] l := by
  rw [manyT]
  cases g l with
  | error e => rfl
  | ok p =>
    obtain ⟨a, r⟩ := p
    show andT (andT (manyT g 1 r) _) k = andT (g r) _
    rw [manyT]
    cases g r with
    | error e => rfl
    | ok p => rfl
theorem many_zero_eq {α : Type} (g : List (List UInt8) → Res Ex) (l : List (List UInt8)) (k : List Ex → List (List UInt8) → Res α) : andT (manyT g 0 l) k = k [] l := rfl
theorem StX.stay {w w' : World} {X : Nat → Prop} {m : Nat} {l : List St} {sl : Value} (h : StX w X m l sl) (hb : ∀ i, X i → w'.heap[i]? = w.heap[i]?) : StX w' X m l sl := StX.keep hb h
theorem rd_eq {α : Type} {w : World} {b n : Nat} {e : Int} {res res' : Res α} {post : α → Prop} (h : res = res') (k : Rd w b n e res post) : Rd w b n e res' post := h ▸ k
/-- A statement's result, nothing in it. -/
theorem nestS_zero (m : Nat) (w : World) (X : Nat → Prop) : nestS (m + 1) w X (⟨0, 0, [], false, [], [], []⟩, .slice none 0 0, .slice none 0 0, .slice none 0 0) := ⟨.inl ⟨rfl, rfl⟩, StX.none m, StX.none m⟩

set_option maxHeartbeats 2000000 in
set_option maxRecDepth 100000 in
theorem stmt_zero : StmtOK 0 := by
  intro b s e w hs h ht hg
  have hbl := h.lt
  have HC := keep (bad_any b s e 9 (stmtW w) (h.up _))
  have HD0 : Hid (Bk (stmtW w) w.heap.size [.int .i64 0, .int .i64 0, .string ⟨#[]⟩, .bool false, .slice none 0 0, .slice none 0 0, .slice none 0 0] 67) := Bk.new w [.int .i64 0, .int .i64 0, .string ⟨#[]⟩, .bool false, .slice none 0 0, .slice none 0 0, .slice none 0 0] 67
  have HF0 : Hid (Fs [b] w (stmtW w)) := (Fs.refl _ w).up _
  clear h ht hg
  show Calls _ _ #[_, .int .i64 9] _ _
  go_enter Tryd.func30, Tryd.ntmps30
  go_wp2_with fail
  change Calls _ _ _ (stmtW w) _
  refine HC.out.mono ?_
  rintro r w1 ⟨rfl, hp, hf⟩
  have HD1 := keep (HD0.out.fs hf.fs (by simp; omega))
  have HF1 := keep (HF0.out.trans hf.fs)
  have HP1 := keep hp
  clear hp hf HC HD0 HF0
  go_wp2_with (first
    | refine wpList_store_row rfl 67 (.tmp 4) (.tmp 11) rfl w.heap.size #[.int .i64 0, .int .i64 0, .string ⟨#[]⟩, .bool false, .slice none 0 0, .slice none 0 0, .slice none 0 0] rfl rfl 67 #[.int .i64 0, .int .i64 0, .string ⟨#[]⟩, .bool false, .slice none 0 0, .slice none 0 0, .slice none 0 0] HD1.out (info_S [.int .i64 0, .int .i64 0, .string ⟨#[]⟩, .bool false, .slice none 0 0, .slice none 0 0, .slice none 0 0] rfl) rfl (by simp [Value.oneCell']) ?_)
  (try simp only [Exit.inBlock, Exit.then])
  refine bodyPost_ret (results_cell_row rfl _ _ w.heap.size _ #[.int .i64 0, .int .i64 0, .string ⟨#[]⟩, .bool false, .slice none 0 0, .slice none 0 0, .slice none 0 0] (0, 0) _ rfl (setRow_heap _ _ _ _ _ _ HD1.out) Tryd.underlying67 rfl (info_S [.int .i64 0, .int .i64 0, .string ⟨#[]⟩, .bool false, .slice none 0 0, .slice none 0 0, .slice none 0 0] rfl)) rfl ?_
  refine ⟨(⟨0, 0, [], false, [], [], []⟩, .slice none 0 0, .slice none 0 0, .slice none 0 0), rfl, nestS_zero 0 _ _, ?_, HF1.out.row (Nat.le_refl _) _⟩
  exact rd_bad (HP1.out.row (D := w.heap.size) (by omega) _) (Nat.le_refl _) (by decide)
end Go.Proofs.YtemdnmfldihalaaDoor.Lr
