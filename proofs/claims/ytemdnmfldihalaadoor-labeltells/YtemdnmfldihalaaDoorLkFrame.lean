/- What a statement does to the checker's memory: names grow, and are cut. -/
import Derived.Test.YtemdnmfldihalaaDoorLkExpr
namespace Go.Proofs.YtemdnmfldihalaaDoor.Lr
set_option linter.unusedVariables false
set_option linter.unusedSimpArgs false
open Go.ChangeShapes Go.WideShapes Go.ChangeAt Go.RowKit Lg

/-- Nothing old has turned but block C, and the row of names; the names lie where they lay, or in a new block. -/
structure Fc (C : Nat) (nv nv' : Value) (w w' : World) : Prop where
  os : w'.os = w.os
  tape : w'.tape = w.tape
  output : w'.output = w.output
  size : w.heap.size ≤ w'.heap.size
  block : ∀ k, k < w.heap.size → k ≠ C → ¬ nv.ownBlock = some k → w'.heap[k]? = w.heap[k]?
  own : ∀ k, nv'.ownBlock = some k → nv.ownBlock = some k ∨ w.heap.size ≤ k
theorem Fs.fc {C : Nat} {w w' : World} (h : Fs [C] w w') (nv : Value) : Fc C nv nv w w' := ⟨h.os, h.tape, h.output, h.size, fun k hk hc _ => h.block k hk (by simpa using hc), fun k hk => .inl hk⟩
theorem Fc.trans {C : Nat} {a b c : Value} {u v w : World} (h : Fc C a b u v) (k : Fc C b c v w) : Fc C a c u w := by
  refine ⟨k.os.trans h.os, k.tape.trans h.tape, k.output.trans h.output, Nat.le_trans h.size k.size, fun i hi hc ha => ?_, fun i hi => ?_⟩
  · refine (k.block i (Nat.lt_of_lt_of_le hi h.size) hc fun hb => ?_).trans (h.block i hi hc ha)
    rcases h.own i hb with e | e
    · exact ha e
    · omega
  · rcases k.own i hi with e | e
    · exact h.own i e
    · exact .inr (Nat.le_trans h.size e)
theorem Fc.below {C B : Nat} {nv nv' : Value} {w w' : World} (h : Fc C nv nv' w w') (hB : B ≤ C) (hC : C < w.heap.size) (hn : ∀ i, nv.ownBlock = some i → C + 1 ≤ i) : Below B w w' :=
  ⟨h.os, h.tape, h.output, h.size, fun k hk => h.block k (by omega) (by omega) (fun e => by have := hn k e; omega)⟩
theorem Bk.fc {w w' : World} {C k : Nat} {nv nv' : Value} {l : List Value} {ty : TypeId} (h : Bk w k l ty) (hf : Fc C nv nv' w w') (hk : k ≠ C) (hn : ¬ nv.ownBlock = some k) : Bk w' k l ty := by
  have hl := h.lt
  unfold Bk at h ⊢
  rw [hf.block k hl hk hn]; exact h

theorem ck_push {w y2 : World} {C B : Nat} {rs : List Vr} {A : Value} {ns : List Nm} {nv : Value} {wk lt : Nat} {e : Int} {g cap : Nat} {nm : Nm} {ty : TypeId} (h : CK w C B rs A ns nv wk lt e)
    (hown : y2.ownsRow (C + 1) 52 3 (.slice (some ⟨g, 0, none⟩) (ns.length + 1) cap) (ns.length + 1) (ns.flatMap cellsN ++ cellsN nm))
    (hgrow : (w.alloc (.cells (cellsN nm).toArray ty)).grownBy y2 nv.ownBlock) (hat : nv.ownBlock = some g ∨ g = w.heap.size + 1) (hlen : ns.length + 1 ≤ 400) :
    CK (y2.setCell ⟨C, 1, none⟩ (.slice (some ⟨g, 0, none⟩) (ns.length + 1) cap)) C B rs A (ns ++ [nm]) (.slice (some ⟨g, 0, none⟩) (ns.length + 1) cap) wk lt e ∧ Fc C nv (.slice (some ⟨g, 0, none⟩) (ns.length + 1) cap) w (y2.setCell ⟨C, 1, none⟩ (.slice (some ⟨g, 0, none⟩) (ns.length + 1) cap)) := by
  have hC := h.lt
  have ho := h.own
  have hgC : C < g := by
    rcases hat with e | e
    · have := (ho g e).1; omega
    · omega
  have hk2 : ∀ i, i < w.heap.size → ¬ nv.ownBlock = some i → y2.heap[i]? = w.heap[i]? := fun i hi hn =>
    (hgrow.block i (by simp; omega) (fun e => hn e.symm)).trans (((Below.refl w.heap.size w).alloc (Nat.le_refl _) _).block i hi)
  have hnC : ¬ nv.ownBlock = some C := fun e => by have := (ho C e).1; omega
  have hsz : w.heap.size ≤ y2.heap.size := by have := hgrow.size; simp at this; omega
  have hCb : Bk y2 C [A, nv, .int .i64 (wk : Int), .int .i64 (lt : Int), .int .i64 e] 50 := by
    have hb := h.box
    unfold Bk at hb ⊢
    rw [hk2 C hC hnC]; exact hb
  refine ⟨⟨hCb.set 1 _, ?_, ?_, h.hB, by simpa using hlen⟩, ?_⟩
  · refine RowN.own (w := y2) ⟨by rw [List.length_append, List.length_singleton, List.flatMap_append, List.flatMap_singleton]; exact hown, fun p hp => trivial⟩ fun i hi => Below.heap_setCell _ _ _ _ ?_
    have e : g = i := by simpa [Value.ownBlock] using hi
    show i ≠ C
    omega
  · refine h.arr.keepB fun i hi => ?_
    have := h.hB
    rw [Below.heap_setCell _ _ _ _ (by show i ≠ C; omega)]
    exact hk2 i (by omega) (fun e => by have := (ho i e).1; omega)
  · refine ⟨hgrow.os, hgrow.tape, hgrow.output, by simp [World.setCell]; exact hsz, fun k hk hc hn => ?_, fun k hk => ?_⟩
    · rw [Below.heap_setCell _ _ _ _ (by show k ≠ C; exact hc)]; exact hk2 k hk hn
    · have e : g = k := by simpa [Value.ownBlock] using hk
      subst e
      rcases hat with e | e
      · exact .inl e
      · exact .inr (by omega)
theorem RowN.cut {w : World} {lo : Nat} {p : Option Addr} {n cap : Nat} {ns ex : List Nm} (h : RowN w lo (.slice p n cap) (ns ++ ex)) : RowN w lo (.slice p ns.length cap) ns := by
  refine ⟨?_, fun q hq => trivial⟩
  obtain ⟨h1, h2⟩ := RowX.own h
  have hl : (ns.flatMap cellsN).length = ns.length * 3 := flat_len7 cellsN 3 cellsN_len ns
  refine ⟨hl, ?_⟩
  rcases h2 with ⟨e1, e2⟩ | ⟨g, cap', cur, a1, a2, a3, a4, a5, a6, a7⟩
  · rw [List.length_append] at e2
    injection e1 with e3 e4 e5
    exact .inl ⟨by rw [e3, e5, show ns.length = 0 by omega], by omega⟩
  · injection a1 with b1 b2 b3
    rw [List.length_append] at a4 a7
    refine .inr ⟨g, cap', cur, by rw [b1, b3], a2, a3, by omega, a5, a6, ?_⟩
    have h9 : List.take (ns.length * 3) (List.take ((ns.length + ex.length) * 3) cur.toList) = List.take (ns.length * 3) ((ns ++ ex).flatMap cellsN) := by rw [a7]
    rw [List.take_take, Nat.min_eq_left (by omega), List.flatMap_append, List.take_append_of_le_length (by omega), List.take_of_length_le (l := ns.flatMap cellsN) (by omega)] at h9
    exact h9
theorem RowN.cap {w : World} {lo : Nat} {p : Option Addr} {n cap : Nat} {ns : List Nm} (h : RowN w lo (.slice p n cap) ns) : n = ns.length ∧ n ≤ cap ∧ cap ≤ maxLen ∧ (p = none → cap = 0 ∧ n = 0) ∧ (∀ a, p = some a → ∃ g, a = ⟨g, 0, none⟩) := by
  rcases (RowX.own h).2 with ⟨e1, e2⟩ | ⟨g, cap', cur, a1, a2, a3, a4, a5, a6, a7⟩
  · injection e1 with e3 e4 e5
    subst e3 e4 e5
    exact ⟨e2.symm, Nat.le_refl _, by decide, fun _ => ⟨rfl, rfl⟩, fun a ha => by cases ha⟩
  · injection a1 with b1 b2 b3
    subst b1 b2 b3
    exact ⟨rfl, a4, a5, (fun e => by cases e), (fun a ha => by cases ha; exact ⟨g, rfl⟩)⟩
/-- The names are cut to those that were there. -/
theorem ck_cut {w : World} {C B : Nat} {rs : List Vr} {A : Value} {ns ex : List Nm} {p : Option Addr} {n cap wk lt : Nat} {e : Int} (h : CK w C B rs A (ns ++ ex) (.slice p n cap) wk lt e) :
    CK (w.setCell ⟨C, 1, none⟩ (.slice p ns.length cap)) C B rs A ns (.slice p ns.length cap) wk lt e ∧ Fc C (.slice p n cap) (.slice p ns.length cap) w (w.setCell ⟨C, 1, none⟩ (.slice p ns.length cap)) := by
  have ho := h.own
  refine ⟨⟨h.box.set 1 _, ?_, ?_, h.hB, by have := h.len; rw [List.length_append] at this; omega⟩, ?_⟩
  · refine RowN.own (w := w) h.row.cut fun i hi => Below.heap_setCell _ _ _ _ ?_
    show i ≠ C
    have := (ho i (by cases p <;> exact hi)).1
    omega
  · exact h.arr.keepB fun i hi => Below.heap_setCell _ _ _ _ (by show i ≠ C; have := h.hB; omega)
  · exact ⟨rfl, rfl, rfl, by simp [World.setCell], fun k hk hc hn => Below.heap_setCell _ _ _ _ (by show k ≠ C; exact hc), fun k hk => .inl (by cases p <;> exact hk)⟩

/-- What comes of a statement. -/
def SR (e e' : Int) (res : Except Int Ks) (k' : Ks) : Prop := (¬ e = 0 → e' = e) ∧ (e = 0 → (∀ x, res = .error x → e' = x ∧ ¬ x = 0) ∧ ∀ k, res = .ok k → e' = 0 ∧ k' = k)
theorem SR.mk {e e' : Int} {res : Except Int Ks} {s : Ks} (h1 : ¬ e = 0 → e' = e) (h2 : e = 0 → (∃ x, res = .error x ∧ e' = x ∧ ¬ x = 0) ∨ ∃ b, res = .ok b ∧ e' = 0 ∧ s = b) : SR e e' res s := by
  refine ⟨h1, fun he => ?_⟩
  rcases h2 he with ⟨x, rfl, h3, h4⟩ | ⟨b, rfl, h3, h4⟩
  · exact ⟨fun y hy => (by cases hy; exact ⟨h3, h4⟩), fun b hb => (by cases hb)⟩
  · exact ⟨fun y hy => (by cases hy), fun c hc => (by cases hc; exact ⟨h3, h4⟩)⟩
theorem SR.bad {e e' : Int} {res : Except Int Ks} {s : Ks} (h : SR e e' res s) (he : e = 0) (h' : ¬ e' = 0) : res = .error e' := by
  cases hr : res with
  | error x => rw [((h.2 he).1 x hr).1]
  | ok b => exact absurd ((h.2 he).2 b hr).1 h'
theorem SR.good {e e' : Int} {res : Except Int Ks} {s : Ks} (h : SR e e' res s) (he : e = 0) (h' : e' = 0) : res = .ok s := by
  cases hr : res with
  | error x => exact absurd (((h.2 he).1 x hr).1 ▸ h') ((h.2 he).1 x hr).2
  | ok b => rw [((h.2 he).2 b hr).2]
structure StPost (w : World) (C B : Nat) (rs : List Vr) (A : Value) (ns : List Nm) (nv : Value) (e : Int) (res : Except Int Ks) (r : Ending) (w' : World) (nv' : Value) (ns' : List Nm) (wk' lt' : Nat) (e' : Int) : Prop where
  ret : r = .returned (.tuple #[])
  ck : CK w' C B rs A ns' nv' wk' lt' e'
  fc : Fc C nv nv' w w'
  ex : ∃ ex, ns' = ns ++ ex
  sr : SR e e' res ⟨ns', wk', lt'⟩
def StEnd (w : World) (C B : Nat) (rs : List Vr) (A : Value) (ns : List Nm) (nv : Value) (e : Int) (res : Except Int Ks) (r : Ending) (w' : World) : Prop := ∃ nv' ns' wk' lt' e', StPost w C B rs A ns nv e res r w' nv' ns' wk' lt' e'
end Go.Proofs.YtemdnmfldihalaaDoor.Lr
