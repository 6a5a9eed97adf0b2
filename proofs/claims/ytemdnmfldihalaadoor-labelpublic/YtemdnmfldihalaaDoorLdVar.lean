/- The document's own reader: a parameter. -/
import Derived.Test.YtemdnmfldihalaaDoorLdStOk
namespace Go.Proofs.YtemdnmfldihalaaDoor.Lr
set_option linter.unusedVariables false
set_option linter.unusedSimpArgs false
open Go.ChangeShapes Go.WideShapes Go.ChangeAt Go.RowKit Lg Rf

/-- A row of variables hangs on its own block alone. -/
theorem RowV.own {w w' : World} {lo : Nat} {v : Value} {es : List Vr} (h : RowV w lo v es) (hb : ∀ i, v.ownBlock = some i → w'.heap[i]? = w.heap[i]?) : RowV w' lo v es := by
  refine ⟨?_, fun p hp => trivial⟩
  obtain ⟨h1, h2⟩ := RowX.own h
  refine ⟨h1, ?_⟩
  rcases h2 with h2 | ⟨g, cap, cur, a1, a2, a3, a4⟩
  · exact .inl h2
  · exact .inr ⟨g, cap, cur, a1, a2, by rw [hb g (by rw [a1]; rfl)]; exact a3, a4⟩
/-- How things stand while a program's variables are read. -/
structure VS (w W : World) (b R Fb lo : Nat) (l : List Value) (v : Value) (es : List Vr) : Prop where
  fh : Fh lo [b, Fb] w W
  R : Bk W R [.pointer (some ⟨b, 0, none⟩)] 37
  F : Bk W Fb l 25
  row : RowV W lo v es
theorem VS.step {w W W' : World} {b R Fb lo : Nat} {l : List Value} {v : Value} {es : List Vr} (h : VS w W b R Fb lo l v es) (hR : b < R) (hF : R < Fb) (hl : Fb < lo) (hz : lo ≤ W.heap.size) (k : Fs [b] W W') : VS w W' b R Fb lo l v es :=
  ⟨h.fh.trans ⟨k.os, k.tape, k.output, k.size, fun i hi hn => k.block i (by omega) (by simp at hn ⊢; exact hn.1)⟩, h.R.fs k (by simp; omega), h.F.fs k (by simp; omega), h.row.own fun i hi => by
    have := RowX.own h.row |>.lt i hi
    exact k.block i this.2 (by simp; omega)⟩
/-- A cell of a block that is new is set. -/
theorem VS.far {w W : World} {b R Fb lo : Nat} {l : List Value} {v : Value} {es : List Vr} (h : VS w W b R Fb lo l v es) {V : Nat} (hV : lo ≤ V) (hR : b < R) (hF : R < Fb) (hl : Fb < lo) (hv : ¬ v.ownBlock = some V) (i : Nat) (u : Value) : VS w (W.setCell ⟨V, i, none⟩ u) b R Fb lo l v es :=
  ⟨h.fh.trans ⟨rfl, rfl, rfl, by simp [World.setCell], fun k hk hn => Below.heap_setCell _ _ _ _ (by show k ≠ V; omega)⟩, h.R.far _ _ (by omega), h.F.far _ _ (by omega), h.row.own fun k hk => Below.heap_setCell _ _ _ _ (fun e => hv (by have e' : k = V := e; rw [← e']; exact hk))⟩
theorem VS.rowD {w W : World} {b R Fb lo : Nat} {l : List Value} {v : Value} {es : List Vr} (h : VS w W b R Fb lo l v es) {V : Nat} (hV : lo ≤ V) (hR : b < R) (hF : R < Fb) (hl : Fb < lo) (hv : ¬ v.ownBlock = some V) (cs : Array Value) : VS w (W.setRow V cs) b R Fb lo l v es :=
  ⟨h.fh.trans ⟨rfl, rfl, rfl, by simp, fun k hk hn => setRow_other _ _ _ _ (by omega)⟩, by have := h.R; unfold Bk at this ⊢; rw [setRow_other _ _ _ _ (by omega)]; exact this, by have := h.F; unfold Bk at this ⊢; rw [setRow_other _ _ _ _ (by omega)]; exact this, h.row.own fun k hk => setRow_other _ _ _ _ (fun e => hv (by rw [← e]; exact hk))⟩
end Go.Proofs.YtemdnmfldihalaaDoor.Lr
