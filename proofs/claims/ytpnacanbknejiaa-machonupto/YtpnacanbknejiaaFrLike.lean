/- Two that are given the same, but for what is secret: chapter 7's alike. Written by tools/gen_frlike.py. -/
import Derived.Test.YtpnacanbknejiaaGr16
import Derived.Test.YtpnacanbknejiaaFlRun
namespace Go.Proofs.Ytpnacanbknejiaa.Fl
set_option linter.unusedVariables false
set_option linter.unusedSimpArgs false
open Go.ChangeShapes Go.WideShapes Go.ChangeAt Go.RowKit Lg Lr
def cellsW (v : Vr) : List Value := [.string ⟨v.name.toArray⟩,.bool v.secret,.int .i64 v.size]
def nestW (w : World) (X : Nat → Prop) (p : Vr) : Prop := True
theorem cellsW_len (p : Vr) : (cellsW p).length = 3 := rfl
def RowW (w : World) (lo : Nat) (v : Value) (es : List Vr) : Prop := RowX nestW cellsW 3 82 w lo v es
theorem RowW.is {w : World} {lo : Nat} {v : Value} {es : List Vr} (h : RowW w lo v es) (hl : es.length ≤ 281474976710656) : VrIs w w.heap.size es v := by
 rcases RowX.form cellsW_len h with ⟨h1,h2⟩ | ⟨g,cap,h1,h2,h3,h4,h5⟩
 ·exact ⟨none,0,0,h2,by rw [h1]; rfl,Nat.le_refl _,by omega,fun j t hj => by rw [h1] at hj; simp at hj⟩
 ·refine ⟨some ⟨g,0,none⟩,_,cap,h1,rfl,h2,hl,fun j l hj => ⟨g,0,rfl,h4,?_,?_,?_⟩⟩
  ·have := h5 j l 0 _ hj rfl; rw [Nat.zero_add]; simpa using this
  ·have := h5 j l 1 _ hj rfl; rw [Nat.zero_add]; exact this
  ·have := h5 j l 2 _ hj rfl; rw [Nat.zero_add]; exact this
theorem infoW : (Try.prog.info? 82).map (fun i => (i.zero,i.size,i.bytes)) = some (some (.agg #[.string ⟨#[]⟩,.bool false,.int .i64 0]),3,32) := by kernel_rfl
end Go.Proofs.Ytpnacanbknejiaa.Fl
