/- Laid together: FrAlike, FrLike. -/
import Derived.Test.YtfbmkcogkiejnaaLfRfit
import Derived.Test.YtfbmkcogkiejnaaFlRun
namespace Go.Proofs.Ytfbmkcogkiejnaa.Lr
set_option linter.unusedVariables false
set_option linter.unusedSimpArgs false
open Go.ChangeShapes Go.WideShapes Go.ChangeAt Go.RowKit Lg

/-- Both fit, and are the same but for what is secret. -/
structure AlikeR (ps rs : List Vr) (ws : List Int) (aa : List (List Int)) (vs : List Int) (bb : List (List Int)) : Prop where
  s1 : Shape ps rs ws aa
  w1 : AllW ws aa
  s2 : Shape ps rs vs bb
  w2 : AllW vs bb
  p : ∀ (i : Nat) (v : Vr) (x y : Int), ps[i]? = some v → ws[i]? = some x → vs[i]? = some y → v.secret = false → x = y
  a : ∀ (i : Nat) (v : Vr) (x y : List Int), rs[i]? = some v → aa[i]? = some x → bb[i]? = some y → v.secret = false → x = y
theorem VrIs.mono {w : World} {B B' : Nat} {l : List Vr} {v : Value} (h : VrIs w B l v) (hB : B ≤ B') : VrIs w B' l v := by
  obtain ⟨p, n, c, h1, h2, h3, h4, h5⟩ := h
  refine ⟨p, n, c, h1, h2, h3, h4, fun j x hj => ?_⟩
  obtain ⟨g, o, k1, k2, k3⟩ := h5 j x hj
  exact ⟨g, o, k1, by omega, k3⟩
theorem ArrsIs.mono {w : World} {B B' : Nat} {l : List (List Int)} {v : Value} (h : ArrsIs w B l v) (hB : B ≤ B') : ArrsIs w B' l v := by
  obtain ⟨p, n, c, h1, h2, h3, h4, h5⟩ := h
  refine ⟨p, n, c, h1, h2, h3, h4, fun j x hj => ?_⟩
  obtain ⟨g, o, s, k1, k2, k3, k4⟩ := h5 j x hj
  exact ⟨g, o, s, k1, by omega, k3, k4.mono hB⟩
def AlP (ps rs : List Vr) (ws : List Int) (aa : List (List Int)) (vs : List Int) (bb : List (List Int)) (w : World) (r : Ending) (w' : World) : Prop := ∃ b : Bool, r = .returned (.bool b) ∧ (b = true → AlikeR ps rs ws aa vs bb) ∧ Below w.heap.size w w'
theorem AlP.no {ps rs : List Vr} {ws : List Int} {aa : List (List Int)} {vs : List Int} {bb : List (List Int)} {w w' : World} (h : Below w.heap.size w w') : AlP ps rs ws aa vs bb w (.returned (.bool false)) w' := ⟨false, rfl, fun e => (by cases e), h⟩
end Go.Proofs.Ytfbmkcogkiejnaa.Lr
namespace Go.Proofs.Ytfbmkcogkiejnaa.Fl
set_option linter.unusedVariables false
set_option linter.unusedSimpArgs false
open Go.ChangeShapes Go.WideShapes Go.ChangeAt Go.RowKit Lg Lr

def cellsW (v : Vr) : List Value := [.string ⟨v.name.toArray⟩, .bool v.secret, .int .i64 v.size]
def nestW (w : World) (X : Nat → Prop) (p : Vr) : Prop := True
theorem cellsW_len (p : Vr) : (cellsW p).length = 3 := rfl
def RowW (w : World) (lo : Nat) (v : Value) (es : List Vr) : Prop := RowX nestW cellsW 3 75 w lo v es
theorem RowW.is {w : World} {lo : Nat} {v : Value} {es : List Vr} (h : RowW w lo v es) (hl : es.length ≤ 281474976710656) : VrIs w w.heap.size es v := by
  rcases RowX.form cellsW_len h with ⟨h1, h2⟩ | ⟨g, cap, h1, h2, h3, h4, h5⟩
  · exact ⟨none, 0, 0, h2, by rw [h1]; rfl, Nat.le_refl _, by omega, fun j t hj => by rw [h1] at hj; simp at hj⟩
  · refine ⟨some ⟨g, 0, none⟩, _, cap, h1, rfl, h2, hl, fun j l hj => ⟨g, 0, rfl, h4, ?_, ?_, ?_⟩⟩
    · have := h5 j l 0 _ hj rfl; rw [Nat.zero_add]; simpa using this
    · have := h5 j l 1 _ hj rfl; rw [Nat.zero_add]; exact this
    · have := h5 j l 2 _ hj rfl; rw [Nat.zero_add]; exact this
theorem infoW : (Try.prog.info? 75).map (fun i => (i.zero, i.size, i.bytes)) = some (some (.agg #[.string ⟨#[]⟩, .bool false, .int .i64 0]), 3, 32) := by kernel_rfl
end Go.Proofs.Ytfbmkcogkiejnaa.Fl
