/- The program's own writer: a number, a label, brackets around what a function value writes. -/
import Derived.Test.YtkobiojndamofaaDoorLwWord
namespace Go.Proofs.YtkobiojndamofaaDoor.Lr
set_option linter.unusedVariables false
open Go.ChangeShapes Go.WideShapes Go.ChangeAt Go.RowKit Lg

/-- A writer that has written out. -/
def WO (w : World) (b lo : Nat) (out : List UInt8) : Prop := ∃ v, WB w b lo v out
/-- What comes of a writer's step. -/
def Wrote (b lo : Nat) (w : World) (out : List UInt8) (w' : World) : Prop := WO w' b lo out ∧ Fw b lo w w'
theorem Wrote.trans {b lo : Nat} {u v w : World} {o p : List UInt8} (h : Wrote b lo u o v) (k : Wrote b lo v p w) : Wrote b lo u p w := ⟨k.1, h.2.trans k.2⟩
theorem WO.below {w w' : World} {b lo : Nat} {out : List UInt8} (h : WO w b lo out) (k : Below w.heap.size w w') : WO w' b lo out := by
  obtain ⟨v, h⟩ := h
  exact ⟨v, h.below k⟩
theorem add_ge (out s : List UInt8) : out.length + s.length ≤ (addW out s).length := by
  unfold addW
  split
  · rw [List.length_append]; omega
  · rw [List.length_append, List.length_append]; omega
theorem Tabs.fw {w w' : World} {b lo : Nat} (h : Tabs w) (hf : Fw b lo w w') (hb : GL b) (hl : GL lo) : Tabs w' := by
  have hs := h.gl
  refine h.below (B := min (min b lo) w.heap.size) ?_ ⟨hf.os, hf.tape, hf.output, hf.size, fun k hk => hf.low k (by omega) (by omega) (by omega)⟩
  obtain ⟨g1, g2⟩ := hb
  obtain ⟨g3, g4⟩ := hl
  obtain ⟨g5, g6⟩ := hs
  exact ⟨by omega, by omega⟩
theorem wo_word (b lo : Nat) (out : List UInt8) (s : ByteArray) (w : World) (h : WO w b lo out) (hl : (addW out s.data.toList).length ≤ 1000000) :
    Calls Tryd.prog 34 #[.pointer (some ⟨b, 0, none⟩), .string s] w fun r w' => r = .returned (.tuple #[]) ∧ Wrote b lo w (addW out s.data.toList) w' := by
  obtain ⟨v, h⟩ := h
  refine (word_wr b lo v out s (by have := add_ge out s.data.toList; rw [← Lib.size_eq] at this; omega) w h).mono ?_
  rintro r w' ⟨rfl, v', h1, h2⟩
  exact ⟨rfl, ⟨v', h1⟩, h2⟩

set_option maxHeartbeats 4000000 in
set_option maxRecDepth 100000 in
theorem number_wr (b lo : Nat) (out : List UInt8) (n : Int) (h0 : -9223372036854775808 ≤ n) (h1 : n ≤ 9223372036854775807) (w : World) (h : WO w b lo out) (ht : Tabs w) (hl : (addW out (Lib.itoa n)).length ≤ 1000000) :
    Calls Tryd.prog 38 #[.pointer (some ⟨b, 0, none⟩), .int .i64 n] w fun r w' => r = .returned (.tuple #[]) ∧ Wrote b lo w (addW out (Lib.itoa n)) w' := by
  have HI : Hid (∀ W, Tabs W → Calls Tryd.prog 66 #[.int .i64 n] W fun e w' => e = .returned (.string ⟨(Lib.itoa n).toArray⟩) ∧ Below W.heap.size W w') := fun W hW => by
    refine (Tryd.strconv_Itoa n h0 h1 W hW.1).mono ?_
    rintro e w' ⟨rfl, j, os, rfl⟩
    exact ⟨rfl, Lib.below_grow _ _ (Nat.le_refl _) _ _⟩
  have HT := keep ht
  have HW := keep h
  clear ht h
  generalize Lib.itoa n = D at *
  go_enter Tryd.func38, Tryd.ntmps38
  go_wp2_with (first
    | (go_at_call 66; refine (HI.out _ HT.out).mono ?_; rintro e w1 ⟨rfl, hb⟩; have HB := keep hb; have HC := keep (wo_word b lo out ⟨D.toArray⟩ w1 (HW.out.below hb) hl); clear hb)
    | (go_at_call 34; refine HC.out.mono ?_; rintro e w2 ⟨rfl, h2⟩; have H2 := keep h2; clear h2 HC)
    | fail)
  go_end0
  exact ⟨rfl, H2.out.1, (Fw.of_below HB.out).trans H2.out.2⟩

set_option maxHeartbeats 4000000 in
set_option maxRecDepth 100000 in
theorem label_wr (b lo : Nat) (out : List UInt8) (s : Bool) (w : World) (h : WO w b lo out) (hl : (addW out (lab s)).length ≤ 1000000) :
    Calls Tryd.prog 42 #[.pointer (some ⟨b, 0, none⟩), .bool s] w fun r w' => r = .returned (.tuple #[]) ∧ Wrote b lo w (addW out (lab s)) w' := by
  cases s with
  | true =>
    have HC := keep (wo_word b lo out ⟨#[115, 101, 99]⟩ w h hl)
    clear h
    go_enter Tryd.func42, Tryd.ntmps42
    go_wp2_with (first
      | (go_at_call 34; refine HC.out.mono ?_; rintro e w2 ⟨rfl, h2⟩; have H2 := keep h2; clear h2 HC)
      | fail)
    go_end0
    exact ⟨rfl, H2.out⟩
  | false =>
    have HC := keep (wo_word b lo out ⟨#[112, 117, 98]⟩ w h hl)
    clear h
    go_enter Tryd.func42, Tryd.ntmps42
    go_wp2_with (first
      | (go_at_call 34; refine HC.out.mono ?_; rintro e w2 ⟨rfl, h2⟩; have H2 := keep h2; clear h2 HC)
      | fail)
    go_end0
    exact ⟨rfl, H2.out⟩

set_option maxHeartbeats 4000000 in
set_option maxRecDepth 100000 in
/-- Brackets around what a function value writes. -/
theorem bracketed_wr (b lo : Nat) (k : FuncId) (binds : Array Value) (out : List UInt8) (ts : List (List UInt8)) (w : World)
    (eg : ∀ args w, (callFunc k args).run Tryd.prog w = .ok (.enter k args) w)
    (hin : ∀ W, Wrote b lo w (addW out [40]) W → Calls Tryd.prog k binds W fun r w' => r = .returned (.tuple #[]) ∧ Wrote b lo W (addsW (addW out [40]) ts) w')
    (h : WO w b lo out) (hl : (addsW out ([40] :: (ts ++ [[41]]))).length ≤ 1000000) :
    Calls Tryd.prog 32 #[.pointer (some ⟨b, 0, none⟩), .func (.func k) #[] binds] w fun r w' => r = .returned (.tuple #[]) ∧ Wrote b lo w (addsW out ([40] :: (ts ++ [[41]]))) w' := by
  have e1 : addsW out ([40] :: (ts ++ [[41]])) = addW (addsW (addW out [40]) ts) [41] := by rw [adds_cons, adds_app]; rfl
  rw [e1] at hl ⊢
  have hl2 := add_le (addsW (addW out [40]) ts) [41]
  have hl1 := adds_le ts (addW out [40])
  have HIn := keep hin
  have HC := keep (wo_word b lo out ⟨#[40]⟩ w h (by show (addW out [40]).length ≤ 1000000; omega))
  have HL := keep hl
  clear hin h e1 hl hl1 hl2
  go_enter Tryd.func32, Tryd.ntmps32
  go_wp2_with fail
  refine HC.out.mono ?_
  rintro r w1 ⟨rfl, h1⟩
  have H1 := keep h1
  have HC2 := keep (HIn.out w1 h1)
  clear h1 HC HIn
  go_wp2_with (go_at_fn k; refine HC2.out.mono ?_; rintro r w2 ⟨rfl, h2⟩; have H2 := keep h2; have HC3 := keep (wo_word b lo (addsW (addW out [40]) ts) ⟨#[41]⟩ w2 h2.1 HL.out); clear h2 HC2)
  refine HC3.out.mono ?_
  rintro r w3 ⟨rfl, h3⟩
  have H3 := keep h3
  clear h3 HC3
  go_wp2
  go_end0
  exact ⟨rfl, (H1.out.trans H2.out).trans H3.out⟩
end Go.Proofs.YtkobiojndamofaaDoor.Lr
