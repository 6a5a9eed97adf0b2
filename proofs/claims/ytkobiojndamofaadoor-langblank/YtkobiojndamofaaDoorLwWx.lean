/- The program's own writer: an expression. Written by hand; expr$1's region by its operations. -/
import Derived.Test.YtkobiojndamofaaDoorLwWe
import Derived.Test.YtkobiojndamofaaDoorLiOrd
namespace Go.Proofs.YtkobiojndamofaaDoor.Lr
set_option linter.unusedVariables false
set_option linter.unusedSimpArgs false
open Go.ChangeShapes Go.WideShapes Go.ChangeAt Go.RowKit Lg

/-- The writer's own variables while an expression is written. -/
structure EB (w : World) (b bw be : Nat) (e : Ex) (sl : Value) : Prop where
  W : Bk w bw [.pointer (some ⟨b, 0, none⟩)] 66
  E : Bk w be [.int .i64 e.kind, .int .i64 e.n, .string ⟨e.name.toArray⟩, sl] 39
  nw : bw ≠ b
  ne : be ≠ b
theorem EB.fw {w w' : World} {b bw be lo : Nat} {e : Ex} {sl : Value} (h : EB w b bw be e sl) (hf : Fw b lo w w') : EB w' b bw be e sl :=
  ⟨h.W.fw hf h.nw (by decide), h.E.fw hf h.ne (by decide), h.nw, h.ne⟩
theorem EB.below {w w' : World} {b bw be : Nat} {e : Ex} {sl : Value} (h : EB w b bw be e sl) (hf : Below w.heap.size w w') : EB w' b bw be e sl :=
  h.fw (lo := 0) (Fw.of_below hf)

set_option maxHeartbeats 4000000 in
set_option maxRecDepth 100000 in
theorem expr2_wr (B b lo m : Nat) (hB : B ≤ b) (hg : GL B) (ih : PW B b lo m) (n : Nat) (hmn : m ≤ n) (e : Ex) (sl : Value) (bw be : Nat) (o : List UInt8) (w : World) (hE : EB w b bw be e sl) (hx : ExIs w B (n + 1) (ar e.args) sl)
    (hwf : ∀ a ∈ e.args, wfE m a) (hlen : e.args.length = 3) (h : WO w b lo o) (ht : Tabs w) (hl : (addsW o ([115, 101, 108] :: e.args.flatMap (toksE m))).length ≤ 1000000) :
    Calls Tryd.prog 46 #[.pointer (some ⟨bw, 0, none⟩), .pointer (some ⟨be, 0, none⟩)] w fun r w' => r = .returned (.tuple #[]) ∧ Wrote b lo w (addsW o ([115, 101, 108] :: e.args.flatMap (toksE m))) w' := by
  obtain ⟨p, na, cap, rfl, _⟩ := hx.parts
  rw [adds_cons] at hl ⊢
  have hl1 := adds_le (e.args.flatMap (toksE m)) (addW o [115, 101, 108])
  have HC := keep (wo_word b lo o ⟨#[115, 101, 108]⟩ w h (Nat.le_trans hl1 hl))
  have HX : Hid (∀ W, Wrote b lo w (addW o [115, 101, 108]) W → Calls Tryd.prog 43 #[.pointer (some ⟨b, 0, none⟩), .slice p na cap, .int .i64 3] W fun r w' => r = .returned (.tuple #[]) ∧ Wrote b lo W (addsW (addW o [115, 101, 108]) (e.args.flatMap (toksE m))) w') := fun W hW =>
    exprs_wr B b lo m hB hg ih n hmn e.args hwf _ 3 (by rw [hlen]; rfl) _ W (hx.below (hW.2.below hB h.lt h.le)) hW.1 (ht.wrote (p := []) hB hg h hW.2) hl
  have HE := keep hE
  have c0 := hE.W.cell 0 rfl
  clear hx hwf h ht hl hl1 ih hE
  go_enter Tryd.func46, Tryd.ntmps46
  go_wp2_with fail
  refine HC.out.mono ?_
  rintro r w1 ⟨rfl, h1⟩
  have H1 := keep h1
  have HE1 := keep (HE.out.fw h1.2)
  have c1 := HE1.out.W.cell 0 rfl
  have c2 := HE1.out.E.cell 3 rfl
  have HC2 := keep (HX.out w1 h1)
  clear h1 HC HX c0
  go_wp2_with fail
  refine HC2.out.mono ?_
  rintro r w2 ⟨rfl, h2⟩
  have H2 := keep h2
  clear h2 HC2 c1 c2
  go_wp2
  go_end0
  exact ⟨rfl, H1.out.trans H2.out⟩

set_option maxHeartbeats 4000000 in
set_option maxRecDepth 100000 in
theorem expr3_wr (B b lo m : Nat) (hB : B ≤ b) (hg : GL B) (ih : PW B b lo m) (n : Nat) (hmn : m ≤ n) (e : Ex) (sl : Value) (bw be : Nat) (o : List UInt8) (w : World) (hE : EB w b bw be e sl) (hx : ExIs w B (n + 1) (ar e.args) sl)
    (hwf : ∀ a ∈ e.args, wfE m a) (hlen : e.args.length = 1) (h : WO w b lo o) (ht : Tabs w) (hl : (addsW o ([97, 116] :: e.name :: e.args.flatMap (toksE m))).length ≤ 1000000) :
    Calls Tryd.prog 47 #[.pointer (some ⟨bw, 0, none⟩), .pointer (some ⟨be, 0, none⟩)] w fun r w' => r = .returned (.tuple #[]) ∧ Wrote b lo w (addsW o ([97, 116] :: e.name :: e.args.flatMap (toksE m))) w' := by
  obtain ⟨p, na, cap, rfl, _⟩ := hx.parts
  rw [adds_cons, adds_cons] at hl ⊢
  have hl1 := adds_le (e.args.flatMap (toksE m)) (addW (addW o [97, 116]) e.name)
  have hl2 := add_le (addW o [97, 116]) e.name
  have HC := keep (wo_word b lo o ⟨#[97, 116]⟩ w h (Nat.le_trans hl2 (Nat.le_trans hl1 hl)))
  have HN : Hid (∀ W, Wrote b lo w (addW o [97, 116]) W → Calls Tryd.prog 34 #[.pointer (some ⟨b, 0, none⟩), .string ⟨e.name.toArray⟩] W fun r w' => r = .returned (.tuple #[]) ∧ Wrote b lo W (addW (addW o [97, 116]) e.name) w') := fun W hW =>
    wo_word b lo _ ⟨e.name.toArray⟩ W hW.1 (Nat.le_trans hl1 hl)
  have HX : Hid (∀ W, Wrote b lo w (addW (addW o [97, 116]) e.name) W → Calls Tryd.prog 43 #[.pointer (some ⟨b, 0, none⟩), .slice p na cap, .int .i64 1] W fun r w' => r = .returned (.tuple #[]) ∧ Wrote b lo W (addsW (addW (addW o [97, 116]) e.name) (e.args.flatMap (toksE m))) w') := fun W hW =>
    exprs_wr B b lo m hB hg ih n hmn e.args hwf _ 1 (by rw [hlen]; rfl) _ W (hx.below (hW.2.below hB h.lt h.le)) hW.1 (ht.wrote (p := []) hB hg h hW.2) hl
  have HE := keep hE
  have c0 := hE.W.cell 0 rfl
  clear hx hwf h ht hl hl1 hl2 ih hE
  go_enter Tryd.func47, Tryd.ntmps47
  go_wp2_with fail
  refine HC.out.mono ?_
  rintro r w1 ⟨rfl, h1⟩
  have H1 := keep h1
  have HE1 := keep (HE.out.fw h1.2)
  have c1 := HE1.out.W.cell 0 rfl
  have c2 := HE1.out.E.cell 2 rfl
  have HC2 := keep (HN.out w1 h1)
  clear h1 HC HN c0
  go_wp2_with fail
  refine HC2.out.mono ?_
  rintro r w2 ⟨rfl, h2⟩
  have H2 := keep (H1.out.trans h2)
  have HE2 := keep (HE1.out.fw h2.2)
  have c3 := HE2.out.W.cell 0 rfl
  have c4 := HE2.out.E.cell 3 rfl
  have HC3 := keep (HX.out w2 H2.out)
  clear h2 HC2 c1 c2 HX
  go_wp2_with fail
  refine HC3.out.mono ?_
  rintro r w3 ⟨rfl, h3⟩
  have H3 := keep (H2.out.trans h3)
  clear h3 HC3 c3 c4
  go_wp2
  go_end0
  exact ⟨rfl, H3.out⟩
end Go.Proofs.YtkobiojndamofaaDoor.Lr
