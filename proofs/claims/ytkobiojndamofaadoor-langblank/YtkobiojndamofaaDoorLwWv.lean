/- The program's own writer: parameters and arrays. -/
import Derived.Test.YtkobiojndamofaaDoorLwWst
namespace Go.Proofs.YtkobiojndamofaaDoor.Lr
set_option linter.unusedVariables false
set_option linter.unusedSimpArgs false
open Go.ChangeShapes Go.WideShapes Go.ChangeAt Go.RowKit Lg

/-- What more there is of a variable is written by a function value. -/
def MoreOK (B b lo : Nat) (k : FuncId) (mb : Array Value) (Inv : World → Prop) (tm : Vr → List (List UInt8)) (us : List Vr) : Prop := ∀ (W : World) (v : Vr) (o : List UInt8), v ∈ us → Inv W → WO W b lo o → Tabs W → (addsW o (tm v)).length ≤ 1000000 →
  Calls Tryd.prog k (#[.agg #[.string ⟨v.name.toArray⟩, .bool v.secret, .int .i64 v.size]] ++ mb) W fun r w' => r = .returned (.tuple #[]) ∧ Wrote b lo W (addsW o (tm v)) w'

set_option maxHeartbeats 8000000 in
set_option maxRecDepth 100000 in
theorem var1_wr (B b lo : Nat) (hB : B ≤ b) (hg : GL B) (k : FuncId) (mb : Array Value) (eg : ∀ args w, (callFunc k args).run Tryd.prog w = .ok (.enter k args) w) (Inv : World → Prop) (hInv : ∀ W W', Inv W → Fw b lo W W' → Inv W') (tm : Vr → List (List UInt8)) (us : List Vr) (hm : MoreOK B b lo k mb Inv tm us)
    (v : Vr) (hv : v ∈ us) (bw bv bm : Nat) (hnw : bw ≠ b) (hnv : bv ≠ b) (hnm : bm ≠ b) (o : List UInt8) (w : World) (hW : Bk w bw [.pointer (some ⟨b, 0, none⟩)] 66) (hV : Bk w bv [.string ⟨v.name.toArray⟩, .bool v.secret, .int .i64 v.size] 62) (hM : Bk w bm [.func (.func k) #[] mb] 68)
    (hi : Inv w) (h : WO w b lo o) (ht : Tabs w) (hl : (addsW o (lab v.secret :: v.name :: tm v)).length ≤ 1000000) :
    Calls Tryd.prog 65 #[.pointer (some ⟨bw, 0, none⟩), .pointer (some ⟨bv, 0, none⟩), .pointer (some ⟨bm, 0, none⟩)] w fun r w' => r = .returned (.tuple #[]) ∧ Wrote b lo w (addsW o (lab v.secret :: v.name :: tm v)) w' := by
  rw [adds_cons, adds_cons] at hl ⊢
  have hl2 : (addW (addW o (lab v.secret)) v.name).length ≤ 1000000 := Nat.le_trans (adds_le _ _) hl
  have hl1 : (addW o (lab v.secret)).length ≤ 1000000 := Nat.le_trans (add_le _ _) hl2
  have HC := keep (label_wr b lo o v.secret w h hl1)
  have HN : Hid (∀ W, Wrote b lo w (addW o (lab v.secret)) W → Calls Tryd.prog 34 #[.pointer (some ⟨b, 0, none⟩), .string ⟨v.name.toArray⟩] W fun r w' => r = .returned (.tuple #[]) ∧ Wrote b lo W (addW (addW o (lab v.secret)) v.name) w') := fun W hW =>
    wo_word b lo _ ⟨v.name.toArray⟩ W hW.1 hl2
  have HX : Hid (∀ W, Wrote b lo w (addW (addW o (lab v.secret)) v.name) W → Calls Tryd.prog k (#[.agg #[.string ⟨v.name.toArray⟩, .bool v.secret, .int .i64 v.size]] ++ mb) W fun r w' => r = .returned (.tuple #[]) ∧ Wrote b lo W (addsW (addW (addW o (lab v.secret)) v.name) (tm v)) w') := fun W hW =>
    hm W v _ hv (hInv _ _ hi hW.2) hW.1 (ht.wrote (p := []) hB hg h hW.2) hl
  have HWb := keep hW
  have HVb := keep hV
  have HMb := keep hM
  have c0 := hW.cell 0 rfl
  have c1 := hV.cell 1 rfl
  clear hm h ht hl hl1 hl2 hW hV hM hi
  go_enter Tryd.func65, Tryd.ntmps65
  go_wp2_with fail
  refine HC.out.mono ?_
  rintro r w1 ⟨rfl, h1⟩
  have H1 := keep h1
  have c2 := (HWb.out.fw h1.2 hnw (by decide)).cell 0 rfl
  have c3 := (HVb.out.fw h1.2 hnv (by decide)).cell 0 rfl
  have HC2 := keep (HN.out w1 h1)
  clear h1 HC HN c0 c1
  go_wp2_with fail
  refine HC2.out.mono ?_
  rintro r w2 ⟨rfl, h2⟩
  have H2 := keep (H1.out.trans h2)
  have c4 := (HMb.out.fw H2.out.2 hnm (by decide)).cell 0 rfl
  have HV2 := keep (HVb.out.fw H2.out.2 hnv (by decide))
  have d0 := HV2.out.cell 0 rfl
  have d1 := HV2.out.cell 1 rfl
  have d2 := HV2.out.cell 2 rfl
  have HC3 := keep (HX.out w2 H2.out)
  clear h2 HC2 c2 c3 HX
  go_wp2_with (go_at_fn k; refine HC3.out.mono ?_; rintro r w3 ⟨rfl, h3⟩; have H3 := keep (H2.out.trans h3); clear h3 HC3)
  go_end0
  exact ⟨rfl, H3.out⟩
end Go.Proofs.YtkobiojndamofaaDoor.Lr
