/- slices.Grow of nothing, slices.Concat of two lists of variables. Written by tools/gen_kcat.py. Are two of all these called the same? Written by tools/gen_kcheck.py. -/
import Derived.Test.YtemdnmfldihalaaDoorLkFind
import Derived.Lib.AppendZerosOnto
import Derived.Laws.AppendOwnNone
import Derived.Deep.Upon
import Derived.Deep.AppendLies
import Derived.Test.YtemdnmfldihalaaDoorLkAt
namespace Go.Proofs.YtemdnmfldihalaaDoor.Lr
set_option linter.unusedVariables false
set_option linter.unusedSimpArgs false
open Go.ChangeShapes Go.WideShapes Go.ChangeAt Go.RowKit Lg

theorem intT : Tryd.prog.underlying 3 = some (.int .i64) := by kernel_rfl
set_option maxHeartbeats 2000000 in
set_option maxRecDepth 100000 in
/-- Room for so many is made. -/
theorem grow_any (n : Nat) (hn : n ≤ 1000) (w : World) :
    Calls Tryd.prog 39 #[.slice none 0 0, .int .i64 (n : Int)] w fun r w' => ∃ v, r = .returned v ∧ RowV w' w.heap.size v [] ∧ Below w.heap.size w w' := by
  by_cases h0 : n = 0
  · subst h0
    have e0 : ((0 : Nat) : Int) = 0 := rfl
    rw [e0]
    go_enter Tryd.func39, Tryd.ntmps39
    go_wp2
    go_ret
    exact ⟨_, rfl, RowX.nil _ _, Below.refl _ _⟩
  · obtain ⟨i0, hi0, j0, j1, j2⟩ := info_parts infoV
    have h1 : decide ((n : Int) < 0) = false := decide_eq_false (by omega)
    have h4 : decide (0 < (n : Int)) = true := decide_eq_true (by omega)
    have hwr : IntKind.i64.wrap ((n : Int)) = (n : Int) := by rw [IntKind.wrap_i64]; omega
    have hrz := fun ty => Lib.run_append_nil_zeros (P := Tryd.prog) w 22 3 ty 35 i0 _ .i64 .i64 Tryd.underlying22 intT hi0 j0 n (by omega) (by rw [j1]; decide) (by omega) (by rw [j2]; omega)
    have hG1 := grownCap_ge w n 0 35
    have hG2 := grownCap_le_maxLen w n 0 35 (by unfold maxLen; omega)
    obtain ⟨G, hG⟩ : ∃ G, G = grownCap w n 0 35 := ⟨_, rfl⟩
    rw [← hG] at hrz hG1 hG2
    have HRow : Hid (RowV (w.drew.alloc (.cells (Builtin.zeroCells (Value.agg #[.string ⟨#[]⟩, .bool false, .int .i64 0]).cells n ++ Builtin.zeroCells (Value.agg #[.string ⟨#[]⟩, .bool false, .int .i64 0]).cells (G - n)) 35)) w.heap.size (.slice (some ⟨w.heap.size, 0, none⟩) 0 G) []) := by
      refine ⟨⟨rfl, .inr ⟨w.heap.size, G, _, rfl, Nat.le_refl _, (MapKept.heap_alloc w.drew _).1, Nat.zero_le _, hG2, ?_, by simp⟩⟩, by simp⟩
      rw [Array.size_append, size_zeroCells, size_zeroCells, show (Value.agg #[.string ⟨#[]⟩, .bool false, .int .i64 0]).cells.size = 3 from rfl, ← Nat.add_mul]
      omega
    have HB : Hid (Below w.heap.size w (w.drew.alloc (.cells (Builtin.zeroCells (Value.agg #[.string ⟨#[]⟩, .bool false, .int .i64 0]).cells n ++ Builtin.zeroCells (Value.agg #[.string ⟨#[]⟩, .bool false, .int .i64 0]).cells (G - n)) 35))) :=
      (Below.drew (Below.refl _ _)).alloc (Nat.le_refl _) _
    have HRz := keep hrz
    have hG0 : (0 : Int) ≤ (G : Int) := by omega
    clear hrz hG
    go_enter Tryd.func39, Tryd.ntmps39
    go_wp2_with (at_builtin; refine Lib.wpList_append_run _ rfl _ _ _ _ rfl _ _ rfl rfl _ _ (HRz.out _) ?_)
    go_ret
    exact ⟨_, rfl, HRow.out, HB.out⟩
/-- The cells of variables, one after another. -/
theorem VrIs.cells {w : World} {B : Nat} {vs : List Vr} {g o n cap : Nat} (h : VrIs w B vs (.slice (some ⟨g, o, none⟩) n cap)) (j : Nat) (u : Value) (hj : (vs.flatMap cellsV)[j]? = some u) : w.cell? ((⟨g, o, none⟩ : Addr).add j) = some u := by
  obtain ⟨p, n', cap', h1, h2, h3, h4, h5⟩ := h
  injection h1 with e1 e2 e3
  subst e1
  have hlt := (List.getElem?_eq_some_iff.1 hj).1
  rw [flat_len7 cellsV 3 cellsV_len] at hlt
  obtain ⟨v, hv⟩ : ∃ v, vs[j / 3]? = some v := ⟨_, List.getElem?_eq_getElem (by omega)⟩
  have hd : j = j / 3 * 3 + j % 3 := by omega
  rw [hd, flat_at cellsV 3 cellsV_len vs (j / 3) (j % 3) v hv (by omega)] at hj
  obtain ⟨g', o', k1, k2, k3⟩ := h5 _ v hv
  injection k1 with k1
  injection k1 with k1 k4
  subst k1 k4
  have ha : (⟨g, o, none⟩ : Addr).add j = ⟨g, o + j, none⟩ := by
    simp [Addr.add]
  rw [ha, hd]
  have h3 : j % 3 = 0 ∨ j % 3 = 1 ∨ j % 3 = 2 := by omega
  rcases h3 with e | e | e
  · rw [e] at hj ⊢; cases hj; exact k3.c0
  · rw [e] at hj ⊢; cases hj; exact k3.c1
  · rw [e] at hj ⊢; cases hj; exact k3.c2
theorem cellsV_one (vs : List Vr) (u : Value) (h : u ∈ vs.flatMap cellsV) : u.oneCell' = true := by
  obtain ⟨v, _, hv⟩ := List.mem_flatMap.1 h
  simp only [cellsV, List.mem_cons, List.not_mem_nil, or_false] at hv
  rcases hv with rfl | rfl | rfl <;> rfl
theorem VrIs.form {w : World} {B : Nat} {vs : List Vr} {p : Option Addr} {n cap : Nat} (h : VrIs w B vs (.slice p n cap)) : vs = [] ∨ ∃ g o, p = some ⟨g, o, none⟩ ∧ 0 < vs.length := by
  obtain ⟨p, n, cap, h1, h2, h3, h4, h5⟩ := h
  injection h1 with h1 _ _
  subst h1
  cases vs with
  | nil => exact .inl rfl
  | cons v r =>
    obtain ⟨g, o, k1, _⟩ := h5 0 v rfl
    exact .inr ⟨g, o, k1, by simp⟩
/-- How far it has come: nothing, the first, both. -/
inductive CatAt (w : World) (us vs : List Vr) (v : Value) (wx : World) : Int → Prop
  | zero : RowV wx w.heap.size v [] → Below w.heap.size w wx → CatAt w us vs v wx 0
  | one : RowV wx w.heap.size v us → Below w.heap.size w wx → CatAt w us vs v wx 1
  | two : RowV wx w.heap.size v (us ++ vs) → Below w.heap.size w wx → CatAt w us vs v wx 2
inductive SumAt (n m : Nat) : Int → Int → Prop
  | zero : SumAt n m 0 0
  | one : SumAt n m 1 (n : Int)
  | two : SumAt n m 2 ((n : Int) + (m : Int))
set_option maxHeartbeats 8000000 in
set_option maxRecDepth 100000 in
/-- Two lists of variables, one behind the other, in new memory. -/
theorem concat_any (B X : Nat) (us vs : List Vr) (su sv : Value) (w : World) (hB : B ≤ w.heap.size) (hX : Bk w X [su, sv] 22) (hu : VrIs w B us su) (hv : VrIs w B vs sv) (hlu : us.length ≤ 100) (hlv : vs.length ≤ 100) :
    Calls Tryd.prog 31 #[.slice (some ⟨X, 0, none⟩) 2 2] w fun r w' => ∃ v, r = .returned v ∧ RowV w' w.heap.size v (us ++ vs) ∧ Below w.heap.size w w' := by
  obtain ⟨pu, nu, cu, hsu, hnu, _⟩ := id hu
  obtain ⟨pv, nv, cv, hsv, hnv, _⟩ := id hv
  subst hsu hsv hnu hnv
  obtain ⟨i0, hi0, j0, j1, j2⟩ := info_parts infoV
  have Hus := keep hu
  have Hvs := keep hv
  have HX := keep hX
  have x0 := hX.cell 0 rfl
  have x1 := hX.cell 1 rfl
  clear hu hv hX
  go_enter Tryd.func31, Tryd.ntmps31
  go_wp2
  go_loopw [11, 3] (fun i s wx => w = wx ∧ ∃ a b : Int, i = .int .i64 a ∧ s = .int .i64 b ∧ SumAt us.length vs.length a b) (fun i _ _ => 2 - (intOf i).toNat)
  case atStart => exact ⟨rfl, 0, 0, rfl, rfl, .zero⟩
  case round =>
    obtain ⟨rfl, a, b, rfl, rfl, hs⟩ := hrel
    cases hs with
    | zero =>
      have hw1 : IntKind.i64.wrap ((us.length : Int)) = (us.length : Int) := by rw [IntKind.wrap_i64]; omega
      have hd1 : decide ((us.length : Int) < 0) = false := decide_eq_false (by omega)
      go_wp2
      go_roundw
      case rel => exact ⟨by first | rfl | trivial, 1, _, rfl, rfl, .one⟩
      case measure => simp [intOf]
    | one =>
      have hw1 : IntKind.i64.wrap ((us.length : Int) + (vs.length : Int)) = (us.length : Int) + (vs.length : Int) := by rw [IntKind.wrap_i64]; omega
      have hd1 : decide ((us.length : Int) + (vs.length : Int) < 0) = false := decide_eq_false (by omega)
      go_wp2
      go_roundw
      case rel => exact ⟨by first | rfl | trivial, 2, _, rfl, rfl, .two⟩
      case measure => simp [intOf]
    | two =>
      have HG := keep (grow_any (us.length + vs.length) (by omega) w)
      rw [show ((us.length + vs.length : Nat) : Int) = (us.length : Int) + (vs.length : Int) by omega] at HG
      go_wp2_with fail
      refine HG.out.mono ?_
      rintro r w1 ⟨v, rfl, hr1, hb1⟩
      obtain ⟨pg, ng, cg, rfl⟩ := RowX.slice hr1
      have HR1 := keep hr1
      have HB1 := keep hb1
      clear hr1 hb1 HG x0 x1
      go_wp2
      go_loopw [27, 6] (fun i v wx => ∃ a : Int, i = .int .i64 a ∧ CatAt w us vs v wx a) (fun i _ _ => 2 - (intOf i).toNat)
      case atStart => exact ⟨0, rfl, .zero HR1.out HB1.out⟩
      case round =>
        clear HR1 HB1
        obtain ⟨a, rfl, hc⟩ := hrel
        cases hc with
        | zero hr hb =>
          have HR := keep hr
          have HBx := keep hb
          clear hr hb
          have c0 := (HX.out.fs (Fs.of_below (l := []) HBx.out) (by simp)).cell 0 rfl
          have HSr := keep (Hus.out.below (HBx.out.mono hB))
          have d1 : decide ((0 : Int) < 2) = true := by decide
          obtain ⟨pr, nr, cr, rfl⟩ := RowX.slice HR.out
          have hnr := RowX.len HR.out
          subst hnr
          rcases HSr.out.form with hnil | ⟨gs, os, rfl, hpos⟩
          · have HNil := keep hnil
            subst hnil
            have hle : ([] : List Vr).length ≤ cr := by
              rcases (RowX.own HR.out).2 with ⟨q1, q2⟩ | ⟨_, _, _, q1, _, _, q4, _⟩
              · injection q1 with _ q1 q2; omega
              · injection q1 with _ q1 q2; omega
            have hsrc : Src Tryd.prog i0.size 22 (.slice pu 0 cu) 0 [] wr := by
              cases pu with
              | none => exact Src.ofNil wr Tryd.underlying22 cu
              | some a => exact Src.ofSlice wr Tryd.underlying22 a 0 cu [] (by simp) (by simp) (by simp)
            have HRz := keep (fun ty => run_append_nothing (P := Tryd.prog) wr 22 22 ty 35 i0 Tryd.underlying22 hi0 pr ([] : List Vr).length cr hle (.slice pu 0 cu) hsrc)
            clear hsrc
            go_wp2_with (at_builtin; refine Lib.wpList_append_run _ rfl _ _ _ _ rfl _ _ rfl rfl _ _ (HRz.out _) ?_)
            go_roundw
            case rel => exact ⟨_, _, _, ⟨1, rfl, .one HR.out HBx.out⟩, rfl, rfl, rfl⟩
            case measure => simp [intOf]
          · have HCe := keep (fun j u hj => VrIs.cells HSr.out j u hj)
            go_wp2_with (at_builtin; refine wpList_append_lies _ rfl (.tmp 31) (.tmp 32) 22 rfl w.heap.size 35 i0 _ 3 32 Tryd.underlying22 hi0 j0 j1 j2 rfl (by decide) (.slice pr ([] : List Vr).length cr) ([] : List Vr).length (([] : List Vr).flatMap cellsV) rfl (RowX.own HR.out) ⟨gs, os, none⟩ us.length cu (us.flatMap cellsV) rfl (flat_len7 cellsV 3 cellsV_len _) HCe.out (cellsV_one _) hpos (by unfold maxLen; first | omega | (simp; omega)) (by first | omega | (simp; omega)) HBx.out.size _ rfl ?_)
            intro g cap w2 hown2 hgrow hat hlt
            have HR2 : Hid (RowV w2 w.heap.size (.slice (some ⟨g, 0, none⟩) (([] : List Vr).length + us.length) cap) (([] : List Vr) ++ us)) := ⟨by first | (rw [List.length_append, List.flatMap_append]; exact hown2) | (simpa using hown2), fun p hp => trivial⟩
            have HB2 : Hid (Below w.heap.size w w2) := HBx.out.trans ⟨hgrow.os, hgrow.tape, hgrow.output, hgrow.size, fun i hi => hgrow.block i (by have := HBx.out.size; omega) (fun e => by have := ((RowX.own HR.out).lt i e.symm).1; omega)⟩
            clear hown2 hgrow hat hlt HCe
            go_wp2
            go_roundw
            case rel => first | exact .one (by have := HR2.out; simpa using this) HB2.out | exact ⟨1, rfl, .one (by have := HR2.out; simpa using this) HB2.out⟩
            case measure => simp [intOf]
        | one hr hb =>
          have HR := keep hr
          have HBx := keep hb
          clear hr hb
          have c1 := (HX.out.fs (Fs.of_below (l := []) HBx.out) (by simp)).cell 1 rfl
          have HSr := keep (Hvs.out.below (HBx.out.mono hB))
          have d1 : decide ((1 : Int) < 2) = true := by decide
          obtain ⟨pr, nr, cr, rfl⟩ := RowX.slice HR.out
          have hnr := RowX.len HR.out
          subst hnr
          rcases HSr.out.form with hnil | ⟨gs, os, rfl, hpos⟩
          · have HNil := keep hnil
            subst hnil
            have hle : (us : List Vr).length ≤ cr := by
              rcases (RowX.own HR.out).2 with ⟨q1, q2⟩ | ⟨_, _, _, q1, _, _, q4, _⟩
              · injection q1 with _ q1 q2; omega
              · injection q1 with _ q1 q2; omega
            have hsrc : Src Tryd.prog i0.size 22 (.slice pv 0 cv) 0 [] wr := by
              cases pv with
              | none => exact Src.ofNil wr Tryd.underlying22 cv
              | some a => exact Src.ofSlice wr Tryd.underlying22 a 0 cv [] (by simp) (by simp) (by simp)
            have HRz := keep (fun ty => run_append_nothing (P := Tryd.prog) wr 22 22 ty 35 i0 Tryd.underlying22 hi0 pr (us : List Vr).length cr hle (.slice pv 0 cv) hsrc)
            clear hsrc
            go_wp2_with (at_builtin; refine Lib.wpList_append_run _ rfl _ _ _ _ rfl _ _ rfl rfl _ _ (HRz.out _) ?_)
            go_roundw
            case rel => exact ⟨_, _, _, ⟨2, rfl, .two (by rw [List.append_nil]; exact HR.out) HBx.out⟩, rfl, rfl, rfl⟩
            case measure => simp [intOf]
          · have HCe := keep (fun j u hj => VrIs.cells HSr.out j u hj)
            go_wp2_with (at_builtin; refine wpList_append_lies _ rfl (.tmp 31) (.tmp 32) 22 rfl w.heap.size 35 i0 _ 3 32 Tryd.underlying22 hi0 j0 j1 j2 rfl (by decide) (.slice pr (us : List Vr).length cr) (us : List Vr).length ((us : List Vr).flatMap cellsV) rfl (RowX.own HR.out) ⟨gs, os, none⟩ vs.length cv (vs.flatMap cellsV) rfl (flat_len7 cellsV 3 cellsV_len _) HCe.out (cellsV_one _) hpos (by unfold maxLen; first | omega | (simp; omega)) (by first | omega | (simp; omega)) HBx.out.size _ rfl ?_)
            intro g cap w2 hown2 hgrow hat hlt
            have HR2 : Hid (RowV w2 w.heap.size (.slice (some ⟨g, 0, none⟩) ((us : List Vr).length + vs.length) cap) ((us : List Vr) ++ vs)) := ⟨by first | (rw [List.length_append, List.flatMap_append]; exact hown2) | (simpa using hown2), fun p hp => trivial⟩
            have HB2 : Hid (Below w.heap.size w w2) := HBx.out.trans ⟨hgrow.os, hgrow.tape, hgrow.output, hgrow.size, fun i hi => hgrow.block i (by have := HBx.out.size; omega) (fun e => by have := ((RowX.own HR.out).lt i e.symm).1; omega)⟩
            clear hown2 hgrow hat hlt HCe
            go_wp2
            go_roundw
            case rel => first | exact .two HR2.out HB2.out | exact ⟨2, rfl, .two HR2.out HB2.out⟩
            case measure => simp [intOf]
        | two hr hb =>
          obtain ⟨pr, nr, cr, rfl⟩ := RowX.slice hr
          have HR := keep hr
          have HBx := keep hb
          clear hr hb
          go_wp2
          go_ret
          exact ⟨_, rfl, HR.out, HBx.out⟩
end Go.Proofs.YtemdnmfldihalaaDoor.Lr
namespace Go.Proofs.YtemdnmfldihalaaDoor.Lr
set_option linter.unusedVariables false
set_option linter.unusedSimpArgs false
open Go.ChangeShapes Go.WideShapes Go.ChangeAt Go.RowKit Lg

theorem VrIs.take {w : World} {B : Nat} {vs : List Vr} {p : Option Addr} {n cap : Nat} (h : VrIs w B vs (.slice p n cap)) (k : Nat) (hk : k ≤ n) : VrIs w B (vs.take k) (.slice p k cap) := by
  obtain ⟨p', n', cap', h1, h2, h3, h4, h5⟩ := h
  injection h1 with e1 e2 e3
  subst e1 e2 e3
  refine ⟨p, k, cap, rfl, by rw [List.length_take]; omega, by omega, by omega, fun j v hj => ?_⟩
  rw [List.getElem?_take] at hj
  by_cases hjk : j < k
  · rw [if_pos hjk] at hj; exact h5 j v hj
  · rw [if_neg hjk] at hj; cases hj
theorem twice_at {l : List Vr} {k : Nat} {v : Vr} (h : l[k]? = some v) : twiceA (l.take k) (l.drop k) = ((byV (l.take k) v.name).isSome || twiceA (l.take (k + 1)) (l.drop (k + 1))) := by
  obtain ⟨hk, rfl⟩ := List.getElem?_eq_some_iff.1 h
  rw [List.drop_eq_getElem_cons hk, twiceA, List.take_succ_eq_append_getElem hk]
set_option maxHeartbeats 8000000 in
set_option maxRecDepth 100000 in
theorem twice_any (B : Nat) (us vs : List Vr) (su sv : Value) (w : World) (hB : B ≤ w.heap.size) (hu : VrIs w B us su) (hv : VrIs w B vs sv) (hlu : us.length ≤ 100) (hlv : vs.length ≤ 100) :
    Calls Tryd.prog 22 #[su, sv] w fun r w' => r = .returned (.bool (twiceK (us ++ vs))) ∧ Below w.heap.size w w' := by
  obtain ⟨pu, nu, cu, rfl⟩ := hu.slice
  obtain ⟨pv, nv, cv, rfl⟩ := hv.slice
  obtain ⟨w1, hw1⟩ : ∃ w1, w.alloc (.cells #[.slice pu nu cu, .slice pv nv cv] 22) = w1 := ⟨_, rfl⟩
  have hb1 : Below w.heap.size w w1 := by rw [← hw1]; exact (Below.refl _ _).alloc (Nat.le_refl _) _
  have hx1 : Bk w1 w.heap.size [.slice pu nu cu, .slice pv nv cv] 22 := by rw [← hw1]; exact Bk.new _ _ _
  have HC := keep (concat_any B w.heap.size us vs _ _ w1 (Nat.le_trans hB hb1.size) hx1 (hu.below (hb1.mono hB)) (hv.below (hb1.mono hB)) hlu hlv)
  have HB1 := keep hb1
  have HW1 := keep hw1
  have hll : (us ++ vs).length ≤ 200 := by rw [List.length_append]; omega
  generalize us ++ vs = L at *
  clear hu hv hb1 hx1 hw1
  go_enter Tryd.func22, Tryd.ntmps22
  go_wp2_with (first | rw [HW1.out])
  refine HC.out.mono ?_
  rintro r w2 ⟨v, rfl, hr2, hb2⟩
  obtain ⟨p, n, cap, rfl⟩ := RowX.slice hr2
  have hn := RowX.len hr2
  subst hn
  have hcap : L.length ≤ cap := by
    rcases (RowX.own hr2).2 with ⟨q1, q2⟩ | ⟨_, _, _, q1, _, _, q4, _⟩
    · injection q1 with _ q1 q2; omega
    · injection q1 with _ q1 q2; omega
  have HV2 := keep (RowX.vars (B := w2.heap.size) hr2 (by omega) (Nat.le_refl _))
  have HB2 := keep (HB1.out.trans (hb2.mono HB1.out.size))
  have hfo : ∀ a, p = some a → ∃ g, a = ⟨g, 0, none⟩ := by
    intro a ha
    subst ha
    rcases (RowX.own hr2).2 with ⟨q1, q2⟩ | ⟨g, _, _, q1, _⟩
    · cases q1
    · injection q1 with q1 _ _
      injection q1 with q1
      exact ⟨g, q1⟩
  clear hr2 hb2 HC HW1
  have hcapm : (cap : Int) ≤ 9223372036854775807 ∨ True := Or.inr trivial
  go_wp2
  go_loopw [14] (fun i wx => ∃ k : Nat, k ≤ L.length ∧ i = .int .i64 (k : Int) ∧ twiceK L = twiceA (L.take k) (L.drop k) ∧ Below w2.heap.size w2 wx) (fun i _ => L.length - (intOf i).toNat)
  case atStart => exact ⟨0, by omega, rfl, rfl, Below.refl _ _⟩
  case round =>
    obtain ⟨k, hkn, rfl, htw, hbx⟩ := hrel
    have HTw := keep htw
    have HX := keep hbx
    clear htw hbx
    by_cases hkl : k < L.length
    · have d1 : decide ((k : Int) < (L.length : Int)) = true := decide_eq_true (by omega)
      have hkz : (k : Int) < (L.length : Int) := by omega
      have hk0 : (0 : Int) ≤ (k : Int) := by omega
      obtain ⟨x, hx⟩ : ∃ x, L[k]? = some x := ⟨_, List.getElem?_eq_getElem hkl⟩
      have hvr := HV2.out.below (HX.out.mono (Nat.le_refl _))
      obtain ⟨p', n', cap', q1, q2, q3, q4, q5⟩ := id hvr
      injection q1 with e1 e2 e3
      subst e1 e2 e3
      obtain ⟨g, o, rfl, hg, hat⟩ := q5 k x hx
      obtain ⟨g', hgo⟩ := hfo _ rfl
      injection hgo with hgo1 hgo2
      subst hgo1 hgo2
      have a0 := hat.c0
      have a1 := hat.c1
      have a2 := hat.c2
      rw [Nat.zero_add] at a0 a1 a2
      have HTk := keep (hvr.take k (by omega))
      have HStep := keep (twice_at hx)
      obtain ⟨xn, xs, xz⟩ := x
      simp only at a0 a1 a2
      obtain ⟨w3, hw3⟩ : ∃ w3, wr.alloc (.cells #[.string ⟨xn.toArray⟩, .bool xs, .int .i64 xz] 35) = w3 := ⟨_, rfl⟩
      have hb3 : Below wr.heap.size wr w3 := by rw [← hw3]; exact (Below.refl _ _).alloc (Nat.le_refl _) _
      have HB3 := keep hb3
      have HZ3 : Hid (Bk w3 wr.heap.size [.string ⟨xn.toArray⟩, .bool xs, .int .i64 xz] 35) := by
        show Bk _ _ _ _
        rw [← hw3]; exact Bk.new _ _ _
      have HW3 := keep hw3
      have hkc : (k : Int) ≤ (cap : Int) := by omega
      clear hx hvr q5 hat hw3 hb3 hfo
      go_wp2_with (first | rw [HW3.out])
      refine wp_region_noPanic ?_
      refine Ord.wpM_begin (fun W' : World => W'.cell? ⟨wr.heap.size, 0, none⟩ = some (.string ⟨xn.toArray⟩)) [0, 1, 2, 3, 4, 5, 6] (by kernel_rfl) ?_
      have HZ4 : Hid (Bk w3.drew wr.heap.size [.string ⟨xn.toArray⟩, .bool xs, .int .i64 xz] 35) := HZ3.out
      have HB4 : Hid (Below wr.heap.size wr w3.drew) := Below.drew HB3.out
      generalize w3.drew = w4 at *
      have hS : (fun W' : World => W'.cell? ⟨wr.heap.size, 0, none⟩ = some (.string ⟨xn.toArray⟩)) w4 := HZ4.out.cell 0 rfl
      refine Ord.wpM_take (i := 0) (v := .slice (some ⟨g, 0, none⟩) L.length cap) (by simp only [List.getElem?_toArray, List.getElem?_cons_zero, List.getElem?_cons_succ]; rfl) (by kernel_rfl) (by kernel_rfl) (by kernel_rfl) (by kernel_rfl) (fun _ _ _ h => h) (Or.inl ⟨by rfl, by intro W' hW; have q0 : W'.cell? ⟨wr.heap.size, 0, none⟩ = some (.string ⟨xn.toArray⟩) := hW; go_simp⟩) hS ?_
      try simp only [Act.put, List.setIfInBounds_toArray, List.set_cons_zero, List.set_cons_succ]
      refine Ord.wpM_take (i := 1) (v := .int .i64 (k : Int)) (by simp only [List.getElem?_toArray, List.getElem?_cons_zero, List.getElem?_cons_succ]; rfl) (by kernel_rfl) (by kernel_rfl) (by kernel_rfl) (by kernel_rfl) (fun _ _ _ h => h) (Or.inl ⟨by rfl, by intro W' hW; have q0 : W'.cell? ⟨wr.heap.size, 0, none⟩ = some (.string ⟨xn.toArray⟩) := hW; go_simp⟩) hS ?_
      try simp only [Act.put, List.setIfInBounds_toArray, List.set_cons_zero, List.set_cons_succ]
      refine Ord.wpM_take (i := 2) (v := .slice (some ⟨g, 0, none⟩) k cap) (by simp only [List.getElem?_toArray, List.getElem?_cons_zero, List.getElem?_cons_succ]; rfl) (by kernel_rfl) (by kernel_rfl) (by kernel_rfl) (by kernel_rfl) (fun _ _ _ h => h) (Or.inl ⟨by rfl, by intro W' hW; have q0 : W'.cell? ⟨wr.heap.size, 0, none⟩ = some (.string ⟨xn.toArray⟩) := hW; go_simp⟩) hS ?_
      try simp only [Act.put, List.setIfInBounds_toArray, List.set_cons_zero, List.set_cons_succ]
      refine Ord.wpM_take (i := 3) (v := .pointer (some ⟨wr.heap.size, 0, none⟩)) (by simp only [List.getElem?_toArray, List.getElem?_cons_zero, List.getElem?_cons_succ]; rfl) (by kernel_rfl) (by kernel_rfl) (by kernel_rfl) (by kernel_rfl) (fun _ _ _ h => h) (Or.inl ⟨by rfl, by intro W' hW; have q0 : W'.cell? ⟨wr.heap.size, 0, none⟩ = some (.string ⟨xn.toArray⟩) := hW; go_simp⟩) hS ?_
      try simp only [Act.put, List.setIfInBounds_toArray, List.set_cons_zero, List.set_cons_succ]
      refine Ord.wpM_take (i := 4) (v := .string ⟨xn.toArray⟩) (by simp only [List.getElem?_toArray, List.getElem?_cons_zero, List.getElem?_cons_succ]; rfl) (by kernel_rfl) (by kernel_rfl) (by kernel_rfl) (by kernel_rfl) (fun _ _ _ h => h) (Or.inl ⟨by rfl, by intro W' hW; have q0 : W'.cell? ⟨wr.heap.size, 0, none⟩ = some (.string ⟨xn.toArray⟩) := hW; go_simp⟩) hS ?_
      try simp only [Act.put, List.setIfInBounds_toArray, List.set_cons_zero, List.set_cons_succ]
      refine Ord.wpM_one (i := 5) (by kernel_rfl) (by simp only [List.getElem?_toArray, List.getElem?_cons_zero, List.getElem?_cons_succ]; rfl) (fun K hK => ?_)
      go_simp
      refine (find_any w2.heap.size xn (L.take k) (.slice (some ⟨g, 0, none⟩) k cap) w4 (Nat.le_trans HX.out.size HB4.out.size) (HTk.out.below (HB4.out.mono HX.out.size))).mono ?_
      rintro r w5 ⟨i, rfl, hi, hb5⟩
      have HB5 := keep (HX.out.trans ((HB4.out.trans (hb5.mono HB4.out.size)).mono HX.out.size))
      have HZ5 := keep (HZ4.out.fs (Fs.of_below (l := []) hb5) (by simp))
      have hge := hi.ge
      obtain ⟨q, hq⟩ : ∃ q, (byV (L.take k) xn).isSome = q := ⟨_, rfl⟩
      rw [show (List.find? (fun v : Vr => v.name == xn) (L.take k)).isSome = q from hq] at hge
      have hge' : decide (0 ≤ i) = q := hge
      have HQ := keep hq
      clear hi hb5 hS hq
      go_simp
      refine hK.out _ _ (fun _ => HZ5.out.cell 0 rfl) ?_
      clear hK K
      try simp only [Act.put, List.setIfInBounds_toArray, List.set_cons_zero, List.set_cons_succ]
      refine Ord.wpM_one (i := 6) (by kernel_rfl) (by simp only [List.getElem?_toArray, List.getElem?_cons_zero, List.getElem?_cons_succ]; rfl) (fun K hK => ?_)
      go_simp
      refine hK.out _ _ (fun _ => HZ5.out.cell 0 rfl) ?_
      clear hK K
      try simp only [Act.put, List.setIfInBounds_toArray, List.set_cons_zero, List.set_cons_succ]
      refine Ord.wpM_done (by kernel_rfl) ?_ _
      refine NoPanic.normal ?_
      cases q with
      | true =>
        go_wp2
        go_ret
        refine ⟨?_, HB2.out.trans (HB5.out.mono HB2.out.size)⟩
        rw [HTw.out, HStep.out, HQ.out]; rfl
      | false =>
        go_wp2
        go_roundw
        case rel => exact ⟨k + 1, by omega, by go_num, by rw [HTw.out, HStep.out, HQ.out, Bool.false_or], HB5.out⟩
        case measure => simp [intOf]; omega
    · have hke : k = L.length := by omega
      subst hke
      have dl : decide ((L.length : Int) < (L.length : Int)) = false := decide_eq_false (by omega)
      have HN : Hid (twiceK L = false) := by
        show twiceK L = false
        rw [HTw.out, List.drop_of_length_le (by omega)]; rfl
      clear hkl
      go_wp2
      go_ret
      refine ⟨?_, HB2.out.trans (HX.out.mono HB2.out.size)⟩
      rw [HN.out]; rfl
end Go.Proofs.YtemdnmfldihalaaDoor.Lr
