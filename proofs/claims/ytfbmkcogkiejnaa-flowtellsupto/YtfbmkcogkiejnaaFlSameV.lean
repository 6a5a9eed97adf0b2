/- The document's own SameVars, at the seat of stages 7 and 8 (LrVars' walk). -/
import Derived.Test.YtfbmkcogkiejnaaFlOwn
import Derived.Deep.RegionHeld3
import Derived.Deep.DrawnRows
namespace Go.Proofs.Ytfbmkcogkiejnaa.Lr
set_option linter.unusedVariables false
open Go.ChangeShapes Go.WideShapes Go.ChangeAt Go.RowKit Lg

theorem no_iff {p : Prop} (h : ¬ p) : (false = true ↔ p) := ⟨fun e => Bool.noConfusion e, fun k => (h k).elim⟩
attribute [local go_sem ↓] Go.wp_at_zero Go.wp_at_succ
set_option maxHeartbeats 4000000 in
set_option maxRecDepth 100000 in
theorem sameV_any (B : Nat) (us vs : List Vr) (sa sb : Value) (w : World) (hB : B ≤ w.heap.size) (ha : VrIs w B us sa) (hb : VrIs w B vs sb) :
    Calls Try.prog 31 #[sa, sb] w fun r w' => ∃ v : Bool, r = .returned (.bool v) ∧ (v = true ↔ us = vs) ∧ Below w.heap.size w w' := by
  obtain ⟨pa, na, ca, rfl, hna, hca, hla, hea⟩ := ha
  obtain ⟨pb, nb, cb, rfl, hnb, hcb, hlb, heb⟩ := hb
  have HEA := keep hea
  have HEB := keep heb
  have HNA := keep hna
  have HNB := keep hnb
  have HBB := keep hB
  clear hea heb hna hnb hB
  by_cases hn : na = nb
  · subst hn
    go_enter Try.func31, Try.ntmps31
    go_wp2
    go_loopw [13] (fun i wx => ∃ k : Nat, k ≤ na ∧ i = .int .i64 (k : Int) ∧ (∀ j, j < k → us[j]? = vs[j]?) ∧ Below w.heap.size w wx) (fun i _ => na - (intOf i).toNat)
    case atStart => exact ⟨0, by omega, rfl, fun j hj => by omega, Below.refl _ _⟩
    case round =>
      obtain ⟨k, hkn, rfl, hsame, hbx⟩ := hrel
      have HS := keep hsame
      have HX := keep hbx
      clear hsame hbx
      by_cases hkl : k < na
      · have d1 : decide ((k : Int) < (na : Int)) = true := decide_eq_true (by omega)
        have hkz : (k : Int) < (na : Int) := by omega
        have hk0 : (0 : Int) ≤ (k : Int) := by omega
        obtain ⟨x, hx⟩ : ∃ x, us[k]? = some x := ⟨_, List.getElem?_eq_getElem (by rw [HNA.out]; exact hkl)⟩
        obtain ⟨y, hy⟩ : ∃ y, vs[k]? = some y := ⟨_, List.getElem?_eq_getElem (by rw [HNB.out]; exact hkl)⟩
        obtain ⟨g, o, rfl, hg, hax⟩ := HEA.out k x hx
        obtain ⟨g', o', rfl, hg', hay⟩ := HEB.out k y hy
        have HUX := keep hx
        have HVX := keep hy
        have hB := HBB.out
        have hax := hax.below HX.out (by omega)
        have hay := hay.below HX.out (by omega)
        have a0 := hax.c0
        have a1 := hax.c1
        have a2 := hax.c2
        have b0 := hay.c0
        have b1 := hay.c1
        have b2 := hay.c2
        clear hx hy hax hay HEA HEB
        have hSD : BD w wr := BD.of HX.out
        have HNE : Hid (∀ {α : Type} (f : Vr → α), ¬ f x = f y → ¬ us = vs) := fun f hf e => by
          have e2 := HUX.out
          rw [e, HVX.out] at e2
          injection e2 with e3
          exact hf (by rw [e3])
        have HXY : Hid (x = y → us[k]? = vs[k]?) := fun e => by rw [HUX.out, HVX.out, e]
        obtain ⟨nx, sx, zx⟩ := x
        obtain ⟨ny, sy, zy⟩ := y
        simp only at a0 a1 a2 b0 b1 b2
        clear HUX HVX hB
        by_cases h1 : nx = ny
        · by_cases h2 : sx = sy
          · by_cases h3 : zx = zy
            · subst h1 h2 h3
              have HQ := keep (HXY.out rfl)
              clear HNE HXY
              go_wp2
              go_region_held3 (fun w' => w'.cell? ⟨g, o + k * 3, none⟩ = some (.string ⟨nx.toArray⟩) ∧ w'.cell? ⟨g, o + k * 3 + 1, none⟩ = some (.bool sx) ∧ w'.cell? ⟨g, o + k * 3 + 2, none⟩ = some (.int .i64 zx) ∧
                  w'.cell? ⟨g', o' + k * 3, none⟩ = some (.string ⟨nx.toArray⟩) ∧ w'.cell? ⟨g', o' + k * 3 + 1, none⟩ = some (.bool sx) ∧ w'.cell? ⟨g', o' + k * 3 + 2, none⟩ = some (.int .i64 zx) ∧ BD w w')
                (first | (go_split_ands; refine ⟨?_, ?_, ?_, ?_, ?_, ?_, ?_⟩ <;> first | assumption | go_keep)) (fail)
              go_wp2
              go_roundw
              case rel => exact ⟨k + 1, by omega, by go_num, fun j hj => by
                by_cases e : j = k
                · rw [e]; exact HQ.out
                · exact HS.out j (by omega), BD.out hSD⟩
              case measure => simp [intOf]; omega
            · subst h1 h2
              have d3 : (zx == zy) = false := by simpa using h3
              have HQ := keep (HNE.out Vr.size h3)
              clear HNE HXY h3
              go_wp2
              go_region_held3 (fun w' => w'.cell? ⟨g, o + k * 3, none⟩ = some (.string ⟨nx.toArray⟩) ∧ w'.cell? ⟨g, o + k * 3 + 1, none⟩ = some (.bool sx) ∧ w'.cell? ⟨g, o + k * 3 + 2, none⟩ = some (.int .i64 zx) ∧
                  w'.cell? ⟨g', o' + k * 3, none⟩ = some (.string ⟨nx.toArray⟩) ∧ w'.cell? ⟨g', o' + k * 3 + 1, none⟩ = some (.bool sx) ∧ w'.cell? ⟨g', o' + k * 3 + 2, none⟩ = some (.int .i64 zy) ∧ BD w w')
                (first | (go_split_ands; refine ⟨?_, ?_, ?_, ?_, ?_, ?_, ?_⟩ <;> first | assumption | go_keep)) (fail)
              go_wp2
              go_ret
              exact ⟨false, rfl, no_iff HQ.out, BD.out hSD⟩
          · subst h1
            have d2 : (sx == sy) = false := by simpa using h2
            have HQ := keep (HNE.out Vr.secret h2)
            clear HNE HXY h2
            go_wp2
            go_region_held3 (fun w' => w'.cell? ⟨g, o + k * 3, none⟩ = some (.string ⟨nx.toArray⟩) ∧ w'.cell? ⟨g, o + k * 3 + 1, none⟩ = some (.bool sx) ∧ w'.cell? ⟨g, o + k * 3 + 2, none⟩ = some (.int .i64 zx) ∧
                w'.cell? ⟨g', o' + k * 3, none⟩ = some (.string ⟨nx.toArray⟩) ∧ w'.cell? ⟨g', o' + k * 3 + 1, none⟩ = some (.bool sy) ∧ w'.cell? ⟨g', o' + k * 3 + 2, none⟩ = some (.int .i64 zy) ∧ BD w w')
              (first | (go_split_ands; refine ⟨?_, ?_, ?_, ?_, ?_, ?_, ?_⟩ <;> first | assumption | go_keep)) (fail)
            go_wp2
            go_ret
            exact ⟨false, rfl, no_iff HQ.out, BD.out hSD⟩
        · have d1 : (nx == ny) = false := by simpa using h1
          have HQ := keep (HNE.out Vr.name h1)
          clear HNE HXY h1
          go_wp2
          go_region_held3 (fun w' => w'.cell? ⟨g, o + k * 3, none⟩ = some (.string ⟨nx.toArray⟩) ∧ w'.cell? ⟨g, o + k * 3 + 1, none⟩ = some (.bool sx) ∧ w'.cell? ⟨g, o + k * 3 + 2, none⟩ = some (.int .i64 zx) ∧
              w'.cell? ⟨g', o' + k * 3, none⟩ = some (.string ⟨ny.toArray⟩) ∧ w'.cell? ⟨g', o' + k * 3 + 1, none⟩ = some (.bool sy) ∧ w'.cell? ⟨g', o' + k * 3 + 2, none⟩ = some (.int .i64 zy) ∧ BD w w')
            (first | (go_split_ands; refine ⟨?_, ?_, ?_, ?_, ?_, ?_, ?_⟩ <;> first | assumption | go_keep)) (fail)
          go_wp2
          go_ret
          exact ⟨false, rfl, no_iff HQ.out, BD.out hSD⟩
      · have hke : k = na := by omega
        subst hke
        have HE : Hid (us = vs) := by
          show us = vs
          apply List.ext_getElem?
          intro j
          by_cases hj : j < k
          · exact HS.out j hj
          · rw [List.getElem?_eq_none (by rw [HNA.out]; omega), List.getElem?_eq_none (by rw [HNB.out]; omega)]
        have dk : decide ((k : Int) < (k : Int)) = false := decide_eq_false (by omega)
        clear hkl
        go_wp2
        go_ret
        exact ⟨true, rfl, ⟨fun _ => HE.out, fun _ => rfl⟩, HX.out⟩
  · have dn : ((na : Int) != (nb : Int)) = true := by simpa using fun e => hn (by omega)
    have HD := keep hn
    clear hn
    go_enter Try.func31, Try.ntmps31
    go_wp2
    go_ret
    exact ⟨false, rfl, no_iff fun h => HD.out (by rw [← HNA.out, ← HNB.out, h]), Below.refl _ _⟩
end Go.Proofs.Ytfbmkcogkiejnaa.Lr
