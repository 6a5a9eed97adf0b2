/- Expressions as they lie in memory; the document's own SameExpr. -/
import Derived.Test.YtkobiojndamofaaDoorLrBase
import Derived.Deep.RegionHeld3
import Derived.Deep.DrawnRows
namespace Go.Proofs.YtkobiojndamofaaDoor.Lr
set_option linter.unusedVariables false
open Go.ChangeShapes Go.WideShapes Go.ChangeAt Go.RowKit Lg

/-- An expression's four cells, its arguments' slice given. -/
def exA (e : Ex) (sl : Value) : Array Value := #[.int .i64 e.kind, .int .i64 e.n, .string ⟨e.name.toArray⟩, sl]
/-- Those four, from an address on. -/
structure ExAt (w : World) (g k : Nat) (e : Ex) (sl : Value) : Prop where
  c0 : w.cell? ⟨g, k, none⟩ = some (.int .i64 e.kind)
  c1 : w.cell? ⟨g, k + 1, none⟩ = some (.int .i64 e.n)
  c2 : w.cell? ⟨g, k + 2, none⟩ = some (.string ⟨e.name.toArray⟩)
  c3 : w.cell? ⟨g, k + 3, none⟩ = some sl
/-- The slice sl holds an expression's arguments, and what hangs on them, in blocks below B. -/
def ExIs (w : World) (B : Nat) : Nat → Ex → Value → Prop
  | 0, _, _ => False
  | m + 1, e, sl => (e.args = [] ∧ sl = .slice none 0 0) ∨ ∃ (g o cap : Nat), sl = .slice (some ⟨g, o, none⟩) e.args.length cap ∧ e.args.length ≤ cap ∧ e.args.length ≤ 281474976710656 ∧ g < B ∧
      ∀ j a, e.args[j]? = some a → ∃ sl', ExAt w g (o + j * 4) a sl' ∧ ExIs w B m a sl'
theorem ExAt.below {w w' : World} {B g k : Nat} {e : Ex} {sl : Value} (h : ExAt w g k e sl) (hb : Below B w w') (hg : g < B) : ExAt w' g k e sl := by
  have key : ∀ i, w'.cell? ⟨g, i, none⟩ = w.cell? ⟨g, i, none⟩ := fun i => by
    unfold World.cell?; simp only [hb.block g hg]
  exact ⟨by rw [key]; exact h.c0, by rw [key]; exact h.c1, by rw [key]; exact h.c2, by rw [key]; exact h.c3⟩
theorem ExIs.below {w w' : World} {B : Nat} (hb : Below B w w') : ∀ {m : Nat} {e : Ex} {sl : Value}, ExIs w B m e sl → ExIs w' B m e sl
  | 0, _, _, h => h
  | m + 1, e, sl, h => by
    rcases h with h | ⟨g, o, cap, h1, h2, h5, h3, h4⟩
    · exact .inl h
    · exact .inr ⟨g, o, cap, h1, h2, h5, h3, fun j a hj => by
        obtain ⟨sl', k1, k2⟩ := h4 j a hj
        exact ⟨sl', k1.below hb h3, k2.below hb⟩⟩
/-- The same, by parts. -/
theorem ExIs.parts {w : World} {B m : Nat} {e : Ex} {sl : Value} (h : ExIs w B (m + 1) e sl) : ∃ (p : Option Addr) (n cap : Nat), sl = .slice p n cap ∧ e.args.length = n ∧ n ≤ cap ∧ n ≤ 281474976710656 ∧
    ∀ j a, e.args[j]? = some a → ∃ g o sl', p = some ⟨g, o, none⟩ ∧ g < B ∧ ExAt w g (o + j * 4) a sl' ∧ ExIs w B m a sl' := by
  rcases h with ⟨h1, h2⟩ | ⟨g, o, cap, h1, h2, h5, h3, h4⟩
  · exact ⟨none, 0, 0, h2, by rw [h1]; rfl, Nat.le_refl _, by omega, fun j a hj => by rw [h1] at hj; simp at hj⟩
  · exact ⟨some ⟨g, o, none⟩, _, cap, h1, rfl, h2, by omega, fun j a hj => by
      obtain ⟨sl', k1, k2⟩ := h4 j a hj
      exact ⟨g, o, sl', rfl, h3, k1, k2⟩⟩
theorem cell_below {w w' : World} {B g i : Nat} (hb : Below B w w') (hg : g < B) : w'.cell? ⟨g, i, none⟩ = w.cell? ⟨g, i, none⟩ := by
  unfold World.cell?; simp only [hb.block g hg]
theorem lt_of_cell {w : World} {g i : Nat} {v : Value} (h : w.cell? ⟨g, i, none⟩ = some v) : g < w.heap.size := by
  by_cases hg : g < w.heap.size
  · exact hg
  · unfold World.cell? at h
    simp only [Array.getElem?_eq_none (Nat.le_of_not_lt hg)] at h
    simp at h

/-- What holds all along, draws or no. -/
def SD (w w' : World) : Prop := ∃ v : World, (Below w.heap.size w v ∧ w.heap.size + 2 ≤ v.heap.size) ∧ w'.heap = v.heap ∧ w'.os = v.os ∧ w'.tape = v.tape ∧ w'.output = v.output
theorem SD.out {w w' : World} (h : SD w w') : Below w.heap.size w w' ∧ w.heap.size + 2 ≤ w'.heap.size := by
  obtain ⟨v, ⟨h1, h2⟩, e1, e2, e3, e4⟩ := h
  exact ⟨⟨e2.trans h1.os, e3.trans h1.tape, e4.trans h1.output, by rw [e1]; exact h1.size, fun k hk => by rw [e1]; exact h1.block k hk⟩, by rw [e1]; exact h2⟩
theorem SD.of {w w' : World} (h1 : Below w.heap.size w w') (h2 : w.heap.size + 2 ≤ w'.heap.size) : SD w w' := ⟨w', ⟨h1, h2⟩, rfl, rfl, rfl, rfl⟩
theorem SD.next {w w' w'' : World} (h : SD w w') (hb : Below w'.heap.size w' w'') : SD w w'' :=
  SD.of (h.out.1.trans (hb.mono h.out.1.size)) (Nat.le_trans h.out.2 hb.size)
theorem keep_cell {w w' : World} {g i : Nat} {v : Value} (hb : Below w.heap.size w w') (h : w.cell? ⟨g, i, none⟩ = some v) : w'.cell? ⟨g, i, none⟩ = some v := by
  rw [cell_below hb (lt_of_cell h)]; exact h
theorem no_iff {p : Prop} (h : ¬ p) : (false = true ↔ p) := ⟨fun e => Bool.noConfusion e, fun k => (h k).elim⟩
attribute [local go_sem ↓] Go.wp_at_zero Go.wp_at_succ
set_option maxHeartbeats 4000000 in
set_option maxRecDepth 100000 in
theorem sameE_step (B m : Nat) (ih : ∀ (a b : Ex) (sa sb : Value) (w : World), B ≤ w.heap.size → ExIs w B m a sa → ExIs w B m b sb →
      Calls Tryd.prog 40 #[.agg (exA a sa), .agg (exA b sb)] w fun r w' => ∃ v : Bool, r = .returned (.bool v) ∧ (v = true ↔ a = b) ∧ Below w.heap.size w w')
    (a b : Ex) (sa sb : Value) (w : World) (hB : B ≤ w.heap.size) (ha : ExIs w B (m + 1) a sa) (hb : ExIs w B (m + 1) b sb) :
    Calls Tryd.prog 40 #[.agg (exA a sa), .agg (exA b sb)] w fun r w' => ∃ v : Bool, r = .returned (.bool v) ∧ (v = true ↔ a = b) ∧ Below w.heap.size w w' := by
    have IH := keep ih
    clear ih
    obtain ⟨pa, na, ca, rfl, hna, hca, hla, hea⟩ := ha.parts
    obtain ⟨pb, nb, cb, rfl, hnb, hcb, hlb, heb⟩ := hb.parts
    have HEA := keep hea
    have HEB := keep heb
    clear ha hb hea heb
    obtain ⟨ka, xa, la, us⟩ := a
    obtain ⟨kb, xb, lb, vs⟩ := b
    simp only at hna hnb HEA HEB
    unfold exA
    simp only
    have HB : Hid (Below w.heap.size w ((w.alloc (.cells #[.int .i64 ka, .int .i64 xa, .string ⟨la.toArray⟩, .slice pa na ca] 39)).alloc (.cells #[.int .i64 kb, .int .i64 xb, .string ⟨lb.toArray⟩, .slice pb nb cb] 39))) :=
      ((Below.refl _ _).alloc (Nat.le_refl _) _).alloc (by simp) _
    have HNA := keep hna
    have HNB := keep hnb
    have HBB := keep hB
    clear hna hnb hB
    by_cases hk : ka = kb
    · by_cases hx : xa = xb
      · by_cases hl : la = lb
        · by_cases hn : na = nb
          · subst hk hx hl hn
            go_enter Tryd.func40, Tryd.ntmps40
            go_wp2
            go_loopw [37] (fun i wx => ∃ k : Nat, k ≤ na ∧ i = .int .i64 (k : Int) ∧ (∀ j, j < k → us[j]? = vs[j]?) ∧ wx.cell? ⟨w.heap.size, 3, none⟩ = some (.slice pa na ca) ∧ wx.cell? ⟨w.heap.size + 1, 3, none⟩ = some (.slice pb na cb) ∧ w.heap.size + 2 ≤ wx.heap.size ∧ Below w.heap.size w wx) (fun i _ => na - (intOf i).toNat)
            case atStart => exact ⟨0, by omega, rfl, fun j hj => by omega, by simp, by simp, by simp, HB.out⟩
            case round =>
              clear HB
              obtain ⟨k, hkn, rfl, hsame, hc1, hc2, hsz, hbx⟩ := hrel
              have HS := keep hsame
              have HX := keep hbx
              clear hsame hbx
              by_cases hkl : k < na
              · have d1 : decide ((k : Int) < (na : Int)) = true := decide_eq_true (by omega)
                have hkz : (k : Int) < (na : Int) := by omega
                have hk0 : (0 : Int) ≤ (k : Int) := by omega
                obtain ⟨x, hx⟩ : ∃ x, us[k]? = some x := ⟨_, List.getElem?_eq_getElem (by rw [HNA.out]; exact hkl)⟩
                obtain ⟨y, hy⟩ : ∃ y, vs[k]? = some y := ⟨_, List.getElem?_eq_getElem (by rw [HNB.out]; exact hkl)⟩
                obtain ⟨g, o, slx, rfl, hg, hax, hex⟩ := HEA.out k x hx
                obtain ⟨g', o', sly, rfl, hg', hay, hey⟩ := HEB.out k y hy
                have HUX := keep hx
                have HVX := keep hy
                have HEX := keep hex
                have HEY := keep hey
                have hB := HBB.out
                have hax := hax.below HX.out (by omega)
                have hay := hay.below HX.out (by omega)
                have a0 := hax.c0
                have a1 := hax.c1
                have a2 := hax.c2
                have a3 := hax.c3
                have b0 := hay.c0
                have b1 := hay.c1
                have b2 := hay.c2
                have b3 := hay.c3
                clear hx hy hex hey hax hay HEA HEB
                have hSD : SD w wr := SD.of HX.out hsz
                have HDN : Hid (∀ W, SD w W → B ≤ W.heap.size) := fun W hW => Nat.le_trans HBB.out hW.out.1.size
                have HDX : Hid (∀ W, SD w W → ExIs W B m x slx) := fun W hW => HEX.out.below (hW.out.1.mono HBB.out)
                have HDY : Hid (∀ W, SD w W → ExIs W B m y sly) := fun W hW => HEY.out.below (hW.out.1.mono HBB.out)
                clear hB HEX HEY
                go_wp2
                go_region_held3 (fun w' => w'.cell? ⟨w.heap.size, 3, none⟩ = some (.slice (some ⟨g, o, none⟩) na ca) ∧ w'.cell? ⟨w.heap.size + 1, 3, none⟩ = some (.slice (some ⟨g', o', none⟩) na cb) ∧
                    w'.cell? ⟨g, o + k * 4, none⟩ = some (.int .i64 x.kind) ∧ w'.cell? ⟨g, o + k * 4 + 1, none⟩ = some (.int .i64 x.n) ∧ w'.cell? ⟨g, o + k * 4 + 2, none⟩ = some (.string ⟨x.name.toArray⟩) ∧ w'.cell? ⟨g, o + k * 4 + 3, none⟩ = some slx ∧
                    w'.cell? ⟨g', o' + k * 4, none⟩ = some (.int .i64 y.kind) ∧ w'.cell? ⟨g', o' + k * 4 + 1, none⟩ = some (.int .i64 y.n) ∧ w'.cell? ⟨g', o' + k * 4 + 2, none⟩ = some (.string ⟨y.name.toArray⟩) ∧ w'.cell? ⟨g', o' + k * 4 + 3, none⟩ = some sly ∧ SD w w')
                  (first
                    | (go_split_ands; refine ⟨?_, ?_, ?_, ?_, ?_, ?_, ?_, ?_, ?_, ?_, ?_⟩ <;> first | assumption | (refine keep_cell hbv ?_; assumption) | exact SD.next (by assumption) hbv | go_keep))
                  (first
                    | (go_at_call 40; refine (IH.out x y slx sly _ ?_ ?_ ?_).mono ?_; (exact HDN.out _ (by assumption)); (exact HDX.out _ (by assumption)); (exact HDY.out _ (by assumption)); rintro e w' ⟨v, rfl, hv, hbv⟩))
                rename_i hH
                obtain ⟨q1, q2, _, _, _, _, _, _, _, _, qS⟩ := hH
                have HV := keep hv
                have HSD := keep qS
                have HQ1 := keep q1
                have HQ2 := keep q2
                clear hv qS q1 q2
                cases v with
                | false =>
                  have HNE : Hid (¬ us = vs) := by
                    intro e
                    have e2 := HUX.out
                    rw [e, HVX.out] at e2
                    injection e2 with e3
                    exact Bool.noConfusion (HV.out.2 e3.symm)
                  go_wp2
                  go_ret
                  exact ⟨false, rfl, no_iff fun h => HNE.out (congrArg Ex.args h), HSD.out.out.1⟩
                | true =>
                  have HXY : Hid (us[k]? = vs[k]?) := by
                    show us[k]? = vs[k]?
                    rw [HUX.out, HVX.out, HV.out.1 rfl]
                  go_wp2
                  go_roundw
                  case rel => exact ⟨k + 1, by omega, by go_num, fun j hj => by
                    by_cases e : j = k
                    · rw [e]; exact HXY.out
                    · exact HS.out j (by omega), HQ1.out, HQ2.out, HSD.out.out.2, HSD.out.out.1⟩
                  case measure => simp [intOf]; omega
              · have hke : k = na := by omega
                subst hke
                have HE : Hid (us = vs) := by
                  show us = vs
                  apply List.ext_getElem?
                  intro j
                  by_cases hj : j < k
                  · exact HS.out j hj
                  · rw [List.getElem?_eq_none (by rw [HNA.out]; omega), List.getElem?_eq_none (by rw [HNB.out]; omega)]
                have dk : decide ((k : Int) < (k : Int)) = false := decide_eq_false (by omega)
                clear hkl
                go_wp2
                go_ret
                exact ⟨true, rfl, ⟨fun _ => by rw [HE.out], fun _ => rfl⟩, HX.out⟩
          · have dn : ((na : Int) != (nb : Int)) = true := by simpa using fun e => hn (by omega)
            have HD : Hid (∀ x y : Ex, x.args.length = na → y.args.length = nb → ¬ x = y) := fun x y h1 h2 e => hn (by rw [← h1, ← h2, e])
            subst hk hx hl
            clear hn
            go_enter Tryd.func40, Tryd.ntmps40
            go_wp2
            go_ret
            exact ⟨false, rfl, no_iff fun h => HD.out ⟨_, _, _, us⟩ ⟨_, _, _, vs⟩ HNA.out HNB.out h, HB.out⟩
        · have dl : (la == lb) = false := by simpa using hl
          have HD := keep hl
          subst hk hx
          clear hl
          go_enter Tryd.func40, Tryd.ntmps40
          go_wp2
          go_ret
          exact ⟨false, rfl, no_iff fun h => HD.out (congrArg Ex.name h), HB.out⟩
      · have dx : (xa != xb) = true := by simpa using hx
        have HD := keep hx
        subst hk
        clear hx
        go_enter Tryd.func40, Tryd.ntmps40
        go_wp2
        go_ret
        exact ⟨false, rfl, no_iff fun h => HD.out (congrArg Ex.n h), HB.out⟩
    · have dk : (ka != kb) = true := by simpa using hk
      have HD := keep hk
      clear hk
      go_enter Tryd.func40, Tryd.ntmps40
      go_wp2
      go_ret
      exact ⟨false, rfl, no_iff fun h => HD.out (congrArg Ex.kind h), HB.out⟩
theorem sameE_any (B : Nat) : ∀ (m : Nat) (a b : Ex) (sa sb : Value) (w : World), B ≤ w.heap.size → ExIs w B m a sa → ExIs w B m b sb →
    Calls Tryd.prog 40 #[.agg (exA a sa), .agg (exA b sb)] w fun r w' => ∃ v : Bool, r = .returned (.bool v) ∧ (v = true ↔ a = b) ∧ Below w.heap.size w w'
  | 0, _, _, _, _, _, _, ha, _ => ha.elim
  | m + 1, a, b, sa, sb, w, hB, ha, hb => sameE_step B m (sameE_any B m) a b sa sb w hB ha hb
end Go.Proofs.YtkobiojndamofaaDoor.Lr
