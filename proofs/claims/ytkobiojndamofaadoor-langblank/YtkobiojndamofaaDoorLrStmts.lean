/- Statements as they lie in memory; the document's own SameStmts. -/
import Derived.Test.YtkobiojndamofaaDoorLrVars
namespace Go.Proofs.YtkobiojndamofaaDoor.Lr
set_option linter.unusedVariables false
open Go.ChangeShapes Go.WideShapes Go.ChangeAt Go.RowKit Lg

structure StAt (w : World) (g k : Nat) (t : St) (s1 s2 s3 : Value) : Prop where
  c0 : w.cell? ⟨g, k, none⟩ = some (.int .i64 t.kind)
  c1 : w.cell? ⟨g, k + 1, none⟩ = some (.int .i64 t.n)
  c2 : w.cell? ⟨g, k + 2, none⟩ = some (.string ⟨t.name.toArray⟩)
  c3 : w.cell? ⟨g, k + 3, none⟩ = some (.bool t.secret)
  c4 : w.cell? ⟨g, k + 4, none⟩ = some s1
  c5 : w.cell? ⟨g, k + 5, none⟩ = some s2
  c6 : w.cell? ⟨g, k + 6, none⟩ = some s3
/-- An expression that is nothing but its arguments. -/
def ar (l : List Ex) : Ex := ⟨0, 0, [], l⟩
/-- The slice sl holds statements, and what hangs on them, in blocks below B. -/
def StIs (w : World) (B e : Nat) : Nat → List St → Value → Prop
  | 0, _, _ => False
  | m + 1, l, sl => ∃ (p : Option Addr) (n cap : Nat), sl = .slice p n cap ∧ l.length = n ∧ n ≤ cap ∧ n ≤ 281474976710656 ∧
      ∀ j t, l[j]? = some t → ∃ g o s1 s2 s3, p = some ⟨g, o, none⟩ ∧ g < B ∧ StAt w g (o + j * 7) t s1 s2 s3 ∧ ExIs w B (e + 1) (ar t.args) s1 ∧ StIs w B e m t.thn s2 ∧ StIs w B e m t.els s3
theorem StAt.below {w w' : World} {B g k : Nat} {t : St} {s1 s2 s3 : Value} (h : StAt w g k t s1 s2 s3) (hb : Below B w w') (hg : g < B) : StAt w' g k t s1 s2 s3 :=
  ⟨by rw [cell_below hb hg]; exact h.c0, by rw [cell_below hb hg]; exact h.c1, by rw [cell_below hb hg]; exact h.c2, by rw [cell_below hb hg]; exact h.c3, by rw [cell_below hb hg]; exact h.c4, by rw [cell_below hb hg]; exact h.c5, by rw [cell_below hb hg]; exact h.c6⟩
theorem StIs.below {w w' : World} {B e : Nat} (hb : Below B w w') : ∀ {m : Nat} {l : List St} {sl : Value}, StIs w B e m l sl → StIs w' B e m l sl
  | 0, _, _, h => h
  | m + 1, l, sl, h => by
    obtain ⟨p, n, cap, h1, h2, h3, h4, h5⟩ := h
    exact ⟨p, n, cap, h1, h2, h3, h4, fun j t hj => by
      obtain ⟨g, o, s1, s2, s3, k1, k2, k3, k4, k5, k6⟩ := h5 j t hj
      exact ⟨g, o, s1, s2, s3, k1, k2, k3.below hb k2, k4.below hb, k5.below hb, k6.below hb⟩⟩

theorem StIs.slice {w : World} {B e : Nat} : ∀ {m : Nat} {l : List St} {sl : Value}, StIs w B e m l sl → ∃ p n cap, sl = .slice p n cap
  | 0, _, _, h => h.elim
  | _ + 1, _, _, h => by
    obtain ⟨p, n, cap, h1, _⟩ := h
    exact ⟨p, n, cap, h1⟩
theorem BD.next {w w' w'' : World} (h : BD w w') (hb : Below w'.heap.size w' w'') : BD w w'' := BD.of (h.out.trans (hb.mono h.out.size))
attribute [local go_sem ↓] Go.wp_at_zero Go.wp_at_succ
set_option maxHeartbeats 4000000 in
set_option maxRecDepth 100000 in
theorem sameS_step (B e m : Nat) (ih : ∀ (us vs : List St) (sa sb : Value) (w : World), B ≤ w.heap.size → StIs w B e m us sa → StIs w B e m vs sb →
      Calls Tryd.prog 16 #[sa, sb] w fun r w' => ∃ v : Bool, r = .returned (.bool v) ∧ (v = true ↔ us = vs) ∧ Below w.heap.size w w')
    (us vs : List St) (sa sb : Value) (w : World) (hB : B ≤ w.heap.size) (ha : StIs w B e (m + 1) us sa) (hb : StIs w B e (m + 1) vs sb) :
    Calls Tryd.prog 16 #[sa, sb] w fun r w' => ∃ v : Bool, r = .returned (.bool v) ∧ (v = true ↔ us = vs) ∧ Below w.heap.size w w' := by
  have IH := keep ih
  obtain ⟨pa, na, ca, rfl, hna, hca, hla, hea⟩ := ha
  obtain ⟨pb, nb, cb, rfl, hnb, hcb, hlb, heb⟩ := hb
  have HEA := keep hea
  have HEB := keep heb
  have HNA := keep hna
  have HNB := keep hnb
  have HBB := keep hB
  clear hea heb hna hnb hB ih
  by_cases hn : na = nb
  · subst hn
    go_enter Tryd.func16, Tryd.ntmps16
    go_wp2
    go_loopw [16] (fun i wx => ∃ k : Nat, k ≤ na ∧ i = .int .i64 (k : Int) ∧ (∀ j, j < k → us[j]? = vs[j]?) ∧ Below w.heap.size w wx) (fun i _ => na - (intOf i).toNat)
    case atStart => exact ⟨0, by omega, rfl, fun j hj => by omega, Below.refl _ _⟩
    case round =>
      obtain ⟨k, hkn, rfl, hsame, hbx⟩ := hrel
      have HS := keep hsame
      have HX := keep hbx
      clear hsame hbx
      by_cases hkl : k < na
      · have d1 : decide ((k : Int) < (na : Int)) = true := decide_eq_true (by omega)
        have hkz : (k : Int) < (na : Int) := by omega
        have hk0 : (0 : Int) ≤ (k : Int) := by omega
        obtain ⟨x, hx⟩ : ∃ x, us[k]? = some x := ⟨_, List.getElem?_eq_getElem (by rw [HNA.out]; exact hkl)⟩
        obtain ⟨y, hy⟩ : ∃ y, vs[k]? = some y := ⟨_, List.getElem?_eq_getElem (by rw [HNB.out]; exact hkl)⟩
        obtain ⟨g, o, s1, s2, s3, rfl, hg, hax, hx1, hx2, hx3⟩ := HEA.out k x hx
        obtain ⟨g', o', t1, t2, t3, rfl, hg', hay, hy1, hy2, hy3⟩ := HEB.out k y hy
        have HNE : Hid (∀ {α : Type} (f : St → α), ¬ f x = f y → ¬ us = vs) := fun f hf e => by
          have e2 := hx
          rw [e, hy] at e2
          injection e2 with e3
          exact hf (by rw [e3])
        have HXY : Hid (x = y → us[k]? = vs[k]?) := fun e => by rw [hx, hy, e]
        obtain ⟨px, nx, cx, rfl, hlx, hcx, hmx, hpx⟩ := hx1.parts
        obtain ⟨py, ny, cy, rfl, hly, hcy, hmy, hpy⟩ := hy1.parts
        obtain ⟨p2, n2, c2, rfl⟩ := hx2.slice
        obtain ⟨p3, n3, c3, rfl⟩ := hx3.slice
        obtain ⟨q2, m2, d2, rfl⟩ := hy2.slice
        obtain ⟨q3, m3, d3, rfl⟩ := hy3.slice
        have HPX := keep hpx
        have HPY := keep hpy
        have HLX := keep hlx
        have HLY := keep hly
        have H2 := keep hx2
        have H3 := keep hx3
        have G2 := keep hy2
        have G3 := keep hy3
        have hB := HBB.out
        have hax := hax.below HX.out (by omega)
        have hay := hay.below HX.out (by omega)
        have a0 := hax.c0
        have a1 := hax.c1
        have a2 := hax.c2
        have a3 := hax.c3
        have a4 := hax.c4
        have a5 := hax.c5
        have a6 := hax.c6
        have b0 := hay.c0
        have b1 := hay.c1
        have b2 := hay.c2
        have b3 := hay.c3
        have b4 := hay.c4
        have b5 := hay.c5
        have b6 := hay.c6
        have hgs : g < wr.heap.size := lt_of_cell a0
        have hgs' : g' < wr.heap.size := lt_of_cell b0
        clear hx hy hax hay HEA HEB hx1 hx2 hx3 hy1 hy2 hy3 hpx hpy hlx hly hB
        obtain ⟨kx, zx, lx, cx', ux, thx, elx⟩ := x
        obtain ⟨ky, zy, ly, cy', uy, thy, ely⟩ := y
        simp only at a0 a1 a2 a3 b0 b1 b2 b3 HLX HLY HPX HPY H2 H3 G2 G3
        have HB2 : Hid (Below w.heap.size w ((wr.alloc (.cells #[.int .i64 kx, .int .i64 zx, .string ⟨lx.toArray⟩, .bool cx', .slice px nx cx, .slice p2 n2 c2, .slice p3 n3 c3] 36)).alloc (.cells #[.int .i64 ky, .int .i64 zy, .string ⟨ly.toArray⟩, .bool cy', .slice py ny cy, .slice q2 m2 d2, .slice q3 m3 d3] 36))) :=
          HX.out.trans ((((Below.refl _ _).alloc (Nat.le_refl _) _).alloc (by simp) _).mono HX.out.size)
        have HR2 : Hid (Below wr.heap.size wr ((wr.alloc (.cells #[.int .i64 kx, .int .i64 zx, .string ⟨lx.toArray⟩, .bool cx', .slice px nx cx, .slice p2 n2 c2, .slice p3 n3 c3] 36)).alloc (.cells #[.int .i64 ky, .int .i64 zy, .string ⟨ly.toArray⟩, .bool cy', .slice py ny cy, .slice q2 m2 d2, .slice q3 m3 d3] 36))) :=
          ((Below.refl _ _).alloc (Nat.le_refl _) _).alloc (by simp) _
        by_cases e1 : kx = ky
        · by_cases e2 : zx = zy
          · by_cases e3 : lx = ly
            · by_cases e4 : cx' = cy'
              · by_cases e5 : nx = ny
                · subst e1 e2 e3 e4 e5
                  have HT : Hid (∀ W, Below w.heap.size w W → B ≤ W.heap.size ∧ StIs W B e m thx (.slice p2 n2 c2) ∧ StIs W B e m thy (.slice q2 m2 d2) ∧ StIs W B e m elx (.slice p3 n3 c3) ∧ StIs W B e m ely (.slice q3 m3 d3)) := fun W hW =>
                    ⟨Nat.le_trans HBB.out hW.size, H2.out.below (hW.mono HBB.out), G2.out.below (hW.mono HBB.out), H3.out.below (hW.mono HBB.out), G3.out.below (hW.mono HBB.out)⟩
                  clear H2 H3 G2 G3
                  go_wp2_with fail
                  refine (IH.out thx thy _ _ _ (HT.out _ HB2.out).1 (HT.out _ HB2.out).2.1 (HT.out _ HB2.out).2.2.1).mono ?_
                  rintro r w3 ⟨v1, rfl, hv1, hb3⟩
                  have HV1 := keep hv1
                  have HB3 := keep (HB2.out.trans (hb3.mono HB2.out.size))
                  have HR3 := keep (HR2.out.trans (hb3.mono HR2.out.size))
                  have HK3 := keep hb3
                  clear hv1 hb3
                  have z4 : w3.cell? ⟨wr.heap.size, 4, none⟩ = some (.slice px nx cx) := keep_cell HK3.out (by simp)
                  have z6 : w3.cell? ⟨wr.heap.size, 6, none⟩ = some (.slice p3 n3 c3) := keep_cell HK3.out (by simp)
                  have y4 : w3.cell? ⟨wr.heap.size + 1, 4, none⟩ = some (.slice py nx cy) := keep_cell HK3.out (by simp)
                  have y6 : w3.cell? ⟨wr.heap.size + 1, 6, none⟩ = some (.slice q3 m3 d3) := keep_cell HK3.out (by simp)
                  have HZ3 : Hid (wr.heap.size + 2 ≤ w3.heap.size) := by
                    have := HK3.out.size
                    simp at this
                    show _ ≤ _
                    omega
                  clear HK3 a0 a1 a2 a3 a4 a5 a6 b0 b1 b2 b3 b4 b5 b6
                  cases v1 with
                  | false =>
                    have HQ := keep (HNE.out St.thn (fun h => Bool.noConfusion (HV1.out.2 h)))
                    clear HNE HXY
                    go_wp2
                    go_ret
                    exact ⟨false, rfl, no_iff HQ.out, HB3.out⟩
                  | true =>
                    have HE1 := keep (HV1.out.1 rfl)
                    clear HV1
                    go_wp2_with fail
                    refine (IH.out elx ely _ _ _ (HT.out _ HB3.out).1 (HT.out _ HB3.out).2.2.2.1 (HT.out _ HB3.out).2.2.2.2).mono ?_
                    rintro r w4 ⟨v2, rfl, hv2, hb4⟩
                    have HV2 := keep hv2
                    have HB4 := keep (HB3.out.trans (hb4.mono HB3.out.size))
                    have HR4 := keep (HR3.out.trans (hb4.mono HR3.out.size))
                    have HZ4 := keep (Nat.le_trans HZ3.out hb4.size)
                    have z4' := keep_cell hb4 z4
                    have y4' := keep_cell hb4 y4
                    clear hv2 hb4 z4 z6 y4 y6 HT HB3 HR3 HZ3 HR2 HB2
                    cases v2 with
                    | false =>
                      have HQ := keep (HNE.out St.els (fun h => Bool.noConfusion (HV2.out.2 h)))
                      clear HNE HXY
                      go_wp2
                      go_ret
                      exact ⟨false, rfl, no_iff HQ.out, HB4.out⟩
                    | true =>
                      have HQN : Hid (¬ ux = uy → ¬ us = vs) := fun h => HNE.out St.args h
                      have HQY : Hid (ux = uy → us[k]? = vs[k]?) := fun h => HXY.out (by rw [h, HE1.out, HV2.out.1 rfl])
                      clear HNE HXY HE1 HV2
                      generalize wr.heap.size = b0 at z4' y4' ⊢
                      go_wp2
                      go_loopw [79] (fun i wx => ∃ l : Nat, l ≤ nx ∧ i = .int .i64 (l : Int) ∧ (∀ j, j < l → ux[j]? = uy[j]?) ∧ wx.cell? ⟨b0, 4, none⟩ = some (.slice px nx cx) ∧ wx.cell? ⟨b0 + 1, 4, none⟩ = some (.slice py nx cy) ∧ BD w wx) (fun i _ => nx - (intOf i).toNat)
                      case atStart => exact ⟨0, by omega, rfl, fun j hj => by omega, z4', y4', BD.of HB4.out⟩
                      case round =>
                        clear z4' y4' HB4 HR4 HZ4
                        obtain ⟨l, hln, rfl, hsl, f1, f2, hbd⟩ := hrel
                        have HSL := keep hsl
                        have HBD := keep hbd.out
                        clear hsl
                        by_cases hll : l < nx
                        · have d2 : decide ((l : Int) < (nx : Int)) = true := decide_eq_true (by omega)
                          have hlz : (l : Int) < (nx : Int) := by omega
                          have hl0 : (0 : Int) ≤ (l : Int) := by omega
                          obtain ⟨x, hx⟩ : ∃ x, ux[l]? = some x := ⟨_, List.getElem?_eq_getElem (by rw [show ux.length = nx from HLX.out]; exact hll)⟩
                          obtain ⟨y, hy⟩ : ∃ y, uy[l]? = some y := ⟨_, List.getElem?_eq_getElem (by rw [show uy.length = nx from HLY.out]; exact hll)⟩
                          obtain ⟨h, i, slx, rfl, hh, hax, hex⟩ := HPX.out l x hx
                          obtain ⟨h', i', sly, rfl, hh', hay, hey⟩ := HPY.out l y hy
                          have HUX := keep hx
                          have HVX := keep hy
                          have hB := HBB.out
                          have hax := hax.below HBD.out (by omega)
                          have hay := hay.below HBD.out (by omega)
                          have HDN : Hid (∀ W, BD w W → B ≤ W.heap.size) := fun W hW => Nat.le_trans HBB.out hW.out.size
                          have HDX : Hid (∀ W, BD w W → ExIs W B e x slx) := fun W hW => hex.below (hW.out.mono HBB.out)
                          have HDY : Hid (∀ W, BD w W → ExIs W B e y sly) := fun W hW => hey.below (hW.out.mono HBB.out)
                          have a0 := hax.c0
                          have a1 := hax.c1
                          have a2 := hax.c2
                          have a3 := hax.c3
                          have b0' := hay.c0
                          have b1 := hay.c1
                          have b2 := hay.c2
                          have b3 := hay.c3
                          clear hx hy hex hey hax hay HPX HPY hB HBD
                          go_wp2
                          go_region_held3 (fun w' => w'.cell? ⟨b0, 4, none⟩ = some (.slice (some ⟨h, i, none⟩) nx cx) ∧ w'.cell? ⟨b0 + 1, 4, none⟩ = some (.slice (some ⟨h', i', none⟩) nx cy) ∧
                              w'.cell? ⟨h, i + l * 4, none⟩ = some (.int .i64 x.kind) ∧ w'.cell? ⟨h, i + l * 4 + 1, none⟩ = some (.int .i64 x.n) ∧ w'.cell? ⟨h, i + l * 4 + 2, none⟩ = some (.string ⟨x.name.toArray⟩) ∧ w'.cell? ⟨h, i + l * 4 + 3, none⟩ = some slx ∧
                              w'.cell? ⟨h', i' + l * 4, none⟩ = some (.int .i64 y.kind) ∧ w'.cell? ⟨h', i' + l * 4 + 1, none⟩ = some (.int .i64 y.n) ∧ w'.cell? ⟨h', i' + l * 4 + 2, none⟩ = some (.string ⟨y.name.toArray⟩) ∧ w'.cell? ⟨h', i' + l * 4 + 3, none⟩ = some sly ∧ BD w w')
                            (first
                              | (go_split_ands; refine ⟨?_, ?_, ?_, ?_, ?_, ?_, ?_, ?_, ?_, ?_, ?_⟩ <;> first | assumption | (refine keep_cell hbv ?_; assumption) | exact BD.next (by assumption) hbv | go_keep))
                            (first
                              | (go_at_call 40; refine (sameE_any B e x y slx sly _ ?_ ?_ ?_).mono ?_; (exact HDN.out _ (by assumption)); (exact HDX.out _ (by assumption)); (exact HDY.out _ (by assumption)); rintro r w' ⟨v, rfl, hv, hbv⟩))
                          rename_i hH
                          obtain ⟨q1, q2, _, _, _, _, _, _, _, _, qS⟩ := hH
                          have HV := keep hv
                          have HSD := keep qS
                          have HQ1 := keep q1
                          have HQ2 := keep q2
                          clear hv qS q1 q2
                          cases v with
                          | false =>
                            have HNU : Hid (¬ us = vs) := HQN.out (by
                              intro ee
                              have e2 := HUX.out
                              rw [ee, HVX.out] at e2
                              injection e2 with e3
                              exact Bool.noConfusion (HV.out.2 e3.symm))
                            go_wp2
                            go_ret
                            exact ⟨false, rfl, no_iff HNU.out, HSD.out.out⟩
                          | true =>
                            have HXY : Hid (ux[l]? = uy[l]?) := by
                              show ux[l]? = uy[l]?
                              rw [HUX.out, HVX.out, HV.out.1 rfl]
                            go_wp2
                            go_roundw
                            case rel => exact ⟨l + 1, by omega, by go_num, fun j hj => by
                              by_cases ee : j = l
                              · rw [ee]; exact HXY.out
                              · exact HSL.out j (by omega), HQ1.out, HQ2.out, HSD.out⟩
                            case measure => simp [intOf]; omega
                        · have hle : l = nx := by omega
                          subst hle
                          have HEQ : Hid (us[k]? = vs[k]?) := HQY.out (by
                            apply List.ext_getElem?
                            intro j
                            by_cases hj : j < l
                            · exact HSL.out j hj
                            · rw [List.getElem?_eq_none (by rw [show ux.length = l from HLX.out]; omega), List.getElem?_eq_none (by rw [show uy.length = l from HLY.out]; omega)])
                          have dl : decide ((l : Int) < (l : Int)) = false := decide_eq_false (by omega)
                          clear hll
                          go_wp2
                          go_roundw
                          case rel => exact ⟨k + 1, by omega, by go_num, fun j hj => by
                            by_cases ee : j = k
                            · rw [ee]; exact HEQ.out
                            · exact HS.out j (by omega), HBD.out⟩
                          case measure => simp [intOf]; omega
                · have dd : ((nx : Int) != (ny : Int)) = true := by simpa using fun e => e5 (by omega)
                  have HQ := keep (HNE.out (fun t => t.args.length) (fun e => e5 (by
                    have h1 : ux.length = nx := HLX.out
                    have h2 : uy.length = ny := HLY.out
                    have h3 : ux.length = uy.length := e
                    omega)))
                  subst e1 e2 e3 e4
                  clear HNE HXY e5
                  go_wp2
                  go_ret
                  exact ⟨false, rfl, no_iff HQ.out, HB2.out⟩
              · have dd : (cx' == cy') = false := by simpa using e4
                have dd' : (cx' != cy') = true := by simpa using e4
                have HQ := keep (HNE.out St.secret e4)
                subst e1 e2 e3
                clear HNE HXY e4
                go_wp2
                go_ret
                exact ⟨false, rfl, no_iff HQ.out, HB2.out⟩
            · have dd : (lx == ly) = false := by simpa using e3
              have HQ := keep (HNE.out St.name e3)
              subst e1 e2
              clear HNE HXY e3
              go_wp2
              go_ret
              exact ⟨false, rfl, no_iff HQ.out, HB2.out⟩
          · have dd : (zx != zy) = true := by simpa using e2
            have HQ := keep (HNE.out St.n e2)
            subst e1
            clear HNE HXY e2
            go_wp2
            go_ret
            exact ⟨false, rfl, no_iff HQ.out, HB2.out⟩
        · have dd : (kx != ky) = true := by simpa using e1
          have HQ := keep (HNE.out St.kind e1)
          clear HNE HXY e1
          go_wp2
          go_ret
          exact ⟨false, rfl, no_iff HQ.out, HB2.out⟩
      · have hke : k = na := by omega
        subst hke
        have HE : Hid (us = vs) := by
          show us = vs
          apply List.ext_getElem?
          intro j
          by_cases hj : j < k
          · exact HS.out j hj
          · rw [List.getElem?_eq_none (by rw [HNA.out]; omega), List.getElem?_eq_none (by rw [HNB.out]; omega)]
        have dk : decide ((k : Int) < (k : Int)) = false := decide_eq_false (by omega)
        clear hkl
        go_wp2
        go_ret
        exact ⟨true, rfl, ⟨fun _ => HE.out, fun _ => rfl⟩, HX.out⟩
  · have dn : ((na : Int) != (nb : Int)) = true := by simpa using fun e => hn (by omega)
    have HD := keep hn
    clear hn
    go_enter Tryd.func16, Tryd.ntmps16
    go_wp2
    go_ret
    exact ⟨false, rfl, no_iff fun h => HD.out (by rw [← HNA.out, ← HNB.out, h]), Below.refl _ _⟩
theorem sameS_any (B e : Nat) : ∀ (m : Nat) (us vs : List St) (sa sb : Value) (w : World), B ≤ w.heap.size → StIs w B e m us sa → StIs w B e m vs sb →
    Calls Tryd.prog 16 #[sa, sb] w fun r w' => ∃ v : Bool, r = .returned (.bool v) ∧ (v = true ↔ us = vs) ∧ Below w.heap.size w w'
  | 0, _, _, _, _, _, _, ha, _ => ha.elim
  | m + 1, us, vs, sa, sb, w, hB, ha, hb => sameS_step B e m (sameS_any B e m) us vs sa sb w hB ha hb
end Go.Proofs.YtkobiojndamofaaDoor.Lr
