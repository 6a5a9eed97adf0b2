/- Laid together: LvOpen, LvWords. -/
import Derived.Test.YtemdnmfldihalaaGreatDoorGr23
import Derived.Test.YtemdnmfldihalaaGreatDoorLfFits
import Derived.Deep.Matrix
import Derived.Lib.SmallJoins
import Derived.SizedLaws
import Derived.Test.YtemdnmfldihalaaGreatDoorGr50
namespace Go.Proofs.YtemdnmfldihalaaGreatDoor.Lr
set_option maxHeartbeats 32000000
set_option maxRecDepth 100000
set_option linter.unusedVariables false
set_option linter.unusedSimpArgs false
open Go.ChangeShapes Go.WideShapes Go.ChangeAt Go.RowKit Lg

theorem add_flat {a : Addr} (h : a.spot = none) (k : Nat) : a.add k = ⟨a.block, a.off + k, none⟩ := by
  obtain ⟨b, o, s⟩ := a
  dsimp only at h
  subst h
  by_cases hk : k = 0
  · subst hk; simp [Addr.add]
  · simp [Addr.add, hk]
theorem addr_eta {a : Addr} (h : a.spot = none) : a = ⟨a.block, a.off, none⟩ := by
  obtain ⟨b, o, s⟩ := a
  dsimp only at h
  subst h; rfl
theorem bytes_int : Tryz.prog.bytesOf 3 = 8 := by kernel_rfl
theorem bytes_ints : Tryz.prog.bytesOf 22 = 24 := by kernel_rfl
theorem cells_int : Tryz.prog.cellsOf 3 = 1 := by kernel_rfl
theorem cells_ints : Tryz.prog.cellsOf 22 = 1 := by kernel_rfl
theorem ints_cells {W : World} {p : Option Addr} {len cap : Nat} {zs : List Int} (hlen : len ≤ zs.length) (hc : len ≤ cap) (hb : len ≤ 17592186044416) (hcell : ∀ a, p = some a → ∀ i, i < len → W.cell? (a.add i) = some (.int .i64 (zs.getD i 0))) (hn : p = none → len = 0) : IntsIs W W.heap.size (zs.take len) (.slice p len cap) := by
  refine ⟨p, len, cap, rfl, by rw [List.length_take]; omega, hc, hb, fun j x hj => ?_⟩
  have hjl : j < len := by
    have := (List.getElem?_eq_some_iff.1 hj).1
    rw [List.length_take] at this
    omega
  rw [List.getElem?_take_of_lt hjl] at hj
  cases p with
  | none => have := hn rfl; omega
  | some a =>
    have h0 := hcell a rfl 0 (by omega)
    have hs : a.spot = none := by
      have := World.cell?_spot h0
      rw [Addr.add, if_pos rfl] at this
      exact this
    have h1 := hcell a rfl j hjl
    rw [add_flat hs] at h1
    refine ⟨a.block, a.off, by rw [← addr_eta hs], ?_, ?_⟩
    · have := lt_of_cell h1
      exact this
    · rw [h1, List.getD_eq_getElem?_getD, hj]; rfl
variable {H : Type} {enc : TypeId × Value → H}
theorem open_words {W : World} {fuel : Nat} {v : Value} {y : DataW H × List MemPlace} (h : DataW.trod enc Tryz.prog W 0 (fun _ => true) true fuel 22 [v] = some y) (hw : ∀ n ∈ y.1.weights Tryz.prog 22, n ≤ reachBytes) : ∃ l, IntsIs W W.heap.size l v := by
  have hr := reachBytes_lt
  rcases open_ints Tryz.underlying22 Tryz.underlying3 cells_int h with ⟨hcs, _⟩ | ⟨a, len, cap, zs, hcs, _, hl, hm, hz, hy, hcell, _⟩
  · injection hcs with hcs
    subst hcs
    exact ⟨[], none, 0, 0, rfl, rfl, Nat.le_refl _, by omega, fun j x hj => by cases hj⟩
  · injection hcs with hcs
    subst hcs
    subst hy
    rw [if_pos rfl] at hz
    have hb := hw ((lits (H := H) .i64 (zs.take len)).length * 8 + (lits (H := H) .i64 (zs.drop len)).length * 8) (by
      simp only [DataW.weights, Tryz.underlying22, bytes_int]
      rw [← Nat.add_mul]
      simp)
    refine ⟨zs.take len, ints_cells (by omega) hl ?_ (fun a' ha i hi => ?_) (fun e => by cases e)⟩
    · simp [lits] at hb
      omega
    · cases ha
      exact hcell i (by omega)
theorem open_arrs {W : World} {fuel : Nat} {v : Value} {y : DataW H × List MemPlace} (h : DataW.trod enc Tryz.prog W 0 (fun _ => true) true fuel 23 [v] = some y) (hw : ∀ n ∈ y.1.weights Tryz.prog 23, n ≤ reachBytes) : ∃ ll, ArrsIs W W.heap.size ll v := by
  have hr := reachBytes_lt
  rcases Deep.open_int_rows Tryz.underlying23 Tryz.underlying22 Tryz.underlying3 cells_ints cells_int h with ⟨hcs, _⟩ | ⟨a, len, cap, A, L, C, Z, hcs, _, hl, hm, hy, hrow⟩
  · injection hcs with hcs
    subst hcs
    exact ⟨[], none, 0, 0, rfl, rfl, Nat.le_refl _, by omega, fun j x hj => by cases hj⟩
  · injection hcs with hcs
    subst hcs
    subst hy
    have hb : len * 24 ≤ reachBytes := by
      have := hw (((List.range len).length + (List.range (cap - len)).length) * 24) (by
        simp only [DataW.weights, Tryz.underlying23, bytes_ints]
        simp)
      simp at this
      have : len * 24 ≤ (len + (cap - len)) * 24 := Nat.mul_le_mul_right _ (by omega)
      omega
    have hbr : ∀ r, r < len → L r ≤ 17592186044416 := fun r hr' => by
      obtain ⟨_, q1, q2, q3, _, q5, _⟩ := hrow r (by omega)
      cases hA : A r with
      | none => have := q5 hA; omega
      | some a' =>
        have hmem : (C r) * 8 ∈ (DataW.slice ((List.range len).map fun r => Deep.intRow (H := H) .i64 (A r) (L r) (Z r)) ((List.range (cap - len)).map fun j => Deep.intRow .i64 (A (len + j)) (L (len + j)) (Z (len + j)))).weights Tryz.prog 23 := by
          simp only [DataW.weights, Tryz.underlying23]
          refine List.mem_cons_of_mem _ (List.mem_append.2 (.inl ?_))
          have hg : ∀ (l : List (DataW H)) (d : DataW H), d ∈ l → ∀ n ∈ d.weights Tryz.prog 22, n ∈ DataW.weightsAll Tryz.prog 22 l := by
            intro l
            induction l with
            | nil => intro d hd; cases hd
            | cons x l ih =>
              intro d hd n hn
              simp only [DataW.weightsAll, List.mem_append]
              rcases List.mem_cons.1 hd with rfl | hd
              · exact .inl hn
              · exact .inr (ih d hd n hn)
          refine hg _ (Deep.intRow .i64 (A r) (L r) (Z r)) (List.mem_map.2 ⟨r, List.mem_range.2 hr', rfl⟩) _ ?_
          unfold Deep.intRow
          rw [hA]
          simp only [DataW.weights, Tryz.underlying22, bytes_int]
          have : C r * 8 = ((lits (H := H) .i64 ((Z r).take (L r))).length + (lits (H := H) .i64 ((Z r).drop (L r))).length) * 8 := by
            simp [lits]
            omega
          rw [this]
          simp
        have := hw _ hmem
        omega
    refine ⟨(List.range len).map fun r => (Z r).take (L r), some a, len, cap, rfl, by simp, hl, by omega, fun j l hj => ?_⟩
    rw [List.getElem?_map, Option.map_eq_some_iff] at hj
    obtain ⟨r, hr1, rfl⟩ := hj
    have hjl : j < len := by have := (List.getElem?_eq_some_iff.1 hr1).1; simpa using this
    have hrj : r = j := by
      rw [List.getElem?_range hjl] at hr1
      exact (Option.some.inj hr1).symm
    subst hrj
    obtain ⟨q0, q1, q2, q3, _, q5, q6⟩ := hrow r (by omega)
    have h0 := (hrow 0 (by omega)).1
    have hs : a.spot = none := by
      have := World.cell?_spot h0
      rw [Addr.add, if_pos rfl] at this
      exact this
    rw [add_flat hs] at q0
    refine ⟨a.block, a.off, .slice (A r) (L r) (C r), by rw [← addr_eta hs], lt_of_cell q0, q0, ints_cells (by omega) q1 (hbr r hjl) (fun a' ha i hi => (q6 a' ha).2 i (by omega)) (fun e => by have := q5 e; omega)⟩
theorem open_given {W : World} {base : Nat} {v : Value} {d : DataW H} {p : List MemPlace} (hval : Value.okWide Tryz.prog W .any base 25 v) (h : DataW.Trod enc Tryz.prog W 0 (fun _ => true) true 25 v d p) (hw : ∀ n ∈ d.weights Tryz.prog 25, n ≤ reachBytes) : ∃ ws aa, GvIs W W.heap.size ws aa v := by
  obtain ⟨v0, v1, y0, y1, n, rfl, rfl, rfl, h0, h1⟩ := Joins.open_agg2 Tryz.underlying25 (by kernel_rfl) (by kernel_rfl) hval h
  obtain ⟨ws, hws⟩ := open_words h0 (fun n hn => hw n (by
    simp only [DataW.weights, Tryz.underlying25]
    show n ∈ DataW.weightsEach Tryz.prog [22, 23] [y0.1, y1.1]
    simp only [DataW.weightsEach, List.mem_append]
    exact .inl hn))
  obtain ⟨aa, haa⟩ := open_arrs h1 (fun n hn => hw n (by
    simp only [DataW.weights, Tryz.underlying25]
    show n ∈ DataW.weightsEach Tryz.prog [22, 23] [y0.1, y1.1]
    simp only [DataW.weightsEach, List.mem_append]
    exact .inr (.inl hn)))
  exact ⟨ws, aa, v0, v1, rfl, hws, haa⟩
end Go.Proofs.YtemdnmfldihalaaGreatDoor.Lr
namespace Go.Proofs.YtemdnmfldihalaaGreatDoor.Lr
set_option maxHeartbeats 32000000
set_option maxRecDepth 100000
set_option linter.unusedVariables false
set_option linter.unusedSimpArgs false
open Go.ChangeShapes Go.WideShapes Go.ChangeAt Go.RowKit Lg Rf

theorem VrIs.mono {w : World} {B B' : Nat} {l : List Vr} {v : Value} (h : VrIs w B l v) (hB : B ≤ B') : VrIs w B' l v := by
  obtain ⟨p, n, c, h1, h2, h3, h4, h5⟩ := h
  refine ⟨p, n, c, h1, h2, h3, h4, fun j x hj => ?_⟩
  obtain ⟨g, o, k1, k2, k3⟩ := h5 j x hj
  exact ⟨g, o, k1, by omega, k3⟩
theorem ArrsIs.mono {w : World} {B B' : Nat} {l : List (List Int)} {v : Value} (h : ArrsIs w B l v) (hB : B ≤ B') : ArrsIs w B' l v := by
  obtain ⟨p, n, c, h1, h2, h3, h4, h5⟩ := h
  refine ⟨p, n, c, h1, h2, h3, h4, fun j x hj => ?_⟩
  obtain ⟨g, o, s, k1, k2, k3, k4⟩ := h5 j x hj
  exact ⟨g, o, s, k1, by omega, k3, k4.mono hB⟩
theorem nil_ints (w : World) (B : Nat) : IntsIs w B [] (.slice none 0 0) := ⟨none, 0, 0, rfl, rfl, Nat.le_refl _, by omega, fun j x hj => by cases hj⟩
theorem nil_vars (w : World) (B : Nat) : VrIs w B [] (.slice none 0 0) := ⟨none, 0, 0, rfl, rfl, Nat.le_refl _, by omega, fun j x hj => by cases hj⟩
theorem fn_parts {w : World} {B : Nat} {f : Lg.Fn} {a b c : Value} (h : FnIs w B 10 11 f (.agg #[a, b, c])) : VrIs w B f.params a ∧ VrIs w B f.arrays b ∧ StIs w B 10 11 f.body c := by
  obtain ⟨t1, t2, t3, e0, f1, f2, f3⟩ := h
  have ee : #[a, b, c] = #[t1, t2, t3] := by injection e0
  have e1 : a = t1 := by injection ee with ee; injection ee
  have e2 : b = t2 := by injection ee with ee; injection ee with _ ee; injection ee
  have e3 : c = t3 := by injection ee with ee; injection ee with _ ee; injection ee with _ ee; injection ee
  subst e1 e2 e3
  exact ⟨f1, f2, f3⟩
theorem words_any (s : ByteArray) (hs : s.size ≤ 281474976710656) (ws : List Int) (aa : List (List Int)) (gv : Value) (w : World) (hg : GvIs w w.heap.size ws aa gv) (ht : Tabs w) :
    Calls Tryz.prog 5 #[.string s, gv] w fun r w' => r = .returned (.bool true) ∧ Below w.heap.size w w' := by
  obtain ⟨t1, t2, rfl, hi, ha⟩ := hg
  obtain ⟨p4, n4, c4, rfl⟩ := hi.slice
  obtain ⟨p5, n5, c5, rfl⟩ := ha.slice
  obtain ⟨w1, hw1⟩ : ∃ y, w.alloc (.cells #[.slice p4 n4 c4, .slice p5 n5 c5] 25) = y := ⟨_, rfl⟩
  have b1 : Below w.heap.size w w1 := by rw [← hw1]; exact (Below.refl _ _).alloc (Nat.le_refl _) _
  have k1 : Bk w1 w.heap.size [.slice p4 n4 c4, .slice p5 n5 c5] 25 := by rw [← hw1]; exact Bk.new _ _ _
  have HGv : Hid (∀ W, Below w1.heap.size w1 W → IntsIs W w.heap.size ws (.slice p4 n4 c4) ∧ ArrsIs W w.heap.size aa (.slice p5 n5 c5)) := fun W hW => by
    have hb := b1.trans (hW.mono b1.size)
    exact ⟨hi.below hb, ha.below hb⟩
  have HAl := keep (alive_any w1 (ht.below b1))
  have HPs : Hid (∀ W, Below w1.heap.size w1 W → Calls Tryz.prog 6 #[.string s] W fun r w' => ∃ v1 v2 v3, r = .returned (.tuple #[.agg #[v1, v2, v3], .int .i64 (parseT s.data.toList).2]) ∧ FnX w' W.heap.size w'.heap.size (parseT s.data.toList).1 (.agg #[v1, v2, v3]) ∧ Below W.heap.size W w') := fun W hW => parse_any s hs W (ht.below (b1.trans (hW.mono b1.size)))
  have HWf := keep (parse_wf s.data.toList)
  have HSz := keep (parse_size s.data.toList)
  have HB1 := keep b1
  have HK1 := keep k1
  have HW1 := keep hw1
  generalize parseT s.data.toList = pt at *
  obtain ⟨f, e⟩ := pt
  dsimp only at HPs HWf HSz
  clear ht hi ha hw1 b1 k1
  go_enter Tryz.func5, Tryz.ntmps5
  go_wp2_with (first | rw [HW1.out])
  refine HAl.out.mono ?_
  rintro r w2 ⟨rfl, hb2⟩
  have HB2 := keep hb2
  clear hb2 HAl
  go_wp2_with fail
  refine (HPs.out w2 HB2.out).mono ?_
  rintro r w3 ⟨v1, v2, v3, rfl, hx3, hb3⟩
  obtain ⟨⟨p1, n1, c1, rfl⟩, ⟨p2, n2, c2, rfl⟩, p3, n3, c3, rfl⟩ := hx3.slices
  obtain ⟨w4, hw4⟩ : ∃ y, w3.alloc (.cells #[.slice p1 n1 c1, .slice p2 n2 c2, .slice p3 n3 c3] 29) = y := ⟨_, rfl⟩
  have b4 : Below w3.heap.size w3 w4 := by rw [← hw4]; exact (Below.refl _ _).alloc (Nat.le_refl _) _
  have k4 : Bk w4 w3.heap.size [.slice p1 n1 c1, .slice p2 n2 c2, .slice p3 n3 c3] 29 := by rw [← hw4]; exact Bk.new _ _ _
  have b13 := HB2.out.trans (hb3.mono HB2.out.size)
  have b14 := b13.trans (b4.mono b13.size)
  have HB14 := keep b14
  have HK4 := keep k4
  have HX4 : Hid (∀ W, Below w4.heap.size w4 W → FnIs W w4.heap.size 10 11 f (.agg #[.slice p1 n1 c1, .slice p2 n2 c2, .slice p3 n3 c3])) := fun W hW =>
    (hx3.keep (fun i _ hi => (hW.block i (by have := b4.size; omega)).trans (b4.block i hi))).fnIs b4.size
  have f0 := k4.cell 0 rfl
  have f1 := k4.cell 1 rfl
  have f2 := k4.cell 2 rfl
  have HW4 := keep hw4
  clear hx3 hb3 b4 k4 b13 b14 hw4 HPs
  by_cases he : e = 0
  · subst he
    have HCk := keep (kcheck_any w4.heap.size f _ _ _ w4 (Nat.le_refl _) HWf.out (HX4.out w4 (Below.refl _ _)))
    go_wp2_with (first | rw [HW4.out])
    refine HCk.out.mono ?_
    rintro r w5 ⟨rfl, hb5⟩
    have HB45 := keep hb5
    have HB5 := keep (HB14.out.trans (hb5.mono HB14.out.size))
    clear hb5 HCk f0 f1 f2
    by_cases hck : checkK f = 0
    · rw [hck]
      have HRt := keep (right_ok hck)
      have k5 := HK4.out.fs (Fs.of_below (l := []) HB45.out) (by simp)
      have g5 := HK1.out.fs (Fs.of_below (l := []) HB5.out) (by simp)
      have f0 := k5.cell 0 rfl
      have f1 := k5.cell 1 rfl
      have f2 := k5.cell 2 rfl
      have g0 := g5.cell 0 rfl
      have g1 := g5.cell 1 rfl
      have HSm : Hid (∀ v ∈ f.arrays, v.size ≤ 8) := fun v hv => (HWf.out.2.1 v hv).2.2
      have HGm : Hid (∀ W, Below w1.heap.size w1 W → GvIs W W.heap.size ws aa (.agg #[.slice p4 n4 c4, .slice p5 n5 c5])) := fun W hW => by
        have hz : w.heap.size ≤ W.heap.size := Nat.le_trans HB1.out.size hW.size
        exact ⟨_, _, rfl, (HGv.out W hW).1.mono hz, (HGv.out W hW).2.mono hz⟩
      have HPt : Hid (∀ W, Below w4.heap.size w4 W → VrIs W W.heap.size f.params (.slice p1 n1 c1) ∧ VrIs W W.heap.size f.arrays (.slice p2 n2 c2) ∧ StIs W w4.heap.size 10 11 f.body (.slice p3 n3 c3)) := fun W hW => by
        obtain ⟨q1, q2, q3⟩ := fn_parts (HX4.out W hW)
        exact ⟨q1.mono hW.size, q2.mono hW.size, q3⟩
      have HPw : Hid (∀ W, Below w4.heap.size w4 W → VrIs W w4.heap.size f.params (.slice p1 n1 c1) ∧ VrIs W w4.heap.size f.arrays (.slice p2 n2 c2)) := fun W hW => by
        obtain ⟨q1, q2, q3⟩ := fn_parts (HX4.out W hW)
        exact ⟨q1, q2⟩
      have HFt := keep (rfits_any w5.heap.size f.params f.arrays (.slice p1 n1 c1) (.slice p2 n2 c2) (.slice p3 n3 c3) ws aa _ w5 (Nat.le_refl _) (HPt.out w5 HB45.out).1 (HPt.out w5 HB45.out).2.1 ⟨_, _, _, rfl⟩ (HGm.out w5 HB5.out) (fun h1 h2 j hj => fit_room HRt.out.1 HRt.out.2.1 HSm.out h1 h2 j hj))
      have HKk5 := keep k5
      have HKg5 := keep g5
      clear hck k5 g5
      go_wp2_with fail
      refine HFt.out.mono ?_
      rintro r w6 ⟨c, rfl, hc, hb6⟩
      have HB46 := keep (HB45.out.trans (hb6.mono HB45.out.size))
      have HB6 := keep (HB5.out.trans (hb6.mono HB5.out.size))
      have HB56 := keep hb6
      clear hb6 HFt f0 f1 f2 g0 g1
      cases hc with
      | many hS =>
        clear hS
        go_wp2
        go_ret
        exact ⟨rfl, HB1.out.trans (HB6.out.mono HB1.out.size)⟩
      | range hS hA =>
        clear hS hA
        go_wp2
        go_ret
        exact ⟨rfl, HB1.out.trans (HB6.out.mono HB1.out.size)⟩
      | ok hS hA =>
        have k6 := HKk5.out.fs (Fs.of_below (l := []) HB56.out) (by simp)
        have g6 := HKg5.out.fs (Fs.of_below (l := []) HB56.out) (by simp)
        have f0 := k6.cell 0 rfl
        have f1 := k6.cell 1 rfl
        have f2 := k6.cell 2 rfl
        have g0 := g6.cell 0 rfl
        have g1 := g6.cell 1 rfl
        obtain ⟨q1, q2, ks', q3⟩ := HRt.out
        have hzw : w.heap.size ≤ w4.heap.size := Nat.le_trans HB1.out.size HB14.out.size
        have HRun := keep (run_fits w4.heap.size f.params f.arrays f.body _ _ _ ws aa (.agg #[.slice p4 n4 c4, .slice p5 n5 c5]) w6 HB46.out.size (HPw.out w6 HB46.out).1 (HPw.out w6 HB46.out).2 (HPt.out w6 HB46.out).2.2 ⟨_, _, rfl, (HGv.out w6 HB6.out).1.mono hzw, (HGv.out w6 HB6.out).2.mono hzw⟩ (shape_room q1 q2 HSm.out hS) (by omega) (by have := HSz.out; omega) (by omega) HSm.out HWf.out.2.2 hS hA ks' q3)
        have HGo : Hid (GM f.arrays ⟨envOf f.params ws, aa, 0⟩) := ⟨envOf_words hA, GA.of hS hA⟩
        have HKk6 := keep k6
        clear k6 g6 hzw hS hA
        go_wp2_with fail
        refine HRun.out.mono ?_
        rintro r w7 ⟨wd, tr, arr, AO, ab, hR⟩
        have hr := hR.r
        subst hr
        obtain ⟨e1, e2, e3⟩ := end_good HWf.out.2.2 HGo.out hR.ev
        obtain ⟨e4, e5⟩ := ga_small e1 q2 HSm.out
        obtain ⟨w8, hw8⟩ : ∃ y, w7.alloc (.cells #[.int .i64 wd, .bool tr, .slice (some ⟨AO, 0, none⟩) arr.length arr.length] 38) = y := ⟨_, rfl⟩
        have b8 : Below w7.heap.size w7 w8 := by rw [← hw8]; exact (Below.refl _ _).alloc (Nat.le_refl _) _
        have k8 : Bk w8 w7.heap.size [.int .i64 wd, .bool tr, .slice (some ⟨AO, 0, none⟩) arr.length arr.length] 38 := by rw [← hw8]; exact Bk.new _ _ _
        have b68 := hR.bel.trans (b8.mono hR.bel.size)
        have HB48 := keep (HB46.out.trans (b68.mono HB46.out.size))
        have HB8 := keep (HB6.out.trans (b68.mono HB6.out.size))
        have kf8 := HKk6.out.fs (Fs.of_below (l := []) b68) (by simp)
        have hArr8 : ArrsIs w8 w8.heap.size arr (.slice (some ⟨AO, 0, none⟩) arr.length arr.length) := (((arrs_of (hR.arr 0 0) (by omega) (fun a ha => by have := e5 a ha; omega) (fun b hb => (hR.new b hb).2)).below b8).mono b8.size)
        have HFt2 := keep (rfits_any w8.heap.size [] f.arrays (.slice none 0 0) (.slice p2 n2 c2) (.slice none 0 0) [] arr (.agg #[.slice none 0 0, .slice (some ⟨AO, 0, none⟩) arr.length arr.length]) w8 (Nat.le_refl _) (nil_vars _ _) (HPt.out w8 HB48.out).2.1 ⟨_, _, _, rfl⟩ ⟨_, _, rfl, nil_ints _ _, hArr8⟩ (fun h1 h2 j hj => fit_room (ps := []) (by simp) q2 HSm.out h1 h2 j hj))
        have HGd : Hid (Shape [] f.arrays [] arr ∧ AllW [] arr) := ga_shape e1
        have HIw : Hid (isW wd ∧ (tr = true → wd = 0)) := ⟨e2, e3⟩
        have f1 := kf8.cell 1 rfl
        have r2 := k8.cell 2 rfl
        have HK8 := keep k8
        have HW8 := keep hw8
        clear hR e1 e2 e3 e4 e5 hw8 b8 k8 b68 kf8 hArr8 HRun f0 f2 g0 g1
        generalize arr.length = nl at *
        go_wp2_with (first | rw [HW8.out])
        refine HFt2.out.mono ?_
        rintro r w9 ⟨c, rfl, hc, hb9⟩
        have hc0 : c = 0 := hc.same (.ok HGd.out.1 HGd.out.2)
        subst hc0
        have HB9 := keep (HB8.out.trans (hb9.mono HB8.out.size))
        have k9 := HK8.out.fs (Fs.of_below (l := []) hb9) (by simp)
        have r0 := k9.cell 0 rfl
        have r1 := k9.cell 1 rfl
        obtain ⟨⟨hw0, hw1⟩, hw2⟩ := HIw.out
        have d0 : decide (0 ≤ wd) = true := decide_eq_true hw0
        have d1 : decide (wd ≤ 4294967295) = true := decide_eq_true hw1
        clear hc hb9 k9 HFt2 f1 r2 HIw hw0 hw1
        cases tr with
        | true =>
          have hz := hw2 rfl
          subst hz
          clear hw2
          go_wp2
          go_ret
          exact ⟨rfl, HB1.out.trans (HB9.out.mono HB1.out.size)⟩
        | false =>
          clear hw2
          go_wp2
          go_ret
          exact ⟨rfl, HB1.out.trans (HB9.out.mono HB1.out.size)⟩
    · have hne : (checkK f != 0) = true := by rw [bne_iff_ne]; exact hck
      clear hck
      generalize checkK f = ck at *
      go_wp2
      go_ret
      exact ⟨rfl, HB1.out.trans (HB5.out.mono HB1.out.size)⟩
  · have hne : (e != 0) = true := by rw [bne_iff_ne]; exact he
    clear he
    go_wp2_with (first | rw [HW4.out])
    go_ret
    exact ⟨rfl, HB1.out.trans (HB14.out.mono HB1.out.size)⟩
end Go.Proofs.YtemdnmfldihalaaGreatDoor.Lr
