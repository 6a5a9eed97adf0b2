/- LabelPublic: the way of the law, whatever text is given. Written by tools/gen_vpublic.py. -/
import Derived.Test.YtemdnmfldihalaaDoorLvAll
import Derived.Test.YtemdnmfldihalaaDoorLgAll
namespace Go.Proofs.YtemdnmfldihalaaDoor.Lg
set_option linter.unusedVariables false
theorem pubS_pub : ∀ (m : Nat) (t : St), PubS m (pubS m t)
  | 0, t => trivial
  | m + 1, t => ⟨rfl, (fun u hu => by
      obtain ⟨v, _, rfl⟩ := List.mem_map.1 hu
      exact pubS_pub m v), (fun u hu => by
      obtain ⟨v, _, rfl⟩ := List.mem_map.1 hu
      exact pubS_pub m v)⟩
theorem pubF_no (f : Fn) : ¬ checkK (pubF f) = 10 := by
  refine check_pub (pubF f) (fun v hv => ?_) (fun v hv => ?_) (fun t ht => ?_)
  · obtain ⟨u, _, rfl⟩ := List.mem_map.1 hv; rfl
  · obtain ⟨u, _, rfl⟩ := List.mem_map.1 hv; rfl
  · obtain ⟨u, _, rfl⟩ := List.mem_map.1 ht; exact pubS_pub 9 u
theorem pubS_wf : ∀ (m : Nat) (t : St), wfS m t → wfS m (pubS m t)
  | 0, t, h => h
  | m + 1, t, h => by
    have nil : ([] : List St).map (pubS m) = [] := rfl
    rcases h with ⟨h1, h2, h3, h4, h5⟩ | ⟨h1, h2, h3, h4, h5, h6, h7⟩ | ⟨h1, h2, h3, h4, h5, h7, h8⟩ | ⟨h1, h2, h3, h4, h5, h6, h7, h8⟩
    · refine .inl ⟨?_, h2, ?_, ?_, h5⟩
      · rcases h1 with ⟨a, b⟩ | ⟨a, b, c⟩ | ⟨a, b, c⟩
        · exact .inl ⟨a, b⟩
        · exact .inr (.inl ⟨a, b, rfl⟩)
        · exact .inr (.inr ⟨a, b, rfl⟩)
      · show t.thn.map (pubS m) = []
        rw [h3]; rfl
      · show t.els.map (pubS m) = []
        rw [h4]; rfl
    · refine .inr (.inl ⟨h1, h2, rfl, h4, ?_, ?_, h7⟩)
      · show t.thn.map (pubS m) = []
        rw [h5]; rfl
      · show t.els.map (pubS m) = []
        rw [h6]; rfl
    · refine .inr (.inr (.inl ⟨h1, h2, rfl, h4, h5, fun u hu => ?_, fun u hu => ?_⟩))
      · obtain ⟨v, hv, rfl⟩ := List.mem_map.1 hu; exact pubS_wf m v (h7 v hv)
      · obtain ⟨v, hv, rfl⟩ := List.mem_map.1 hu; exact pubS_wf m v (h8 v hv)
    · refine .inr (.inr (.inr ⟨h1, h2, rfl, h4, h5, h6, ?_, fun u hu => ?_⟩))
      · show t.els.map (pubS m) = []
        rw [h7]; rfl
      · obtain ⟨v, hv, rfl⟩ := List.mem_map.1 hu; exact pubS_wf m v (h8 v hv)
theorem pubF_wf {f : Fn} (h : wfF f) : wfF (pubF f) := by
  refine ⟨fun v hv => ?_, fun v hv => ?_, fun t ht => ?_⟩
  · obtain ⟨u, hu, rfl⟩ := List.mem_map.1 hv; exact h.1 u hu
  · obtain ⟨u, hu, rfl⟩ := List.mem_map.1 hv; exact h.2.1 u hu
  · obtain ⟨u, hu, rfl⟩ := List.mem_map.1 ht; exact pubS_wf 9 u (h.2.2 u hu)
end Go.Proofs.YtemdnmfldihalaaDoor.Lg
namespace Go.Proofs.YtemdnmfldihalaaDoor.Lr
set_option linter.unusedVariables false
set_option linter.unusedSimpArgs false
open Go.ChangeShapes Go.WideShapes Go.ChangeAt Go.RowKit Lg Rf

theorem VrX.below {w w' : World} {lo hi : Nat} {vs : List Vr} {sl : Value} (h : VrX w lo hi vs sl) (hb : Below hi w w') : VrX w' lo hi vs sl := h.keep fun i _ b => hb.block i b
theorem StIs.more {w : World} {B B' e : Nat} (hb : B ≤ B') : ∀ {m : Nat} {l : List St} {sl : Value}, StIs w B e m l sl → StIs w B' e m l sl
  | 0, _, _, h => h
  | m + 1, l, sl, h => by
    obtain ⟨p, n, cap, h1, h2, h3, h4, h5⟩ := h
    exact ⟨p, n, cap, h1, h2, h3, h4, fun j t hj => by
      obtain ⟨g, o, s1, s2, s3, k1, k2, k3, k4, k5, k6⟩ := h5 j t hj
      exact ⟨g, o, s1, s2, s3, k1, Nat.lt_of_lt_of_le k2 hb, k3, ExIs.more hb k4, StIs.more hb k5, StIs.more hb k6⟩⟩
theorem FnX.parts {w : World} {lo hi : Nat} {f : Lg.Fn} {v1 v2 v3 : Value} (h : FnX w lo hi f (.agg #[v1, v2, v3])) : VrX w lo hi f.params v1 ∧ VrX w lo hi f.arrays v2 ∧ StX w (fun i => lo ≤ i ∧ i < hi) 11 f.body v3 := by
  obtain ⟨t1, t2, t3, e0, h1, h2, h3⟩ := h
  injection e0 with e0
  have e1 : v1 = t1 := by injection e0 with e0; injection e0
  have e2 : v2 = t2 := by injection e0 with e0; injection e0 with _ e0; injection e0
  have e3 : v3 = t3 := by injection e0 with e0; injection e0 with _ e0; injection e0 with _ e0; injection e0
  subst e1 e2 e3
  exact ⟨h1, h2, h3⟩
theorem parse_zero {l : List UInt8} : (parseT l).2 = 0 ∨ ¬ (parseT l).2 = 0 := Classical.em _
set_option maxHeartbeats 32000000 in
set_option maxRecDepth 100000 in
theorem public_any (s : ByteArray) (hs : s.size ≤ 281474976710656) (w : World) (ht : Tabs w) :
    Calls Tryd.prog 4 #[.string s] w fun r w' => r = .returned (.bool true) ∧ Below w.heap.size w w' := by
  have HTB : Hid (∀ W, Below w.heap.size w W → Tabs W) := fun W h => ht.below h
  have HAl := keep (alive_any w ht)
  have HPs := keep (fun W hW => parse_any s hs W (HTB.out W hW))
  have HWf := keep (parse_wf s.data.toList)
  have HSm := keep (parse_small s.data.toList)
  generalize parseT s.data.toList = pt at *
  obtain ⟨f, e⟩ := pt
  dsimp only at HPs HWf HSm
  clear ht
  go_enter Tryd.func4, Tryd.ntmps4
  go_wp2_with fail
  refine HAl.out.mono ?_
  rintro r w1 ⟨rfl, hb1⟩
  have HB1 := keep hb1
  clear hb1 HAl
  go_wp2_with fail
  refine (HPs.out w1 HB1.out).mono ?_
  rintro r w2 ⟨v1, v2, v3, rfl, hx2, hb2⟩
  have HB2 := keep (HB1.out.trans (hb2.mono HB1.out.size))
  obtain ⟨⟨p1, n1, c1, rfl⟩, ⟨p2, n2, c2, rfl⟩, p3, n3, c3, rfl⟩ := hx2.slices
  obtain ⟨w3, hw3⟩ : ∃ w3, w2.alloc (.cells #[.slice p1 n1 c1, .slice p2 n2 c2, .slice p3 n3 c3] 25) = w3 := ⟨_, rfl⟩
  have hb3 : Below w2.heap.size w2 w3 := by rw [← hw3]; exact (Below.refl _ _).alloc (Nat.le_refl _) _
  have HB3 := keep (HB2.out.trans (hb3.mono HB2.out.size))
  have HF3 : Hid (Bk w3 w2.heap.size [.slice p1 n1 c1, .slice p2 n2 c2, .slice p3 n3 c3] 25) := by
    show Bk _ _ _ _
    rw [← hw3]; exact Bk.new _ _ _
  have HX3 := keep (hx2.keep fun i a b => hb3.block i b)
  have HW3 := keep hw3
  have hz12 : w1.heap.size ≤ w2.heap.size := hb2.size
  clear hx2 hb2 hb3 hw3 HPs
  by_cases he : e = 0
  · subst he
    go_wp2_with (first | rw [HW3.out])
    refine wp_region_noPanic ?_
    have HF4 : Hid (Bk w3.drew w2.heap.size [.slice p1 n1 c1, .slice p2 n2 c2, .slice p3 n3 c3] 25) := HF3.out
    have HB4 : Hid (Below w.heap.size w w3.drew) := Below.drew HB3.out
    have HX4 : Hid (FnX w3.drew w1.heap.size w2.heap.size f (.agg #[.slice p1 n1 c1, .slice p2 n2 c2, .slice p3 n3 c3])) := HX3.out.keep fun i a b => rfl
    refine Ord.wpM_begin (fun W' : World => W'.cell? ⟨w2.heap.size, 0, none⟩ = some (.slice p1 n1 c1) ∧ W'.cell? ⟨w2.heap.size, 1, none⟩ = some (.slice p2 n2 c2) ∧ W'.cell? ⟨w2.heap.size, 2, none⟩ = some (.slice p3 n3 c3)) [0, 1, 2, 3, 4, 5, 6, 7, 8, 9, 10] (by kernel_rfl) ?_
    generalize w3.drew = w4 at *
    have HSS : Hid (∀ W' : World, Bk W' w2.heap.size [.slice p1 n1 c1, .slice p2 n2 c2, .slice p3 n3 c3] 25 → (W'.cell? ⟨w2.heap.size, 0, none⟩ = some (.slice p1 n1 c1) ∧ W'.cell? ⟨w2.heap.size, 1, none⟩ = some (.slice p2 n2 c2) ∧ W'.cell? ⟨w2.heap.size, 2, none⟩ = some (.slice p3 n3 c3))) := fun W' h => ⟨h.cell 0 rfl, h.cell 1 rfl, h.cell 2 rfl⟩
    have hS := HSS.out w4 HF4.out
    have HPt := keep HX4.out.parts
    have hz24 : w2.heap.size < w4.heap.size := HF4.out.lt
    refine Ord.wpM_take (i := 0) (v := .pointer (some ⟨w2.heap.size, 0, none⟩)) (by simp only [List.getElem?_toArray, List.getElem?_cons_zero, List.getElem?_cons_succ]; rfl) (by kernel_rfl) (by kernel_rfl) (by kernel_rfl) (by kernel_rfl) (fun _ _ _ h => h) (Or.inl ⟨by rfl, by intro W' hW; obtain ⟨q0, q1, q2⟩ := hW; go_simp⟩) hS ?_
    try simp only [Act.put, List.setIfInBounds_toArray, List.set_cons_zero, List.set_cons_succ]
    refine Ord.wpM_take (i := 1) (v := .slice p1 n1 c1) (by simp only [List.getElem?_toArray, List.getElem?_cons_zero, List.getElem?_cons_succ]; rfl) (by kernel_rfl) (by kernel_rfl) (by kernel_rfl) (by kernel_rfl) (fun _ _ _ h => h) (Or.inl ⟨by rfl, by intro W' hW; obtain ⟨q0, q1, q2⟩ := hW; go_simp⟩) hS ?_
    try simp only [Act.put, List.setIfInBounds_toArray, List.set_cons_zero, List.set_cons_succ]
    refine Ord.wpM_take (i := 3) (v := .pointer (some ⟨w2.heap.size, 1, none⟩)) (by simp only [List.getElem?_toArray, List.getElem?_cons_zero, List.getElem?_cons_succ]; rfl) (by kernel_rfl) (by kernel_rfl) (by kernel_rfl) (by kernel_rfl) (fun _ _ _ h => h) (Or.inl ⟨by rfl, by intro W' hW; obtain ⟨q0, q1, q2⟩ := hW; go_simp⟩) hS ?_
    try simp only [Act.put, List.setIfInBounds_toArray, List.set_cons_zero, List.set_cons_succ]
    refine Ord.wpM_take (i := 4) (v := .slice p2 n2 c2) (by simp only [List.getElem?_toArray, List.getElem?_cons_zero, List.getElem?_cons_succ]; rfl) (by kernel_rfl) (by kernel_rfl) (by kernel_rfl) (by kernel_rfl) (fun _ _ _ h => h) (Or.inl ⟨by rfl, by intro W' hW; obtain ⟨q0, q1, q2⟩ := hW; go_simp⟩) hS ?_
    try simp only [Act.put, List.setIfInBounds_toArray, List.set_cons_zero, List.set_cons_succ]
    refine Ord.wpM_take (i := 6) (v := .pointer (some ⟨w2.heap.size, 2, none⟩)) (by simp only [List.getElem?_toArray, List.getElem?_cons_zero, List.getElem?_cons_succ]; rfl) (by kernel_rfl) (by kernel_rfl) (by kernel_rfl) (by kernel_rfl) (fun _ _ _ h => h) (Or.inl ⟨by rfl, by intro W' hW; obtain ⟨q0, q1, q2⟩ := hW; go_simp⟩) hS ?_
    try simp only [Act.put, List.setIfInBounds_toArray, List.set_cons_zero, List.set_cons_succ]
    refine Ord.wpM_take (i := 7) (v := .slice p3 n3 c3) (by simp only [List.getElem?_toArray, List.getElem?_cons_zero, List.getElem?_cons_succ]; rfl) (by kernel_rfl) (by kernel_rfl) (by kernel_rfl) (by kernel_rfl) (fun _ _ _ h => h) (Or.inl ⟨by rfl, by intro W' hW; obtain ⟨q0, q1, q2⟩ := hW; go_simp⟩) hS ?_
    try simp only [Act.put, List.setIfInBounds_toArray, List.set_cons_zero, List.set_cons_succ]
    clear hS
    have HCw4 := keep (Below.refl w4.heap.size w4)
    have HFw4 := HF4
    refine Ord.wpM_two (i := 2) (j := 10) (by kernel_rfl) (by simp only [List.getElem?_toArray, List.getElem?_cons_zero, List.getElem?_cons_succ]; rfl) (by simp only [List.getElem?_toArray, List.getElem?_cons_zero, List.getElem?_cons_succ]; rfl) (fun K hK => ?_) (fun K hK => ?_)
    · go_simp
      refine (vars_any w2.heap.size f.params (.slice p1 n1 c1) w4 (by omega) ((HPt.out.1.vrIs (Nat.le_refl _)).below (HCw4.out.mono (by omega))) HSm.out.1).mono ?_
      rintro r x5 ⟨u1, rfl, hrx5, hbx5⟩
      obtain ⟨pu1, nu1, cu1, rfl⟩ := RowX.slice hrx5
      have HU1 := keep (RowX.varsX hrx5 (by rw [List.length_map]; have := HSm.out.1; omega))
      have HFx5 := keep (HFw4.out.fs (Fs.of_below (l := []) hbx5) (by simp))
      have HCx5 := keep (HCw4.out.trans (hbx5.mono HCw4.out.size))
      have hzx5 : w4.heap.size ≤ x5.heap.size := hbx5.size
      go_simp
      clear hbx5 hrx5
      refine hK.out _ _ (fun _ => HSS.out _ HFx5.out) ?_
      clear hK K
      try simp only [Act.put, List.setIfInBounds_toArray, List.set_cons_zero, List.set_cons_succ]
      refine Ord.wpM_two (i := 5) (j := 10) (by kernel_rfl) (by simp only [List.getElem?_toArray, List.getElem?_cons_zero, List.getElem?_cons_succ]; rfl) (by simp only [List.getElem?_toArray, List.getElem?_cons_zero, List.getElem?_cons_succ]; rfl) (fun K hK => ?_) (fun K hK => ?_)
      · go_simp
        refine (vars_any w2.heap.size f.arrays (.slice p2 n2 c2) x5 (by omega) ((HPt.out.2.1.vrIs (Nat.le_refl _)).below (HCx5.out.mono (by omega))) HSm.out.2.1).mono ?_
        rintro r x6 ⟨u2, rfl, hrx6, hbx6⟩
        obtain ⟨pu2, nu2, cu2, rfl⟩ := RowX.slice hrx6
        have HU2 := keep (RowX.varsX hrx6 (by rw [List.length_map]; have := HSm.out.2.1; omega))
        have HFx6 := keep (HFx5.out.fs (Fs.of_below (l := []) hbx6) (by simp))
        have HCx6 := keep (HCx5.out.trans (hbx6.mono HCx5.out.size))
        have hzx6 : x5.heap.size ≤ x6.heap.size := hbx6.size
        replace HU1 := keep (HU1.out.below (hbx6.mono (by omega)))
        go_simp
        clear hbx6 hrx6
        refine hK.out _ _ (fun _ => HSS.out _ HFx6.out) ?_
        clear hK K
        try simp only [Act.put, List.setIfInBounds_toArray, List.set_cons_zero, List.set_cons_succ]
        refine Ord.wpM_two (i := 8) (j := 10) (by kernel_rfl) (by simp only [List.getElem?_toArray, List.getElem?_cons_zero, List.getElem?_cons_succ]; rfl) (by simp only [List.getElem?_toArray, List.getElem?_cons_zero, List.getElem?_cons_succ]; rfl) (fun K hK => ?_) (fun K hK => ?_)
        · go_simp
          refine (all_ok 9 10 w2.heap.size f.body (.slice p3 n3 c3) x6 (by omega) (by omega) HWf.out.2.2 HSm.out.2.2.2 HSm.out.2.2.1 ((StX.stIs (fun i hi => hi.2) HPt.out.2.2).below (HCx6.out.mono (by omega)))).mono ?_
          rintro r x7 ⟨u3, rfl, hrx7, hbx7⟩
          obtain ⟨pu3, nu3, cu3, rfl⟩ := hrx7.slice
          have HU3 := keep hrx7
          have HFx7 := keep (HFx6.out.fs (Fs.of_below (l := []) hbx7) (by simp))
          have HCx7 := keep (HCx6.out.trans (hbx7.mono HCx6.out.size))
          have hzx7 : x6.heap.size ≤ x7.heap.size := hbx7.size
          replace HU1 := keep (HU1.out.below (hbx7.mono (by omega)))
          replace HU2 := keep (HU2.out.below (hbx7.mono (by omega)))
          go_simp
          clear hbx7 hrx7
          refine hK.out _ _ (fun _ => HSS.out _ HFx7.out) ?_
          clear hK K
          try simp only [Act.put, List.setIfInBounds_toArray, List.set_cons_zero, List.set_cons_succ]
          have hS := HSS.out x7 HFx7.out
          refine Ord.wpM_take (i := 9) (v := .agg #[.slice pu1 nu1 cu1, .slice pu2 nu2 cu2, .slice pu3 nu3 cu3]) (by simp only [List.getElem?_toArray, List.getElem?_cons_zero, List.getElem?_cons_succ]; rfl) (by kernel_rfl) (by kernel_rfl) (by kernel_rfl) (by kernel_rfl) (fun _ _ _ h => h) (Or.inl ⟨by rfl, by intro W' hW; obtain ⟨q0, q1, q2⟩ := hW; go_simp⟩) hS ?_
          try simp only [Act.put, List.setIfInBounds_toArray, List.set_cons_zero, List.set_cons_succ]
          clear hS
          refine Ord.wpM_one (i := 10) (by kernel_rfl) (by simp only [List.getElem?_toArray, List.getElem?_cons_zero, List.getElem?_cons_succ]; rfl) (fun K hK => ?_)
          go_simp
          obtain ⟨x8, hwx8⟩ : ∃ x, x7.alloc (.cells #[.slice none 0 0, .slice none 0 0, .slice none 0 0] 25) = x := ⟨_, rfl⟩
          have hbx8 : Below x7.heap.size x7 x8 := by rw [← hwx8]; exact (Below.refl _ _).alloc (Nat.le_refl _) _
          have HGx8 : Hid (Bk x8 x7.heap.size [.slice none 0 0, .slice none 0 0, .slice none 0 0] 25) := by
            show Bk _ _ _ _
            rw [← hwx8]; exact Bk.new _ _ _
          have hsx8 : x7.heap.size < x8.heap.size := HGx8.out.lt
          rw [hwx8]
          have HFx8 := keep (HFx7.out.fs (Fs.of_below (l := []) hbx8) (by simp))
          have HCx8 := keep (HCx7.out.trans (hbx8.mono HCx7.out.size))
          have hzx8 : x7.heap.size ≤ x8.heap.size := hbx8.size
          replace HU1 := keep (HU1.out.below (hbx8.mono (by omega)))
          replace HU2 := keep (HU2.out.below (hbx8.mono (by omega)))
          replace HU3 := keep (StP.keep (fun i hi => hbx8.block i (by omega)) (fun i hi => hbx8.block i (by have := hi.2; omega)) HU3.out)
          clear hbx8 hwx8
          refine hK.out _ _ (fun _ => HSS.out _ HFx8.out) ?_
          clear hK K
          try simp only [Act.put, List.setIfInBounds_toArray, List.set_cons_zero, List.set_cons_succ]
          refine Ord.wpM_one (i := 11) (by kernel_rfl) (by simp only [List.getElem?_toArray, List.getElem?_cons_zero, List.getElem?_cons_succ]; rfl) (fun K hK => ?_)
          rw [if_pos (by simp [Region.wanted])]
          refine wp_store_row 25 (.tmp 5) (.tmp 25) rfl x7.heap.size #[.slice pu1 nu1 cu1, .slice pu2 nu2 cu2, .slice pu3 nu3 cu3] rfl rfl 25 #[.slice none 0 0, .slice none 0 0, .slice none 0 0] HGx8.out (info_F [.slice pu1 nu1 cu1, .slice pu2 nu2 cu2, .slice pu3 nu3 cu3] rfl) rfl (by simp [Value.oneCell']) ?_
          refine hK.out _ _ (fun h => absurd h (by decide)) ?_
          clear hK K
          try simp only [Act.put, List.setIfInBounds_toArray, List.set_cons_zero, List.set_cons_succ]
          refine Ord.wpM_done (by kernel_rfl) ?_ _
          refine NoPanic.normal ?_
          obtain ⟨wz, hwz⟩ : ∃ wz, x8.setRow x7.heap.size #[.slice pu1 nu1 cu1, .slice pu2 nu2 cu2, .slice pu3 nu3 cu3] = wz := ⟨_, rfl⟩
          have HGz : Hid (Bk wz x7.heap.size [.slice pu1 nu1 cu1, .slice pu2 nu2 cu2, .slice pu3 nu3 cu3] 25) := by
            show Bk _ _ _ _
            rw [← hwz]; exact setRow_heap _ _ _ _ _ _ HGx8.out
          have hkz : ∀ i, i ≠ x7.heap.size → wz.heap[i]? = x8.heap[i]? := fun i hi => by rw [← hwz, setRow_other _ _ _ _ hi]
          have hzz : wz.heap.size = x8.heap.size := by rw [← hwz]; simp
          have HFz : Hid (Bk wz w2.heap.size [.slice p1 n1 c1, .slice p2 n2 c2, .slice p3 n3 c3] 25) := by
            have h := HFx8.out
            show Bk _ _ _ _
            unfold Bk at h ⊢
            rw [hkz _ (by omega)]; exact h
          have HBz : Hid (Below w.heap.size w wz) := by
            show Below _ _ _
            rw [← hwz]; exact below_setRow (HB4.out.trans (HCx8.out.mono (by have := HB4.out.size; omega))) (by have := HB4.out.size; have := HB2.out.size; omega) _
          have HfIs : Hid (FnIs wz wz.heap.size 10 11 f (.agg #[.slice p1 n1 c1, .slice p2 n2 c2, .slice p3 n3 c3])) := FnX.fnIs (HX4.out.keep fun i a b => (hkz i (by omega)).trans (HCx8.out.block i (by omega))) (by omega)
          have HgIs : Hid (FnIs wz wz.heap.size 10 11 (pubF f) (.agg #[.slice pu1 nu1 cu1, .slice pu2 nu2 cu2, .slice pu3 nu3 cu3])) :=
            ⟨_, _, _, rfl, (HU1.out.keep fun i a b => hkz i (by omega)).vrIs (by omega), (HU2.out.keep fun i a b => hkz i (by omega)).vrIs (by omega), StP.stIs (fun i hi => by have := hi.2; omega) (by omega) (StP.keep (fun i hi => hkz i (by omega)) (fun i hi => hkz i (by have := hi.1; have := hi.2; omega)) HU3.out)⟩
          have HC1 := keep (check_any wz.heap.size (pubF f) _ _ _ wz (Nat.le_refl _) (pubF_wf HWf.out) HgIs.out)
          have HNo := keep (pubF_no f)
          have HSi := keep (check_sim f)
          have HC2 := keep (fun W (hW : Below wz.heap.size wz W) => check_any wz.heap.size f _ _ _ W hW.size HWf.out (HfIs.out.below hW))
          generalize checkK (pubF f) = g1 at *
          generalize checkK f = g2 at *
          have HWz := keep hwz
          clear hwz hkz HgIs HfIs HU1 HU2 HU3 HX4 HPt HSS
          go_wp2_with (first
            | rw [HWz.out]
            | refine wpList_load_row rfl 25 (.tmp 5) rfl x7.heap.size rfl 25 #[.slice pu1 nu1 cu1, .slice pu2 nu2 cu2, .slice pu3 nu3 cu3] (0, 0) _ HGz.out Tryd.underlying25 rfl (info_F [.slice pu1 nu1 cu1, .slice pu2 nu2 cu2, .slice pu3 nu3 cu3] rfl) ?_)
          refine HC1.out.mono ?_
          rintro r y1 ⟨rfl, hy1⟩
          have HFy := keep (HFz.out.fs (Fs.of_below (l := []) hy1) (by simp))
          have HBy := keep (HBz.out.trans (hy1.mono HBz.out.size))
          have dn : (g1 != 10) = true := by simpa using HNo.out
          have HC3 := keep (HC2.out y1 hy1)
          clear hy1 HC2 HC1 HNo HGz HFz HWz
          have y0 := HFy.out.cell 0 rfl
          have ya := HFy.out.cell 1 rfl
          have yb := HFy.out.cell 2 rfl
          go_wp2_with fail
          refine HC3.out.mono ?_
          rintro r y2 ⟨rfl, hy2⟩
          have HBe := keep (HBy.out.trans (hy2.mono HBy.out.size))
          clear hy2 HC3
          by_cases h2 : g2 = 0
          · have h1 := HSi.out h2
            subst h2 h1
            go_wp2
            go_ret
            exact ⟨rfl, HBe.out⟩
          · have d2 : (g2 != 0) = true := by simpa using h2
            clear h2 HSi
            go_wp2
            go_ret
            exact ⟨rfl, HBe.out⟩
        · go_simp
          obtain ⟨x7, hwx7⟩ : ∃ x, x6.alloc (.cells #[.slice none 0 0, .slice none 0 0, .slice none 0 0] 25) = x := ⟨_, rfl⟩
          have hbx7 : Below x6.heap.size x6 x7 := by rw [← hwx7]; exact (Below.refl _ _).alloc (Nat.le_refl _) _
          have HGx7 : Hid (Bk x7 x6.heap.size [.slice none 0 0, .slice none 0 0, .slice none 0 0] 25) := by
            show Bk _ _ _ _
            rw [← hwx7]; exact Bk.new _ _ _
          have hsx7 : x6.heap.size < x7.heap.size := HGx7.out.lt
          rw [hwx7]
          have HFx7 := keep (HFx6.out.fs (Fs.of_below (l := []) hbx7) (by simp))
          have HCx7 := keep (HCx6.out.trans (hbx7.mono HCx6.out.size))
          have hzx7 : x6.heap.size ≤ x7.heap.size := hbx7.size
          replace HU1 := keep (HU1.out.below (hbx7.mono (by omega)))
          replace HU2 := keep (HU2.out.below (hbx7.mono (by omega)))
          clear hbx7 hwx7
          refine hK.out _ _ (fun _ => HSS.out _ HFx7.out) ?_
          clear hK K
          try simp only [Act.put, List.setIfInBounds_toArray, List.set_cons_zero, List.set_cons_succ]
          refine Ord.wpM_one (i := 8) (by kernel_rfl) (by simp only [List.getElem?_toArray, List.getElem?_cons_zero, List.getElem?_cons_succ]; rfl) (fun K hK => ?_)
          go_simp
          refine (all_ok 9 10 w2.heap.size f.body (.slice p3 n3 c3) x7 (by omega) (by omega) HWf.out.2.2 HSm.out.2.2.2 HSm.out.2.2.1 ((StX.stIs (fun i hi => hi.2) HPt.out.2.2).below (HCx7.out.mono (by omega)))).mono ?_
          rintro r x8 ⟨u3, rfl, hrx8, hbx8⟩
          obtain ⟨pu3, nu3, cu3, rfl⟩ := hrx8.slice
          have HU3 := keep hrx8
          have HFx8 := keep (HFx7.out.fs (Fs.of_below (l := []) hbx8) (by simp))
          have HCx8 := keep (HCx7.out.trans (hbx8.mono HCx7.out.size))
          have hzx8 : x7.heap.size ≤ x8.heap.size := hbx8.size
          replace HU1 := keep (HU1.out.below (hbx8.mono (by omega)))
          replace HU2 := keep (HU2.out.below (hbx8.mono (by omega)))
          have HGx8 := keep (HGx7.out.fs (Fs.of_below (l := []) hbx8) (by simp))
          go_simp
          clear hbx8 hrx8
          refine hK.out _ _ (fun _ => HSS.out _ HFx8.out) ?_
          clear hK K
          try simp only [Act.put, List.setIfInBounds_toArray, List.set_cons_zero, List.set_cons_succ]
          refine Ord.wpM_one (i := 9) (by kernel_rfl) (by simp only [List.getElem?_toArray, List.getElem?_cons_zero, List.getElem?_cons_succ]; rfl) (fun K hK => ?_)
          go_simp
          refine hK.out _ _ (fun _ => HSS.out _ HFx8.out) ?_
          clear hK K
          try simp only [Act.put, List.setIfInBounds_toArray, List.set_cons_zero, List.set_cons_succ]
          refine Ord.wpM_one (i := 11) (by kernel_rfl) (by simp only [List.getElem?_toArray, List.getElem?_cons_zero, List.getElem?_cons_succ]; rfl) (fun K hK => ?_)
          rw [if_pos (by simp [Region.wanted])]
          refine wp_store_row 25 (.tmp 5) (.tmp 25) rfl x6.heap.size #[.slice pu1 nu1 cu1, .slice pu2 nu2 cu2, .slice pu3 nu3 cu3] rfl rfl 25 #[.slice none 0 0, .slice none 0 0, .slice none 0 0] HGx8.out (info_F [.slice pu1 nu1 cu1, .slice pu2 nu2 cu2, .slice pu3 nu3 cu3] rfl) rfl (by simp [Value.oneCell']) ?_
          refine hK.out _ _ (fun h => absurd h (by decide)) ?_
          clear hK K
          try simp only [Act.put, List.setIfInBounds_toArray, List.set_cons_zero, List.set_cons_succ]
          refine Ord.wpM_done (by kernel_rfl) ?_ _
          refine NoPanic.normal ?_
          obtain ⟨wz, hwz⟩ : ∃ wz, x8.setRow x6.heap.size #[.slice pu1 nu1 cu1, .slice pu2 nu2 cu2, .slice pu3 nu3 cu3] = wz := ⟨_, rfl⟩
          have HGz : Hid (Bk wz x6.heap.size [.slice pu1 nu1 cu1, .slice pu2 nu2 cu2, .slice pu3 nu3 cu3] 25) := by
            show Bk _ _ _ _
            rw [← hwz]; exact setRow_heap _ _ _ _ _ _ HGx8.out
          have hkz : ∀ i, i ≠ x6.heap.size → wz.heap[i]? = x8.heap[i]? := fun i hi => by rw [← hwz, setRow_other _ _ _ _ hi]
          have hzz : wz.heap.size = x8.heap.size := by rw [← hwz]; simp
          have HFz : Hid (Bk wz w2.heap.size [.slice p1 n1 c1, .slice p2 n2 c2, .slice p3 n3 c3] 25) := by
            have h := HFx8.out
            show Bk _ _ _ _
            unfold Bk at h ⊢
            rw [hkz _ (by omega)]; exact h
          have HBz : Hid (Below w.heap.size w wz) := by
            show Below _ _ _
            rw [← hwz]; exact below_setRow (HB4.out.trans (HCx8.out.mono (by have := HB4.out.size; omega))) (by have := HB4.out.size; have := HB2.out.size; omega) _
          have HfIs : Hid (FnIs wz wz.heap.size 10 11 f (.agg #[.slice p1 n1 c1, .slice p2 n2 c2, .slice p3 n3 c3])) := FnX.fnIs (HX4.out.keep fun i a b => (hkz i (by omega)).trans (HCx8.out.block i (by omega))) (by omega)
          have HgIs : Hid (FnIs wz wz.heap.size 10 11 (pubF f) (.agg #[.slice pu1 nu1 cu1, .slice pu2 nu2 cu2, .slice pu3 nu3 cu3])) :=
            ⟨_, _, _, rfl, (HU1.out.keep fun i a b => hkz i (by omega)).vrIs (by omega), (HU2.out.keep fun i a b => hkz i (by omega)).vrIs (by omega), StP.stIs (fun i hi => by have := hi.2; omega) (by omega) (StP.keep (fun i hi => hkz i (by omega)) (fun i hi => hkz i (by have := hi.1; have := hi.2; omega)) HU3.out)⟩
          have HC1 := keep (check_any wz.heap.size (pubF f) _ _ _ wz (Nat.le_refl _) (pubF_wf HWf.out) HgIs.out)
          have HNo := keep (pubF_no f)
          have HSi := keep (check_sim f)
          have HC2 := keep (fun W (hW : Below wz.heap.size wz W) => check_any wz.heap.size f _ _ _ W hW.size HWf.out (HfIs.out.below hW))
          generalize checkK (pubF f) = g1 at *
          generalize checkK f = g2 at *
          have HWz := keep hwz
          clear hwz hkz HgIs HfIs HU1 HU2 HU3 HX4 HPt HSS
          go_wp2_with (first
            | rw [HWz.out]
            | refine wpList_load_row rfl 25 (.tmp 5) rfl x6.heap.size rfl 25 #[.slice pu1 nu1 cu1, .slice pu2 nu2 cu2, .slice pu3 nu3 cu3] (0, 0) _ HGz.out Tryd.underlying25 rfl (info_F [.slice pu1 nu1 cu1, .slice pu2 nu2 cu2, .slice pu3 nu3 cu3] rfl) ?_)
          refine HC1.out.mono ?_
          rintro r y1 ⟨rfl, hy1⟩
          have HFy := keep (HFz.out.fs (Fs.of_below (l := []) hy1) (by simp))
          have HBy := keep (HBz.out.trans (hy1.mono HBz.out.size))
          have dn : (g1 != 10) = true := by simpa using HNo.out
          have HC3 := keep (HC2.out y1 hy1)
          clear hy1 HC2 HC1 HNo HGz HFz HWz
          have y0 := HFy.out.cell 0 rfl
          have ya := HFy.out.cell 1 rfl
          have yb := HFy.out.cell 2 rfl
          go_wp2_with fail
          refine HC3.out.mono ?_
          rintro r y2 ⟨rfl, hy2⟩
          have HBe := keep (HBy.out.trans (hy2.mono HBy.out.size))
          clear hy2 HC3
          by_cases h2 : g2 = 0
          · have h1 := HSi.out h2
            subst h2 h1
            go_wp2
            go_ret
            exact ⟨rfl, HBe.out⟩
          · have d2 : (g2 != 0) = true := by simpa using h2
            clear h2 HSi
            go_wp2
            go_ret
            exact ⟨rfl, HBe.out⟩
      · go_simp
        obtain ⟨x6, hwx6⟩ : ∃ x, x5.alloc (.cells #[.slice none 0 0, .slice none 0 0, .slice none 0 0] 25) = x := ⟨_, rfl⟩
        have hbx6 : Below x5.heap.size x5 x6 := by rw [← hwx6]; exact (Below.refl _ _).alloc (Nat.le_refl _) _
        have HGx6 : Hid (Bk x6 x5.heap.size [.slice none 0 0, .slice none 0 0, .slice none 0 0] 25) := by
          show Bk _ _ _ _
          rw [← hwx6]; exact Bk.new _ _ _
        have hsx6 : x5.heap.size < x6.heap.size := HGx6.out.lt
        rw [hwx6]
        have HFx6 := keep (HFx5.out.fs (Fs.of_below (l := []) hbx6) (by simp))
        have HCx6 := keep (HCx5.out.trans (hbx6.mono HCx5.out.size))
        have hzx6 : x5.heap.size ≤ x6.heap.size := hbx6.size
        replace HU1 := keep (HU1.out.below (hbx6.mono (by omega)))
        clear hbx6 hwx6
        refine hK.out _ _ (fun _ => HSS.out _ HFx6.out) ?_
        clear hK K
        try simp only [Act.put, List.setIfInBounds_toArray, List.set_cons_zero, List.set_cons_succ]
        refine Ord.wpM_one (i := 5) (by kernel_rfl) (by simp only [List.getElem?_toArray, List.getElem?_cons_zero, List.getElem?_cons_succ]; rfl) (fun K hK => ?_)
        go_simp
        refine (vars_any w2.heap.size f.arrays (.slice p2 n2 c2) x6 (by omega) ((HPt.out.2.1.vrIs (Nat.le_refl _)).below (HCx6.out.mono (by omega))) HSm.out.2.1).mono ?_
        rintro r x7 ⟨u2, rfl, hrx7, hbx7⟩
        obtain ⟨pu2, nu2, cu2, rfl⟩ := RowX.slice hrx7
        have HU2 := keep (RowX.varsX hrx7 (by rw [List.length_map]; have := HSm.out.2.1; omega))
        have HFx7 := keep (HFx6.out.fs (Fs.of_below (l := []) hbx7) (by simp))
        have HCx7 := keep (HCx6.out.trans (hbx7.mono HCx6.out.size))
        have hzx7 : x6.heap.size ≤ x7.heap.size := hbx7.size
        replace HU1 := keep (HU1.out.below (hbx7.mono (by omega)))
        have HGx7 := keep (HGx6.out.fs (Fs.of_below (l := []) hbx7) (by simp))
        go_simp
        clear hbx7 hrx7
        refine hK.out _ _ (fun _ => HSS.out _ HFx7.out) ?_
        clear hK K
        try simp only [Act.put, List.setIfInBounds_toArray, List.set_cons_zero, List.set_cons_succ]
        refine Ord.wpM_one (i := 8) (by kernel_rfl) (by simp only [List.getElem?_toArray, List.getElem?_cons_zero, List.getElem?_cons_succ]; rfl) (fun K hK => ?_)
        go_simp
        refine (all_ok 9 10 w2.heap.size f.body (.slice p3 n3 c3) x7 (by omega) (by omega) HWf.out.2.2 HSm.out.2.2.2 HSm.out.2.2.1 ((StX.stIs (fun i hi => hi.2) HPt.out.2.2).below (HCx7.out.mono (by omega)))).mono ?_
        rintro r x8 ⟨u3, rfl, hrx8, hbx8⟩
        obtain ⟨pu3, nu3, cu3, rfl⟩ := hrx8.slice
        have HU3 := keep hrx8
        have HFx8 := keep (HFx7.out.fs (Fs.of_below (l := []) hbx8) (by simp))
        have HCx8 := keep (HCx7.out.trans (hbx8.mono HCx7.out.size))
        have hzx8 : x7.heap.size ≤ x8.heap.size := hbx8.size
        replace HU1 := keep (HU1.out.below (hbx8.mono (by omega)))
        replace HU2 := keep (HU2.out.below (hbx8.mono (by omega)))
        have HGx8 := keep (HGx7.out.fs (Fs.of_below (l := []) hbx8) (by simp))
        go_simp
        clear hbx8 hrx8
        refine hK.out _ _ (fun _ => HSS.out _ HFx8.out) ?_
        clear hK K
        try simp only [Act.put, List.setIfInBounds_toArray, List.set_cons_zero, List.set_cons_succ]
        refine Ord.wpM_one (i := 9) (by kernel_rfl) (by simp only [List.getElem?_toArray, List.getElem?_cons_zero, List.getElem?_cons_succ]; rfl) (fun K hK => ?_)
        go_simp
        refine hK.out _ _ (fun _ => HSS.out _ HFx8.out) ?_
        clear hK K
        try simp only [Act.put, List.setIfInBounds_toArray, List.set_cons_zero, List.set_cons_succ]
        refine Ord.wpM_one (i := 11) (by kernel_rfl) (by simp only [List.getElem?_toArray, List.getElem?_cons_zero, List.getElem?_cons_succ]; rfl) (fun K hK => ?_)
        rw [if_pos (by simp [Region.wanted])]
        refine wp_store_row 25 (.tmp 5) (.tmp 25) rfl x5.heap.size #[.slice pu1 nu1 cu1, .slice pu2 nu2 cu2, .slice pu3 nu3 cu3] rfl rfl 25 #[.slice none 0 0, .slice none 0 0, .slice none 0 0] HGx8.out (info_F [.slice pu1 nu1 cu1, .slice pu2 nu2 cu2, .slice pu3 nu3 cu3] rfl) rfl (by simp [Value.oneCell']) ?_
        refine hK.out _ _ (fun h => absurd h (by decide)) ?_
        clear hK K
        try simp only [Act.put, List.setIfInBounds_toArray, List.set_cons_zero, List.set_cons_succ]
        refine Ord.wpM_done (by kernel_rfl) ?_ _
        refine NoPanic.normal ?_
        obtain ⟨wz, hwz⟩ : ∃ wz, x8.setRow x5.heap.size #[.slice pu1 nu1 cu1, .slice pu2 nu2 cu2, .slice pu3 nu3 cu3] = wz := ⟨_, rfl⟩
        have HGz : Hid (Bk wz x5.heap.size [.slice pu1 nu1 cu1, .slice pu2 nu2 cu2, .slice pu3 nu3 cu3] 25) := by
          show Bk _ _ _ _
          rw [← hwz]; exact setRow_heap _ _ _ _ _ _ HGx8.out
        have hkz : ∀ i, i ≠ x5.heap.size → wz.heap[i]? = x8.heap[i]? := fun i hi => by rw [← hwz, setRow_other _ _ _ _ hi]
        have hzz : wz.heap.size = x8.heap.size := by rw [← hwz]; simp
        have HFz : Hid (Bk wz w2.heap.size [.slice p1 n1 c1, .slice p2 n2 c2, .slice p3 n3 c3] 25) := by
          have h := HFx8.out
          show Bk _ _ _ _
          unfold Bk at h ⊢
          rw [hkz _ (by omega)]; exact h
        have HBz : Hid (Below w.heap.size w wz) := by
          show Below _ _ _
          rw [← hwz]; exact below_setRow (HB4.out.trans (HCx8.out.mono (by have := HB4.out.size; omega))) (by have := HB4.out.size; have := HB2.out.size; omega) _
        have HfIs : Hid (FnIs wz wz.heap.size 10 11 f (.agg #[.slice p1 n1 c1, .slice p2 n2 c2, .slice p3 n3 c3])) := FnX.fnIs (HX4.out.keep fun i a b => (hkz i (by omega)).trans (HCx8.out.block i (by omega))) (by omega)
        have HgIs : Hid (FnIs wz wz.heap.size 10 11 (pubF f) (.agg #[.slice pu1 nu1 cu1, .slice pu2 nu2 cu2, .slice pu3 nu3 cu3])) :=
          ⟨_, _, _, rfl, (HU1.out.keep fun i a b => hkz i (by omega)).vrIs (by omega), (HU2.out.keep fun i a b => hkz i (by omega)).vrIs (by omega), StP.stIs (fun i hi => by have := hi.2; omega) (by omega) (StP.keep (fun i hi => hkz i (by omega)) (fun i hi => hkz i (by have := hi.1; have := hi.2; omega)) HU3.out)⟩
        have HC1 := keep (check_any wz.heap.size (pubF f) _ _ _ wz (Nat.le_refl _) (pubF_wf HWf.out) HgIs.out)
        have HNo := keep (pubF_no f)
        have HSi := keep (check_sim f)
        have HC2 := keep (fun W (hW : Below wz.heap.size wz W) => check_any wz.heap.size f _ _ _ W hW.size HWf.out (HfIs.out.below hW))
        generalize checkK (pubF f) = g1 at *
        generalize checkK f = g2 at *
        have HWz := keep hwz
        clear hwz hkz HgIs HfIs HU1 HU2 HU3 HX4 HPt HSS
        go_wp2_with (first
          | rw [HWz.out]
          | refine wpList_load_row rfl 25 (.tmp 5) rfl x5.heap.size rfl 25 #[.slice pu1 nu1 cu1, .slice pu2 nu2 cu2, .slice pu3 nu3 cu3] (0, 0) _ HGz.out Tryd.underlying25 rfl (info_F [.slice pu1 nu1 cu1, .slice pu2 nu2 cu2, .slice pu3 nu3 cu3] rfl) ?_)
        refine HC1.out.mono ?_
        rintro r y1 ⟨rfl, hy1⟩
        have HFy := keep (HFz.out.fs (Fs.of_below (l := []) hy1) (by simp))
        have HBy := keep (HBz.out.trans (hy1.mono HBz.out.size))
        have dn : (g1 != 10) = true := by simpa using HNo.out
        have HC3 := keep (HC2.out y1 hy1)
        clear hy1 HC2 HC1 HNo HGz HFz HWz
        have y0 := HFy.out.cell 0 rfl
        have ya := HFy.out.cell 1 rfl
        have yb := HFy.out.cell 2 rfl
        go_wp2_with fail
        refine HC3.out.mono ?_
        rintro r y2 ⟨rfl, hy2⟩
        have HBe := keep (HBy.out.trans (hy2.mono HBy.out.size))
        clear hy2 HC3
        by_cases h2 : g2 = 0
        · have h1 := HSi.out h2
          subst h2 h1
          go_wp2
          go_ret
          exact ⟨rfl, HBe.out⟩
        · have d2 : (g2 != 0) = true := by simpa using h2
          clear h2 HSi
          go_wp2
          go_ret
          exact ⟨rfl, HBe.out⟩
    · go_simp
      obtain ⟨x5, hwx5⟩ : ∃ x, w4.alloc (.cells #[.slice none 0 0, .slice none 0 0, .slice none 0 0] 25) = x := ⟨_, rfl⟩
      have hbx5 : Below w4.heap.size w4 x5 := by rw [← hwx5]; exact (Below.refl _ _).alloc (Nat.le_refl _) _
      have HGx5 : Hid (Bk x5 w4.heap.size [.slice none 0 0, .slice none 0 0, .slice none 0 0] 25) := by
        show Bk _ _ _ _
        rw [← hwx5]; exact Bk.new _ _ _
      have hsx5 : w4.heap.size < x5.heap.size := HGx5.out.lt
      rw [hwx5]
      have HFx5 := keep (HFw4.out.fs (Fs.of_below (l := []) hbx5) (by simp))
      have HCx5 := keep (HCw4.out.trans (hbx5.mono HCw4.out.size))
      have hzx5 : w4.heap.size ≤ x5.heap.size := hbx5.size
      clear hbx5 hwx5
      refine hK.out _ _ (fun _ => HSS.out _ HFx5.out) ?_
      clear hK K
      try simp only [Act.put, List.setIfInBounds_toArray, List.set_cons_zero, List.set_cons_succ]
      refine Ord.wpM_one (i := 2) (by kernel_rfl) (by simp only [List.getElem?_toArray, List.getElem?_cons_zero, List.getElem?_cons_succ]; rfl) (fun K hK => ?_)
      go_simp
      refine (vars_any w2.heap.size f.params (.slice p1 n1 c1) x5 (by omega) ((HPt.out.1.vrIs (Nat.le_refl _)).below (HCx5.out.mono (by omega))) HSm.out.1).mono ?_
      rintro r x6 ⟨u1, rfl, hrx6, hbx6⟩
      obtain ⟨pu1, nu1, cu1, rfl⟩ := RowX.slice hrx6
      have HU1 := keep (RowX.varsX hrx6 (by rw [List.length_map]; have := HSm.out.1; omega))
      have HFx6 := keep (HFx5.out.fs (Fs.of_below (l := []) hbx6) (by simp))
      have HCx6 := keep (HCx5.out.trans (hbx6.mono HCx5.out.size))
      have hzx6 : x5.heap.size ≤ x6.heap.size := hbx6.size
      have HGx6 := keep (HGx5.out.fs (Fs.of_below (l := []) hbx6) (by simp))
      go_simp
      clear hbx6 hrx6
      refine hK.out _ _ (fun _ => HSS.out _ HFx6.out) ?_
      clear hK K
      try simp only [Act.put, List.setIfInBounds_toArray, List.set_cons_zero, List.set_cons_succ]
      refine Ord.wpM_one (i := 5) (by kernel_rfl) (by simp only [List.getElem?_toArray, List.getElem?_cons_zero, List.getElem?_cons_succ]; rfl) (fun K hK => ?_)
      go_simp
      refine (vars_any w2.heap.size f.arrays (.slice p2 n2 c2) x6 (by omega) ((HPt.out.2.1.vrIs (Nat.le_refl _)).below (HCx6.out.mono (by omega))) HSm.out.2.1).mono ?_
      rintro r x7 ⟨u2, rfl, hrx7, hbx7⟩
      obtain ⟨pu2, nu2, cu2, rfl⟩ := RowX.slice hrx7
      have HU2 := keep (RowX.varsX hrx7 (by rw [List.length_map]; have := HSm.out.2.1; omega))
      have HFx7 := keep (HFx6.out.fs (Fs.of_below (l := []) hbx7) (by simp))
      have HCx7 := keep (HCx6.out.trans (hbx7.mono HCx6.out.size))
      have hzx7 : x6.heap.size ≤ x7.heap.size := hbx7.size
      replace HU1 := keep (HU1.out.below (hbx7.mono (by omega)))
      have HGx7 := keep (HGx6.out.fs (Fs.of_below (l := []) hbx7) (by simp))
      go_simp
      clear hbx7 hrx7
      refine hK.out _ _ (fun _ => HSS.out _ HFx7.out) ?_
      clear hK K
      try simp only [Act.put, List.setIfInBounds_toArray, List.set_cons_zero, List.set_cons_succ]
      refine Ord.wpM_one (i := 8) (by kernel_rfl) (by simp only [List.getElem?_toArray, List.getElem?_cons_zero, List.getElem?_cons_succ]; rfl) (fun K hK => ?_)
      go_simp
      refine (all_ok 9 10 w2.heap.size f.body (.slice p3 n3 c3) x7 (by omega) (by omega) HWf.out.2.2 HSm.out.2.2.2 HSm.out.2.2.1 ((StX.stIs (fun i hi => hi.2) HPt.out.2.2).below (HCx7.out.mono (by omega)))).mono ?_
      rintro r x8 ⟨u3, rfl, hrx8, hbx8⟩
      obtain ⟨pu3, nu3, cu3, rfl⟩ := hrx8.slice
      have HU3 := keep hrx8
      have HFx8 := keep (HFx7.out.fs (Fs.of_below (l := []) hbx8) (by simp))
      have HCx8 := keep (HCx7.out.trans (hbx8.mono HCx7.out.size))
      have hzx8 : x7.heap.size ≤ x8.heap.size := hbx8.size
      replace HU1 := keep (HU1.out.below (hbx8.mono (by omega)))
      replace HU2 := keep (HU2.out.below (hbx8.mono (by omega)))
      have HGx8 := keep (HGx7.out.fs (Fs.of_below (l := []) hbx8) (by simp))
      go_simp
      clear hbx8 hrx8
      refine hK.out _ _ (fun _ => HSS.out _ HFx8.out) ?_
      clear hK K
      try simp only [Act.put, List.setIfInBounds_toArray, List.set_cons_zero, List.set_cons_succ]
      refine Ord.wpM_one (i := 9) (by kernel_rfl) (by simp only [List.getElem?_toArray, List.getElem?_cons_zero, List.getElem?_cons_succ]; rfl) (fun K hK => ?_)
      go_simp
      refine hK.out _ _ (fun _ => HSS.out _ HFx8.out) ?_
      clear hK K
      try simp only [Act.put, List.setIfInBounds_toArray, List.set_cons_zero, List.set_cons_succ]
      refine Ord.wpM_one (i := 11) (by kernel_rfl) (by simp only [List.getElem?_toArray, List.getElem?_cons_zero, List.getElem?_cons_succ]; rfl) (fun K hK => ?_)
      rw [if_pos (by simp [Region.wanted])]
      refine wp_store_row 25 (.tmp 5) (.tmp 25) rfl w4.heap.size #[.slice pu1 nu1 cu1, .slice pu2 nu2 cu2, .slice pu3 nu3 cu3] rfl rfl 25 #[.slice none 0 0, .slice none 0 0, .slice none 0 0] HGx8.out (info_F [.slice pu1 nu1 cu1, .slice pu2 nu2 cu2, .slice pu3 nu3 cu3] rfl) rfl (by simp [Value.oneCell']) ?_
      refine hK.out _ _ (fun h => absurd h (by decide)) ?_
      clear hK K
      try simp only [Act.put, List.setIfInBounds_toArray, List.set_cons_zero, List.set_cons_succ]
      refine Ord.wpM_done (by kernel_rfl) ?_ _
      refine NoPanic.normal ?_
      obtain ⟨wz, hwz⟩ : ∃ wz, x8.setRow w4.heap.size #[.slice pu1 nu1 cu1, .slice pu2 nu2 cu2, .slice pu3 nu3 cu3] = wz := ⟨_, rfl⟩
      have HGz : Hid (Bk wz w4.heap.size [.slice pu1 nu1 cu1, .slice pu2 nu2 cu2, .slice pu3 nu3 cu3] 25) := by
        show Bk _ _ _ _
        rw [← hwz]; exact setRow_heap _ _ _ _ _ _ HGx8.out
      have hkz : ∀ i, i ≠ w4.heap.size → wz.heap[i]? = x8.heap[i]? := fun i hi => by rw [← hwz, setRow_other _ _ _ _ hi]
      have hzz : wz.heap.size = x8.heap.size := by rw [← hwz]; simp
      have HFz : Hid (Bk wz w2.heap.size [.slice p1 n1 c1, .slice p2 n2 c2, .slice p3 n3 c3] 25) := by
        have h := HFx8.out
        show Bk _ _ _ _
        unfold Bk at h ⊢
        rw [hkz _ (by omega)]; exact h
      have HBz : Hid (Below w.heap.size w wz) := by
        show Below _ _ _
        rw [← hwz]; exact below_setRow (HB4.out.trans (HCx8.out.mono (by have := HB4.out.size; omega))) (by have := HB4.out.size; have := HB2.out.size; omega) _
      have HfIs : Hid (FnIs wz wz.heap.size 10 11 f (.agg #[.slice p1 n1 c1, .slice p2 n2 c2, .slice p3 n3 c3])) := FnX.fnIs (HX4.out.keep fun i a b => (hkz i (by omega)).trans (HCx8.out.block i (by omega))) (by omega)
      have HgIs : Hid (FnIs wz wz.heap.size 10 11 (pubF f) (.agg #[.slice pu1 nu1 cu1, .slice pu2 nu2 cu2, .slice pu3 nu3 cu3])) :=
        ⟨_, _, _, rfl, (HU1.out.keep fun i a b => hkz i (by omega)).vrIs (by omega), (HU2.out.keep fun i a b => hkz i (by omega)).vrIs (by omega), StP.stIs (fun i hi => by have := hi.2; omega) (by omega) (StP.keep (fun i hi => hkz i (by omega)) (fun i hi => hkz i (by have := hi.1; have := hi.2; omega)) HU3.out)⟩
      have HC1 := keep (check_any wz.heap.size (pubF f) _ _ _ wz (Nat.le_refl _) (pubF_wf HWf.out) HgIs.out)
      have HNo := keep (pubF_no f)
      have HSi := keep (check_sim f)
      have HC2 := keep (fun W (hW : Below wz.heap.size wz W) => check_any wz.heap.size f _ _ _ W hW.size HWf.out (HfIs.out.below hW))
      generalize checkK (pubF f) = g1 at *
      generalize checkK f = g2 at *
      have HWz := keep hwz
      clear hwz hkz HgIs HfIs HU1 HU2 HU3 HX4 HPt HSS
      go_wp2_with (first
        | rw [HWz.out]
        | refine wpList_load_row rfl 25 (.tmp 5) rfl w4.heap.size rfl 25 #[.slice pu1 nu1 cu1, .slice pu2 nu2 cu2, .slice pu3 nu3 cu3] (0, 0) _ HGz.out Tryd.underlying25 rfl (info_F [.slice pu1 nu1 cu1, .slice pu2 nu2 cu2, .slice pu3 nu3 cu3] rfl) ?_)
      refine HC1.out.mono ?_
      rintro r y1 ⟨rfl, hy1⟩
      have HFy := keep (HFz.out.fs (Fs.of_below (l := []) hy1) (by simp))
      have HBy := keep (HBz.out.trans (hy1.mono HBz.out.size))
      have dn : (g1 != 10) = true := by simpa using HNo.out
      have HC3 := keep (HC2.out y1 hy1)
      clear hy1 HC2 HC1 HNo HGz HFz HWz
      have y0 := HFy.out.cell 0 rfl
      have ya := HFy.out.cell 1 rfl
      have yb := HFy.out.cell 2 rfl
      go_wp2_with fail
      refine HC3.out.mono ?_
      rintro r y2 ⟨rfl, hy2⟩
      have HBe := keep (HBy.out.trans (hy2.mono HBy.out.size))
      clear hy2 HC3
      by_cases h2 : g2 = 0
      · have h1 := HSi.out h2
        subst h2 h1
        go_wp2
        go_ret
        exact ⟨rfl, HBe.out⟩
      · have d2 : (g2 != 0) = true := by simpa using h2
        clear h2 HSi
        go_wp2
        go_ret
        exact ⟨rfl, HBe.out⟩
  · have d : (e != 0) = true := by simpa using he
    clear he
    go_wp2_with (first | rw [HW3.out])
    go_ret
    exact ⟨rfl, HB3.out⟩
end Go.Proofs.YtemdnmfldihalaaDoor.Lr
