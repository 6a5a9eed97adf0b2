/- LabelTells: the way of the law, whatever text is given. Written by tools/gen_vtells4.py. -/
import Derived.Test.YtemdnmfldihalaaDoorLmChecks
import Derived.Test.YtemdnmfldihalaaDoorLvAlive4
namespace Go.Proofs.YtemdnmfldihalaaDoor.Lr
set_option linter.unusedVariables false
set_option linter.unusedSimpArgs false
open Go.ChangeShapes Go.WideShapes Go.ChangeAt Go.RowKit Lg Rf

set_option maxHeartbeats 16000000 in
set_option maxRecDepth 100000 in
theorem tells_any (s : ByteArray) (hs : s.size ≤ 281474976710656) (w : World) (ht : Tabs w) :
    Calls Tryd.prog 3 #[.string s] w fun r w' => r = .returned (.bool true) ∧ Below w.heap.size w w' := by
  have HPs := keep (parse_any s hs w ht)
  have HWf := keep (parse_wf s.data.toList)
  generalize parseT s.data.toList = pt at *
  obtain ⟨f, e⟩ := pt
  dsimp only at HPs HWf
  clear ht
  go_enter Tryd.func3, Tryd.ntmps3
  go_wp2_with fail
  refine HPs.out.mono ?_
  rintro r w2 ⟨v1, v2, v3, rfl, hx2, hb2⟩
  obtain ⟨⟨p1, n1, c1, rfl⟩, ⟨p2, n2, c2, rfl⟩, p3, n3, c3, rfl⟩ := hx2.slices
  obtain ⟨w3, hw3⟩ : ∃ w3, w2.alloc (.cells #[.slice p1 n1 c1, .slice p2 n2 c2, .slice p3 n3 c3] 25) = w3 := ⟨_, rfl⟩
  have hb3 : Below w2.heap.size w2 w3 := by rw [← hw3]; exact (Below.refl _ _).alloc (Nat.le_refl _) _
  have HB3 := keep (hb2.trans (hb3.mono hb2.size))
  have HF3 : Hid (Bk w3 w2.heap.size [.slice p1 n1 c1, .slice p2 n2 c2, .slice p3 n3 c3] 25) := by
    show Bk _ _ _ _
    rw [← hw3]; exact Bk.new _ _ _
  have HIs : Hid (FnIs w3 w3.heap.size 10 11 f (.agg #[.slice p1 n1 c1, .slice p2 n2 c2, .slice p3 n3 c3])) := FnX.fnIs (hx2.keep fun i a b => hb3.block i b) hb3.size
  have HSS : Hid (∀ W' : World, Below w3.heap.size w3 W' → (W'.cell? ⟨w2.heap.size, 0, none⟩ = some (.slice p1 n1 c1) ∧ W'.cell? ⟨w2.heap.size, 1, none⟩ = some (.slice p2 n2 c2) ∧ W'.cell? ⟨w2.heap.size, 2, none⟩ = some (.slice p3 n3 c3))) := fun W' hb => ⟨cell_old hb (HF3.out.cell 0 rfl) HF3.out.lt, cell_old hb (HF3.out.cell 1 rfl) HF3.out.lt, cell_old hb (HF3.out.cell 2 rfl) HF3.out.lt⟩
  have HC1 := keep (fun W (hW : Below w3.heap.size w3 W) => check_any w3.heap.size f _ _ _ W hW.size HWf.out (HIs.out.below hW))
  have HC2 := keep (fun W (hW : Below w3.heap.size w3 W) => kcheck_any w3.heap.size f _ _ _ W hW.size HWf.out (HIs.out.below hW))
  generalize checkK f = x at *
  have HW3 := keep hw3
  clear hx2 hb2 hb3 hw3 HPs HIs HF3 HWf
  by_cases he : e = 0
  · subst he
    go_wp2_with (first | rw [HW3.out])
    refine wp_region_noPanic ?_
    refine Ord.wpM_begin (fun W' : World => W'.cell? ⟨w2.heap.size, 0, none⟩ = some (.slice p1 n1 c1) ∧ W'.cell? ⟨w2.heap.size, 1, none⟩ = some (.slice p2 n2 c2) ∧ W'.cell? ⟨w2.heap.size, 2, none⟩ = some (.slice p3 n3 c3)) [0, 1, 2, 3, 4, 5, 6, 7, 8, 9] (by kernel_rfl) ?_
    have HB4 : Hid (Below w3.heap.size w3 w3.drew) := Below.drew (Below.refl _ _)
    generalize w3.drew = w4 at *
    have hS := HSS.out w4 HB4.out
    refine Ord.wpM_take (i := 0) (v := .int .i64 0) (by simp only [List.getElem?_toArray, List.getElem?_cons_zero, List.getElem?_cons_succ]; rfl) (by kernel_rfl) (by kernel_rfl) (by kernel_rfl) (by kernel_rfl) (fun _ _ _ h => h) (Or.inl ⟨by rfl, by intro W' hW; obtain ⟨q0, q1, q2⟩ := hW; go_simp⟩) hS ?_
    try simp only [Act.put, List.setIfInBounds_toArray, List.set_cons_zero, List.set_cons_succ]
    refine Ord.wpM_take (i := 1) (v := .bool false) (by simp only [List.getElem?_toArray, List.getElem?_cons_zero, List.getElem?_cons_succ]; rfl) (by kernel_rfl) (by kernel_rfl) (by kernel_rfl) (by kernel_rfl) (fun _ _ _ h => h) (Or.inl ⟨by rfl, by intro W' hW; obtain ⟨q0, q1, q2⟩ := hW; go_simp⟩) hS ?_
    try simp only [Act.put, List.setIfInBounds_toArray, List.set_cons_zero, List.set_cons_succ]
    refine Ord.wpM_take (i := 2) (v := .bool false) (by simp only [List.getElem?_toArray, List.getElem?_cons_zero, List.getElem?_cons_succ]; rfl) (by kernel_rfl) (by kernel_rfl) (by kernel_rfl) (by kernel_rfl) (fun _ _ _ h => h) (Or.inl ⟨by rfl, by intro W' hW; obtain ⟨q0, q1, q2⟩ := hW; go_simp⟩) hS ?_
    try simp only [Act.put, List.setIfInBounds_toArray, List.set_cons_zero, List.set_cons_succ]
    refine Ord.wpM_take (i := 3) (v := .agg #[.slice p1 n1 c1, .slice p2 n2 c2, .slice p3 n3 c3]) (by simp only [List.getElem?_toArray, List.getElem?_cons_zero, List.getElem?_cons_succ]; rfl) (by kernel_rfl) (by kernel_rfl) (by kernel_rfl) (by kernel_rfl) (fun _ _ _ h => h) (Or.inl ⟨by rfl, by intro W' hW; obtain ⟨q0, q1, q2⟩ := hW; go_simp⟩) hS ?_
    try simp only [Act.put, List.setIfInBounds_toArray, List.set_cons_zero, List.set_cons_succ]
    refine Ord.wpM_take (i := 5) (v := .agg #[.slice p1 n1 c1, .slice p2 n2 c2, .slice p3 n3 c3]) (by simp only [List.getElem?_toArray, List.getElem?_cons_zero, List.getElem?_cons_succ]; rfl) (by kernel_rfl) (by kernel_rfl) (by kernel_rfl) (by kernel_rfl) (fun _ _ _ h => h) (Or.inl ⟨by rfl, by intro W' hW; obtain ⟨q0, q1, q2⟩ := hW; go_simp⟩) hS ?_
    try simp only [Act.put, List.setIfInBounds_toArray, List.set_cons_zero, List.set_cons_succ]
    refine Ord.wpM_one (i := 4) (by kernel_rfl) (by simp only [List.getElem?_toArray, List.getElem?_cons_zero, List.getElem?_cons_succ]; rfl) (fun K hK => ?_)
    go_simp
    refine (HC1.out w4 HB4.out).mono ?_
    rintro r w5 ⟨rfl, hb5⟩
    have HB5 := keep (HB4.out.trans (hb5.mono HB4.out.size))
    clear hb5 hS
    go_simp
    refine hK.out _ _ (fun _ => HSS.out _ HB5.out) ?_
    clear hK K
    try simp only [Act.put, List.setIfInBounds_toArray, List.set_cons_zero, List.set_cons_succ]
    refine Ord.wpM_one (i := 6) (by kernel_rfl) (by simp only [List.getElem?_toArray, List.getElem?_cons_zero, List.getElem?_cons_succ]; rfl) (fun K hK => ?_)
    go_simp
    refine (HC2.out w5 HB5.out).mono ?_
    rintro r w6 ⟨rfl, hb6⟩
    have HB6 := keep (HB5.out.trans (hb6.mono HB5.out.size))
    clear hb6
    go_simp
    refine hK.out _ _ (fun _ => HSS.out _ HB6.out) ?_
    clear hK K
    try simp only [Act.put, List.setIfInBounds_toArray, List.set_cons_zero, List.set_cons_succ]
    have hS := HSS.out w6 HB6.out
    refine Ord.wpM_take (i := 7) (v := .bool true) (by simp only [List.getElem?_toArray, List.getElem?_cons_zero, List.getElem?_cons_succ]; rfl) (by kernel_rfl) (by kernel_rfl) (by kernel_rfl) (by kernel_rfl) (fun _ _ _ h => h) (Or.inl ⟨by rfl, by intro W' hW; obtain ⟨q0, q1, q2⟩ := hW; go_simp⟩) hS ?_
    try simp only [Act.put, List.setIfInBounds_toArray, List.set_cons_zero, List.set_cons_succ]
    refine Ord.wpM_take (i := 8) (v := .bool true) (by simp only [List.getElem?_toArray, List.getElem?_cons_zero, List.getElem?_cons_succ]; rfl) (by kernel_rfl) (by kernel_rfl) (by kernel_rfl) (by kernel_rfl) (fun _ _ _ h => h) (Or.inl ⟨by rfl, by intro W' hW; obtain ⟨q0, q1, q2⟩ := hW; go_simp⟩) hS ?_
    try simp only [Act.put, List.setIfInBounds_toArray, List.set_cons_zero, List.set_cons_succ]
    refine Ord.wpM_one (i := 9) (by kernel_rfl) (by simp only [List.getElem?_toArray, List.getElem?_cons_zero, List.getElem?_cons_succ]; rfl) (fun K hK => ?_)
    go_simp
    refine hK.out _ _ (fun _ => HSS.out _ HB6.out) ?_
    clear hK K
    try simp only [Act.put, List.setIfInBounds_toArray, List.set_cons_zero, List.set_cons_succ]
    refine Ord.wpM_done (by kernel_rfl) ?_ _
    refine NoPanic.normal ?_
    clear hS HSS HC1 HC2
    go_wp2
    go_ret
    exact ⟨rfl, HB3.out.trans (HB6.out.mono HB3.out.size)⟩
  · have d : (e != 0) = true := by simpa using he
    clear he HC1 HC2
    go_wp2_with (first | rw [HW3.out])
    refine wp_region_noPanic ?_
    refine Ord.wpM_begin (fun W' : World => W'.cell? ⟨w2.heap.size, 0, none⟩ = some (.slice p1 n1 c1) ∧ W'.cell? ⟨w2.heap.size, 1, none⟩ = some (.slice p2 n2 c2) ∧ W'.cell? ⟨w2.heap.size, 2, none⟩ = some (.slice p3 n3 c3)) [0, 1, 2, 3, 4, 5, 6, 7, 8, 9] (by kernel_rfl) ?_
    have HB4 : Hid (Below w3.heap.size w3 w3.drew) := Below.drew (Below.refl _ _)
    generalize w3.drew = w4 at *
    have hS := HSS.out w4 HB4.out
    refine Ord.wpM_take (i := 0) (v := .int .i64 e) (by simp only [List.getElem?_toArray, List.getElem?_cons_zero, List.getElem?_cons_succ]; rfl) (by kernel_rfl) (by kernel_rfl) (by kernel_rfl) (by kernel_rfl) (fun _ _ _ h => h) (Or.inl ⟨by rfl, by intro W' hW; obtain ⟨q0, q1, q2⟩ := hW; go_simp⟩) hS ?_
    try simp only [Act.put, List.setIfInBounds_toArray, List.set_cons_zero, List.set_cons_succ]
    refine Ord.wpM_take (i := 1) (v := .bool true) (by simp only [List.getElem?_toArray, List.getElem?_cons_zero, List.getElem?_cons_succ]; rfl) (by kernel_rfl) (by kernel_rfl) (by kernel_rfl) (by kernel_rfl) (fun _ _ _ h => h) (Or.inl ⟨by rfl, by intro W' hW; obtain ⟨q0, q1, q2⟩ := hW; go_simp⟩) hS ?_
    try simp only [Act.put, List.setIfInBounds_toArray, List.set_cons_zero, List.set_cons_succ]
    refine Ord.wpM_take (i := 2) (v := .bool true) (by simp only [List.getElem?_toArray, List.getElem?_cons_zero, List.getElem?_cons_succ]; rfl) (by kernel_rfl) (by kernel_rfl) (by kernel_rfl) (by kernel_rfl) (fun _ _ _ h => h) (Or.inl ⟨by rfl, by intro W' hW; obtain ⟨q0, q1, q2⟩ := hW; go_simp⟩) hS ?_
    try simp only [Act.put, List.setIfInBounds_toArray, List.set_cons_zero, List.set_cons_succ]
    refine Ord.wpM_take (i := 3) (v := undef) (by simp only [List.getElem?_toArray, List.getElem?_cons_zero, List.getElem?_cons_succ]; rfl) (by kernel_rfl) (by kernel_rfl) (by kernel_rfl) (by kernel_rfl) (fun _ _ _ h => h) (Or.inr ⟨by rfl, rfl⟩) hS ?_
    try simp only [Act.put, List.setIfInBounds_toArray, List.set_cons_zero, List.set_cons_succ]
    refine Ord.wpM_take (i := 4) (v := undef) (by simp only [List.getElem?_toArray, List.getElem?_cons_zero, List.getElem?_cons_succ]; rfl) (by kernel_rfl) (by kernel_rfl) (by kernel_rfl) (by kernel_rfl) (fun _ _ _ h => h) (Or.inr ⟨by rfl, rfl⟩) hS ?_
    try simp only [Act.put, List.setIfInBounds_toArray, List.set_cons_zero, List.set_cons_succ]
    refine Ord.wpM_take (i := 5) (v := undef) (by simp only [List.getElem?_toArray, List.getElem?_cons_zero, List.getElem?_cons_succ]; rfl) (by kernel_rfl) (by kernel_rfl) (by kernel_rfl) (by kernel_rfl) (fun _ _ _ h => h) (Or.inr ⟨by rfl, rfl⟩) hS ?_
    try simp only [Act.put, List.setIfInBounds_toArray, List.set_cons_zero, List.set_cons_succ]
    refine Ord.wpM_take (i := 6) (v := undef) (by simp only [List.getElem?_toArray, List.getElem?_cons_zero, List.getElem?_cons_succ]; rfl) (by kernel_rfl) (by kernel_rfl) (by kernel_rfl) (by kernel_rfl) (fun _ _ _ h => h) (Or.inr ⟨by rfl, rfl⟩) hS ?_
    try simp only [Act.put, List.setIfInBounds_toArray, List.set_cons_zero, List.set_cons_succ]
    refine Ord.wpM_take (i := 7) (v := undef) (by simp only [List.getElem?_toArray, List.getElem?_cons_zero, List.getElem?_cons_succ]; rfl) (by kernel_rfl) (by kernel_rfl) (by kernel_rfl) (by kernel_rfl) (fun _ _ _ h => h) (Or.inr ⟨by rfl, rfl⟩) hS ?_
    try simp only [Act.put, List.setIfInBounds_toArray, List.set_cons_zero, List.set_cons_succ]
    refine Ord.wpM_take (i := 8) (v := .bool true) (by simp only [List.getElem?_toArray, List.getElem?_cons_zero, List.getElem?_cons_succ]; rfl) (by kernel_rfl) (by kernel_rfl) (by kernel_rfl) (by kernel_rfl) (fun _ _ _ h => h) (Or.inl ⟨by rfl, by intro W' hW; obtain ⟨q0, q1, q2⟩ := hW; go_simp⟩) hS ?_
    try simp only [Act.put, List.setIfInBounds_toArray, List.set_cons_zero, List.set_cons_succ]
    refine Ord.wpM_one (i := 9) (by kernel_rfl) (by simp only [List.getElem?_toArray, List.getElem?_cons_zero, List.getElem?_cons_succ]; rfl) (fun K hK => ?_)
    go_simp
    refine hK.out _ _ (fun _ => HSS.out _ HB4.out) ?_
    clear hK K
    try simp only [Act.put, List.setIfInBounds_toArray, List.set_cons_zero, List.set_cons_succ]
    refine Ord.wpM_done (by kernel_rfl) ?_ _
    refine NoPanic.normal ?_
    clear hS HSS
    go_wp2
    go_ret
    exact ⟨rfl, HB3.out.trans (HB4.out.mono HB3.out.size)⟩
end Go.Proofs.YtemdnmfldihalaaDoor.Lr
