/- Statements, all made public: the walk. Written by tools/gen_vall.py. -/
import Derived.Test.YtemdnmfldihalaaDoorLvPubl
namespace Go.Proofs.YtemdnmfldihalaaDoor.Ord
set_option linter.unusedVariables false
/-- Where nothing was asked of the world, something may be asked of it from here on. -/
theorem wpM_turn {P : Program} {md : Region.Mode} {ops : Array Oper} {Q : Exit → Act → World → Prop} {L0 : List Nat} (S : World → Prop) (L : List Nat) : ∀ {n : Nat} {d : Array Bool} {a : Act} {w : World}, wpM P md ops Q S L n d a w → wpM P md ops Q (fun _ => True) L0 n d a w
  | 0, _, _, _, h => h
  | n + 1, _, _, _, h => ⟨h.1, fun i hi => wpOp_mono (fun a' w' k => ⟨fun _ => trivial, wpM_turn S L k.2⟩) (h.2 i hi)⟩
end Go.Proofs.YtemdnmfldihalaaDoor.Ord
namespace Go.Proofs.YtemdnmfldihalaaDoor.Lr
set_option linter.unusedVariables false
set_option linter.unusedSimpArgs false
open Go.ChangeShapes Go.WideShapes Go.ChangeAt Go.RowKit Lg Rf

set_option maxHeartbeats 16000000 in
set_option maxRecDepth 100000 in
theorem all_succ (m : Nat) (ih : AllOK m) : AllOK (m + 1) := by
  intro K B l sl w hK hB hwf hsm hll hi
  obtain ⟨D, rfl⟩ : ∃ D, K = D + 1 := ⟨K - 1, by omega⟩
  obtain ⟨p, n, cap, rfl, hn, hc, hm, hat⟩ := hi
  subst hn
  obtain ⟨i0, hi0, j0, j1, j2⟩ := info_parts infoS
  have HAt := keep hat
  have Hih := keep ih
  have Hwf := keep hwf
  have Hsm := keep hsm
  clear hat ih hwf hsm
  go_enter Tryd.func11, Tryd.ntmps11
  go_wp2
  go_loopw [10, 5] (fun i v wx => ∃ (k : Nat) (es : List (St × Value × Value × Value)), k ≤ l.length ∧ i = .int .i64 (k : Int) ∧ RowP B (D + 1) wx w.heap.size v es ∧ es.map (·.1) = (l.take k).map (pubS (m + 1)) ∧ Below w.heap.size w wx) (fun i _ _ => l.length - (intOf i).toNat)
  case atStart => exact ⟨0, [], by omega, rfl, RowP.nil _ _ _ _, rfl, Below.refl _ _⟩
  case round =>
    obtain ⟨k, es, hkn, rfl, hrow, hes, hbx⟩ := hrel
    have HR := keep hrow
    have HX := keep hbx
    have HEs := keep hes
    have hnk : es.length = min k l.length := by
      have := congrArg List.length hes
      rw [List.length_map, List.length_map, List.length_take] at this
      exact this
    have HNk := keep hnk
    have hne : es.length ≤ 2500 := by omega
    clear hrow hbx hes hnk
    obtain ⟨pr, nr, cr, rfl⟩ := RowX.slice HR.out.row
    have hnr := RowX.len HR.out.row
    subst hnr
    by_cases hkl : k < l.length
    · have d1 : decide ((k : Int) < (l.length : Int)) = true := decide_eq_true (by omega)
      have hkz : (k : Int) < (l.length : Int) := by omega
      have hk0 : (0 : Int) ≤ (k : Int) := by omega
      obtain ⟨t, ht⟩ : ∃ t, l[k]? = some t := ⟨_, List.getElem?_eq_getElem hkl⟩
      obtain ⟨g, o, s1, s2, s3, rfl, hg, hat, he1, hs2, hs3⟩ := HAt.out k t ht
      have hbo := HX.out.mono hB
      have hat := hat.below hbo hg
      have he1 := he1.below hbo
      have hs2 := hs2.below hbo
      have hs3 := hs3.below hbo
      obtain ⟨p1, n1, k1, rfl⟩ := he1.slice
      obtain ⟨p2, n2, k2, rfl⟩ := hs2.slice
      obtain ⟨p3, n3, k3, rfl⟩ := hs3.slice
      have a0 := hat.c0
      have a1 := hat.c1
      have a2 := hat.c2
      have a3 := hat.c3
      have a4 := hat.c4
      have a5 := hat.c5
      have a6 := hat.c6
      have HWt := keep (wfS_thn (Hwf.out t (List.mem_of_getElem? ht)))
      have HSm := keep (Hsm.out t (List.mem_of_getElem? ht))
      have HStep := keep (take_pubS (m := m + 1) ht)
      obtain ⟨tk, tn, tx, tsec, ta, tth, tel⟩ := t
      simp only at a0 a1 a2 a3 a4 a5 a6 he1 hs2 hs3 HWt
      obtain ⟨w3, hw3⟩ : ∃ w3, wr.alloc (.cells #[.int .i64 tk, .int .i64 tn, .string ⟨tx.toArray⟩, .bool false, .slice p1 n1 k1, .slice p2 n2 k2, .slice p3 n3 k3] 67) = w3 := ⟨_, rfl⟩
      have hb3 : Below wr.heap.size wr w3 := by rw [← hw3]; exact (Below.refl _ _).alloc (Nat.le_refl _) _
      have HB3 := keep hb3
      have hBr : B ≤ wr.heap.size := Nat.le_trans hB HX.out.size
      have hlr : w.heap.size ≤ wr.heap.size := HX.out.size
      have HT3 : Hid (Bk w3 wr.heap.size [.int .i64 tk, .int .i64 tn, .string ⟨tx.toArray⟩, .bool false, .slice p1 n1 k1, .slice p2 n2 k2, .slice p3 n3 k3] 67) := by
        show Bk _ _ _ _
        rw [← hw3]; exact Bk.new wr _ _
      have HE1 := keep he1
      have HS2 := keep hs2
      have HS3 := keep hs3
      have HOwn := keep (fun i => (RowX.own HR.out.row).lt i)
      have HW3 := keep hw3
      obtain ⟨b1, hb1⟩ : ∃ b, (tk == 1) = b := ⟨_, rfl⟩
      clear ht hat hw3 hb3 hbo he1 hs2 hs3
      cases tsec <;> cases b1
      all_goals (
        go_wp2_with fail
        rw [HW3.out]
        clear a0 a1 a2 a3 a4 a5 a6 HW3 hb1
        refine wp_region_noPanic ?_
        refine Ord.wpM_begin (fun _ => True) [0, 1, 2, 3, 4, 5, 6, 7, 8, 9, 10, 11] (by kernel_rfl) ?_
        have HT4 : Hid (Bk w3.drew wr.heap.size [.int .i64 tk, .int .i64 tn, .string ⟨tx.toArray⟩, .bool false, .slice p1 n1 k1, .slice p2 n2 k2, .slice p3 n3 k3] 67) := HT3.out
        have HB4 : Hid (Below wr.heap.size wr w3.drew) := Below.drew HB3.out
        generalize w3.drew = w4 at *
        have hS : (fun W' : World => W'.cell? ⟨wr.heap.size, 5, none⟩ = some (.slice p2 n2 k2) ∧ W'.cell? ⟨wr.heap.size, 6, none⟩ = some (.slice p3 n3 k3)) w4 := ⟨HT4.out.cell 5 rfl, HT4.out.cell 6 rfl⟩
        refine Ord.wpM_take (i := 0) (v := .pointer (some ⟨wr.heap.size, 5, none⟩)) (by simp only [List.getElem?_toArray, List.getElem?_cons_zero, List.getElem?_cons_succ]; rfl) (by kernel_rfl) (by kernel_rfl) (by kernel_rfl) (by kernel_rfl) (fun _ _ _ h => h) (Or.inl ⟨by rfl, by intro W' _; go_simp⟩) trivial ?_
        try simp only [Act.put, List.setIfInBounds_toArray, List.set_cons_zero, List.set_cons_succ]
        refine Ord.wpM_take (i := 2) (v := .bool false) (by simp only [List.getElem?_toArray, List.getElem?_cons_zero, List.getElem?_cons_succ]; rfl) (by kernel_rfl) (by kernel_rfl) (by kernel_rfl) (by kernel_rfl) (fun _ _ _ h => h) (Or.inl ⟨by rfl, by intro W' _; go_simp⟩) trivial ?_
        try simp only [Act.put, List.setIfInBounds_toArray, List.set_cons_zero, List.set_cons_succ]
        refine Ord.wpM_take (i := 4) (v := .pointer (some ⟨wr.heap.size, 6, none⟩)) (by simp only [List.getElem?_toArray, List.getElem?_cons_zero, List.getElem?_cons_succ]; rfl) (by kernel_rfl) (by kernel_rfl) (by kernel_rfl) (by kernel_rfl) (fun _ _ _ h => h) (Or.inl ⟨by rfl, by intro W' _; go_simp⟩) trivial ?_
        try simp only [Act.put, List.setIfInBounds_toArray, List.set_cons_zero, List.set_cons_succ]
        refine Ord.wpM_take (i := 6) (v := .bool false) (by simp only [List.getElem?_toArray, List.getElem?_cons_zero, List.getElem?_cons_succ]; rfl) (by kernel_rfl) (by kernel_rfl) (by kernel_rfl) (by kernel_rfl) (fun _ _ _ h => h) (Or.inl ⟨by rfl, by intro W' _; go_simp⟩) trivial ?_
        try simp only [Act.put, List.setIfInBounds_toArray, List.set_cons_zero, List.set_cons_succ]
        refine Ord.wpM_turn (fun W' : World => W'.cell? ⟨wr.heap.size, 5, none⟩ = some (.slice p2 n2 k2) ∧ W'.cell? ⟨wr.heap.size, 6, none⟩ = some (.slice p3 n3 k3)) [1, 3, 5, 7] ?_
        refine Ord.wpM_take (i := 1) (v := .slice p2 n2 k2) (by simp only [List.getElem?_toArray, List.getElem?_cons_zero, List.getElem?_cons_succ]; rfl) (by kernel_rfl) (by kernel_rfl) (by kernel_rfl) (by kernel_rfl) (fun _ _ _ h => h) (Or.inl ⟨by rfl, by intro W' hW; obtain ⟨q0, q1⟩ := hW; go_simp⟩) hS ?_
        try simp only [Act.put, List.setIfInBounds_toArray, List.set_cons_zero, List.set_cons_succ]
        refine Ord.wpM_take (i := 5) (v := .slice p3 n3 k3) (by simp only [List.getElem?_toArray, List.getElem?_cons_zero, List.getElem?_cons_succ]; rfl) (by kernel_rfl) (by kernel_rfl) (by kernel_rfl) (by kernel_rfl) (fun _ _ _ h => h) (Or.inl ⟨by rfl, by intro W' hW; obtain ⟨q0, q1⟩ := hW; go_simp⟩) hS ?_
        try simp only [Act.put, List.setIfInBounds_toArray, List.set_cons_zero, List.set_cons_succ]
        refine Ord.wpM_one (i := 3) (by kernel_rfl) (by simp only [List.getElem?_toArray, List.getElem?_cons_zero, List.getElem?_cons_succ]; rfl) (fun K hK => ?_)
        go_simp
        refine (Hih.out D B tth (.slice p2 n2 k2) w4 (by omega) (Nat.le_trans hBr HB4.out.size) HWt.out.1 HSm.out.2.2.1 HSm.out.1 (HS2.out.below (HB4.out.mono hBr))).mono ?_
        rintro r w5 ⟨v5, rfl, hpw5, hbw5⟩
        obtain ⟨qw5, mw5, ew5, rfl⟩ := hpw5.slice
        have HP5 := keep hpw5
        have HBa := keep hbw5
        have HB5 := keep (HB4.out.trans (hbw5.mono HB4.out.size))
        have HT5 := keep (HT4.out.fs (Fs.of_below (l := []) hbw5) (by simp))
        clear hpw5 hbw5 hS
        go_simp
        refine hK.out _ _ (fun _ => ⟨HT5.out.cell 5 rfl, HT5.out.cell 6 rfl⟩) ?_
        clear hK K
        try simp only [Act.put, List.setIfInBounds_toArray, List.set_cons_zero, List.set_cons_succ]
        have hS : (fun W' : World => W'.cell? ⟨wr.heap.size, 5, none⟩ = some (.slice p2 n2 k2) ∧ W'.cell? ⟨wr.heap.size, 6, none⟩ = some (.slice p3 n3 k3)) w5 := ⟨HT5.out.cell 5 rfl, HT5.out.cell 6 rfl⟩
        refine Ord.wpM_take (i := 8) (v := .pointer (some ⟨wr.heap.size, 5, none⟩)) (by simp only [List.getElem?_toArray, List.getElem?_cons_zero, List.getElem?_cons_succ]; rfl) (by kernel_rfl) (by kernel_rfl) (by kernel_rfl) (by kernel_rfl) (fun _ _ _ h => h) (Or.inl ⟨by rfl, by intro W' hW; obtain ⟨q0, q1⟩ := hW; go_simp⟩) hS ?_
        try simp only [Act.put, List.setIfInBounds_toArray, List.set_cons_zero, List.set_cons_succ]
        refine Ord.wpM_one (i := 7) (by kernel_rfl) (by simp only [List.getElem?_toArray, List.getElem?_cons_zero, List.getElem?_cons_succ]; rfl) (fun K hK => ?_)
        go_simp
        refine (Hih.out D B tel (.slice p3 n3 k3) w5 (by omega) (Nat.le_trans hBr HB5.out.size) HWt.out.2 HSm.out.2.2.2 HSm.out.2.1 (HS3.out.below (HB5.out.mono hBr))).mono ?_
        rintro r w6 ⟨v6, rfl, hpw6, hbw6⟩
        obtain ⟨qw6, mw6, ew6, rfl⟩ := hpw6.slice
        have HP6 := keep hpw6
        have HBb := keep hbw6
        have HB6 := keep (HB5.out.trans (hbw6.mono HB5.out.size))
        have HT6 := keep (HT5.out.fs (Fs.of_below (l := []) hbw6) (by simp))
        clear hpw6 hbw6 hS
        go_simp
        refine hK.out _ _ (fun _ => ⟨HT6.out.cell 5 rfl, HT6.out.cell 6 rfl⟩) ?_
        clear hK K
        try simp only [Act.put, List.setIfInBounds_toArray, List.set_cons_zero, List.set_cons_succ]
        have HT7 := keep (HT6.out.set 5 (.slice qw5 mw5 ew5))
        have HT8 := keep (HT7.out.set 6 (.slice qw6 mw6 ew6))
        have c5 := HT6.out.cell 5 rfl
        have f5 := HT6.out.fr 5
        have c6 := HT7.out.cell 6 rfl
        have f6 := HT7.out.fr 6
        refine Ord.wpM_one (i := 9) (by kernel_rfl) (by simp only [List.getElem?_toArray, List.getElem?_cons_zero, List.getElem?_cons_succ]; rfl) (fun K hK => ?_)
        go_simp
        refine hK.out _ _ (fun h => absurd h (by decide)) ?_
        clear hK K
        try simp only [Act.put, List.setIfInBounds_toArray, List.set_cons_zero, List.set_cons_succ]
        refine Ord.wpM_one (i := 10) (by kernel_rfl) (by simp only [List.getElem?_toArray, List.getElem?_cons_zero, List.getElem?_cons_succ]; rfl) (fun K hK => ?_)
        go_simp
        refine hK.out _ _ (fun h => absurd h (by decide)) ?_
        clear hK K
        try simp only [Act.put, List.setIfInBounds_toArray, List.set_cons_zero, List.set_cons_succ]
        refine Ord.wpM_one (i := 11) (by kernel_rfl) (by simp only [List.getElem?_toArray, List.getElem?_cons_zero, List.getElem?_cons_succ]; rfl) (fun K hK => ?_)
        go_simp
        refine hK.out _ _ (fun h => absurd h (by decide)) ?_
        clear hK K
        try simp only [Act.put, List.setIfInBounds_toArray, List.set_cons_zero, List.set_cons_succ]
        refine Ord.wpM_done (by kernel_rfl) ?_ _
        refine NoPanic.normal ?_
        obtain ⟨w8, hw8⟩ : ∃ w8, (w6.setCell ⟨wr.heap.size, 5, none⟩ (.slice qw5 mw5 ew5)).setCell ⟨wr.heap.size, 6, none⟩ (.slice qw6 mw6 ew6) = w8 := ⟨_, rfl⟩
        have hk8 : ∀ i, i ≠ wr.heap.size → w8.heap[i]? = w6.heap[i]? := fun i hi => by rw [← hw8, Below.heap_setCell _ _ _ _ hi, Below.heap_setCell _ _ _ _ hi]
        have hz8 : w8.heap.size = w6.heap.size := by rw [← hw8]; simp [World.setCell]
        have hb8 : Below wr.heap.size wr w8 := by rw [← hw8]; exact (HB6.out.setCell (Nat.le_refl _) _).setCell (Nat.le_refl _) _
        have HTz : Hid (Bk w8 wr.heap.size [.int .i64 tk, .int .i64 tn, .string ⟨tx.toArray⟩, .bool false, .slice p1 n1 k1, .slice qw5 mw5 ew5, .slice qw6 mw6 ew6] 67) := by
          show Bk _ _ _ _
          rw [← hw8]; exact HT8.out
        have hz4 : wr.heap.size < w4.heap.size := HT4.out.lt
        have hz45 : w4.heap.size ≤ w5.heap.size := HBa.out.size
        have hz56 : w5.heap.size ≤ w6.heap.size := HBb.out.size
        have HRz := keep (HR.out.below hBr hb8)
        have HNp : Hid (nestP B (D + 1) w8 (In w.heap.size (.slice pr es.length cr) w8) (⟨tk, tn, tx, false, ta, tth.map (pubS m), tel.map (pubS m)⟩, .slice p1 n1 k1, .slice qw5 mw5 ew5, .slice qw6 mw6 ew6)) := by
          refine ⟨HE1.out.keepB fun i hi => hb8.block i (by omega), ?_, ?_⟩
          · refine StP.mono (fun i hi => ⟨by have := hi.1; omega, by have := hi.2; omega, fun e => by have := (HOwn.out i e).2; have := hi.1; omega⟩) (StP.keep (fun i hi => (hk8 i (by omega)).trans (HBb.out.block i (by omega))) (fun i hi => (hk8 i (by have := hi.1; omega)).trans (HBb.out.block i hi.2)) HP5.out)
          · exact StP.mono (fun i hi => ⟨by have := hi.1; omega, by have := hi.2; omega, fun e => by have := (HOwn.out i e).2; have := hi.1; omega⟩) (StP.keep (fun i hi => hk8 i (by omega)) (fun i hi => hk8 i (by have := hi.1; omega)) HP6.out)
        have HBz := keep (HX.out.trans (hb8.mono hlr))
        have hown := (RowX.own HRz.out.row).alloc (.cells #[.int .i64 tk, .int .i64 tn, .string ⟨tx.toArray⟩, .bool false, .slice p1 n1 k1, .slice qw5 mw5 ew5, .slice qw6 mw6 ew6] 67)
        have HOne : Hid (∀ u ∈ cellsS (⟨tk, tn, tx, false, ta, tth.map (pubS m), tel.map (pubS m)⟩, .slice p1 n1 k1, .slice qw5 mw5 ew5, .slice qw6 mw6 ew6), u.oneCell' = true) := fun u hu => by
          simp only [cellsS, List.mem_cons, List.not_mem_nil, or_false] at hu
          rcases hu with rfl | rfl | rfl | rfl | rfl | rfl | rfl <;> rfl
        have HW8 := keep hw8
        have HZ8 := keep hz8
        have hzw8 : w.heap.size ≤ w8.heap.size := by omega
        clear hw8 hz8 hk8 HT3 HT4 HT5 HT6 HT7 HT8 c5 f5 c6 f6 HB4 HB5 HB6 HBa HBb HP5 HP6 hb8
        go_wp2_with (first
          | rw [HW8.out]
          | refine wpList_load_row rfl 67 (.tmp 7) rfl wr.heap.size rfl 67 #[.int .i64 tk, .int .i64 tn, .string ⟨tx.toArray⟩, .bool false, .slice p1 n1 k1, .slice qw5 mw5 ew5, .slice qw6 mw6 ew6] (0, 0) _ HTz.out Tryd.underlying67 rfl (info_S [.int .i64 tk, .int .i64 tn, .string ⟨tx.toArray⟩, .bool false, .slice p1 n1 k1, .slice qw5 mw5 ew5, .slice qw6 mw6 ew6] rfl) ?_
          | (at_builtin; refine wpList_append_lies _ rfl (.tmp 38) (.tmp 40) 23 rfl w.heap.size 67 i0 _ 7 112 Tryd.underlying23 hi0 j0 j1 j2 rfl (by decide) (.slice pr es.length cr) es.length (es.flatMap cellsS) rfl hown ⟨w8.heap.size, 0, none⟩ 1 1 (cellsS (⟨tk, tn, tx, false, ta, tth.map (pubS m), tel.map (pubS m)⟩, .slice p1 n1 k1, .slice qw5 mw5 ew5, .slice qw6 mw6 ew6)) rfl rfl (fun j u hj => new_cell w8 _ _ j u hj) HOne.out (by decide) (by unfold maxLen; omega) (by omega) (by simp; omega) (w8.heap.size + 1) (by simp) ?_))
        intro gq cq w9 hown2 hgrow hat hlt
        have hz8 := HZ8.out
        have hba : Below w8.heap.size w8 (w8.alloc (.cells #[.int .i64 tk, .int .i64 tn, .string ⟨tx.toArray⟩, .bool false, .slice p1 n1 k1, .slice qw5 mw5 ew5, .slice qw6 mw6 ew6] 67)) := (Below.refl _ _).alloc (Nat.le_refl _) _
        have HR9 := keep (RowP.push hB (by simp; omega) (HRz.out.below (by omega) hba) (by
          obtain ⟨q1, q2, q3⟩ := HNp.out
          have hm : ∀ i, In w.heap.size (.slice pr es.length cr) w8 i → In w.heap.size (.slice pr es.length cr) (w8.alloc (.cells #[.int .i64 tk, .int .i64 tn, .string ⟨tx.toArray⟩, .bool false, .slice p1 n1 k1, .slice qw5 mw5 ew5, .slice qw6 mw6 ew6] 67)) i := fun i hi => ⟨hi.1, Nat.lt_of_lt_of_le hi.2.1 hba.size, hi.2.2⟩
          exact ⟨q1.keepB fun i hi => hba.block i (by omega), StP.mono hm (StP.keep (fun i hi => hba.block i (by omega)) (fun i hi => hba.block i hi.2.1) q2), StP.mono hm (StP.keep (fun i hi => hba.block i (by omega)) (fun i hi => hba.block i hi.2.1) q3)⟩) hown2 hgrow (hat.imp id (fun e => by simp; omega)))
        have HB9 : Hid (Below w.heap.size w w9) := HBz.out.trans ⟨hgrow.os, hgrow.tape, hgrow.output, by have := hgrow.size; simp at this; omega, fun i hi => (hgrow.block i (by simp; omega) (fun e => by have := (HOwn.out i e.symm).1; omega)).trans (hba.block i (by omega))⟩
        have HEs9 : Hid ((es ++ [((⟨tk, tn, tx, false, ta, tth.map (pubS m), tel.map (pubS m)⟩, .slice p1 n1 k1, .slice qw5 mw5 ew5, .slice qw6 mw6 ew6) : St × Value × Value × Value)]).map (fun p => p.1) = (l.take (k + 1)).map (pubS (m + 1))) := by
          show _ = _
          rw [List.map_append, HEs.out, HStep.out]; rfl
        clear hown2 hgrow hat hlt hown hba HStep HNp HRz
        go_wp2
        go_roundw
        case rel => exact ⟨k + 1, _, by omega, by go_num, HR9.out, HEs9.out, HB9.out⟩
        case measure => simp [intOf]; omega)
    · have hke : k = l.length := by omega
      subst hke
      have dl : decide ((l.length : Int) < (l.length : Int)) = false := decide_eq_false (by omega)
      have HE : Hid (StP wr B (New w wr) (D + 1 + 1) (l.map (pubS (m + 1))) (.slice pr es.length cr)) := by
        have h := HR.out.fin (by omega)
        rw [HEs.out, List.take_length] at h
        exact h
      clear hkl
      go_wp2
      go_ret
      exact ⟨_, rfl, HE.out, HX.out⟩
theorem all_ok : ∀ m, AllOK m
  | 0 => fun K B l sl w hK hB hwf hsm hll hi => by
    have hl : l = [] := by
      cases l with
      | nil => rfl
      | cons t r => exact (hwf t (by simp)).elim
    subst hl
    obtain ⟨p, n, cap, rfl, hn, hc, hm, hat⟩ := hi
    have hn' : 0 = n := hn
    subst hn'
    have hn0 : ((0 : Nat) : Int) = 0 := rfl
    clear hat hn hwf hsm hll
    go_enter Tryd.func11, Tryd.ntmps11
    go_wp2
    go_loopw [10, 5] (fun i v wx => i = .int .i64 0 ∧ v = .slice none 0 0 ∧ w = wx) (fun i _ _ => 0)
    case atStart => exact ⟨rfl, rfl, rfl⟩
    case round =>
      obtain ⟨rfl, rfl, rfl⟩ := hrel
      go_wp2
      go_ret
      exact ⟨_, rfl, .inl ⟨rfl, rfl⟩, Below.refl _ _⟩
  | m + 1 => all_succ m (all_ok m)
end Go.Proofs.YtemdnmfldihalaaDoor.Lr
