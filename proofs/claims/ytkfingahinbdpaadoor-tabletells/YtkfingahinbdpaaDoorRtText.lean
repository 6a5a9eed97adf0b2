/- What the document's own TableText answers, for whatever table. -/
import Derived.Test.YtkfingahinbdpaaDoorRtOps
import Derived.Deep.RegionWith
namespace Go.Proofs.YtkfingahinbdpaaDoor.Rt
set_option linter.unusedVariables false
open Go.ChangeShapes Go.WideShapes Go.ChangeAt Go.RowKit Tb

/-- A world in which all is as the loop wants it; draws do not matter. -/
def Well (w : World) (b : Nat) (wx : World) : Prop := ∃ v : World, (Tabs v ∧ NBlk v b ∧ Below w.heap.size w v) ∧ wx.heap = v.heap ∧ wx.os = v.os ∧ wx.tape = v.tape ∧ wx.output = v.output
theorem Well.mk {w : World} {b : Nat} {wx : World} (h1 : Tabs wx) (h2 : NBlk wx b) (h3 : Below w.heap.size w wx) : Well w b wx := ⟨wx, ⟨h1, h2, h3⟩, rfl, rfl, rfl, rfl⟩
theorem Well.out {w : World} {b : Nat} {wx : World} (h : Well w b wx) : Tabs wx ∧ NBlk wx b ∧ Below w.heap.size w wx := by
  obtain ⟨v, ⟨h1, h2, h3⟩, e1, e2, e3, e4⟩ := h
  have hb : Below v.heap.size v wx := ⟨e2, e3, e4, by rw [e1]; exact Nat.le_refl _, fun k _ => by rw [e1]⟩
  exact ⟨h1.below hb, by unfold NBlk; rw [e1]; exact h2, h3.trans (hb.mono h3.size)⟩
theorem Well.drew {w : World} {b : Nat} {wx : World} (h : Well w b wx) : Well w b wx.drew := h

theorem itoa_well {w : World} {b : Nat} (v : Int) (h : -9223372036854775808 ≤ v ∧ v ≤ 9223372036854775807) (W : World) (hW : Well w b W) :
    Calls Tryd.prog 17 #[.int .i64 v] W fun e w' => e = .returned (.string ⟨(Lib.itoa v).toArray⟩) ∧ Well w b w' := by
  obtain ⟨h1, h2, h3⟩ := hW.out
  refine (Tryd.strconv_Itoa v h.1 h.2 W h1.1).mono ?_
  rintro e w' ⟨rfl, j, os, rfl⟩
  have hb := Lib.below_grow W.heap.size W (Nat.le_refl _) j os
  exact ⟨rfl, .mk (h1.below hb) (blk_below h2 hb (blk_lt h2)) (h3.trans (hb.mono h3.size))⟩

theorem info_arr (t : Nat → Int) : (Tryd.prog.info? 22).map (·.size) = some (tabA t).size := by
  rw [show (tabA t).size = 18 from rfl]; kernel_rfl

theorem cat5 (X N D : List UInt8) : ({ data := X.toArray } ++ { data := N.toArray } ++ { data := #[32] } ++ { data := D.toArray } ++ { data := #[10] } : ByteArray) = ⟨(X ++ (N ++ 32 :: (D ++ [10]))).toArray⟩ := by
  apply ByteArray.ext
  simp [ByteArray.data_append]
theorem index_tab (t : Nat → Int) (k : Nat) (hk : k < 18) (W : World) : (Instr.index 22 (.agg (tabA t)) (.int .i64 (k : Int))).run Tryd.prog W = .ok (.int .i64 (t k)) W := by
  have h1 : (underlying 22).run Tryd.prog W = .ok _ W := run_underlying Tryd.underlying22 W
  have h2 : (sizeOf 3).run Tryd.prog W = .ok 1 W := Tryd.sizeOf3 W
  have h3 : (isAgg 3).run Tryd.prog W = .ok false W := Tryd.isAgg3 W
  have h4 := tabA_at t k hk
  have hk' : (0 : Int) ≤ (k : Int) ∧ (k : Int) < ((18 : Nat) : Int) := by omega
  simp only [Instr.index, asIntOf, Sem.run_bind, Sem.run_pure, Result.andThen_ok, h1]
  rw [if_pos hk']
  simp only [Sem.run_bind, h2, Result.andThen_ok, part, h3, Int.toNat_natCast, Nat.mul_one, h4, Bool.false_eq_true, if_false, Sem.run_pure]

set_option maxHeartbeats 4000000 in
set_option maxRecDepth 100000 in
theorem text_any (t : Nat → Int) (ht : I64 t) (w : World) (hT : Tabs w) :
    Calls Tryd.prog 8 #[.agg (tabA t)] w fun e w' => e = .returned (textEnd t) ∧ Below w.heap.size w w' := by
  have HI := keep ht
  have HT := keep hT
  clear ht hT
  go_enter Tryd.func8, Tryd.ntmps8
  go_wp2_with (refine wpList_load_row rfl 24 _ rfl w.heap.size rfl 24 (tabA t) (0, 0) _ (blk_alloc w t) Tryd.underlying24 rfl (tab_info t) ?_)
  refine (wrong_any t HI.out _).mono ?_
  rintro e w1 ⟨rfl, hb1⟩
  have HB1 := keep (((Below.refl w.heap.size w).alloc (Nat.le_refl _) (.cells (tabA t) 24)).trans (hb1.mono (by simp)))
  have HBT1 := keep ((blk_alloc w t).below hb1 (by simp))
  clear hb1
  by_cases hw : wrongT t = 0
  · rw [hw]
    have HW := keep hw
    have HE := keep (textEnd_ok hw)
    clear hw
    go_wp2_with fail
    refine (ops_lies _).mono ?_
    rintro e w2 ⟨rfl, hn, -, hb2⟩
    have HBT2 := keep (HBT1.out.below hb2 HBT1.out.lt)
    have HG2 := keep (Well.mk (w := w) ((HT.out.below HB1.out).below hb2) hn (HB1.out.trans (hb2.mono HB1.out.size)))
    clear hb2 hn HBT1 HB1
    generalize w1.heap.size = b at *
    go_wp2_with (refine wpList_load_row rfl 22 _ rfl w.heap.size rfl 24 (tabA t) (0, 0) _ HBT2.out Tryd.underlying22 rfl (info_arr t) ?_)
    go_loopw [7, 21] (fun s i wx => ∃ k : Nat, k ≤ 18 ∧ i = .int .i64 (k : Nat) ∧ s = .string ⟨(txt t 1 (k - 1)).toArray⟩ ∧ Well w b wx) (fun _ i _ => 18 - (intOf i).toNat)
    case atStart => exact ⟨0, by omega, rfl, rfl, HG2.out⟩
    case round =>
      clear HBT2 HG2
      obtain ⟨k, k1, rfl, rfl, hg⟩ := hrel
      have HG := keep hg
      clear hg
      have hlen := txt_small HW.out (k - 1) 1 (by omega) (by omega)
      by_cases hk : k < 18
      · have hkz : (k : Int) < 18 := by omega
        have hk0 : (0 : Int) ≤ (k : Int) := by omega
        have hta := index_tab t k hk
        by_cases hp : 0 < t k
        · have k0 : 1 ≤ k := by
            by_cases e : k = 0
            · rw [e, (right_facts HW.out).1] at hp; omega
            · omega
          obtain ⟨f1, f2⟩ := (right_facts HW.out).2 k k0 (by omega)
          have f3 := most_le k
          have HX : Hid (txt t 1 k = txt t 1 (k - 1) ++ (nm k ++ 32 :: (Lib.itoa (t k) ++ [10]))) := by
            have := txt_snoc t (k - 1) 1
            rw [show k - 1 + 1 = k by omega, show 1 + (k - 1) = k by omega] at this
            show txt t 1 k = _
            rw [this]
            unfold lineOf
            rw [if_neg (by omega)]
          have hc : ∀ W, Well w b W → W.cell? ⟨b, k, none⟩ = some (.string ⟨(nm k).toArray⟩) := fun W hW => hW.out.2.1.cell k k0 hk
          have HIt := keep (fun W hW => itoa_well (w := w) (b := b) (t k) (HI.out k) W hW)
          have hd : (Lib.itoa (t k)).length = 1 := by rw [itoa_small _ (by omega) (by omega)]; rfl
          have hnm := nm_size k
          generalize Lib.itoa (t k) = D at *
          generalize nm k = N at *
          generalize txt t 1 (k - 1) = X at *
          have hA : ¬ 9223372036854775807 < X.length + N.length := by omega
          have hB : ¬ 9223372036854775807 < X.length + N.length + 1 := by omega
          have hC : ¬ 9223372036854775807 < X.length + N.length + 1 + D.length := by omega
          have hD : ¬ 9223372036854775807 < X.length + N.length + 1 + D.length + 1 := by omega
          have hg : Well w b wr := HG.out
          go_wp2
          go_region_with (go_at_call 17; refine (HIt.out _ ?_).mono ?_; exact hg; rintro e w' ⟨rfl, hg'⟩)
          all_goals go_wp2
          all_goals
            go_roundw
            case rel =>
              refine ⟨k + 1, by omega, by go_num, ?_, hg'⟩
              rw [show k + 1 - 1 = k by omega, HX.out]
              exact congrArg Value.string (cat5 X N D)
            case measure => simp [intOf]; omega
        · have hz : txt t 1 (k + 1 - 1) = txt t 1 (k - 1) := by
            by_cases e : k = 0
            · rw [e]
            · have := txt_snoc t (k - 1) 1
              rw [show k - 1 + 1 = k by omega, show 1 + (k - 1) = k by omega] at this
              rw [show k + 1 - 1 = k by omega, this]
              have f := (right_facts HW.out).2 k (by omega) (by omega)
              unfold lineOf
              rw [if_pos (by omega), List.append_nil]
          have HZ := keep hz
          clear hz
          go_wp2
          go_roundw
          case rel =>
            refine ⟨k + 1, by omega, by go_num, ?_, HG.out⟩
            rw [HZ.out]
          case measure => simp [intOf]; omega
      · have hk17 : k = 18 := by omega
        subst hk17
        go_wp2
        go_ret2
        exact ⟨by rw [HE.out]; rfl, HG.out.out.2.2⟩
  · have HE := keep (textEnd_no hw)
    have hwb : (wrongT t != 0) = true := by simpa using hw
    clear hw
    generalize wrongT t = e at *
    go_wp2
    go_ret2
    exact ⟨by rw [HE.out]; rfl, HB1.out⟩
end Go.Proofs.YtkfingahinbdpaaDoor.Rt
