/- What Text of package table answers, for whatever table. -/
import Derived.Test.YtkfingahinbdpaaDoorTbBuild
namespace Go.Proofs.YtkfingahinbdpaaDoor.Tb
set_option linter.unusedVariables false
open Go.ChangeShapes Go.WideShapes Go.ChangeAt Go.RowKit

/-- A block that holds the names. -/
def NmBlk (w : World) (b : Nat) : Prop := w.heap[b]? = some (.cells nmV 9 (0, 0))
theorem NmBlk.lt {w : World} {b : Nat} (h : NmBlk w b) : b < w.heap.size := by
  rcases Nat.lt_or_ge b w.heap.size with h' | h'
  · exact h'
  · simp [NmBlk, Array.getElem?_eq_none h'] at h
theorem NmBlk.below {w w' : World} {b B : Nat} (h : NmBlk w b) (hb : Below B w w') (hB : b < B) : NmBlk w' b := by
  unfold NmBlk; rw [hb.block b hB]; exact h
theorem nmV_at (k : Nat) (h : k < 17) : nmV[k]? = some (.string ⟨(nm (k + 1)).toArray⟩) := by
  match k, h with
  | 0, _ => rfl
  | 1, _ => rfl
  | 2, _ => rfl
  | 3, _ => rfl
  | 4, _ => rfl
  | 5, _ => rfl
  | 6, _ => rfl
  | 7, _ => rfl
  | 8, _ => rfl
  | 9, _ => rfl
  | 10, _ => rfl
  | 11, _ => rfl
  | 12, _ => rfl
  | 13, _ => rfl
  | 14, _ => rfl
  | 15, _ => rfl
  | 16, _ => rfl
  | k + 17, h => exact absurd h (by omega)
theorem NmBlk.cell {w : World} {b : Nat} (h : NmBlk w b) (k : Nat) (hk : k < 17) : w.cell? ⟨b, k, none⟩ = some (.string ⟨(nm (k + 1)).toArray⟩) := by
  rw [Lib.cell_of_heap h]; exact nmV_at k hk
theorem nm_size (k : Nat) : (nm k).length ≤ 5 := by
  by_cases h : k - 1 < 17
  · have : ∀ j : Fin 17, (nmL.getD j.val []).length ≤ 5 := by decide
    exact this ⟨k - 1, h⟩
  · unfold nm
    have hl : nmL.length = 17 := by decide
    rw [List.getD_eq_getElem?_getD, List.getElem?_eq_none (by omega)]
    simp

/-- A builder, in a world that has only grown. -/
theorem bld_below {T e : TypeId} {B b : Nat} {bs : List Value} {W W' : World} (h : Lib.IsBuilderF T e B b bs W) (hb : Below W.heap.size W W') : Lib.IsBuilderF T e B b bs W' := by
  have one : ∀ p, Lib.BuilderAtF T e B b p bs W → Lib.BuilderAtF T e B b p bs W' := by
    rintro p ⟨hB, v, hbk, ⟨hl, ho⟩, hne⟩
    have lt : ∀ {k : Nat} {o : Obj}, W.heap[k]? = some o → k < W.heap.size := fun hk => (Array.getElem?_eq_some_iff.1 hk).1
    refine ⟨hB, v, by rw [hb.block b (lt hbk)]; exact hbk, ⟨hl, ?_⟩, hne⟩
    rcases ho with ho | ⟨g, cap, cur, fz, h1, h2, h3, h4⟩
    · exact .inl ho
    · exact .inr ⟨g, cap, cur, fz, h1, h2, by rw [hb.block g (lt h3)]; exact h3, h4⟩
  exact h.elim (fun x => .inl (one _ x)) (fun x => .inr (one _ x))
theorem bld_fresh (w : World) : Lib.IsBuilderF 44 5 w.heap.size w.heap.size [] (w.alloc (.cells #[.pointer none, .slice none 0 0] 44)) :=
  .inl ⟨Nat.le_refl _, .slice none 0 0, (MapKept.heap_alloc w _).1, World.ownsRowF_nil _ _ _ _, by simp [Value.ownBlock]⟩

/-- How Text ends. -/
def textEnd (t : Nat → Int) : Value := if wrongT t = 0 then .tuple #[.string ⟨(text t).toArray⟩, .int .i64 0] else .tuple #[.string ⟨#[]⟩, .int .i64 (wrongT t)]
theorem textEnd_ok {t : Nat → Int} (h : wrongT t = 0) : textEnd t = .tuple #[.string ⟨(text t).toArray⟩, .int .i64 0] := if_pos h
theorem textEnd_no {t : Nat → Int} (h : ¬ wrongT t = 0) : textEnd t = .tuple #[.string ⟨#[]⟩, .int .i64 (wrongT t)] := if_neg h
theorem txt_small {t : Nat → Int} (h : wrongT t = 0) : ∀ (n op : Nat), 1 ≤ op → op + n ≤ 18 → (txt t op n).length ≤ 8 * n
  | 0, op, _, _ => by simp [txt]
  | n + 1, op, h1, h2 => by
    rw [txt, List.length_append]
    have ih := txt_small h n (op + 1) (by omega) (by omega)
    obtain ⟨f1, f2⟩ := (right_facts h).2 op h1 (by omega)
    have f3 := most_le op
    have : (lineOf op (t op)).length ≤ 8 := by
      unfold lineOf
      by_cases hz : t op = 0
      · rw [if_pos hz]; simp
      · rw [if_neg hz, itoa_small (t op) (by omega) (by omega)]
        have := nm_size op
        simp
        omega
    omega

theorem cat4 (N D : List UInt8) : ({ data := N.toArray } ++ { data := #[32] } ++ { data := D.toArray } ++ { data := #[10] } : ByteArray).data.toList = N ++ 32 :: (D ++ [10]) := by
  simp [ByteArray.data_append]

set_option maxHeartbeats 4000000 in
set_option maxRecDepth 100000 in
theorem text_any (t : Nat → Int) (ht : I64 t) (w : World) (hT : Tabs w) :
    Calls Tryd.prog 7 #[.agg (tabA t)] w fun e w' => e = .returned (textEnd t) ∧ Below w.heap.size w w' := by
  have HI := keep ht
  have HT := keep hT
  clear ht hT
  go_enter Tryd.func7, Tryd.ntmps7
  go_wp2_with (refine wpList_load_row rfl 24 _ rfl w.heap.size rfl 24 (tabA t) (0, 0) _ (blk_alloc w t) Tryd.underlying24 rfl (tab_info t) ?_)
  refine (wrong_any t HI.out _).mono ?_
  rintro e w1 ⟨rfl, hb1⟩
  have HB1 := keep (((Below.refl w.heap.size w).alloc (Nat.le_refl _) (.cells (tabA t) 24)).trans (hb1.mono (by simp)))
  have HBT1 := keep ((blk_alloc w t).below hb1 (by simp))
  clear hb1
  by_cases hw : wrongT t = 0
  · rw [hw]
    have HW := keep hw
    have HE := keep (textEnd_ok hw)
    clear hw
    go_wp2_with fail
    have HF := keep (bld_fresh w1)
    refine (names_any _ ((HT.out.below HB1.out).below ((Below.refl _ _).alloc (Nat.le_refl _) _))).mono ?_
    rintro e w2 ⟨rfl, rfl⟩
    have HF2 := keep (Lib.IsBuilderF.alloc HF.out (.cells nmV 9))
    have HBT2 := keep ((HBT1.out.alloc (.cells #[.pointer none, .slice none 0 0] 44)).alloc (.cells nmV 9))
    have hN0 : NmBlk ((w1.alloc (.cells #[.pointer none, .slice none 0 0] 44)).alloc (.cells nmV 9)) (w1.heap.size + 1) := by
      have := (MapKept.heap_alloc (w1.alloc (.cells #[.pointer none, .slice none 0 0] 44)) (.cells nmV 9)).1
      rw [show (w1.alloc (.cells #[.pointer none, .slice none 0 0] 44)).heap.size = w1.heap.size + 1 by simp] at this
      exact this
    have HN2 := keep hN0
    have HB2 := keep ((HB1.out.alloc HB1.out.size (.cells #[.pointer none, .slice none 0 0] 44)).alloc (by have := HB1.out.size; simp; omega) (.cells nmV 9))
    have h0 : w.heap.size < w1.heap.size := HBT1.out.lt
    clear HF HBT1 HB1 hN0
    go_wp2
    generalize hw2 : (w1.alloc (.cells #[.pointer none, .slice none 0 0] 44)).alloc (.cells nmV 9) = w2 at *
    have hsz : w1.heap.size ≤ w2.heap.size := by rw [← hw2]; simp; omega
    clear hw2
    generalize w1.heap.size = b1 at *
    go_loopw [16] (fun i wx => ∃ k : Nat, k ≤ 17 ∧ i = .int .i64 (k : Nat) ∧ Blk wx w.heap.size t ∧ NmBlk wx (b1 + 1) ∧ Lib.IsBuilderF 44 5 b1 b1 (Lib.byteCells (txt t 1 k)) wx ∧ b1 ≤ wx.heap.size ∧ Below w.heap.size w wx) (fun i _ => 17 - (intOf i).toNat)
    case atStart => exact ⟨0, by omega, rfl, HBT2.out, HN2.out, HF2.out, hsz, HB2.out⟩
    case round =>
      clear HBT2 HN2 HF2 HB2 hsz
      obtain ⟨k, k1, rfl, hbt, hn, hf, hs, hb⟩ := hrel
      have HBT := keep hbt
      have HN := keep hn
      have HF := keep hf
      have HB := keep hb
      clear hbt hn hf hb
      have hlen := txt_small HW.out k 1 (by omega) (by omega)
      by_cases hk : k < 17
      · have hkz : (k : Int) < 17 := by omega
        have hc1 := HN.out.cell k hk
        have hc2 := HBT.out.lies (1 + k) (by omega)
        obtain ⟨f1, f2⟩ := (right_facts HW.out).2 (1 + k) (by omega) (by omega)
        have f3 := most_le (1 + k)
        have hi := (HI.out (1 + k))
        have HX := keep (txt_snoc t k 1)
        by_cases hz : t (1 + k) = 0
        · rw [hz] at hc2
          go_wp2
          go_roundw
          case rel =>
            refine ⟨k + 1, by omega, by go_num, HBT.out, HN.out, ?_, hs, HB.out⟩
            rw [HX.out, hz, show lineOf (1 + k) 0 = [] from rfl, List.append_nil]
            exact HF.out
          case measure => simp [intOf]; omega
        · have hzb : (t (1 + k) != 0) = true := by simpa using hz
          have hI : Hid (∀ W, Tabs W → Calls Tryd.prog 17 #[.int .i64 (t (1 + k))] W fun e w' => e = .returned (.string ⟨(Lib.itoa (t (1 + k))).toArray⟩) ∧ Below W.heap.size W w') := fun W hW => by
            refine (Tryd.strconv_Itoa (t (1 + k)) hi.1 hi.2 W hW.1).mono ?_
            rintro e w' ⟨rfl, j, os, rfl⟩
            exact ⟨rfl, Lib.below_grow _ _ (Nat.le_refl _) _ _⟩
          have HL : Hid (lineOf (1 + k) (t (1 + k)) = nm (k + 1) ++ 32 :: (Lib.itoa (t (1 + k)) ++ [10])) := by
            show lineOf (1 + k) (t (1 + k)) = _
            unfold lineOf
            rw [if_neg hz, Nat.add_comm 1 k]
          have hd : (Lib.itoa (t (1 + k))).length = 1 := by rw [itoa_small _ (by omega) (by omega)]; rfl
          have hnm := nm_size (k + 1)
          generalize Lib.itoa (t (1 + k)) = D at *
          generalize nm (k + 1) = N at *
          have hA : ¬ 9223372036854775807 < N.length + 1 := by omega
          have hB : ¬ 9223372036854775807 < N.length + 1 + D.length := by omega
          have hC : ¬ 9223372036854775807 < N.length + 1 + D.length + 1 := by omega
          go_wp2_with fail
          refine (hI.out _ (HT.out.below HB.out)).mono ?_
          rintro e w3 ⟨rfl, hb3⟩
          have HBT3 := keep (HBT.out.below hb3 HBT.out.lt)
          have HN3 := keep (HN.out.below hb3 HN.out.lt)
          have HF3 := keep (bld_below HF.out hb3)
          have HB3 := keep (HB.out.trans (hb3.mono HB.out.size))
          have hs3 : b1 ≤ w3.heap.size := Nat.le_trans hs hb3.size
          clear hb3 HBT HN HF HB
          have hl4 := cat4 N D
          go_wp2_with fail
          generalize hx : ({ data := N.toArray } ++ { data := #[32] } ++ { data := D.toArray } ++ { data := #[10] } : ByteArray) = x at *
          have hx2 : x.size = N.length + D.length + 2 := by
            rw [Lib.size_eq, hl4]; simp; omega
          refine (write_any b1 b1 (Lib.byteCells (txt t 1 k)) x _ HF3.out (by rw [Lib.byteCells_length]; omega) hs3).mono ?_
          rintro e w4 ⟨rfl, hf4, hb4, ho4⟩
          have HF4 : Hid (Lib.IsBuilderF 44 5 b1 b1 (Lib.byteCells (txt t 1 (k + 1))) w4) := by
            show Lib.IsBuilderF _ _ _ _ _ _
            rw [HX.out, HL.out, Lib.byteCells_append, ← hl4]
            exact hf4
          have HBT4 := keep (HBT3.out.below hb4 h0)
          have HN4 : Hid (NmBlk w4 (b1 + 1)) := ho4 _ _ HN3.out (by simp) (fun c fz e => by injection e with _ e2; exact absurd e2 (by decide))
          have HB4 := keep (HB3.out.trans (hb4.mono (Nat.le_of_lt h0)))
          have hs4 : b1 ≤ w4.heap.size := Nat.le_trans hs3 hb4.size
          clear hf4 hb4 ho4 hl4 hx
          go_wp2
          go_roundw
          case rel => exact ⟨k + 1, by omega, by go_num, HBT4.out, HN4.out, HF4.out, hs4, HB4.out⟩
          case measure => simp [intOf]; omega
      · have hk17 : k = 17 := by omega
        subst hk17
        go_wp2_with fail
        refine (Tryd.Builder_String_any_k b1 b1 (txt t 1 17) _ HF.out hs).mono ?_
        rintro e w3 ⟨rfl, -, hb3, -⟩
        go_wp2
        go_ret2
        exact ⟨by rw [HE.out]; rfl, HB.out.trans (hb3.mono (Nat.le_of_lt h0))⟩
  · have HE := keep (textEnd_no hw)
    have hwb : (wrongT t != 0) = true := by simpa using hw
    clear hw
    generalize wrongT t = e at *
    go_wp2
    go_ret2
    exact ⟨by rw [HE.out]; rfl, HB1.out⟩
end Go.Proofs.YtkfingahinbdpaaDoor.Tb
