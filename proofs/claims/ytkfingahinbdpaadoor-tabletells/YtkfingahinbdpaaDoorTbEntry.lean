/- What positive and entry of package table answer, for whatever text. -/
import Derived.Test.YtkfingahinbdpaaDoorTbLib
namespace Go.Proofs.YtkfingahinbdpaaDoor.Tb
set_option linter.unusedVariables false
open Go.ChangeShapes Go.WideShapes Go.ChangeAt Go.RowKit

/-- A number above 0, or none. -/
def posEnd (l : List UInt8) : Value := if posV l = 0 then .tuple #[.int .i64 0, .bool false] else .tuple #[.int .i64 (posV l), .bool true]
theorem posEnd_no {l : List UInt8} (h : posV l = 0) : posEnd l = .tuple #[.int .i64 0, .bool false] := if_pos h
theorem posEnd_yes {l : List UInt8} (h : ¬ posV l = 0) : posEnd l = .tuple #[.int .i64 (posV l), .bool true] := if_neg h

set_option maxHeartbeats 1000000 in
theorem positive_any (s : ByteArray) (hs : s.size ≤ 281474976710656) (w : World) (ht : Tabs w) :
    Calls Tryd.prog 30 #[.string s] w fun e w' => e = .returned (posEnd s.data.toList) ∧ Below w.heap.size w w' := by
  have HA := keep (atoi_any s hs w ht)
  have HT := keep ht
  clear ht
  go_enter Tryd.func30, Tryd.ntmps30
  go_wp2_with fail
  refine HA.out.mono ?_
  rintro e w1 ⟨ha, hb⟩
  have HB := keep hb
  have HT1 := keep (HT.out.below hb)
  clear hb HA
  rcases ha with ⟨v, hv, v0, v1, rfl⟩ | ⟨hno, m, N, rfl⟩
  · have hE := posV_ok hv
    by_cases hp : v ≤ 0
    · have hz : posV s.data.toList = 0 := by rw [hE, if_neg (by omega)]
      have HE := keep (posEnd_no hz)
      have dp : decide (v ≤ 0) = true := by simpa using hp
      clear hE hz hv hp
      go_wp2
      go_ret2
      exact ⟨by rw [HE.out]; rfl, HB.out⟩
    · have dp : decide (v ≤ 0) = false := by simpa using hp
      have HEq : ∃ c : Bool, (Lib.itoa v == s.toList) = c ∧ posEnd s.data.toList = (if c then .tuple #[.int .i64 v, .bool true] else .tuple #[.int .i64 0, .bool false]) := by
        refine ⟨_, rfl, ?_⟩
        cases hq : (Lib.itoa v == s.toList) with
        | false =>
          rw [Lib.toList_data, beq_eq_false_iff_ne] at hq
          rw [posEnd_no (by rw [hE, if_neg (fun hh => hq hh.2)])]
          rfl
        | true =>
          rw [Lib.toList_data] at hq
          have e : posV s.data.toList = v := by rw [hE, if_pos ⟨by omega, beq_iff_eq.1 hq⟩]
          rw [posEnd_yes (by rw [e]; omega), e]
          rfl
      obtain ⟨c, hc, hP⟩ := HEq
      have HP := keep hP
      clear hE hv hp hP
      go_wp2_with fail
      refine (Tryd.strconv_Itoa v (by omega) (by omega) _ HT1.out.1).mono ?_
      rintro e w2 ⟨rfl, k, os, rfl⟩
      cases c
      · go_wp2
        go_ret2
        exact ⟨by rw [HP.out]; rfl, HB.out.trans (Lib.below_grow _ _ HB.out.size _ _)⟩
      · go_wp2
        go_ret2
        exact ⟨by rw [HP.out]; rfl, HB.out.trans (Lib.below_grow _ _ HB.out.size _ _)⟩
  · have HE := keep (posEnd_no (posV_no hno))
    clear hno
    go_wp2
    go_ret2
    exact ⟨by rw [HE.out]; rfl, HB.out⟩

/-- The names, as the library's strings. -/
def nmB : List ByteArray := nmL.map fun l => ⟨l.toArray⟩
theorem mk_inj {l : List UInt8} {x : ByteArray} : (⟨l.toArray⟩ : ByteArray) = x ↔ l = x.data.toList := by
  constructor
  · intro h; rw [← h]
  · intro h; rw [h]
theorem nm_cells (w : World) (j : Nat) (h : j < nmB.length) : (w.alloc (.cells nmV 9)).cell? ⟨w.heap.size, 0 + j, none⟩ = some (.string (nmB.getD j ByteArray.empty)) := by
  rw [World.cell?_alloc_new]
  have hj : j < 17 := h
  have : ∀ k : Fin 17, nmV[0 + k.val]? = some (.string (nmB.getD k.val ByteArray.empty)) := by
    intro k
    match k with
    | ⟨0, _⟩ => rfl
    | ⟨1, _⟩ => rfl
    | ⟨2, _⟩ => rfl
    | ⟨3, _⟩ => rfl
    | ⟨4, _⟩ => rfl
    | ⟨5, _⟩ => rfl
    | ⟨6, _⟩ => rfl
    | ⟨7, _⟩ => rfl
    | ⟨8, _⟩ => rfl
    | ⟨9, _⟩ => rfl
    | ⟨10, _⟩ => rfl
    | ⟨11, _⟩ => rfl
    | ⟨12, _⟩ => rfl
    | ⟨13, _⟩ => rfl
    | ⟨14, _⟩ => rfl
    | ⟨15, _⟩ => rfl
    | ⟨16, _⟩ => rfl
    | ⟨i + 17, h⟩ => exact absurd h (by omega)
  exact this ⟨j, hj⟩
theorem idx_from (x : ByteArray) : ∀ (l : List (List UInt8)) (i : Nat), Lib.idxFromS (l.map fun l => ⟨l.toArray⟩) x i = if x.data.toList ∈ l then ((i + l.idxOf x.data.toList : Nat) : Int) else -1
  | [], i => by simp [Lib.idxFromS]
  | a :: l, i => by
    rw [List.map_cons, Lib.idxFromS, idx_from x l (i + 1)]
    by_cases h : a = x.data.toList
    · rw [if_pos (mk_inj.2 h), if_pos (by simp [h]), List.idxOf_cons]
      simp [h]
    · rw [if_neg (fun e => h (mk_inj.1 e)), List.idxOf_cons]
      by_cases hm : x.data.toList ∈ l
      · rw [if_pos hm, if_pos (by simp [hm])]
        have : (a == x.data.toList) = false := by simpa using h
        rw [this]
        simp only [cond_false]
        omega
      · rw [if_neg hm, if_neg]
        intro hh
        rcases List.mem_cons.1 hh with e | e
        · exact h e.symm
        · exact hm e
theorem idx_names (x : ByteArray) : Lib.idxOfS (nmB.take 17) x = if opOf x.data.toList = 0 then -1 else ((opOf x.data.toList : Nat) : Int) - 1 := by
  have e : nmB.take 17 = nmB := by rfl
  rw [e]
  unfold Lib.idxOfS nmB
  rw [idx_from x nmL 0]
  unfold opOf
  by_cases h : x.data.toList ∈ nmL
  · rw [if_pos h, if_pos h, if_neg (by omega)]; omega
  · rw [if_neg h, if_neg h, if_pos rfl]

/-- How entry ends. -/
def entEnd (l : List UInt8) : Value := if entE l = 0 then .tuple #[.int .i64 (entOp l : Nat), .int .i64 (entV l), .int .i64 0] else .tuple #[.int .i64 0, .int .i64 0, .int .i64 (entE l)]
theorem entEnd_ok {l : List UInt8} (h : entE l = 0) : entEnd l = .tuple #[.int .i64 (entOp l : Nat), .int .i64 (entV l), .int .i64 0] := if_pos h
theorem entEnd_no {l : List UInt8} (h : ¬ entE l = 0) : entEnd l = .tuple #[.int .i64 0, .int .i64 0, .int .i64 (entE l)] := if_neg h
theorem entEnd_form {l : List UInt8} (h : has 32 l = false) : entEnd l = .tuple #[.int .i64 0, .int .i64 0, .int .i64 2] := by
  have e : entE l = 2 := by unfold entE; rw [if_pos h]
  rw [entEnd_no (by rw [e]; decide), e]
theorem entEnd_name {l : List UInt8} (h : has 32 l = true) (ho : opOf (pre 32 l) = 0) : entEnd l = .tuple #[.int .i64 0, .int .i64 0, .int .i64 7] := by
  have e : entE l = 7 := by unfold entE; rw [if_neg (by simp [h]), if_pos ho]
  rw [entEnd_no (by rw [e]; decide), e]
theorem entEnd_num {l : List UInt8} (h : has 32 l = true) (ho : ¬ opOf (pre 32 l) = 0) (hv : posV (suf 32 l) = 0) : entEnd l = .tuple #[.int .i64 0, .int .i64 0, .int .i64 2] := by
  have e : entE l = 2 := by unfold entE; rw [if_neg (by simp [h]), if_neg ho, if_pos hv]
  rw [entEnd_no (by rw [e]; decide), e]
theorem entEnd_all {l : List UInt8} (h : has 32 l = true) (ho : ¬ opOf (pre 32 l) = 0) (hv : ¬ posV (suf 32 l) = 0) : entEnd l = .tuple #[.int .i64 (opOf (pre 32 l) : Nat), .int .i64 (posV (suf 32 l)), .int .i64 0] := by
  have e : entE l = 0 := by unfold entE; rw [if_neg (by simp [h]), if_neg ho, if_neg hv]
  exact entEnd_ok e
theorem size_mk (l : List UInt8) : (⟨l.toArray⟩ : ByteArray).size = l.length := by simp [ByteArray.size]

set_option maxHeartbeats 2000000 in
theorem entry_any (s : ByteArray) (hs : s.size ≤ 281474976710656) (w : World) (ht : Tabs w) :
    Calls Tryd.prog 20 #[.string s] w fun e w' => e = .returned (entEnd s.data.toList) ∧ Below w.heap.size w w' := by
  have hlen : s.data.toList.length = s.size := Lib.size_eq s |>.symm
  have HC := keep (cut_any s (by unfold maxLen; omega) 32 w)
  have HT := keep ht
  clear ht
  cases hh : has 32 s.data.toList with
  | false =>
    rw [cutEnd_no hh] at HC
    have HE := keep (entEnd_form hh)
    clear hh
    go_enter Tryd.func20, Tryd.ntmps20
    go_wp2_with fail
    refine HC.out.mono ?_
    rintro e w1 ⟨rfl, n, rfl⟩
    go_wp2
    go_ret3
    exact ⟨by rw [HE.out]; rfl, below_drewN (Below.refl _ _) _⟩
  | true =>
    rw [cutEnd_yes hh] at HC
    have hm : (32 : UInt8) ∈ s.data.toList := of_decide_eq_true hh
    have hsl := suf_length hm
    have HE1 := keep (fun ho => entEnd_name hh ho)
    have HE2 := keep (fun ho hv => entEnd_num hh ho hv)
    have HE3 := keep (fun ho hv => entEnd_all hh ho hv)
    clear hh hm
    generalize pre 32 s.data.toList = key at *
    generalize suf 32 s.data.toList = num at *
    have HX := keep (idx_names ⟨key.toArray⟩)
    have HP := keep (positive_any ⟨num.toArray⟩ (by rw [size_mk]; omega))
    simp only at HX HP
    go_enter Tryd.func20, Tryd.ntmps20
    go_wp2_with fail
    refine HC.out.mono ?_
    rintro e w1 ⟨rfl, n, rfl⟩
    go_wp2_with fail
    refine (names_any _ (HT.out.below (below_drewN (Below.refl _ _) _))).mono ?_
    rintro e w2 ⟨rfl, rfl⟩
    go_wp2_with fail
    refine (Tryd.slices_Index_string _ 0 17 17 nmB ⟨key.toArray⟩ _ (by decide) (by decide) (nm_cells _)).mono ?_
    rintro e w3 ⟨rfl, rfl⟩
    rw [HX.out]
    by_cases ho : opOf key = 0
    · rw [if_pos ho]
      have HE := keep (HE1.out ho)
      clear ho
      go_wp2
      go_ret3
      exact ⟨by rw [HE.out]; rfl, (below_drewN (Below.refl _ _) _).alloc (Nat.le_refl _) _⟩
    · rw [if_neg ho]
      obtain ⟨_, o1, o2⟩ := opOf_some ho
      have HO := keep ho
      clear ho
      generalize opOf key = op at *
      have i0 : ¬ ((op : Int) - 1 < 0) := by omega
      go_wp2_with fail
      refine (HP.out _ (HT.out.below ((below_drewN (Below.refl _ _) _).alloc (Nat.le_refl _) _))).mono ?_
      rintro e w4 ⟨rfl, hb4⟩
      have HB := keep (((below_drewN (Below.refl w.heap.size w) n).alloc (Nat.le_refl _) (.cells nmV 9)).trans (hb4.mono (by simp)))
      clear hb4
      by_cases hv : posV num = 0
      · rw [posEnd_no hv]
        have HE := keep (HE2.out HO.out hv)
        clear hv
        go_wp2
        go_ret3
        exact ⟨by rw [HE.out]; rfl, HB.out⟩
      · rw [posEnd_yes hv]
        have HE := keep (HE3.out HO.out hv)
        clear hv
        go_wp2
        go_ret3
        refine ⟨?_, HB.out⟩
        rw [HE.out]
        show Ending.returned (.tuple #[.int .i64 (1 + ((op : Int) - 1)), .int .i64 (posV num), .int .i64 0]) = _
        rw [show 1 + ((op : Int) - 1) = (op : Int) by omega]
end Go.Proofs.YtkfingahinbdpaaDoor.Tb
