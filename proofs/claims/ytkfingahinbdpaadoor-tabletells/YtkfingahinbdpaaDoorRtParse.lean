/- What the document's own TableParse answers, for whatever text. -/
import Derived.Test.YtkfingahinbdpaaDoorRtText
import Derived.Test.YtkfingahinbdpaaDoorTbSame
import Derived.Deep.RegionHeld3
namespace Go.Proofs.YtkfingahinbdpaaDoor.Rt
set_option linter.unusedVariables false
set_option linter.unusedSimpArgs false
open Go.ChangeShapes Go.WideShapes Go.ChangeAt Go.RowKit Tb

set_option maxHeartbeats 1000000 in
theorem no_any (e : Int) (w : World) :
    Calls Tryd.prog 21 #[.int .i64 e] w fun r w' => r = .returned (.tuple #[.agg (tabA zer), .int .i64 e]) ∧ Below w.heap.size w w' := by
  go_enter Tryd.func21, Tryd.ntmps21
  go_wp2_with (refine store_tab rfl _ _ rfl w.heap.size zer zer rfl rfl (blk_alloc w zer) ?_)
  exact bodyPost_ret (v := .tuple #[.agg (tabA zer), .int .i64 e]) (ret_tab rfl _ _ w.heap.size zer e rfl rfl (blk_alloc w zer).row) rfl ⟨rfl, below_setRow ((Below.refl _ _).alloc (Nat.le_refl _) _) (Nat.le_refl _) _⟩

theorem zer_nums : I64 zer := fun k => by unfold zer; omega

/-- Which op bears that name, of those below j. -/
def opTo (j : Nat) (key : List UInt8) : Nat := if opOf key < j then opOf key else 0
theorem opTo_end (key : List UInt8) : opTo 18 key = opOf key := by
  unfold opTo
  by_cases h : opOf key = 0
  · rw [if_pos (by omega)]
  · have := opOf_some h
    rw [if_pos (by omega)]
theorem opTo_zero (key : List UInt8) : opTo 0 key = 0 := by
  unfold opTo; rw [if_neg (by omega)]
theorem opTo_one (key : List UInt8) : opTo 1 key = 0 := by
  unfold opTo; split <;> omega
theorem opTo_hit {j : Nat} {key : List UInt8} (h1 : 1 ≤ j) (h2 : j ≤ 17) (h : nm j = key) : opTo (j + 1) key = j := by
  have : opOf key = j := by rw [← h]; exact opOf_nm j h1 h2
  unfold opTo
  rw [this, if_pos (by omega)]
theorem opTo_miss {j : Nat} {key : List UInt8} (h : ¬ nm j = key) : opTo (j + 1) key = opTo j key := by
  unfold opTo
  by_cases e : opOf key = j
  · by_cases h0 : opOf key = 0
    · rw [if_pos (by omega), h0]; split <;> rfl
    · exact absurd (by rw [← e]; exact (opOf_some h0).1) h
  · by_cases hl : opOf key < j
    · rw [if_pos hl, if_pos (by omega)]
    · rw [if_neg hl, if_neg (by omega)]

/-- What stands at the first c. -/
theorem pre_at {c : UInt8} {l : List UInt8} {k : Nat} (h : l[k]? = some c) (hn : c ∉ l.take k) : c ∈ l ∧ pre c l = l.take k ∧ suf c l = l.drop (k + 1) := by
  obtain ⟨hk, e⟩ := List.getElem?_eq_some_iff.1 h
  have hl : l = l.take k ++ c :: l.drop (k + 1) := by
    rw [← e]; simp
  have := pre_append (c := c) (p := l.take k) (r := l.drop (k + 1)) hn
  rw [← hl] at this
  exact ⟨List.mem_of_getElem? h, this.1, this.2⟩
theorem take_more {c x : UInt8} {l : List UInt8} {k : Nat} (h : l[k]? = some x) (hx : ¬ x = c) (hn : c ∉ l.take k) : c ∉ l.take (k + 1) := by
  rw [List.take_add_one, h]
  simp only [Option.toList_some, List.mem_append, List.mem_singleton, not_or]
  exact ⟨hn, fun e => hx e.symm⟩

/-- How far the text has been read: lines up to a place, and no line feed from there on up to another one. -/
structure Sofar (s : List UInt8) (last : Nat) (t : Nat → Int) (fr i : Nat) : Prop where
  le : fr ≤ i
  top : i ≤ s.length
  few : last ≤ 17
  none : 10 ∉ (s.drop fr).take (i - fr)
  same : parL last t (s.drop fr) = parL 0 zer s
  nums : I64 t
theorem Sofar.on {s : List UInt8} {last : Nat} {t : Nat → Int} {fr i : Nat} (h : Sofar s last t fr i) {x : UInt8} (hx : s[i]? = some x) (h10 : ¬ x = 10) : Sofar s last t fr (i + 1) := by
  have hi := (List.getElem?_eq_some_iff.1 hx).1
  refine ⟨by have := h.le; omega, by omega, h.few, ?_, h.same, h.nums⟩
  rw [show i + 1 - fr = (i - fr) + 1 by have := h.le; omega]
  refine take_more (x := x) ?_ h10 h.none
  rw [List.getElem?_drop, show fr + (i - fr) = i by have := h.le; omega]
  exact hx
theorem Sofar.line {s : List UInt8} {last : Nat} {t : Nat → Int} {fr i : Nat} (h : Sofar s last t fr i) (hx : s[i]? = some 10) :
    10 ∈ s.drop fr ∧ pre 10 (s.drop fr) = (s.drop fr).take (i - fr) ∧ suf 10 (s.drop fr) = s.drop (i + 1) := by
  have := pre_at (l := s.drop fr) (k := i - fr) (c := 10) (by rw [List.getElem?_drop, show fr + (i - fr) = i by have := h.le; omega]; exact hx) h.none
  rw [List.drop_drop, show fr + (i - fr + 1) = i + 1 by have := h.le; omega] at this
  exact this

/-- What lies in memory: the answer's place, the table, the names. -/
structure Mem (w : World) (bN : Nat) (t : Nat → Int) (wx : World) : Prop where
  z : Blk wx w.heap.size zer
  k : Blk wx (w.heap.size + 1) t
  n : NBlk wx bN
  tabs : Tabs wx
  below : Below w.heap.size w wx
theorem Mem.grow {w : World} {bN : Nat} {t : Nat → Int} {wx wy : World} (h : Mem w bN t wx) (hb : Below wx.heap.size wx wy) : Mem w bN t wy :=
  ⟨h.z.below hb h.z.lt, h.k.below hb h.k.lt, blk_below h.n hb (blk_lt h.n), h.tabs.below hb, h.below.trans (hb.mono h.below.size)⟩
theorem Mem.drewN {w : World} {bN : Nat} {t : Nat → Int} {wx : World} (h : Mem w bN t wx) (n : Nat) : Mem w bN t (wx.drewN n) := h.grow (Tb.below_drewN (Below.refl _ _) n)
theorem Mem.set {w : World} {bN : Nat} {t : Nat → Int} {wx : World} (h : Mem w bN t wx) (hw : Tabs w) (hN : bN ≠ w.heap.size + 1) (op : Nat) (ho : op < 18) (v : Int) : Mem w bN (upd t op v) (wx.setCell ⟨w.heap.size + 1, op, none⟩ (.int .i64 v)) := by
  have hb := h.below.setCell (p := ⟨w.heap.size + 1, op, none⟩) (show w.heap.size ≤ w.heap.size + 1 by omega) (.int .i64 v)
  refine ⟨h.z.set_other (by omega) _ _, h.k.set op ho v, ?_, hw.below hb, hb⟩
  unfold NBlk
  rw [Below.heap_setCell _ _ _ _ hN]
  exact h.n

/-- The same, whatever has been drawn. -/
def MemD (w : World) (bN : Nat) (t : Nat → Int) (wx : World) : Prop := ∃ v : World, Mem w bN t v ∧ wx.heap = v.heap ∧ wx.os = v.os ∧ wx.tape = v.tape ∧ wx.output = v.output
theorem Mem.d {w : World} {bN : Nat} {t : Nat → Int} {wx : World} (h : Mem w bN t wx) : MemD w bN t wx := ⟨wx, h, rfl, rfl, rfl, rfl⟩
theorem MemD.out {w : World} {bN : Nat} {t : Nat → Int} {wx : World} (h : MemD w bN t wx) : Mem w bN t wx := by
  obtain ⟨v, h1, e1, e2, e3, e4⟩ := h
  exact h1.grow ⟨e2, e3, e4, by rw [e1]; exact Nat.le_refl _, fun k _ => by rw [e1]⟩
theorem itoa_mem {w : World} {bN : Nat} {t : Nat → Int} (v : Int) (h : -9223372036854775808 ≤ v ∧ v ≤ 9223372036854775807) (W : World) (hW : MemD w bN t W) :
    Calls Tryd.prog 17 #[.int .i64 v] W fun e w' => e = .returned (.string ⟨(Lib.itoa v).toArray⟩) ∧ MemD w bN t w' := by
  have hm := hW.out
  refine (Tryd.strconv_Itoa v h.1 h.2 W hm.tabs.1).mono ?_
  rintro e w' ⟨rfl, j, os, rfl⟩
  exact ⟨rfl, (hm.grow (Lib.below_grow W.heap.size W (Nat.le_refl _) j os)).d⟩

set_option maxHeartbeats 8000000 in
set_option maxRecDepth 100000 in
theorem parse_any (s : ByteArray) (hs : s.size ≤ 281474976710656) (w : World) (ht : Tabs w) :
    Calls Tryd.prog 10 #[.string s] w fun e w' => e = .returned (parEnd s.data.toList) ∧ Below w.heap.size w w' := by
  have HT := keep ht
  clear ht
  have hlen : s.data.toList.length = s.size := Lib.size_eq s |>.symm
  have HZ0 := keep (blk_alloc w zer)
  have hsz0 : (w.alloc (.cells (tabA zer) 24)).heap.size = w.heap.size + 1 := by simp
  have HK0 : Hid (Blk ((w.alloc (.cells (tabA zer) 24)).alloc (.cells (tabA zer) 24)) (w.heap.size + 1) zer) := by
    have := blk_alloc (w.alloc (.cells (tabA zer) 24)) zer
    rw [hsz0] at this
    exact this
  have HZ1 := keep (HZ0.out.alloc (.cells (tabA zer) 24))
  clear hsz0
  go_enter Tryd.func10, Tryd.ntmps10
  go_wp2_with (refine store_tab rfl _ _ rfl (w.heap.size + 1) zer zer rfl rfl HK0.out ?_)
  refine (ops_lies _).mono ?_
  rintro e w2 ⟨rfl, hn, -, hb2⟩
  have hM : Mem w (w.heap.size + 1 + 1) zer w2 := by
    have hbA : Below w.heap.size w (((w.alloc (.cells (tabA zer) 24)).alloc (.cells (tabA zer) 24)).setRow (w.heap.size + 1) (tabA zer)) := below_setRow (((Below.refl _ _).alloc (Nat.le_refl _) _).alloc (by simp) _) (by omega) _
    have hk := HK0.out.row (u := zer)
    have hz : Blk (((w.alloc (.cells (tabA zer) 24)).alloc (.cells (tabA zer) 24)).setRow (w.heap.size + 1) (tabA zer)) w.heap.size zer := by
      unfold Blk
      rw [setRow_other _ _ _ _ (by omega)]
      exact HZ1.out
    have hn' : NBlk w2 (w.heap.size + 1 + 1) := by
      have e : (((w.alloc (.cells (tabA zer) 24)).alloc (.cells (tabA zer) 24)).setRow (w.heap.size + 1) (tabA zer)).heap.size = w.heap.size + 1 + 1 := by simp
      rw [← e]
      exact hn
    exact ⟨hz.below hb2 hz.lt, hk.below hb2 hk.lt, hn', (HT.out.below hbA).below hb2, hbA.trans (hb2.mono hbA.size)⟩
  have HM2 := keep hM
  clear hM hn hb2 HK0 HZ0 HZ1
  go_wp2
  have hN1 : w.heap.size + 1 + 1 ≠ w.heap.size + 1 := by omega
  generalize w.heap.size + 1 + 1 = bN at *
  have HN1 := keep hN1
  clear hN1
  go_loopw [8, 9, 26] (fun s8 s9 s26 wx => ∃ (last fr i : Nat) (t : Nat → Int), s8 = .int .i64 (last : Nat) ∧ s9 = .int .i64 (fr : Nat) ∧ s26 = .int .i64 (i : Nat) ∧ Sofar s.data.toList last t fr i ∧ Mem w bN t wx) (fun _ _ s26 _ => s.size - (intOf s26).toNat)
  case atStart => exact ⟨0, 0, 0, zer, rfl, rfl, rfl, ⟨Nat.le_refl _, Nat.zero_le _, by omega, by simp, rfl, zer_nums⟩, HM2.out⟩
  case round =>
    clear HM2
    obtain ⟨last, fr, i, t, rfl, rfl, rfl, hso, hm⟩ := hrel
    have HS := keep hso
    have HM := keep hm
    have hfi := hso.le
    have hit := hso.top
    have hl17 := hso.few
    rw [hlen] at hit
    clear hso hm
    by_cases hi : i < s.size
    · have hiz : (i : Int) < (s.size : Int) := by omega
      obtain ⟨x, hx⟩ : ∃ x : UInt8, s[i] = x := ⟨_, rfl⟩
      have hxl : s.data.toList[i]? = some x := by rw [← hx]; exact Lib.data_getElem? s i hi
      have HX := keep hxl
      clear hxl
      by_cases h10 : x = 10
      · subst h10
        obtain ⟨g1, g2, g3⟩ := HS.out.line HX.out
        have HL := keep (parL_line last t g1)
        rw [HS.out.same, g2, g3] at HL
        have H64 := keep HS.out.nums
        clear g1 g2 g3 HS HX
        have hbz : (fr : Int) ≤ (i : Int) := by omega
        have hbz2 : (i : Int) ≤ (s.size : Int) := by omega
        have hbz0 : (0 : Int) ≤ (fr : Int) := by omega
        obtain ⟨lb, hlb, hld⟩ : ∃ lb : ByteArray, s.extract fr i = lb ∧ lb.data.toList = (s.data.toList.drop fr).take (i - fr) := ⟨_, rfl, Lib.extract_data s fr i⟩
        rw [← hld] at HL
        have hls : lb.size ≤ s.size := by
          rw [Lib.size_eq, hld]; simp; omega
        clear hld
        have hll : lb.data.toList.length = lb.size := Lib.size_eq lb |>.symm
        go_wp2
        clear hlb
        go_loopw [12] (fun s12 wx => ∃ k n : Nat, k ≤ lb.size ∧ s12 = .int .i64 (k : Nat) ∧ 32 ∉ lb.data.toList.take k ∧ wx = wr.drewN n) (fun s12 _ => lb.size - (intOf s12).toNat)
        case atStart => exact ⟨0, 0, Nat.zero_le _, rfl, by simp, rfl⟩
        case round =>
          obtain ⟨k, n, hk, rfl, hno, rfl⟩ := hrel
          have HN := keep hno
          clear hno
          by_cases hkl : k < lb.size
          · have hkz : (k : Int) < (lb.size : Int) := by omega
            have dkz : decide ((k : Int) < (lb.size : Int)) = true := by simpa using hkz
            obtain ⟨y, hy⟩ : ∃ y : UInt8, lb[k] = y := ⟨_, rfl⟩
            have hyl : lb.data.toList[k]? = some y := by rw [← hy]; exact Lib.data_getElem? lb k hkl
            have HY := keep hyl
            clear hyl
            by_cases h32 : y = 32
            · subst h32
              obtain ⟨p1, p2, p3⟩ := pre_at HY.out HN.out
              have hhas : has 32 lb.data.toList = true := decide_eq_true p1
              obtain ⟨kb, hkb, hkd⟩ : ∃ kb : ByteArray, lb.extract 0 k = kb ∧ kb.data.toList = lb.data.toList.take k := ⟨_, rfl, by rw [Lib.extract_data]; simp⟩
              obtain ⟨nb, hnb, hnd⟩ : ∃ nb : ByteArray, lb.extract (k + 1) lb.size = nb ∧ nb.data.toList = lb.data.toList.drop (k + 1) := ⟨_, rfl, by rw [Lib.extract_data]; exact List.take_of_length_le (by simp)⟩
              have hns : nb.size ≤ 281474976710656 := by
                rw [Lib.size_eq, hnd]; simp; omega
              rw [← hkd] at p2
              rw [← hnd] at p3
              have HE1 : Hid (opOf kb.data.toList = 0 → parL 0 zer s.data.toList = (7, zer)) := fun h => by
                have e : entE lb.data.toList = 7 := by unfold entE; rw [if_neg (by simp [hhas]), p2, if_pos h]
                rw [HL.out, if_pos (by rw [e]; decide), e]
              have HE2 : Hid (¬ opOf kb.data.toList = 0 → posV nb.data.toList = 0 → parL 0 zer s.data.toList = (2, zer)) := fun h h2 => by
                have e : entE lb.data.toList = 2 := by unfold entE; rw [if_neg (by simp [hhas]), p2, if_neg h, p3, if_pos h2]
                rw [HL.out, if_pos (by rw [e]; decide), e]
              have HE3 : Hid (¬ opOf kb.data.toList = 0 → ¬ posV nb.data.toList = 0 → opOf kb.data.toList ≤ last → parL 0 zer s.data.toList = (2, zer)) := fun h h2 h3 => by
                have e : entE lb.data.toList = 0 := by unfold entE; rw [if_neg (by simp [hhas]), p2, if_neg h, p3, if_neg h2]
                rw [HL.out, if_neg (by simpa using e)]
                unfold entOp
                rw [p2, if_pos h3]
              have HE4 : Hid (¬ opOf kb.data.toList = 0 → ¬ posV nb.data.toList = 0 → ¬ opOf kb.data.toList ≤ last → parL 0 zer s.data.toList = parL (opOf kb.data.toList) (upd t (opOf kb.data.toList) (posV nb.data.toList)) (s.data.toList.drop (i + 1))) := fun h h2 h3 => by
                have e : entE lb.data.toList = 0 := by unfold entE; rw [if_neg (by simp [hhas]), p2, if_neg h, p3, if_neg h2]
                rw [HL.out, if_neg (by simpa using e)]
                unfold entOp entV
                rw [p2, p3, if_neg h3]
              clear p1 p2 p3 hhas hkd hnd HL HN HY
              have dke : ((k : Int) == (lb.size : Int)) = false := beq_eq_false_iff_ne.2 (by omega)
              have k0 : (0 : Int) ≤ (k : Int) := by omega
              have k1 : (k : Int) ≤ (lb.size : Int) := by omega
              have k2 : (0 : Int) ≤ (k : Int) + 1 := by omega
              have k3 : (k : Int) + 1 ≤ (lb.size : Int) := by omega
              go_wp2
              go_loopw [13, 61] (fun s13 s61 wx => ∃ j m : Nat, j ≤ 18 ∧ s61 = .int .i64 (j : Nat) ∧ s13 = .int .i64 (opTo j kb.data.toList : Nat) ∧ wx = wr.drewN m) (fun _ s61 _ => 18 - (intOf s61).toNat)
              case atStart => exact ⟨0, n, by omega, rfl, by rw [opTo_zero]; rfl, rfl⟩
              case round =>
                obtain ⟨j, m, hj, rfl, rfl, rfl⟩ := hrel
                by_cases hj18 : j < 18
                · have hjz : (j : Int) < 18 := by omega
                  have hj0 : (0 : Int) ≤ (j : Int) := by omega
                  by_cases hjp : 1 ≤ j
                  · have hcell := HM.out.n.cell j hjp hj18
                    have djp : decide ((0 : Int) < (j : Int)) = true := decide_eq_true (by omega)
                    by_cases hq : nm j = kb.data.toList
                    · have dq : (nm j == kb.toList) = true := by rw [Lib.toList_data]; simpa using hq
                      have HO := keep (opTo_hit hjp (by omega) hq)
                      clear hq
                      go_wp2
                      go_roundw
                      case rel => exact ⟨j + 1, m, by omega, by go_num, by rw [HO.out], rfl⟩
                      case measure => simp [intOf]; omega
                    · have dq : (nm j == kb.toList) = false := by rw [Lib.toList_data]; simpa using hq
                      have HO := keep (opTo_miss hq)
                      clear hq
                      go_wp2
                      go_roundw
                      case rel => exact ⟨j + 1, m, by omega, by go_num, by rw [HO.out], rfl⟩
                      case measure => simp [intOf]; omega
                  · have hje : j = 0 := by omega
                    subst hje
                    have hcell := HM.out.n.zero
                    have HO := keep ((opTo_one kb.data.toList).trans (opTo_zero kb.data.toList).symm)
                    go_wp2
                    go_roundw
                    case rel => exact ⟨1, m, by omega, rfl, by rw [HO.out], rfl⟩
                    case measure => simp [intOf]
                · have hje : j = 18 := by omega
                  subst hje
                  rw [opTo_end]
                  by_cases ho : opOf kb.data.toList = 0
                  · have HF := keep (HE1.out ho)
                    rw [ho]
                    clear HE1 HE2 HE3 HE4 ho
                    go_wp2_with fail
                    refine (no_any 7 _).mono ?_
                    rintro e w3 ⟨rfl, hb3⟩
                    have HM3 := keep (HM.out.grow (Below.trans (Tb.below_drewN (Below.refl _ _) m) hb3))
                    clear hb3
                    go_wp2_with (refine store_tab rfl _ _ rfl w.heap.size zer zer rfl rfl HM3.out.z ?_)
                    refine bodyPost_ret (v := .tuple #[.agg (tabA zer), .int .i64 7]) (ret_tab rfl _ _ w.heap.size zer 7 rfl rfl HM3.out.z.row) rfl ⟨?_, below_setRow HM3.out.below (Nat.le_refl _) _⟩
                    unfold parEnd
                    rw [HF.out]
                  · obtain ⟨-, o1, o2⟩ := opOf_some ho
                    have HO := keep ho
                    clear ho HE1
                    generalize opOf kb.data.toList = op at *
                    have o0 : ¬ (op : Int) = 0 := by omega
                    go_wp2_with fail
                    have HMd := keep (HM.out.drewN m)
                    refine (atoi_any nb hns _ HMd.out.tabs).mono ?_
                    rintro e w3 ⟨ha, hb3⟩
                    have HM3 := keep (HMd.out.grow hb3)
                    clear hb3 HMd HM
                    rcases ha with ⟨v, hv, v0, v1, rfl⟩ | ⟨hno, mm, N, rfl⟩
                    · have hP := posV_ok hv
                      have HIt := keep (fun W hW => itoa_mem (w := w) (bN := bN) (t := t) v ⟨v0, v1⟩ W hW)
                      have hg : MemD w bN t w3 := HM3.out.d
                      clear hv
                      by_cases hq : Lib.itoa v = nb.data.toList
                      · have dq : (Lib.itoa v == nb.toList) = true := by rw [Lib.toList_data]; simpa using hq
                        by_cases hv1 : v < 1
                        · have dv : v < 1 := hv1
                          have HF := keep (HE2.out HO.out (by rw [hP, if_neg (by omega)]))
                          clear HE2 HE3 HE4 hP hq hv1
                          generalize Lib.itoa v = D at *
                          go_wp2
                          have hwr : IntKind.i64.wrap ((k : Int) + 1) = (k : Int) + 1 := by rw [IntKind.wrap_i64]; omega
                          have kk2 : (0 : Int) ≤ (k : Int) + 1 := by omega
                          have kk3 : (k : Int) + 1 ≤ (lb.size : Int) := by omega
                          refine wp_region_noPanic ?_
                          refine wp_region_held_drew (S := fun w' => MemD w bN t w') (by kernel_rfl) (by exact hg) (fun hHeld => ?_)
                          refine wpAnyH_take (i := 0) (v := .nilIface) (by simp only [List.getElem?_toArray, List.getElem?_cons_zero, List.getElem?_cons_succ]; rfl) (by kernel_rfl) (by kernel_rfl) (by kernel_rfl) (fun _ _ _ h => h) (Or.inl ⟨by rfl, by intro W hW; go_simp⟩) (by exact hHeld) ?_
                          try simp only [Act.put, List.setIfInBounds_toArray, List.set_cons_zero, List.set_cons_succ]
                          refine wpAnyH_take (i := 1) (v := .bool false) (by simp only [List.getElem?_toArray, List.getElem?_cons_zero, List.getElem?_cons_succ]; rfl) (by kernel_rfl) (by kernel_rfl) (by kernel_rfl) (fun _ _ _ h => h) (Or.inl ⟨by rfl, by intro W hW; go_simp⟩) (by exact hHeld) ?_
                          try simp only [Act.put, List.setIfInBounds_toArray, List.set_cons_zero, List.set_cons_succ]
                          refine wpAnyH_take (i := 2) (v := .bool false) (by simp only [List.getElem?_toArray, List.getElem?_cons_zero, List.getElem?_cons_succ]; rfl) (by kernel_rfl) (by kernel_rfl) (by kernel_rfl) (fun _ _ _ h => h) (Or.inl ⟨by rfl, by intro W hW; go_simp⟩) (by exact hHeld) ?_
                          try simp only [Act.put, List.setIfInBounds_toArray, List.set_cons_zero, List.set_cons_succ]
                          refine wpAnyH_take (i := 3) (v := .int .i64 v) (by simp only [List.getElem?_toArray, List.getElem?_cons_zero, List.getElem?_cons_succ]; rfl) (by kernel_rfl) (by kernel_rfl) (by kernel_rfl) (fun _ _ _ h => h) (Or.inl ⟨by rfl, by intro W hW; go_simp⟩) (by exact hHeld) ?_
                          try simp only [Act.put, List.setIfInBounds_toArray, List.set_cons_zero, List.set_cons_succ]
                          refine wpAnyH_take (i := 5) (v := .string lb) (by simp only [List.getElem?_toArray, List.getElem?_cons_zero, List.getElem?_cons_succ]; rfl) (by kernel_rfl) (by kernel_rfl) (by kernel_rfl) (fun _ _ _ h => h) (Or.inl ⟨by rfl, by intro W hW; go_simp⟩) (by exact hHeld) ?_
                          try simp only [Act.put, List.setIfInBounds_toArray, List.set_cons_zero, List.set_cons_succ]
                          refine wpAnyH_take (i := 6) (v := .int .i64 (k : Int)) (by simp only [List.getElem?_toArray, List.getElem?_cons_zero, List.getElem?_cons_succ]; rfl) (by kernel_rfl) (by kernel_rfl) (by kernel_rfl) (fun _ _ _ h => h) (Or.inl ⟨by rfl, by intro W hW; go_simp⟩) (by exact hHeld) ?_
                          try simp only [Act.put, List.setIfInBounds_toArray, List.set_cons_zero, List.set_cons_succ]
                          refine wpAnyH_take (i := 7) (v := .int .i64 ((k : Int) + 1)) (by simp only [List.getElem?_toArray, List.getElem?_cons_zero, List.getElem?_cons_succ]; rfl) (by kernel_rfl) (by kernel_rfl) (by kernel_rfl) (fun _ _ _ h => h) (Or.inl ⟨by rfl, by intro W hW; go_simp⟩) (by exact hHeld) ?_
                          try simp only [Act.put, List.setIfInBounds_toArray, List.set_cons_zero, List.set_cons_succ]
                          refine wpAnyH_take (i := 8) (v := .string nb) (by simp only [List.getElem?_toArray, List.getElem?_cons_zero, List.getElem?_cons_succ]; rfl) (by kernel_rfl) (by kernel_rfl) (by kernel_rfl) (fun _ _ _ h => h) (Or.inl ⟨by rfl, by intro W hW; go_simp⟩) (by exact hHeld) ?_
                          try simp only [Act.put, List.setIfInBounds_toArray, List.set_cons_zero, List.set_cons_succ]
                          refine wpAnyH_ready (rs := [4]) (by kernel_rfl) (by simp) ?_
                          refine AllReadyH.cons (by simp only [List.getElem?_toArray, List.getElem?_cons_zero, List.getElem?_cons_succ]; rfl) (fun K hK => ?_) AllReadyH.nil
                          go_simp
                          refine (HIt.out _ hHeld).mono ?_
                          rintro e w4 ⟨rfl, hg'⟩
                          clear hHeld
                          go_simp
                          refine hK.out _ _ (by exact hg') (fun hHeld => ?_)
                          clear hK K
                          try simp only [Act.put, List.setIfInBounds_toArray, List.set_cons_zero, List.set_cons_succ]
                          refine wpAnyH_take (i := 9) (v := .bool false) (by simp only [List.getElem?_toArray, List.getElem?_cons_zero, List.getElem?_cons_succ]; rfl) (by kernel_rfl) (by kernel_rfl) (by kernel_rfl) (fun _ _ _ h => h) (Or.inl ⟨by rfl, by intro W hW; go_simp⟩) (by exact hHeld) ?_
                          try simp only [Act.put, List.setIfInBounds_toArray, List.set_cons_zero, List.set_cons_succ]
                          refine wpAnyH_take (i := 10) (v := .bool false) (by simp only [List.getElem?_toArray, List.getElem?_cons_zero, List.getElem?_cons_succ]; rfl) (by kernel_rfl) (by kernel_rfl) (by kernel_rfl) (fun _ _ _ h => h) (Or.inl ⟨by rfl, by intro W hW; go_simp⟩) (by exact hHeld) ?_
                          try simp only [Act.put, List.setIfInBounds_toArray, List.set_cons_zero, List.set_cons_succ]
                          refine wpAnyH_take (i := 11) (v := .bool false) (by simp only [List.getElem?_toArray, List.getElem?_cons_zero, List.getElem?_cons_succ]; rfl) (by kernel_rfl) (by kernel_rfl) (by kernel_rfl) (fun _ _ _ h => h) (Or.inl ⟨by rfl, by intro W hW; go_simp⟩) (by exact hHeld) ?_
                          try simp only [Act.put, List.setIfInBounds_toArray, List.set_cons_zero, List.set_cons_succ]
                          refine wpAnyH_take (i := 12) (v := .int .i64 v) (by simp only [List.getElem?_toArray, List.getElem?_cons_zero, List.getElem?_cons_succ]; rfl) (by kernel_rfl) (by kernel_rfl) (by kernel_rfl) (fun _ _ _ h => h) (Or.inl ⟨by rfl, by intro W hW; go_simp⟩) (by exact hHeld) ?_
                          try simp only [Act.put, List.setIfInBounds_toArray, List.set_cons_zero, List.set_cons_succ]
                          refine wpAnyH_take (i := 13) (v := .bool true) (by simp only [List.getElem?_toArray, List.getElem?_cons_zero, List.getElem?_cons_succ]; rfl) (by kernel_rfl) (by kernel_rfl) (by kernel_rfl) (fun _ _ _ h => h) (Or.inl ⟨by rfl, by intro W hW; go_simp⟩) (by exact hHeld) ?_
                          try simp only [Act.put, List.setIfInBounds_toArray, List.set_cons_zero, List.set_cons_succ]
                          refine wpAnyH_take (i := 14) (v := .bool true) (by simp only [List.getElem?_toArray, List.getElem?_cons_zero, List.getElem?_cons_succ]; rfl) (by kernel_rfl) (by kernel_rfl) (by kernel_rfl) (fun _ _ _ h => h) (Or.inl ⟨by rfl, by intro W hW; go_simp⟩) (by exact hHeld) ?_
                          try simp only [Act.put, List.setIfInBounds_toArray, List.set_cons_zero, List.set_cons_succ]
                          refine wpAnyH_take (i := 15) (v := .bool true) (by simp only [List.getElem?_toArray, List.getElem?_cons_zero, List.getElem?_cons_succ]; rfl) (by kernel_rfl) (by kernel_rfl) (by kernel_rfl) (fun _ _ _ h => h) (Or.inl ⟨by rfl, by intro W hW; go_simp⟩) (by exact hHeld) ?_
                          try simp only [Act.put, List.setIfInBounds_toArray, List.set_cons_zero, List.set_cons_succ]
                          refine wpAnyH_take (i := 16) (v := undef) (by simp only [List.getElem?_toArray, List.getElem?_cons_zero, List.getElem?_cons_succ]; rfl) (by kernel_rfl) (by kernel_rfl) (by kernel_rfl) (fun _ _ _ h => h) (Or.inr ⟨by rfl, rfl⟩) (by exact hHeld) ?_
                          try simp only [Act.put, List.setIfInBounds_toArray, List.set_cons_zero, List.set_cons_succ]
                          refine wpAnyH_take (i := 17) (v := undef) (by simp only [List.getElem?_toArray, List.getElem?_cons_zero, List.getElem?_cons_succ]; rfl) (by kernel_rfl) (by kernel_rfl) (by kernel_rfl) (fun _ _ _ h => h) (Or.inr ⟨by rfl, rfl⟩) (by exact hHeld) ?_
                          try simp only [Act.put, List.setIfInBounds_toArray, List.set_cons_zero, List.set_cons_succ]
                          refine wpAnyH_take (i := 18) (v := undef) (by simp only [List.getElem?_toArray, List.getElem?_cons_zero, List.getElem?_cons_succ]; rfl) (by kernel_rfl) (by kernel_rfl) (by kernel_rfl) (fun _ _ _ h => h) (Or.inr ⟨by rfl, rfl⟩) (by exact hHeld) ?_
                          try simp only [Act.put, List.setIfInBounds_toArray, List.set_cons_zero, List.set_cons_succ]
                          refine wpAnyH_take (i := 19) (v := .bool true) (by simp only [List.getElem?_toArray, List.getElem?_cons_zero, List.getElem?_cons_succ]; rfl) (by kernel_rfl) (by kernel_rfl) (by kernel_rfl) (fun _ _ _ h => h) (Or.inl ⟨by rfl, by intro W hW; go_simp⟩) (by exact hHeld) ?_
                          try simp only [Act.put, List.setIfInBounds_toArray, List.set_cons_zero, List.set_cons_succ]
                          refine wpAnyH_done (by kernel_rfl) ?_ _
                          refine NoPanic.normal ?_
                          clear hwr kk2 kk3
                          go_wp2_with fail
                          refine (no_any 2 _).mono ?_
                          rintro e' w5 ⟨rfl, hb5⟩
                          have HM5 := keep (hg'.out.grow hb5)
                          clear hb5
                          go_wp2_with (refine store_tab rfl _ _ rfl w.heap.size zer zer rfl rfl HM5.out.z ?_)
                          refine bodyPost_ret (v := .tuple #[.agg (tabA zer), .int .i64 2]) (ret_tab rfl _ _ w.heap.size zer 2 rfl rfl HM5.out.z.row) rfl ⟨?_, below_setRow HM5.out.below (Nat.le_refl _) _⟩
                          unfold parEnd
                          rw [HF.out]
                        · have dv : ¬ v < 1 := hv1
                          have hpv : posV nb.data.toList = v := by rw [hP, if_pos ⟨by omega, hq⟩]
                          have hpn : ¬ posV nb.data.toList = 0 := by rw [hpv]; omega
                          by_cases hol : op ≤ last
                          · have HF := keep (HE3.out HO.out hpn hol)
                            have hoz : (op : Int) ≤ (last : Int) := by omega
                            clear HE2 HE3 HE4 hP hq hpv hpn
                            generalize Lib.itoa v = D at *
                            go_wp2
                            have hwr : IntKind.i64.wrap ((k : Int) + 1) = (k : Int) + 1 := by rw [IntKind.wrap_i64]; omega
                            have kk2 : (0 : Int) ≤ (k : Int) + 1 := by omega
                            have kk3 : (k : Int) + 1 ≤ (lb.size : Int) := by omega
                            refine wp_region_noPanic ?_
                            refine wp_region_held_drew (S := fun w' => MemD w bN t w') (by kernel_rfl) (by exact hg) (fun hHeld => ?_)
                            refine wpAnyH_take (i := 0) (v := .nilIface) (by simp only [List.getElem?_toArray, List.getElem?_cons_zero, List.getElem?_cons_succ]; rfl) (by kernel_rfl) (by kernel_rfl) (by kernel_rfl) (fun _ _ _ h => h) (Or.inl ⟨by rfl, by intro W hW; go_simp⟩) (by exact hHeld) ?_
                            try simp only [Act.put, List.setIfInBounds_toArray, List.set_cons_zero, List.set_cons_succ]
                            refine wpAnyH_take (i := 1) (v := .bool false) (by simp only [List.getElem?_toArray, List.getElem?_cons_zero, List.getElem?_cons_succ]; rfl) (by kernel_rfl) (by kernel_rfl) (by kernel_rfl) (fun _ _ _ h => h) (Or.inl ⟨by rfl, by intro W hW; go_simp⟩) (by exact hHeld) ?_
                            try simp only [Act.put, List.setIfInBounds_toArray, List.set_cons_zero, List.set_cons_succ]
                            refine wpAnyH_take (i := 2) (v := .bool false) (by simp only [List.getElem?_toArray, List.getElem?_cons_zero, List.getElem?_cons_succ]; rfl) (by kernel_rfl) (by kernel_rfl) (by kernel_rfl) (fun _ _ _ h => h) (Or.inl ⟨by rfl, by intro W hW; go_simp⟩) (by exact hHeld) ?_
                            try simp only [Act.put, List.setIfInBounds_toArray, List.set_cons_zero, List.set_cons_succ]
                            refine wpAnyH_take (i := 3) (v := .int .i64 v) (by simp only [List.getElem?_toArray, List.getElem?_cons_zero, List.getElem?_cons_succ]; rfl) (by kernel_rfl) (by kernel_rfl) (by kernel_rfl) (fun _ _ _ h => h) (Or.inl ⟨by rfl, by intro W hW; go_simp⟩) (by exact hHeld) ?_
                            try simp only [Act.put, List.setIfInBounds_toArray, List.set_cons_zero, List.set_cons_succ]
                            refine wpAnyH_take (i := 5) (v := .string lb) (by simp only [List.getElem?_toArray, List.getElem?_cons_zero, List.getElem?_cons_succ]; rfl) (by kernel_rfl) (by kernel_rfl) (by kernel_rfl) (fun _ _ _ h => h) (Or.inl ⟨by rfl, by intro W hW; go_simp⟩) (by exact hHeld) ?_
                            try simp only [Act.put, List.setIfInBounds_toArray, List.set_cons_zero, List.set_cons_succ]
                            refine wpAnyH_take (i := 6) (v := .int .i64 (k : Int)) (by simp only [List.getElem?_toArray, List.getElem?_cons_zero, List.getElem?_cons_succ]; rfl) (by kernel_rfl) (by kernel_rfl) (by kernel_rfl) (fun _ _ _ h => h) (Or.inl ⟨by rfl, by intro W hW; go_simp⟩) (by exact hHeld) ?_
                            try simp only [Act.put, List.setIfInBounds_toArray, List.set_cons_zero, List.set_cons_succ]
                            refine wpAnyH_take (i := 7) (v := .int .i64 ((k : Int) + 1)) (by simp only [List.getElem?_toArray, List.getElem?_cons_zero, List.getElem?_cons_succ]; rfl) (by kernel_rfl) (by kernel_rfl) (by kernel_rfl) (fun _ _ _ h => h) (Or.inl ⟨by rfl, by intro W hW; go_simp⟩) (by exact hHeld) ?_
                            try simp only [Act.put, List.setIfInBounds_toArray, List.set_cons_zero, List.set_cons_succ]
                            refine wpAnyH_take (i := 8) (v := .string nb) (by simp only [List.getElem?_toArray, List.getElem?_cons_zero, List.getElem?_cons_succ]; rfl) (by kernel_rfl) (by kernel_rfl) (by kernel_rfl) (fun _ _ _ h => h) (Or.inl ⟨by rfl, by intro W hW; go_simp⟩) (by exact hHeld) ?_
                            try simp only [Act.put, List.setIfInBounds_toArray, List.set_cons_zero, List.set_cons_succ]
                            refine wpAnyH_ready (rs := [4]) (by kernel_rfl) (by simp) ?_
                            refine AllReadyH.cons (by simp only [List.getElem?_toArray, List.getElem?_cons_zero, List.getElem?_cons_succ]; rfl) (fun K hK => ?_) AllReadyH.nil
                            go_simp
                            refine (HIt.out _ hHeld).mono ?_
                            rintro e w4 ⟨rfl, hg'⟩
                            clear hHeld
                            go_simp
                            refine hK.out _ _ (by exact hg') (fun hHeld => ?_)
                            clear hK K
                            try simp only [Act.put, List.setIfInBounds_toArray, List.set_cons_zero, List.set_cons_succ]
                            refine wpAnyH_take (i := 9) (v := .bool false) (by simp only [List.getElem?_toArray, List.getElem?_cons_zero, List.getElem?_cons_succ]; rfl) (by kernel_rfl) (by kernel_rfl) (by kernel_rfl) (fun _ _ _ h => h) (Or.inl ⟨by rfl, by intro W hW; go_simp⟩) (by exact hHeld) ?_
                            try simp only [Act.put, List.setIfInBounds_toArray, List.set_cons_zero, List.set_cons_succ]
                            refine wpAnyH_take (i := 10) (v := .bool false) (by simp only [List.getElem?_toArray, List.getElem?_cons_zero, List.getElem?_cons_succ]; rfl) (by kernel_rfl) (by kernel_rfl) (by kernel_rfl) (fun _ _ _ h => h) (Or.inl ⟨by rfl, by intro W hW; go_simp⟩) (by exact hHeld) ?_
                            try simp only [Act.put, List.setIfInBounds_toArray, List.set_cons_zero, List.set_cons_succ]
                            refine wpAnyH_take (i := 11) (v := .bool false) (by simp only [List.getElem?_toArray, List.getElem?_cons_zero, List.getElem?_cons_succ]; rfl) (by kernel_rfl) (by kernel_rfl) (by kernel_rfl) (fun _ _ _ h => h) (Or.inl ⟨by rfl, by intro W hW; go_simp⟩) (by exact hHeld) ?_
                            try simp only [Act.put, List.setIfInBounds_toArray, List.set_cons_zero, List.set_cons_succ]
                            refine wpAnyH_take (i := 12) (v := .int .i64 v) (by simp only [List.getElem?_toArray, List.getElem?_cons_zero, List.getElem?_cons_succ]; rfl) (by kernel_rfl) (by kernel_rfl) (by kernel_rfl) (fun _ _ _ h => h) (Or.inl ⟨by rfl, by intro W hW; go_simp⟩) (by exact hHeld) ?_
                            try simp only [Act.put, List.setIfInBounds_toArray, List.set_cons_zero, List.set_cons_succ]
                            refine wpAnyH_take (i := 13) (v := .bool false) (by simp only [List.getElem?_toArray, List.getElem?_cons_zero, List.getElem?_cons_succ]; rfl) (by kernel_rfl) (by kernel_rfl) (by kernel_rfl) (fun _ _ _ h => h) (Or.inl ⟨by rfl, by intro W hW; go_simp⟩) (by exact hHeld) ?_
                            try simp only [Act.put, List.setIfInBounds_toArray, List.set_cons_zero, List.set_cons_succ]
                            refine wpAnyH_take (i := 14) (v := .bool false) (by simp only [List.getElem?_toArray, List.getElem?_cons_zero, List.getElem?_cons_succ]; rfl) (by kernel_rfl) (by kernel_rfl) (by kernel_rfl) (fun _ _ _ h => h) (Or.inl ⟨by rfl, by intro W hW; go_simp⟩) (by exact hHeld) ?_
                            try simp only [Act.put, List.setIfInBounds_toArray, List.set_cons_zero, List.set_cons_succ]
                            refine wpAnyH_take (i := 15) (v := .bool false) (by simp only [List.getElem?_toArray, List.getElem?_cons_zero, List.getElem?_cons_succ]; rfl) (by kernel_rfl) (by kernel_rfl) (by kernel_rfl) (fun _ _ _ h => h) (Or.inl ⟨by rfl, by intro W hW; go_simp⟩) (by exact hHeld) ?_
                            try simp only [Act.put, List.setIfInBounds_toArray, List.set_cons_zero, List.set_cons_succ]
                            refine wpAnyH_take (i := 16) (v := .int .i64 (op : Int)) (by simp only [List.getElem?_toArray, List.getElem?_cons_zero, List.getElem?_cons_succ]; rfl) (by kernel_rfl) (by kernel_rfl) (by kernel_rfl) (fun _ _ _ h => h) (Or.inl ⟨by rfl, by intro W hW; go_simp⟩) (by exact hHeld) ?_
                            try simp only [Act.put, List.setIfInBounds_toArray, List.set_cons_zero, List.set_cons_succ]
                            refine wpAnyH_take (i := 17) (v := .int .i64 (last : Int)) (by simp only [List.getElem?_toArray, List.getElem?_cons_zero, List.getElem?_cons_succ]; rfl) (by kernel_rfl) (by kernel_rfl) (by kernel_rfl) (fun _ _ _ h => h) (Or.inl ⟨by rfl, by intro W hW; go_simp⟩) (by exact hHeld) ?_
                            try simp only [Act.put, List.setIfInBounds_toArray, List.set_cons_zero, List.set_cons_succ]
                            refine wpAnyH_take (i := 18) (v := .bool true) (by simp only [List.getElem?_toArray, List.getElem?_cons_zero, List.getElem?_cons_succ]; rfl) (by kernel_rfl) (by kernel_rfl) (by kernel_rfl) (fun _ _ _ h => h) (Or.inl ⟨by rfl, by intro W hW; go_simp⟩) (by exact hHeld) ?_
                            try simp only [Act.put, List.setIfInBounds_toArray, List.set_cons_zero, List.set_cons_succ]
                            refine wpAnyH_take (i := 19) (v := .bool true) (by simp only [List.getElem?_toArray, List.getElem?_cons_zero, List.getElem?_cons_succ]; rfl) (by kernel_rfl) (by kernel_rfl) (by kernel_rfl) (fun _ _ _ h => h) (Or.inl ⟨by rfl, by intro W hW; go_simp⟩) (by exact hHeld) ?_
                            try simp only [Act.put, List.setIfInBounds_toArray, List.set_cons_zero, List.set_cons_succ]
                            refine wpAnyH_done (by kernel_rfl) ?_ _
                            refine NoPanic.normal ?_
                            clear hwr kk2 kk3
                            go_wp2_with fail
                            refine (no_any 2 _).mono ?_
                            rintro e' w5 ⟨rfl, hb5⟩
                            have HM5 := keep (hg'.out.grow hb5)
                            clear hb5
                            go_wp2_with (refine store_tab rfl _ _ rfl w.heap.size zer zer rfl rfl HM5.out.z ?_)
                            refine bodyPost_ret (v := .tuple #[.agg (tabA zer), .int .i64 2]) (ret_tab rfl _ _ w.heap.size zer 2 rfl rfl HM5.out.z.row) rfl ⟨?_, below_setRow HM5.out.below (Nat.le_refl _) _⟩
                            unfold parEnd
                            rw [HF.out]
                          · have HF := keep (HE4.out HO.out hpn hol)
                            rw [hpv] at HF
                            have H64' : Hid (I64 (upd t op v)) := fun j => by
                              unfold upd
                              by_cases e : j = op
                              · rw [if_pos e]; exact ⟨v0, v1⟩
                              · rw [if_neg e]; exact H64.out j
                            have hoz : ¬ ((op : Int) ≤ (last : Int)) := by omega
                            have ho0 : (0 : Int) ≤ (op : Int) := by omega
                            have ho18 : (op : Int) < 18 := by omega
                            clear HE2 HE3 HE4 hP hq hpv hpn
                            generalize Lib.itoa v = D at *
                            go_wp2
                            have hwr : IntKind.i64.wrap ((k : Int) + 1) = (k : Int) + 1 := by rw [IntKind.wrap_i64]; omega
                            have kk2 : (0 : Int) ≤ (k : Int) + 1 := by omega
                            have kk3 : (k : Int) + 1 ≤ (lb.size : Int) := by omega
                            refine wp_region_noPanic ?_
                            refine wp_region_held_drew (S := fun w' => MemD w bN t w') (by kernel_rfl) (by exact hg) (fun hHeld => ?_)
                            refine wpAnyH_take (i := 0) (v := .nilIface) (by simp only [List.getElem?_toArray, List.getElem?_cons_zero, List.getElem?_cons_succ]; rfl) (by kernel_rfl) (by kernel_rfl) (by kernel_rfl) (fun _ _ _ h => h) (Or.inl ⟨by rfl, by intro W hW; go_simp⟩) (by exact hHeld) ?_
                            try simp only [Act.put, List.setIfInBounds_toArray, List.set_cons_zero, List.set_cons_succ]
                            refine wpAnyH_take (i := 1) (v := .bool false) (by simp only [List.getElem?_toArray, List.getElem?_cons_zero, List.getElem?_cons_succ]; rfl) (by kernel_rfl) (by kernel_rfl) (by kernel_rfl) (fun _ _ _ h => h) (Or.inl ⟨by rfl, by intro W hW; go_simp⟩) (by exact hHeld) ?_
                            try simp only [Act.put, List.setIfInBounds_toArray, List.set_cons_zero, List.set_cons_succ]
                            refine wpAnyH_take (i := 2) (v := .bool false) (by simp only [List.getElem?_toArray, List.getElem?_cons_zero, List.getElem?_cons_succ]; rfl) (by kernel_rfl) (by kernel_rfl) (by kernel_rfl) (fun _ _ _ h => h) (Or.inl ⟨by rfl, by intro W hW; go_simp⟩) (by exact hHeld) ?_
                            try simp only [Act.put, List.setIfInBounds_toArray, List.set_cons_zero, List.set_cons_succ]
                            refine wpAnyH_take (i := 3) (v := .int .i64 v) (by simp only [List.getElem?_toArray, List.getElem?_cons_zero, List.getElem?_cons_succ]; rfl) (by kernel_rfl) (by kernel_rfl) (by kernel_rfl) (fun _ _ _ h => h) (Or.inl ⟨by rfl, by intro W hW; go_simp⟩) (by exact hHeld) ?_
                            try simp only [Act.put, List.setIfInBounds_toArray, List.set_cons_zero, List.set_cons_succ]
                            refine wpAnyH_take (i := 5) (v := .string lb) (by simp only [List.getElem?_toArray, List.getElem?_cons_zero, List.getElem?_cons_succ]; rfl) (by kernel_rfl) (by kernel_rfl) (by kernel_rfl) (fun _ _ _ h => h) (Or.inl ⟨by rfl, by intro W hW; go_simp⟩) (by exact hHeld) ?_
                            try simp only [Act.put, List.setIfInBounds_toArray, List.set_cons_zero, List.set_cons_succ]
                            refine wpAnyH_take (i := 6) (v := .int .i64 (k : Int)) (by simp only [List.getElem?_toArray, List.getElem?_cons_zero, List.getElem?_cons_succ]; rfl) (by kernel_rfl) (by kernel_rfl) (by kernel_rfl) (fun _ _ _ h => h) (Or.inl ⟨by rfl, by intro W hW; go_simp⟩) (by exact hHeld) ?_
                            try simp only [Act.put, List.setIfInBounds_toArray, List.set_cons_zero, List.set_cons_succ]
                            refine wpAnyH_take (i := 7) (v := .int .i64 ((k : Int) + 1)) (by simp only [List.getElem?_toArray, List.getElem?_cons_zero, List.getElem?_cons_succ]; rfl) (by kernel_rfl) (by kernel_rfl) (by kernel_rfl) (fun _ _ _ h => h) (Or.inl ⟨by rfl, by intro W hW; go_simp⟩) (by exact hHeld) ?_
                            try simp only [Act.put, List.setIfInBounds_toArray, List.set_cons_zero, List.set_cons_succ]
                            refine wpAnyH_take (i := 8) (v := .string nb) (by simp only [List.getElem?_toArray, List.getElem?_cons_zero, List.getElem?_cons_succ]; rfl) (by kernel_rfl) (by kernel_rfl) (by kernel_rfl) (fun _ _ _ h => h) (Or.inl ⟨by rfl, by intro W hW; go_simp⟩) (by exact hHeld) ?_
                            try simp only [Act.put, List.setIfInBounds_toArray, List.set_cons_zero, List.set_cons_succ]
                            refine wpAnyH_ready (rs := [4]) (by kernel_rfl) (by simp) ?_
                            refine AllReadyH.cons (by simp only [List.getElem?_toArray, List.getElem?_cons_zero, List.getElem?_cons_succ]; rfl) (fun K hK => ?_) AllReadyH.nil
                            go_simp
                            refine (HIt.out _ hHeld).mono ?_
                            rintro e w4 ⟨rfl, hg'⟩
                            clear hHeld
                            go_simp
                            refine hK.out _ _ (by exact hg') (fun hHeld => ?_)
                            clear hK K
                            try simp only [Act.put, List.setIfInBounds_toArray, List.set_cons_zero, List.set_cons_succ]
                            refine wpAnyH_take (i := 9) (v := .bool false) (by simp only [List.getElem?_toArray, List.getElem?_cons_zero, List.getElem?_cons_succ]; rfl) (by kernel_rfl) (by kernel_rfl) (by kernel_rfl) (fun _ _ _ h => h) (Or.inl ⟨by rfl, by intro W hW; go_simp⟩) (by exact hHeld) ?_
                            try simp only [Act.put, List.setIfInBounds_toArray, List.set_cons_zero, List.set_cons_succ]
                            refine wpAnyH_take (i := 10) (v := .bool false) (by simp only [List.getElem?_toArray, List.getElem?_cons_zero, List.getElem?_cons_succ]; rfl) (by kernel_rfl) (by kernel_rfl) (by kernel_rfl) (fun _ _ _ h => h) (Or.inl ⟨by rfl, by intro W hW; go_simp⟩) (by exact hHeld) ?_
                            try simp only [Act.put, List.setIfInBounds_toArray, List.set_cons_zero, List.set_cons_succ]
                            refine wpAnyH_take (i := 11) (v := .bool false) (by simp only [List.getElem?_toArray, List.getElem?_cons_zero, List.getElem?_cons_succ]; rfl) (by kernel_rfl) (by kernel_rfl) (by kernel_rfl) (fun _ _ _ h => h) (Or.inl ⟨by rfl, by intro W hW; go_simp⟩) (by exact hHeld) ?_
                            try simp only [Act.put, List.setIfInBounds_toArray, List.set_cons_zero, List.set_cons_succ]
                            refine wpAnyH_take (i := 12) (v := .int .i64 v) (by simp only [List.getElem?_toArray, List.getElem?_cons_zero, List.getElem?_cons_succ]; rfl) (by kernel_rfl) (by kernel_rfl) (by kernel_rfl) (fun _ _ _ h => h) (Or.inl ⟨by rfl, by intro W hW; go_simp⟩) (by exact hHeld) ?_
                            try simp only [Act.put, List.setIfInBounds_toArray, List.set_cons_zero, List.set_cons_succ]
                            refine wpAnyH_take (i := 13) (v := .bool false) (by simp only [List.getElem?_toArray, List.getElem?_cons_zero, List.getElem?_cons_succ]; rfl) (by kernel_rfl) (by kernel_rfl) (by kernel_rfl) (fun _ _ _ h => h) (Or.inl ⟨by rfl, by intro W hW; go_simp⟩) (by exact hHeld) ?_
                            try simp only [Act.put, List.setIfInBounds_toArray, List.set_cons_zero, List.set_cons_succ]
                            refine wpAnyH_take (i := 14) (v := .bool false) (by simp only [List.getElem?_toArray, List.getElem?_cons_zero, List.getElem?_cons_succ]; rfl) (by kernel_rfl) (by kernel_rfl) (by kernel_rfl) (fun _ _ _ h => h) (Or.inl ⟨by rfl, by intro W hW; go_simp⟩) (by exact hHeld) ?_
                            try simp only [Act.put, List.setIfInBounds_toArray, List.set_cons_zero, List.set_cons_succ]
                            refine wpAnyH_take (i := 15) (v := .bool false) (by simp only [List.getElem?_toArray, List.getElem?_cons_zero, List.getElem?_cons_succ]; rfl) (by kernel_rfl) (by kernel_rfl) (by kernel_rfl) (fun _ _ _ h => h) (Or.inl ⟨by rfl, by intro W hW; go_simp⟩) (by exact hHeld) ?_
                            try simp only [Act.put, List.setIfInBounds_toArray, List.set_cons_zero, List.set_cons_succ]
                            refine wpAnyH_take (i := 16) (v := .int .i64 (op : Int)) (by simp only [List.getElem?_toArray, List.getElem?_cons_zero, List.getElem?_cons_succ]; rfl) (by kernel_rfl) (by kernel_rfl) (by kernel_rfl) (fun _ _ _ h => h) (Or.inl ⟨by rfl, by intro W hW; go_simp⟩) (by exact hHeld) ?_
                            try simp only [Act.put, List.setIfInBounds_toArray, List.set_cons_zero, List.set_cons_succ]
                            refine wpAnyH_take (i := 17) (v := .int .i64 (last : Int)) (by simp only [List.getElem?_toArray, List.getElem?_cons_zero, List.getElem?_cons_succ]; rfl) (by kernel_rfl) (by kernel_rfl) (by kernel_rfl) (fun _ _ _ h => h) (Or.inl ⟨by rfl, by intro W hW; go_simp⟩) (by exact hHeld) ?_
                            try simp only [Act.put, List.setIfInBounds_toArray, List.set_cons_zero, List.set_cons_succ]
                            refine wpAnyH_take (i := 18) (v := .bool false) (by simp only [List.getElem?_toArray, List.getElem?_cons_zero, List.getElem?_cons_succ]; rfl) (by kernel_rfl) (by kernel_rfl) (by kernel_rfl) (fun _ _ _ h => h) (Or.inl ⟨by rfl, by intro W hW; go_simp⟩) (by exact hHeld) ?_
                            try simp only [Act.put, List.setIfInBounds_toArray, List.set_cons_zero, List.set_cons_succ]
                            refine wpAnyH_take (i := 19) (v := .bool false) (by simp only [List.getElem?_toArray, List.getElem?_cons_zero, List.getElem?_cons_succ]; rfl) (by kernel_rfl) (by kernel_rfl) (by kernel_rfl) (fun _ _ _ h => h) (Or.inl ⟨by rfl, by intro W hW; go_simp⟩) (by exact hHeld) ?_
                            try simp only [Act.put, List.setIfInBounds_toArray, List.set_cons_zero, List.set_cons_succ]
                            refine wpAnyH_done (by kernel_rfl) ?_ _
                            refine NoPanic.normal ?_
                            clear hwr kk2 kk3
                            have HM4 := keep hg'.out
                            have hcell := HM4.out.k.lies op (by omega)
                            have hfr := HM4.out.k.frozen op
                            go_wp2
                            go_roundw
                            case rel =>
                              refine ⟨op, i + 1, i + 1, upd t op v, rfl, by go_num, by go_num, ⟨Nat.le_refl _, by omega, o2, by simp, HF.out.symm, H64'.out⟩, HM4.out.set HT.out HN1.out op (by omega) v⟩
                            case measure => simp [intOf]; omega
                      · have dq : (Lib.itoa v == nb.toList) = false := by rw [Lib.toList_data]; simpa using hq
                        have HF := keep (HE2.out HO.out (by rw [hP, if_neg (fun hh => hq hh.2)]))
                        clear HE2 HE3 HE4 hP hq
                        generalize Lib.itoa v = D at *
                        go_wp2
                        have hwr : IntKind.i64.wrap ((k : Int) + 1) = (k : Int) + 1 := by rw [IntKind.wrap_i64]; omega
                        have kk2 : (0 : Int) ≤ (k : Int) + 1 := by omega
                        have kk3 : (k : Int) + 1 ≤ (lb.size : Int) := by omega
                        refine wp_region_noPanic ?_
                        refine wp_region_held_drew (S := fun w' => MemD w bN t w') (by kernel_rfl) (by exact hg) (fun hHeld => ?_)
                        refine wpAnyH_take (i := 0) (v := .nilIface) (by simp only [List.getElem?_toArray, List.getElem?_cons_zero, List.getElem?_cons_succ]; rfl) (by kernel_rfl) (by kernel_rfl) (by kernel_rfl) (fun _ _ _ h => h) (Or.inl ⟨by rfl, by intro W hW; go_simp⟩) (by exact hHeld) ?_
                        try simp only [Act.put, List.setIfInBounds_toArray, List.set_cons_zero, List.set_cons_succ]
                        refine wpAnyH_take (i := 1) (v := .bool false) (by simp only [List.getElem?_toArray, List.getElem?_cons_zero, List.getElem?_cons_succ]; rfl) (by kernel_rfl) (by kernel_rfl) (by kernel_rfl) (fun _ _ _ h => h) (Or.inl ⟨by rfl, by intro W hW; go_simp⟩) (by exact hHeld) ?_
                        try simp only [Act.put, List.setIfInBounds_toArray, List.set_cons_zero, List.set_cons_succ]
                        refine wpAnyH_take (i := 2) (v := .bool false) (by simp only [List.getElem?_toArray, List.getElem?_cons_zero, List.getElem?_cons_succ]; rfl) (by kernel_rfl) (by kernel_rfl) (by kernel_rfl) (fun _ _ _ h => h) (Or.inl ⟨by rfl, by intro W hW; go_simp⟩) (by exact hHeld) ?_
                        try simp only [Act.put, List.setIfInBounds_toArray, List.set_cons_zero, List.set_cons_succ]
                        refine wpAnyH_take (i := 3) (v := .int .i64 v) (by simp only [List.getElem?_toArray, List.getElem?_cons_zero, List.getElem?_cons_succ]; rfl) (by kernel_rfl) (by kernel_rfl) (by kernel_rfl) (fun _ _ _ h => h) (Or.inl ⟨by rfl, by intro W hW; go_simp⟩) (by exact hHeld) ?_
                        try simp only [Act.put, List.setIfInBounds_toArray, List.set_cons_zero, List.set_cons_succ]
                        refine wpAnyH_take (i := 5) (v := .string lb) (by simp only [List.getElem?_toArray, List.getElem?_cons_zero, List.getElem?_cons_succ]; rfl) (by kernel_rfl) (by kernel_rfl) (by kernel_rfl) (fun _ _ _ h => h) (Or.inl ⟨by rfl, by intro W hW; go_simp⟩) (by exact hHeld) ?_
                        try simp only [Act.put, List.setIfInBounds_toArray, List.set_cons_zero, List.set_cons_succ]
                        refine wpAnyH_take (i := 6) (v := .int .i64 (k : Int)) (by simp only [List.getElem?_toArray, List.getElem?_cons_zero, List.getElem?_cons_succ]; rfl) (by kernel_rfl) (by kernel_rfl) (by kernel_rfl) (fun _ _ _ h => h) (Or.inl ⟨by rfl, by intro W hW; go_simp⟩) (by exact hHeld) ?_
                        try simp only [Act.put, List.setIfInBounds_toArray, List.set_cons_zero, List.set_cons_succ]
                        refine wpAnyH_take (i := 7) (v := .int .i64 ((k : Int) + 1)) (by simp only [List.getElem?_toArray, List.getElem?_cons_zero, List.getElem?_cons_succ]; rfl) (by kernel_rfl) (by kernel_rfl) (by kernel_rfl) (fun _ _ _ h => h) (Or.inl ⟨by rfl, by intro W hW; go_simp⟩) (by exact hHeld) ?_
                        try simp only [Act.put, List.setIfInBounds_toArray, List.set_cons_zero, List.set_cons_succ]
                        refine wpAnyH_take (i := 8) (v := .string nb) (by simp only [List.getElem?_toArray, List.getElem?_cons_zero, List.getElem?_cons_succ]; rfl) (by kernel_rfl) (by kernel_rfl) (by kernel_rfl) (fun _ _ _ h => h) (Or.inl ⟨by rfl, by intro W hW; go_simp⟩) (by exact hHeld) ?_
                        try simp only [Act.put, List.setIfInBounds_toArray, List.set_cons_zero, List.set_cons_succ]
                        refine wpAnyH_ready (rs := [4]) (by kernel_rfl) (by simp) ?_
                        refine AllReadyH.cons (by simp only [List.getElem?_toArray, List.getElem?_cons_zero, List.getElem?_cons_succ]; rfl) (fun K hK => ?_) AllReadyH.nil
                        go_simp
                        refine (HIt.out _ hHeld).mono ?_
                        rintro e w4 ⟨rfl, hg'⟩
                        clear hHeld
                        go_simp
                        refine hK.out _ _ (by exact hg') (fun hHeld => ?_)
                        clear hK K
                        try simp only [Act.put, List.setIfInBounds_toArray, List.set_cons_zero, List.set_cons_succ]
                        refine wpAnyH_take (i := 9) (v := .bool true) (by simp only [List.getElem?_toArray, List.getElem?_cons_zero, List.getElem?_cons_succ]; rfl) (by kernel_rfl) (by kernel_rfl) (by kernel_rfl) (fun _ _ _ h => h) (Or.inl ⟨by rfl, by intro W hW; go_simp⟩) (by exact hHeld) ?_
                        try simp only [Act.put, List.setIfInBounds_toArray, List.set_cons_zero, List.set_cons_succ]
                        refine wpAnyH_take (i := 10) (v := .bool true) (by simp only [List.getElem?_toArray, List.getElem?_cons_zero, List.getElem?_cons_succ]; rfl) (by kernel_rfl) (by kernel_rfl) (by kernel_rfl) (fun _ _ _ h => h) (Or.inl ⟨by rfl, by intro W hW; go_simp⟩) (by exact hHeld) ?_
                        try simp only [Act.put, List.setIfInBounds_toArray, List.set_cons_zero, List.set_cons_succ]
                        refine wpAnyH_take (i := 11) (v := .bool true) (by simp only [List.getElem?_toArray, List.getElem?_cons_zero, List.getElem?_cons_succ]; rfl) (by kernel_rfl) (by kernel_rfl) (by kernel_rfl) (fun _ _ _ h => h) (Or.inl ⟨by rfl, by intro W hW; go_simp⟩) (by exact hHeld) ?_
                        try simp only [Act.put, List.setIfInBounds_toArray, List.set_cons_zero, List.set_cons_succ]
                        refine wpAnyH_take (i := 12) (v := undef) (by simp only [List.getElem?_toArray, List.getElem?_cons_zero, List.getElem?_cons_succ]; rfl) (by kernel_rfl) (by kernel_rfl) (by kernel_rfl) (fun _ _ _ h => h) (Or.inr ⟨by rfl, rfl⟩) (by exact hHeld) ?_
                        try simp only [Act.put, List.setIfInBounds_toArray, List.set_cons_zero, List.set_cons_succ]
                        refine wpAnyH_take (i := 13) (v := undef) (by simp only [List.getElem?_toArray, List.getElem?_cons_zero, List.getElem?_cons_succ]; rfl) (by kernel_rfl) (by kernel_rfl) (by kernel_rfl) (fun _ _ _ h => h) (Or.inr ⟨by rfl, rfl⟩) (by exact hHeld) ?_
                        try simp only [Act.put, List.setIfInBounds_toArray, List.set_cons_zero, List.set_cons_succ]
                        refine wpAnyH_take (i := 14) (v := .bool true) (by simp only [List.getElem?_toArray, List.getElem?_cons_zero, List.getElem?_cons_succ]; rfl) (by kernel_rfl) (by kernel_rfl) (by kernel_rfl) (fun _ _ _ h => h) (Or.inl ⟨by rfl, by intro W hW; go_simp⟩) (by exact hHeld) ?_
                        try simp only [Act.put, List.setIfInBounds_toArray, List.set_cons_zero, List.set_cons_succ]
                        refine wpAnyH_take (i := 15) (v := .bool true) (by simp only [List.getElem?_toArray, List.getElem?_cons_zero, List.getElem?_cons_succ]; rfl) (by kernel_rfl) (by kernel_rfl) (by kernel_rfl) (fun _ _ _ h => h) (Or.inl ⟨by rfl, by intro W hW; go_simp⟩) (by exact hHeld) ?_
                        try simp only [Act.put, List.setIfInBounds_toArray, List.set_cons_zero, List.set_cons_succ]
                        refine wpAnyH_take (i := 16) (v := undef) (by simp only [List.getElem?_toArray, List.getElem?_cons_zero, List.getElem?_cons_succ]; rfl) (by kernel_rfl) (by kernel_rfl) (by kernel_rfl) (fun _ _ _ h => h) (Or.inr ⟨by rfl, rfl⟩) (by exact hHeld) ?_
                        try simp only [Act.put, List.setIfInBounds_toArray, List.set_cons_zero, List.set_cons_succ]
                        refine wpAnyH_take (i := 17) (v := undef) (by simp only [List.getElem?_toArray, List.getElem?_cons_zero, List.getElem?_cons_succ]; rfl) (by kernel_rfl) (by kernel_rfl) (by kernel_rfl) (fun _ _ _ h => h) (Or.inr ⟨by rfl, rfl⟩) (by exact hHeld) ?_
                        try simp only [Act.put, List.setIfInBounds_toArray, List.set_cons_zero, List.set_cons_succ]
                        refine wpAnyH_take (i := 18) (v := undef) (by simp only [List.getElem?_toArray, List.getElem?_cons_zero, List.getElem?_cons_succ]; rfl) (by kernel_rfl) (by kernel_rfl) (by kernel_rfl) (fun _ _ _ h => h) (Or.inr ⟨by rfl, rfl⟩) (by exact hHeld) ?_
                        try simp only [Act.put, List.setIfInBounds_toArray, List.set_cons_zero, List.set_cons_succ]
                        refine wpAnyH_take (i := 19) (v := .bool true) (by simp only [List.getElem?_toArray, List.getElem?_cons_zero, List.getElem?_cons_succ]; rfl) (by kernel_rfl) (by kernel_rfl) (by kernel_rfl) (fun _ _ _ h => h) (Or.inl ⟨by rfl, by intro W hW; go_simp⟩) (by exact hHeld) ?_
                        try simp only [Act.put, List.setIfInBounds_toArray, List.set_cons_zero, List.set_cons_succ]
                        refine wpAnyH_done (by kernel_rfl) ?_ _
                        refine NoPanic.normal ?_
                        clear hwr kk2 kk3
                        go_wp2_with fail
                        refine (no_any 2 _).mono ?_
                        rintro e' w5 ⟨rfl, hb5⟩
                        have HM5 := keep (hg'.out.grow hb5)
                        clear hb5
                        go_wp2_with (refine store_tab rfl _ _ rfl w.heap.size zer zer rfl rfl HM5.out.z ?_)
                        refine bodyPost_ret (v := .tuple #[.agg (tabA zer), .int .i64 2]) (ret_tab rfl _ _ w.heap.size zer 2 rfl rfl HM5.out.z.row) rfl ⟨?_, below_setRow HM5.out.below (Nat.le_refl _) _⟩
                        unfold parEnd
                        rw [HF.out]
                    · have HF := keep (HE2.out HO.out (posV_no hno))
                      clear hno HE2 HE3 HE4
                      go_wp2
                      go_quiet (fail)
                      go_wp2_with fail
                      refine (no_any 2 _).mono ?_
                      rintro e' w5 ⟨rfl, hb5⟩
                      have HM5 := keep ((HM3.out.drewN nq).grow hb5)
                      clear hb5
                      go_wp2_with (refine store_tab rfl _ _ rfl w.heap.size zer zer rfl rfl HM5.out.z ?_)
                      refine bodyPost_ret (v := .tuple #[.agg (tabA zer), .int .i64 2]) (ret_tab rfl _ _ w.heap.size zer 2 rfl rfl HM5.out.z.row) rfl ⟨?_, below_setRow HM5.out.below (Nat.le_refl _) _⟩
                      unfold parEnd
                      rw [HF.out]
            · have hy32 : ¬ (y.toNat : Int) = 32 := fun e => h32 (UInt8.toNat_inj.1 (by show y.toNat = 32; omega))
              have dy32 : ((y.toNat : Int) != 32) = true := by simpa using hy32
              go_wp2
              go_roundw
              case rel => exact ⟨k + 1, n, by omega, by go_num, take_more HY.out h32 HN.out, rfl⟩
              case measure => simp [intOf]; omega
          · have hke : k = lb.size := by omega
            subst hke
            have hno : has 32 lb.data.toList = false := by
              have := HN.out
              rw [List.take_of_length_le (by omega)] at this
              exact decide_eq_false this
            have HF : Hid (parL 0 zer s.data.toList = (2, zer)) := by
              have e : entE lb.data.toList = 2 := by unfold entE; rw [if_pos hno]
              show parL 0 zer s.data.toList = (2, zer)
              rw [HL.out, if_pos (by rw [e]; decide), e]
            clear hno HN HL
            have dke : decide ((lb.size : Int) < (lb.size : Int)) = false := decide_eq_false (by omega)
            go_wp2_with fail
            refine (no_any 2 _).mono ?_
            rintro e' w5 ⟨rfl, hb5⟩
            have HM5 := keep ((HM.out.drewN n).grow hb5)
            clear hb5
            go_wp2_with (refine store_tab rfl _ _ rfl w.heap.size zer zer rfl rfl HM5.out.z ?_)
            refine bodyPost_ret (v := .tuple #[.agg (tabA zer), .int .i64 2]) (ret_tab rfl _ _ w.heap.size zer 2 rfl rfl HM5.out.z.row) rfl ⟨?_, below_setRow HM5.out.below (Nat.le_refl _) _⟩
            unfold parEnd
            rw [HF.out]
      · have hx10 : ¬ (x.toNat : Int) = 10 := fun e => h10 (UInt8.toNat_inj.1 (by show x.toNat = 10; omega))
        go_wp2
        go_roundw
        case rel => exact ⟨last, fr, i + 1, t, rfl, rfl, by go_num, HS.out.on HX.out h10, HM.out⟩
        case measure => simp [intOf]; omega
    · have hie : i = s.size := by omega
      subst hie
      by_cases hf : fr < s.size
      · have hfz : (fr : Int) < (s.size : Int) := by omega
        have hE : parL 0 zer s.data.toList = (2, zer) := by
          rw [← HS.out.same]
          refine parL_open last t ?_ ?_
          · have := HS.out.none
            rwa [List.take_of_length_le (by simp [hlen])] at this
          · intro e
            have := congrArg List.length e
            simp [hlen] at this
            omega
        have HF := keep hE
        clear hE
        go_wp2_with fail
        refine (no_any 2 _).mono ?_
        rintro e w3 ⟨rfl, hb3⟩
        have HM3 := keep (HM.out.grow hb3)
        clear hb3
        go_wp2_with (refine store_tab rfl _ _ rfl w.heap.size zer zer rfl rfl HM3.out.z ?_)
        refine bodyPost_ret (v := .tuple #[.agg (tabA zer), .int .i64 2]) (ret_tab rfl _ _ w.heap.size zer 2 rfl rfl HM3.out.z.row) rfl ⟨?_, below_setRow HM3.out.below (Nat.le_refl _) _⟩
        unfold parEnd
        rw [HF.out]
      · have hE : parL 0 zer s.data.toList = if ¬ wrongT t = 0 then (wrongT t, zer) else (0, t) := by
          rw [← HS.out.same, show s.data.toList.drop fr = [] from List.drop_eq_nil_of_le (by omega)]
          exact parL_end last t
        have HF := keep hE
        have H64 := keep HS.out.nums
        clear hE
        have hfz : ¬ ((fr : Int) < (s.size : Int)) := by omega
        go_wp2_with (refine load_tab rfl _ rfl (w.heap.size + 1) rfl t HM.out.k ?_)
        refine (Rt.wrong_any t H64.out _).mono ?_
        rintro e w3 ⟨rfl, hb3⟩
        have HM3 := keep (HM.out.grow hb3)
        clear hb3
        by_cases hw : wrongT t = 0
        · have HF' := keep (HF.out.trans (if_neg (by simpa using hw)))
          rw [hw]
          clear hw HF
          go_wp2_with (first
            | refine load_tab rfl _ rfl (w.heap.size + 1) rfl t HM3.out.k ?_
            | refine store_tab rfl _ _ rfl w.heap.size t zer rfl rfl HM3.out.z ?_)
          refine bodyPost_ret (v := .tuple #[.agg (tabA t), .int .i64 0]) (ret_tab rfl _ _ w.heap.size t 0 rfl rfl HM3.out.z.row) rfl ⟨?_, below_setRow HM3.out.below (Nat.le_refl _) _⟩
          unfold parEnd
          rw [HF'.out]
        · have HF' := keep (HF.out.trans (if_pos hw))
          have hwb : (wrongT t != 0) = true := by simpa using hw
          clear hw HF
          generalize wrongT t = e at *
          go_wp2_with fail
          refine (no_any e _).mono ?_
          rintro e' w4 ⟨rfl, hb4⟩
          have HM4 := keep (HM3.out.grow hb4)
          clear hb4
          go_wp2_with (refine store_tab rfl _ _ rfl w.heap.size zer zer rfl rfl HM4.out.z ?_)
          refine bodyPost_ret (v := .tuple #[.agg (tabA zer), .int .i64 e]) (ret_tab rfl _ _ w.heap.size zer e rfl rfl HM4.out.z.row) rfl ⟨?_, below_setRow HM4.out.below (Nat.le_refl _) _⟩
          unfold parEnd
          rw [HF'.out]
end Go.Proofs.YtkfingahinbdpaaDoor.Rt
