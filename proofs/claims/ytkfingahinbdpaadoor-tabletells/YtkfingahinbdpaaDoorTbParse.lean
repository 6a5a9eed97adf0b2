/- What Parse of package table answers, for whatever text. -/
import Derived.Test.YtkfingahinbdpaaDoorTbEntry
import Derived.Laws.Rows
import Derived.Laws.ResultCell
import Derived.Laws.CopyOwn
namespace Go.Proofs.YtkfingahinbdpaaDoor.Tb
set_option linter.unusedVariables false
open Go.ChangeShapes Go.WideShapes Go.ChangeAt Go.RowKit

/-- A block that holds a table. -/
def Blk (w : World) (b : Nat) (t : Nat → Int) : Prop := w.heap[b]? = some (.cells (tabA t) 24 (0, 0))
theorem Blk.lies {w : World} {b : Nat} {t : Nat → Int} (h : Blk w b t) : ∀ k : Nat, k < 18 → w.cell? ⟨b, k, none⟩ = some (.int .i64 (t k)) := fun k hk => by
  rw [Lib.cell_of_heap h]; exact tabA_at t k hk
theorem Blk.frozen {w : World} {b : Nat} {t : Nat → Int} (h : Blk w b t) : ∀ k : Nat, w.frozen? ⟨b, k, none⟩ = false := fun k => Lib.frozen_of_heap h k
theorem Blk.lt {w : World} {b : Nat} {t : Nat → Int} (h : Blk w b t) : b < w.heap.size := by
  rcases Nat.lt_or_ge b w.heap.size with h' | h'
  · exact h'
  · simp [Blk, Array.getElem?_eq_none h'] at h
theorem Blk.below {w w' : World} {b B : Nat} {t : Nat → Int} (h : Blk w b t) (hb : Below B w w') (hB : b < B) : Blk w' b t := by
  unfold Blk; rw [hb.block b hB]; exact h
theorem tabA_set (t : Nat → Int) (k : Nat) (hk : k < 18) (v : Int) : (tabA t).set! k (.int .i64 v) = tabA (upd t k v) := by
  match k, hk with
  | 0, _ => rfl
  | 1, _ => rfl
  | 2, _ => rfl
  | 3, _ => rfl
  | 4, _ => rfl
  | 5, _ => rfl
  | 6, _ => rfl
  | 7, _ => rfl
  | 8, _ => rfl
  | 9, _ => rfl
  | 10, _ => rfl
  | 11, _ => rfl
  | 12, _ => rfl
  | 13, _ => rfl
  | 14, _ => rfl
  | 15, _ => rfl
  | 16, _ => rfl
  | 17, _ => rfl
  | k + 18, h => exact absurd h (by omega)

/-- How Parse ends. -/
def parEnd (l : List UInt8) : Value := .tuple #[.agg (tabA (parL 0 zer l).2), .int .i64 (parL 0 zer l).1]

def strLen : Value → Nat
  | .string s => s.size
  | _ => 0
theorem blk_alloc (w : World) (t : Nat → Int) : Blk (w.alloc (.cells (tabA t) 24)) w.heap.size t := (MapKept.heap_alloc w _).1
theorem Blk.alloc {w : World} {b : Nat} {t : Nat → Int} (h : Blk w b t) (o : Obj) : Blk (w.alloc o) b t := by
  unfold Blk; rw [(MapKept.heap_alloc w o).2 b h.lt]; exact h
theorem empty_iff (r : ByteArray) : r.data.toList = [] ↔ r.size = 0 := by
  rw [← List.length_eq_zero_iff, ← Lib.size_eq]

theorem Blk.set {w : World} {b : Nat} {t : Nat → Int} (h : Blk w b t) (k : Nat) (hk : k < 18) (v : Int) : Blk (w.setCell ⟨b, k, none⟩ (.int .i64 v)) b (upd t k v) := by
  unfold Blk
  rw [← tabA_set t k hk v]
  unfold Blk at h
  simp [World.setCell, Array.getElem?_modify, h]
theorem Blk.set_other {w : World} {b c : Nat} {t : Nat → Int} (h : Blk w b t) (hc : b ≠ c) (k : Nat) (v : Value) : Blk (w.setCell ⟨c, k, none⟩ v) b t := by
  unfold Blk
  rw [Below.heap_setCell w _ v b hc]
  exact h
theorem Blk.row {w : World} {b : Nat} {t u : Nat → Int} (h : Blk w b t) : Blk (w.setRow b (tabA u)) b u := setRow_heap w b _ _ _ _ h

theorem tab_one (t : Nat → Int) : (tabA t).all (·.oneCell') = true := by simp [tabA, Value.oneCell']
theorem tab_info (t : Nat → Int) : (Tryd.prog.info? 24).map (·.size) = some (tabA t).size := by
  rw [show (tabA t).size = 18 from rfl]; kernel_rfl
/-- What a function that returns a table and a word of what is wrong hands back. -/
theorem ret_tab {fn : Func} {p u : Tmp} (hf : fn.results = #[.cell p 24, .tmp u]) (tmps : Array Value) (w : World) (g : Nat) (t : Nat → Int) (e : Int) (h2 : tmps.getD p undef = .pointer (some ⟨g, 0, none⟩)) (h3 : tmps.getD u undef = .int .i64 e) (hg : Blk w g t) :
    (results fn tmps).run Tryd.prog w = .ok (.tuple #[.agg (tabA t), .int .i64 e]) w := by
  rw [results_cell_tmp hf, h2, h3]
  have := run_loadVar_row (P := Tryd.prog) w g _ 24 (tabA t) _ _ hg Tryd.underlying24 rfl (tab_info t)
  simp [asAddr, Result.andThen, this]

theorem posV_le (l : List UInt8) : posV l ≤ 9223372036854775807 := by
  by_cases hv : ∃ v, Lib.atoiAll l = .ok v
  · obtain ⟨v, hv⟩ := hv
    have := (Lib.atoiAll_bounds hv).2
    rw [posV_ok hv]
    split <;> omega
  · rw [posV_no fun v hh => hv ⟨v, hh⟩]; omega
theorem I64.upd {t : Nat → Int} (h : I64 t) (op : Nat) (l : List UInt8) : I64 (Tb.upd t op (entV l)) := fun k => by
  unfold Tb.upd
  by_cases e : k = op
  · rw [if_pos e]
    have h1 := posV_nonneg (suf 32 l)
    have h2 := posV_le (suf 32 l)
    unfold entV
    omega
  · rw [if_neg e]; exact h k

set_option maxHeartbeats 4000000 in
theorem parse_any (s : ByteArray) (hs : s.size ≤ 281474976710656) (w : World) (ht : Tabs w) :
    Calls Tryd.prog 9 #[.string s] w fun e w' => e = .returned (parEnd s.data.toList) ∧ Below w.heap.size w w' := by
  have HT := keep ht
  clear ht
  go_enter Tryd.func9, Tryd.ntmps9
  go_wp2
  go_loopw [0, 5] (fun s0 s5 wx => ∃ (r : ByteArray) (last : Nat) (t : Nat → Int), s0 = .string r ∧ s5 = .int .i64 (last : Nat) ∧ r.size ≤ s.size ∧ last ≤ 17 ∧ parL last t r.data.toList = parL 0 zer s.data.toList ∧ I64 t ∧ Blk wx w.heap.size zer ∧ Blk wx (w.heap.size + 1) t ∧ Below w.heap.size w wx) (fun s0 _ _ => strLen s0)
  case atStart =>
    refine ⟨s, 0, zer, rfl, rfl, Nat.le_refl _, by omega, rfl, fun k => ⟨by unfold zer; omega, by unfold zer; omega⟩, (blk_alloc w zer).alloc _, ?_, ((Below.refl _ _).alloc (Nat.le_refl _) _).alloc (by simp) _⟩
    have := blk_alloc (w.alloc (.cells (tabA zer) 24)) zer
    rw [show (w.alloc (.cells (tabA zer) 24)).heap.size = w.heap.size + 1 by simp] at this
    exact this
  case round =>
    obtain ⟨r, last, t, rfl, rfl, hr, hl, hp, h64, hz, hbt, hb⟩ := hrel
    have HZ := keep hz
    have HBT := keep hbt
    have HB := keep hb
    have H64 := keep h64
    have HP := keep hp
    clear hz hbt hb h64 hp
    by_cases he : r.size = 0
    · have hre : r = ByteArray.empty := by
        have := (empty_iff r).2 he
        exact ByteArray.ext (Array.toList_inj.1 (by simpa using this))
      subst hre
      have HE := keep (parL_end last t)
      go_wp2_with (refine wpList_load_row rfl 24 _ rfl (w.heap.size + 1) rfl 24 (tabA t) (0, 0) _ HBT.out Tryd.underlying24 rfl (tab_info t) ?_)
      refine (wrong_any t H64.out _).mono ?_
      rintro e w1 ⟨rfl, hb1⟩
      have HZ1 := keep (HZ.out.below hb1 HZ.out.lt)
      have HBT1 := keep (HBT.out.below hb1 HBT.out.lt)
      have HB1 := keep (HB.out.trans (hb1.mono HB.out.size))
      clear hb1
      by_cases hw : wrongT t = 0
      · rw [hw]
        have hE : parL 0 zer s.data.toList = (0, t) := by
          rw [← HP.out]; exact HE.out.trans (if_neg (by simpa using hw))
        have HF := keep hE
        clear hE hw HE HP
        go_wp2_with (first
          | refine wpList_load_row rfl 24 _ rfl (w.heap.size + 1) rfl 24 (tabA t) (0, 0) _ HBT1.out Tryd.underlying24 rfl (tab_info t) ?_
          | refine wpList_store_row rfl 24 _ _ rfl w.heap.size (tabA t) rfl rfl 24 (tabA zer) HZ1.out (tab_info t) rfl (tab_one t) ?_)
        refine bodyPost_ret (v := .tuple #[.agg (tabA t), .int .i64 0]) (ret_tab rfl _ _ w.heap.size t 0 rfl rfl HZ1.out.row) rfl ⟨?_, below_setRow HB1.out (Nat.le_refl _) _⟩
        unfold parEnd
        rw [HF.out]
      · have hE : parL 0 zer s.data.toList = (wrongT t, zer) := by
          rw [← HP.out]; exact HE.out.trans (if_pos hw)
        have HF := keep hE
        have hwb : (wrongT t != 0) = true := by simpa using hw
        generalize wrongT t = e at *
        clear hE hw HE HP
        go_wp2_with (first
          | refine wpList_store_row rfl 24 _ _ rfl w.heap.size (tabA zer) rfl rfl 24 (tabA zer) HZ1.out (tab_info zer) rfl (tab_one zer) ?_)
        refine bodyPost_ret (v := .tuple #[.agg (tabA zer), .int .i64 e]) (ret_tab rfl _ _ w.heap.size zer e rfl rfl HZ1.out.row) rfl ⟨?_, below_setRow HB1.out (Nat.le_refl _) _⟩
        unfold parEnd
        rw [HF.out]
    · have hne : (r.toList == []) = false := by
        rw [Lib.toList_data, beq_eq_false_iff_ne]
        exact fun hh => he ((empty_iff r).1 hh)
      have hlen : r.data.toList.length = r.size := Lib.size_eq r |>.symm
      have hne2 : ¬ r.data.toList = [] := fun hh => he ((empty_iff r).1 hh)
      have HC := keep (cut_any r (by unfold maxLen; omega) 10 wr)
      cases hh : has 10 r.data.toList with
      | false =>
        rw [cutEnd_no hh] at HC
        have hE : parL 0 zer s.data.toList = (2, zer) := by
          rw [← HP.out]
          exact parL_open last t (fun hm => by rw [show has 10 r.data.toList = true from decide_eq_true hm] at hh; cases hh) hne2
        have HF := keep hE
        clear hE hh hne2 HP
        go_wp2_with fail
        refine HC.out.mono ?_
        rintro e w1 ⟨rfl, n, rfl⟩
        have HZ1 : Hid (Blk (wr.drewN n) w.heap.size zer) := HZ.out
        have HB1 := keep (below_drewN HB.out n)
        go_wp2_with (first
          | refine wpList_store_row rfl 24 _ _ rfl w.heap.size (tabA zer) rfl rfl 24 (tabA zer) HZ1.out (tab_info zer) rfl (tab_one zer) ?_)
        refine bodyPost_ret (v := .tuple #[.agg (tabA zer), .int .i64 2]) (ret_tab rfl _ _ w.heap.size zer 2 rfl rfl HZ1.out.row) rfl ⟨?_, below_setRow HB1.out (Nat.le_refl _) _⟩
        unfold parEnd
        rw [HF.out]
      | true =>
        rw [cutEnd_yes hh] at HC
        have hm : (10 : UInt8) ∈ r.data.toList := of_decide_eq_true hh
        have hsl := suf_length hm
        have HL := keep (parL_line last t hm)
        rw [HP.out] at HL
        clear hh hm hne2 HP
        generalize pre 10 r.data.toList = line at *
        generalize suf 10 r.data.toList = rest at *
        have HE := keep (entry_any ⟨line.toArray⟩ (by rw [size_mk]; omega))
        simp only at HE
        go_wp2_with fail
        refine HC.out.mono ?_
        rintro e w1 ⟨rfl, n, rfl⟩
        have HZ1 : Hid (Blk (wr.drewN n) w.heap.size zer) := HZ.out
        have HBT1 : Hid (Blk (wr.drewN n) (w.heap.size + 1) t) := HBT.out
        have HB1 := keep (below_drewN HB.out n)
        clear HZ HBT HB HC
        generalize wr.drewN n = w1 at *
        go_wp2_with fail
        refine (HE.out _ (HT.out.below HB1.out)).mono ?_
        rintro e w2 ⟨rfl, hb2⟩
        have HZ2 := keep (HZ1.out.below hb2 HZ1.out.lt)
        have HBT2 := keep (HBT1.out.below hb2 HBT1.out.lt)
        have HB2 := keep (HB1.out.trans (hb2.mono HB1.out.size))
        clear hb2 HZ1 HBT1 HB1 HE
        by_cases h0 : entE line = 0
        · rw [entEnd_ok h0]
          obtain ⟨_, o1, o2⟩ := ent_line h0
          have HL2 := keep (HL.out.trans (if_neg (by simpa using h0)))
          have H64' := keep (H64.out.upd (entOp line) line)
          clear HL h0
          generalize entOp line = op at *
          generalize entV line = v at *
          by_cases hol : op ≤ last
          · have hE := HL2.out.trans (if_pos hol)
            have HF := keep hE
            have hoz : (op : Int) ≤ (last : Int) := by omega
            clear hE HL2 hol
            go_wp2_with (first
              | refine wpList_store_row rfl 24 _ _ rfl w.heap.size (tabA zer) rfl rfl 24 (tabA zer) HZ2.out (tab_info zer) rfl (tab_one zer) ?_)
            refine bodyPost_ret (v := .tuple #[.agg (tabA zer), .int .i64 2]) (ret_tab rfl _ _ w.heap.size zer 2 rfl rfl HZ2.out.row) rfl ⟨?_, below_setRow HB2.out (Nat.le_refl _) _⟩
            unfold parEnd
            rw [HF.out]
          · have hE := HL2.out.trans (if_neg hol)
            have HF := keep hE
            have hoz : ¬ ((op : Int) ≤ (last : Int)) := by omega
            have ho0 : (0 : Int) ≤ (op : Int) := by omega
            have ho18 : (op : Int) < 18 := by omega
            have hcell := HBT2.out.lies op (by omega)
            have hfr := HBT2.out.frozen op
            clear hE HL2 hol
            go_wp2
            go_roundw
            case rel =>
              exact ⟨⟨rest.toArray⟩, op, upd t op v, rfl, rfl, by rw [size_mk]; omega, o2, HF.out.symm, H64'.out, HZ2.out.set_other (by omega) _ _, HBT2.out.set op (by omega) v, HB2.out.setCell (by simp) _⟩
            case measure =>
              show (⟨rest.toArray⟩ : ByteArray).size < r.size
              rw [size_mk]; omega
        · rw [entEnd_no h0]
          have hE := HL.out.trans (if_pos h0)
          have HF := keep hE
          have hwb : (entE line != 0) = true := by simpa using h0
          clear hE HL h0
          generalize entE line = e at *
          go_wp2_with (first
            | refine wpList_store_row rfl 24 _ _ rfl w.heap.size (tabA zer) rfl rfl 24 (tabA zer) HZ2.out (tab_info zer) rfl (tab_one zer) ?_)
          refine bodyPost_ret (v := .tuple #[.agg (tabA zer), .int .i64 e]) (ret_tab rfl _ _ w.heap.size zer e rfl rfl HZ2.out.row) rfl ⟨?_, below_setRow HB2.out (Nat.le_refl _) _⟩
          unfold parEnd
          rw [HF.out]
end Go.Proofs.YtkfingahinbdpaaDoor.Tb
