/- The program's own Parse, at whatever text. -/
import Derived.Test.YtkobiojndamofaaDoorLwProg
import Derived.Laws.ResultCell
import Derived.Laws.EntriesVeiled
import Derived.Laws.CopyOwn
namespace Go.Proofs.YtkobiojndamofaaDoor.Lr
set_option linter.unusedVariables false
open Go.ChangeShapes Go.WideShapes Go.ChangeAt Go.RowKit Lg

/-- What Parse answers, by words. -/
def nilFn : Lg.Fn := ⟨[], [], []⟩
def parseP (l : List UInt8) : Lg.Fn × Int := if 1200 < l.length then (nilFn, 4) else match fnG 1201 (words l) with
  | .error x => (nilFn, x)
  | .ok (f, _) => (f, 0)
theorem results_fn {fn : Func} {p u : Tmp} (hf : fn.results = #[.cell p 26, .tmp u]) (tmps : Array Value) (w : World) (g : Nat) (cs : Array Value) (e : Int) (h2 : tmps.getD p undef = .pointer (some ⟨g, 0, none⟩)) (h3 : tmps.getD u undef = .int .i64 e) (hg : w.heap[g]? = some (.cells cs 26 (0, 0))) (hi : (Tryd.prog.info? 26).map (·.size) = some cs.size) :
    (results fn tmps).run Tryd.prog w = .ok (.tuple #[.agg cs, .int .i64 e]) w := by
  rw [results_cell_tmp hf, h2, h3]
  have := run_loadVar_row (P := Tryd.prog) w g _ 26 cs _ _ hg Tryd.underlying26 rfl hi
  simp [asAddr, Result.andThen, this]

set_option maxHeartbeats 1000000 in
theorem words_any (s : ByteArray) (w : World) :
    Calls Tryd.prog 12 #[.string s] w fun r w' => r = .returned (.func (.func 21) #[] #[.pointer (some ⟨w.heap.size, 0, none⟩)]) ∧ w' = w.alloc (.cells #[.string s] 9) := by
  go_enter Tryd.func12, Tryd.ntmps12
  go_wp2
  go_ret
  exact ⟨rfl, rfl⟩
theorem nil_is (w : World) (B : Nat) : FnIs w B 10 11 nilFn (.agg #[.slice none 0 0, .slice none 0 0, .slice none 0 0]) :=
  ⟨_, _, _, rfl, ⟨none, 0, 0, rfl, rfl, Nat.le_refl _, by decide, fun j v h => by cases h⟩, ⟨none, 0, 0, rfl, rfl, Nat.le_refl _, by decide, fun j v h => by cases h⟩, ⟨none, 0, 0, rfl, rfl, Nat.le_refl _, by decide, fun j v h => by cases h⟩⟩
/-- The world in which the reader stands. -/
def parseW (w : World) (s : ByteArray) : World := ((w.alloc (.cells #[.slice none 0 0, .slice none 0 0, .slice none 0 0] 26)).alloc (.cells #[.string s] 9)).alloc (.cells #[.func (.func 21) #[] #[.pointer (some ⟨w.heap.size + 1, 0, none⟩)], .int .i64 0] 44)

set_option maxHeartbeats 4000000 in
set_option maxRecDepth 100000 in
theorem parse_any (s : ByteArray) (hs : s.size ≤ 281474976710656) (w : World) (ht : Tabs w) :
    Calls Tryd.prog 6 #[.string s] w fun r w' => ∃ (v1 v2 v3 : Value), r = .returned (.tuple #[.agg #[v1, v2, v3], .int .i64 (parseP s.data.toList).2]) ∧ FnIs w' w'.heap.size 10 11 (parseP s.data.toList).1 (.agg #[v1, v2, v3]) ∧ Below w.heap.size w w' := by
  have hlen : s.data.toList.length = s.size := (Lib.size_eq s).symm
  by_cases hbig : 1200 < s.size
  · have hp : parseP s.data.toList = (nilFn, 4) := by unfold parseP; rw [if_pos (by omega)]
    rw [hp]
    have d : decide (1200 < (s.size : Int)) = true := decide_eq_true (by omega)
    have HD := keep (Bk.new w [.slice none 0 0, .slice none 0 0, .slice none 0 0] 26)
    clear hp hlen ht
    go_enter Tryd.func6, Tryd.ntmps6
    go_wp2_with (first
      | refine wpList_store_row rfl 26 (.tmp 2) (.tmp 9) rfl w.heap.size #[.slice none 0 0, .slice none 0 0, .slice none 0 0] rfl rfl 26 #[.slice none 0 0, .slice none 0 0, .slice none 0 0] HD.out (info_F [.slice none 0 0, .slice none 0 0, .slice none 0 0] rfl) rfl (by simp [Value.oneCell']) ?_)
    (try simp only [Exit.inBlock, Exit.then])
    refine bodyPost_ret (results_fn rfl _ _ w.heap.size #[.slice none 0 0, .slice none 0 0, .slice none 0 0] 4 rfl rfl (setRow_heap _ _ _ _ _ _ HD.out) (info_F [.slice none 0 0, .slice none 0 0, .slice none 0 0] rfl)) rfl ?_
    exact ⟨_, _, _, rfl, nil_is _ _, below_setRow ((Below.refl _ _).alloc (Nat.le_refl _) _) (Nat.le_refl _) _⟩
  · have d : decide (1200 < (s.size : Int)) = false := decide_eq_false (by omega)
    have hg := ht.gl
    have HRB : Hid (RB (parseW w s) (w.heap.size + 1 + 1) (w.heap.size + 1) s 0) := by
      have e1 : ∀ (v : World) (o : Obj), (v.alloc o).heap.size = v.heap.size + 1 := fun v o => by simp
      refine ⟨?_, ?_⟩
      · have h := Bk.new ((w.alloc (.cells #[.slice none 0 0, .slice none 0 0, .slice none 0 0] 26)).alloc (.cells #[.string s] 9)) [.func (.func 21) #[] #[.pointer (some ⟨w.heap.size + 1, 0, none⟩)], .int .i64 0] 44
        rw [e1, e1] at h; exact h
      · have h := (Bk.new (w.alloc (.cells #[.slice none 0 0, .slice none 0 0, .slice none 0 0] 26)) [.string s] 9).up (.cells #[.func (.func 21) #[] #[.pointer (some ⟨w.heap.size + 1, 0, none⟩)], .int .i64 0] 44)
        rw [e1] at h; exact h
    have HD0 : Hid (Bk (parseW w s) w.heap.size [.slice none 0 0, .slice none 0 0, .slice none 0 0] 26) := ((Bk.new w [.slice none 0 0, .slice none 0 0, .slice none 0 0] 26).up _).up _
    have HBW : Hid (Below w.heap.size w (parseW w s)) := (((Below.refl _ _).alloc (Nat.le_refl _) _).alloc (by simp) _).alloc (by simp; omega) _
    have HC := keep (program_rd (w.heap.size + 1 + 1) (w.heap.size + 1) s 0 (parseW w s) (by omega) HRB.out (ht.up HBW.out) ⟨⟨by have := hg.1; omega, by have := hg.2; omega⟩, by have := hg.1; omega, by have := hg.2; omega⟩)
    have HWd := keep (fun v => words_any s v)
    have HL := keep hlen
    clear ht hg hlen
    go_enter Tryd.func6, Tryd.ntmps6
    go_wp2_with fail
    refine (HWd.out _).mono ?_
    rintro r w1 ⟨rfl, hw1⟩
    subst hw1
    go_wp2_with fail
    change Calls _ _ _ (parseW w s) _
    refine HC.out.mono ?_
    rintro r w2 ⟨f, v1, v2, v3, rfl, hfn, hrd, hf⟩
    obtain ⟨s2, e2, hp2, hn2, _, h2⟩ := hrd
    obtain ⟨t1, t2, t3, ht0, ht1, ht2, ht3⟩ := hfn w2 (Nat.le_refl _) (fun i _ _ => rfl)
    obtain ⟨x1, y1, z1, rfl⟩ := ht1.slice
    obtain ⟨x2, y2, z2, rfl⟩ := ht2.slice
    obtain ⟨x3, y3, z3, rfl⟩ := ht3.slice
    injection ht0 with ht0
    have e1 : v1 = .slice x1 y1 z1 := by injection ht0 with ht0; injection ht0
    have e2' : v2 = .slice x2 y2 z2 := by injection ht0 with ht0; injection ht0 with _ ht0; injection ht0
    have e3 : v3 = .slice x3 y3 z3 := by injection ht0 with ht0; injection ht0 with _ ht0; injection ht0 with _ ht0; injection ht0
    subst e1 e2' e3
    have HFn := keep hfn
    have H2 := keep (h2 rfl)
    have hWs : (parseW w s).heap.size = w.heap.size + 3 := by unfold parseW; simp
    have hs2 : w.heap.size + 3 ≤ w2.heap.size := by have := hf.size; omega
    have HB2 : Hid (Below w.heap.size w w2) := HBW.out.trans (hf.below (by omega) (by simp; omega))
    have HD2 := keep (HD0.out.fs hf (by simp; omega))
    have HP2 := keep hp2
    have HZ3 := keep (Bk.new w2 [.slice none 0 0, .slice none 0 0, .slice none 0 0] 26)
    have HD3 := keep (HD2.out.up (.cells #[.slice none 0 0, .slice none 0 0, .slice none 0 0] 26))
    have HP3 := keep (HP2.out.up (.cells #[.slice none 0 0, .slice none 0 0, .slice none 0 0] 26))
    have HD4 : Hid (Bk ((w2.alloc (.cells #[.slice none 0 0, .slice none 0 0, .slice none 0 0] 26)).setRow w2.heap.size #[.slice x1 y1 z1, .slice x2 y2 z2, .slice x3 y3 z3]) w.heap.size [.slice none 0 0, .slice none 0 0, .slice none 0 0] 26) := by
      have := HD3.out
      unfold Bk at this
      show Bk _ _ _ _
      unfold Bk
      rw [setRow_other _ _ _ _ (by omega)]; exact this
    have HE4 : Hid (Bk ((w2.alloc (.cells #[.slice none 0 0, .slice none 0 0, .slice none 0 0] 26)).setRow w2.heap.size #[.slice x1 y1 z1, .slice x2 y2 z2, .slice x3 y3 z3]) w2.heap.size [.slice x1 y1 z1, .slice x2 y2 z2, .slice x3 y3 z3] 26) := setRow_heap _ _ _ _ _ _ HZ3.out
    have HP4 := keep (HP3.out.row (D := w2.heap.size) (by omega) (by omega) #[.slice x1 y1 z1, .slice x2 y2 z2, .slice x3 y3 z3])
    have HB4 : Hid (Below w.heap.size w ((w2.alloc (.cells #[.slice none 0 0, .slice none 0 0, .slice none 0 0] 26)).setRow w2.heap.size #[.slice x1 y1 z1, .slice x2 y2 z2, .slice x3 y3 z3])) := below_setRow (HB2.out.alloc (by omega) _) (by omega) _
    have hbk4 : ∀ i, i < w2.heap.size → ((w2.alloc (.cells #[.slice none 0 0, .slice none 0 0, .slice none 0 0] 26)).setRow w2.heap.size #[.slice x1 y1 z1, .slice x2 y2 z2, .slice x3 y3 z3]).heap[i]? = w2.heap[i]? := fun i hi => by
      rw [setRow_other _ _ _ _ (by omega)]
      exact ((Below.refl w2.heap.size w2).alloc (Nat.le_refl _) _).block i hi
    have hsz4 : ((w2.alloc (.cells #[.slice none 0 0, .slice none 0 0, .slice none 0 0] 26)).setRow w2.heap.size #[.slice x1 y1 z1, .slice x2 y2 z2, .slice x3 y3 z3]).heap.size = w2.heap.size + 1 := by simp
    have q1 := HP4.out.c1
    clear hp2 hf h2 hfn ht0 ht1 ht2 ht3 HC HWd HRB HD0 HBW HP2 HP3 HD2 HD3
    by_cases he : e2 = 0
    · have hpz : parseP s.data.toList = (f, 0) := by
        unfold parseP
        rw [if_neg (by have := HL.out; omega)]
        cases hfg : fnG 1201 (words s.data.toList) with
        | error x => exact absurd ((H2.out.1 x hfg).1.symm.trans he) (H2.out.1 x hfg).2
        | ok pq =>
          obtain ⟨f', r⟩ := pq
          rw [(H2.out.2 f' r hfg).2.2]
      have HPz := keep hpz
      subst he
      clear H2 hpz
      go_wp2_with (first
        | refine wpList_store_row rfl 26 (.tmp 5) (.tmp 15) rfl w2.heap.size #[.slice x1 y1 z1, .slice x2 y2 z2, .slice x3 y3 z3] rfl rfl 26 #[.slice none 0 0, .slice none 0 0, .slice none 0 0] HZ3.out (info_F [.slice x1 y1 z1, .slice x2 y2 z2, .slice x3 y3 z3] rfl) rfl (by simp [Value.oneCell']) ?_
        | refine wpList_load_row rfl 26 (.tmp 5) rfl w2.heap.size rfl 26 #[.slice x1 y1 z1, .slice x2 y2 z2, .slice x3 y3 z3] (0, 0) _ HE4.out Tryd.underlying26 rfl (info_F [.slice x1 y1 z1, .slice x2 y2 z2, .slice x3 y3 z3] rfl) ?_
        | refine wpList_store_row rfl 26 (.tmp 2) (.tmp 26) rfl w.heap.size #[.slice x1 y1 z1, .slice x2 y2 z2, .slice x3 y3 z3] rfl rfl 26 #[.slice none 0 0, .slice none 0 0, .slice none 0 0] HD4.out (info_F [.slice x1 y1 z1, .slice x2 y2 z2, .slice x3 y3 z3] rfl) rfl (by simp [Value.oneCell']) ?_)
      (try simp only [Exit.inBlock, Exit.then])
      refine bodyPost_ret (results_fn rfl _ _ w.heap.size #[.slice x1 y1 z1, .slice x2 y2 z2, .slice x3 y3 z3] 0 rfl rfl (setRow_heap _ _ _ _ _ _ HD4.out) (info_F [.slice x1 y1 z1, .slice x2 y2 z2, .slice x3 y3 z3] rfl)) rfl ?_
      rw [HPz.out]
      refine ⟨_, _, _, rfl, HFn.out _ (by rw [setRow_size, hsz4]; omega) (fun i h1 h2 => ?_), below_setRow HB4.out (Nat.le_refl _) _⟩
      rw [setRow_other _ _ _ _ (by omega)]; exact hbk4 i h2
    · have hpz : parseP s.data.toList = (nilFn, e2) := by
        unfold parseP
        rw [if_neg (by have := HL.out; omega)]
        cases hfg : fnG 1201 (words s.data.toList) with
        | error x => rw [(H2.out.1 x hfg).1]
        | ok pq =>
          obtain ⟨f', r⟩ := pq
          exact absurd (H2.out.2 f' r hfg).1 he
      have HPz := keep hpz
      have d2 : (e2 != 0) = true := by simpa using he
      clear H2 hpz he
      go_wp2_with (first
        | refine wpList_store_row rfl 26 (.tmp 5) (.tmp 15) rfl w2.heap.size #[.slice x1 y1 z1, .slice x2 y2 z2, .slice x3 y3 z3] rfl rfl 26 #[.slice none 0 0, .slice none 0 0, .slice none 0 0] HZ3.out (info_F [.slice x1 y1 z1, .slice x2 y2 z2, .slice x3 y3 z3] rfl) rfl (by simp [Value.oneCell']) ?_)
      have c40 := HD4.out.cell 0 rfl
      have c41 := HD4.out.cell 1 rfl
      have c42 := HD4.out.cell 2 rfl
      have f40 := HD4.out.fr 0
      have f41 := HD4.out.fr 1
      have f42 := HD4.out.fr 2
      generalize (w2.alloc (.cells #[.slice none 0 0, .slice none 0 0, .slice none 0 0] 26)).setRow w2.heap.size #[.slice x1 y1 z1, .slice x2 y2 z2, .slice x3 y3 z3] = w4 at *
      go_region
      go_wp2
      (try simp only [Exit.inBlock, Exit.then])
      have hbk := ((HD4.out.set 0 (.slice none 0 0)).set 1 (.slice none 0 0)).set 2 (.slice none 0 0)
      refine bodyPost_ret (results_fn rfl _ _ w.heap.size #[.slice none 0 0, .slice none 0 0, .slice none 0 0] e2 rfl rfl (by exact hbk) (info_F [.slice none 0 0, .slice none 0 0, .slice none 0 0] rfl)) rfl ?_
      rw [HPz.out]
      refine ⟨_, _, _, rfl, nil_is _ _, Below.drew ?_⟩
      exact ((HB4.out.setCell (by exact Nat.le_refl _) _).setCell (by exact Nat.le_refl _) _).setCell (by exact Nat.le_refl _) _
end Go.Proofs.YtkobiojndamofaaDoor.Lr
