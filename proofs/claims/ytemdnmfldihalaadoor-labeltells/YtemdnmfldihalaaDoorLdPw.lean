/- The document's own Parse: variables that stay; a text that is too long. -/
import Derived.Test.YtemdnmfldihalaaDoorLdVars
namespace Go.Proofs.YtemdnmfldihalaaDoor.Lr
set_option linter.unusedVariables false
set_option linter.unusedSimpArgs false
open Go.ChangeShapes Go.WideShapes Go.ChangeAt Go.RowKit Lg Rf

/-- The slice sl holds variables, in a block from lo on, below hi. -/
def VrX (w : World) (lo hi : Nat) (vs : List Vr) (sl : Value) : Prop := ∃ (p : Option Addr) (n cap : Nat), sl = .slice p n cap ∧ vs.length = n ∧ n ≤ cap ∧ n ≤ 281474976710656 ∧
    ∀ j v, vs[j]? = some v → ∃ g o, p = some ⟨g, o, none⟩ ∧ lo ≤ g ∧ g < hi ∧ VrAt w g (o + j * 3) v
theorem VrX.keep {w w' : World} {lo hi : Nat} {vs : List Vr} {sl : Value} (h : VrX w lo hi vs sl) (hb : ∀ i, lo ≤ i → i < hi → w'.heap[i]? = w.heap[i]?) : VrX w' lo hi vs sl := by
  obtain ⟨p, n, cap, h1, h2, h3, h4, h5⟩ := h
  refine ⟨p, n, cap, h1, h2, h3, h4, fun j v hj => ?_⟩
  obtain ⟨g, o, k1, k2, k3, k4⟩ := h5 j v hj
  have key : ∀ i, w'.cell? ⟨g, i, none⟩ = w.cell? ⟨g, i, none⟩ := fun i => by unfold World.cell?; simp only [hb g k2 k3]
  exact ⟨g, o, k1, k2, k3, ⟨by rw [key]; exact k4.c0, by rw [key]; exact k4.c1, by rw [key]; exact k4.c2⟩⟩
theorem VrX.vrIs {w : World} {lo hi B : Nat} {vs : List Vr} {sl : Value} (h : VrX w lo hi vs sl) (hB : hi ≤ B) : VrIs w B vs sl := by
  obtain ⟨p, n, cap, h1, h2, h3, h4, h5⟩ := h
  refine ⟨p, n, cap, h1, h2, h3, h4, fun j v hj => ?_⟩
  obtain ⟨g, o, k1, k2, k3, k4⟩ := h5 j v hj
  exact ⟨g, o, k1, by omega, k4⟩
theorem RowX.varsX {w : World} {lo : Nat} {v : Value} {es : List Vr} (h : RowV w lo v es) (hl : es.length ≤ 281474976710656) : VrX w lo w.heap.size es v := by
  rcases RowX.form cellsV_len h with ⟨h1, h2⟩ | ⟨g, cap, h1, h2, h3, h4, h5⟩
  · exact ⟨none, 0, 0, h2, by rw [h1]; rfl, Nat.le_refl _, by omega, fun j t hj => by rw [h1] at hj; simp at hj⟩
  · refine ⟨some ⟨g, 0, none⟩, _, cap, h1, rfl, h2, hl, fun j p hp => ⟨g, 0, rfl, h3, h4, ⟨?_, ?_, ?_⟩⟩⟩
    · rw [Nat.zero_add]; exact h5 j p 0 _ hp rfl
    · rw [Nat.zero_add]; exact h5 j p 1 _ hp rfl
    · rw [Nat.zero_add]; exact h5 j p 2 _ hp rfl
theorem info_F (l : List Value) (h : l.length = 3) : (Tryd.prog.info? 25).map (·.size) = some l.toArray.size := by
  rw [List.size_toArray, h]; kernel_rfl
theorem results_fn {fn : Func} {p u : Tmp} (hf : fn.results = #[.cell p 25, .tmp u]) (tmps : Array Value) (w : World) (g : Nat) (cs : Array Value) (e : Int) (h2 : tmps.getD p undef = .pointer (some ⟨g, 0, none⟩)) (h3 : tmps.getD u undef = .int .i64 e) (hg : w.heap[g]? = some (.cells cs 25 (0, 0))) (hi : (Tryd.prog.info? 25).map (·.size) = some cs.size) :
    (results fn tmps).run Tryd.prog w = .ok (.tuple #[.agg cs, .int .i64 e]) w := by
  rw [results_cell_tmp hf, h2, h3]
  have := run_loadVar_row (P := Tryd.prog) w g _ 25 cs _ _ hg Tryd.underlying25 rfl hi
  simp [asAddr, Result.andThen, this]
theorem nil_is (w : World) (B : Nat) : FnIs w B 10 11 nilFn (.agg #[.slice none 0 0, .slice none 0 0, .slice none 0 0]) :=
  ⟨_, _, _, rfl, ⟨none, 0, 0, rfl, rfl, Nat.le_refl _, by decide, fun j v h => by cases h⟩, ⟨none, 0, 0, rfl, rfl, Nat.le_refl _, by decide, fun j v h => by cases h⟩, ⟨none, 0, 0, rfl, rfl, Nat.le_refl _, by decide, fun j v h => by cases h⟩⟩
/-- The value v is a program, in blocks from lo on, below hi. -/
def FnX (w : World) (lo hi : Nat) (f : Lg.Fn) (v : Value) : Prop := ∃ s1 s2 s3, v = .agg #[s1, s2, s3] ∧ VrX w lo hi f.params s1 ∧ VrX w lo hi f.arrays s2 ∧ StX w (fun i => lo ≤ i ∧ i < hi) 11 f.body s3
theorem FnX.keep {w w' : World} {lo hi : Nat} {f : Lg.Fn} {v : Value} (h : FnX w lo hi f v) (hb : ∀ i, lo ≤ i → i < hi → w'.heap[i]? = w.heap[i]?) : FnX w' lo hi f v := by
  obtain ⟨s1, s2, s3, h0, h1, h2, h3⟩ := h
  exact ⟨s1, s2, s3, h0, h1.keep hb, h2.keep hb, StX.keep (fun i hi => hb i hi.1 hi.2) h3⟩
theorem FnX.fnIs {w : World} {lo hi B : Nat} {f : Lg.Fn} {v : Value} (h : FnX w lo hi f v) (hB : hi ≤ B) : FnIs w B 10 11 f v := by
  obtain ⟨s1, s2, s3, h0, h1, h2, h3⟩ := h
  exact ⟨s1, s2, s3, h0, h1.vrIs hB, h2.vrIs hB, StX.stIs (fun i hi => by omega) h3⟩
theorem nil_x (w : World) (lo hi : Nat) : FnX w lo hi nilFn (.agg #[.slice none 0 0, .slice none 0 0, .slice none 0 0]) :=
  ⟨_, _, _, rfl, ⟨none, 0, 0, rfl, rfl, Nat.le_refl _, by decide, fun j v h => by cases h⟩, ⟨none, 0, 0, rfl, rfl, Nat.le_refl _, by decide, fun j v h => by cases h⟩, StX.none 10⟩
set_option maxHeartbeats 4000000 in
set_option maxRecDepth 100000 in
theorem parse_long (s : ByteArray) (hbig : 1200 < s.size) (hs : s.size ≤ 281474976710656) (w : World) :
    Calls Tryd.prog 6 #[.string s] w fun r w' => ∃ (v1 v2 v3 : Value), r = .returned (.tuple #[.agg #[v1, v2, v3], .int .i64 4]) ∧ FnX w' w.heap.size w'.heap.size nilFn (.agg #[v1, v2, v3]) ∧ Below w.heap.size w w' := by
  have d : decide (1200 < (s.size : Int)) = true := decide_eq_true (by omega)
  have HD := keep (Bk.new w [.slice none 0 0, .slice none 0 0, .slice none 0 0] 25)
  go_enter Tryd.func6, Tryd.ntmps6
  go_wp2_with (first
    | refine wpList_store_row rfl 25 (.tmp 2) (.tmp 9) rfl w.heap.size #[.slice none 0 0, .slice none 0 0, .slice none 0 0] rfl rfl 25 #[.slice none 0 0, .slice none 0 0, .slice none 0 0] HD.out (info_F [.slice none 0 0, .slice none 0 0, .slice none 0 0] rfl) rfl (by simp [Value.oneCell']) ?_)
  (try simp only [Exit.inBlock, Exit.then])
  refine bodyPost_ret (results_fn rfl _ _ w.heap.size #[.slice none 0 0, .slice none 0 0, .slice none 0 0] 4 rfl rfl (setRow_heap _ _ _ _ _ _ HD.out) (info_F [.slice none 0 0, .slice none 0 0, .slice none 0 0] rfl)) rfl ?_
  exact ⟨_, _, _, rfl, nil_x _ _ _, below_setRow ((Below.refl _ _).alloc (Nat.le_refl _) _) (Nat.le_refl _) _⟩
end Go.Proofs.YtemdnmfldihalaaDoor.Lr
