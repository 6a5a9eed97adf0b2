/- Laid together: LfMCut, LfMRnd, LfMVia. -/
import Derived.Test.YtemdnmfldihalaaGreatDoorGr16
namespace Go.Proofs.YtemdnmfldihalaaGreatDoor.Lr
set_option maxHeartbeats 32000000
set_option maxRecDepth 100000
set_option linter.unusedVariables false
set_option linter.unusedSimpArgs false
open Go.ChangeShapes Go.WideShapes Go.ChangeAt Go.RowKit Lg

noncomputable def mBlkCode : Code := Tryz.f47.body.getD .skip
def mBlkP (t : Rt) (bM : Nat) (sc : List (List UInt8 × Nat)) (p : Option Addr) (q cap : Nat) (g : Nat → Value) (w : World) (e : Exit) (a' : Act) (w' : World) : Prop := e = .normal ∧ a' = ⟨#[g 0, g 1, .pointer (some ⟨bM, 0, none⟩), g 3, g 4, .int .i64 (sc.length : Int), g 6, g 7, g 8, g 9, g 10, g 11, g 12, g 13, g 14, g 15, g 16, g 17, g 18, g 19, g 20, g 21, g 22, g 23, g 24, g 25, g 26, g 27, g 28, g 29, g 30, .pointer (some ⟨t.M, 0, none⟩), .pointer (some ⟨t.M, 0, none⟩), .pointer (some ⟨t.M, 0, none⟩), .pointer (some ⟨t.M, 2, none⟩), .slice p q cap, .int .i64 (sc.length : Int), .slice p sc.length cap, .pointer (some ⟨t.M, 0, none⟩), .pointer (some ⟨t.M, 2, none⟩), g 40], []⟩ ∧ ∃ wd, Below w.heap.size w wd ∧ w' = wd.setCell ⟨t.M, 2, none⟩ (.slice p sc.length cap)
theorem mBlk_reg (t : Rt) (B : Nat) (rs : List Vr) (A : Value) (sc ex : List (List UInt8 × Nat)) (p : Option Addr) (q cap : Nat) (bM : Nat) (g : Nat → Value) (w : World) (hM : MSt w t B rs A (sc ++ ex) (.slice p q cap)) (hb : w.cell? ⟨bM, 0, none⟩ = some (.pointer (some ⟨t.M, 0, none⟩))) : (fstC (sndC (sndC (sndC (sndC mBlkCode))))).wp Tryz.prog (mBlkP t bM sc p q cap g w) ⟨#[g 0, g 1, .pointer (some ⟨bM, 0, none⟩), g 3, g 4, .int .i64 (sc.length : Int), g 6, g 7, g 8, g 9, g 10, g 11, g 12, g 13, g 14, g 15, g 16, g 17, g 18, g 19, g 20, g 21, g 22, g 23, g 24, g 25, g 26, g 27, g 28, g 29, g 30, g 31, g 32, g 33, g 34, g 35, g 36, g 37, g 38, g 39, g 40], []⟩ w := by
  have hcap := RowM.cap hM.row
  have hl1 : sc.length ≤ cap := by have := hcap.2.1; have := hcap.1; rw [List.length_append] at this; omega
  have hlm : sc.length ≤ 900 := by have := hM.len; rw [List.length_append] at this; omega
  conv => arg 2; whnf
  refine wp_region_noPanic ?_
  refine Ord.wpM_begin (fun W' : World => W'.cell? ⟨bM, 0, none⟩ = some (.pointer (some ⟨t.M, 0, none⟩)) ∧ W'.cell? ⟨t.M, 2, none⟩ = some (.slice p q cap)) [0, 1, 2, 3, 4, 5, 6] (by kernel_rfl) ?_
  have HD : Hid (Below w.heap.size w w.drew) := Below.drew (Below.refl _ _)
  generalize w.drew = wd at *
  have hbx := (hM.below HD.out).box
  have hS : wd.cell? ⟨bM, 0, none⟩ = some (.pointer (some ⟨t.M, 0, none⟩)) ∧ wd.cell? ⟨t.M, 2, none⟩ = some (.slice p q cap) := ⟨keep_cell HD.out hb, hbx.cell 2 rfl⟩
  have f2 := hbx.fr 2
  have c2 := hbx.cell 2 rfl
  clear hM hb hbx hcap
  refine Ord.tk (i := 0) (v := .pointer (some ⟨t.M, 0, none⟩)) (hy := Or.inl ⟨by rfl, by intro W' hW; obtain ⟨q0, q1⟩ := hW; go_simp⟩) (hS := hS) (h := ?_)
  try simp only [Act.put, List.setIfInBounds_toArray, List.set_cons_zero, List.set_cons_succ]
  refine Ord.tk (i := 1) (v := .pointer (some ⟨t.M, 0, none⟩)) (hy := Or.inl ⟨by rfl, by intro W' hW; obtain ⟨q0, q1⟩ := hW; go_simp⟩) (hS := hS) (h := ?_)
  try simp only [Act.put, List.setIfInBounds_toArray, List.set_cons_zero, List.set_cons_succ]
  refine Ord.tk (i := 2) (v := .pointer (some ⟨t.M, 0, none⟩)) (hy := Or.inl ⟨by rfl, by intro W' hW; obtain ⟨q0, q1⟩ := hW; go_simp⟩) (hS := hS) (h := ?_)
  try simp only [Act.put, List.setIfInBounds_toArray, List.set_cons_zero, List.set_cons_succ]
  refine Ord.tk (i := 3) (v := .pointer (some ⟨t.M, 2, none⟩)) (hy := Or.inl ⟨by rfl, by intro W' hW; obtain ⟨q0, q1⟩ := hW; go_simp⟩) (hS := hS) (h := ?_)
  try simp only [Act.put, List.setIfInBounds_toArray, List.set_cons_zero, List.set_cons_succ]
  refine Ord.tk (i := 4) (v := .slice p q cap) (hy := Or.inl ⟨by rfl, by intro W' hW; obtain ⟨q0, q1⟩ := hW; go_simp⟩) (hS := hS) (h := ?_)
  try simp only [Act.put, List.setIfInBounds_toArray, List.set_cons_zero, List.set_cons_succ]
  refine Ord.tk (i := 5) (v := .int .i64 (sc.length : Int)) (hy := Or.inl ⟨by rfl, by intro W' hW; obtain ⟨q0, q1⟩ := hW; go_simp⟩) (hS := hS) (h := ?_)
  try simp only [Act.put, List.setIfInBounds_toArray, List.set_cons_zero, List.set_cons_succ]
  refine Ord.tk (i := 6) (v := .slice p sc.length cap) (hy := Or.inl ⟨by rfl, by intro W' hW; obtain ⟨q0, q1⟩ := hW; go_simp⟩) (hS := hS) (h := ?_)
  try simp only [Act.put, List.setIfInBounds_toArray, List.set_cons_zero, List.set_cons_succ]
  refine Ord.on (i := 7) (h := fun K hK => ?_)
  go_simp
  refine hK.out _ _ (fun h => absurd h (by decide)) ?_
  clear hK K
  try simp only [Act.put, List.setIfInBounds_toArray, List.set_cons_zero, List.set_cons_succ]
  refine Ord.on (i := 8) (h := fun K hK => ?_)
  go_simp
  refine hK.out _ _ (fun h => absurd h (by decide)) ?_
  clear hK K
  try simp only [Act.put, List.setIfInBounds_toArray, List.set_cons_zero, List.set_cons_succ]
  refine Ord.on (i := 9) (h := fun K hK => ?_)
  go_simp
  refine hK.out _ _ (fun h => absurd h (by decide)) ?_
  clear hK K
  try simp only [Act.put, List.setIfInBounds_toArray, List.set_cons_zero, List.set_cons_succ]
  refine Ord.wpM_done (by kernel_rfl) ?_ _
  refine NoPanic.normal ?_
  exact ⟨rfl, rfl, wd, HD.out, rfl⟩
noncomputable def mLoopCode : Code := Tryz.f66.body.getD .skip
def mLoopP (t : Rt) (bM : Nat) (sc : List (List UInt8 × Nat)) (p : Option Addr) (q cap : Nat) (g : Nat → Value) (w : World) (e : Exit) (a' : Act) (w' : World) : Prop := e = .normal ∧ a' = ⟨#[g 0, g 1, .pointer (some ⟨bM, 0, none⟩), g 3, g 4, .int .i64 (sc.length : Int), g 6, g 7, g 8, g 9, g 10, g 11, g 12, g 13, g 14, g 15, g 16, g 17, g 18, g 19, g 20, g 21, g 22, g 23, g 24, .pointer (some ⟨t.M, 0, none⟩), .pointer (some ⟨t.M, 0, none⟩), .pointer (some ⟨t.M, 0, none⟩), .pointer (some ⟨t.M, 2, none⟩), .slice p q cap, .int .i64 (sc.length : Int), .slice p sc.length cap, .pointer (some ⟨t.M, 0, none⟩), .pointer (some ⟨t.M, 2, none⟩), g 34], []⟩ ∧ ∃ wd, Below w.heap.size w wd ∧ w' = wd.setCell ⟨t.M, 2, none⟩ (.slice p sc.length cap)
theorem mLoop_reg (t : Rt) (B : Nat) (rs : List Vr) (A : Value) (sc ex : List (List UInt8 × Nat)) (p : Option Addr) (q cap : Nat) (bM : Nat) (g : Nat → Value) (w : World) (hM : MSt w t B rs A (sc ++ ex) (.slice p q cap)) (hb : w.cell? ⟨bM, 0, none⟩ = some (.pointer (some ⟨t.M, 0, none⟩))) : (fstC (sndC (sndC (sndC (sndC (sndC mLoopCode)))))).wp Tryz.prog (mLoopP t bM sc p q cap g w) ⟨#[g 0, g 1, .pointer (some ⟨bM, 0, none⟩), g 3, g 4, .int .i64 (sc.length : Int), g 6, g 7, g 8, g 9, g 10, g 11, g 12, g 13, g 14, g 15, g 16, g 17, g 18, g 19, g 20, g 21, g 22, g 23, g 24, g 25, g 26, g 27, g 28, g 29, g 30, g 31, g 32, g 33, g 34], []⟩ w := by
  have hcap := RowM.cap hM.row
  have hl1 : sc.length ≤ cap := by have := hcap.2.1; have := hcap.1; rw [List.length_append] at this; omega
  have hlm : sc.length ≤ 900 := by have := hM.len; rw [List.length_append] at this; omega
  conv => arg 2; whnf
  refine wp_region_noPanic ?_
  refine Ord.wpM_begin (fun W' : World => W'.cell? ⟨bM, 0, none⟩ = some (.pointer (some ⟨t.M, 0, none⟩)) ∧ W'.cell? ⟨t.M, 2, none⟩ = some (.slice p q cap)) [0, 1, 2, 3, 4, 5, 6] (by kernel_rfl) ?_
  have HD : Hid (Below w.heap.size w w.drew) := Below.drew (Below.refl _ _)
  generalize w.drew = wd at *
  have hbx := (hM.below HD.out).box
  have hS : wd.cell? ⟨bM, 0, none⟩ = some (.pointer (some ⟨t.M, 0, none⟩)) ∧ wd.cell? ⟨t.M, 2, none⟩ = some (.slice p q cap) := ⟨keep_cell HD.out hb, hbx.cell 2 rfl⟩
  have f2 := hbx.fr 2
  have c2 := hbx.cell 2 rfl
  clear hM hb hbx hcap
  refine Ord.tk (i := 0) (v := .pointer (some ⟨t.M, 0, none⟩)) (hy := Or.inl ⟨by rfl, by intro W' hW; obtain ⟨q0, q1⟩ := hW; go_simp⟩) (hS := hS) (h := ?_)
  try simp only [Act.put, List.setIfInBounds_toArray, List.set_cons_zero, List.set_cons_succ]
  refine Ord.tk (i := 1) (v := .pointer (some ⟨t.M, 0, none⟩)) (hy := Or.inl ⟨by rfl, by intro W' hW; obtain ⟨q0, q1⟩ := hW; go_simp⟩) (hS := hS) (h := ?_)
  try simp only [Act.put, List.setIfInBounds_toArray, List.set_cons_zero, List.set_cons_succ]
  refine Ord.tk (i := 2) (v := .pointer (some ⟨t.M, 0, none⟩)) (hy := Or.inl ⟨by rfl, by intro W' hW; obtain ⟨q0, q1⟩ := hW; go_simp⟩) (hS := hS) (h := ?_)
  try simp only [Act.put, List.setIfInBounds_toArray, List.set_cons_zero, List.set_cons_succ]
  refine Ord.tk (i := 3) (v := .pointer (some ⟨t.M, 2, none⟩)) (hy := Or.inl ⟨by rfl, by intro W' hW; obtain ⟨q0, q1⟩ := hW; go_simp⟩) (hS := hS) (h := ?_)
  try simp only [Act.put, List.setIfInBounds_toArray, List.set_cons_zero, List.set_cons_succ]
  refine Ord.tk (i := 4) (v := .slice p q cap) (hy := Or.inl ⟨by rfl, by intro W' hW; obtain ⟨q0, q1⟩ := hW; go_simp⟩) (hS := hS) (h := ?_)
  try simp only [Act.put, List.setIfInBounds_toArray, List.set_cons_zero, List.set_cons_succ]
  refine Ord.tk (i := 5) (v := .int .i64 (sc.length : Int)) (hy := Or.inl ⟨by rfl, by intro W' hW; obtain ⟨q0, q1⟩ := hW; go_simp⟩) (hS := hS) (h := ?_)
  try simp only [Act.put, List.setIfInBounds_toArray, List.set_cons_zero, List.set_cons_succ]
  refine Ord.tk (i := 6) (v := .slice p sc.length cap) (hy := Or.inl ⟨by rfl, by intro W' hW; obtain ⟨q0, q1⟩ := hW; go_simp⟩) (hS := hS) (h := ?_)
  try simp only [Act.put, List.setIfInBounds_toArray, List.set_cons_zero, List.set_cons_succ]
  refine Ord.on (i := 7) (h := fun K hK => ?_)
  go_simp
  refine hK.out _ _ (fun h => absurd h (by decide)) ?_
  clear hK K
  try simp only [Act.put, List.setIfInBounds_toArray, List.set_cons_zero, List.set_cons_succ]
  refine Ord.on (i := 8) (h := fun K hK => ?_)
  go_simp
  refine hK.out _ _ (fun h => absurd h (by decide)) ?_
  clear hK K
  try simp only [Act.put, List.setIfInBounds_toArray, List.set_cons_zero, List.set_cons_succ]
  refine Ord.on (i := 9) (h := fun K hK => ?_)
  go_simp
  refine hK.out _ _ (fun h => absurd h (by decide)) ?_
  clear hK K
  try simp only [Act.put, List.setIfInBounds_toArray, List.set_cons_zero, List.set_cons_succ]
  refine Ord.wpM_done (by kernel_rfl) ?_ _
  refine NoPanic.normal ?_
  exact ⟨rfl, rfl, wd, HD.out, rfl⟩
def mRndP (t : Rt) (bM bA bT gA n k : Nat) (tk tn : Int) (tx : List UInt8) (ts : Bool) (p1 : Option Addr) (n1 k1 : Nat) (p2 : Option Addr) (n2 k2 : Nat) (p3 : Option Addr) (n3 k3 : Nat) (R : World → World → Value → Prop) (g : Nat → Value) (w : World) (e : Exit) (a' : Act) (w' : World) : Prop := e = .normal ∧ ∃ (W W' : World) (v : Value), Below w.heap.size w W ∧ R W W' v ∧ a' = ⟨#[g 0, g 1, .pointer (some ⟨bM, 0, none⟩), g 3, g 4, g 5, .pointer (some ⟨bA, 0, none⟩), .int .i64 (k : Int), .pointer (some ⟨bT, 0, none⟩), g 9, g 10, g 11, g 12, g 13, g 14, g 15, g 16, g 17, g 18, g 19, g 20, g 21, g 22, g 23, .slice (some ⟨gA, 0, none⟩) n n, .int .i64 (k : Int), .pointer (some ⟨t.M, 0, none⟩), .agg #[.int .i64 tk, .int .i64 tn, .string ⟨tx.toArray⟩, .bool ts, .slice p1 n1 k1, .slice p2 n2 k2, .slice p3 n3 k3], v, .pointer (some ⟨gA, k, none⟩), g 30, g 31, g 32, g 33, g 34, g 35, g 36, g 37, g 38, g 39, g 40], []⟩ ∧ w' = W'.setCell ⟨gA, k, none⟩ v
theorem mRnd_reg (t : Rt) (bM bA bT gA n k : Nat) (tk tn : Int) (tx : List UInt8) (ts : Bool) (p1 : Option Addr) (n1 k1 : Nat) (p2 : Option Addr) (n2 k2 : Nat) (p3 : Option Addr) (n3 k3 : Nat) (R : World → World → Value → Prop) (g : Nat → Value) (w : World) (hk : k < n) (hA : w.cell? ⟨bA, 0, none⟩ = some (.slice (some ⟨gA, 0, none⟩) n n)) (hb : w.cell? ⟨bM, 0, none⟩ = some (.pointer (some ⟨t.M, 0, none⟩))) (hT : Bk w bT [.int .i64 tk, .int .i64 tn, .string ⟨tx.toArray⟩, .bool ts, .slice p1 n1 k1, .slice p2 n2 k2, .slice p3 n3 k3] 89) (HC : Hid (∀ W, Below w.heap.size w W → Calls Tryz.prog 52 #[.pointer (some ⟨t.M, 0, none⟩), .agg #[.int .i64 tk, .int .i64 tn, .string ⟨tx.toArray⟩, .bool ts, .slice p1 n1 k1, .slice p2 n2 k2, .slice p3 n3 k3]] W fun r W' => ∃ f d, r = .returned (.func (.func f) #[] d) ∧ R W W' (.func (.func f) #[] d) ∧ (W'.cell? ⟨bA, 0, none⟩ = some (.slice (some ⟨gA, 0, none⟩) n n) ∧ W'.cell? ⟨bM, 0, none⟩ = some (.pointer (some ⟨t.M, 0, none⟩)) ∧ Bk W' bT [.int .i64 tk, .int .i64 tn, .string ⟨tx.toArray⟩, .bool ts, .slice p1 n1 k1, .slice p2 n2 k2, .slice p3 n3 k3] 89) ∧ ∃ row u, Bk W' gA row 75 ∧ row[k]? = some u)) : (sndC (inC (fstC (sndC (sndC (rndC (inC (sndC (fstC (sndC (sndC (sndC mBlkCode)))))))))))).wp Tryz.prog (mRndP t bM bA bT gA n k tk tn tx ts p1 n1 k1 p2 n2 k2 p3 n3 k3 R g w) ⟨#[g 0, g 1, .pointer (some ⟨bM, 0, none⟩), g 3, g 4, g 5, .pointer (some ⟨bA, 0, none⟩), .int .i64 (k : Int), .pointer (some ⟨bT, 0, none⟩), g 9, g 10, g 11, g 12, g 13, g 14, g 15, g 16, g 17, g 18, g 19, g 20, g 21, g 22, g 23, g 24, g 25, g 26, g 27, g 28, g 29, g 30, g 31, g 32, g 33, g 34, g 35, g 36, g 37, g 38, g 39, g 40], []⟩ w := by
  have hkz : (k : Int) < (n : Int) := by omega
  have hk0 : (0 : Int) ≤ (k : Int) := by omega
  conv => arg 2; whnf
  refine wp_region_noPanic ?_
  refine Ord.wpM_begin (fun W' : World => W'.cell? ⟨bA, 0, none⟩ = some (.slice (some ⟨gA, 0, none⟩) n n) ∧ W'.cell? ⟨bM, 0, none⟩ = some (.pointer (some ⟨t.M, 0, none⟩)) ∧ W'.cell? ⟨bT, 0, none⟩ = some (.int .i64 tk) ∧ W'.cell? ⟨bT, 1, none⟩ = some (.int .i64 tn) ∧ W'.cell? ⟨bT, 2, none⟩ = some (.string ⟨tx.toArray⟩) ∧ W'.cell? ⟨bT, 3, none⟩ = some (.bool ts) ∧ W'.cell? ⟨bT, 4, none⟩ = some (.slice p1 n1 k1) ∧ W'.cell? ⟨bT, 5, none⟩ = some (.slice p2 n2 k2) ∧ W'.cell? ⟨bT, 6, none⟩ = some (.slice p3 n3 k3)) [0, 1, 2, 3, 4] (by kernel_rfl) ?_
  have HD : Hid (Below w.heap.size w w.drew) := Below.drew (Below.refl _ _)
  generalize w.drew = wd at *
  have hT2 := hT.fs (Fs.of_below (l := []) HD.out) (by simp)
  have hS : wd.cell? ⟨bA, 0, none⟩ = some (.slice (some ⟨gA, 0, none⟩) n n) ∧ wd.cell? ⟨bM, 0, none⟩ = some (.pointer (some ⟨t.M, 0, none⟩)) ∧ wd.cell? ⟨bT, 0, none⟩ = some (.int .i64 tk) ∧ wd.cell? ⟨bT, 1, none⟩ = some (.int .i64 tn) ∧ wd.cell? ⟨bT, 2, none⟩ = some (.string ⟨tx.toArray⟩) ∧ wd.cell? ⟨bT, 3, none⟩ = some (.bool ts) ∧ wd.cell? ⟨bT, 4, none⟩ = some (.slice p1 n1 k1) ∧ wd.cell? ⟨bT, 5, none⟩ = some (.slice p2 n2 k2) ∧ wd.cell? ⟨bT, 6, none⟩ = some (.slice p3 n3 k3) := ⟨keep_cell HD.out hA, keep_cell HD.out hb, hT2.cell 0 rfl, hT2.cell 1 rfl, hT2.cell 2 rfl, hT2.cell 3 rfl, hT2.cell 4 rfl, hT2.cell 5 rfl, hT2.cell 6 rfl⟩
  clear hT hT2 hA hb
  refine Ord.tk (i := 0) (v := .slice (some ⟨gA, 0, none⟩) n n) (hy := Or.inl ⟨by rfl, by intro W' hW; obtain ⟨q0, q1, q2, q3, q4, q5, q6, q7, q8⟩ := hW; go_simp⟩) (hS := hS) (h := ?_)
  try simp only [Act.put, List.setIfInBounds_toArray, List.set_cons_zero, List.set_cons_succ]
  refine Ord.tk (i := 1) (v := .int .i64 (k : Int)) (hy := Or.inl ⟨by rfl, by intro W' hW; obtain ⟨q0, q1, q2, q3, q4, q5, q6, q7, q8⟩ := hW; go_simp⟩) (hS := hS) (h := ?_)
  try simp only [Act.put, List.setIfInBounds_toArray, List.set_cons_zero, List.set_cons_succ]
  refine Ord.tk (i := 2) (v := .pointer (some ⟨t.M, 0, none⟩)) (hy := Or.inl ⟨by rfl, by intro W' hW; obtain ⟨q0, q1, q2, q3, q4, q5, q6, q7, q8⟩ := hW; go_simp⟩) (hS := hS) (h := ?_)
  try simp only [Act.put, List.setIfInBounds_toArray, List.set_cons_zero, List.set_cons_succ]
  refine Ord.tk (i := 3) (v := .agg #[.int .i64 tk, .int .i64 tn, .string ⟨tx.toArray⟩, .bool ts, .slice p1 n1 k1, .slice p2 n2 k2, .slice p3 n3 k3]) (hy := Or.inl ⟨by rfl, by intro W' hW; obtain ⟨q0, q1, q2, q3, q4, q5, q6, q7, q8⟩ := hW; go_simp⟩) (hS := hS) (h := ?_)
  try simp only [Act.put, List.setIfInBounds_toArray, List.set_cons_zero, List.set_cons_succ]
  refine Ord.on (i := 4) (h := fun K hK => ?_)
  go_simp
  refine (HC.out wd HD.out).mono ?_
  rintro r w2 ⟨f, d, rfl, hR, ⟨z0, z1, z2⟩, row, u, hrow, hu⟩
  have HR := keep hR
  have cu := hrow.cell k hu
  have fu := hrow.fr k
  have HZ := keep (And.intro z0 (And.intro z1 z2))
  clear hR hrow hu hS HC z0 z1 z2
  go_simp
  refine hK.out _ _ (fun _ => ⟨HZ.out.1, HZ.out.2.1, HZ.out.2.2.cell 0 rfl, HZ.out.2.2.cell 1 rfl, HZ.out.2.2.cell 2 rfl, HZ.out.2.2.cell 3 rfl, HZ.out.2.2.cell 4 rfl, HZ.out.2.2.cell 5 rfl, HZ.out.2.2.cell 6 rfl⟩) ?_
  clear hK K
  try simp only [Act.put, List.setIfInBounds_toArray, List.set_cons_zero, List.set_cons_succ]
  refine Ord.on (i := 5) (h := fun K hK => ?_)
  go_simp
  refine hK.out _ _ (fun h => absurd h (by decide)) ?_
  clear hK K
  try simp only [Act.put, List.setIfInBounds_toArray, List.set_cons_zero, List.set_cons_succ]
  refine Ord.on (i := 6) (h := fun K hK => ?_)
  go_simp
  refine hK.out _ _ (fun h => absurd h (by decide)) ?_
  clear hK K
  try simp only [Act.put, List.setIfInBounds_toArray, List.set_cons_zero, List.set_cons_succ]
  refine Ord.wpM_done (by kernel_rfl) ?_ _
  refine NoPanic.normal ?_
  exact ⟨rfl, wd, w2, _, HD.out, HR.out, rfl, rfl⟩
theorem stmt_via (M : Nat) (tk tn : Int) (x : List UInt8) (ts : Bool) (p1 : Option Addr) (n1 k1 : Nat) (p2 : Option Addr) (n2 k2 : Nat) (p3 : Option Addr) (n3 k3 : Nat) (w : World) (f : Nat) (hk : (tk = 3 ∧ f = 64) ∨ (tk = 4 ∧ f = 65) ∨ (tk = 5 ∧ f = 66)) (Q : World → Ending → World → Prop)
    (hF : ∀ W r W', Q W r W' → ∃ kf d, r = .returned (.func (.func kf) #[] d)) (hQ : ∀ W r W', Below w.heap.size w W → Q W r W' → Q w r W')
    (HC : Hid (∀ W, Below w.heap.size w W → Calls Tryz.prog f #[.pointer (some ⟨M, 0, none⟩), .agg #[.int .i64 tk, .int .i64 tn, .string ⟨x.toArray⟩, .bool ts, .slice p1 n1 k1, .slice p2 n2 k2, .slice p3 n3 k3]] W fun r W' => Q W r W')) :
    Calls Tryz.prog 52 #[.pointer (some ⟨M, 0, none⟩), .agg #[.int .i64 tk, .int .i64 tn, .string ⟨x.toArray⟩, .bool ts, .slice p1 n1 k1, .slice p2 n2 k2, .slice p3 n3 k3]] w fun r w' => Hid (Q w r w') := by
  obtain ⟨w1, hw1⟩ : ∃ y, w.alloc (.cells #[.int .i64 tk, .int .i64 tn, .string ⟨x.toArray⟩, .bool ts, .slice p1 n1 k1, .slice p2 n2 k2, .slice p3 n3 k3] 89) = y := ⟨_, rfl⟩
  have hb1 : Below w.heap.size w w1 := by rw [← hw1]; exact (Below.refl _ _).alloc (Nat.le_refl _) _
  have hbE : Bk w1 w.heap.size [.int .i64 tk, .int .i64 tn, .string ⟨x.toArray⟩, .bool ts, .slice p1 n1 k1, .slice p2 n2 k2, .slice p3 n3 k3] 89 := by rw [← hw1]; exact Bk.new _ _ _
  have c0 := hbE.cell 0 rfl
  have HX1 := keep hbE
  have HC1 := keep (HC.out w1 hb1)
  have HEnd := keep (fun r w2 (h : Q w1 r w2) => And.intro (hF w1 r w2 h) (hQ w1 r w2 hb1 h))
  have HW1 := keep hw1
  clear hw1 hb1 hbE HC hF hQ
  rcases hk with ⟨rfl, rfl⟩ | ⟨rfl, rfl⟩ | ⟨rfl, rfl⟩
  all_goals
    have c1 := HX1.out.cell 1 rfl
    have c2 := HX1.out.cell 2 rfl
    have c3 := HX1.out.cell 3 rfl
    have c4 := HX1.out.cell 4 rfl
    have c5 := HX1.out.cell 5 rfl
    have c6 := HX1.out.cell 6 rfl
    go_enter Tryz.func52, Tryz.ntmps52
    go_wp2_with (first | rw [HW1.out])
    refine HC1.out.mono ?_
    intro r w2 h2
    obtain ⟨⟨kf, d, rfl⟩, hq⟩ := HEnd.out r w2 h2
    have HE := keep hq
    clear HC1 HEnd hq h2
    go_wp2
    go_ret
    exact HE
end Go.Proofs.YtemdnmfldihalaaGreatDoor.Lr
