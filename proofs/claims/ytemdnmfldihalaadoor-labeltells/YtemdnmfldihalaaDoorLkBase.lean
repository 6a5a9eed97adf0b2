/- How the checker stands in memory; what it does first: refuse, part, byName, taken, at. -/
import Derived.Test.YtemdnmfldihalaaDoorLkFind
import Derived.Laws.ResultCell
namespace Go.Proofs.YtemdnmfldihalaaDoor.Lr
set_option linter.unusedVariables false
set_option linter.unusedSimpArgs false
open Go.ChangeShapes Go.WideShapes Go.ChangeAt Go.RowKit Lg

def cellsN (p : Nm) : List Value := [.string ⟨p.name.toArray⟩, .bool p.secret, .bool p.loop]
def nestN (w : World) (X : Nat → Prop) (p : Nm) : Prop := True
theorem nestN_nest : Nest nestN := ⟨fun w w' X p h hb => trivial, fun w X Y p h hb => trivial⟩
theorem cellsN_len (p : Nm) : (cellsN p).length = 3 := rfl
def RowN (w : World) (lo : Nat) (v : Value) (es : List Nm) : Prop := RowX nestN cellsN 3 52 w lo v es
theorem RowX.names {w : World} {lo B : Nat} {v : Value} {es : List Nm} (h : RowN w lo v es) (hl : es.length ≤ 281474976710656) (hB : w.heap.size ≤ B) : NmIs w B es v := by
  rcases RowX.form cellsN_len h with ⟨h1, h2⟩ | ⟨g, cap, h1, h2, h3, h4, h5⟩
  · exact ⟨none, 0, 0, h2, by rw [h1]; rfl, Nat.le_refl _, by omega, fun j t hj => by rw [h1] at hj; simp at hj⟩
  · refine ⟨some ⟨g, 0, none⟩, _, cap, h1, rfl, h2, hl, fun j p hp => ⟨g, 0, rfl, by omega, ⟨?_, ?_, ?_⟩⟩⟩
    · rw [Nat.zero_add]; exact h5 j p 0 _ hp rfl
    · rw [Nat.zero_add]; exact h5 j p 1 _ hp rfl
    · rw [Nat.zero_add]; exact h5 j p 2 _ hp rfl
theorem RowN.own {w w' : World} {lo : Nat} {v : Value} {es : List Nm} (h : RowN w lo v es) (hb : ∀ i, v.ownBlock = some i → w'.heap[i]? = w.heap[i]?) : RowN w' lo v es := by
  refine ⟨?_, fun p hp => trivial⟩
  obtain ⟨h1, h2⟩ := RowX.own h
  refine ⟨h1, ?_⟩
  rcases h2 with h2 | ⟨g, cap, cur, a1, a2, a3, a4⟩
  · exact .inl h2
  · exact .inr ⟨g, cap, cur, a1, a2, by rw [hb g (by rw [a1]; rfl)]; exact a3, a4⟩

/-- How the checker stands: its five fields, its names; the arrays lie below B. -/
structure CK (w : World) (C B : Nat) (rs : List Vr) (A : Value) (ns : List Nm) (nv : Value) (wk lt : Nat) (er : Int) : Prop where
  box : Bk w C [A, nv, .int .i64 (wk : Int), .int .i64 (lt : Int), .int .i64 er] 50
  row : RowN w (C + 1) nv ns
  arr : VrIs w B rs A
  hB : B ≤ C
  len : ns.length ≤ 400
theorem CK.lt {w : World} {C B : Nat} {rs : List Vr} {A : Value} {ns : List Nm} {nv : Value} {wk lt : Nat} {er : Int} (h : CK w C B rs A ns nv wk lt er) : C < w.heap.size := h.box.lt
theorem CK.set {w w' : World} {C B : Nat} {rs : List Vr} {A : Value} {ns : List Nm} {nv : Value} {wk lt wk' lt' : Nat} {er er' : Int} (h : CK w C B rs A ns nv wk lt er) (k : Fs [C] w w') (hb : Bk w' C [A, nv, .int .i64 (wk' : Int), .int .i64 (lt' : Int), .int .i64 er'] 50) : CK w' C B rs A ns nv wk' lt' er' :=
  ⟨hb, RowX.fs nestN_nest h.row k (by simp), h.arr.below (k.below (Nat.le_trans h.hB (Nat.le_of_lt h.lt)) (by simp; exact h.hB)), h.hB, h.len⟩
theorem CK.below {w w' : World} {C B : Nat} {rs : List Vr} {A : Value} {ns : List Nm} {nv : Value} {wk lt : Nat} {er : Int} (h : CK w C B rs A ns nv wk lt er) (k : Below w.heap.size w w') : CK w' C B rs A ns nv wk lt er :=
  h.set (Fs.of_below k) (h.box.fs (Fs.of_below (l := []) k) (by simp))
theorem CK.names {w : World} {C B : Nat} {rs : List Vr} {A : Value} {ns : List Nm} {nv : Value} {wk lt : Nat} {er : Int} (h : CK w C B rs A ns nv wk lt er) : NmIs w w.heap.size ns nv := RowX.names h.row (by have := h.len; omega) (Nat.le_refl _)
theorem VrIs.keepB {w w' : World} {B : Nat} {vs : List Vr} {sl : Value} (h : VrIs w B vs sl) (hb : ∀ i, i < B → w'.heap[i]? = w.heap[i]?) : VrIs w' B vs sl := by
  obtain ⟨p, n, cap, h1, h2, h3, h4, h5⟩ := h
  refine ⟨p, n, cap, h1, h2, h3, h4, fun j v hj => ?_⟩
  obtain ⟨g, o, k1, k2, k3⟩ := h5 j v hj
  have key : ∀ i, w'.cell? ⟨g, i, none⟩ = w.cell? ⟨g, i, none⟩ := fun i => by unfold World.cell?; simp only [hb g k2]
  exact ⟨g, o, k1, k2, ⟨by rw [key]; exact k3.c0, by rw [key]; exact k3.c1, by rw [key]; exact k3.c2⟩⟩
/-- It stays where its blocks stay. -/
theorem CK.stay {w w' : World} {C B : Nat} {rs : List Vr} {A : Value} {ns : List Nm} {nv : Value} {wk lt : Nat} {er : Int} (h : CK w C B rs A ns nv wk lt er) (hC : w'.heap[C]? = w.heap[C]?) (hb : ∀ i, i < B → w'.heap[i]? = w.heap[i]?) (hN : ∀ i, nv.ownBlock = some i → w'.heap[i]? = w.heap[i]?) : CK w' C B rs A ns nv wk lt er :=
  ⟨by have hx := h.box; unfold Bk at hx ⊢; rw [hC]; exact hx, RowN.own h.row hN, h.arr.keepB hb, h.hB, h.len⟩
theorem CK.own {w : World} {C B : Nat} {rs : List Vr} {A : Value} {ns : List Nm} {nv : Value} {wk lt : Nat} {er : Int} (h : CK w C B rs A ns nv wk lt er) (i : Nat) (hi : nv.ownBlock = some i) : C + 1 ≤ i ∧ i < w.heap.size := (RowX.own h.row).lt i hi
theorem CK.rowD {w : World} {C B : Nat} {rs : List Vr} {A : Value} {ns : List Nm} {nv : Value} {wk lt : Nat} {er : Int} (h : CK w C B rs A ns nv wk lt er) {D : Nat} (cs : Array Value) (hC : C < D) (hN : ¬ nv.ownBlock = some D) : CK (w.setRow D cs) C B rs A ns nv wk lt er :=
  h.stay (setRow_other _ _ _ _ (by omega)) (fun i hi => setRow_other _ _ _ _ (by have := h.hB; omega)) (fun i hi => setRow_other _ _ _ _ (fun e => hN (by rw [← e]; exact hi)))
theorem CK.far {w : World} {C B : Nat} {rs : List Vr} {A : Value} {ns : List Nm} {nv : Value} {wk lt : Nat} {er : Int} (h : CK w C B rs A ns nv wk lt er) {D : Nat} (i : Nat) (v : Value) (hC : C < D) (hN : ¬ nv.ownBlock = some D) : CK (w.setCell ⟨D, i, none⟩ v) C B rs A ns nv wk lt er :=
  h.stay (Below.heap_setCell _ _ _ _ (by show C ≠ D; omega)) (fun i hi => Below.heap_setCell _ _ _ _ (by show i ≠ D; have := h.hB; omega)) (fun i hi => Below.heap_setCell _ _ _ _ (fun e => hN (by have e' : i = D := e; rw [← e']; exact hi)))
theorem Bk.away {w : World} {k j : Nat} {l : List Value} {ty : TypeId} (h : Bk w k l ty) (cs : Array Value) (hne : k ≠ j) : Bk (w.setRow j cs) k l ty := by
  unfold Bk at h ⊢
  rw [setRow_other _ _ _ _ hne]; exact h
/-- What was wrong first stays. -/
def refK (c : Bool) (e x : Int) : Int := if c = true ∧ e = 0 then x else e
theorem refK_ne {c : Bool} {e x : Int} (h : ¬ e = 0) : refK c e x = e := by unfold refK; rw [if_neg (fun k => h k.2)]
theorem refK_no (e x : Int) : refK false e x = e := by unfold refK; rw [if_neg (by simp)]
theorem refK_yes (x : Int) : refK true 0 x = x := by unfold refK; rw [if_pos ⟨rfl, rfl⟩]

set_option maxHeartbeats 2000000 in
theorem refuse_any (C : Nat) (l0 l1 l2 l3 : Value) (c : Bool) (e x : Int) (w : World) (h : Bk w C [l0, l1, l2, l3, .int .i64 e] 50) :
    Calls Tryd.prog 42 #[.pointer (some ⟨C, 0, none⟩), .bool c, .int .i64 x] w fun r w' => r = .returned (.tuple #[]) ∧ Bk w' C [l0, l1, l2, l3, .int .i64 (refK c e x)] 50 ∧ Fs [C] w w' := by
  have c4 := h.cell 4 rfl
  have f4 := h.fr 4
  have HB := keep h
  clear h
  cases c with
  | false =>
    go_enter Tryd.func42, Tryd.ntmps42
    go_wp2
    go_end0
    exact ⟨rfl, by rw [refK_no]; exact HB.out, Fs.refl _ _⟩
  | true =>
    by_cases he : e = 0
    · subst he
      go_enter Tryd.func42, Tryd.ntmps42
      go_wp2
      go_end0
      exact ⟨rfl, by rw [refK_yes]; exact HB.out.set 4 _, (Fs.refl _ _).set (by simp) _ _⟩
    · have d : (e == 0) = false := by simpa using he
      have HE := keep he
      clear he
      go_enter Tryd.func42, Tryd.ntmps42
      go_wp2
      go_end0
      exact ⟨rfl, by rw [refK_ne HE.out]; exact HB.out, Fs.refl _ _⟩
theorem refuse_ck (C B : Nat) (rs : List Vr) (A : Value) (ns : List Nm) (nv : Value) (wk lt : Nat) (e : Int) (c : Bool) (x : Int) (w : World) (h : CK w C B rs A ns nv wk lt e) :
    Calls Tryd.prog 42 #[.pointer (some ⟨C, 0, none⟩), .bool c, .int .i64 x] w fun r w' => r = .returned (.tuple #[]) ∧ CK w' C B rs A ns nv wk lt (refK c e x) ∧ Fs [C] w w' := by
  refine (refuse_any C _ _ _ _ c e x w h.box).mono ?_
  rintro r w' ⟨rfl, h1, h2⟩
  exact ⟨rfl, h.set h2 h1, h2⟩

theorem info_N (l : List Value) (h : l.length = 3) : (Tryd.prog.info? 52).map (·.size) = some l.toArray.size := by
  rw [List.size_toArray, h]; kernel_rfl
theorem results_nm {fn : Func} {p u : Tmp} (hf : fn.results = #[.cell p 52, .tmp u]) (tmps : Array Value) (w : World) (g : Nat) (cs : Array Value) (b : Bool) (h2 : tmps.getD p undef = .pointer (some ⟨g, 0, none⟩)) (h3 : tmps.getD u undef = .bool b) (hg : w.heap[g]? = some (.cells cs 52 (0, 0))) (hi : (Tryd.prog.info? 52).map (·.size) = some cs.size) :
    (results fn tmps).run Tryd.prog w = .ok (.tuple #[.agg cs, .bool b]) w := by
  rw [results_cell_tmp hf, h2, h3]
  have := run_loadVar_row (P := Tryd.prog) w g _ 52 cs _ _ hg Tryd.underlying52 rfl hi
  simp [asAddr, Result.andThen, this]
def nmO (o : Option Nm) : Nm := o.getD ⟨[], false, false⟩
def nmA (v : Nm) : Array Value := #[.string ⟨v.name.toArray⟩, .bool v.secret, .bool v.loop]
set_option maxHeartbeats 400000 in
theorem byName_any (C B : Nat) (rs : List Vr) (A : Value) (ns : List Nm) (nv : Value) (wk lt : Nat) (e : Int) (y : List UInt8) (w : World) (h : CK w C B rs A ns nv wk lt e) :
    Calls Tryd.prog 54 #[.pointer (some ⟨C, 0, none⟩), .string ⟨y.toArray⟩] w fun r w' => r = .returned (.tuple #[.agg (nmA (nmO (byN ns y))), .bool (byN ns y).isSome]) ∧ Below w.heap.size w w' := by
  have HB1 : Hid (Below w.heap.size w ((w.alloc (.cells #[.string ⟨y.toArray⟩] 9)).alloc (.cells #[.string ⟨#[]⟩, .bool false, .bool false] 52))) := ((Below.refl _ _).alloc (Nat.le_refl _) _).alloc (by simp) _
  have hk := h.below HB1.out
  have c1 := hk.box.cell 1 rfl
  have HI := keep (indexN_any _ w.heap.size y ns nv _ (Nat.le_refl _) hk.names (by simp))
  have HK := keep h
  have HL := keep h.lt
  have HN := keep h.names
  have HZ := keep (Bk.new (w.alloc (.cells #[.string ⟨y.toArray⟩] 9)) [.string ⟨#[]⟩, .bool false, .bool false] 52)
  obtain ⟨p, n, cap, rfl⟩ := RowX.slice h.row
  have hnl := RowX.len h.row
  subst hnl
  clear h hk
  go_enter Tryd.func54, Tryd.ntmps54
  go_wp2_with fail
  refine HI.out.mono ?_
  rintro r w1 ⟨i, rfl, hi, hb⟩
  have HB2 := keep (HB1.out.trans (hb.mono HB1.out.size))
  have HZ2 : Hid (Bk w1 (w.heap.size + 1) [.string ⟨#[]⟩, .bool false, .bool false] 52) := by
    have hz := HZ.out
    rw [show (w.alloc (.cells #[.string ⟨y.toArray⟩] 9)).heap.size = w.heap.size + 1 by simp] at hz
    exact hz.fs (Fs.of_below (l := []) hb) (by simp)
  have HK2 := keep (HK.out.below HB2.out)
  have q1 := HK2.out.box.cell 1 rfl
  rcases hi with ⟨rfl, hno⟩ | ⟨k, a, rfl, hka, hfa, hkl⟩
  · have HO : Hid (byN ns y = none) := hno
    clear hno hb HI HZ c1
    go_wp2_with (first
      | refine wpList_store_row rfl 52 (.tmp 4) (.tmp 15) rfl (w.heap.size + 1) #[.string ⟨#[]⟩, .bool false, .bool false] rfl rfl 52 #[.string ⟨#[]⟩, .bool false, .bool false] HZ2.out (info_N [.string ⟨#[]⟩, .bool false, .bool false] rfl) rfl (by simp [Value.oneCell']) ?_)
    (try simp only [Exit.inBlock, Exit.then])
    refine bodyPost_ret (results_nm rfl _ _ (w.heap.size + 1) #[.string ⟨#[]⟩, .bool false, .bool false] false rfl rfl (setRow_heap _ _ _ _ _ _ HZ2.out) (info_N [.string ⟨#[]⟩, .bool false, .bool false] rfl)) rfl ?_
    rw [HO.out]
    exact ⟨rfl, below_setRow HB2.out (by omega) _⟩
  · have HO : Hid (byN ns y = some a) := hfa
    obtain ⟨p', n', cap', e0, e1, e2, e3, hat⟩ := HN.out
    cases e0
    obtain ⟨g, o, rfl, hg, hat⟩ := hat k a hka
    have hat := hat.below HB2.out hg
    have a0 := hat.c0
    have a1 := hat.c1
    have a2 := hat.c2
    have hk0 : (0 : Int) ≤ (k : Int) := by omega
    have hkz : (k : Int) < (ns.length : Int) := by omega
    have dz : decide ((k : Int) < 0) = false := decide_eq_false (by omega)
    clear hfa hb HI HZ c1 hat HN hka
    obtain ⟨an, as', al⟩ := a
    go_wp2_with (first
      | refine wpList_store_row rfl 52 (.tmp 4) (.tmp 22) rfl (w.heap.size + 1) #[.string ⟨an.toArray⟩, .bool as', .bool al] rfl rfl 52 #[.string ⟨#[]⟩, .bool false, .bool false] HZ2.out (info_N [.string ⟨an.toArray⟩, .bool as', .bool al] rfl) rfl (by simp [Value.oneCell']) ?_)
    (try simp only [Exit.inBlock, Exit.then])
    refine bodyPost_ret (results_nm rfl _ _ (w.heap.size + 1) #[.string ⟨an.toArray⟩, .bool as', .bool al] true rfl rfl (setRow_heap _ _ _ _ _ _ HZ2.out) (info_N [.string ⟨an.toArray⟩, .bool as', .bool al] rfl)) rfl ?_
    rw [HO.out]
    exact ⟨rfl, below_setRow HB2.out (by omega) _⟩
end Go.Proofs.YtemdnmfldihalaaDoor.Lr
