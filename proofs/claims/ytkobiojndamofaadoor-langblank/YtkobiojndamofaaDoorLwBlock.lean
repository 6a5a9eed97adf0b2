/- The program's own reader: a block of statements. Written by tools/gen_block.py. -/
import Derived.Test.YtkobiojndamofaaDoorLwStX
import Derived.Test.YtkobiojndamofaaDoorLiOrd
namespace Go.Proofs.YtkobiojndamofaaDoor.Lr
set_option linter.unusedVariables false
set_option linter.unusedSimpArgs false
open Go.ChangeShapes Go.WideShapes Go.ChangeAt Go.RowKit Lg

/-- A statement is read, behind its bracket, where m may stand within one another. -/
def StmtOK (m : Nat) : Prop := ∀ (b c : Nat) (s : ByteArray) (e : Int) (w : World), s.size < 1201 → RB w b c s e → Tabs w → GL b ∧ GL c →
  Calls Tryd.prog 63 #[.pointer (some ⟨b, 0, none⟩), .int .i64 (9 - (m : Int))] w fun r w' => ∃ p : St × Value × Value × Value, r = .returned (.agg (stA p.1 p.2.1 p.2.2.1 p.2.2.2)) ∧ nestS (m + 1) w' (New w w') p ∧ Rd w' b c s.size e (stmtG 1201 m (words s.data.toList)) (fun a => a = p.1) ∧ Fs [b, c] w w'

theorem RowX.push2 {α : Type} {nest : World → (Nat → Prop) → α → Prop} {cells : α → List Value} {k : Nat} {ty : TypeId} {w w1 : World} {lo g n cap : Nat} {v : Value} {es : List α} {p : α} (hN : Nest nest) (h : RowX nest cells k ty w lo v es) (hp : nest w (In lo v w) p)
    (hown : w1.ownsRow lo ty k (.slice (some ⟨g, 0, none⟩) n cap) (es.length + 1) (es.flatMap cells ++ cells p)) (hs : w.heap.size ≤ w1.heap.size) (hb : ∀ i, lo ≤ i → i < w.heap.size → ¬ v.ownBlock = some i → w1.heap[i]? = w.heap[i]?) (hat : v.ownBlock = some g ∨ w.heap.size ≤ g) :
    RowX nest cells k ty w1 lo (.slice (some ⟨g, 0, none⟩) n cap) (es ++ [p]) := by
  have key : ∀ q, nest w (In lo v w) q → nest w1 (In lo (.slice (some ⟨g, 0, none⟩) n cap) w1) q := fun q hq => by
    refine hN.mono _ _ _ _ (hN.keep _ w1 _ q hq (fun i hi => hb i hi.1 hi.2.1 hi.2.2)) (fun i hi => ⟨hi.1, Nat.lt_of_lt_of_le hi.2.1 hs, fun e => ?_⟩)
    have e' : g = i := by simpa [Value.ownBlock] using e
    rcases hat with ha | ha
    · exact hi.2.2 (by rw [ha, e'])
    · have := hi.2.1; omega
  refine ⟨?_, fun q hq => ?_⟩
  · rw [List.length_append, List.length_singleton, List.flatMap_append, List.flatMap_singleton]; exact hown
  · rcases List.mem_append.1 hq with e | e
    · exact key q (h.sub q e)
    · rw [List.mem_singleton] at e; rw [e]; exact key p hp
theorem RowX.len {α : Type} {nest : World → (Nat → Prop) → α → Prop} {cells : α → List Value} {k : Nat} {ty : TypeId} {w : World} {lo : Nat} {p : Option Addr} {n cap : Nat} {es : List α} (h : RowX nest cells k ty w lo (.slice p n cap) es) : n = es.length := by
  rcases h.own.2 with ⟨h1, h2⟩ | ⟨g, cap', cur, h1, _⟩
  · injection h1 with _ h3 _; omega
  · injection h1 with _ h3 _

/-- How things stand while a block is read: its own variables. -/
structure BS (w W : World) (b : Nat) (a : Int) (m : Nat) (v : Value) (es : List (St × Value × Value × Value)) : Prop where
  R : Bk W w.heap.size [.pointer (some ⟨b, 0, none⟩)] 40
  A : Bk W (w.heap.size + 1) [.int .i64 a] 3
  L : Bk W (w.heap.size + 1 + 1) [v] 24
  row : RowS m W (w.heap.size + 3) v es
theorem BS.step {w W W' : World} {b c : Nat} {a : Int} {m : Nat} {v : Value} {es : List (St × Value × Value × Value)} (h : BS w W b a m v es) (hb : b < w.heap.size) (hc : c < w.heap.size) (k : Fs [b, c] W W') : BS w W' b a m v es :=
  ⟨h.R.fs k (by simp; omega), h.A.fs k (by simp; omega), h.L.fs k (by simp; omega), RowX.fs (nestS_nest m) h.row k (by simp; omega)⟩
theorem BS.up {w W : World} {b : Nat} {a : Int} {m : Nat} {v : Value} {es : List (St × Value × Value × Value)} (h : BS w W b a m v es) (o : Obj) : BS w (W.alloc o) b a m v es :=
  ⟨h.R.up o, h.A.up o, h.L.up o, RowX.fs (l := []) (nestS_nest m) h.row (Fs.of_below ((Below.refl _ _).alloc (Nat.le_refl _) o)) (by simp)⟩
/-- One more is laid. -/
theorem BS.push {w wa w3 : World} {b : Nat} {a : Int} {m : Nat} {v : Value} {es : List (St × Value × Value × Value)} {p : St × Value × Value × Value} {g n cap : Nat} (h : BS w wa b a m v es) (hp : nestS m wa (In (w.heap.size + 3) v wa) p)
    (hown : w3.ownsRow (w.heap.size + 3) 36 7 (.slice (some ⟨g, 0, none⟩) n cap) (es.length + 1) (es.flatMap cellsS ++ cellsS p)) (hL : Bk w3 (w.heap.size + 1 + 1) [.slice (some ⟨g, 0, none⟩) n cap] 24)
    (hs : wa.heap.size ≤ w3.heap.size) (hb : ∀ i, i < wa.heap.size → ¬ v.ownBlock = some i → i ≠ w.heap.size + 1 + 1 → w3.heap[i]? = wa.heap[i]?) (hat : v.ownBlock = some g ∨ wa.heap.size ≤ g) : BS w w3 b a m (.slice (some ⟨g, 0, none⟩) n cap) (es ++ [p]) := by
  have hv : ∀ i, v.ownBlock = some i → w.heap.size + 3 ≤ i := fun i hi => (h.row.own.lt i hi).1
  have key : ∀ i, i < w.heap.size + 1 + 1 → w3.heap[i]? = wa.heap[i]? := fun i hi => by
    have := h.L.lt
    exact hb i (by omega) (fun e => by have := hv i e; omega) (by omega)
  refine ⟨?_, ?_, hL, RowX.push2 (nestS_nest m) h.row hp hown hs (fun i h1 h2 h3 => hb i h2 h3 (by omega)) hat⟩
  · have := h.R; unfold Bk at this ⊢; rw [key _ (by omega)]; exact this
  · have := h.A; unfold Bk at this ⊢; rw [key _ (by omega)]; exact this
/-- The cells of a row that are there. -/
theorem own_there {w : World} {base n cap g k : Nat} {ty : TypeId} {xs : List Value} (h : w.ownsRow base ty k (.slice (some ⟨g, 0, none⟩) n cap) n xs) (o l : Nat) (hl : o + l ≤ n * k) : w.there g o l := fun j hj => by
  refine ⟨?_, h.frozenAt _⟩
  rw [h.cellAt _ (by omega)]
  have : o + j < xs.length := by rw [h.1]; omega
  rw [List.getElem?_eq_getElem this]; rfl

theorem own_stay {w w' : World} {base n cap g k : Nat} {ty : TypeId} {xs : List Value} (h : w.ownsRow base ty k (.slice (some ⟨g, 0, none⟩) n cap) n xs) (hb : w'.heap[g]? = w.heap[g]?) : w'.ownsRow base ty k (.slice (some ⟨g, 0, none⟩) n cap) n xs := by
  obtain ⟨h1, h2⟩ := h
  refine ⟨h1, ?_⟩
  rcases h2 with ⟨h2, _⟩ | ⟨g', cap', cur, a1, a2, a3, a4⟩
  · cases h2
  · have e : g = g' := by
      injection a1 with a1 _ _
      injection a1 with a1
      injection a1
    subst e
    exact .inr ⟨g, cap', cur, a1, a2, by rw [hb]; exact a3, a4⟩
/-- A part, and the slice that holds it, are laid, in either order. -/
structure Laid2 (w2 w3 : World) (base n cap g k L : Nat) (ty tl : TypeId) (xs : List Value) : Prop where
  own : w3.ownsRow base ty k (.slice (some ⟨g, 0, none⟩) n cap) n xs
  box : Bk w3 L [.slice (some ⟨g, 0, none⟩) n cap] tl
  size : w2.heap.size ≤ w3.heap.size
  block : ∀ i, i < w2.heap.size → i ≠ g → i ≠ L → w3.heap[i]? = w2.heap[i]?
  os : w3.os = w2.os
  tape : w3.tape = w2.tape
  output : w3.output = w2.output
theorem laid_ab {w2 : World} {base n cap g k L : Nat} {ty tl : TypeId} {ys zs vs : List Value} {l : Value} (hne : g ≠ L) (h : w2.ownsRow base ty k (.slice (some ⟨g, 0, none⟩) n cap) n (ys ++ zs)) (hl : zs.length = vs.length) (hL : Bk w2 L [l] tl) (o : Nat) (ho : o = ys.length) :
    Laid2 w2 ((w2.setCells g o vs).setCell ⟨L, 0, none⟩ (.slice (some ⟨g, 0, none⟩) n cap)) base n cap g k L ty tl (ys ++ vs) := by
  subst ho
  obtain ⟨h1, h2⟩ := own_set vs ys zs w2 hl h
  have hL2 : Bk (w2.setCells g ys.length vs) L [l] tl := by
    unfold Bk at hL ⊢
    rw [h2.block L (Array.getElem?_eq_some_iff.1 hL).1 (by simp; exact Ne.symm hne)]; exact hL
  exact ⟨own_stay h1 (Below.heap_setCell _ _ _ _ hne), hL2.set 0 _, by simp [World.setCell]; exact h2.size, fun i hi hg hl => by rw [Below.heap_setCell _ _ _ _ hl]; exact h2.block i hi (by simp; exact hg), h2.os, h2.tape, h2.output⟩
theorem laid_ba {w2 : World} {base n cap g k L : Nat} {ty tl : TypeId} {ys zs vs : List Value} {l : Value} (hne : g ≠ L) (h : w2.ownsRow base ty k (.slice (some ⟨g, 0, none⟩) n cap) n (ys ++ zs)) (hl : zs.length = vs.length) (hL : Bk w2 L [l] tl) (o : Nat) (ho : o = ys.length) :
    Laid2 w2 ((w2.setCell ⟨L, 0, none⟩ (.slice (some ⟨g, 0, none⟩) n cap)).setCells g o vs) base n cap g k L ty tl (ys ++ vs) := by
  subst ho
  have hs : (w2.setCell ⟨L, 0, none⟩ (.slice (some ⟨g, 0, none⟩) n cap)).heap.size = w2.heap.size := by simp [World.setCell]
  obtain ⟨h1, h2⟩ := own_set vs ys zs _ hl (own_stay (w' := w2.setCell ⟨L, 0, none⟩ (.slice (some ⟨g, 0, none⟩) n cap)) h (Below.heap_setCell _ _ _ _ hne))
  have hL2 := hL.set 0 (.slice (some ⟨g, 0, none⟩) n cap)
  refine ⟨h1, ?_, by have := h2.size; omega, fun i hi hg hl => by rw [h2.block i (by omega) (by simp; exact hg), Below.heap_setCell _ _ _ _ hl], h2.os, h2.tape, h2.output⟩
  unfold Bk at hL2 ⊢
  rw [h2.block L (by rw [hs]; exact hL.lt) (by simp; exact Ne.symm hne)]; exact hL2
theorem step_store_mid {P : Program} {ops : Array Oper} {o : Oper} {a : Act} {w : World} {K : Act → World → Prop} {Q : Exit → Act → World → Prop} {E : Prop} (hgd : o.guard = none) (ty : TypeId) (x y : Operand) (ho : o.op = .store ty x y)
    (b k : Nat) (cells : Array Value) (hx : a.eval x = .pointer (some ⟨b, k, none⟩)) (hy : a.eval y = .agg cells) (ht : w.there b k cells.size) (hi : (P.info? ty).map (·.size) = some cells.size) (h1 : cells.all (·.oneCell') = true)
    (h : K (a.put o.dst undef) (w.setCells b k cells.toList)) : if Region.wanted o (yielded ops a.tmps) = true then Oper.wp P o a w K Q else E := by
  rw [if_pos (by simp [Region.wanted, hgd])]
  exact wp_store_mid ty x y ho b k cells hx hy ht hi h1 h
theorem bk_add {w : World} {k : Nat} {l : List Value} {ty : TypeId} (h : Bk w k l ty) (j : Nat) (u : Value) (hj : l[j]? = some u) : w.cell? ((⟨k, 0, none⟩ : Addr).add j) = some u := by
  have he : (⟨k, 0, none⟩ : Addr).add j = ⟨k, j, none⟩ := by
    simp [Addr.add]
    intro h; omega
  rw [he]; exact h.cell j hj

set_option maxHeartbeats 16000000 in
set_option maxRecDepth 100000 in
theorem block1_rd (m : Nat) (ih : StmtOK m) (b c : Nat) (w W : World) (hbl : b < w.heap.size) (hcl : c < w.heap.size) (v0 : Value) (es : List (St × Value × Value × Value)) (s : ByteArray) (hs : s.size + es.length + 1 ≤ 1200) (h : RB W b c s 0) (hB : BS w W b (9 - (m : Int)) (m + 1) v0 es) (ht : Tabs W) (hg : GL b ∧ GL c) :
    Calls Tryd.prog 62 #[.pointer (some ⟨w.heap.size + 1 + 1, 0, none⟩), .pointer (some ⟨w.heap.size, 0, none⟩), .pointer (some ⟨w.heap.size + 1, 0, none⟩)] W fun r w' => r = .returned (.tuple #[]) ∧ ∃ (p : St × Value × Value × Value) (v' : Value),
      BS w w' b (9 - (m : Int)) (m + 1) v' (es ++ [p]) ∧ Rd w' b c s.size 0 (stmtG 1201 m (words s.data.toList)) (fun a => a = p.1) ∧ Fh w.heap.size [b, c] W w' := by
  obtain ⟨pv, nv, cv, rfl⟩ := hB.row.slice
  have hnv := hB.row.len
  subst hnv
  have hsz := hB.L.lt
  have IH : Hid (∀ v, RB v b c s 0 → Tabs v → Calls Tryd.prog 63 #[.pointer (some ⟨b, 0, none⟩), .int .i64 (9 - (m : Int))] v fun r w' => ∃ p : St × Value × Value × Value, r = .returned (.agg (stA p.1 p.2.1 p.2.2.1 p.2.2.2)) ∧ nestS (m + 1) w' (New v w') p ∧ Rd w' b c s.size 0 (stmtG 1201 m (words s.data.toList)) (fun a => a = p.1) ∧ Fs [b, c] v w') :=
    fun v hp hv => ih b c s 0 v (by omega) hp hv hg
  have HP : Hid (RB W.drew b c s 0) := h
  have HB : Hid (BS w W.drew b (9 - (m : Int)) (m + 1) (.slice pv es.length cv) es) := ⟨hB.R, hB.A, hB.L, RowX.fs (l := []) (nestS_nest _) hB.row ⟨rfl, rfl, rfl, Nat.le_refl _, fun _ _ _ => rfl⟩ (by simp)⟩
  have HT : Hid (Tabs W.drew) := ht
  have HW : Hid (Fh w.heap.size [b, c] W W.drew) := ⟨rfl, rfl, rfl, Nat.le_refl _, fun _ _ _ => rfl⟩
  have hS : (fun W' : World => W'.cell? ⟨w.heap.size + 1 + 1, 0, none⟩ = some (.slice pv es.length cv) ∧ W'.cell? ⟨w.heap.size, 0, none⟩ = some (.pointer (some ⟨b, 0, none⟩)) ∧ W'.cell? ⟨w.heap.size + 1, 0, none⟩ = some (.int .i64 (9 - (m : Int)))) W.drew := ⟨HB.out.L.cell 0 rfl, HB.out.R.cell 0 rfl, HB.out.A.cell 0 rfl⟩
  have hW : w.heap.size + 3 ≤ W.drew.heap.size := by show _ ≤ W.heap.size; omega
  generalize 9 - (m : Int) = a9 at *
  obtain ⟨i0, hi0, hz0, hz1, hz2⟩ := info_parts infoS
  clear ih h hB ht hg
  go_enter Tryd.func62, Tryd.ntmps62
  go_wp2_with fail
  refine wp_region_noPanic ?_
  refine Ord.wpM_begin (fun W' : World => W'.cell? ⟨w.heap.size + 1 + 1, 0, none⟩ = some (.slice pv es.length cv) ∧ W'.cell? ⟨w.heap.size, 0, none⟩ = some (.pointer (some ⟨b, 0, none⟩)) ∧ W'.cell? ⟨w.heap.size + 1, 0, none⟩ = some (.int .i64 a9)) [0, 1, 2, 3, 4, 5] (by kernel_rfl) ?_
  generalize W.drew = Wd at *
  refine Ord.wpM_take (i := 0) (v := .slice pv es.length cv) (by simp only [List.getElem?_toArray, List.getElem?_cons_zero, List.getElem?_cons_succ]; rfl) (by kernel_rfl) (by kernel_rfl) (by kernel_rfl) (by kernel_rfl) (fun _ _ _ h => h) (Or.inl ⟨by rfl, by intro W' hW; obtain ⟨q0, q1, q2⟩ := hW; go_simp⟩) hS ?_
  try simp only [Act.put, List.setIfInBounds_toArray, List.set_cons_zero, List.set_cons_succ]
  refine Ord.wpM_take (i := 1) (v := .pointer (some ⟨b, 0, none⟩)) (by simp only [List.getElem?_toArray, List.getElem?_cons_zero, List.getElem?_cons_succ]; rfl) (by kernel_rfl) (by kernel_rfl) (by kernel_rfl) (by kernel_rfl) (fun _ _ _ h => h) (Or.inl ⟨by rfl, by intro W' hW; obtain ⟨q0, q1, q2⟩ := hW; go_simp⟩) hS ?_
  try simp only [Act.put, List.setIfInBounds_toArray, List.set_cons_zero, List.set_cons_succ]
  refine Ord.wpM_take (i := 2) (v := .int .i64 a9) (by simp only [List.getElem?_toArray, List.getElem?_cons_zero, List.getElem?_cons_succ]; rfl) (by kernel_rfl) (by kernel_rfl) (by kernel_rfl) (by kernel_rfl) (fun _ _ _ h => h) (Or.inl ⟨by rfl, by intro W' hW; obtain ⟨q0, q1, q2⟩ := hW; go_simp⟩) hS ?_
  try simp only [Act.put, List.setIfInBounds_toArray, List.set_cons_zero, List.set_cons_succ]
  refine Ord.wpM_take (i := 4) (v := .int .i64 (es.length : Int)) (by simp only [List.getElem?_toArray, List.getElem?_cons_zero, List.getElem?_cons_succ]; rfl) (by kernel_rfl) (by kernel_rfl) (by kernel_rfl) (by kernel_rfl) (fun _ _ _ h => h) (Or.inl ⟨by rfl, by intro W' hW; obtain ⟨q0, q1, q2⟩ := hW; go_simp⟩) hS ?_
  try simp only [Act.put, List.setIfInBounds_toArray, List.set_cons_zero, List.set_cons_succ]
  refine Ord.wpM_two (i := 3) (j := 5) (by kernel_rfl) (by simp only [List.getElem?_toArray, List.getElem?_cons_zero, List.getElem?_cons_succ]; rfl) (by simp only [List.getElem?_toArray, List.getElem?_cons_zero, List.getElem?_cons_succ]; rfl) (fun K hK => ?_) (fun K hK => ?_)
  · have HPc := HP
    have HTc := HT
    go_simp
    refine (IH.out _ HPc.out HTc.out).mono ?_
    rintro r w1 ⟨⟨t, s1, s2, s3⟩, rfl, hnest, hrd, hf⟩
    obtain ⟨x1, y1, z1, e1⟩ := hnest.1.slice
    obtain ⟨x2, y2, z2, e2⟩ := hnest.2.1.slice
    obtain ⟨x3, y3, z3, e3⟩ := hnest.2.2.slice
    simp only at e1 e2 e3
    subst e1 e2 e3
    have HB1 := keep (HB.out.step hbl hcl hf)
    have HV := keep (fun i => HB.out.row.own.lt i)
    have HNs := keep hnest
    obtain ⟨s5, e5, hp5, hn5, h51, h52⟩ := hrd
    have HP5 := keep (hp5.up (.cells #[.int .i64 0, .int .i64 0, .string ⟨#[]⟩, .bool false, .slice none 0 0, .slice none 0 0, .slice none 0 0] 36))
    have H52 := keep (h52 rfl)
    have HF1 := keep (HW.out.trans (hf.fh (by omega)))
    have hs1 : Wd.heap.size ≤ w1.heap.size := hf.size
    clear hnest hp5 h51 h52 hf HPc HTc
    go_simp
    refine hK.out _ _ (fun _ => ⟨HB1.out.L.cell 0 rfl, HB1.out.R.cell 0 rfl, HB1.out.A.cell 0 rfl⟩) ?_
    clear hK K
    try simp only [Act.put, List.setIfInBounds_toArray, List.set_cons_zero, List.set_cons_succ]
    refine Ord.wpM_one (i := 5) (by kernel_rfl) (by simp only [List.getElem?_toArray, List.getElem?_cons_zero, List.getElem?_cons_succ]; rfl) (fun K hK => ?_)
    go_simp
    have HBa := keep (HB1.out.up (.cells #[.int .i64 0, .int .i64 0, .string ⟨#[]⟩, .bool false, .slice none 0 0, .slice none 0 0, .slice none 0 0] 36))
    have HZ := keep (Bk.new w1 [.int .i64 0, .int .i64 0, .string ⟨#[]⟩, .bool false, .slice none 0 0, .slice none 0 0, .slice none 0 0] 36)
    have HFa := keep (HF1.out.trans (((Fs.refl [b, c] w1).up (.cells #[.int .i64 0, .int .i64 0, .string ⟨#[]⟩, .bool false, .slice none 0 0, .slice none 0 0, .slice none 0 0] 36)).fh (B := w.heap.size) (by omega)))
    have HNa : Hid (nestS (m + 1) (w1.alloc (.cells #[.int .i64 0, .int .i64 0, .string ⟨#[]⟩, .bool false, .slice none 0 0, .slice none 0 0, .slice none 0 0] 36)) (In (w.heap.size + 3) (.slice pv es.length cv) (w1.alloc (.cells #[.int .i64 0, .int .i64 0, .string ⟨#[]⟩, .bool false, .slice none 0 0, .slice none 0 0, .slice none 0 0] 36))) (t, .slice x1 y1 z1, .slice x2 y2 z2, .slice x3 y3 z3)) :=
      (nestS_nest _).mono _ (New Wd w1) _ _ ((nestS_nest _).keep _ _ _ _ HNs.out (fun i hi => ((Below.refl w1.heap.size w1).alloc (Nat.le_refl _) _).block i hi.2)) (fun i hi => ⟨by have := hi.1; omega, by have := hi.2; simp; omega, fun hv => by have := (HV.out i hv).2; have := hi.1; omega⟩)
    have hsa : Wd.heap.size ≤ (w1.alloc (.cells #[.int .i64 0, .int .i64 0, .string ⟨#[]⟩, .bool false, .slice none 0 0, .slice none 0 0, .slice none 0 0] 36)).heap.size := by simp; omega
    refine hK.out _ _ (fun _ => ⟨HBa.out.L.cell 0 rfl, HBa.out.R.cell 0 rfl, HBa.out.A.cell 0 rfl⟩) ?_
    clear hK K HNs HF1 HB1
    generalize w1.alloc (.cells #[.int .i64 0, .int .i64 0, .string ⟨#[]⟩, .bool false, .slice none 0 0, .slice none 0 0, .slice none 0 0] 36) = wa at *
    obtain ⟨zb, hzb⟩ : ∃ zb, w1.heap.size = zb := ⟨_, rfl⟩
    rw [hzb] at HZ
    try rw [hzb]
    clear hzb
    try simp only [Act.put, List.setIfInBounds_toArray, List.set_cons_zero, List.set_cons_succ]
    refine Ord.wpM_one (i := 6) (by kernel_rfl) (by simp only [List.getElem?_toArray, List.getElem?_cons_zero, List.getElem?_cons_succ]; rfl) (fun K hK => ?_)
    refine step_append_lies _ rfl (.tmp 3) (.tmp 8) 24 rfl (w.heap.size + 3) 36 i0 _ 7 112 Tryd.underlying24 hi0 hz0 hz1 hz2 rfl (by decide) _ _ _ rfl HBa.out.row.own ⟨zb, 0, none⟩ 1 1 [.int .i64 0, .int .i64 0, .string ⟨#[]⟩, .bool false, .slice none 0 0, .slice none 0 0, .slice none 0 0] rfl rfl (fun j u hj => bk_add HZ.out j u hj) ?_ (by decide) ?_ ?_ ?_ wa.heap.size rfl ?_
    · intro u hu
      simp only [List.mem_cons, List.not_mem_nil, or_false] at hu
      rcases hu with rfl | rfl | rfl | rfl | rfl | rfl | rfl <;> rfl
    · unfold maxLen; omega
    · omega
    · have := HBa.out.L.lt; omega
    · intro g cap w2 hown2 hgrow hat hlt
      refine hK.out _ _ (fun h => absurd h (by decide)) ?_
      clear hK K
      have hgl : w.heap.size + 3 ≤ g := by
        rcases hat with h | h
        · exact (HBa.out.row.own.lt g h).1
        · have := HBa.out.L.lt; omega
      have hL2 : Bk w2 (w.heap.size + 1 + 1) [.slice pv es.length cv] 24 := by
        have h1 := HBa.out.L
        unfold Bk at h1 ⊢
        rw [hgrow.block _ HBa.out.L.lt (fun e => by have := (HBa.out.row.own.lt _ e.symm).1; omega)]; exact h1
      have HL2 := keep hL2
      have hfl : (es.flatMap cellsS).length = es.length * 7 := flat_len7 cellsS 7 cellsS_len es
      have HO2 := keep hown2
      have HG2 := keep hgrow
      have HAt := keep hat
      have hx1 : (es.length : Int) < (es.length : Int) + 1 := by omega
      have hcL := hL2.cell 0 rfl
      have hfL := hL2.fr 0
      have HTh : Hid (w2.there g (es.length * 7) 7) := own_there hown2 _ _ (by omega)
      have HFin : Hid (∀ w3, Laid2 w2 w3 (w.heap.size + 3) (es.length + 1) cap g 7 (w.heap.size + 1 + 1) 36 24 (es.flatMap cellsS ++ (stA t (.slice x1 y1 z1) (.slice x2 y2 z2) (.slice x3 y3 z3)).toList) → ∃ (p : St × Value × Value × Value) (v' : Value), BS w w3 b a9 (m + 1) v' (es ++ [p]) ∧ Rd w3 b c s.size 0 (stmtG 1201 m (words s.data.toList)) (fun a => a = p.1) ∧ Fh w.heap.size [b, c] W w3) := fun w3 hl => by
        have hb3 : ∀ i, i < wa.heap.size → ¬ (Value.slice pv es.length cv).ownBlock = some i → i ≠ w.heap.size + 1 + 1 → w3.heap[i]? = wa.heap[i]? := fun i h1 h2 h3 => by
          have hig : i ≠ g := fun e => by
            subst e
            rcases HAt.out with h | h
            · exact h2 h
            · omega
          rw [hl.block i (Nat.lt_of_lt_of_le h1 HG2.out.size) hig h3]
          exact HG2.out.block i h1 (fun e => h2 e.symm)
        have hbc : ∀ i, i < w.heap.size → w3.heap[i]? = wa.heap[i]? := fun i hi => hb3 i (by omega) (fun e => by have := (HBa.out.row.own.lt i e).1; omega) (by omega)
        have hown3 : w3.ownsRow (w.heap.size + 3) 36 7 (.slice (some ⟨g, 0, none⟩) (es.length + 1) cap) (es.length + 1) (es.flatMap cellsS ++ cellsS (t, .slice x1 y1 z1, .slice x2 y2 z2, .slice x3 y3 z3)) := hl.own
        refine ⟨_, _, BS.push HBa.out HNa.out hown3 hl.box (Nat.le_trans HG2.out.size hl.size) hb3 (by rcases HAt.out with h | h; exact .inl h; exact .inr (by omega)), ⟨s5, e5, ⟨by rw [hbc b hbl]; exact HP5.out.1, by show w3.heap[c]? = _; rw [hbc c hcl]; exact HP5.out.2⟩, hn5, fun h => absurd rfl h, fun _ => H52.out⟩, ?_⟩
        exact HFa.out.trans ⟨hl.os.trans HG2.out.os, hl.tape.trans HG2.out.tape, hl.output.trans HG2.out.output, Nat.le_trans HG2.out.size hl.size, fun i hi _ => hbc i hi⟩
      have HLab := keep (laid_ab (vs := (stA t (.slice x1 y1 z1) (.slice x2 y2 z2) (.slice x3 y3 z3)).toList) (by omega) HO2.out rfl HL2.out (es.length * 7) hfl.symm)
      have HLba := keep (laid_ba (vs := (stA t (.slice x1 y1 z1) (.slice x2 y2 z2) (.slice x3 y3 z3)).toList) (by omega) HO2.out rfl HL2.out (es.length * 7) hfl.symm)
      have HFab := keep (HFin.out _ HLab.out)
      have HFba := keep (HFin.out _ HLba.out)
      clear hown2 hgrow hat hL2 HNa HP5 H52 HFa HG2 HAt HFin HLab HLba
      try simp only [Act.put, List.setIfInBounds_toArray, List.set_cons_zero, List.set_cons_succ]
      refine Ord.wpM_two (i := 7) (j := 9) (by kernel_rfl) (by simp only [List.getElem?_toArray, List.getElem?_cons_zero, List.getElem?_cons_succ]; rfl) (by simp only [List.getElem?_toArray, List.getElem?_cons_zero, List.getElem?_cons_succ]; rfl) (fun K hK => ?_) (fun K hK => ?_)
      · go_simp
        refine hK.out _ _ (fun h => absurd h (by decide)) ?_
        clear hK K
        try simp only [Act.put, List.setIfInBounds_toArray, List.set_cons_zero, List.set_cons_succ]
        refine Ord.wpM_two (i := 8) (j := 9) (by kernel_rfl) (by simp only [List.getElem?_toArray, List.getElem?_cons_zero, List.getElem?_cons_succ]; rfl) (by simp only [List.getElem?_toArray, List.getElem?_cons_zero, List.getElem?_cons_succ]; rfl) (fun K hK => ?_) (fun K hK => ?_)
        · refine step_store_mid rfl 36 (.tmp 10) (.tmp 6) rfl g (es.length * 7) (stA t (.slice x1 y1 z1) (.slice x2 y2 z2) (.slice x3 y3 z3)) rfl rfl HTh.out (info_S [.int .i64 t.kind, .int .i64 t.n, .string ⟨t.name.toArray⟩, .bool t.secret, .slice x1 y1 z1, .slice x2 y2 z2, .slice x3 y3 z3] rfl) (by simp [stA, Value.oneCell']) ?_
          refine hK.out _ _ (fun h => absurd h (by decide)) ?_
          clear hK K
          try simp only [Act.put, List.setIfInBounds_toArray, List.set_cons_zero, List.set_cons_succ]
          have hc9 : (w2.setCells g (es.length * 7) (stA t (.slice x1 y1 z1) (.slice x2 y2 z2) (.slice x3 y3 z3)).toList).cell? ⟨w.heap.size + 1 + 1, 0, none⟩ = some (.slice pv es.length cv) := by
            rw [World.cell?_setCells_out _ _ _ _ _ (fun h _ => absurd h (by show ¬ w.heap.size + 1 + 1 = g; omega))]; exact hcL
          have hf9 : (w2.setCells g (es.length * 7) (stA t (.slice x1 y1 z1) (.slice x2 y2 z2) (.slice x3 y3 z3)).toList).frozen? ⟨w.heap.size + 1 + 1, 0, none⟩ = false := by
            have := (own_set (stA t (.slice x1 y1 z1) (.slice x2 y2 z2) (.slice x3 y3 z3)).toList (es.flatMap cellsS) [.int .i64 0, .int .i64 0, .string ⟨#[]⟩, .bool false, .slice none 0 0, .slice none 0 0, .slice none 0 0] w2 rfl HO2.out).2
            rw [hfl] at this
            have h2 := HL2.out
            unfold Bk at h2
            exact Lib.frozen_of_heap ((this.block _ HL2.out.lt (by simp; omega)).trans h2) 0
          refine Ord.wpM_one (i := 9) (by kernel_rfl) (by simp only [List.getElem?_toArray, List.getElem?_cons_zero, List.getElem?_cons_succ]; rfl) (fun K hK => ?_)
          go_simp
          refine hK.out _ _ (fun h => absurd h (by decide)) ?_
          clear hK K
          try simp only [Act.put, List.setIfInBounds_toArray, List.set_cons_zero, List.set_cons_succ]
          refine Ord.wpM_done (by kernel_rfl) ?_ _
          refine NoPanic.normal ?_
          go_wp2
          go_end0
          exact ⟨rfl, HFab.out⟩
        · go_simp
          refine hK.out _ _ (fun h => absurd h (by decide)) ?_
          clear hK K
          try simp only [Act.put, List.setIfInBounds_toArray, List.set_cons_zero, List.set_cons_succ]
          refine Ord.wpM_one (i := 8) (by kernel_rfl) (by simp only [List.getElem?_toArray, List.getElem?_cons_zero, List.getElem?_cons_succ]; rfl) (fun K hK => ?_)
          refine step_store_mid rfl 36 (.tmp 10) (.tmp 6) rfl g (es.length * 7) (stA t (.slice x1 y1 z1) (.slice x2 y2 z2) (.slice x3 y3 z3)) rfl rfl (fun j hj => ⟨by rw [World.cell?_setCell_far _ _ _ _ (by show ¬ w.heap.size + 1 + 1 = g; omega)]; exact (HTh.out j hj).1, (own_stay HO2.out (Below.heap_setCell _ _ _ _ (by show g ≠ w.heap.size + 1 + 1; omega))).frozenAt _⟩) (info_S [.int .i64 t.kind, .int .i64 t.n, .string ⟨t.name.toArray⟩, .bool t.secret, .slice x1 y1 z1, .slice x2 y2 z2, .slice x3 y3 z3] rfl) (by simp [stA, Value.oneCell']) ?_
          refine hK.out _ _ (fun h => absurd h (by decide)) ?_
          clear hK K
          try simp only [Act.put, List.setIfInBounds_toArray, List.set_cons_zero, List.set_cons_succ]
          refine Ord.wpM_done (by kernel_rfl) ?_ _
          refine NoPanic.normal ?_
          go_wp2
          go_end0
          exact ⟨rfl, HFba.out⟩
      · go_simp
        refine hK.out _ _ (fun h => absurd h (by decide)) ?_
        clear hK K
        try simp only [Act.put, List.setIfInBounds_toArray, List.set_cons_zero, List.set_cons_succ]
        refine Ord.wpM_one (i := 7) (by kernel_rfl) (by simp only [List.getElem?_toArray, List.getElem?_cons_zero, List.getElem?_cons_succ]; rfl) (fun K hK => ?_)
        go_simp
        refine hK.out _ _ (fun h => absurd h (by decide)) ?_
        clear hK K
        try simp only [Act.put, List.setIfInBounds_toArray, List.set_cons_zero, List.set_cons_succ]
        refine Ord.wpM_one (i := 8) (by kernel_rfl) (by simp only [List.getElem?_toArray, List.getElem?_cons_zero, List.getElem?_cons_succ]; rfl) (fun K hK => ?_)
        refine step_store_mid rfl 36 (.tmp 10) (.tmp 6) rfl g (es.length * 7) (stA t (.slice x1 y1 z1) (.slice x2 y2 z2) (.slice x3 y3 z3)) rfl rfl (fun j hj => ⟨by rw [World.cell?_setCell_far _ _ _ _ (by show ¬ w.heap.size + 1 + 1 = g; omega)]; exact (HTh.out j hj).1, (own_stay HO2.out (Below.heap_setCell _ _ _ _ (by show g ≠ w.heap.size + 1 + 1; omega))).frozenAt _⟩) (info_S [.int .i64 t.kind, .int .i64 t.n, .string ⟨t.name.toArray⟩, .bool t.secret, .slice x1 y1 z1, .slice x2 y2 z2, .slice x3 y3 z3] rfl) (by simp [stA, Value.oneCell']) ?_
        refine hK.out _ _ (fun h => absurd h (by decide)) ?_
        clear hK K
        try simp only [Act.put, List.setIfInBounds_toArray, List.set_cons_zero, List.set_cons_succ]
        refine Ord.wpM_done (by kernel_rfl) ?_ _
        refine NoPanic.normal ?_
        go_wp2
        go_end0
        exact ⟨rfl, HFba.out⟩
  · go_simp
    have HB0 := keep (HB.out.up (.cells #[.int .i64 0, .int .i64 0, .string ⟨#[]⟩, .bool false, .slice none 0 0, .slice none 0 0, .slice none 0 0] 36))
    have HZ0 := keep (Bk.new Wd [.int .i64 0, .int .i64 0, .string ⟨#[]⟩, .bool false, .slice none 0 0, .slice none 0 0, .slice none 0 0] 36)
    have HPc := keep (HP.out.up (.cells #[.int .i64 0, .int .i64 0, .string ⟨#[]⟩, .bool false, .slice none 0 0, .slice none 0 0, .slice none 0 0] 36))
    have HTc := keep (HT.out.up ((Below.refl Wd.heap.size Wd).alloc (Nat.le_refl _) (.cells #[.int .i64 0, .int .i64 0, .string ⟨#[]⟩, .bool false, .slice none 0 0, .slice none 0 0, .slice none 0 0] 36)))
    have HF0 := keep (HW.out.trans (((Fs.refl [b, c] Wd).up (.cells #[.int .i64 0, .int .i64 0, .string ⟨#[]⟩, .bool false, .slice none 0 0, .slice none 0 0, .slice none 0 0] 36)).fh (B := w.heap.size) (by omega)))
    have HV := keep (fun i => HB.out.row.own.lt i)
    have hs0 : Wd.heap.size + 1 = (Wd.alloc (.cells #[.int .i64 0, .int .i64 0, .string ⟨#[]⟩, .bool false, .slice none 0 0, .slice none 0 0, .slice none 0 0] 36)).heap.size := by simp
    refine hK.out _ _ (fun _ => ⟨HB0.out.L.cell 0 rfl, HB0.out.R.cell 0 rfl, HB0.out.A.cell 0 rfl⟩) ?_
    clear hK K
    generalize Wd.alloc (.cells #[.int .i64 0, .int .i64 0, .string ⟨#[]⟩, .bool false, .slice none 0 0, .slice none 0 0, .slice none 0 0] 36) = w0 at *
    obtain ⟨zb, hzb⟩ : ∃ zb, Wd.heap.size = zb := ⟨_, rfl⟩
    rw [hzb] at HZ0
    try rw [hzb]
    try simp only [Act.put, List.setIfInBounds_toArray, List.set_cons_zero, List.set_cons_succ]
    refine Ord.wpM_one (i := 3) (by kernel_rfl) (by simp only [List.getElem?_toArray, List.getElem?_cons_zero, List.getElem?_cons_succ]; rfl) (fun K hK => ?_)
    go_simp
    refine (IH.out _ HPc.out HTc.out).mono ?_
    rintro r w1 ⟨⟨t, s1, s2, s3⟩, rfl, hnest, hrd, hf⟩
    obtain ⟨x1, y1, z1, e1⟩ := hnest.1.slice
    obtain ⟨x2, y2, z2, e2⟩ := hnest.2.1.slice
    obtain ⟨x3, y3, z3, e3⟩ := hnest.2.2.slice
    simp only at e1 e2 e3
    subst e1 e2 e3
    have HBa := keep (HB0.out.step hbl hcl hf)
    have HZ := keep (HZ0.out.fs hf (by simp; omega))
    obtain ⟨s5, e5, hp5, hn5, h51, h52⟩ := hrd
    have HP5 := keep hp5
    have H52 := keep (h52 rfl)
    have HFa := keep (HF0.out.trans (hf.fh (by omega)))
    have hsa : Wd.heap.size ≤ w1.heap.size := by have := hf.size; omega
    have HNa : Hid (nestS (m + 1) w1 (In (w.heap.size + 3) (.slice pv es.length cv) w1) (t, .slice x1 y1 z1, .slice x2 y2 z2, .slice x3 y3 z3)) :=
      (nestS_nest _).mono _ (New w0 w1) _ _ hnest (fun i hi => ⟨by have := hi.1; omega, hi.2, fun hv => by have := (HV.out i hv).2; have := hi.1; omega⟩)
    clear hnest hp5 h51 h52 hf HPc HTc
    go_simp
    refine hK.out _ _ (fun _ => ⟨HBa.out.L.cell 0 rfl, HBa.out.R.cell 0 rfl, HBa.out.A.cell 0 rfl⟩) ?_
    clear hK K HB0 HZ0 HF0 hzb hs0
    obtain ⟨wa, hwa⟩ : ∃ wa, w1 = wa := ⟨_, rfl⟩
    subst hwa
    try simp only [Act.put, List.setIfInBounds_toArray, List.set_cons_zero, List.set_cons_succ]
    refine Ord.wpM_one (i := 6) (by kernel_rfl) (by simp only [List.getElem?_toArray, List.getElem?_cons_zero, List.getElem?_cons_succ]; rfl) (fun K hK => ?_)
    refine step_append_lies _ rfl (.tmp 3) (.tmp 8) 24 rfl (w.heap.size + 3) 36 i0 _ 7 112 Tryd.underlying24 hi0 hz0 hz1 hz2 rfl (by decide) _ _ _ rfl HBa.out.row.own ⟨zb, 0, none⟩ 1 1 [.int .i64 0, .int .i64 0, .string ⟨#[]⟩, .bool false, .slice none 0 0, .slice none 0 0, .slice none 0 0] rfl rfl (fun j u hj => bk_add HZ.out j u hj) ?_ (by decide) ?_ ?_ ?_ w1.heap.size rfl ?_
    · intro u hu
      simp only [List.mem_cons, List.not_mem_nil, or_false] at hu
      rcases hu with rfl | rfl | rfl | rfl | rfl | rfl | rfl <;> rfl
    · unfold maxLen; omega
    · omega
    · have := HBa.out.L.lt; omega
    · intro g cap w2 hown2 hgrow hat hlt
      refine hK.out _ _ (fun h => absurd h (by decide)) ?_
      clear hK K
      have hgl : w.heap.size + 3 ≤ g := by
        rcases hat with h | h
        · exact (HBa.out.row.own.lt g h).1
        · have := HBa.out.L.lt; omega
      have hL2 : Bk w2 (w.heap.size + 1 + 1) [.slice pv es.length cv] 24 := by
        have h1 := HBa.out.L
        unfold Bk at h1 ⊢
        rw [hgrow.block _ HBa.out.L.lt (fun e => by have := (HBa.out.row.own.lt _ e.symm).1; omega)]; exact h1
      have HL2 := keep hL2
      have hfl : (es.flatMap cellsS).length = es.length * 7 := flat_len7 cellsS 7 cellsS_len es
      have HO2 := keep hown2
      have HG2 := keep hgrow
      have HAt := keep hat
      have hx1 : (es.length : Int) < (es.length : Int) + 1 := by omega
      have hcL := hL2.cell 0 rfl
      have hfL := hL2.fr 0
      have HTh : Hid (w2.there g (es.length * 7) 7) := own_there hown2 _ _ (by omega)
      have HFin : Hid (∀ w3, Laid2 w2 w3 (w.heap.size + 3) (es.length + 1) cap g 7 (w.heap.size + 1 + 1) 36 24 (es.flatMap cellsS ++ (stA t (.slice x1 y1 z1) (.slice x2 y2 z2) (.slice x3 y3 z3)).toList) → ∃ (p : St × Value × Value × Value) (v' : Value), BS w w3 b a9 (m + 1) v' (es ++ [p]) ∧ Rd w3 b c s.size 0 (stmtG 1201 m (words s.data.toList)) (fun a => a = p.1) ∧ Fh w.heap.size [b, c] W w3) := fun w3 hl => by
        have hb3 : ∀ i, i < w1.heap.size → ¬ (Value.slice pv es.length cv).ownBlock = some i → i ≠ w.heap.size + 1 + 1 → w3.heap[i]? = w1.heap[i]? := fun i h1 h2 h3 => by
          have hig : i ≠ g := fun e => by
            subst e
            rcases HAt.out with h | h
            · exact h2 h
            · omega
          rw [hl.block i (Nat.lt_of_lt_of_le h1 HG2.out.size) hig h3]
          exact HG2.out.block i h1 (fun e => h2 e.symm)
        have hbc : ∀ i, i < w.heap.size → w3.heap[i]? = w1.heap[i]? := fun i hi => hb3 i (by omega) (fun e => by have := (HBa.out.row.own.lt i e).1; omega) (by omega)
        have hown3 : w3.ownsRow (w.heap.size + 3) 36 7 (.slice (some ⟨g, 0, none⟩) (es.length + 1) cap) (es.length + 1) (es.flatMap cellsS ++ cellsS (t, .slice x1 y1 z1, .slice x2 y2 z2, .slice x3 y3 z3)) := hl.own
        refine ⟨_, _, BS.push HBa.out HNa.out hown3 hl.box (Nat.le_trans HG2.out.size hl.size) hb3 (by rcases HAt.out with h | h; exact .inl h; exact .inr (by omega)), ⟨s5, e5, ⟨by rw [hbc b hbl]; exact HP5.out.1, by show w3.heap[c]? = _; rw [hbc c hcl]; exact HP5.out.2⟩, hn5, fun h => absurd rfl h, fun _ => H52.out⟩, ?_⟩
        exact HFa.out.trans ⟨hl.os.trans HG2.out.os, hl.tape.trans HG2.out.tape, hl.output.trans HG2.out.output, Nat.le_trans HG2.out.size hl.size, fun i hi _ => hbc i hi⟩
      have HLab := keep (laid_ab (vs := (stA t (.slice x1 y1 z1) (.slice x2 y2 z2) (.slice x3 y3 z3)).toList) (by omega) HO2.out rfl HL2.out (es.length * 7) hfl.symm)
      have HLba := keep (laid_ba (vs := (stA t (.slice x1 y1 z1) (.slice x2 y2 z2) (.slice x3 y3 z3)).toList) (by omega) HO2.out rfl HL2.out (es.length * 7) hfl.symm)
      have HFab := keep (HFin.out _ HLab.out)
      have HFba := keep (HFin.out _ HLba.out)
      clear hown2 hgrow hat hL2 HNa HP5 H52 HFa HG2 HAt HFin HLab HLba
      try simp only [Act.put, List.setIfInBounds_toArray, List.set_cons_zero, List.set_cons_succ]
      refine Ord.wpM_two (i := 7) (j := 9) (by kernel_rfl) (by simp only [List.getElem?_toArray, List.getElem?_cons_zero, List.getElem?_cons_succ]; rfl) (by simp only [List.getElem?_toArray, List.getElem?_cons_zero, List.getElem?_cons_succ]; rfl) (fun K hK => ?_) (fun K hK => ?_)
      · go_simp
        refine hK.out _ _ (fun h => absurd h (by decide)) ?_
        clear hK K
        try simp only [Act.put, List.setIfInBounds_toArray, List.set_cons_zero, List.set_cons_succ]
        refine Ord.wpM_two (i := 8) (j := 9) (by kernel_rfl) (by simp only [List.getElem?_toArray, List.getElem?_cons_zero, List.getElem?_cons_succ]; rfl) (by simp only [List.getElem?_toArray, List.getElem?_cons_zero, List.getElem?_cons_succ]; rfl) (fun K hK => ?_) (fun K hK => ?_)
        · refine step_store_mid rfl 36 (.tmp 10) (.tmp 6) rfl g (es.length * 7) (stA t (.slice x1 y1 z1) (.slice x2 y2 z2) (.slice x3 y3 z3)) rfl rfl HTh.out (info_S [.int .i64 t.kind, .int .i64 t.n, .string ⟨t.name.toArray⟩, .bool t.secret, .slice x1 y1 z1, .slice x2 y2 z2, .slice x3 y3 z3] rfl) (by simp [stA, Value.oneCell']) ?_
          refine hK.out _ _ (fun h => absurd h (by decide)) ?_
          clear hK K
          try simp only [Act.put, List.setIfInBounds_toArray, List.set_cons_zero, List.set_cons_succ]
          have hc9 : (w2.setCells g (es.length * 7) (stA t (.slice x1 y1 z1) (.slice x2 y2 z2) (.slice x3 y3 z3)).toList).cell? ⟨w.heap.size + 1 + 1, 0, none⟩ = some (.slice pv es.length cv) := by
            rw [World.cell?_setCells_out _ _ _ _ _ (fun h _ => absurd h (by show ¬ w.heap.size + 1 + 1 = g; omega))]; exact hcL
          have hf9 : (w2.setCells g (es.length * 7) (stA t (.slice x1 y1 z1) (.slice x2 y2 z2) (.slice x3 y3 z3)).toList).frozen? ⟨w.heap.size + 1 + 1, 0, none⟩ = false := by
            have := (own_set (stA t (.slice x1 y1 z1) (.slice x2 y2 z2) (.slice x3 y3 z3)).toList (es.flatMap cellsS) [.int .i64 0, .int .i64 0, .string ⟨#[]⟩, .bool false, .slice none 0 0, .slice none 0 0, .slice none 0 0] w2 rfl HO2.out).2
            rw [hfl] at this
            have h2 := HL2.out
            unfold Bk at h2
            exact Lib.frozen_of_heap ((this.block _ HL2.out.lt (by simp; omega)).trans h2) 0
          refine Ord.wpM_one (i := 9) (by kernel_rfl) (by simp only [List.getElem?_toArray, List.getElem?_cons_zero, List.getElem?_cons_succ]; rfl) (fun K hK => ?_)
          go_simp
          refine hK.out _ _ (fun h => absurd h (by decide)) ?_
          clear hK K
          try simp only [Act.put, List.setIfInBounds_toArray, List.set_cons_zero, List.set_cons_succ]
          refine Ord.wpM_done (by kernel_rfl) ?_ _
          refine NoPanic.normal ?_
          go_wp2
          go_end0
          exact ⟨rfl, HFab.out⟩
        · go_simp
          refine hK.out _ _ (fun h => absurd h (by decide)) ?_
          clear hK K
          try simp only [Act.put, List.setIfInBounds_toArray, List.set_cons_zero, List.set_cons_succ]
          refine Ord.wpM_one (i := 8) (by kernel_rfl) (by simp only [List.getElem?_toArray, List.getElem?_cons_zero, List.getElem?_cons_succ]; rfl) (fun K hK => ?_)
          refine step_store_mid rfl 36 (.tmp 10) (.tmp 6) rfl g (es.length * 7) (stA t (.slice x1 y1 z1) (.slice x2 y2 z2) (.slice x3 y3 z3)) rfl rfl (fun j hj => ⟨by rw [World.cell?_setCell_far _ _ _ _ (by show ¬ w.heap.size + 1 + 1 = g; omega)]; exact (HTh.out j hj).1, (own_stay HO2.out (Below.heap_setCell _ _ _ _ (by show g ≠ w.heap.size + 1 + 1; omega))).frozenAt _⟩) (info_S [.int .i64 t.kind, .int .i64 t.n, .string ⟨t.name.toArray⟩, .bool t.secret, .slice x1 y1 z1, .slice x2 y2 z2, .slice x3 y3 z3] rfl) (by simp [stA, Value.oneCell']) ?_
          refine hK.out _ _ (fun h => absurd h (by decide)) ?_
          clear hK K
          try simp only [Act.put, List.setIfInBounds_toArray, List.set_cons_zero, List.set_cons_succ]
          refine Ord.wpM_done (by kernel_rfl) ?_ _
          refine NoPanic.normal ?_
          go_wp2
          go_end0
          exact ⟨rfl, HFba.out⟩
      · go_simp
        refine hK.out _ _ (fun h => absurd h (by decide)) ?_
        clear hK K
        try simp only [Act.put, List.setIfInBounds_toArray, List.set_cons_zero, List.set_cons_succ]
        refine Ord.wpM_one (i := 7) (by kernel_rfl) (by simp only [List.getElem?_toArray, List.getElem?_cons_zero, List.getElem?_cons_succ]; rfl) (fun K hK => ?_)
        go_simp
        refine hK.out _ _ (fun h => absurd h (by decide)) ?_
        clear hK K
        try simp only [Act.put, List.setIfInBounds_toArray, List.set_cons_zero, List.set_cons_succ]
        refine Ord.wpM_one (i := 8) (by kernel_rfl) (by simp only [List.getElem?_toArray, List.getElem?_cons_zero, List.getElem?_cons_succ]; rfl) (fun K hK => ?_)
        refine step_store_mid rfl 36 (.tmp 10) (.tmp 6) rfl g (es.length * 7) (stA t (.slice x1 y1 z1) (.slice x2 y2 z2) (.slice x3 y3 z3)) rfl rfl (fun j hj => ⟨by rw [World.cell?_setCell_far _ _ _ _ (by show ¬ w.heap.size + 1 + 1 = g; omega)]; exact (HTh.out j hj).1, (own_stay HO2.out (Below.heap_setCell _ _ _ _ (by show g ≠ w.heap.size + 1 + 1; omega))).frozenAt _⟩) (info_S [.int .i64 t.kind, .int .i64 t.n, .string ⟨t.name.toArray⟩, .bool t.secret, .slice x1 y1 z1, .slice x2 y2 z2, .slice x3 y3 z3] rfl) (by simp [stA, Value.oneCell']) ?_
        refine hK.out _ _ (fun h => absurd h (by decide)) ?_
        clear hK K
        try simp only [Act.put, List.setIfInBounds_toArray, List.set_cons_zero, List.set_cons_succ]
        refine Ord.wpM_done (by kernel_rfl) ?_ _
        refine NoPanic.normal ?_
        go_wp2
        go_end0
        exact ⟨rfl, HFba.out⟩
end Go.Proofs.YtkobiojndamofaaDoor.Lr
