/- An instruction is laid down, as it is, or done otherwise: the maker's legal. Written by tools/gen_hglegal.py. -/
import Derived.Test.YtfbmkcogkiejnaaHgOther
namespace Go.Proofs.Ytfbmkcogkiejnaa.Hg
set_option maxHeartbeats 32000000
set_option maxRecDepth 100000
set_option linter.unusedVariables false
set_option linter.unusedSimpArgs false
open Go.ChangeShapes Go.WideShapes Go.ChangeAt Go.RowKit Go.Maps Lg Lr Fl
theorem flat_set {α : Type} (cells : α → List Value) (k : Nat) (hk : ∀ a,(cells a).length = k) : ∀ (es : List α) (j i : Nat) (v : Value) (p q : α),es[j]? = some p → i < k → (cells p).set i v = cells q → (es.flatMap cells).set (j * k + i) v = (es.set j q).flatMap cells
 | [],j,i,v,p,q,h,_,_ => by simp at h
 | a :: es,0,i,v,p,q,h,hi,hq => by
  simp at h
  subst h
  rw [List.flatMap_cons,Nat.zero_mul,Nat.zero_add,List.set_append_left _ _ (by rw [hk]; exact hi),hq]
  rfl
 | a :: es,j + 1,i,v,p,q,h,hi,hq => by
  rw [List.flatMap_cons,List.set_append_right _ _ (by rw [hk,Nat.add_mul]; omega),hk,show (j + 1) * k + i - k = j * k + i by rw [Nat.add_mul]; omega,flat_set cells k hk es j i v p q (by simpa using h) hi hq]
  rfl
theorem RowI.cut {w : World} {lo n cap g : Nat} {l : List Int} (h : RowI w lo (.slice (some ⟨g,0,none⟩) n cap) l) (k : Nat) (hk : k ≤ l.length) : RowI w lo (.slice (some ⟨g,0,none⟩) k cap) (l.take k) := by
 have hl : (l.take k).length = k := by rw [List.length_take]; omega
 refine ⟨?_,fun p _ => trivial⟩
 rw [hl]
 obtain ⟨h1,h2⟩ := h.own
 rcases h2 with ⟨h2,_⟩ | ⟨g',cap',cur,a1,a2,a3,a4,a5,a6,a7⟩
 ·cases h2
 ·have e : g = g' ∧ cap = cap' := by
   injection a1 with a1 _ a2
   injection a1 with a1
   injection a1 with a1
   exact ⟨a1,a2⟩
  obtain ⟨rfl,rfl⟩ := e
  refine ⟨by rw [cellsI_map,List.length_map,hl,Nat.mul_one],.inr ⟨g,cap,cur,rfl,a2,a3,by omega,a5,a6,?_⟩⟩
  rw [cellsI_map] at a7 ⊢
  rw [List.map_take,← a7,List.take_take,Nat.mul_one,Nat.mul_one,Nat.min_eq_left (by omega)]
theorem last_split {l : List Ix} {x : Ix} (h : l.getLast? = some x) : l.length = (l.length - 1) + 1 ∧ l[l.length - 1]? = some x ∧ ∀ y,l.dropLast ++ [y] = l.set (l.length - 1) y := by
 rw [List.getLast?_eq_getElem?] at h
 have hlt := (List.getElem?_eq_some_iff.1 h).1
 refine ⟨by omega,h,fun y => ?_⟩
 apply List.ext_getElem?
 intro j
 rw [List.getElem?_set]
 split
 ·rename_i e
  subst e
  (try rw [if_pos hlt])
  rw [List.getElem?_append_right (by simp),List.length_dropLast,Nat.sub_self]; rfl
 ·rename_i e
  by_cases hj : j < l.length - 1
  ·rw [List.getElem?_append_left (by simpa using hj),List.getElem?_dropLast,if_pos hj]
  ·rw [List.getElem?_eq_none (by simp; omega),List.getElem?_eq_none (by omega)]
theorem MkIs.swap {w : World} {lo MB NB n cap gs cs gc : Nat} {T : Nat → Int} {m : Mk} (h : MkIs w lo MB NB T (.slice (some ⟨gc,0,none⟩) n cap) (.slice (some ⟨gs,0,none⟩) m.sec.length cs) m) (l : Ix) (hl : m.code.getLast? = some l) (k : Nat) (hk : l.d = (k : Int)) (hkl : k ≤ m.sec.length) (i : Ix) :
  MkIs ((w.setCell ⟨MB,19,none⟩ (.slice (some ⟨gs,0,none⟩) k cs)).setCell ⟨gc,(m.code.length - 1) * 6 + 1,none⟩ (.int .i64 i.d)) lo MB NB T (.slice (some ⟨gc,0,none⟩) n cap) (.slice (some ⟨gs,0,none⟩) k cs) (swapD i m) ∧ MF MB NB (.slice (some ⟨gc,0,none⟩) n cap) (.slice (some ⟨gs,0,none⟩) m.sec.length cs) w (.slice (some ⟨gc,0,none⟩) n cap) (.slice (some ⟨gs,0,none⟩) k cs) ((w.setCell ⟨MB,19,none⟩ (.slice (some ⟨gs,0,none⟩) k cs)).setCell ⟨gc,(m.code.length - 1) * 6 + 1,none⟩ (.int .i64 i.d)) := by
 obtain ⟨e1,e2,e3⟩ := last_split hl
 have hcM : gc ≠ MB := fun e => h.c1 (by rw [← e]; rfl)
 have hcN : gc ≠ NB := fun e => h.c2 (by rw [← e]; rfl)
 have hsM : gs ≠ MB := fun e => h.s1 (by rw [← e]; rfl)
 have hsN : gs ≠ NB := fun e => h.s2 (by rw [← e]; rfl)
 have hcs : gs ≠ gc := fun e => h.cs gc rfl (by rw [e]; rfl)
 have hsw : swapD i m = ⟨m.code.set (m.code.length - 1) (atD l i.d),m.sec.take k,m.nums,m.shown⟩ := by unfold swapD; rw [hl]; dsimp only; rw [e3,hk,Int.toNat_natCast]
 have k1 : ∀ j,j ≠ MB → (w.setCell ⟨MB,19,none⟩ (.slice (some ⟨gs,0,none⟩) k cs)).heap[j]? = w.heap[j]? := fun j hj => Below.heap_setCell _ _ _ _ hj
 obtain ⟨w1,hw1⟩ : ∃ y,w.setCell ⟨MB,19,none⟩ (.slice (some ⟨gs,0,none⟩) k cs) = y := ⟨_,rfl⟩
 have hs1 : w1.heap.size = w.heap.size := by rw [← hw1]; simp [World.setCell]
 have hb1 : Bk w1 MB (tabL T ++ [.slice (some ⟨gc,0,none⟩) n cap,.slice (some ⟨gs,0,none⟩) k cs,.map (some NB),.bool m.shown]) 98 := by
  have := h.bk.set 19 (.slice (some ⟨gs,0,none⟩) k cs)
  rw [(set_mk T _ _ _ _ _).2.1,hw1] at this
  exact this
 rw [hw1] at k1 ⊢
 have hc1 : RowC w1 lo (.slice (some ⟨gc,0,none⟩) n cap) m.code := RowX.own_keep (n0 _) h.code (fun j e => k1 j (by injection e with e; exact fun x => hcM (e.trans x)))
 have hS1 : RowI w1 lo (.slice (some ⟨gs,0,none⟩) k cs) (m.sec.take k) := RowI.cut (RowX.own_keep nI h.sec (fun j e => k1 j (by injection e with e; exact fun x => hsM (e.trans x)))) k hkl
 have hN1 : MapZ w1 NB m.nums.length m.nums := h.num.stay (k1 NB (Ne.symm h.ne))
 have hn : n = m.code.length := RowX.len h.code
 subst hn
 have hst := (RowX.own hc1).stored ((m.code.length - 1) * 6 + 1) (.int .i64 i.d)
 rw [flat_set cellsX 6 (fun _ => rfl) m.code (m.code.length - 1) 1 (.int .i64 i.d) l (atD l i.d) e2 (by decide) rfl] at hst
 obtain ⟨o1,o2⟩ := hst
 have k2 : ∀ j,j ≠ gc → (w1.setCell ⟨gc,(m.code.length - 1) * 6 + 1,none⟩ (.int .i64 i.d)).heap[j]? = w1.heap[j]? := fun j hj => Below.heap_setCell _ _ _ _ hj
 have hs2 : (w1.setCell ⟨gc,(m.code.length - 1) * 6 + 1,none⟩ (.int .i64 i.d)).heap.size = w1.heap.size := by simp [World.setCell]
 rw [hsw]
 refine ⟨⟨?_,⟨?_,fun p _ => trivial⟩,?_,?_,h.lo1,h.lo2,h.ne,h.c1,h.c2,h.s1,h.s2,h.cs⟩,⟨?_,?_,?_,by rw [hs2,hs1]; exact Nat.le_refl _,fun j hj a1 a2 a3 a4 => ?_,fun j e => .inl e,fun j e => .inl e⟩⟩
 ·unfold Bk at hb1 ⊢
  rw [k2 MB (Ne.symm hcM)]; exact hb1
 ·rw [List.length_set]
  exact o1
 ·exact RowX.own_keep nI hS1 (fun j e => k2 j (by injection e with e; exact fun x => hcs (e.trans x)))
 ·exact hN1.stay (k2 NB (Ne.symm hcN))
 ·rw [← hw1]; rfl
 ·rw [← hw1]; rfl
 ·rw [← hw1]; rfl
 ·rw [k2 j (fun e => a3 (by rw [e]; rfl)),k1 j a1]
theorem RowX.frozen_of {α : Type} {nest : World → (Nat → Prop) → α → Prop} {cells : α → List Value} {k : Nat} {ty : TypeId} {w : World} {lo g n cap j : Nat} {es : List α} (h : RowX nest cells k ty w lo (.slice (some ⟨g,0,none⟩) n cap) es) : w.frozen? ⟨g,j,none⟩ = false := by
 rcases h.own.2 with ⟨h2,_⟩ | ⟨g',cap',cur,a1,a2,a3,a4⟩
 ·cases h2
 ·injection a1 with a1
  injection a1 with a1
  injection a1 with a1
  subst a1
  exact Lib.frozen_of_heap a3 j
def Wl (lo MB NB : Nat) (T : Nat → Int) (cv sv : Value) (R : Mk) (w : World) (r : Ending) (w' : World) : Prop := ∃ cv' sv',r = .returned (.tuple #[]) ∧ MkIs w' lo MB NB T cv' sv' R ∧ MF MB NB cv sv w cv' sv' w'
theorem legal_any {lo MB NB : Nat} {T : Nat → Int} {cv sv : Value} {m : Mk} {w : World} (i : Ix) (h : Rd0 lo MB NB T cv sv m w 1000) (hr : ∀ p ∈ rds i,0 ≤ p ∧ p < m.sec.length) : Calls Try.prog 50 #[.pointer (some ⟨MB,0,none⟩),.agg (ixA i)] w fun r w' => Wl lo MB NB T cv sv (legalM T i m) w r w' := by
 have HShA := fun W hW => shows_any lo MB NB T cv sv m i W hW h.t (by have := h.s; omega)
 have HOtA := fun W (hW : Rd0 lo MB NB T cv sv m W (1000 + 0)) => other_any 0 i hW hr
 have HEmA := fun (m' : Mk) cv' sv' W hlo hW (h1 : m'.sec.length ≤ 200000000) (h2 : m'.code.length ≤ 200000000) => emit_any lo MB NB T cv' sv' m' i W hlo hW h.t h1 h2
 obtain ⟨s,hs⟩ : ∃ s,shwM T m.sec i = s := ⟨_,rfl⟩
 rw [hs] at HShA
 obtain ⟨q,hq⟩ : ∃ q,ways i.op = q := ⟨_,rfl⟩
 have HLe : Hid (legalM T i m = if s = false then emitM T i m else if q = false then emitM T i (fresh m) else swapD i (otherM T i m)) := by show _ = _; unfold legalM; rw [hs,hq]
 have HOq : Hid (∀ R,q = false → otherM T i R = fresh R) := fun R hq' => by
  have h1 : ways i.op = false := hq.trans hq'
  unfold ways at h1
  have h2 : ¬ (6 ≤ i.op ∧ i.op ≤ 13) := fun x => by rw [decide_eq_true x.1,decide_eq_true x.2] at h1; cases h1
  unfold otherM
  rw [if_neg (by omega),if_neg (by omega),if_neg (by omega),if_neg (by omega),if_neg (by omega),if_neg (by omega),if_neg (by omega),if_neg (by omega)]
 have HWq := keep hq
 obtain ⟨op,d,a,b,c,imm⟩ := i
 obtain ⟨w1,hw1⟩ : ∃ y,w.alloc (.cells #[.int .i64 op,.int .i64 d,.int .i64 a,.int .i64 b,.int .i64 c,.int .i64 imm] 35) = y := ⟨_,rfl⟩
 obtain ⟨IB,hIB⟩ : ∃ y,w.heap.size = y := ⟨_,rfl⟩
 have b1 : Below w.heap.size w w1 := by rw [← hw1]; exact (Below.refl _ _).alloc (Nat.le_refl _) _
 have kI : Bk w1 IB [.int .i64 op,.int .i64 d,.int .i64 a,.int .i64 b,.int .i64 c,.int .i64 imm] 35 := by rw [← hw1,← hIB]; exact Bk.new _ _ _
 have h1 := h.below b1
 have HR1 := keep h1
 have HkI := keep kI
 have HB1 := keep b1
 have HW1 := keep hw1
 have HIB := keep hIB
 have HFa := keep (h.it.far (k:=IB) (by omega))
 have HSz : Hid (m.sec.length + 1000 ≤ 200000000 ∧ m.code.length + 1000 ≤ 200000000) := ⟨h.s,h.c⟩
 have HSh := keep (HShA w1 h1.it)
 have HOt := keep HOtA
 have HEm := keep HEmA
 unfold ixA at HSh HOt HEm ⊢
 dsimp only at HSh HOt HEm ⊢
 have x0 := kI.cell 0 rfl
 have x1 := kI.cell 1 rfl
 have x2 := kI.cell 2 rfl
 have x3 := kI.cell 3 rfl
 have x4 := kI.cell 4 rfl
 have x5 := kI.cell 5 rfl
 clear hw1 hIB b1 kI h1 h hr HShA HOtA HEmA hs hq
 go_enter Try.func50,Try.ntmps50
 go_wp2_with (first | rw [HW1.out] | rw [HIB.out] | fail)
 refine HSh.out.mono ?_
 rintro r w2 ⟨rfl,hb2⟩
 have HR2 := keep (HR1.out.below hb2)
 have HkI2 := keep (HkI.out.fs (Fs.of_below (l:=[]) hb2) (by simp))
 have HF2 : Hid (MF MB NB cv sv w cv sv w2) := (MF.of_below HB1.out).trans (MF.of_below hb2)
 clear hb2 HSh x0 x1 x2 x3 x4 x5
 have x0 := HkI2.out.cell 0 rfl
 have x1 := HkI2.out.cell 1 rfl
 have x2 := HkI2.out.cell 2 rfl
 have x3 := HkI2.out.cell 3 rfl
 have x4 := HkI2.out.cell 4 rfl
 have x5 := HkI2.out.cell 5 rfl
 cases s with
 | false =>
  have HC := keep (HEm.out m cv sv w2 HR2.out.l0 HR2.out.it (by have := HSz.out; omega) (by have := HSz.out; omega))
  go_wp2_with fail
  refine HC.out.mono ?_
  rintro r wz ⟨rfl,cvz,hmz,hfz⟩
  have HMz := keep hmz
  have HFz := keep (HF2.out.trans hfz)
  have HEq : Hid (legalM T ⟨op,d,a,b,c,imm⟩ m = emitM T ⟨op,d,a,b,c,imm⟩ m) := by show _ = _; rw [HLe.out]; rfl
  clear hmz hfz HC
  go_wp2
  refine bodyPost_ret (results_none rfl _ _ _) rfl ?_
  exact ⟨_,_,rfl,by rw [HEq.out]; exact HMz.out,HFz.out⟩
 | true =>
  have HC := keep (HOt.out w2 HR2.out)
  go_wp2_with fail
  refine HC.out.mono ?_
  rintro r w3 ⟨cv3,sv3,rfl,hr3,hf3,hs3⟩
  have HR3 := keep hr3
  have HF3 := keep (HF2.out.trans hf3)
  have HS3 := keep hs3
  have HkI3 := keep (hf3.far HkI2.out HFa.out)
  have HFa3 := keep (HFa.out.step hf3 HkI2.out.lt)
  dsimp only
  (try dsimp only at HWq HS3)
  rw [HWq.out]
  rw [HWq.out] at HS3
  clear hr3 hf3 hs3 HC x0 x1 x2 x3 x4 x5
  have x0 := HkI3.out.cell 0 rfl
  have x1 := HkI3.out.cell 1 rfl
  have x2 := HkI3.out.cell 2 rfl
  have x3 := HkI3.out.cell 3 rfl
  have x4 := HkI3.out.cell 4 rfl
  have x5 := HkI3.out.cell 5 rfl
  cases q with
  | false =>
   have hof := HOq.out m rfl
   have hR3 := HR3.out
   rw [hof] at hR3
   have HR4 := keep hR3
   clear hof hR3
   have HC := keep (HEm.out (fresh m) cv3 sv3 w3 HR4.out.l0 HR4.out.it (by show m.sec.length ≤ _; have := HSz.out; omega) (by show m.code.length ≤ _; have := HSz.out; omega))
   go_wp2_with fail
   refine HC.out.mono ?_
   rintro r wz ⟨rfl,cvz,hmz,hfz⟩
   have HMz := keep hmz
   have HFz := keep (HF3.out.trans hfz)
   have HEq : Hid (legalM T ⟨op,d,a,b,c,imm⟩ m = emitM T ⟨op,d,a,b,c,imm⟩ (fresh m)) := by show _ = _; rw [HLe.out]; rfl
   clear hmz hfz HC
   go_wp2
   refine bodyPost_ret (results_none rfl _ _ _) rfl ?_
   exact ⟨_,_,rfl,by rw [HEq.out]; exact HMz.out,HFz.out⟩
  | true =>
   obtain ⟨p,hst,l,hll,hld⟩ := HS3.out rfl
   obtain ⟨R,hR⟩ : ∃ R,otherM T ⟨op,d,a,b,c,imm⟩ m = R := ⟨_,rfl⟩
   have HEq : Hid (legalM T ⟨op,d,a,b,c,imm⟩ m = swapD ⟨op,d,a,b,c,imm⟩ R) := by show _ = _; rw [HLe.out,← hR]; rfl
   rw [hR] at HR3 hst hll
   clear hR HS3
   dsimp only at hll hld
   have p0 := hst.p0
   have p1 := hst.p1
   dsimp only at p0 p1
   obtain ⟨kd,rfl⟩ : ∃ k : Nat,p = (k : Int) := ⟨p.toNat,by omega⟩
   obtain ⟨e1,e2,e3⟩ := last_split hll
   obtain ⟨pc,nc,cap,rfl⟩ := RowX.slice HR3.out.it.code
   obtain ⟨ps,ns,cs,rfl⟩ := RowX.slice HR3.out.it.sec
   have hnc : nc = R.code.length := RowX.len HR3.out.it.code
   have hns : ns = R.sec.length := RowX.len HR3.out.it.sec
   subst hnc hns
   obtain ⟨gs,rfl,hgs0⟩ := sec_cell HR3.out.it.sec (k:=kd) (by omega)
   have hform := RowX.form cellsX_len HR3.out.it.code
   rcases hform with ⟨h0,_⟩ | ⟨gc,cap',hc1,hc2,hc3,hc4,hc5⟩
   ·exfalso; rw [h0] at e1; simp at e1
   injection hc1 with hc1 _ hc1'
   subst hc1 hc1'
   obtain ⟨kn,hkn⟩ : ∃ kn,R.code.length - 1 = kn := ⟨_,rfl⟩
   have hcl : R.code.length = kn + 1 := by omega
   have hcd := hc5 kn l 1 (.int .i64 (kd : Int)) (by rw [← hkn]; exact e2) (by rw [← hld]; rfl)
   have hsw := HR3.out.it.swap l hll kd hld (by omega) ⟨op,d,a,b,c,imm⟩
   rw [hkn] at hsw
   have HSw := keep hsw
   have HM3 : Hid (MkIs w3 lo MB NB T (.slice (some ⟨gc,0,none⟩) R.code.length cap) (.slice (some ⟨gs,0,none⟩) R.sec.length cs) R) := HR3.out.it
   have HcM : Hid (gc ≠ MB ∧ gc ≠ IB) := ⟨fun e => HR3.out.it.c1 (by rw [← e]; rfl),fun e => HFa3.out.c (by rw [← e]; rfl)⟩
   have HCd : Hid (w3.cell? ⟨gc,kn * 6 + 1,none⟩ = some (.int .i64 (kd : Int))) := hcd
   have hfz : w3.frozen? ⟨gc,kn * 6 + 1,none⟩ = false := RowX.frozen_of HR3.out.it.code
   have HFzn := keep hfz
   have HSl : Hid (kd ≤ R.sec.length) := by show _ ≤ _; omega
   rw [hcl] at HM3 HSw
   have HKn : Hid (kn ≤ 200000000) := by have h5 := HR3.out.c; show _ ≤ _; omega
   have HCap : Hid (R.sec.length ≤ cs) := by
    rcases (RowX.own HR3.out.it.sec).2 with ⟨q1,_⟩ | ⟨_,_,_,q1,_,_,q4,_⟩
    ·cases q1
    ·injection q1 with _ _ q2; show _ ≤ _; omega
   have HF4 : Hid (MF MB NB cv sv w (.slice (some ⟨gc,0,none⟩) (kn + 1) cap) (.slice (some ⟨gs,0,none⟩) R.sec.length cs) w3) := by have h6 := HF3.out; rw [hcl] at h6; exact h6
   have HLl : Hid (R.code.getLast? = some l) := hll
   have HLd : Hid (l.d = (kd : Int)) := hld
   have HKl : Hid (R.code.length - 1 = kn) := hkn
   clear hgs0 e3 hst hll hld p0 p1 e1 e2 hc2 hc3 hc4 hc5 hkn hcl hcd hsw hfz HR3
   have hwk : IntKind.i64.wrap ((kn : Int) + 1 - 1) = (kn : Int) := by rw [IntKind.wrap_i64]; have := HKn.out; omega
   have hwk2 : IntKind.i64.wrap (kn : Int) = (kn : Int) := by rw [IntKind.wrap_i64]; have := HKn.out; omega
   have hk0 : (0 : Int) ≤ (kn : Int) := by omega
   have hk1 : (kn : Int) < (kn : Int) + 1 := by omega
   have hk2 : (kn : Int) < ((kn + 1 : Nat) : Int) := by omega
   have hd0 : (0 : Int) ≤ (kd : Int) := by omega
   have hd1 : (kd : Int) ≤ (cs : Int) := by have h5 := HSl.out; have h6 := HCap.out; omega
   go_wp2_with fail
   refine wp_region_noPanic ?_
   refine Ord.wpM_begin (fun W' : World => W'.cell? ⟨MB,18,none⟩ = some (.slice (some ⟨gc,0,none⟩) (kn + 1) cap)) [0,1,2,3,4,5,6,7,8,9,10,11] (by kernel_rfl) ?_
   have HD : Hid (Below w3.heap.size w3 w3.drew) := Below.drew (Below.refl _ _)
   obtain ⟨wd,hwd⟩ : ∃ y,w3.drew = y := ⟨_,rfl⟩
   rw [hwd] at HD ⊢
   clear hwd
   have HMd := keep (HM3.out.below HD.out)
   have hS : (fun W' : World => W'.cell? ⟨MB,18,none⟩ = some (.slice (some ⟨gc,0,none⟩) (kn + 1) cap)) wd := HMd.out.c18.1
   refine Ord.tk (i:=0) (v:=.pointer (some ⟨MB,0,none⟩)) (hy:=Or.inl ⟨by rfl,by intro W' hW; have q0 := hW; go_simp⟩) (hS:=hS) (h:=?_)
   try simp only [Act.put,Ord.t,Ord.z,Ord.s]
   refine Ord.tk (i:=1) (v:=.pointer (some ⟨MB,0,none⟩)) (hy:=Or.inl ⟨by rfl,by intro W' hW; have q0 := hW; go_simp⟩) (hS:=hS) (h:=?_)
   try simp only [Act.put,Ord.t,Ord.z,Ord.s]
   refine Ord.tk (i:=2) (v:=.pointer (some ⟨MB,18,none⟩)) (hy:=Or.inl ⟨by rfl,by intro W' hW; have q0 := hW; go_simp⟩) (hS:=hS) (h:=?_)
   try simp only [Act.put,Ord.t,Ord.z,Ord.s]
   refine Ord.tk (i:=3) (v:=.slice (some ⟨gc,0,none⟩) (kn + 1) cap) (hy:=Or.inl ⟨by rfl,by intro W' hW; have q0 := hW; go_simp⟩) (hS:=hS) (h:=?_)
   try simp only [Act.put,Ord.t,Ord.z,Ord.s]
   refine Ord.tk (i:=4) (v:=.pointer (some ⟨MB,0,none⟩)) (hy:=Or.inl ⟨by rfl,by intro W' hW; have q0 := hW; go_simp⟩) (hS:=hS) (h:=?_)
   try simp only [Act.put,Ord.t,Ord.z,Ord.s]
   refine Ord.tk (i:=5) (v:=.pointer (some ⟨MB,0,none⟩)) (hy:=Or.inl ⟨by rfl,by intro W' hW; have q0 := hW; go_simp⟩) (hS:=hS) (h:=?_)
   try simp only [Act.put,Ord.t,Ord.z,Ord.s]
   refine Ord.tk (i:=6) (v:=.pointer (some ⟨MB,18,none⟩)) (hy:=Or.inl ⟨by rfl,by intro W' hW; have q0 := hW; go_simp⟩) (hS:=hS) (h:=?_)
   try simp only [Act.put,Ord.t,Ord.z,Ord.s]
   refine Ord.tk (i:=7) (v:=.slice (some ⟨gc,0,none⟩) (kn + 1) cap) (hy:=Or.inl ⟨by rfl,by intro W' hW; have q0 := hW; go_simp⟩) (hS:=hS) (h:=?_)
   try simp only [Act.put,Ord.t,Ord.z,Ord.s]
   refine Ord.tk (i:=8) (v:=.int .i64 ((kn : Int) + 1)) (hy:=Or.inl ⟨by rfl,by intro W' hW; have q0 := hW; go_simp⟩) (hS:=hS) (h:=?_)
   try simp only [Act.put,Ord.t,Ord.z,Ord.s]
   refine Ord.tk (i:=9) (v:=.int .i64 (kn : Int)) (hy:=Or.inl ⟨by rfl,by intro W' hW; have q0 := hW; go_simp⟩) (hS:=hS) (h:=?_)
   try simp only [Act.put,Ord.t,Ord.z,Ord.s]
   refine Ord.tk (i:=10) (v:=.pointer (some ⟨gc,kn * 6,none⟩)) (hy:=Or.inl ⟨by rfl,by intro W' hW; have q0 := hW; go_simp⟩) (hS:=hS) (h:=?_)
   try simp only [Act.put,Ord.t,Ord.z,Ord.s]
   refine Ord.on (i:=11) (h:=fun K hK => ?_)
   go_simp
   refine hK.out _ _ (fun _ => hS) ?_
   clear hK K
   try simp only [Act.put,Ord.t,Ord.z,Ord.s]
   refine Ord.wpM_done (by kernel_rfl) ?_ _
   refine NoPanic.normal ?_
   have HF5 := keep (HF4.out.trans (MF.of_below HD.out))
   have HkI5 := keep (HkI3.out.fs (Fs.of_below (l:=[]) HD.out) (by simp))
   have HCd5 : Hid (wd.cell? ⟨gc,kn * 6 + 1,none⟩ = some (.int .i64 (kd : Int))) := keep_cell HD.out HCd.out
   clear hS x0 x1 x2 x3 x4 x5
   go_wp2_with fail
   refine wp_region_noPanic ?_
   refine Ord.wpM_begin (fun W' : World => W'.cell? ⟨MB,19,none⟩ = some (.slice (some ⟨gs,0,none⟩) R.sec.length cs) ∧ W'.cell? ⟨gc,kn * 6 + 1,none⟩ = some (.int .i64 (kd : Int))) [0,1,2,3,4,5,6,7,8,9,10,11] (by kernel_rfl) ?_
   have HDb : Hid (Below wd.heap.size wd wd.drew) := Below.drew (Below.refl _ _)
   obtain ⟨we,hwe⟩ : ∃ y,wd.drew = y := ⟨_,rfl⟩
   rw [hwe] at HDb ⊢
   clear hwe
   have HMe := keep (HMd.out.below HDb.out)
   have HCe : Hid (we.cell? ⟨gc,kn * 6 + 1,none⟩ = some (.int .i64 (kd : Int))) := keep_cell HDb.out HCd5.out
   have hS : (fun W' : World => W'.cell? ⟨MB,19,none⟩ = some (.slice (some ⟨gs,0,none⟩) R.sec.length cs) ∧ W'.cell? ⟨gc,kn * 6 + 1,none⟩ = some (.int .i64 (kd : Int))) we := ⟨HMe.out.c18.2.1,HCe.out⟩
   refine Ord.tk (i:=0) (v:=.pointer (some ⟨MB,0,none⟩)) (hy:=Or.inl ⟨by rfl,by rintro W' ⟨q0,q1⟩; go_simp⟩) (hS:=hS) (h:=?_)
   try simp only [Act.put,Ord.t,Ord.z,Ord.s]
   refine Ord.tk (i:=1) (v:=.pointer (some ⟨MB,0,none⟩)) (hy:=Or.inl ⟨by rfl,by rintro W' ⟨q0,q1⟩; go_simp⟩) (hS:=hS) (h:=?_)
   try simp only [Act.put,Ord.t,Ord.z,Ord.s]
   refine Ord.tk (i:=2) (v:=.pointer (some ⟨MB,0,none⟩)) (hy:=Or.inl ⟨by rfl,by rintro W' ⟨q0,q1⟩; go_simp⟩) (hS:=hS) (h:=?_)
   try simp only [Act.put,Ord.t,Ord.z,Ord.s]
   refine Ord.tk (i:=3) (v:=.pointer (some ⟨MB,19,none⟩)) (hy:=Or.inl ⟨by rfl,by rintro W' ⟨q0,q1⟩; go_simp⟩) (hS:=hS) (h:=?_)
   try simp only [Act.put,Ord.t,Ord.z,Ord.s]
   refine Ord.tk (i:=4) (v:=.slice (some ⟨gs,0,none⟩) R.sec.length cs) (hy:=Or.inl ⟨by rfl,by rintro W' ⟨q0,q1⟩; go_simp⟩) (hS:=hS) (h:=?_)
   try simp only [Act.put,Ord.t,Ord.z,Ord.s]
   refine Ord.tk (i:=5) (v:=.pointer (some ⟨gc,kn * 6,none⟩)) (hy:=Or.inl ⟨by rfl,by rintro W' ⟨q0,q1⟩; go_simp⟩) (hS:=hS) (h:=?_)
   try simp only [Act.put,Ord.t,Ord.z,Ord.s]
   refine Ord.tk (i:=6) (v:=.pointer (some ⟨gc,kn * 6,none⟩)) (hy:=Or.inl ⟨by rfl,by rintro W' ⟨q0,q1⟩; go_simp⟩) (hS:=hS) (h:=?_)
   try simp only [Act.put,Ord.t,Ord.z,Ord.s]
   refine Ord.tk (i:=7) (v:=.pointer (some ⟨gc,kn * 6 + 1,none⟩)) (hy:=Or.inl ⟨by rfl,by rintro W' ⟨q0,q1⟩; go_simp⟩) (hS:=hS) (h:=?_)
   try simp only [Act.put,Ord.t,Ord.z,Ord.s]
   refine Ord.tk (i:=8) (v:=.int .i64 (kd : Int)) (hy:=Or.inl ⟨by rfl,by rintro W' ⟨q0,q1⟩; go_simp⟩) (hS:=hS) (h:=?_)
   try simp only [Act.put,Ord.t,Ord.z,Ord.s]
   refine Ord.tk (i:=9) (v:=.slice (some ⟨gs,0,none⟩) kd cs) (hy:=Or.inl ⟨by rfl,by rintro W' ⟨q0,q1⟩; go_simp⟩) (hS:=hS) (h:=?_)
   try simp only [Act.put,Ord.t,Ord.z,Ord.s]
   refine Ord.on (i:=10) (h:=fun K hK => ?_)
   go_simp
   refine hK.out _ _ (fun _ => hS) ?_
   clear hK K
   try simp only [Act.put,Ord.t,Ord.z,Ord.s]
   refine Ord.on (i:=11) (h:=fun K hK => ?_)
   go_simp
   refine hK.out _ _ (fun _ => hS) ?_
   clear hK K
   try simp only [Act.put,Ord.t,Ord.z,Ord.s]
   have z1 := HMe.out.c18.2.1
   have z2 := HMe.out.bk.fr 19
   refine Ord.on (i:=12) (h:=fun K hK => ?_)
   go_simp
   refine hK.out _ _ (fun h => absurd h (by decide)) ?_
   clear hK K
   try simp only [Act.put,Ord.t,Ord.z,Ord.s]
   refine Ord.wpM_done (by kernel_rfl) ?_ _
   refine NoPanic.normal ?_
   have hswe := HMe.out.swap l HLl.out kd HLd.out HSl.out ⟨op,d,a,b,c,imm⟩
   rw [HKl.out] at hswe
   dsimp only at hswe
   have HF7 : Hid (MF MB NB cv sv w (.slice (some ⟨gc,0,none⟩) (kn + 1) cap) (.slice (some ⟨gs,0,none⟩) R.sec.length cs) we) := HF5.out.trans (MF.of_below HDb.out)
   have hkI7 := HkI5.out.fs (Fs.of_below (l:=[]) HDb.out) (by simp)
   have x1 : (we.setCell ⟨MB,19,none⟩ (.slice (some ⟨gs,0,none⟩) kd cs)).cell? ⟨IB,1,none⟩ = some (.int .i64 d) := by
    have h9 : Bk (we.setCell ⟨MB,19,none⟩ (.slice (some ⟨gs,0,none⟩) kd cs)) IB [.int .i64 op,.int .i64 d,.int .i64 a,.int .i64 b,.int .i64 c,.int .i64 imm] 35 := by unfold Bk at hkI7 ⊢; rw [Below.heap_setCell _ _ _ _ (fun e => HFa.out.m e)]; exact hkI7
    exact h9.cell 1 rfl
   have z3 : (we.setCell ⟨MB,19,none⟩ (.slice (some ⟨gs,0,none⟩) kd cs)).cell? ⟨gc,kn * 6 + 1,none⟩ = some (.int .i64 (kd : Int)) := by
    rw [← HCe.out]; exact World.cell?_setCell_far _ _ _ _ (fun e => HcM.out.1 e.symm)
   have z4 : (we.setCell ⟨MB,19,none⟩ (.slice (some ⟨gs,0,none⟩) kd cs)).frozen? ⟨gc,kn * 6 + 1,none⟩ = false := by rw [World.frozen?_setCell]; exact RowX.frozen_of HMe.out.code
   have HSe := keep hswe
   clear hS z1 z2 hkI7 hswe
   generalize we.setCell ⟨MB,19,none⟩ (.slice (some ⟨gs,0,none⟩) kd cs) = ws at *
   go_wp2_with fail
   refine bodyPost_end (results_none rfl _ _ _) rfl ?_
   exact ⟨_,_,rfl,by rw [HEq.out]; exact HSe.out.1,HF7.out.trans HSe.out.2⟩
end Go.Proofs.Ytfbmkcogkiejnaa.Hg
