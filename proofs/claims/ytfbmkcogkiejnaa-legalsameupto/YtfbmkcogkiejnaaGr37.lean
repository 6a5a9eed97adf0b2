/- Laid together: HgLead, HgTotal, HgVia. -/
import Derived.Test.YtfbmkcogkiejnaaGr36
import Derived.Test.YtfbmkcogkiejnaaHgPlain
namespace Go.Proofs.Ytfbmkcogkiejnaa.Hg
set_option maxHeartbeats 32000000
set_option maxRecDepth 100000
set_option linter.unusedVariables false
set_option linter.unusedSimpArgs false
open Go.ChangeShapes Go.WideShapes Go.ChangeAt Go.RowKit Go.Maps Lg Lr Fl
def led (S : List Int) (i : Ix) : Ix := if i.op = 18 ∨ i.op = 19 then ⟨i.op,i.d,i.a,i.b,i.c,gI S i.imm⟩ else i
def leadM (S : List Int) (l : List Ix) : List Ix := l.map (led S)
def ledTo (S : List Int) (l : List Ix) (j : Nat) : List Ix := leadM S (l.take j) ++ l.drop j
theorem ledTo_all (S : List Int) (l : List Ix) : ledTo S l l.length = leadM S l := by unfold ledTo; rw [List.take_length,List.drop_length,List.append_nil]
theorem ledTo_zero (S : List Int) (l : List Ix) : ledTo S l 0 = l := by unfold ledTo leadM; simp
theorem ledTo_step (S : List Int) (l : List Ix) (j : Nat) (i : Ix) (h : l[j]? = some i) : (ledTo S l j)[j]? = some i ∧ ledTo S l (j + 1) = (ledTo S l j).set j (led S i) := by
 have hlt := (List.getElem?_eq_some_iff.1 h).1
 have hl : (leadM S (l.take j)).length = j := by unfold leadM; rw [List.length_map,List.length_take]; omega
 have hd : l.drop j = i :: l.drop (j + 1) := by
  rw [List.drop_eq_getElem_cons hlt,(List.getElem?_eq_some_iff.1 h).2]
 unfold ledTo
 refine ⟨?_,?_⟩
 ·rw [List.getElem?_append_right (by omega),hl,Nat.sub_self,hd]; rfl
 ·rw [List.set_append_right _ _ (by omega),hl,Nat.sub_self,hd,List.set_cons_zero,List.take_add_one,h]
  unfold leadM
  rw [List.map_append,List.append_assoc]; rfl
theorem set_same {l : List Ix} {j : Nat} {i : Ix} (h : l[j]? = some i) : l.set j i = l := by
 apply List.ext_getElem?
 intro k
 rw [List.getElem?_set]
 split
 ·rename_i e
  subst e
  rw [h]
  have hlt := (List.getElem?_eq_some_iff.1 h).1
  simp [hlt]
 ·rfl
structure RF (cv : Value) (w w' : World) : Prop where
 os : w'.os = w.os
 tape : w'.tape = w.tape
 output : w'.output = w.output
 size : w.heap.size ≤ w'.heap.size
 block : ∀ k,k < w.heap.size → cv.ownBlock ≠ some k → w'.heap[k]? = w.heap[k]?
theorem RF.refl (cv : Value) (w : World) : RF cv w w := ⟨rfl,rfl,rfl,Nat.le_refl _,fun _ _ _ => rfl⟩
theorem RF.below {cv : Value} {w w1 w2 : World} (h : RF cv w w1) (hb : Below w1.heap.size w1 w2) : RF cv w w2 := ⟨hb.os.trans h.os,hb.tape.trans h.tape,hb.output.trans h.output,Nat.le_trans h.size hb.size,fun k hk hn => (hb.block k (Nat.lt_of_lt_of_le hk h.size)).trans (h.block k hk hn)⟩
theorem RF.cell {g n cap : Nat} {w w1 : World} (h : RF (.slice (some ⟨g,0,none⟩) n cap) w w1) (j : Nat) (v : Value) : RF (.slice (some ⟨g,0,none⟩) n cap) w (w1.setCell ⟨g,j,none⟩ v) := ⟨h.os,h.tape,h.output,by have := h.size; simpa [World.setCell] using this,fun k hk hn => (Below.heap_setCell _ _ _ _ (fun e => hn (by rw [e]; rfl))).trans (h.block k hk hn)⟩
theorem RowC.below {w w' : World} {lo : Nat} {v : Value} {l : List Ix} (h : RowC w lo v l) (hb : Below w.heap.size w w') : RowC w' lo v l := RowX.fs nest0_nest h (Fs.of_below (l:=[]) hb) (by simp)
theorem RowC.put {w : World} {lo gc n cap : Nat} {l : List Ix} (h : RowC w lo (.slice (some ⟨gc,0,none⟩) n cap) l) {j : Nat} {x : Ix} (hj : l[j]? = some x) (k : Nat) (v : Value) (y : Ix) (hk : k < 6) (hq : (cellsX x).set k v = cellsX y) : RowC (w.setCell ⟨gc,j * 6 + k,none⟩ v) lo (.slice (some ⟨gc,0,none⟩) n cap) (l.set j y) := by
 have hn : n = l.length := RowX.len h
 subst hn
 have hst := (RowX.own h).stored (j * 6 + k) v
 rw [flat_set cellsX 6 cellsX_len l j k v x y hj hk hq] at hst
 refine ⟨?_,fun p _ => trivial⟩
 rw [List.length_set]
 exact hst.1
def Wd (lo : Nat) (S : List Int) (l : List Ix) (cv : Value) (w : World) (r : Ending) (w' : World) : Prop := r = .returned cv ∧ RowC w' lo cv (leadM S l) ∧ RF cv w w'
theorem lead_any {lo SB : Nat} {S : List Int} {l : List Ix} {cv : Value} {w : World} (h : RowC w lo cv l) (hS : Bk w SB (S.map (Value.int .i64)) 3) (hn : cv.ownBlock ≠ some SB) (hj : ∀ i ∈ l,i.op = 18 ∨ i.op = 19 → 0 ≤ i.imm ∧ i.imm < S.length) (hl : l.length ≤ 200000000) (hs : S.length ≤ 200000000) :
  Calls Try.prog 52 #[cv,.slice (some ⟨SB,0,none⟩) S.length S.length] w fun r w' => Wd lo S l cv w r w' := by
 obtain ⟨pc,n,cap,rfl⟩ := RowX.slice h
 have hnl : n = l.length := RowX.len h
 have HL : Hid (l.length = n) := hnl.symm
 have HNl : Hid (n ≤ 200000000) := by show _ ≤ _; omega
 have HR0 : Hid (RowC w lo (.slice pc n cap) (ledTo S l 0)) := by show RowC _ _ _ _; rw [ledTo_zero]; exact h
 have HJ := keep hj
 have HSn := keep hn
 have HBs := keep hS
 obtain ⟨sn,hsn⟩ : ∃ y,S.length = y := ⟨_,rfl⟩
 have HSl : Hid (S.length = sn) := hsn
 have HSs : Hid (sn ≤ 200000000) := by show _ ≤ _; omega
 rw [hsn]
 clear hnl hj hn hS hsn hl hs h
 go_enter Try.func52,Try.ntmps52
 go_wp2_with fail
 go_loopw [9] (fun i wx => ∃ j : Nat,j ≤ n ∧ i = .int .i64 (j : Int) ∧ RowC wx lo (.slice pc n cap) (ledTo S l j) ∧ RF (.slice pc n cap) w wx) (fun i _ => n - (intOf i).toNat)
 case atStart => exact ⟨0,by omega,rfl,HR0.out,RF.refl _ _⟩
 case round =>
  obtain ⟨j,hjn,rfl,hr,hf⟩ := hrel
  by_cases hjl : j < n
  ·have d1 : decide ((j : Int) < (n : Int)) = true := decide_eq_true (by omega)
   have hjz : (j : Int) < (n : Int) := by omega
   have hj0 : (0 : Int) ≤ (j : Int) := by omega
   have hwr : IntKind.i64.wrap ((j : Int) + 1) = (j : Int) + 1 := by have := HNl.out; rw [IntKind.wrap_i64]; omega
   obtain ⟨x,hx⟩ : ∃ x,l[j]? = some x := ⟨_,List.getElem?_eq_getElem (by rw [HL.out]; exact hjl)⟩
   obtain ⟨t1,t2⟩ := ledTo_step S l j x hx
   have hjx := HJ.out x (List.mem_of_getElem? hx)
   have hfm := RowX.form cellsX_len hr
   rcases hfm with ⟨e0,_⟩ | ⟨gc,cap',e1,_,_,hgl,hcc⟩
   ·exfalso; rw [e0] at t1; simp at t1
   have e1' : pc = some ⟨gc,0,none⟩ := by injection e1
   clear e1
   subst e1'
   obtain ⟨op,d,a,b,c,imm⟩ := x
   have y0 := hcc j _ 0 _ t1 rfl
   have y1 := hcc j _ 1 _ t1 rfl
   have y2 := hcc j _ 2 _ t1 rfl
   have y3 := hcc j _ 3 _ t1 rfl
   have y4 := hcc j _ 4 _ t1 rfl
   have y5 := hcc j _ 5 _ t1 rfl
   rw [Nat.add_zero] at y0
   dsimp only at hjx
   obtain ⟨wb,hwb⟩ : ∃ y,wr.alloc (.cells #[.int .i64 op,.int .i64 d,.int .i64 a,.int .i64 b,.int .i64 c,.int .i64 imm] 35) = y := ⟨_,rfl⟩
   obtain ⟨IB,hIB⟩ : ∃ y,wr.heap.size = y := ⟨_,rfl⟩
   have bb : Below wr.heap.size wr wb := by rw [← hwb]; exact (Below.refl _ _).alloc (Nat.le_refl _) _
   have kI : Bk wb IB [.int .i64 op,.int .i64 d,.int .i64 a,.int .i64 b,.int .i64 c,.int .i64 imm] 35 := by rw [← hwb,← hIB]; exact Bk.new _ _ _
   have HRb := keep (RowC.below hr bb)
   have HFb := keep (hf.below bb)
   have HWb := keep hwb
   have HIb := keep hIB
   have HkI := keep kI
   have HT1 := keep t1
   have HT2 := keep t2
   clear hr hf hcc hx t1 t2 hwb hIB bb kI hgl hjl
   have x0 := HkI.out.cell 0 rfl
   have x5 := HkI.out.cell 5 rfl
   by_cases h18 : op = 18
   ·have HOp : Hid (op = 18 ∨ op = 19) := .inl h18
    have e18 : (op == 18) = true := by simpa using h18
    clear h18
    have HLe : Hid (led S ⟨op,d,a,b,c,imm⟩ = ⟨op,d,a,b,c,gI S imm⟩) := if_pos HOp.out
    obtain ⟨j0',j1'⟩ := hjx HOp.out
    obtain ⟨ki,rfl⟩ : ∃ ki : Nat,imm = (ki : Int) := ⟨imm.toNat,by omega⟩
    have hks : (ki : Int) < (sn : Int) := by have := HSl.out; omega
    have hk0 : (0 : Int) ≤ (ki : Int) := by omega
    obtain ⟨v,hv⟩ : ∃ v,S[ki]? = some v := ⟨_,List.getElem?_eq_getElem (by omega)⟩
    have HGv : Hid (gI S (ki : Int) = v) := by show _ = _; unfold gI; simp [hv]
    have hSb : Bk wb SB (S.map (Value.int .i64)) 3 := by
     have h8 := HBs.out
     have h9 := h8.lt
     unfold Bk at h8 ⊢
     rw [HFb.out.block SB h9 HSn.out]; exact h8
    have s0 : wb.cell? ⟨SB,ki,none⟩ = some (.int .i64 v) := hSb.cell ki (by rw [List.getElem?_map,hv]; rfl)
    have u5 : wb.cell? ⟨gc,j * 6 + 5,none⟩ = some (.int .i64 (ki : Int)) := by
     rcases RowX.form cellsX_len HRb.out with ⟨e0,_⟩ | ⟨gc',cap',e1,_,_,_,hcc⟩
     ·exfalso; have t1 := HT1.out; rw [e0] at t1; simp at t1
     ·injection e1 with e1 _ e2; injection e1 with e1; injection e1 with e1; subst e1; exact hcc j _ 5 _ HT1.out rfl
    have f5 : wb.frozen? ⟨gc,j * 6 + 5,none⟩ = false := RowX.frozen_of HRb.out
    clear hv hSb hjx
    go_wp2_with (first | rw [HWb.out,HIb.out] | fail)
    have HRn : Hid (RowC (wb.setCell ⟨gc,j * 6 + 5,none⟩ (.int .i64 v)) lo (.slice (some ⟨gc,0,none⟩) n cap) (ledTo S l (j + 1))) := by
     show RowC _ _ _ _
     rw [HT2.out,HLe.out,HGv.out]; exact RowC.put HRb.out HT1.out 5 _ ⟨op,d,a,b,c,v⟩ (by decide) rfl
    go_roundw
    case rel => exact ⟨j + 1,by omega,by go_num,HRn.out,HFb.out.cell _ _⟩
    case measure => simp [intOf]; omega
   ·have e18 : (op == 18) = false := by simpa using h18
    by_cases h19 : op = 19
    ·have HOp : Hid (op = 18 ∨ op = 19) := .inr h19
     have e19 : (op == 19) = true := by simpa using h19
     clear h18 h19
     have HLe : Hid (led S ⟨op,d,a,b,c,imm⟩ = ⟨op,d,a,b,c,gI S imm⟩) := if_pos HOp.out
     obtain ⟨j0',j1'⟩ := hjx HOp.out
     obtain ⟨ki,rfl⟩ : ∃ ki : Nat,imm = (ki : Int) := ⟨imm.toNat,by omega⟩
     have hks : (ki : Int) < (sn : Int) := by have := HSl.out; omega
     have hk0 : (0 : Int) ≤ (ki : Int) := by omega
     obtain ⟨v,hv⟩ : ∃ v,S[ki]? = some v := ⟨_,List.getElem?_eq_getElem (by omega)⟩
     have HGv : Hid (gI S (ki : Int) = v) := by show _ = _; unfold gI; simp [hv]
     have hSb : Bk wb SB (S.map (Value.int .i64)) 3 := by
      have h8 := HBs.out
      have h9 := h8.lt
      unfold Bk at h8 ⊢
      rw [HFb.out.block SB h9 HSn.out]; exact h8
     have s0 : wb.cell? ⟨SB,ki,none⟩ = some (.int .i64 v) := hSb.cell ki (by rw [List.getElem?_map,hv]; rfl)
     have u5 : wb.cell? ⟨gc,j * 6 + 5,none⟩ = some (.int .i64 (ki : Int)) := by
      rcases RowX.form cellsX_len HRb.out with ⟨e0,_⟩ | ⟨gc',cap',e1,_,_,_,hcc⟩
      ·exfalso; have t1 := HT1.out; rw [e0] at t1; simp at t1
      ·injection e1 with e1 _ e2; injection e1 with e1; injection e1 with e1; subst e1; exact hcc j _ 5 _ HT1.out rfl
     have f5 : wb.frozen? ⟨gc,j * 6 + 5,none⟩ = false := RowX.frozen_of HRb.out
     clear hv hSb hjx
     go_wp2_with (first | rw [HWb.out,HIb.out] | fail)
     have HRn : Hid (RowC (wb.setCell ⟨gc,j * 6 + 5,none⟩ (.int .i64 v)) lo (.slice (some ⟨gc,0,none⟩) n cap) (ledTo S l (j + 1))) := by
      show RowC _ _ _ _
      rw [HT2.out,HLe.out,HGv.out]; exact RowC.put HRb.out HT1.out 5 _ ⟨op,d,a,b,c,v⟩ (by decide) rfl
     go_roundw
     case rel => exact ⟨j + 1,by omega,by go_num,HRn.out,HFb.out.cell _ _⟩
     case measure => simp [intOf]; omega
    ·have HOp : Hid (¬ (op = 18 ∨ op = 19)) := by show ¬ _; omega
     have e19 : (op == 19) = false := by simpa using h19
     clear h18 h19
     go_wp2_with (first | rw [HWb.out,HIb.out] | fail)
     have HRn : Hid (RowC wb lo (.slice (some ⟨gc,0,none⟩) n cap) (ledTo S l (j + 1))) := by
      show RowC _ _ _ _
      rw [HT2.out,show led S ⟨op,d,a,b,c,imm⟩ = ⟨op,d,a,b,c,imm⟩ from if_neg HOp.out,set_same HT1.out]; exact HRb.out
     go_roundw
     case rel => exact ⟨j + 1,by omega,by go_num,HRn.out,HFb.out⟩
     case measure => simp [intOf]; omega
  ·have hje : j = n := by omega
   subst hje
   have dl : decide ((j : Int) < (j : Int)) = false := decide_eq_false (by omega)
   have HRe : Hid (RowC wr lo (.slice pc j cap) (leadM S l)) := by show RowC _ _ _ _; rw [← ledTo_all,HL.out]; exact hr
   have HF := keep hf
   clear hjl hr hf
   go_wp2_with fail
   go_ret
   exact ⟨rfl,HRe.out,HF.out⟩
end Go.Proofs.Ytfbmkcogkiejnaa.Hg
namespace Go.Proofs.Ytfbmkcogkiejnaa.Hg
set_option linter.unusedVariables false
set_option linter.unusedSimpArgs false
open Lg Fl
def Ends (T : Nat → Int) (k : Nat) (m M : Mk) : Prop := ∃ op a b q m0,M = (twoM T op a b m0).2 ∧ Stp k m (q,m0)
theorem Ends.after {T : Nat → Int} {k l : Nat} {m M : Mk} {r : Int × Mk} (h : Stp k m r) (h' : Ends T l r.2 M) : Ends T (k + l) m M := by
 obtain ⟨op,a,b,q,m0,e,s⟩ := h'
 exact ⟨op,a,b,q,m0,e,h.then s⟩
theorem Ends.mono {T : Nat → Int} {k l : Nat} {m M : Mk} (h : Ends T k m M) (hl : k ≤ l) : Ends T l m M := by
 obtain ⟨op,a,b,q,m0,e,s⟩ := h
 exact ⟨op,a,b,q,m0,e,s.mono hl⟩
theorem two_ends (T : Nat → Int) {k : Nat} {m : Mk} {r : Int × Mk} (op a b : Int) (h : Stp k m r) : Ends T k m (twoM T op a b r.2).2 := ⟨op,a,b,r.1,r.2,rfl,h⟩
theorem down_ends (T : Nat → Int) (a far : Int) {m : Mk} (h : Gd m) : Ends T 1 m (downM T a far m).2 := by
 unfold downM
 exact two_ends T _ _ _ (num_stp T far h)
theorem top_ends (T : Nat → Int) (a : Int) {m : Mk} (h : Gd m) : Ends T 1 m (topM T a m).2 := down_ends T a 31 h
theorem choose_ends (T : Nat → Int) (a b c : Int) {m : Mk} (h : Gd m) : Ends T 2 m (chooseM T a b c m).2 := by
 unfold chooseM
 dsimp only
 have h1 := two_stp T 5 b c h
 generalize twoM T 5 b c m = r1 at *
 have h2 := two_stp T 3 r1.1 a h1.gd
 generalize twoM T 3 r1.1 a r1.2 = r2 at *
 exact two_ends T _ _ _ (h1.then h2)
theorem below_ends (T : Nat → Int) (a b : Int) {m : Mk} (h : Gd m) : Ends T 6 m (belowM T a b m).2 := by
 unfold belowM
 dsimp only
 have h1 := two_stp T 2 a b h
 generalize twoM T 2 a b m = r1 at *
 have h2 := two_stp T 5 a b h1.gd
 generalize twoM T 5 a b r1.2 = r2 at *
 have h3 := two_stp T 5 a r1.1 h2.gd
 generalize twoM T 5 a r1.1 r2.2 = r3 at *
 have h4 := two_stp T 4 r2.1 r3.1 h3.gd
 generalize twoM T 4 r2.1 r3.1 r3.2 = r4 at *
 have h5 := two_stp T 5 a r4.1 h4.gd
 generalize twoM T 5 a r4.1 r4.2 = r5 at *
 exact Ends.after ((((h1.then h2).then h3).then h4).then h5) (top_ends T _ h5.gd)
theorem move_ends (T : Nat → Int) {by' : Nat → Int → Mk → Int × Mk} (hb : ByOk by') (k : Nat) (hk : k ≤ 4) (a b : Int) {m : Mk} (h : Gd m) (h0 : 0 ≤ a) (h1 : a < m.sec.length) : Ends T 24 m (moveM T by' k a b m).2 := by
 have hp : 2 ^ k ≤ 16 := by
  have : 2 ^ k ≤ 2 ^ 4 := Nat.pow_le_pow_right (by decide) hk
  omega
 unfold moveM
 dsimp only
 have e1 := num_stp T k h
 generalize numM T k m = r1 at *
 have e2 := two_stp T 7 b r1.1 e1.gd
 generalize twoM T 7 b r1.1 r1.2 = r2 at *
 have e3 := num_stp T 1 e2.gd
 generalize numM T 1 r2.2 = r3 at *
 have e4 := two_stp T 3 r2.1 r3.1 e3.gd
 generalize twoM T 3 r2.1 r3.1 r3.2 = r4 at *
 have e5 := all_stp T r4.1 e4.gd
 generalize allM T r4.1 r4.2 = r5 at *
 have e15 := (((e1.then e2).then e3).then e4).then e5
 have e6 := hb (2 ^ k) a _ e5.gd h0 (by have := e15.ge; omega)
 generalize by' (2 ^ k) a r5.2 = r6 at *
 exact (Ends.after (e15.then e6) (choose_ends T _ _ a e6.gd)).mono (by omega)
theorem moved_ends (T : Nat → Int) {by' : Nat → Int → Mk → Int × Mk} (hb : ByOk by') (a b : Int) {m : Mk} (h : Gd m) (h0 : 0 ≤ a) (h1 : a < m.sec.length) : Ends T 200 m (movedM T by' b 5 a m).2 := by
 have e := moved_stp T hb b 4 a (by omega) h h0 h1
 rw [movedM]
 exact (Ends.after e (move_ends T hb 4 (by omega) _ b e.gd e.p0 e.p1)).mono (by omega)
theorem prod_ends (T : Nat → Int) {k : Nat} {m : Mk} {p : Pr} (h : PrOk k m p) : Ends T (k + 8) m (prodM T p).m := by
 obtain ⟨sum,a,b,q⟩ := p
 have hs := h.s
 dsimp only at hs
 clear h
 unfold prodM
 dsimp only
 have e1 := num_stp T 1 hs.gd
 dsimp only at e1
 generalize numM T 1 q = r1 at *
 have e2 := two_stp T 3 b r1.1 e1.gd
 generalize twoM T 3 b r1.1 r1.2 = r2 at *
 have e3 := all_stp T r2.1 e2.gd
 generalize allM T r2.1 r2.2 = r3 at *
 have e4 := two_stp T 3 a r3.1 e3.gd
 generalize twoM T 3 a r3.1 r3.2 = r4 at *
 have e5 := double_stp T a e4.gd
 generalize doubleM T a r4.2 = r5 at *
 have e6 := down_stp T b 1 e5.gd
 generalize downM T b 1 r5.2 = r6 at *
 exact two_ends T _ _ _ ((((((hs.then e1).then e2).then e3).then e4).then e5).then e6)
theorem step_ends (T : Nat → Int) (by' : Int) {k : Nat} {m : Mk} {d : Dv} (h : DvOk k m d) : Ends T (k + 15) m (stepM T by' d).2.m := by
 obtain ⟨rest,left,q⟩ := d
 have hs := h.s
 dsimp only at hs
 clear h
 unfold stepM
 dsimp only
 have e1 := double_stp T left hs.gd
 dsimp only at e1
 generalize doubleM T left q = r1 at *
 have e2 := top_stp T rest e1.gd
 generalize topM T rest r1.2 = r2 at *
 have e3 := two_stp T 4 r1.1 r2.1 e2.gd
 generalize twoM T 4 r1.1 r2.1 r2.2 = r3 at *
 have e4 := double_stp T rest e3.gd
 generalize doubleM T rest r3.2 = r4 at *
 have e5 := below_stp T r3.1 by' e4.gd
 generalize belowM T r3.1 by' r4.2 = r5 at *
 have e6 := num_stp T 1 e5.gd
 generalize numM T 1 r5.2 = r6 at *
 have e7 := two_stp T 2 r5.1 r6.1 e6.gd
 generalize twoM T 2 r5.1 r6.1 r6.2 = r7 at *
 have e8 := two_stp T 3 by' r7.1 e7.gd
 generalize twoM T 3 by' r7.1 r7.2 = r8 at *
 exact two_ends T _ _ _ ((((((((hs.then e1).then e2).then e3).then e4).then e5).then e6).then e7).then e8)
theorem quo_ends (T : Nat → Int) (by' : Int) {k : Nat} {m : Mk} {p : Int × Dv} (h : DvOk k m p.2) : Ends T (k + 17) m (quoM T by' p).2.m := by
 obtain ⟨often,d⟩ := p
 dsimp only at h
 obtain ⟨h1,h2,h3⟩ := step_stp T by' h
 unfold quoM
 dsimp only
 generalize stepM T by' d = r1 at *
 have hs := h1.s
 clear h1 h
 have e1 := double_stp T often hs.gd
 dsimp only at e1
 generalize doubleM T often r1.2.m = r2 at *
 exact two_ends T _ _ _ (hs.then e1)
theorem fresh_good {m : Mk} (h : ∀ s ∈ m.sec,s = 0 ∨ s = 1) : Gd (fresh m) := ⟨fun n p hp => (by cases hp),h⟩
theorem other_ends (T : Nat → Int) (i : Ix) {m : Mk} (hs : ∀ s ∈ m.sec,s = 0 ∨ s = 1) (hw : ways i.op = true) (hr : ∀ p ∈ rds i,0 ≤ p ∧ p < m.sec.length) : Ends T 990 (fresh m) (otherM T i m) := by
 have hg := fresh_good hs
 have hop : 6 ≤ i.op ∧ i.op ≤ 13 := by unfold ways at hw; rw [Bool.and_eq_true,decide_eq_true_eq,decide_eq_true_eq] at hw; exact hw
 have ha : 0 ≤ i.a ∧ i.a < (fresh m).sec.length := hr i.a (by
  unfold rds
  by_cases h : i.op = 13
  ·rw [if_neg (by omega),if_pos h]; simp
  ·rw [if_pos (by omega)]; simp)
 unfold otherM
 by_cases h6 : i.op = 6
 ·rw [if_pos h6]; exact (moved_ends T (up_ok T) i.a i.b hg ha.1 ha.2).mono (by omega)
 rw [if_neg h6]
 by_cases h7 : i.op = 7
 ·rw [if_pos h7]; exact (moved_ends T (down_ok T) i.a i.b hg ha.1 ha.2).mono (by omega)
 rw [if_neg h7]
 by_cases h8 : i.op = 8
 ·rw [if_pos h8]
  have hb : 0 ≤ i.b ∧ i.b < (fresh m).sec.length := hr i.b (by unfold rds; rw [if_pos (by omega)]; simp)
  unfold mulM
  dsimp only
  have e1 := num_stp T 0 hg
  generalize numM T 0 (fresh m) = r1 at *
  have h0 : PrOk 1 (fresh m) ⟨r1.1,i.a,i.b,r1.2⟩ := ⟨e1,ha.1,by have := e1.ge; dsimp only; omega,hb.1,by have := e1.ge; dsimp only; omega⟩
  rw [prodsM]
  exact (prod_ends T (prods_stp T h0 31)).mono (by omega)
 rw [if_neg h8]
 by_cases h9 : i.op = 9
 ·rw [if_pos h9]
  unfold divM
  dsimp only
  have e1 := num_stp T 0 hg
  generalize numM T 0 (fresh m) = r1 at *
  have e2 := num_stp T 0 e1.gd
  generalize numM T 0 r1.2 = r2 at *
  have e12 := e1.then e2
  have g2 := e2.ge
  have p1 := e1.p1
  have h0 : DvOk 2 (fresh m) (r2.1,(⟨i.a,r1.1,r2.2⟩ : Dv)).2 := ⟨⟨e12.gd,e1.p0,by dsimp only; omega,e12.ge,e12.c,e12.s,e12.n⟩,ha.1,by have := e12.ge; dsimp only; omega⟩
  have hq := quos_stp T i.b h0 e2.p0 e2.p1 31
  rw [quosM]
  exact (quo_ends T i.b hq.1).mono (by omega)
 rw [if_neg h9]
 by_cases h10 : i.op = 10
 ·rw [if_pos h10]
  unfold remM
  dsimp only
  have e1 := num_stp T 0 hg
  generalize numM T 0 (fresh m) = r1 at *
  have h0 : DvOk 1 (fresh m) ⟨i.a,r1.1,r1.2⟩ := ⟨e1,ha.1,by have := e1.ge; dsimp only; omega⟩
  rw [remsM]
  exact (step_ends T i.b (rems_stp T i.b h0 31)).mono (by omega)
 rw [if_neg h10]
 by_cases h11 : i.op = 11
 ·rw [if_pos h11]; exact (below_ends T i.a i.b hg).mono (by omega)
 rw [if_neg h11]
 by_cases h12 : i.op = 12
 ·rw [if_pos h12]
  unfold sameM
  dsimp only
  have e1 := two_stp T 5 i.a i.b hg
  generalize twoM T 5 i.a i.b (fresh m) = r1 at *
  have e2 := some_stp T r1.1 e1.gd
  generalize someM T r1.1 r1.2 = r2 at *
  have e3 := num_stp T 1 e2.gd
  generalize numM T 1 r2.2 = r3 at *
  exact (two_ends T _ _ _ ((e1.then e2).then e3)).mono (by omega)
 rw [if_neg h12,if_pos (show i.op = 13 by omega)]
 unfold selM
 dsimp only
 have e1 := some_stp T i.a hg
 generalize someM T i.a (fresh m) = r1 at *
 have e2 := all_stp T r1.1 e1.gd
 generalize allM T r1.1 r1.2 = r2 at *
 exact (Ends.after (e1.then e2) (choose_ends T _ _ _ e2.gd)).mono (by omega)
structure Adds (m M : Mk) : Prop where
 c : ∃ C,M.code = m.code ++ C ∧ C.length ≤ 1000 ∧ 1 ≤ C.length
 s : ∃ S,M.sec = m.sec ++ S ∧ S.length ≤ 1000
 g : ∀ s ∈ M.sec,s = 0 ∨ s = 1
theorem emit_adds (T : Nat → Int) (i : Ix) {m : Mk} (hs : ∀ s ∈ m.sec,s = 0 ∨ s = 1) : Adds m (emitM T i m) := ⟨⟨[i],rfl,by simp,by simp⟩,⟨[],by unfold emitM; simp,by simp⟩,hs⟩
theorem swap_adds (T : Nat → Int) (i : Ix) {m M : Mk} (h : Ends T 990 (fresh m) M) : Adds m (swapD i M) := by
 obtain ⟨op,a,b,q,m0,rfl,s⟩ := h
 obtain ⟨C,hc,hcl⟩ := s.c
 obtain ⟨S,hS,hSl⟩ := s.s
 have e1 : (twoM T op a b m0).2.code = m0.code ++ [atD ⟨op,0,a,b,0,0⟩ m0.sec.length] := rfl
 have e2 : (twoM T op a b m0).2.sec = m0.sec ++ [orS m0.sec (rds ⟨op,0,a,b,0,0⟩)] := rfl
 have e3 : (twoM T op a b m0).2.code.getLast? = some (atD ⟨op,0,a,b,0,0⟩ m0.sec.length) := by rw [e1]; simp
 have e4 : (swapD i (twoM T op a b m0).2).code = m0.code ++ [atD (atD ⟨op,0,a,b,0,0⟩ m0.sec.length) i.d] := by
  unfold swapD; rw [e3]; dsimp only; rw [e1]; simp
 have e5 : (swapD i (twoM T op a b m0).2).sec = m0.sec := by
  unfold swapD; rw [e3]; dsimp only; rw [e2]
  show List.take ((m0.sec.length : Int)).toNat _ = _
  rw [Int.toNat_natCast]; simp
 refine ⟨⟨C ++ [atD (atD ⟨op,0,a,b,0,0⟩ m0.sec.length) i.d],by rw [e4,show m0.code = (fresh m).code ++ C from hc,List.append_assoc]; rfl,by rw [List.length_append]; simp; omega,by rw [List.length_append]; simp⟩,⟨S,by rw [e5]; exact hS,by omega⟩,?_⟩
 rw [e5]; exact s.gd.sec
theorem legal_adds (T : Nat → Int) (i : Ix) {m : Mk} (hs : ∀ s ∈ m.sec,s = 0 ∨ s = 1) (hr : ∀ p ∈ rds i,0 ≤ p ∧ p < m.sec.length) : Adds m (legalM T i m) := by
 unfold legalM
 split
 ·exact emit_adds T i hs
 ·split
  ·have h := emit_adds T i (m:=fresh m) hs
   exact ⟨h.c,h.s,h.g⟩
  ·rename_i hw
   exact swap_adds T i (other_ends T i hs (by simpa using hw) hr)
inductive Via (T : Nat → Int) : Mk → Mk → Prop
 | refl (m : Mk) : Via T m m
 | two {m M : Mk} (op a b : Int) (ho : 1 ≤ op ∧ op ≤ 5) (h : Via T m M) : Via T m (twoM T op a b M).2
 | num {m M : Mk} (n : Int) (h : Via T m M) : Via T m (numM T n M).2
 | down {m M : Mk} (a far : Int) (h : Via T m M) : Via T m (downM T a far M).2
theorem Via.then {T : Nat → Int} {m M N : Mk} (h : Via T m M) (h' : Via T M N) : Via T m N := by
 induction h' with
 | refl => exact h
 | two op a b ho _ ih => exact .two op a b ho ih
 | num n _ ih => exact .num n ih
 | down a far _ ih => exact .down a far ih
theorem top_via (T : Nat → Int) (a : Int) (m : Mk) : Via T m (topM T a m).2 := .down a 31 (.refl m)
theorem double_via (T : Nat → Int) (a : Int) (m : Mk) : Via T m (doubleM T a m).2 := .two 1 a a (by decide) (.refl m)
theorem all_via (T : Nat → Int) (a : Int) (m : Mk) : Via T m (allM T a m).2 := .two 2 _ _ (by decide) (.num 0 (.refl m))
theorem choose_via (T : Nat → Int) (a b c : Int) (m : Mk) : Via T m (chooseM T a b c m).2 := .two 5 _ _ (by decide) (.two 3 _ _ (by decide) (.two 5 _ _ (by decide) (.refl m)))
theorem some_via (T : Nat → Int) (a : Int) (m : Mk) : Via T m (someM T a m).2 := (Via.two 4 _ _ (by decide) (.two 2 _ _ (by decide) (.num 0 (.refl m)))).then (top_via T _ _)
theorem below_via (T : Nat → Int) (a b : Int) (m : Mk) : Via T m (belowM T a b m).2 := (Via.two 5 _ _ (by decide) (.two 4 _ _ (by decide) (.two 5 _ _ (by decide) (.two 5 _ _ (by decide) (.two 2 _ _ (by decide) (.refl m)))))).then (top_via T _ _)
theorem up_via (T : Nat → Int) : ∀ (n : Nat) (a : Int) (m : Mk),Via T m (upM T n a m).2
 | 0,a,m => .refl m
 | n + 1,a,m => (up_via T n a m).then (double_via T _ _)
theorem move_via (T : Nat → Int) {by' : Nat → Int → Mk → Int × Mk} (hb : ∀ n a m,Via T m (by' n a m).2) (k : Nat) (a b : Int) (m : Mk) : Via T m (moveM T by' k a b m).2 :=
 ((((((Via.down b k (.refl m)).then (.num 1 (.refl _))).then (.two 3 _ _ (by decide) (.refl _))).then (all_via T _ _)).then (hb (2 ^ k) a _)).then (choose_via T _ _ _ _))
theorem moved_via (T : Nat → Int) {by' : Nat → Int → Mk → Int × Mk} (hb : ∀ n a m,Via T m (by' n a m).2) (b : Int) : ∀ (n : Nat) (a : Int) (m : Mk),Via T m (movedM T by' b n a m).2
 | 0,a,m => .refl m
 | n + 1,a,m => (moved_via T hb b n a m).then (move_via T hb n _ b _)
theorem prod_via (T : Nat → Int) (p : Pr) : Via T p.m (prodM T p).m :=
 .two 1 _ _ (by decide) (.down _ 1 (.two 1 _ _ (by decide) (.two 3 _ _ (by decide) (.two 2 _ _ (by decide) (.num 0 (.two 3 _ _ (by decide) (.num 1 (.refl _))))))))
theorem prods_via (T : Nat → Int) (p : Pr) : ∀ n,Via T p.m (prodsM T n p).m
 | 0 => .refl _
 | n + 1 => (prods_via T p n).then (prod_via T _)
theorem step_via (T : Nat → Int) (by' : Int) (d : Dv) : Via T d.m (stepM T by' d).2.m :=
 ((((((Via.two 1 d.left d.left (by decide) (.refl d.m)).then (top_via T d.rest _)).then (.two 4 _ _ (by decide) (.refl _))).then (double_via T d.rest _)).then (below_via T _ by' _)).then (.two 2 _ _ (by decide) (.two 3 _ _ (by decide) (.two 2 _ _ (by decide) (.num 1 (.refl _))))))
theorem rems_via (T : Nat → Int) (by' : Int) (d : Dv) : ∀ n,Via T d.m (remsM T by' n d).m
 | 0 => .refl _
 | n + 1 => (rems_via T by' d n).then (step_via T by' _)
theorem quo_via (T : Nat → Int) (by' : Int) (p : Int × Dv) : Via T p.2.m (quoM T by' p).2.m :=
 (step_via T by' p.2).then (.two 2 _ _ (by decide) (.two 1 _ _ (by decide) (.refl _)))
theorem quos_via (T : Nat → Int) (by' : Int) (p : Int × Dv) : ∀ n,Via T p.2.m (quosM T by' n p).2.m
 | 0 => .refl _
 | n + 1 => (quos_via T by' p n).then (quo_via T by' _)
theorem other_via (T : Nat → Int) (i : Ix) (m : Mk) : Via T (fresh m) (otherM T i m) := by
 unfold otherM
 by_cases h6 : i.op = 6
 ·rw [if_pos h6]; exact moved_via T (up_via T) _ 5 _ _
 rw [if_neg h6]
 by_cases h7 : i.op = 7
 ·rw [if_pos h7]; exact moved_via T (fun n a m => .down a n (.refl m)) _ 5 _ _
 rw [if_neg h7]
 by_cases h8 : i.op = 8
 ·rw [if_pos h8]; exact (Via.num 0 (.refl _)).then (prods_via T ⟨_,i.a,i.b,_⟩ 32)
 rw [if_neg h8]
 by_cases h9 : i.op = 9
 ·rw [if_pos h9]; exact (Via.num 0 (.num 0 (.refl _))).then (quos_via T i.b (_,⟨i.a,_,_⟩) 32)
 rw [if_neg h9]
 by_cases h10 : i.op = 10
 ·rw [if_pos h10]; exact (Via.num 0 (.refl _)).then (rems_via T i.b ⟨i.a,_,_⟩ 32)
 rw [if_neg h10]
 by_cases h11 : i.op = 11
 ·rw [if_pos h11]; exact below_via T _ _ _
 rw [if_neg h11]
 by_cases h12 : i.op = 12
 ·rw [if_pos h12]; exact ((Via.two 5 i.a i.b (by decide) (.refl _)).then (some_via T _ _)).then (.two 5 _ _ (by decide) (.num 1 (.refl _)))
 rw [if_neg h12]
 by_cases h13 : i.op = 13
 ·rw [if_pos h13]; exact ((some_via T i.a _).then (all_via T _ _)).then (choose_via T _ _ _ _)
 rw [if_neg h13]
 exact .refl _
theorem num_code (T : Nat → Int) (n : Int) (m : Mk) : (numM T n m).2.code = m.code ∨ (numM T n m).2.code = m.code ++ [⟨14,m.sec.length,0,0,0,n⟩] := by
 unfold numM
 split
 ·exact .inl rfl
 ·exact .inr rfl
theorem Via.code {T : Nat → Int} {m M : Mk} (h : Via T m M) : ∀ x ∈ M.code,x ∈ m.code ∨ x.op ≤ 17 := by
 have hn : ∀ (n : Int) (N : Mk),(∀ x ∈ N.code,x ∈ m.code ∨ x.op ≤ 17) → ∀ x ∈ (numM T n N).2.code,x ∈ m.code ∨ x.op ≤ 17 := fun n N ih x hx => by
  rcases num_code T n N with e | e
  ·rw [e] at hx; exact ih x hx
  ·rw [e] at hx
   rcases List.mem_append.1 hx with hx | hx
   ·exact ih x hx
   ·rw [List.mem_singleton] at hx; subst hx; exact .inr (by show (14 : Int) ≤ 17; decide)
 have ht : ∀ (op a b : Int) (N : Mk),op ≤ 17 → (∀ x ∈ N.code,x ∈ m.code ∨ x.op ≤ 17) → ∀ x ∈ (twoM T op a b N).2.code,x ∈ m.code ∨ x.op ≤ 17 := fun op a b N ho ih x hx => by
  rcases List.mem_append.1 (show x ∈ N.code ++ [atD ⟨op,0,a,b,0,0⟩ N.sec.length] from hx) with hx | hx
  ·exact ih x hx
  ·rw [List.mem_singleton] at hx; subst hx; exact .inr ho
 induction h with
 | refl => exact fun x hx => .inl hx
 | two op a b ho _ ih => exact ht _ _ _ _ (by omega) ih
 | num n _ ih => exact hn _ _ ih
 | down a far _ ih => exact ht _ _ _ _ (by decide) (hn _ _ ih)
theorem legal_code (T : Nat → Int) (i : Ix) (m : Mk) : ∀ x ∈ (legalM T i m).code,(∃ y,(y ∈ m.code ∨ y = i) ∧ x.op = y.op ∧ x.imm = y.imm) ∨ x.op ≤ 17 := by
 intro x hx
 have he : x ∈ m.code ++ [i] → (∃ y,(y ∈ m.code ∨ y = i) ∧ x.op = y.op ∧ x.imm = y.imm) ∨ x.op ≤ 17 := fun hx => by
  rcases List.mem_append.1 hx with hx | hx
  ·exact .inl ⟨x,.inl hx,rfl,rfl⟩
  ·exact .inl ⟨x,.inr (List.mem_singleton.1 hx),rfl,rfl⟩
 have hv : ∀ l ∈ (otherM T i m).code,(∃ y,(y ∈ m.code ∨ y = i) ∧ l.op = y.op ∧ l.imm = y.imm) ∨ l.op ≤ 17 := fun l hl => by
  rcases (other_via T i m).code l hl with h | h
  ·exact .inl ⟨l,.inl h,rfl,rfl⟩
  ·exact .inr h
 unfold legalM at hx
 split at hx
 ·exact he hx
 ·split at hx
  ·exact he hx
  ·unfold swapD at hx
   split at hx
   ·rename_i l hl
    rcases List.mem_append.1 hx with hx | hx
    ·exact hv x ((List.dropLast_sublist _).subset hx)
    ·rw [List.mem_singleton] at hx
     subst hx
     exact hv l (List.mem_of_getLast? hl)
   ·exact hv x hx
end Go.Proofs.Ytfbmkcogkiejnaa.Hg
