/- Jumps lead to where what they led to starts now: lead. Written by tools/gen_hglead.py. -/
import Derived.Test.YtfbmkcogkiejnaaHgLab
namespace Go.Proofs.Ytfbmkcogkiejnaa.Hg
set_option maxHeartbeats 32000000
set_option maxRecDepth 100000
set_option linter.unusedVariables false
set_option linter.unusedSimpArgs false
open Go.ChangeShapes Go.WideShapes Go.ChangeAt Go.RowKit Go.Maps Lg Lr Fl
def led (S : List Int) (i : Ix) : Ix := if i.op = 18 ∨ i.op = 19 then ⟨i.op,i.d,i.a,i.b,i.c,gI S i.imm⟩ else i
def leadM (S : List Int) (l : List Ix) : List Ix := l.map (led S)
def ledTo (S : List Int) (l : List Ix) (j : Nat) : List Ix := leadM S (l.take j) ++ l.drop j
theorem ledTo_all (S : List Int) (l : List Ix) : ledTo S l l.length = leadM S l := by unfold ledTo; rw [List.take_length,List.drop_length,List.append_nil]
theorem ledTo_zero (S : List Int) (l : List Ix) : ledTo S l 0 = l := by unfold ledTo leadM; simp
theorem ledTo_step (S : List Int) (l : List Ix) (j : Nat) (i : Ix) (h : l[j]? = some i) : (ledTo S l j)[j]? = some i ∧ ledTo S l (j + 1) = (ledTo S l j).set j (led S i) := by
 have hlt := (List.getElem?_eq_some_iff.1 h).1
 have hl : (leadM S (l.take j)).length = j := by unfold leadM; rw [List.length_map,List.length_take]; omega
 have hd : l.drop j = i :: l.drop (j + 1) := by
  rw [List.drop_eq_getElem_cons hlt,(List.getElem?_eq_some_iff.1 h).2]
 unfold ledTo
 refine ⟨?_,?_⟩
 ·rw [List.getElem?_append_right (by omega),hl,Nat.sub_self,hd]; rfl
 ·rw [List.set_append_right _ _ (by omega),hl,Nat.sub_self,hd,List.set_cons_zero,List.take_add_one,h]
  unfold leadM
  rw [List.map_append,List.append_assoc]; rfl
theorem set_same {l : List Ix} {j : Nat} {i : Ix} (h : l[j]? = some i) : l.set j i = l := by
 apply List.ext_getElem?
 intro k
 rw [List.getElem?_set]
 split
 ·rename_i e
  subst e
  rw [h]
  have hlt := (List.getElem?_eq_some_iff.1 h).1
  simp [hlt]
 ·rfl
structure RF (cv : Value) (w w' : World) : Prop where
 os : w'.os = w.os
 tape : w'.tape = w.tape
 output : w'.output = w.output
 size : w.heap.size ≤ w'.heap.size
 block : ∀ k,k < w.heap.size → cv.ownBlock ≠ some k → w'.heap[k]? = w.heap[k]?
theorem RF.refl (cv : Value) (w : World) : RF cv w w := ⟨rfl,rfl,rfl,Nat.le_refl _,fun _ _ _ => rfl⟩
theorem RF.below {cv : Value} {w w1 w2 : World} (h : RF cv w w1) (hb : Below w1.heap.size w1 w2) : RF cv w w2 := ⟨hb.os.trans h.os,hb.tape.trans h.tape,hb.output.trans h.output,Nat.le_trans h.size hb.size,fun k hk hn => (hb.block k (Nat.lt_of_lt_of_le hk h.size)).trans (h.block k hk hn)⟩
theorem RF.cell {g n cap : Nat} {w w1 : World} (h : RF (.slice (some ⟨g,0,none⟩) n cap) w w1) (j : Nat) (v : Value) : RF (.slice (some ⟨g,0,none⟩) n cap) w (w1.setCell ⟨g,j,none⟩ v) := ⟨h.os,h.tape,h.output,by have := h.size; simpa [World.setCell] using this,fun k hk hn => (Below.heap_setCell _ _ _ _ (fun e => hn (by rw [e]; rfl))).trans (h.block k hk hn)⟩
theorem RowC.below {w w' : World} {lo : Nat} {v : Value} {l : List Ix} (h : RowC w lo v l) (hb : Below w.heap.size w w') : RowC w' lo v l := RowX.fs nest0_nest h (Fs.of_below (l:=[]) hb) (by simp)
theorem RowC.put {w : World} {lo gc n cap : Nat} {l : List Ix} (h : RowC w lo (.slice (some ⟨gc,0,none⟩) n cap) l) {j : Nat} {x : Ix} (hj : l[j]? = some x) (k : Nat) (v : Value) (y : Ix) (hk : k < 6) (hq : (cellsX x).set k v = cellsX y) : RowC (w.setCell ⟨gc,j * 6 + k,none⟩ v) lo (.slice (some ⟨gc,0,none⟩) n cap) (l.set j y) := by
 have hn : n = l.length := RowX.len h
 subst hn
 have hst := (RowX.own h).stored (j * 6 + k) v
 rw [flat_set cellsX 6 cellsX_len l j k v x y hj hk hq] at hst
 refine ⟨?_,fun p _ => trivial⟩
 rw [List.length_set]
 exact hst.1
def Wd (lo : Nat) (S : List Int) (l : List Ix) (cv : Value) (w : World) (r : Ending) (w' : World) : Prop := r = .returned cv ∧ RowC w' lo cv (leadM S l) ∧ RF cv w w'
theorem lead_any {lo SB : Nat} {S : List Int} {l : List Ix} {cv : Value} {w : World} (h : RowC w lo cv l) (hS : Bk w SB (S.map (Value.int .i64)) 3) (hn : cv.ownBlock ≠ some SB) (hj : ∀ i ∈ l,i.op = 18 ∨ i.op = 19 → 0 ≤ i.imm ∧ i.imm < S.length) (hl : l.length ≤ 200000000) (hs : S.length ≤ 200000000) :
  Calls Try.prog 52 #[cv,.slice (some ⟨SB,0,none⟩) S.length S.length] w fun r w' => Wd lo S l cv w r w' := by
 obtain ⟨pc,n,cap,rfl⟩ := RowX.slice h
 have hnl : n = l.length := RowX.len h
 have HL : Hid (l.length = n) := hnl.symm
 have HNl : Hid (n ≤ 200000000) := by show _ ≤ _; omega
 have HR0 : Hid (RowC w lo (.slice pc n cap) (ledTo S l 0)) := by show RowC _ _ _ _; rw [ledTo_zero]; exact h
 have HJ := keep hj
 have HSn := keep hn
 have HBs := keep hS
 obtain ⟨sn,hsn⟩ : ∃ y,S.length = y := ⟨_,rfl⟩
 have HSl : Hid (S.length = sn) := hsn
 have HSs : Hid (sn ≤ 200000000) := by show _ ≤ _; omega
 rw [hsn]
 clear hnl hj hn hS hsn hl hs h
 go_enter Try.func52,Try.ntmps52
 go_wp2_with fail
 go_loopw [9] (fun i wx => ∃ j : Nat,j ≤ n ∧ i = .int .i64 (j : Int) ∧ RowC wx lo (.slice pc n cap) (ledTo S l j) ∧ RF (.slice pc n cap) w wx) (fun i _ => n - (intOf i).toNat)
 case atStart => exact ⟨0,by omega,rfl,HR0.out,RF.refl _ _⟩
 case round =>
  obtain ⟨j,hjn,rfl,hr,hf⟩ := hrel
  by_cases hjl : j < n
  ·have d1 : decide ((j : Int) < (n : Int)) = true := decide_eq_true (by omega)
   have hjz : (j : Int) < (n : Int) := by omega
   have hj0 : (0 : Int) ≤ (j : Int) := by omega
   have hwr : IntKind.i64.wrap ((j : Int) + 1) = (j : Int) + 1 := by have := HNl.out; rw [IntKind.wrap_i64]; omega
   obtain ⟨x,hx⟩ : ∃ x,l[j]? = some x := ⟨_,List.getElem?_eq_getElem (by rw [HL.out]; exact hjl)⟩
   obtain ⟨t1,t2⟩ := ledTo_step S l j x hx
   have hjx := HJ.out x (List.mem_of_getElem? hx)
   have hfm := RowX.form cellsX_len hr
   rcases hfm with ⟨e0,_⟩ | ⟨gc,cap',e1,_,_,hgl,hcc⟩
   ·exfalso; rw [e0] at t1; simp at t1
   have e1' : pc = some ⟨gc,0,none⟩ := by injection e1
   clear e1
   subst e1'
   obtain ⟨op,d,a,b,c,imm⟩ := x
   have y0 := hcc j _ 0 _ t1 rfl
   have y1 := hcc j _ 1 _ t1 rfl
   have y2 := hcc j _ 2 _ t1 rfl
   have y3 := hcc j _ 3 _ t1 rfl
   have y4 := hcc j _ 4 _ t1 rfl
   have y5 := hcc j _ 5 _ t1 rfl
   rw [Nat.add_zero] at y0
   dsimp only at hjx
   obtain ⟨wb,hwb⟩ : ∃ y,wr.alloc (.cells #[.int .i64 op,.int .i64 d,.int .i64 a,.int .i64 b,.int .i64 c,.int .i64 imm] 35) = y := ⟨_,rfl⟩
   obtain ⟨IB,hIB⟩ : ∃ y,wr.heap.size = y := ⟨_,rfl⟩
   have bb : Below wr.heap.size wr wb := by rw [← hwb]; exact (Below.refl _ _).alloc (Nat.le_refl _) _
   have kI : Bk wb IB [.int .i64 op,.int .i64 d,.int .i64 a,.int .i64 b,.int .i64 c,.int .i64 imm] 35 := by rw [← hwb,← hIB]; exact Bk.new _ _ _
   have HRb := keep (RowC.below hr bb)
   have HFb := keep (hf.below bb)
   have HWb := keep hwb
   have HIb := keep hIB
   have HkI := keep kI
   have HT1 := keep t1
   have HT2 := keep t2
   clear hr hf hcc hx t1 t2 hwb hIB bb kI hgl hjl
   have x0 := HkI.out.cell 0 rfl
   have x5 := HkI.out.cell 5 rfl
   by_cases h18 : op = 18
   ·have HOp : Hid (op = 18 ∨ op = 19) := .inl h18
    have e18 : (op == 18) = true := by simpa using h18
    clear h18
    have HLe : Hid (led S ⟨op,d,a,b,c,imm⟩ = ⟨op,d,a,b,c,gI S imm⟩) := if_pos HOp.out
    obtain ⟨j0',j1'⟩ := hjx HOp.out
    obtain ⟨ki,rfl⟩ : ∃ ki : Nat,imm = (ki : Int) := ⟨imm.toNat,by omega⟩
    have hks : (ki : Int) < (sn : Int) := by have := HSl.out; omega
    have hk0 : (0 : Int) ≤ (ki : Int) := by omega
    obtain ⟨v,hv⟩ : ∃ v,S[ki]? = some v := ⟨_,List.getElem?_eq_getElem (by omega)⟩
    have HGv : Hid (gI S (ki : Int) = v) := by show _ = _; unfold gI; simp [hv]
    have hSb : Bk wb SB (S.map (Value.int .i64)) 3 := by
     have h8 := HBs.out
     have h9 := h8.lt
     unfold Bk at h8 ⊢
     rw [HFb.out.block SB h9 HSn.out]; exact h8
    have s0 : wb.cell? ⟨SB,ki,none⟩ = some (.int .i64 v) := hSb.cell ki (by rw [List.getElem?_map,hv]; rfl)
    have u5 : wb.cell? ⟨gc,j * 6 + 5,none⟩ = some (.int .i64 (ki : Int)) := by
     rcases RowX.form cellsX_len HRb.out with ⟨e0,_⟩ | ⟨gc',cap',e1,_,_,_,hcc⟩
     ·exfalso; have t1 := HT1.out; rw [e0] at t1; simp at t1
     ·injection e1 with e1 _ e2; injection e1 with e1; injection e1 with e1; subst e1; exact hcc j _ 5 _ HT1.out rfl
    have f5 : wb.frozen? ⟨gc,j * 6 + 5,none⟩ = false := RowX.frozen_of HRb.out
    clear hv hSb hjx
    go_wp2_with (first | rw [HWb.out,HIb.out] | fail)
    have HRn : Hid (RowC (wb.setCell ⟨gc,j * 6 + 5,none⟩ (.int .i64 v)) lo (.slice (some ⟨gc,0,none⟩) n cap) (ledTo S l (j + 1))) := by
     show RowC _ _ _ _
     rw [HT2.out,HLe.out,HGv.out]; exact RowC.put HRb.out HT1.out 5 _ ⟨op,d,a,b,c,v⟩ (by decide) rfl
    go_roundw
    case rel => exact ⟨j + 1,by omega,by go_num,HRn.out,HFb.out.cell _ _⟩
    case measure => simp [intOf]; omega
   ·have e18 : (op == 18) = false := by simpa using h18
    by_cases h19 : op = 19
    ·have HOp : Hid (op = 18 ∨ op = 19) := .inr h19
     have e19 : (op == 19) = true := by simpa using h19
     clear h18 h19
     have HLe : Hid (led S ⟨op,d,a,b,c,imm⟩ = ⟨op,d,a,b,c,gI S imm⟩) := if_pos HOp.out
     obtain ⟨j0',j1'⟩ := hjx HOp.out
     obtain ⟨ki,rfl⟩ : ∃ ki : Nat,imm = (ki : Int) := ⟨imm.toNat,by omega⟩
     have hks : (ki : Int) < (sn : Int) := by have := HSl.out; omega
     have hk0 : (0 : Int) ≤ (ki : Int) := by omega
     obtain ⟨v,hv⟩ : ∃ v,S[ki]? = some v := ⟨_,List.getElem?_eq_getElem (by omega)⟩
     have HGv : Hid (gI S (ki : Int) = v) := by show _ = _; unfold gI; simp [hv]
     have hSb : Bk wb SB (S.map (Value.int .i64)) 3 := by
      have h8 := HBs.out
      have h9 := h8.lt
      unfold Bk at h8 ⊢
      rw [HFb.out.block SB h9 HSn.out]; exact h8
     have s0 : wb.cell? ⟨SB,ki,none⟩ = some (.int .i64 v) := hSb.cell ki (by rw [List.getElem?_map,hv]; rfl)
     have u5 : wb.cell? ⟨gc,j * 6 + 5,none⟩ = some (.int .i64 (ki : Int)) := by
      rcases RowX.form cellsX_len HRb.out with ⟨e0,_⟩ | ⟨gc',cap',e1,_,_,_,hcc⟩
      ·exfalso; have t1 := HT1.out; rw [e0] at t1; simp at t1
      ·injection e1 with e1 _ e2; injection e1 with e1; injection e1 with e1; subst e1; exact hcc j _ 5 _ HT1.out rfl
     have f5 : wb.frozen? ⟨gc,j * 6 + 5,none⟩ = false := RowX.frozen_of HRb.out
     clear hv hSb hjx
     go_wp2_with (first | rw [HWb.out,HIb.out] | fail)
     have HRn : Hid (RowC (wb.setCell ⟨gc,j * 6 + 5,none⟩ (.int .i64 v)) lo (.slice (some ⟨gc,0,none⟩) n cap) (ledTo S l (j + 1))) := by
      show RowC _ _ _ _
      rw [HT2.out,HLe.out,HGv.out]; exact RowC.put HRb.out HT1.out 5 _ ⟨op,d,a,b,c,v⟩ (by decide) rfl
     go_roundw
     case rel => exact ⟨j + 1,by omega,by go_num,HRn.out,HFb.out.cell _ _⟩
     case measure => simp [intOf]; omega
    ·have HOp : Hid (¬ (op = 18 ∨ op = 19)) := by show ¬ _; omega
     have e19 : (op == 19) = false := by simpa using h19
     clear h18 h19
     go_wp2_with (first | rw [HWb.out,HIb.out] | fail)
     have HRn : Hid (RowC wb lo (.slice (some ⟨gc,0,none⟩) n cap) (ledTo S l (j + 1))) := by
      show RowC _ _ _ _
      rw [HT2.out,show led S ⟨op,d,a,b,c,imm⟩ = ⟨op,d,a,b,c,imm⟩ from if_neg HOp.out,set_same HT1.out]; exact HRb.out
     go_roundw
     case rel => exact ⟨j + 1,by omega,by go_num,HRn.out,HFb.out⟩
     case measure => simp [intOf]; omega
  ·have hje : j = n := by omega
   subst hje
   have dl : decide ((j : Int) < (j : Int)) = false := decide_eq_false (by omega)
   have HRe : Hid (RowC wr lo (.slice pc j cap) (leadM S l)) := by show RowC _ _ _ _; rw [← ledTo_all,HL.out]; exact hr
   have HF := keep hf
   clear hjl hr hf
   go_wp2_with fail
   go_ret
   exact ⟨rfl,HRe.out,HF.out⟩
end Go.Proofs.Ytfbmkcogkiejnaa.Hg
