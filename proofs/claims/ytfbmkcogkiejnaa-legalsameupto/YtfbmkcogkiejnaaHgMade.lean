/- The maker makes a place, a number: made, two, number. Written by tools/gen_hgmade.py. -/
import Derived.Test.YtfbmkcogkiejnaaHgEmit
namespace Go.Proofs.Ytfbmkcogkiejnaa.Hg
set_option maxHeartbeats 32000000
set_option maxRecDepth 100000
set_option linter.unusedVariables false
set_option linter.unusedSimpArgs false
open Go.ChangeShapes Go.WideShapes Go.ChangeAt Go.RowKit Go.Maps Lg Lr Fl
theorem MkIs.aside {w : World} {lo MB NB : Nat} {T : Nat → Int} {cv sv : Value} {m : Mk} (h : MkIs w lo MB NB T cv sv m) {k : Nat} (hf : Far lo MB NB cv sv k) (j : Nat) (v : Value) : MkIs (w.setCell ⟨k,j,none⟩ v) lo MB NB T cv sv m := by
 have hk : ∀ i,i ≠ k → (w.setCell ⟨k,j,none⟩ v).heap[i]? = w.heap[i]? := fun i h1 => Below.heap_setCell _ _ _ _ h1
 refine ⟨?_,RowX.own_keep (n0 _) h.code (fun i e => hk i (fun x => hf.c (by rw [← x]; exact e))),RowX.own_keep nI h.sec (fun i e => hk i (fun x => hf.s (by rw [← x]; exact e))),h.num.stay (hk NB (Ne.symm hf.n)),h.lo1,h.lo2,h.ne,h.c1,h.c2,h.s1,h.s2,h.cs⟩
 have := h.bk
 unfold Bk at this ⊢
 rw [hk MB (Ne.symm hf.m)]; exact this
theorem orS_step {sec l : List Int} {k : Nat} {p : Int} (h : l[k]? = some p) : orS sec (l.take (k + 1)) = if orS sec (l.take k) = 1 ∨ gI sec p = 1 then 1 else 0 := by
 unfold orS
 rw [List.take_add_one,h,Option.toList_some,List.any_append]
 simp only [List.any_cons,List.any_nil,Bool.or_false,Bool.or_eq_true,beq_iff_eq]
 by_cases h1 : ((l.take k).any fun p => gI sec p == 1) = true
 ·rw [if_pos (.inl h1),if_pos h1,if_pos (.inl rfl)]
 ·rw [if_neg h1]
  by_cases h2 : gI sec p = 1
  ·rw [if_pos (.inr h2),if_pos (.inr h2)]
  ·rw [if_neg (by intro x; rcases x with x | x; exact h1 x; exact h2 x),if_neg (by intro x; rcases x with x | x; cases x; exact h2 x)]
theorem gI_01 {sec : List Int} (h : ∀ s ∈ sec,s = 0 ∨ s = 1) (p : Int) : gI sec p = 0 ∨ gI sec p = 1 := by
 unfold gI
 rw [List.getD_eq_getElem?_getD]
 cases hv : sec[p.toNat]? with
 | none => exact .inl rfl
 | some v => exact h v (List.mem_of_getElem? hv)
theorem sec_cell {w : World} {lo : Nat} {p : Option Addr} {n cap : Nat} {l : List Int} (h : RowI w lo (.slice p n cap) l) {k : Nat} (hk : k < l.length) : ∃ g,p = some ⟨g,0,none⟩ ∧ w.cell? ⟨g,k,none⟩ = some (.int .i64 (gI l (k : Int))) := by
 rcases RowX.form cellsI_len h with ⟨h1,h2⟩ | ⟨g,cap',h1,h2,h3,h4,h5⟩
 ·subst h1; simp at hk
 ·injection h1 with h1
  refine ⟨g,h1,?_⟩
  have hp : l[k]? = some (gI l (k : Int)) := by unfold gI; rw [Int.toNat_natCast,List.getD_eq_getElem?_getD,List.getElem?_eq_getElem hk]; rfl
  have := h5 k _ 0 _ hp rfl
  rw [Nat.mul_one,Nat.add_zero] at this
  exact this
def Wk (lo MB NB : Nat) (T : Nat → Int) (cv sv : Value) (R : Int × Mk) (w : World) (r : Ending) (w' : World) : Prop := ∃ cv' sv',r = .returned (.int .i64 R.1) ∧ MkIs w' lo MB NB T cv' sv' R.2 ∧ MF MB NB cv sv w cv' sv' w'
theorem made_any (lo MB NB : Nat) (T : Nat → Int) (cv sv : Value) (m : Mk) (i : Ix) (w : World) (hlo : lo ≤ w.heap.size) (h : MkIs w lo MB NB T cv sv m) (hT : TabR T) (hg : Gd m) (hr : ∀ p ∈ rds i,0 ≤ p ∧ p < m.sec.length) (hs : m.sec.length + 1 ≤ 200000000) (hc : m.code.length + 1 ≤ 200000000) :
  Calls Try.prog 97 #[.pointer (some ⟨MB,0,none⟩),.agg (ixA i)] w fun r w' => Wk lo MB NB T cv sv (madeM T i m) w r w' := by
 obtain ⟨pS,nS,cS,rfl⟩ := RowX.slice h.sec
 have hnS : nS = m.sec.length := RowX.len h.sec
 subst hnS
 obtain ⟨op,d,a,b,c,imm⟩ := i
 have HRd := keep (reads_any ⟨op,d,a,b,c,imm⟩)
 obtain ⟨rl,hrl⟩ : ∃ y,rds ⟨op,d,a,b,c,imm⟩ = y := ⟨_,rfl⟩
 have hrl5 := rds_len ⟨op,d,a,b,c,imm⟩
 have HEq : Hid (madeM T ⟨op,d,a,b,c,imm⟩ m = ((m.sec.length : Int),⟨(emitM T ⟨op,(m.sec.length : Int),a,b,c,imm⟩ m).code,m.sec ++ [orS m.sec rl],m.nums,(emitM T ⟨op,(m.sec.length : Int),a,b,c,imm⟩ m).shown⟩)) := by show _ = _; rw [← hrl]; rfl
 obtain ⟨w1,hw1⟩ : ∃ y,w.alloc (.cells #[.int .i64 op,.int .i64 d,.int .i64 a,.int .i64 b,.int .i64 c,.int .i64 imm] 35) = y := ⟨_,rfl⟩
 obtain ⟨IB,hIB⟩ : ∃ y,w.heap.size = y := ⟨_,rfl⟩
 have b1 : Below w.heap.size w w1 := by rw [← hw1]; exact (Below.refl _ _).alloc (Nat.le_refl _) _
 have kI : Bk w1 IB [.int .i64 op,.int .i64 d,.int .i64 a,.int .i64 b,.int .i64 c,.int .i64 imm] 35 := by rw [← hw1,← hIB]; exact Bk.new _ _ _
 have h1 := h.below b1
 have HFar := keep (h.far (k:=IB) (by omega))
 have HkI := keep kI
 have HM1 := keep h1
 have HB1 := keep b1
 have HW1 := keep hw1
 have HIB := keep hIB
 have HLo1 : Hid (lo ≤ w1.heap.size) := Nat.le_trans hlo b1.size
 rw [hrl] at hr hrl5
 have HRng := keep hr
 have HG := keep hg
 have HT := keep hT
 have HSz : Hid (m.sec.length + 1 ≤ 200000000 ∧ m.code.length + 1 ≤ 200000000) := ⟨hs,hc⟩
 have HR1 := keep (HRd.out w1)
 unfold RdP at HR1
 rw [hrl] at HR1
 unfold ixA at HR1 ⊢
 dsimp only at HR1 ⊢
 have x0 := kI.cell 0 rfl
 have x1 := kI.cell 1 rfl
 have x2 := kI.cell 2 rfl
 have x3 := kI.cell 3 rfl
 have x4 := kI.cell 4 rfl
 have x5 := kI.cell 5 rfl
 clear hw1 hIB kI b1 h1 h hlo hg hr hs hc hT hrl HRd
 go_enter Try.func97,Try.ntmps97
 go_wp2_with (first | rw [HW1.out] | rw [HIB.out] | fail)
 refine HR1.out.mono ?_
 rintro r w2 ⟨v,rfl,hv,hb2⟩
 obtain ⟨q,nq,cq,rfl,hnq,_,_,hq⟩ := hv
 have HM2 := keep (HM1.out.below hb2)
 have HkI2 := keep (HkI.out.fs (Fs.of_below (l:=[]) hb2) (by simp))
 have HF2 : Hid (MF MB NB cv (.slice pS m.sec.length cS) w cv (.slice pS m.sec.length cS) w2) := MF.of_below (HB1.out.trans (hb2.mono HB1.out.size))
 have HLo2 : Hid (lo ≤ w2.heap.size) := Nat.le_trans HLo1.out hb2.size
 have HNq := keep hnq
 have HQ := keep hq
 have HN5 : Hid (nq ≤ 100) := by show _ ≤ _; omega
 clear hnq hq hb2 HR1 x0 x1 x2 x3 x4 x5 hrl5
 go_wp2_with fail
 go_loopw [11,5] (fun j s wx => ∃ k : Nat,k ≤ nq ∧ j = .int .i64 (k : Int) ∧ s = .int .i64 (orS m.sec (rl.take k)) ∧ wx = w2) (fun j _ _ => nq - (intOf j).toNat)
 case atStart => exact ⟨0,by omega,rfl,rfl,rfl⟩
 case round =>
  obtain ⟨k,hkn,rfl,rfl,rfl⟩ := hrel
  by_cases hkl : k < nq
  ·have d1 : decide ((k : Int) < (nq : Int)) = true := decide_eq_true (by omega)
   have hkz : (k : Int) < (nq : Int) := by omega
   have hk0 : (0 : Int) ≤ (k : Int) := by omega
   have hwr : IntKind.i64.wrap ((k : Int) + 1) = (k : Int) + 1 := by rw [IntKind.wrap_i64]; have := HN5.out; omega
   obtain ⟨p,hp⟩ : ∃ p,rl[k]? = some p := ⟨_,List.getElem?_eq_getElem (by rw [HNq.out]; exact hkl)⟩
   obtain ⟨g,o,rfl,_,hcp⟩ := HQ.out k p hp
   obtain ⟨p0,p1⟩ := HRng.out p (List.mem_of_getElem? hp)
   obtain ⟨kp,rfl⟩ : ∃ k : Nat,p = (k : Int) := ⟨p.toNat,by omega⟩
   obtain ⟨gs,rfl,hcs⟩ := sec_cell HM2.out.sec (k:=kp) (by omega)
   have hM := HM2.out.c18.2.1
   have HSt : Hid (orS m.sec (rl.take (k + 1)) = if orS m.sec (rl.take k) = 1 ∨ gI m.sec (kp : Int) = 1 then 1 else 0) := orS_step hp
   have hx := gI_01 HG.out.sec (kp : Int)
   have hs := orS_01 m.sec (rl.take k)
   clear hp HQ HEq
   obtain ⟨s2,hs2⟩ : ∃ y,orS m.sec (rl.take (k + 1)) = y := ⟨_,rfl⟩
   have HS2 := keep hs2
   rw [hs2] at HSt
   clear hs2
   generalize gI m.sec (kp : Int) = x at *
   generalize orS m.sec (rl.take k) = s at *
   rcases hx with rfl | rfl <;> rcases hs with rfl | rfl
   ·obtain rfl : s2 = 0 := by rw [HSt.out]; simp
    go_wp2
    go_roundw
    case rel => exact ⟨k + 1,by omega,by go_num,by rw [HS2.out]; first | rfl | decide | kernel_rfl,by first | rfl | trivial⟩
    case measure => simp [intOf]; omega
   ·obtain rfl : s2 = 1 := by rw [HSt.out]; simp
    go_wp2
    go_roundw
    case rel => exact ⟨k + 1,by omega,by go_num,by rw [HS2.out]; first | rfl | decide | kernel_rfl,by first | rfl | trivial⟩
    case measure => simp [intOf]; omega
   ·obtain rfl : s2 = 1 := by rw [HSt.out]; simp
    go_wp2
    go_roundw
    case rel => exact ⟨k + 1,by omega,by go_num,by rw [HS2.out]; first | rfl | decide | kernel_rfl,by first | rfl | trivial⟩
    case measure => simp [intOf]; omega
   ·obtain rfl : s2 = 1 := by rw [HSt.out]; simp
    go_wp2
    go_roundw
    case rel => exact ⟨k + 1,by omega,by go_num,by rw [HS2.out]; first | rfl | decide | kernel_rfl,by first | rfl | trivial⟩
    case measure => simp [intOf]; omega
  ·have hke : k = nq := by omega
   subst hke
   have dl : decide ((k : Int) < (k : Int)) = false := decide_eq_false (by omega)
   obtain ⟨s,hs'⟩ : ∃ s,orS m.sec (rl.take k) = s := ⟨_,rfl⟩
   have HS : Hid (orS m.sec rl = s) := by show _ = _; rw [← hs',← HNq.out,List.take_length]
   rw [hs']
   have hM := HM2.out.c18.2.1
   have y1 := HkI2.out.cell 1 rfl
   have z1 := HkI2.out.fr 1
   have hM3 := HM2.out.aside HFar.out 1 (.int .i64 (m.sec.length : Int))
   have HkI3 : Hid (Bk (wr.setCell ⟨IB,1,none⟩ (.int .i64 (m.sec.length : Int))) IB [.int .i64 op,.int .i64 (m.sec.length : Int),.int .i64 a,.int .i64 b,.int .i64 c,.int .i64 imm] 35) := HkI2.out.set 1 _
   have HM3 := keep hM3
   have HF3 : Hid (MF MB NB cv (.slice pS m.sec.length cS) w cv (.slice pS m.sec.length cS) (wr.setCell ⟨IB,1,none⟩ (.int .i64 (m.sec.length : Int)))) := by
    have h2 := HF2.out
    have hsz : (wr.setCell ⟨IB,1,none⟩ (.int .i64 (m.sec.length : Int))).heap.size = wr.heap.size := by simp [World.setCell]
    have hbk : ∀ k,k < w.heap.size → (wr.setCell ⟨IB,1,none⟩ (.int .i64 (m.sec.length : Int))).heap[k]? = wr.heap[k]? := fun k hk => by
     have hne : k ≠ IB := by have h5 := HIB.out; omega
     exact Below.heap_setCell _ _ _ _ hne
    exact ⟨h2.os,h2.tape,h2.output,by rw [hsz]; exact h2.size,fun k hk a1 a2 a3 a4 => by rw [hbk k hk]; exact h2.block k hk a1 a2 a3 a4,h2.cn,h2.sn⟩
   have HLo3 : Hid (lo ≤ (wr.setCell ⟨IB,1,none⟩ (.int .i64 (m.sec.length : Int))).heap.size) := by show _ ≤ _; rw [show (wr.setCell ⟨IB,1,none⟩ (.int .i64 (m.sec.length : Int))).heap.size = wr.heap.size by simp [World.setCell]]; exact HLo2.out
   obtain ⟨w3,hw3⟩ : ∃ y,wr.setCell ⟨IB,1,none⟩ (.int .i64 (m.sec.length : Int)) = y := ⟨_,rfl⟩
   rw [hw3] at HkI3 HM3 HF3 HLo3
   have HEm := keep (emit_any lo MB NB T cv (.slice pS m.sec.length cS) m ⟨op,(m.sec.length : Int),a,b,c,imm⟩ w3 HLo3.out HM3.out HT.out (by have := HSz.out.1; omega) (by have := HSz.out.2; omega))
   unfold ixA at HEm
   dsimp only at HEm
   have HW3 := keep hw3
   clear hw3 hM3 hs' hkl hkn HQ
   have x0 := HkI3.out.cell 0 rfl
   have x1 := HkI3.out.cell 1 rfl
   have x2 := HkI3.out.cell 2 rfl
   have x3 := HkI3.out.cell 3 rfl
   have x4 := HkI3.out.cell 4 rfl
   have x5 := HkI3.out.cell 5 rfl
   go_wp2_with (first | rw [HW3.out] | fail)
   refine HEm.out.mono ?_
   rintro r w4 ⟨rfl,cv',hM4,hF4⟩
   have HM4 := keep hM4
   have HF4 := keep (HF3.out.trans hF4)
   have HkI4 := keep (hF4.far HkI3.out HFar.out)
   have HLo4 : Hid (lo ≤ w4.heap.size) := Nat.le_trans HLo3.out hF4.size
   have HFar4 := keep (HFar.out.step hF4 HkI3.out.lt)
   clear hM4 hF4 HEm x0 x1 x2 x3 x4 x5 hM y1 z1
   have hM := HM4.out.c18.2.1
   have hMf := HM4.out.bk.fr 19
   have x1 := HkI4.out.cell 1 rfl
   obtain ⟨i0,hi0,j0,j1,j2⟩ := info_parts int_info
   obtain ⟨w5,hw5⟩ : ∃ y,w4.alloc (.cells #[.int .i64 s] 3) = y := ⟨_,rfl⟩
   have hb5 : Below w4.heap.size w4 w5 := by rw [← hw5]; exact (Below.refl _ _).alloc (Nat.le_refl _) _
   obtain ⟨g5,hg5⟩ : ∃ y,w4.heap.size = y := ⟨_,rfl⟩
   have kN : Bk w5 g5 [.int .i64 s] 3 := by rw [← hw5,← hg5]; exact Bk.new _ _ _
   have HM5 := keep (HM4.out.below hb5)
   have HkI5 := keep (HkI4.out.fs (Fs.of_below (l:=[]) hb5) (by simp))
   have HLo5 : Hid (lo ≤ w5.heap.size) := Nat.le_trans HLo4.out hb5.size
   have HF5 := keep (HF4.out.trans (MF.of_below hb5))
   have HkN := keep kN
   have HW5 := keep hw5
   have HG5 := keep hg5
   have HOwn := keep (RowX.own HM5.out.sec)
   have HSl : Hid ((emitM T ⟨op,(m.sec.length : Int),a,b,c,imm⟩ m).sec = m.sec) := rfl
   clear hw5 hg5 hb5 kN
   go_wp2_with (first | rw [HW5.out,HG5.out] | (at_builtin; refine wpList_append_lies _ rfl (.tmp 38) (.tmp 40) 30 rfl lo 3 i0 _ 1 8 Try.underlying30 hi0 j0 j1 j2 rfl (by decide) (.slice pS m.sec.length cS) m.sec.length (m.sec.flatMap cellsI) rfl HOwn.out ⟨g5,0,none⟩ 1 1 (cellsI s) rfl rfl (fun j u hj => bk_add HkN.out j u hj) ?c2 (by decide) ?c3 ?c4 HLo5.out w5.heap.size rfl ?_) | fail)
   case c2 =>
    intro u hu
    simp only [cellsI,List.mem_cons,List.not_mem_nil,or_false] at hu
    rw [hu]; rfl
   case c3 => have := HSz.out.1; unfold maxLen; omega
   case c4 => have := HSz.out.1; omega
   intro gz cp w9 hown2 hgrow hat hlt
   obtain ⟨hN,hF⟩ := HM5.out.pushS s hown2 hgrow (by simpa using hat)
   have HN := keep hN
   have HF9 := keep (HF5.out.trans hF)
   have hbM := hgrow.block MB HM5.out.bk.lt (fun e => HM5.out.s1 e.symm)
   have hM1 : w9.cell? ⟨MB,19,none⟩ = some (.slice pS m.sec.length cS) := by rw [World.cell?_of_block hbM]; exact HM5.out.c18.2.1
   have hMf2 : w9.frozen? ⟨MB,19,none⟩ = false := by have h9 := HM5.out.bk; unfold Bk at h9; rw [← hbM] at h9; exact Lib.frozen_of_heap h9 19
   have hkI9 : Bk w9 IB [.int .i64 op,.int .i64 (m.sec.length : Int),.int .i64 a,.int .i64 b,.int .i64 c,.int .i64 imm] 35 := by
    have u2 := HkI5.out
    have hl := u2.lt
    unfold Bk at u2 ⊢
    rw [hgrow.block IB hl (fun e => HFar4.out.s e.symm)]; exact u2
   have hkIf := hkI9.far (j:=MB) 19 (.slice (some ⟨gz,0,none⟩) (m.sec.length + 1) cp) HFar.out.m
   obtain ⟨wf,hwf⟩ : ∃ y,w9.setCell ⟨MB,19,none⟩ (.slice (some ⟨gz,0,none⟩) (m.sec.length + 1) cp) = y := ⟨_,rfl⟩
   rw [hwf] at hkIf
   (try rw [HSl.out] at HN)
   have HNf : Hid (MkIs wf lo MB NB T cv' (.slice (some ⟨gz,0,none⟩) (m.sec.length + 1) cp) ⟨(emitM T ⟨op,(m.sec.length : Int),a,b,c,imm⟩ m).code,m.sec ++ [s],m.nums,(emitM T ⟨op,(m.sec.length : Int),a,b,c,imm⟩ m).shown⟩) := by show MkIs _ _ _ _ _ _ _ _; rw [← hwf]; exact HN.out
   have HFf : Hid (MF MB NB cv (.slice pS m.sec.length cS) w cv' (.slice (some ⟨gz,0,none⟩) (m.sec.length + 1) cp) wf) := by show MF _ _ _ _ _ _ _ _; rw [← hwf]; exact HF9.out
   have HWf := keep hwf
   clear hown2 hgrow hat hlt hN hF hbM hkI9 hwf x1 hM hMf HN HF9
   have x1 := hkIf.cell 1 rfl
   clear hkIf
   go_wp2_with (first | rw [HWf.out] | fail)
   go_ret
   exact ⟨_,_,by rw [HEq.out]; rfl,by rw [HEq.out,HS.out]; exact HNf.out,HFf.out⟩
theorem two_any (lo MB NB : Nat) (T : Nat → Int) (cv sv : Value) (m : Mk) (op a b : Int) (w : World) (hlo : lo ≤ w.heap.size) (h : MkIs w lo MB NB T cv sv m) (hT : TabR T) (hg : Gd m) (ho : 1 ≤ op ∧ op ≤ 12) (ha : 0 ≤ a ∧ a < m.sec.length) (hb : 0 ≤ b ∧ b < m.sec.length) (hs : m.sec.length + 1 ≤ 200000000) (hc : m.code.length + 1 ≤ 200000000) :
  Calls Try.prog 83 #[.pointer (some ⟨MB,0,none⟩),.int .i64 op,.int .i64 a,.int .i64 b] w fun r w' => Wk lo MB NB T cv sv (twoM T op a b m) w r w' := by
 have HC := keep (made_any lo MB NB T cv sv m ⟨op,0,a,b,0,0⟩ w hlo h hT hg (fun p hp => by rw [rds_two (i:=⟨op,0,a,b,0,0⟩) ho] at hp; simp at hp; rcases hp with rfl | rfl <;> assumption) hs hc)
 unfold ixA at HC
 dsimp only at HC
 unfold twoM
 obtain ⟨R,hR⟩ : ∃ R,madeM T ⟨op,0,a,b,0,0⟩ m = R := ⟨_,rfl⟩
 rw [hR] at HC ⊢
 clear hR h hT hg ho ha hb hs hc hlo
 go_enter Try.func83,Try.ntmps83
 go_wp2_with fail
 refine HC.out.mono ?_
 rintro r w2 ⟨cv',sv',rfl,hM,hF⟩
 have HM := keep hM
 have HF := keep hF
 clear hM hF HC
 go_wp2
 go_ret
 exact ⟨_,_,rfl,HM.out,HF.out⟩
theorem num_any (lo MB NB : Nat) (T : Nat → Int) (cv sv : Value) (m : Mk) (n : Int) (w : World) (hlo : lo ≤ w.heap.size) (h : MkIs w lo MB NB T cv sv m) (hT : TabR T) (hg : Gd m) (hn : 0 ≤ n ∧ n ≤ 100) (hk : m.nums.length ≤ 100000) (hs : m.sec.length + 1 ≤ 200000000) (hc : m.code.length + 1 ≤ 200000000) :
  Calls Try.prog 85 #[.pointer (some ⟨MB,0,none⟩),.int .i64 n] w fun r w' => Wk lo MB NB T cv sv (numM T n m) w r w' := by
 have hN : isN n := by unfold isN; omega
 have hl := h.num.look n hN
 have hm := h.c18.2.2.1
 have HMI := keep h
 have HC := keep (made_any lo MB NB T cv sv m ⟨14,0,0,0,0,n⟩ w hlo h hT hg (fun p hp => by unfold rds at hp; simp at hp) hs hc)
 unfold ixA at HC
 dsimp only at HC
 cases hq : m.nums.lookup n with
 | some p =>
  rw [hq] at hl
  have HE : Hid (numM T n m = (p,m)) := by show _ = _; unfold numM; rw [hq]
  clear hq h hT hg hs hc hlo hN HC
  go_enter Try.func85,Try.ntmps85
  go_wp2
  go_ret
  exact ⟨cv,sv,by rw [HE.out]; rfl,by rw [HE.out]; exact HMI.out,MF.refl _ _ _ _ _⟩
 | none =>
  rw [hq] at hl
  obtain ⟨R,hR⟩ : ∃ R,madeM T ⟨14,0,0,0,0,n⟩ m = R := ⟨_,rfl⟩
  have hst := made_stp T ⟨14,0,0,0,0,n⟩ hg
  rw [hR] at HC hst
  have HE : Hid (numM T n m = (R.1,⟨R.2.code,R.2.sec,(n,R.1) :: R.2.nums,R.2.shown⟩)) := by show _ = _; unfold numM; rw [hq,← hR]
  have hRn : R.2.nums = m.nums := by rw [← hR]; rfl
  have HRn := keep hRn
  have HR1 : Hid (isN R.1) := by
   have h0 := hst.p0
   have h1 := hst.p1
   obtain ⟨S,e1,e2⟩ := hst.s
   have := congrArg List.length e1
   rw [List.length_append] at this
   show 0 ≤ R.1 ∧ R.1 ≤ _
   omega
  have HNn := keep hN
  have HK := keep hk
  clear hq h hT hg hs hc hlo hN hR hst hRn hk
  go_enter Try.func85,Try.ntmps85
  go_wp2_with fail
  refine HC.out.mono ?_
  rintro r w2 ⟨cv',sv',rfl,hM,hF⟩
  have hmap := hM.num
  obtain ⟨w3,hrun,hput,hgr⟩ := hmap.put n R.1 HNn.out HR1.out (by rw [HRn.out]; have := HK.out; unfold maxLen; omega)
  obtain ⟨hM3,hF3⟩ := hM.setNum (l:=(n,R.1) :: R.2.nums) hput hgr
  have hm2 := hM.c18.2.2.1
  have HM3 := keep hM3
  have HF3 := keep (hF.trans hF3)
  clear hM hF hmap hput hgr hM3 hF3 HC hl hm
  go_wp2
  go_ret
  exact ⟨_,_,by rw [HE.out]; rfl,by rw [HE.out]; exact HM3.out,HF3.out⟩
end Go.Proofs.Ytfbmkcogkiejnaa.Hg
