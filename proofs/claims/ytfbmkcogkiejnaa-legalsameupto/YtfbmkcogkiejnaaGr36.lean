/- Laid together: HgBegin, HgLab. -/
import Derived.Test.YtfbmkcogkiejnaaHgLegal
namespace Go.Proofs.Ytfbmkcogkiejnaa.Hg
set_option maxHeartbeats 32000000
set_option maxRecDepth 100000
set_option linter.unusedVariables false
set_option linter.unusedSimpArgs false
open Go.ChangeShapes Go.WideShapes Go.ChangeAt Go.RowKit Go.Maps Lg Lr Fl
def s01 (b : Bool) : Int := if b then 1 else 0
def mk0 (l : List Bool) : Mk := ⟨[],l.map s01,[],false⟩
def Wb (T : Nat → Int) (l : List Bool) (w : World) (r : Ending) (w' : World) : Prop := ∃ lo MB NB sv,r = .returned (.pointer (some ⟨MB,0,none⟩)) ∧ w.heap.size ≤ lo ∧ lo ≤ w'.heap.size ∧ MkIs w' lo MB NB T (.slice none 0 0) sv (mk0 l) ∧ Below w.heap.size w w'
theorem begin_any (B : Nat) (f : Fx) (s1 s2 s3 : Value) (T : Nat → Int) (w : World) (hB : B ≤ w.heap.size) (h : FxIs w B f s1 s2 s3) (hn : f.sec.length ≤ 1048576) : Calls Try.prog 49 #[.agg (fxA f s1 s2 s3),.agg (Tb.tabA T)] w fun r w' => Wb T f.sec w r w' := by
 obtain ⟨p1,n1,c1,hs1,hx1⟩ := id h.code
 obtain ⟨p2,n2,c2,hs2,hx2⟩ := id h.sec
 obtain ⟨p3,n3,c3,hs3,hx3⟩ := id h.arrs
 subst hs1 hs2 hs3
 have HSec := keep h.sec
 have HN := keep hn
 obtain ⟨pr,hpr⟩ : ∃ k : Int,f.params = k := ⟨f.params,rfl⟩
 obtain ⟨w1,hw1⟩ : ∃ y,w.alloc (.cells #[.slice p1 n1 c1,.slice p2 n2 c2,.int .i64 pr,.slice p3 n3 c3] 26) = y := ⟨_,rfl⟩
 obtain ⟨w2,hw2⟩ : ∃ y,w1.alloc (.cells (Tb.tabA T) 29) = y := ⟨_,rfl⟩
 obtain ⟨FB,hFB⟩ : ∃ y,w.heap.size = y := ⟨_,rfl⟩
 obtain ⟨TB,hTB⟩ : ∃ y,w1.heap.size = y := ⟨_,rfl⟩
 have b1 : Below w.heap.size w w1 := by rw [← hw1]; exact (Below.refl _ _).alloc (Nat.le_refl _) _
 have b2' : Below w1.heap.size w1 w2 := by rw [← hw2]; exact (Below.refl _ _).alloc (Nat.le_refl _) _
 have b2 : Below w.heap.size w w2 := b1.trans (b2'.mono b1.size)
 have kF1 : Bk w1 FB [.slice p1 n1 c1,.slice p2 n2 c2,.int .i64 pr,.slice p3 n3 c3] 26 := by rw [← hw1,← hFB]; exact Bk.new _ _ _
 have kF := kF1.fs (Fs.of_below (l:=[]) b2') (by simp)
 have kT : Bk w2 TB (tabL T) 29 := by rw [← hw2,← hTB]; exact Bk.new _ _ _
 have HkF := keep kF
 have HkT := keep kT
 have HB2 := keep b2
 have HW1 := keep hw1
 have HW2 := keep hw2
 have HFB := keep hFB
 have HTB := keep hTB
 have HT : Hid (w2.heap[TB]? = some (.cells (Tb.tabA T) 29)) := kT
 have hmm := @run_makeMap Try.prog
 obtain ⟨w3,hw3⟩ : ∃ y,w2.alloc (.map #[] 0) = y := ⟨_,rfl⟩
 obtain ⟨NB,hNB⟩ : ∃ y,w2.heap.size = y := ⟨_,rfl⟩
 have b3 : Below w2.heap.size w2 w3 := by rw [← hw3]; exact (Below.refl _ _).alloc (Nat.le_refl _) _
 obtain ⟨w4,hw4⟩ : ∃ y,w3.alloc (.cells #[.int .i64 (T 0),.int .i64 (T 1),.int .i64 (T 2),.int .i64 (T 3),.int .i64 (T 4),.int .i64 (T 5),.int .i64 (T 6),.int .i64 (T 7),.int .i64 (T 8),.int .i64 (T 9),.int .i64 (T 10),.int .i64 (T 11),.int .i64 (T 12),.int .i64 (T 13),.int .i64 (T 14),.int .i64 (T 15),.int .i64 (T 16),.int .i64 (T 17),.slice none 0 0,.slice none 0 0,.map (some NB),.bool false] 98) = y := ⟨_,rfl⟩
 obtain ⟨MB,hMB⟩ : ∃ y,w3.heap.size = y := ⟨_,rfl⟩
 have b4 : Below w3.heap.size w3 w4 := by rw [← hw4]; exact (Below.refl _ _).alloc (Nat.le_refl _) _
 have hz : MapZ w3 NB 0 [] := by rw [← hw3,← hNB]; exact MapZ.nil w2
 have hs3' : w2.heap.size < w3.heap.size := by rw [← hw3]; simp
 have h02 := b2.size
 have kM : Bk w4 MB (tabL T ++ [.slice none 0 0,.slice none 0 0,.map (some NB),.bool false]) 98 := by rw [← hw4,← hMB]; exact Bk.new _ (tabL T ++ [.slice none 0 0,.slice none 0 0,.map (some NB),.bool false]) _
 have hM4 : MkIs w4 NB MB NB T (.slice none 0 0) (.slice none 0 0) ⟨[],[],[],false⟩ := ⟨kM,RowX.nil _ _,RowX.nil _ _,hz.stay (b4.block NB (by omega)),by omega,by omega,by omega,fun e => (by cases e),fun e => (by cases e),fun e => (by cases e),fun e => (by cases e),fun k e => (by cases e)⟩
 have b24 : Below w2.heap.size w2 w4 := b3.trans (b4.mono b3.size)
 have HM4 := keep hM4
 have HB4 := keep (b2.trans (b24.mono b2.size))
 have HkF4 := keep (kF.fs (Fs.of_below (l:=[]) b24) (by simp))
 have HW3 := keep hw3
 have HW4 := keep hw4
 have HNB := keep hNB
 have HMB := keep hMB
 have HFM : Hid (FB < NB ∧ FB < MB ∧ w.heap.size ≤ FB) := ⟨by have := kF.lt; omega,by have := kF.lt; omega,by omega⟩
 have HBw : Hid (B ≤ w.heap.size) := hB
 unfold fxA
 rw [hpr]
 have HNe : Hid (f.sec.length = n2) := hx2.1
 have HNn : Hid (n2 ≤ 1048576) := by show _ ≤ _; rw [← hx2.1]; exact hn
 have HSx := keep hx2.2.2.2
 clear hx1 hx2 hx3 h hn hpr hw1 hw2 hFB hTB b1 b2' b2 kF1 kF kT hw3 hNB b3 hw4 hMB b4 hz hs3' h02 kM hM4 b24
 have x1 := HkF4.out.cell 1 rfl
 go_enter Try.func49,Try.ntmps49
 go_wp2_with (first | rw [HW1.out] | rw [HW2.out] | rw [HFB.out] | rw [HTB.out] | rw [HW3.out] | rw [HNB.out] | rw [HW4.out] | rw [HMB.out] | (refine Tb.load_tab rfl _ rfl TB rfl T HT.out ?_) | fail)
 go_loopw [15] (fun i wx => ∃ (j : Nat) (sv : Value),j ≤ n2 ∧ i = .int .i64 (j : Int) ∧ MkIs wx NB MB NB T (.slice none 0 0) sv ⟨[],(f.sec.take j).map s01,[],false⟩ ∧ Below w.heap.size w wx ∧ Bk wx FB [.slice p1 n1 c1,.slice p2 n2 c2,.int .i64 pr,.slice p3 n3 c3] 26) (fun i _ => n2 - (intOf i).toNat)
 case atStart => exact ⟨0,_,by omega,rfl,HM4.out,HB4.out,HkF4.out⟩
 case round =>
  obtain ⟨j,sv,hjn,rfl,hm,hb,hk⟩ := hrel
  by_cases hjl : j < n2
  ·have d1 : decide ((j : Int) < (n2 : Int)) = true := decide_eq_true (by omega)
   have hjz : (j : Int) < (n2 : Int) := by omega
   have hj0 : (0 : Int) ≤ (j : Int) := by omega
   have hwr : IntKind.i64.wrap ((j : Int) + 1) = (j : Int) + 1 := by have := HNn.out; rw [IntKind.wrap_i64]; omega
   obtain ⟨L,hL⟩ : ∃ y,(f.sec.take j).map s01 = y := ⟨_,rfl⟩
   have HLl : Hid (L.length = j) := by show _ = _; rw [← hL,List.length_map,List.length_take]; have := HNe.out; omega
   rw [hL] at hm
   obtain ⟨pS,nS,cS,rfl⟩ := RowX.slice hm.sec
   have hnS : nS = L.length := RowX.len hm.sec
   subst hnS
   obtain ⟨x,hx⟩ : ∃ x,f.sec[j]? = some x := ⟨_,List.getElem?_eq_getElem (by rw [HNe.out]; exact hjl)⟩
   have HTk : Hid (f.sec.take (j + 1) = f.sec.take j ++ [x]) := by show _ = _; rw [List.take_add_one,hx]; rfl
   obtain ⟨g,o,hp,hgB,hc0⟩ := HSx.out j x hx
   subst hp
   have hc : wr.cell? ⟨g,o + j,none⟩ = some (.bool x) := by rw [cell_below hb (Nat.lt_of_lt_of_le hgB HBw.out)]; exact hc0
   have hM := hm.c18.2.1
   have HFs : Hid ((Value.slice pS L.length cS).ownBlock ≠ some FB) := fun e => by have h8 := ((RowX.own hm.sec).lt FB e).1; have := HFM.out; omega
   obtain ⟨i0,hi0,j0,j1,j2⟩ := info_parts int_info
   clear hx hc0 hgB HSx hjl
   cases x with
   | true =>
    have HL2 : Hid ((f.sec.take (j + 1)).map s01 = L ++ [1]) := by show _ = _; rw [← hL,HTk.out,List.map_append]; rfl
    obtain ⟨w5,hw5⟩ : ∃ y,wr.alloc (.cells #[.int .i64 1] 3) = y := ⟨_,rfl⟩
    have hb5 : Below wr.heap.size wr w5 := by rw [← hw5]; exact (Below.refl _ _).alloc (Nat.le_refl _) _
    obtain ⟨g5,hg5⟩ : ∃ y,wr.heap.size = y := ⟨_,rfl⟩
    have kN : Bk w5 g5 [.int .i64 1] 3 := by rw [← hw5,← hg5]; exact Bk.new _ _ _
    have HM5 := keep (hm.below hb5)
    have HB5 := keep (hb.trans (hb5.mono hb.size))
    have HkF5 := keep (hk.fs (Fs.of_below (l:=[]) hb5) (by simp))
    have HkN := keep kN
    have HW5 := keep hw5
    have HG5 := keep hg5
    have HOwn := keep (RowX.own HM5.out.sec)
    have HLo5 : Hid (NB ≤ w5.heap.size) := Nat.le_of_lt HM5.out.num.lt
    clear hw5 hg5 hb5 kN hL hm hb hk
    go_wp2_with (first | rw [HW5.out,HG5.out] | (at_builtin; refine wpList_append_lies _ rfl (.tmp 24) (.tmp 25) 30 rfl NB 3 i0 _ 1 8 Try.underlying30 hi0 j0 j1 j2 rfl (by decide) (.slice pS L.length cS) L.length (L.flatMap cellsI) rfl HOwn.out ⟨g5,0,none⟩ 1 1 (cellsI 1) rfl rfl (fun j u hj => bk_add HkN.out j u hj) ?c2 (by decide) ?c3 ?c4 HLo5.out w5.heap.size rfl ?_) | fail)
    case c2 =>
     intro u hu
     simp only [cellsI,List.mem_cons,List.not_mem_nil,or_false] at hu
     rw [hu]; rfl
    case c3 => have := HLl.out; have := HNn.out; unfold maxLen; omega
    case c4 => have := HLl.out; have := HNn.out; omega
    intro gz cp w9 hown2 hgrow hat hlt
    obtain ⟨hN,hF⟩ := HM5.out.pushS 1 hown2 hgrow (by simpa using hat)
    have HN9 := keep hN
    have hbM := hgrow.block MB HM5.out.bk.lt (fun e => HM5.out.s1 e.symm)
    have hM1 : w9.cell? ⟨MB,19,none⟩ = some (.slice pS L.length cS) := by rw [World.cell?_of_block hbM]; exact HM5.out.c18.2.1
    have hMf2 : w9.frozen? ⟨MB,19,none⟩ = false := by have h9 := HM5.out.bk; unfold Bk at h9; rw [← hbM] at h9; exact Lib.frozen_of_heap h9 19
    have HFf : Hid (MF MB NB (.slice none 0 0) (.slice pS L.length cS) w5 (.slice none 0 0) (.slice (some ⟨gz,0,none⟩) (L.length + 1) cp) (w9.setCell ⟨MB,19,none⟩ (.slice (some ⟨gz,0,none⟩) (L.length + 1) cp))) := hF
    have HOs : Hid (∀ k,(Value.slice pS L.length cS).ownBlock = some k → NB ≤ k) := fun k e => ((RowX.own HM5.out.sec).lt k e).1
    clear hown2 hgrow hat hlt hN hF hbM
    go_wp2
    go_roundw
    case rel =>
     refine ⟨j + 1,_,by omega,by go_num,by rw [HL2.out]; exact HN9.out,?_,?_⟩
     ·have h1 := HFf.out
      exact HB5.out.trans ⟨h1.os,h1.tape,h1.output,Nat.le_trans (Nat.le_refl _) h1.size,fun k hk => h1.block k (Nat.lt_of_lt_of_le hk HB5.out.size) (by have := HFM.out; omega) (by have := HFM.out; omega) (fun e => by cases e) (fun e => by have h7 := HOs.out k e; have h8 := HFM.out; omega)⟩
     ·exact HFf.out.fs HkF5.out (by have := HFM.out; omega) (by have := HFM.out; omega) (fun e => by cases e) (fun e => HFs.out e)
    case measure => simp [intOf]; omega
   | false =>
    have HL2 : Hid ((f.sec.take (j + 1)).map s01 = L ++ [0]) := by show _ = _; rw [← hL,HTk.out,List.map_append]; rfl
    obtain ⟨w5,hw5⟩ : ∃ y,wr.alloc (.cells #[.int .i64 0] 3) = y := ⟨_,rfl⟩
    have hb5 : Below wr.heap.size wr w5 := by rw [← hw5]; exact (Below.refl _ _).alloc (Nat.le_refl _) _
    obtain ⟨g5,hg5⟩ : ∃ y,wr.heap.size = y := ⟨_,rfl⟩
    have kN : Bk w5 g5 [.int .i64 0] 3 := by rw [← hw5,← hg5]; exact Bk.new _ _ _
    have HM5 := keep (hm.below hb5)
    have HB5 := keep (hb.trans (hb5.mono hb.size))
    have HkF5 := keep (hk.fs (Fs.of_below (l:=[]) hb5) (by simp))
    have HkN := keep kN
    have HW5 := keep hw5
    have HG5 := keep hg5
    have HOwn := keep (RowX.own HM5.out.sec)
    have HLo5 : Hid (NB ≤ w5.heap.size) := Nat.le_of_lt HM5.out.num.lt
    clear hw5 hg5 hb5 kN hL hm hb hk
    go_wp2_with (first | rw [HW5.out,HG5.out] | (at_builtin; refine wpList_append_lies _ rfl (.tmp 33) (.tmp 34) 30 rfl NB 3 i0 _ 1 8 Try.underlying30 hi0 j0 j1 j2 rfl (by decide) (.slice pS L.length cS) L.length (L.flatMap cellsI) rfl HOwn.out ⟨g5,0,none⟩ 1 1 (cellsI 0) rfl rfl (fun j u hj => bk_add HkN.out j u hj) ?c2 (by decide) ?c3 ?c4 HLo5.out w5.heap.size rfl ?_) | fail)
    case c2 =>
     intro u hu
     simp only [cellsI,List.mem_cons,List.not_mem_nil,or_false] at hu
     rw [hu]; rfl
    case c3 => have := HLl.out; have := HNn.out; unfold maxLen; omega
    case c4 => have := HLl.out; have := HNn.out; omega
    intro gz cp w9 hown2 hgrow hat hlt
    obtain ⟨hN,hF⟩ := HM5.out.pushS 0 hown2 hgrow (by simpa using hat)
    have HN9 := keep hN
    have hbM := hgrow.block MB HM5.out.bk.lt (fun e => HM5.out.s1 e.symm)
    have hM1 : w9.cell? ⟨MB,19,none⟩ = some (.slice pS L.length cS) := by rw [World.cell?_of_block hbM]; exact HM5.out.c18.2.1
    have hMf2 : w9.frozen? ⟨MB,19,none⟩ = false := by have h9 := HM5.out.bk; unfold Bk at h9; rw [← hbM] at h9; exact Lib.frozen_of_heap h9 19
    have HFf : Hid (MF MB NB (.slice none 0 0) (.slice pS L.length cS) w5 (.slice none 0 0) (.slice (some ⟨gz,0,none⟩) (L.length + 1) cp) (w9.setCell ⟨MB,19,none⟩ (.slice (some ⟨gz,0,none⟩) (L.length + 1) cp))) := hF
    have HOs : Hid (∀ k,(Value.slice pS L.length cS).ownBlock = some k → NB ≤ k) := fun k e => ((RowX.own HM5.out.sec).lt k e).1
    clear hown2 hgrow hat hlt hN hF hbM
    go_wp2
    go_roundw
    case rel =>
     refine ⟨j + 1,_,by omega,by go_num,by rw [HL2.out]; exact HN9.out,?_,?_⟩
     ·have h1 := HFf.out
      exact HB5.out.trans ⟨h1.os,h1.tape,h1.output,Nat.le_trans (Nat.le_refl _) h1.size,fun k hk => h1.block k (Nat.lt_of_lt_of_le hk HB5.out.size) (by have := HFM.out; omega) (by have := HFM.out; omega) (fun e => by cases e) (fun e => by have h7 := HOs.out k e; have h8 := HFM.out; omega)⟩
     ·exact HFf.out.fs HkF5.out (by have := HFM.out; omega) (by have := HFM.out; omega) (fun e => by cases e) (fun e => HFs.out e)
    case measure => simp [intOf]; omega
  ·have hje : j = n2 := by omega
   subst hje
   have dl : decide ((j : Int) < (j : Int)) = false := decide_eq_false (by omega)
   have HEe : Hid (f.sec.take j = f.sec) := by show _ = _; rw [← HNe.out,List.take_length]
   have HM9 : Hid (MkIs wr NB MB NB T (.slice none 0 0) sv (mk0 f.sec)) := by show MkIs _ _ _ _ _ _ _ _; rw [HEe.out] at hm; exact hm
   have HB9 := keep hb
   clear hm hb hk hjl
   go_wp2
   go_ret
   exact ⟨NB,MB,NB,sv,rfl,by have := HFM.out; omega,Nat.le_of_lt HM9.out.num.lt,HM9.out,HB9.out⟩
theorem make_bools (n : Nat) (hn : n ≤ 17592186044416) (w : World) : (Instr.makeSlice 23 (.int .i64 (n : Int)) (.int .i64 (n : Int))).run Try.prog w = .ok (.slice (some ⟨w.heap.size,0,none⟩) n n) (w.alloc (.cells (Array.replicate n (Value.bool false)) 4)) := by
 obtain ⟨i,hi,hz0,hz1,hz2⟩ := info_parts info_B
 have h := run_make (P:=Try.prog) w 23 4 i (.bool false) (by kernel_rfl) hi hz0 .i64 .i64 (n : Int) (n : Int) (by omega) (Int.le_refl _) (by rw [hz2]; omega) (by omega)
 rw [h,hz1,Int.toNat_natCast,Nat.mul_one]
 have e : madeCells (Value.bool false).cells n = Array.replicate n (Value.bool false) := by
  apply Array.toList_inj.1
  rw [Array.toList_replicate]
  exact toList_madeCells_one _ n
 rw [e]
def is1 (l : List Int) : List Bool := l.map (fun s => s == 1)
def labL (l : List Int) (j : Nat) : List Value := ((is1 (l.take j)).map Value.bool) ++ List.replicate (l.length - j) (Value.bool false)
theorem labL_zero (l : List Int) : labL l 0 = List.replicate l.length (Value.bool false) := by unfold labL is1; simp
theorem labL_all (l : List Int) : labL l l.length = (is1 l).map Value.bool := by unfold labL; rw [List.take_length,Nat.sub_self]; simp
theorem labL_step (l : List Int) (j : Nat) (x : Int) (hx : l[j]? = some x) : (labL l j).set j (.bool (x == 1)) = labL l (j + 1) ∧ (labL l j)[j]? = some (.bool false) := by
 have hlt := (List.getElem?_eq_some_iff.1 hx).1
 have hl : ((is1 (l.take j)).map Value.bool).length = j := by unfold is1; rw [List.length_map,List.length_map,List.length_take]; omega
 unfold labL
 rw [show l.length - j = (l.length - (j + 1)) + 1 by omega,List.replicate_succ]
 refine ⟨?_,?_⟩
 ·rw [List.set_append_right _ _ (by omega),hl,Nat.sub_self,List.set_cons_zero,List.take_add_one,hx]
  unfold is1
  rw [List.map_append,List.map_append,List.append_assoc]; rfl
 ·rw [List.getElem?_append_right (by omega),hl,Nat.sub_self]; rfl
def Wlb (l : List Int) (w : World) (r : Ending) (w' : World) : Prop := r = .returned (.slice (some ⟨w.heap.size,0,none⟩) l.length l.length) ∧ Bk w' w.heap.size ((is1 l).map Value.bool) 4 ∧ Below w.heap.size w w'
theorem labels_any {lo MB NB : Nat} {T : Nat → Int} {cv sv : Value} {m : Mk} {w : World} (h : MkIs w lo MB NB T cv sv m) (hs : m.sec.length ≤ 200000000) : Calls Try.prog 53 #[.pointer (some ⟨MB,0,none⟩)] w fun r w' => Wlb m.sec w r w' := by
 obtain ⟨px,nx,cx,hv,hlx,hcx,hnx,hqx⟩ := sec_ints h.sec (by omega)
 subst hv
 obtain ⟨l,hl⟩ : ∃ y,m.sec = y := ⟨_,rfl⟩
 rw [hl] at hlx hqx hs ⊢
 have HL := keep hlx
 have HQ := keep hqx
 have HNx : Hid (nx ≤ 200000000) := by show _ ≤ _; omega
 have hM := h.c18.2.1
 have hlM := h.bk.lt
 have hmk := make_bools nx (by have := HNx.out; omega)
 obtain ⟨LB,hLB⟩ : ∃ y,w.heap.size = y := ⟨_,rfl⟩
 obtain ⟨w1,hw1⟩ : ∃ y,w.alloc (.cells (Array.replicate nx (Value.bool false)) 4) = y := ⟨_,rfl⟩
 have b1 : Below w.heap.size w w1 := by rw [← hw1]; exact (Below.refl _ _).alloc (Nat.le_refl _) _
 have k1 : Bk w1 LB (labL l 0) 4 := by rw [labL_zero,HL.out,← hw1,← hLB]; exact Bk.rep _ _ _ _
 have HK1 := keep k1
 have HB1 := keep b1
 have HM1 := keep (h.below b1)
 have HLB := keep hLB
 have HW1 := keep hw1
 have HM1c : w1.cell? ⟨MB,19,none⟩ = some (.slice px nx cx) := HM1.out.c18.2.1
 have HPost : Hid (∀ w',Bk w' LB ((is1 l).map Value.bool) 4 → Below w.heap.size w w' → Wlb l w (.returned (.slice (some ⟨LB,0,none⟩) nx nx)) w') := fun w' q1 q2 => ⟨by rw [HLB.out,HL.out],by rw [HLB.out]; exact q1,q2⟩
 have hz1 : (0 : Int) ≤ (nx : Int) := by omega
 clear hlx hqx hl hs hw1 b1 k1 hLB h hcx hnx hlM
 go_enter Try.func53,Try.ntmps53
 go_wp2_with (first | rw [hmk] | rw [HW1.out] | rw [HLB.out] | fail)
 go_loopw [17] (fun i wx => ∃ j : Nat,j ≤ nx ∧ i = .int .i64 (j : Int) ∧ Bk wx LB (labL l j) 4 ∧ Below w.heap.size w wx) (fun i _ => nx - (intOf i).toNat)
 case atStart => exact ⟨0,by omega,rfl,HK1.out,HB1.out⟩
 case round =>
  obtain ⟨j,hjn,rfl,hk,hb⟩ := hrel
  by_cases hjl : j < nx
  ·have d1 : decide ((j : Int) < (nx : Int)) = true := decide_eq_true (by omega)
   have hjz : (j : Int) < (nx : Int) := by omega
   have hj0 : (0 : Int) ≤ (j : Int) := by omega
   have hwr : IntKind.i64.wrap ((j : Int) + 1) = (j : Int) + 1 := by have := HNx.out; rw [IntKind.wrap_i64]; omega
   obtain ⟨x,hx⟩ : ∃ x,l[j]? = some x := ⟨_,List.getElem?_eq_getElem (by rw [HL.out]; exact hjl)⟩
   have HSt : Hid ((labL l j).set j (.bool (x == 1)) = labL l (j + 1)) := (labL_step l j x hx).1
   obtain ⟨g,o,rfl,hgB,hc0⟩ := HQ.out j x hx
   have hc : wr.cell? ⟨g,o + j,none⟩ = some (.int .i64 x) := by rw [cell_below hb hgB]; exact hc0
   have hy := hk.cell j (labL_step l j x hx).2
   have hyf := hk.fr j
   have HK := keep hk
   have HB := keep hb
   clear hx hc0 hgB hk hb hjl hM HM1c
   by_cases h1 : x = 1
   ·subst h1
    have HE : Hid ((labL l j).set j (.bool true) = labL l (j + 1)) := by show _ = _; rw [← HSt.out]; rfl
    have HKn := keep (HK.out.set j (.bool true))
    go_wp2
    go_roundw
    case rel => exact ⟨j + 1,by omega,by go_num,by rw [← HE.out]; exact HKn.out,HB.out.setCell (p:=⟨LB,j,none⟩) (by have := HLB.out; show _ ≤ LB; omega) _⟩
    case measure => simp [intOf]; omega
   ·have hne : (x == 1) = false := by simpa using h1
    have HE : Hid ((labL l j).set j (.bool false) = labL l (j + 1)) := by show _ = _; rw [← HSt.out]; rw [hne]
    have HKn := keep (HK.out.set j (.bool false))
    go_wp2
    go_roundw
    case rel => exact ⟨j + 1,by omega,by go_num,by rw [← HE.out]; exact HKn.out,HB.out.setCell (p:=⟨LB,j,none⟩) (by have := HLB.out; show _ ≤ LB; omega) _⟩
    case measure => simp [intOf]; omega
  ·have hje : j = nx := by omega
   subst hje
   have dl : decide ((j : Int) < (j : Int)) = false := decide_eq_false (by omega)
   have HKe : Hid (Bk wr LB ((is1 l).map Value.bool) 4) := by show Bk _ _ _ _; rw [← labL_all,HL.out]; exact hk
   have HB := keep hb
   clear hjl hk hb hM HM1c
   go_wp2
   go_ret
   exact HPost.out _ HKe.out HB.out
theorem RowC.cut0 {w : World} {lo n cap g : Nat} {l : List Ix} (h : RowC w lo (.slice (some ⟨g,0,none⟩) n cap) l) : RowC w lo (.slice (some ⟨g,0,none⟩) 0 cap) [] := by
 refine ⟨?_,fun p _ => trivial⟩
 obtain ⟨h1,h2⟩ := h.own
 rcases h2 with ⟨h2,_⟩ | ⟨g',cap',cur,a1,a2,a3,a4,a5,a6,a7⟩
 ·cases h2
 ·have e : g = g' ∧ cap = cap' := by
   injection a1 with a1 _ a2
   injection a1 with a1
   injection a1 with a1
   exact ⟨a1,a2⟩
  obtain ⟨rfl,rfl⟩ := e
  exact ⟨by simp,.inr ⟨g,cap,cur,rfl,a2,a3,Nat.zero_le _,a5,a6,by simp⟩⟩
def Wf (lo MB NB : Nat) (T : Nat → Int) (cv sv : Value) (m : Mk) (k : Nat) (w : World) (r : Ending) (w' : World) : Prop := ∃ cv' sv',r = .returned (.tuple #[]) ∧ MkIs w' lo MB NB T cv' sv' ⟨[],m.sec.take k,m.nums,m.shown⟩ ∧ MF MB NB cv sv w cv' sv' w'
theorem MkIs.lose {w : World} {lo MB NB n cap gc k cs : Nat} {ps : Option Addr} {T : Nat → Int} {m : Mk} (h : MkIs w lo MB NB T (.slice (some ⟨gc,0,none⟩) n cap) (.slice ps m.sec.length cs) m) (hk : k ≤ m.sec.length) :
  MkIs ((w.setCell ⟨MB,18,none⟩ (.slice (some ⟨gc,0,none⟩) 0 cap)).setCell ⟨MB,19,none⟩ (.slice ps k cs)) lo MB NB T (.slice (some ⟨gc,0,none⟩) 0 cap) (.slice ps k cs) ⟨[],m.sec.take k,m.nums,m.shown⟩ ∧ MF MB NB (.slice (some ⟨gc,0,none⟩) n cap) (.slice ps m.sec.length cs) w (.slice (some ⟨gc,0,none⟩) 0 cap) (.slice ps k cs) ((w.setCell ⟨MB,18,none⟩ (.slice (some ⟨gc,0,none⟩) 0 cap)).setCell ⟨MB,19,none⟩ (.slice ps k cs)) := by
 obtain ⟨w1,hw1⟩ : ∃ y,w.setCell ⟨MB,18,none⟩ (.slice (some ⟨gc,0,none⟩) 0 cap) = y := ⟨_,rfl⟩
 have k1 : ∀ j,j ≠ MB → w1.heap[j]? = w.heap[j]? := fun j hj => by rw [← hw1]; exact Below.heap_setCell _ _ _ _ hj
 have hs1 : w1.heap.size = w.heap.size := by rw [← hw1]; simp [World.setCell]
 have hb1 : Bk w1 MB (tabL T ++ [.slice (some ⟨gc,0,none⟩) 0 cap,.slice ps m.sec.length cs,.map (some NB),.bool m.shown]) 98 := by
  have := h.bk.set 18 (.slice (some ⟨gc,0,none⟩) 0 cap)
  rw [(set_mk T _ _ _ _ _).1,hw1] at this
  exact this
 have hb2 := hb1.set 19 (.slice ps k cs)
 rw [(set_mk T _ _ _ _ _).2.1] at hb2
 rw [hw1]
 obtain ⟨w2,hw2⟩ : ∃ y,w1.setCell ⟨MB,19,none⟩ (.slice ps k cs) = y := ⟨_,rfl⟩
 have k2 : ∀ j,j ≠ MB → w2.heap[j]? = w.heap[j]? := fun j hj => by rw [← hw2,← k1 j hj]; exact Below.heap_setCell _ _ _ _ hj
 have hs2 : w2.heap.size = w.heap.size := by rw [← hw2,← hs1]; simp [World.setCell]
 rw [hw2] at hb2 ⊢
 have hS : RowI w2 lo (.slice ps k cs) (m.sec.take k) := by
  have h1 : RowI w2 lo (.slice ps m.sec.length cs) m.sec := RowX.own_keep nI h.sec (fun j e => k2 j (fun x => h.s1 (by rw [e,x])))
  rcases RowX.form cellsI_len h1 with ⟨e1,e2⟩ | ⟨g,c',e2,_⟩
  ·have hk0 : k = 0 := by rw [e1] at hk; simpa using hk
   have e3 : m.sec.take k = m.sec := by rw [hk0,e1]; rfl
   have e4 : k = m.sec.length := by rw [hk0,e1]; rfl
   rw [e3,e4]; exact h1
  ·injection e2 with e2 _ e3
   subst e2 e3
   exact RowI.cut h1 k hk
 exact ⟨⟨hb2,RowC.cut0 (RowX.own_keep (n0 _) h.code (fun j e => k2 j (fun x => h.c1 (by rw [e,x])))),hS,h.num.stay (k2 NB (Ne.symm h.ne)),h.lo1,h.lo2,h.ne,h.c1,h.c2,fun e => h.s1 (by rw [← e]; cases ps <;> rfl),fun e => h.s2 (by rw [← e]; cases ps <;> rfl),fun j e x => h.cs j e (by rw [← x]; cases ps <;> rfl)⟩,⟨by rw [← hw2,← hw1]; rfl,by rw [← hw2,← hw1]; rfl,by rw [← hw2,← hw1]; rfl,Nat.le_of_eq hs2.symm,fun j _ a1 _ _ _ => k2 j a1,fun j e => .inl e,fun j e => .inl (by rw [← e]; cases ps <;> rfl)⟩⟩
theorem forget_any {lo MB NB : Nat} {T : Nat → Int} {cv sv : Value} {m : Mk} {w : World} (k : Nat) (h : MkIs w lo MB NB T cv sv m) (hc : m.code ≠ []) (hk : k ≤ m.sec.length) (hs : m.sec.length ≤ 200000000) : Calls Try.prog 51 #[.pointer (some ⟨MB,0,none⟩),.int .i64 (k : Int)] w fun r w' => Wf lo MB NB T cv sv m k w r w' := by
 obtain ⟨pc,n,cap,rfl⟩ := RowX.slice h.code
 obtain ⟨ps,ns,cs,rfl⟩ := RowX.slice h.sec
 have hns : ns = m.sec.length := RowX.len h.sec
 subst hns
 obtain ⟨gc,rfl⟩ : ∃ gc,pc = some ⟨gc,0,none⟩ := by
  rcases RowX.form cellsX_len h.code with ⟨e1,_⟩ | ⟨g,c',e2,_⟩
  ·exact absurd e1 hc
  ·injection e2 with e2; exact ⟨g,e2⟩
 have HM := keep h
 have HKs : Hid (k ≤ m.sec.length) := hk
 have HCs : Hid (m.sec.length ≤ cs) := by
  obtain ⟨_,_,_,e,_,q,_⟩ := sec_ints h.sec (by omega)
  injection e with _ e1 e2; show _ ≤ _; omega
 have HB : Hid (MF MB NB (.slice (some ⟨gc,0,none⟩) n cap) (.slice ps m.sec.length cs) w (.slice (some ⟨gc,0,none⟩) n cap) (.slice ps m.sec.length cs) w.drew) := MF.of_below (Below.drew (Below.refl _ _))
 have HMd := keep (h.below (Below.drew (Below.refl _ _)))
 obtain ⟨wd,hwd⟩ : ∃ y,w.drew = y := ⟨_,rfl⟩
 rw [hwd] at HB HMd
 have HWd := keep hwd
 obtain ⟨hP1,hP2⟩ := HMd.out.lose HKs.out
 have HPo : Hid (Wf lo MB NB T (.slice (some ⟨gc,0,none⟩) n cap) (.slice ps m.sec.length cs) m k w (.returned (.tuple #[])) ((wd.setCell ⟨MB,18,none⟩ (.slice (some ⟨gc,0,none⟩) 0 cap)).setCell ⟨MB,19,none⟩ (.slice ps k cs))) := ⟨_,_,rfl,hP1,HB.out.trans hP2⟩
 have y0 := HMd.out.c18.1
 have y1 := HMd.out.c18.2.1
 have f0 := HMd.out.bk.fr 18
 have f1 := HMd.out.bk.fr 19
 have z1 : (wd.setCell ⟨MB,18,none⟩ (.slice (some ⟨gc,0,none⟩) 0 cap)).cell? ⟨MB,19,none⟩ = some (.slice ps m.sec.length cs) := (HMd.out.bk.set 18 (.slice (some ⟨gc,0,none⟩) 0 cap)).cell 19 (by rw [(set_mk T _ _ _ _ _).1,List.getElem?_append_right (by rw [tabL_len]; omega),tabL_len]; rfl)
 have g1 : (wd.setCell ⟨MB,18,none⟩ (.slice (some ⟨gc,0,none⟩) 0 cap)).frozen? ⟨MB,19,none⟩ = false := by rw [World.frozen?_setCell]; exact f1
 have hd0 : (0 : Int) ≤ (k : Int) := by omega
 have hd1 : (k : Int) ≤ (cs : Int) := by have h5 := HKs.out; have h6 := HCs.out; omega
 have he0 : (0 : Int) ≤ (cap : Int) := by omega
 clear hwd hP1 hP2 h hc hk hs
 go_enter Try.func51,Try.ntmps51
 go_wp2_with fail
 refine wp_region_noPanic ?_
 refine Ord.wpM_begin (fun _ : World => True) [0,1,2,3,4,5,6,7,8,9,10,11,12,13,14,15,16,17,18] (by kernel_rfl) ?_
 rw [HWd.out]
 refine Ord.tk (i:=0) (v:=.pointer (some ⟨MB,0,none⟩)) (hy:=Or.inl ⟨by rfl,by intro W' hW; go_simp⟩) (hS:=trivial) (h:=?_)
 try simp only [Act.put,Ord.t,Ord.z,Ord.s]
 refine Ord.tk (i:=1) (v:=.pointer (some ⟨MB,0,none⟩)) (hy:=Or.inl ⟨by rfl,by intro W' hW; go_simp⟩) (hS:=trivial) (h:=?_)
 try simp only [Act.put,Ord.t,Ord.z,Ord.s]
 refine Ord.tk (i:=2) (v:=.pointer (some ⟨MB,0,none⟩)) (hy:=Or.inl ⟨by rfl,by intro W' hW; go_simp⟩) (hS:=trivial) (h:=?_)
 try simp only [Act.put,Ord.t,Ord.z,Ord.s]
 refine Ord.tk (i:=3) (v:=.pointer (some ⟨MB,0,none⟩)) (hy:=Or.inl ⟨by rfl,by intro W' hW; go_simp⟩) (hS:=trivial) (h:=?_)
 try simp only [Act.put,Ord.t,Ord.z,Ord.s]
 refine Ord.tk (i:=4) (v:=.pointer (some ⟨MB,18,none⟩)) (hy:=Or.inl ⟨by rfl,by intro W' hW; go_simp⟩) (hS:=trivial) (h:=?_)
 try simp only [Act.put,Ord.t,Ord.z,Ord.s]
 refine Ord.tk (i:=7) (v:=.pointer (some ⟨MB,0,none⟩)) (hy:=Or.inl ⟨by rfl,by intro W' hW; go_simp⟩) (hS:=trivial) (h:=?_)
 try simp only [Act.put,Ord.t,Ord.z,Ord.s]
 refine Ord.tk (i:=8) (v:=.pointer (some ⟨MB,0,none⟩)) (hy:=Or.inl ⟨by rfl,by intro W' hW; go_simp⟩) (hS:=trivial) (h:=?_)
 try simp only [Act.put,Ord.t,Ord.z,Ord.s]
 refine Ord.tk (i:=9) (v:=.pointer (some ⟨MB,19,none⟩)) (hy:=Or.inl ⟨by rfl,by intro W' hW; go_simp⟩) (hS:=trivial) (h:=?_)
 try simp only [Act.put,Ord.t,Ord.z,Ord.s]
 refine Ord.tk (i:=11) (v:=.int .i64 (k : Int)) (hy:=Or.inl ⟨by rfl,by intro W' hW; go_simp⟩) (hS:=trivial) (h:=?_)
 try simp only [Act.put,Ord.t,Ord.z,Ord.s]
 refine Ord.wpM_two (i:=5) (j:=10) (by kernel_rfl) (by simp only [List.getElem?_toArray,List.getElem?_cons_zero,List.getElem?_cons_succ]; rfl) (by simp only [List.getElem?_toArray,List.getElem?_cons_zero,List.getElem?_cons_succ]; rfl) (fun K hK => ?_) (fun K hK => ?_)
 ·go_simp
  refine hK.out _ _ (fun _ => trivial) ?_
  clear hK K
  try simp only [Act.put,Ord.t,Ord.z,Ord.s]
  refine Ord.tk (i:=6) (v:=.slice (some ⟨gc,0,none⟩) 0 cap) (hy:=Or.inl ⟨by rfl,by intro W' hW; go_simp⟩) (hS:=trivial) (h:=?_)
  try simp only [Act.put,Ord.t,Ord.z,Ord.s]
  refine Ord.on (i:=10) (h:=fun K hK => ?_)
  go_simp
  refine hK.out _ _ (fun _ => trivial) ?_
  clear hK K
  try simp only [Act.put,Ord.t,Ord.z,Ord.s]
  refine Ord.tk (i:=12) (v:=.slice ps k cs) (hy:=Or.inl ⟨by rfl,by intro W' hW; go_simp⟩) (hS:=trivial) (h:=?_)
  try simp only [Act.put,Ord.t,Ord.z,Ord.s]
  refine Ord.tk (i:=13) (v:=.pointer (some ⟨MB,0,none⟩)) (hy:=Or.inl ⟨by rfl,by intro W' hW; go_simp⟩) (hS:=trivial) (h:=?_)
  try simp only [Act.put,Ord.t,Ord.z,Ord.s]
  refine Ord.tk (i:=14) (v:=.pointer (some ⟨MB,18,none⟩)) (hy:=Or.inl ⟨by rfl,by intro W' hW; go_simp⟩) (hS:=trivial) (h:=?_)
  try simp only [Act.put,Ord.t,Ord.z,Ord.s]
  refine Ord.on (i:=15) (h:=fun K hK => ?_)
  go_simp
  refine hK.out _ _ (fun _ => trivial) ?_
  clear hK K
  try simp only [Act.put,Ord.t,Ord.z,Ord.s]
  refine Ord.tk (i:=16) (v:=.pointer (some ⟨MB,0,none⟩)) (hy:=Or.inl ⟨by rfl,by intro W' hW; go_simp⟩) (hS:=trivial) (h:=?_)
  try simp only [Act.put,Ord.t,Ord.z,Ord.s]
  refine Ord.tk (i:=17) (v:=.pointer (some ⟨MB,19,none⟩)) (hy:=Or.inl ⟨by rfl,by intro W' hW; go_simp⟩) (hS:=trivial) (h:=?_)
  try simp only [Act.put,Ord.t,Ord.z,Ord.s]
  refine Ord.on (i:=18) (h:=fun K hK => ?_)
  go_simp
  refine hK.out _ _ (fun _ => trivial) ?_
  clear hK K
  try simp only [Act.put,Ord.t,Ord.z,Ord.s]
  refine Ord.wpM_done (by kernel_rfl) ?_ _
  refine NoPanic.normal ?_
  go_wp2
  refine bodyPost_end (results_none rfl _ _ _) rfl ?_
  exact HPo.out
 ·go_simp
  refine hK.out _ _ (fun _ => trivial) ?_
  clear hK K
  try simp only [Act.put,Ord.t,Ord.z,Ord.s]
  refine Ord.tk (i:=12) (v:=.slice ps k cs) (hy:=Or.inl ⟨by rfl,by intro W' hW; go_simp⟩) (hS:=trivial) (h:=?_)
  try simp only [Act.put,Ord.t,Ord.z,Ord.s]
  refine Ord.on (i:=5) (h:=fun K hK => ?_)
  go_simp
  refine hK.out _ _ (fun _ => trivial) ?_
  clear hK K
  try simp only [Act.put,Ord.t,Ord.z,Ord.s]
  refine Ord.tk (i:=6) (v:=.slice (some ⟨gc,0,none⟩) 0 cap) (hy:=Or.inl ⟨by rfl,by intro W' hW; go_simp⟩) (hS:=trivial) (h:=?_)
  try simp only [Act.put,Ord.t,Ord.z,Ord.s]
  refine Ord.tk (i:=13) (v:=.pointer (some ⟨MB,0,none⟩)) (hy:=Or.inl ⟨by rfl,by intro W' hW; go_simp⟩) (hS:=trivial) (h:=?_)
  try simp only [Act.put,Ord.t,Ord.z,Ord.s]
  refine Ord.tk (i:=14) (v:=.pointer (some ⟨MB,18,none⟩)) (hy:=Or.inl ⟨by rfl,by intro W' hW; go_simp⟩) (hS:=trivial) (h:=?_)
  try simp only [Act.put,Ord.t,Ord.z,Ord.s]
  refine Ord.on (i:=15) (h:=fun K hK => ?_)
  go_simp
  refine hK.out _ _ (fun _ => trivial) ?_
  clear hK K
  try simp only [Act.put,Ord.t,Ord.z,Ord.s]
  refine Ord.tk (i:=16) (v:=.pointer (some ⟨MB,0,none⟩)) (hy:=Or.inl ⟨by rfl,by intro W' hW; go_simp⟩) (hS:=trivial) (h:=?_)
  try simp only [Act.put,Ord.t,Ord.z,Ord.s]
  refine Ord.tk (i:=17) (v:=.pointer (some ⟨MB,19,none⟩)) (hy:=Or.inl ⟨by rfl,by intro W' hW; go_simp⟩) (hS:=trivial) (h:=?_)
  try simp only [Act.put,Ord.t,Ord.z,Ord.s]
  refine Ord.on (i:=18) (h:=fun K hK => ?_)
  go_simp
  refine hK.out _ _ (fun _ => trivial) ?_
  clear hK K
  try simp only [Act.put,Ord.t,Ord.z,Ord.s]
  refine Ord.wpM_done (by kernel_rfl) ?_ _
  refine NoPanic.normal ?_
  go_wp2
  refine bodyPost_end (results_none rfl _ _ _) rfl ?_
  exact HPo.out
end Go.Proofs.Ytfbmkcogkiejnaa.Hg
