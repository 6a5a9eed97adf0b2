/- The maker begins; the labels that it ends with. Written by tools/gen_hgbegin.py. -/
import Derived.Test.YtfbmkcogkiejnaaHgLegal
namespace Go.Proofs.Ytfbmkcogkiejnaa.Hg
set_option maxHeartbeats 32000000
set_option maxRecDepth 100000
set_option linter.unusedVariables false
set_option linter.unusedSimpArgs false
open Go.ChangeShapes Go.WideShapes Go.ChangeAt Go.RowKit Go.Maps Lg Lr Fl
def s01 (b : Bool) : Int := if b then 1 else 0
def mk0 (l : List Bool) : Mk := ⟨[],l.map s01,[],false⟩
def Wb (T : Nat → Int) (l : List Bool) (w : World) (r : Ending) (w' : World) : Prop := ∃ lo MB NB sv,r = .returned (.pointer (some ⟨MB,0,none⟩)) ∧ w.heap.size ≤ lo ∧ lo ≤ w'.heap.size ∧ MkIs w' lo MB NB T (.slice none 0 0) sv (mk0 l) ∧ Below w.heap.size w w'
theorem begin_any (B : Nat) (f : Fx) (s1 s2 s3 : Value) (T : Nat → Int) (w : World) (hB : B ≤ w.heap.size) (h : FxIs w B f s1 s2 s3) (hn : f.sec.length ≤ 1048576) : Calls Try.prog 49 #[.agg (fxA f s1 s2 s3),.agg (Tb.tabA T)] w fun r w' => Wb T f.sec w r w' := by
 obtain ⟨p1,n1,c1,hs1,hx1⟩ := id h.code
 obtain ⟨p2,n2,c2,hs2,hx2⟩ := id h.sec
 obtain ⟨p3,n3,c3,hs3,hx3⟩ := id h.arrs
 subst hs1 hs2 hs3
 have HSec := keep h.sec
 have HN := keep hn
 obtain ⟨pr,hpr⟩ : ∃ k : Int,f.params = k := ⟨f.params,rfl⟩
 obtain ⟨w1,hw1⟩ : ∃ y,w.alloc (.cells #[.slice p1 n1 c1,.slice p2 n2 c2,.int .i64 pr,.slice p3 n3 c3] 26) = y := ⟨_,rfl⟩
 obtain ⟨w2,hw2⟩ : ∃ y,w1.alloc (.cells (Tb.tabA T) 29) = y := ⟨_,rfl⟩
 obtain ⟨FB,hFB⟩ : ∃ y,w.heap.size = y := ⟨_,rfl⟩
 obtain ⟨TB,hTB⟩ : ∃ y,w1.heap.size = y := ⟨_,rfl⟩
 have b1 : Below w.heap.size w w1 := by rw [← hw1]; exact (Below.refl _ _).alloc (Nat.le_refl _) _
 have b2' : Below w1.heap.size w1 w2 := by rw [← hw2]; exact (Below.refl _ _).alloc (Nat.le_refl _) _
 have b2 : Below w.heap.size w w2 := b1.trans (b2'.mono b1.size)
 have kF1 : Bk w1 FB [.slice p1 n1 c1,.slice p2 n2 c2,.int .i64 pr,.slice p3 n3 c3] 26 := by rw [← hw1,← hFB]; exact Bk.new _ _ _
 have kF := kF1.fs (Fs.of_below (l:=[]) b2') (by simp)
 have kT : Bk w2 TB (tabL T) 29 := by rw [← hw2,← hTB]; exact Bk.new _ _ _
 have HkF := keep kF
 have HkT := keep kT
 have HB2 := keep b2
 have HW1 := keep hw1
 have HW2 := keep hw2
 have HFB := keep hFB
 have HTB := keep hTB
 have HT : Hid (w2.heap[TB]? = some (.cells (Tb.tabA T) 29)) := kT
 have hmm := @run_makeMap Try.prog
 obtain ⟨w3,hw3⟩ : ∃ y,w2.alloc (.map #[] 0) = y := ⟨_,rfl⟩
 obtain ⟨NB,hNB⟩ : ∃ y,w2.heap.size = y := ⟨_,rfl⟩
 have b3 : Below w2.heap.size w2 w3 := by rw [← hw3]; exact (Below.refl _ _).alloc (Nat.le_refl _) _
 obtain ⟨w4,hw4⟩ : ∃ y,w3.alloc (.cells #[.int .i64 (T 0),.int .i64 (T 1),.int .i64 (T 2),.int .i64 (T 3),.int .i64 (T 4),.int .i64 (T 5),.int .i64 (T 6),.int .i64 (T 7),.int .i64 (T 8),.int .i64 (T 9),.int .i64 (T 10),.int .i64 (T 11),.int .i64 (T 12),.int .i64 (T 13),.int .i64 (T 14),.int .i64 (T 15),.int .i64 (T 16),.int .i64 (T 17),.slice none 0 0,.slice none 0 0,.map (some NB),.bool false] 98) = y := ⟨_,rfl⟩
 obtain ⟨MB,hMB⟩ : ∃ y,w3.heap.size = y := ⟨_,rfl⟩
 have b4 : Below w3.heap.size w3 w4 := by rw [← hw4]; exact (Below.refl _ _).alloc (Nat.le_refl _) _
 have hz : MapZ w3 NB 0 [] := by rw [← hw3,← hNB]; exact MapZ.nil w2
 have hs3' : w2.heap.size < w3.heap.size := by rw [← hw3]; simp
 have h02 := b2.size
 have kM : Bk w4 MB (tabL T ++ [.slice none 0 0,.slice none 0 0,.map (some NB),.bool false]) 98 := by rw [← hw4,← hMB]; exact Bk.new _ (tabL T ++ [.slice none 0 0,.slice none 0 0,.map (some NB),.bool false]) _
 have hM4 : MkIs w4 NB MB NB T (.slice none 0 0) (.slice none 0 0) ⟨[],[],[],false⟩ := ⟨kM,RowX.nil _ _,RowX.nil _ _,hz.stay (b4.block NB (by omega)),by omega,by omega,by omega,fun e => (by cases e),fun e => (by cases e),fun e => (by cases e),fun e => (by cases e),fun k e => (by cases e)⟩
 have b24 : Below w2.heap.size w2 w4 := b3.trans (b4.mono b3.size)
 have HM4 := keep hM4
 have HB4 := keep (b2.trans (b24.mono b2.size))
 have HkF4 := keep (kF.fs (Fs.of_below (l:=[]) b24) (by simp))
 have HW3 := keep hw3
 have HW4 := keep hw4
 have HNB := keep hNB
 have HMB := keep hMB
 have HFM : Hid (FB < NB ∧ FB < MB ∧ w.heap.size ≤ FB) := ⟨by have := kF.lt; omega,by have := kF.lt; omega,by omega⟩
 have HBw : Hid (B ≤ w.heap.size) := hB
 unfold fxA
 rw [hpr]
 have HNe : Hid (f.sec.length = n2) := hx2.1
 have HNn : Hid (n2 ≤ 1048576) := by show _ ≤ _; rw [← hx2.1]; exact hn
 have HSx := keep hx2.2.2.2
 clear hx1 hx2 hx3 h hn hpr hw1 hw2 hFB hTB b1 b2' b2 kF1 kF kT hw3 hNB b3 hw4 hMB b4 hz hs3' h02 kM hM4 b24
 have x1 := HkF4.out.cell 1 rfl
 go_enter Try.func49,Try.ntmps49
 go_wp2_with (first | rw [HW1.out] | rw [HW2.out] | rw [HFB.out] | rw [HTB.out] | rw [HW3.out] | rw [HNB.out] | rw [HW4.out] | rw [HMB.out] | (refine Tb.load_tab rfl _ rfl TB rfl T HT.out ?_) | fail)
 go_loopw [15] (fun i wx => ∃ (j : Nat) (sv : Value),j ≤ n2 ∧ i = .int .i64 (j : Int) ∧ MkIs wx NB MB NB T (.slice none 0 0) sv ⟨[],(f.sec.take j).map s01,[],false⟩ ∧ Below w.heap.size w wx ∧ Bk wx FB [.slice p1 n1 c1,.slice p2 n2 c2,.int .i64 pr,.slice p3 n3 c3] 26) (fun i _ => n2 - (intOf i).toNat)
 case atStart => exact ⟨0,_,by omega,rfl,HM4.out,HB4.out,HkF4.out⟩
 case round =>
  obtain ⟨j,sv,hjn,rfl,hm,hb,hk⟩ := hrel
  by_cases hjl : j < n2
  ·have d1 : decide ((j : Int) < (n2 : Int)) = true := decide_eq_true (by omega)
   have hjz : (j : Int) < (n2 : Int) := by omega
   have hj0 : (0 : Int) ≤ (j : Int) := by omega
   have hwr : IntKind.i64.wrap ((j : Int) + 1) = (j : Int) + 1 := by have := HNn.out; rw [IntKind.wrap_i64]; omega
   obtain ⟨L,hL⟩ : ∃ y,(f.sec.take j).map s01 = y := ⟨_,rfl⟩
   have HLl : Hid (L.length = j) := by show _ = _; rw [← hL,List.length_map,List.length_take]; have := HNe.out; omega
   rw [hL] at hm
   obtain ⟨pS,nS,cS,rfl⟩ := RowX.slice hm.sec
   have hnS : nS = L.length := RowX.len hm.sec
   subst hnS
   obtain ⟨x,hx⟩ : ∃ x,f.sec[j]? = some x := ⟨_,List.getElem?_eq_getElem (by rw [HNe.out]; exact hjl)⟩
   have HTk : Hid (f.sec.take (j + 1) = f.sec.take j ++ [x]) := by show _ = _; rw [List.take_add_one,hx]; rfl
   obtain ⟨g,o,hp,hgB,hc0⟩ := HSx.out j x hx
   subst hp
   have hc : wr.cell? ⟨g,o + j,none⟩ = some (.bool x) := by rw [cell_below hb (Nat.lt_of_lt_of_le hgB HBw.out)]; exact hc0
   have hM := hm.c18.2.1
   have HFs : Hid ((Value.slice pS L.length cS).ownBlock ≠ some FB) := fun e => by have h8 := ((RowX.own hm.sec).lt FB e).1; have := HFM.out; omega
   obtain ⟨i0,hi0,j0,j1,j2⟩ := info_parts int_info
   clear hx hc0 hgB HSx hjl
   cases x with
   | true =>
    have HL2 : Hid ((f.sec.take (j + 1)).map s01 = L ++ [1]) := by show _ = _; rw [← hL,HTk.out,List.map_append]; rfl
    obtain ⟨w5,hw5⟩ : ∃ y,wr.alloc (.cells #[.int .i64 1] 3) = y := ⟨_,rfl⟩
    have hb5 : Below wr.heap.size wr w5 := by rw [← hw5]; exact (Below.refl _ _).alloc (Nat.le_refl _) _
    obtain ⟨g5,hg5⟩ : ∃ y,wr.heap.size = y := ⟨_,rfl⟩
    have kN : Bk w5 g5 [.int .i64 1] 3 := by rw [← hw5,← hg5]; exact Bk.new _ _ _
    have HM5 := keep (hm.below hb5)
    have HB5 := keep (hb.trans (hb5.mono hb.size))
    have HkF5 := keep (hk.fs (Fs.of_below (l:=[]) hb5) (by simp))
    have HkN := keep kN
    have HW5 := keep hw5
    have HG5 := keep hg5
    have HOwn := keep (RowX.own HM5.out.sec)
    have HLo5 : Hid (NB ≤ w5.heap.size) := Nat.le_of_lt HM5.out.num.lt
    clear hw5 hg5 hb5 kN hL hm hb hk
    go_wp2_with (first | rw [HW5.out,HG5.out] | (at_builtin; refine wpList_append_lies _ rfl (.tmp 24) (.tmp 25) 30 rfl NB 3 i0 _ 1 8 Try.underlying30 hi0 j0 j1 j2 rfl (by decide) (.slice pS L.length cS) L.length (L.flatMap cellsI) rfl HOwn.out ⟨g5,0,none⟩ 1 1 (cellsI 1) rfl rfl (fun j u hj => bk_add HkN.out j u hj) ?c2 (by decide) ?c3 ?c4 HLo5.out w5.heap.size rfl ?_) | fail)
    case c2 =>
     intro u hu
     simp only [cellsI,List.mem_cons,List.not_mem_nil,or_false] at hu
     rw [hu]; rfl
    case c3 => have := HLl.out; have := HNn.out; unfold maxLen; omega
    case c4 => have := HLl.out; have := HNn.out; omega
    intro gz cp w9 hown2 hgrow hat hlt
    obtain ⟨hN,hF⟩ := HM5.out.pushS 1 hown2 hgrow (by simpa using hat)
    have HN9 := keep hN
    have hbM := hgrow.block MB HM5.out.bk.lt (fun e => HM5.out.s1 e.symm)
    have hM1 : w9.cell? ⟨MB,19,none⟩ = some (.slice pS L.length cS) := by rw [World.cell?_of_block hbM]; exact HM5.out.c18.2.1
    have hMf2 : w9.frozen? ⟨MB,19,none⟩ = false := by have h9 := HM5.out.bk; unfold Bk at h9; rw [← hbM] at h9; exact Lib.frozen_of_heap h9 19
    have HFf : Hid (MF MB NB (.slice none 0 0) (.slice pS L.length cS) w5 (.slice none 0 0) (.slice (some ⟨gz,0,none⟩) (L.length + 1) cp) (w9.setCell ⟨MB,19,none⟩ (.slice (some ⟨gz,0,none⟩) (L.length + 1) cp))) := hF
    have HOs : Hid (∀ k,(Value.slice pS L.length cS).ownBlock = some k → NB ≤ k) := fun k e => ((RowX.own HM5.out.sec).lt k e).1
    clear hown2 hgrow hat hlt hN hF hbM
    go_wp2
    go_roundw
    case rel =>
     refine ⟨j + 1,_,by omega,by go_num,by rw [HL2.out]; exact HN9.out,?_,?_⟩
     ·have h1 := HFf.out
      exact HB5.out.trans ⟨h1.os,h1.tape,h1.output,Nat.le_trans (Nat.le_refl _) h1.size,fun k hk => h1.block k (Nat.lt_of_lt_of_le hk HB5.out.size) (by have := HFM.out; omega) (by have := HFM.out; omega) (fun e => by cases e) (fun e => by have h7 := HOs.out k e; have h8 := HFM.out; omega)⟩
     ·exact HFf.out.fs HkF5.out (by have := HFM.out; omega) (by have := HFM.out; omega) (fun e => by cases e) (fun e => HFs.out e)
    case measure => simp [intOf]; omega
   | false =>
    have HL2 : Hid ((f.sec.take (j + 1)).map s01 = L ++ [0]) := by show _ = _; rw [← hL,HTk.out,List.map_append]; rfl
    obtain ⟨w5,hw5⟩ : ∃ y,wr.alloc (.cells #[.int .i64 0] 3) = y := ⟨_,rfl⟩
    have hb5 : Below wr.heap.size wr w5 := by rw [← hw5]; exact (Below.refl _ _).alloc (Nat.le_refl _) _
    obtain ⟨g5,hg5⟩ : ∃ y,wr.heap.size = y := ⟨_,rfl⟩
    have kN : Bk w5 g5 [.int .i64 0] 3 := by rw [← hw5,← hg5]; exact Bk.new _ _ _
    have HM5 := keep (hm.below hb5)
    have HB5 := keep (hb.trans (hb5.mono hb.size))
    have HkF5 := keep (hk.fs (Fs.of_below (l:=[]) hb5) (by simp))
    have HkN := keep kN
    have HW5 := keep hw5
    have HG5 := keep hg5
    have HOwn := keep (RowX.own HM5.out.sec)
    have HLo5 : Hid (NB ≤ w5.heap.size) := Nat.le_of_lt HM5.out.num.lt
    clear hw5 hg5 hb5 kN hL hm hb hk
    go_wp2_with (first | rw [HW5.out,HG5.out] | (at_builtin; refine wpList_append_lies _ rfl (.tmp 33) (.tmp 34) 30 rfl NB 3 i0 _ 1 8 Try.underlying30 hi0 j0 j1 j2 rfl (by decide) (.slice pS L.length cS) L.length (L.flatMap cellsI) rfl HOwn.out ⟨g5,0,none⟩ 1 1 (cellsI 0) rfl rfl (fun j u hj => bk_add HkN.out j u hj) ?c2 (by decide) ?c3 ?c4 HLo5.out w5.heap.size rfl ?_) | fail)
    case c2 =>
     intro u hu
     simp only [cellsI,List.mem_cons,List.not_mem_nil,or_false] at hu
     rw [hu]; rfl
    case c3 => have := HLl.out; have := HNn.out; unfold maxLen; omega
    case c4 => have := HLl.out; have := HNn.out; omega
    intro gz cp w9 hown2 hgrow hat hlt
    obtain ⟨hN,hF⟩ := HM5.out.pushS 0 hown2 hgrow (by simpa using hat)
    have HN9 := keep hN
    have hbM := hgrow.block MB HM5.out.bk.lt (fun e => HM5.out.s1 e.symm)
    have hM1 : w9.cell? ⟨MB,19,none⟩ = some (.slice pS L.length cS) := by rw [World.cell?_of_block hbM]; exact HM5.out.c18.2.1
    have hMf2 : w9.frozen? ⟨MB,19,none⟩ = false := by have h9 := HM5.out.bk; unfold Bk at h9; rw [← hbM] at h9; exact Lib.frozen_of_heap h9 19
    have HFf : Hid (MF MB NB (.slice none 0 0) (.slice pS L.length cS) w5 (.slice none 0 0) (.slice (some ⟨gz,0,none⟩) (L.length + 1) cp) (w9.setCell ⟨MB,19,none⟩ (.slice (some ⟨gz,0,none⟩) (L.length + 1) cp))) := hF
    have HOs : Hid (∀ k,(Value.slice pS L.length cS).ownBlock = some k → NB ≤ k) := fun k e => ((RowX.own HM5.out.sec).lt k e).1
    clear hown2 hgrow hat hlt hN hF hbM
    go_wp2
    go_roundw
    case rel =>
     refine ⟨j + 1,_,by omega,by go_num,by rw [HL2.out]; exact HN9.out,?_,?_⟩
     ·have h1 := HFf.out
      exact HB5.out.trans ⟨h1.os,h1.tape,h1.output,Nat.le_trans (Nat.le_refl _) h1.size,fun k hk => h1.block k (Nat.lt_of_lt_of_le hk HB5.out.size) (by have := HFM.out; omega) (by have := HFM.out; omega) (fun e => by cases e) (fun e => by have h7 := HOs.out k e; have h8 := HFM.out; omega)⟩
     ·exact HFf.out.fs HkF5.out (by have := HFM.out; omega) (by have := HFM.out; omega) (fun e => by cases e) (fun e => HFs.out e)
    case measure => simp [intOf]; omega
  ·have hje : j = n2 := by omega
   subst hje
   have dl : decide ((j : Int) < (j : Int)) = false := decide_eq_false (by omega)
   have HEe : Hid (f.sec.take j = f.sec) := by show _ = _; rw [← HNe.out,List.take_length]
   have HM9 : Hid (MkIs wr NB MB NB T (.slice none 0 0) sv (mk0 f.sec)) := by show MkIs _ _ _ _ _ _ _ _; rw [HEe.out] at hm; exact hm
   have HB9 := keep hb
   clear hm hb hk hjl
   go_wp2
   go_ret
   exact ⟨NB,MB,NB,sv,rfl,by have := HFM.out; omega,Nat.le_of_lt HM9.out.num.lt,HM9.out,HB9.out⟩
end Go.Proofs.Ytfbmkcogkiejnaa.Hg
