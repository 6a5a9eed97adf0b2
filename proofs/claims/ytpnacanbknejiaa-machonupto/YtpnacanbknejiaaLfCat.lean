/- slices.Grow of nothing, slices.Concat of lists of words, slices.ContainsFunc of what is no word. -/
import Derived.Test.YtpnacanbknejiaaLfGiv
import Derived.Test.YtpnacanbknejiaaGr5
import Derived.Lib.AppendZerosOnto
import Derived.Laws.AppendOwnNone
import Derived.Deep.Upon
import Derived.Deep.AppendLies
namespace Go.Proofs.Ytpnacanbknejiaa.Lr
set_option maxHeartbeats 32000000
set_option maxRecDepth 100000
set_option linter.unusedVariables false
set_option linter.unusedSimpArgs false
open Go.ChangeShapes Go.WideShapes Go.ChangeAt Go.RowKit Lg
def cellsI (x : Int) : List Value := [.int .i64 x]
def nestI (w : World) (X : Nat → Prop) (p : Int) : Prop := True
theorem nestI_nest : Nest nestI := ⟨fun w w' X p h hb => trivial,fun w X Y p h hb => trivial⟩
theorem cellsI_len (p : Int) : (cellsI p).length = 1 := rfl
def RowI (w : World) (lo : Nat) (v : Value) (es : List Int) : Prop := RowX nestI cellsI 1 3 w lo v es
theorem cellsI_one (vs : List Int) (u : Value) (h : u ∈ vs.flatMap cellsI) : u.oneCell' = true := by
 obtain ⟨v,_,hv⟩ := List.mem_flatMap.1 h
 simp only [cellsI,List.mem_cons,List.not_mem_nil,or_false] at hv
 rw [hv]; rfl
theorem cellsI_map (l : List Int) : l.flatMap cellsI = l.map (Value.int .i64) := by
 induction l with
 | nil => rfl
 | cons a l ih => rw [List.flatMap_cons,ih]; rfl
theorem RowI.ints {w : World} {lo : Nat} {v : Value} {es : List Int} (h : RowI w lo v es) (hl : es.length ≤ 17592186044416) : IntsIs w w.heap.size es v := by
 rcases RowX.form cellsI_len h with ⟨h1,h2⟩ | ⟨g,cap,h1,h2,h3,h4,h5⟩
 ·exact ⟨none,0,0,h2,by rw [h1]; rfl,Nat.le_refl _,by omega,fun j t hj => by rw [h1] at hj; simp at hj⟩
 ·refine ⟨some ⟨g,0,none⟩,_,cap,h1,rfl,h2,hl,fun j p hp => ⟨g,0,rfl,by omega,?_⟩⟩
  have := h5 j p 0 _ hp rfl
  rw [Nat.zero_add]
  simpa using this
theorem intT5 : Try.prog.underlying 3 = some (.int .i64) := by kernel_rfl
theorem grow_ints (n : Nat) (hn : n ≤ 1048576) (w : World) :
  Calls Try.prog 85 #[.slice none 0 0,.int .i64 (n : Int)] w fun r w' => ∃ v,r = .returned v ∧ RowI w' w.heap.size v [] ∧ Below w.heap.size w w' := by
 by_cases h0 : n = 0
 ·subst h0
  have e0 : ((0 : Nat) : Int) = 0 := rfl
  rw [e0]
  go_enter Try.func85,Try.ntmps85
  go_wp2
  go_ret
  exact ⟨_,rfl,RowX.nil _ _,Below.refl _ _⟩
 ·obtain ⟨i0,hi0,j0,j1,j2⟩ := info_parts int_info
  have h1 : decide ((n : Int) < 0) = false := decide_eq_false (by omega)
  have h4 : decide (0 < (n : Int)) = true := decide_eq_true (by omega)
  have hwr : IntKind.i64.wrap ((n : Int)) = (n : Int) := by rw [IntKind.wrap_i64]; omega
  have hrz := fun ty => Lib.run_append_nil_zeros (P:=Try.prog) w 30 3 ty 3 i0 _ .i64 .i64 Try.underlying30 intT5 hi0 j0 n (by omega) (by rw [j1]; decide) (by omega) (by rw [j2]; omega)
  have hG1 := grownCap_ge w n 0 3
  have hG2 := grownCap_le_maxLen w n 0 3 (by unfold maxLen; omega)
  obtain ⟨G,hG⟩ : ∃ G,G = grownCap w n 0 3 := ⟨_,rfl⟩
  rw [← hG] at hrz hG1 hG2
  have HRow : Hid (RowI (w.drew.alloc (.cells (Builtin.zeroCells (Value.int .i64 0).cells n ++ Builtin.zeroCells (Value.int .i64 0).cells (G - n)) 3)) w.heap.size (.slice (some ⟨w.heap.size,0,none⟩) 0 G) []) := by
   refine ⟨⟨rfl,.inr ⟨w.heap.size,G,_,rfl,Nat.le_refl _,(MapKept.heap_alloc w.drew _).1,Nat.zero_le _,hG2,?_,by simp⟩⟩,by simp⟩
   rw [Array.size_append,size_zeroCells,size_zeroCells,show (Value.int .i64 0).cells.size = 1 from rfl,← Nat.add_mul]
   omega
  have HB : Hid (Below w.heap.size w (w.drew.alloc (.cells (Builtin.zeroCells (Value.int .i64 0).cells n ++ Builtin.zeroCells (Value.int .i64 0).cells (G - n)) 3))) :=
   (Below.drew (Below.refl _ _)).alloc (Nat.le_refl _) _
  have HRz := keep hrz
  have hG0 : (0 : Int) ≤ (G : Int) := by omega
  clear hrz hG
  go_enter Try.func85,Try.ntmps85
  go_wp2_with (at_builtin; refine Lib.wpList_append_run _ rfl _ _ _ _ rfl _ _ rfl rfl _ _ (HRz.out _) ?_)
  go_ret
  exact ⟨_,rfl,HRow.out,HB.out⟩
theorem IntsIs.form {w : World} {B : Nat} {vs : List Int} {p : Option Addr} {n cap : Nat} (h : IntsIs w B vs (.slice p n cap)) : (vs = [] ∧ n = 0) ∨ ∃ g o,p = some ⟨g,o,none⟩ ∧ 0 < vs.length ∧ n = vs.length ∧ ∀ j u,(vs.flatMap cellsI)[j]? = some u → w.cell? ((⟨g,o,none⟩ : Addr).add j) = some u := by
 obtain ⟨p',n',cap',h1,h2,h3,h4,h5⟩ := h
 injection h1 with e1 e2 e3
 subst e1 e2 e3
 cases hv : vs with
 | nil => rw [hv] at h2; exact .inl ⟨rfl,h2.symm⟩
 | cons v r =>
  obtain ⟨g,o,k1,_⟩ := h5 0 v (by rw [hv]; rfl)
  refine .inr ⟨g,o,k1,by simp,by rw [← h2,hv],fun j u hj => ?_⟩
  rw [cellsI_map,List.getElem?_map,Option.map_eq_some_iff,← hv] at hj
  obtain ⟨x,hx,rfl⟩ := hj
  obtain ⟨g',o',q1,q2,q3⟩ := h5 j x hx
  rw [k1] at q1
  cases q1
  rw [show (⟨g,o,none⟩ : Addr).add j = ⟨g,o + j,none⟩ from by simp [Addr.add]]
  exact q3
def sumL (ll : List (List Int)) : Nat := (ll.map List.length).sum
theorem sumL_take (ll : List (List Int)) (j : Nat) (l : List Int) (h : ll[j]? = some l) : sumL (ll.take (j + 1)) = sumL (ll.take j) + l.length := by
 unfold sumL
 rw [List.take_add_one,h,Option.toList_some,List.map_append,List.sum_append]
 simp
theorem sumL_le : ∀ (ll : List (List Int)) (j : Nat),sumL (ll.take j) ≤ sumL ll
 | [],j => by simp [sumL]
 | l :: ll,0 => by simp [sumL]
 | l :: ll,j + 1 => by
  have := sumL_le ll j
  unfold sumL at this ⊢
  simp only [List.take_succ_cons,List.map_cons,List.sum_cons]
  omega
theorem flat_len (ll : List (List Int)) : ll.flatten.length = sumL ll := by
 unfold sumL
 induction ll with
 | nil => rfl
 | cons l ll ih => simp [ih]
theorem concat_ints (B : Nat) (ll : List (List Int)) (sl : Value) (w : World) (hB : B ≤ w.heap.size) (hi : ArrsIs w B ll sl) (hT : sumL ll ≤ 1048576) :
  Calls Try.prog 81 #[sl] w fun r w' => ∃ v,r = .returned v ∧ RowI w' w.heap.size v ll.flatten ∧ Below w.heap.size w w' := by
 have HA := keep hi
 obtain ⟨p,n,c,rfl,hln,hc1,hc2,hqa⟩ := hi
 obtain ⟨i0,hi0,j0,j1,j2⟩ := info_parts int_info
 have HLN := keep hln
 have HB0 := keep hB
 have HTo := keep hT
 have HTk : Hid (∀ k,sumL (ll.take k) ≤ 1048576) := fun k => Nat.le_trans (sumL_le ll k) hT
 clear hqa hln hB hT
 go_enter Try.func81,Try.ntmps81
 go_wp2
 go_loopw [11,3] (fun i s wx => w = wx ∧ ∃ j : Nat,j ≤ n ∧ i = .int .i64 (j : Int) ∧ s = .int .i64 ((sumL (ll.take j) : Nat) : Int)) (fun i _ _ => n - (intOf i).toNat)
 case atStart => exact ⟨rfl,0,by omega,rfl,rfl⟩
 case round =>
  obtain ⟨rfl,j,hjn,rfl,rfl⟩ := hrel
  by_cases hjl : j < n
  ·have d1 : decide ((j : Int) < (n : Int)) = true := decide_eq_true (by omega)
   have hjz : (j : Int) < (n : Int) := by omega
   have hj0 : (0 : Int) ≤ (j : Int) := by omega
   have hwr : IntKind.i64.wrap ((j : Int) + 1) = (j : Int) + 1 := by rw [IntKind.wrap_i64]; omega
   obtain ⟨row,hrow⟩ : ∃ row,ll[j]? = some row := ⟨_,List.getElem?_eq_getElem (by rw [HLN.out]; exact hjl)⟩
   obtain ⟨p',n',c',e0,_,_,_,hq⟩ := HA.out
   injection e0 with e1 e2 e3
   obtain ⟨g,o,s,e4,hg,hs,hint⟩ := hq j row hrow
   obtain ⟨pr,nr,cr,rfl,hnr,_⟩ := hint
   rw [← e1] at e4
   subst e4
   have hst := sumL_take ll j row hrow
   have hle := sumL_le ll (j + 1)
   have htt := HTo.out
   have HSt : Hid (sumL (ll.take (j + 1)) = sumL (ll.take j) + nr) := by
    show _ = _
    rw [hst,hnr]
   have hS1 : sumL (ll.take j) + nr ≤ 1048576 := by rw [← HSt.out]; omega
   clear hst hle htt hq hrow e1 e2 e3
   generalize sumL (ll.take j) = S0 at *
   have hw1 : IntKind.i64.wrap ((S0 : Int) + (nr : Int)) = (S0 : Int) + (nr : Int) := by rw [IntKind.wrap_i64]; omega
   have hd1 : decide ((S0 : Int) + (nr : Int) < 0) = false := decide_eq_false (by omega)
   go_wp2
   go_roundw
   case rel => exact ⟨by first | rfl | trivial,j + 1,by omega,by go_num,by rw [HSt.out]; go_num⟩
   case measure => simp [intOf]; omega
  ·have hje : j = n := by omega
   subst hje
   have dl : decide ((j : Int) < (j : Int)) = false := decide_eq_false (by omega)
   have hS : sumL (ll.take j) = sumL ll := by rw [← HLN.out,List.take_length]
   rw [hS]
   have HG := keep (grow_ints (sumL ll) HTo.out w)
   generalize sumL ll = S at *
   clear hjl hS
   go_wp2_with fail
   refine HG.out.mono ?_
   rintro r w1 ⟨v,rfl,hr1,hb1⟩
   obtain ⟨pg,ng,cg,rfl⟩ := RowX.slice hr1
   have HR1 := keep hr1
   have HB1 := keep hb1
   clear hr1 hb1 HG dl
   go_wp2
   go_loopw [27,6] (fun i v wx => ∃ k : Nat,k ≤ j ∧ i = .int .i64 (k : Int) ∧ RowI wx w.heap.size v (ll.take k).flatten ∧ Below w.heap.size w wx) (fun i _ _ => j - (intOf i).toNat)
   case atStart => exact ⟨0,by omega,rfl,HR1.out,HB1.out⟩
   case round =>
    clear HR1 HB1
    obtain ⟨k,hkn,rfl,hr,hb⟩ := hrel
    have HR := keep hr
    have HBx := keep hb
    clear hr hb
    by_cases hkl : k < j
    ·have d1 : decide ((k : Int) < (j : Int)) = true := decide_eq_true (by omega)
     have hkz : (k : Int) < (j : Int) := by omega
     have hk0 : (0 : Int) ≤ (k : Int) := by omega
     have hwr : IntKind.i64.wrap ((k : Int) + 1) = (k : Int) + 1 := by rw [IntKind.wrap_i64]; omega
     obtain ⟨row,hrow⟩ : ∃ row,ll[k]? = some row := ⟨_,List.getElem?_eq_getElem (by rw [HLN.out]; exact hkl)⟩
     obtain ⟨p',n',c',e0,_,_,_,hq⟩ := HA.out.below (HBx.out.mono HB0.out)
     injection e0 with e1 e2 e3
     obtain ⟨g,o,s,e4,hg,hs,hint⟩ := hq k row hrow
     obtain ⟨pr,nr,cr,rfl⟩ := hint.slice
     rw [← e1] at e4
     subst e4
     obtain ⟨pv,nv,cv,rfl⟩ := RowX.slice HR.out
     have hnv := RowX.len HR.out
     have hlen2 : (ll.take (k + 1)).flatten.length = (ll.take k).flatten.length + row.length := by rw [flat_len,flat_len,sumL_take ll k row hrow]
     have hle2 : (ll.take k).flatten.length + row.length ≤ 1048576 := by
      rw [← hlen2,flat_len]
      exact HTk.out (k + 1)
     have HFl : Hid ((ll.take (k + 1)).flatten = (ll.take k).flatten ++ row) := by
      show _ = _
      rw [List.take_add_one,hrow,Option.toList_some,List.flatten_append]
      simp
     have HInt := keep hint
     clear hq hrow e1 e2 e3 hint hlen2
     generalize (ll.take k).flatten = done at *
     subst hnv
     rcases HInt.out.form with ⟨hnil,hz⟩ | ⟨gs,os,rfl,hpos,hnr,hcl⟩
     ·subst hnil
      subst hz
      have hle : done.length ≤ cv := by
       rcases (RowX.own HR.out).2 with ⟨q1,q2⟩ | ⟨_,_,_,q1,_,_,q4,_⟩
       ·injection q1 with _ q1 q2; omega
       ·injection q1 with _ q1 q2; omega
      have hsrc : Src Try.prog i0.size 30 (.slice pr 0 cr) 0 [] wr := by
       cases pr with
       | none => exact Src.ofNil wr Try.underlying30 cr
       | some a => exact Src.ofSlice wr Try.underlying30 a 0 cr [] (by simp) (by simp) (by simp)
      have HRz := keep (fun ty => run_append_nothing (P:=Try.prog) wr 30 30 ty 3 i0 Try.underlying30 hi0 pv done.length cv hle (.slice pr 0 cr) hsrc)
      clear hsrc
      go_wp2_with (at_builtin; refine Lib.wpList_append_run _ rfl _ _ _ _ rfl _ _ rfl rfl _ _ (HRz.out _) ?_)
      go_roundw
      case rel => exact ⟨k + 1,by omega,by go_num,by rw [HFl.out,List.append_nil]; exact HR.out,HBx.out⟩
      case measure => simp [intOf]; omega
     ·have HCe := keep hcl
      have HNr := keep hnr
      subst hnr
      clear hcl
      go_wp2_with (at_builtin; refine wpList_append_lies _ rfl (.tmp 31) (.tmp 32) 30 rfl w.heap.size 3 i0 _ 1 8 Try.underlying30 hi0 j0 j1 j2 rfl (by decide) (.slice pv done.length cv) done.length (done.flatMap cellsI) rfl (RowX.own HR.out) ⟨gs,os,none⟩ row.length cr (row.flatMap cellsI) rfl (flat_len7 cellsI 1 cellsI_len _) HCe.out (cellsI_one _) hpos (by unfold maxLen; omega) (by omega) HBx.out.size _ rfl ?_)
      intro g2 cap w2 hown2 hgrow hat hlt
      have HR2 : Hid (RowI w2 w.heap.size (.slice (some ⟨g2,0,none⟩) (done.length + row.length) cap) (done ++ row)) := ⟨by rw [List.length_append,List.flatMap_append]; exact hown2,fun p hp => trivial⟩
      have HB2 : Hid (Below w.heap.size w w2) := HBx.out.trans ⟨hgrow.os,hgrow.tape,hgrow.output,hgrow.size,fun i hi => hgrow.block i (by have := HBx.out.size; omega) (fun e => by have := ((RowX.own HR.out).lt i e.symm).1; omega)⟩
      clear hown2 hgrow hat hlt HCe
      go_wp2
      go_roundw
      case rel => exact ⟨k + 1,by omega,by go_num,by rw [HFl.out]; exact HR2.out,HB2.out⟩
      case measure => simp [intOf]; omega
    ·have hke : k = j := by omega
     subst hke
     have dl : decide ((k : Int) < (k : Int)) = false := decide_eq_false (by omega)
     obtain ⟨pv,nv,cv,rfl⟩ := RowX.slice HR.out
     have HE : Hid (RowI wr w.heap.size (.slice pv nv cv) ll.flatten ∧ Below w.heap.size w wr) := ⟨by have := HR.out; rw [← HLN.out,List.take_length] at this; exact this,HBx.out⟩
     clear hkl HR HBx
     go_wp2
     go_ret
     exact ⟨_,rfl,HE.out⟩
end Go.Proofs.Ytpnacanbknejiaa.Lr
