/- What fits, as the document says it; whether two lists of words are the same. Written by tools/gen_frfit.py. -/
import Derived.Test.YtpnacanbknejiaaLfFits
namespace Go.Proofs.Ytpnacanbknejiaa.Lr
set_option maxHeartbeats 32000000
set_option maxRecDepth 100000
set_option linter.unusedVariables false
set_option linter.unusedSimpArgs false
open Go.ChangeShapes Go.WideShapes Go.ChangeAt Go.RowKit Lg
theorem wpList_append_ints {w : World} {ops : Array Oper} {rest : List Oper} {o : Oper} {a : Act} {Q : Exit → Act → World → Prop} (hgd : o.guard = none) (s x : Operand) (ho : o.op = .call { callee := .builtin .append,args := #[s,x],argTypes := #[30,30] }) (base B : Nat) (v xs : Value) (done row : List Int) (hs : a.eval s = v) (hx : a.eval x = xs) (hR : RowI w base v done) (hi : IntsIs w B row xs) (hbase : base ≤ w.heap.size) (hlen : done.length + row.length ≤ 1048576)
  (h : ∀ p n c w',RowI w' base (.slice p n c) (done ++ row) → Below base w w' → wpList Try.prog ops Q rest (a.put o.dst (.slice p n c)) w') : wpList Try.prog ops Q (o :: rest) a w := by
 obtain ⟨i0,hi0,j0,j1,j2⟩ := info_parts int_info
 obtain ⟨pv,nv,cv,rfl⟩ := RowX.slice hR
 have hnv := RowX.len hR
 subst hnv
 obtain ⟨pr,nr,cr,rfl⟩ := hi.slice
 rcases hi.form with ⟨hnil,hz⟩ | ⟨gs,os,rfl,hpos,hnr2,hcl⟩
 ·subst hnil
  subst hz
  have hle : done.length ≤ cv := by
   rcases (RowX.own hR).2 with ⟨q1,q2⟩ | ⟨_,_,_,q1,_,_,q4,_⟩
   ·injection q1 with _ q1 q2; omega
   ·injection q1 with _ q1 q2; omega
  have hsrc : Src Try.prog i0.size 30 (.slice pr 0 cr) 0 [] w := by
   cases pr with
   | none => exact Src.ofNil w Try.underlying30 cr
   | some a => exact Src.ofSlice w Try.underlying30 a 0 cr [] (by simp) (by simp) (by simp)
  refine Lib.wpList_append_run w hgd s x _ _ ho _ _ hs hx _ _ (run_append_nothing (P:=Try.prog) w 30 30 _ 3 i0 Try.underlying30 hi0 pv done.length cv hle (.slice pr 0 cr) hsrc) ?_
  exact h _ _ _ _ (by rw [List.append_nil]; exact hR) (Below.refl _ _)
 ·subst hnr2
  refine wpList_append_lies w hgd s x 30 ho base 3 i0 _ 1 8 Try.underlying30 hi0 j0 j1 j2 rfl (by decide) (.slice pv done.length cv) done.length (done.flatMap cellsI) hs (RowX.own hR) ⟨gs,os,none⟩ row.length cr (row.flatMap cellsI) hx (flat_len7 cellsI 1 cellsI_len _) hcl (cellsI_one _) hpos (by unfold maxLen; omega) (by omega) hbase _ rfl ?_
  intro g2 cap w8 hown2 hgrow hat hlt
  exact h _ _ _ _ ⟨by rw [List.length_append,List.flatMap_append]; exact hown2,fun p hp => trivial⟩ ⟨hgrow.os,hgrow.tape,hgrow.output,hgrow.size,fun i hi => hgrow.block i (by omega) (fun e => by have := ((RowX.own hR).lt i e.symm).1; omega)⟩
theorem sameInts_any (B : Nat) (xs ys : List Int) (sx sy : Value) (w : World) (hB : B ≤ w.heap.size) (hx : IntsIs w B xs sx) (hy : IntsIs w B ys sy) :
  Calls Try.prog 11 #[sx,sy] w fun r w' => ∃ b : Bool,r = .returned (.bool b) ∧ (b = true ↔ xs = ys) ∧ Below w.heap.size w w' := by
 obtain ⟨px,nx,cx,rfl,hlx,_,_,hqx⟩ := hx
 obtain ⟨py,ny,cy,rfl,hly,_,_,hqy⟩ := hy
 have HLX := keep hlx
 have HLY := keep hly
 have HQX := keep hqx
 have HQY := keep hqy
 have HB0 := keep hB
 clear hlx hly hqx hqy hB
 by_cases hn : nx = ny
 ·subst hn
  go_enter Try.func11,Try.ntmps11
  go_wp2
  go_loopw [13] (fun i wx => ∃ j : Nat,j ≤ nx ∧ i = .int .i64 (j : Int) ∧ xs.take j = ys.take j ∧ Below w.heap.size w wx) (fun i _ => nx - (intOf i).toNat)
  case atStart => exact ⟨0,by omega,rfl,rfl,Below.refl _ _⟩
  case round =>
   obtain ⟨j,hjn,rfl,hs,hb⟩ := hrel
   have HS := keep hs
   have HBx := keep hb
   clear hs hb
   by_cases hjl : j < nx
   ·have d1 : decide ((j : Int) < (nx : Int)) = true := decide_eq_true (by omega)
    have hjz : (j : Int) < (nx : Int) := by omega
    have hj0 : (0 : Int) ≤ (j : Int) := by omega
    have hwr : IntKind.i64.wrap ((j : Int) + 1) = (j : Int) + 1 := by rw [IntKind.wrap_i64]; omega
    obtain ⟨x,hx⟩ : ∃ x,xs[j]? = some x := ⟨_,List.getElem?_eq_getElem (by rw [HLX.out]; exact hjl)⟩
    obtain ⟨y,hy⟩ : ∃ y,ys[j]? = some y := ⟨_,List.getElem?_eq_getElem (by rw [HLY.out]; exact hjl)⟩
    obtain ⟨gx,ox,rfl,hgx,hcx⟩ := HQX.out j x hx
    obtain ⟨gy,oy,rfl,hgy,hcy⟩ := HQY.out j y hy
    have hBw := HB0.out
    have HCX : Hid (∀ W,Below w.heap.size w W → W.cell? ⟨gx,ox + j,none⟩ = some (.int .i64 x) ∧ W.cell? ⟨gy,oy + j,none⟩ = some (.int .i64 y)) := fun W hW => ⟨by rw [cell_below hW (by omega)]; exact hcx,by rw [cell_below hW (by omega)]; exact hcy⟩
    have HX := keep hx
    have HY := keep hy
    clear hx hy hcx hcy hBw
    by_cases hxy : x = y
    ·subst hxy
     go_wp2_with fail
     refine wp_region_noPanic ?_
     refine Ord.wpM_begin (fun W' : World => W'.cell? ⟨gx,ox + j,none⟩ = some (.int .i64 x) ∧ W'.cell? ⟨gy,oy + j,none⟩ = some (.int .i64 x)) [0,1,2,3,4,5,6,7,8] (by kernel_rfl) ?_
     have HD : Hid (Below wr.heap.size wr wr.drew) := Below.drew (Below.refl _ _)
     have hS : wr.drew.cell? ⟨gx,ox + j,none⟩ = some (.int .i64 x) ∧ wr.drew.cell? ⟨gy,oy + j,none⟩ = some (.int .i64 x) := HCX.out _ (HBx.out.trans (HD.out.mono HBx.out.size))
     generalize wr.drew = wd at *
     refine Ord.tk (i:=0) (v:=.slice (some ⟨gx,ox,none⟩) nx cx) (hy:=Or.inl ⟨by rfl,by rintro W' ⟨q0,q1⟩; go_simp⟩) (hS:=hS) (h:=?_)
     try simp only [Act.put,Ord.t,Ord.z,Ord.s]
     refine Ord.tk (i:=1) (v:=.int .i64 (j : Int)) (hy:=Or.inl ⟨by rfl,by rintro W' ⟨q0,q1⟩; go_simp⟩) (hS:=hS) (h:=?_)
     try simp only [Act.put,Ord.t,Ord.z,Ord.s]
     refine Ord.tk (i:=2) (v:=.pointer (some ⟨gx,ox + j,none⟩)) (hy:=Or.inl ⟨by rfl,by rintro W' ⟨q0,q1⟩; go_simp⟩) (hS:=hS) (h:=?_)
     try simp only [Act.put,Ord.t,Ord.z,Ord.s]
     refine Ord.tk (i:=3) (v:=.int .i64 x) (hy:=Or.inl ⟨by rfl,by rintro W' ⟨q0,q1⟩; go_simp⟩) (hS:=hS) (h:=?_)
     try simp only [Act.put,Ord.t,Ord.z,Ord.s]
     refine Ord.tk (i:=4) (v:=.slice (some ⟨gy,oy,none⟩) nx cy) (hy:=Or.inl ⟨by rfl,by rintro W' ⟨q0,q1⟩; go_simp⟩) (hS:=hS) (h:=?_)
     try simp only [Act.put,Ord.t,Ord.z,Ord.s]
     refine Ord.tk (i:=5) (v:=.int .i64 (j : Int)) (hy:=Or.inl ⟨by rfl,by rintro W' ⟨q0,q1⟩; go_simp⟩) (hS:=hS) (h:=?_)
     try simp only [Act.put,Ord.t,Ord.z,Ord.s]
     refine Ord.tk (i:=6) (v:=.pointer (some ⟨gy,oy + j,none⟩)) (hy:=Or.inl ⟨by rfl,by rintro W' ⟨q0,q1⟩; go_simp⟩) (hS:=hS) (h:=?_)
     try simp only [Act.put,Ord.t,Ord.z,Ord.s]
     refine Ord.tk (i:=7) (v:=.int .i64 x) (hy:=Or.inl ⟨by rfl,by rintro W' ⟨q0,q1⟩; go_simp⟩) (hS:=hS) (h:=?_)
     try simp only [Act.put,Ord.t,Ord.z,Ord.s]
     refine Ord.tk (i:=8) (v:=.bool false) (hy:=Or.inl ⟨by rfl,by rintro W' ⟨q0,q1⟩; go_simp⟩) (hS:=hS) (h:=?_)
     try simp only [Act.put,Ord.t,Ord.z,Ord.s]
     refine Ord.wpM_done (by kernel_rfl) ?_ _
     refine NoPanic.normal ?_
     clear hS
     go_wp2
     go_roundw
     case rel => exact ⟨j + 1,by omega,by go_num,by rw [List.take_add_one,List.take_add_one,HS.out,HX.out,HY.out],HBx.out.trans (HD.out.mono HBx.out.size)⟩
     case measure => simp [intOf]; omega
    ·have hne : (x != y) = true := by rw [bne_iff_ne]; exact hxy
     have HN := keep hxy
     clear hxy
     go_wp2_with fail
     refine wp_region_noPanic ?_
     refine Ord.wpM_begin (fun W' : World => W'.cell? ⟨gx,ox + j,none⟩ = some (.int .i64 x) ∧ W'.cell? ⟨gy,oy + j,none⟩ = some (.int .i64 y)) [0,1,2,3,4,5,6,7,8] (by kernel_rfl) ?_
     have HD : Hid (Below wr.heap.size wr wr.drew) := Below.drew (Below.refl _ _)
     have hS : wr.drew.cell? ⟨gx,ox + j,none⟩ = some (.int .i64 x) ∧ wr.drew.cell? ⟨gy,oy + j,none⟩ = some (.int .i64 y) := HCX.out _ (HBx.out.trans (HD.out.mono HBx.out.size))
     generalize wr.drew = wd at *
     refine Ord.tk (i:=0) (v:=.slice (some ⟨gx,ox,none⟩) nx cx) (hy:=Or.inl ⟨by rfl,by rintro W' ⟨q0,q1⟩; go_simp⟩) (hS:=hS) (h:=?_)
     try simp only [Act.put,Ord.t,Ord.z,Ord.s]
     refine Ord.tk (i:=1) (v:=.int .i64 (j : Int)) (hy:=Or.inl ⟨by rfl,by rintro W' ⟨q0,q1⟩; go_simp⟩) (hS:=hS) (h:=?_)
     try simp only [Act.put,Ord.t,Ord.z,Ord.s]
     refine Ord.tk (i:=2) (v:=.pointer (some ⟨gx,ox + j,none⟩)) (hy:=Or.inl ⟨by rfl,by rintro W' ⟨q0,q1⟩; go_simp⟩) (hS:=hS) (h:=?_)
     try simp only [Act.put,Ord.t,Ord.z,Ord.s]
     refine Ord.tk (i:=3) (v:=.int .i64 x) (hy:=Or.inl ⟨by rfl,by rintro W' ⟨q0,q1⟩; go_simp⟩) (hS:=hS) (h:=?_)
     try simp only [Act.put,Ord.t,Ord.z,Ord.s]
     refine Ord.tk (i:=4) (v:=.slice (some ⟨gy,oy,none⟩) nx cy) (hy:=Or.inl ⟨by rfl,by rintro W' ⟨q0,q1⟩; go_simp⟩) (hS:=hS) (h:=?_)
     try simp only [Act.put,Ord.t,Ord.z,Ord.s]
     refine Ord.tk (i:=5) (v:=.int .i64 (j : Int)) (hy:=Or.inl ⟨by rfl,by rintro W' ⟨q0,q1⟩; go_simp⟩) (hS:=hS) (h:=?_)
     try simp only [Act.put,Ord.t,Ord.z,Ord.s]
     refine Ord.tk (i:=6) (v:=.pointer (some ⟨gy,oy + j,none⟩)) (hy:=Or.inl ⟨by rfl,by rintro W' ⟨q0,q1⟩; go_simp⟩) (hS:=hS) (h:=?_)
     try simp only [Act.put,Ord.t,Ord.z,Ord.s]
     refine Ord.tk (i:=7) (v:=.int .i64 y) (hy:=Or.inl ⟨by rfl,by rintro W' ⟨q0,q1⟩; go_simp⟩) (hS:=hS) (h:=?_)
     try simp only [Act.put,Ord.t,Ord.z,Ord.s]
     refine Ord.tk (i:=8) (v:=.bool true) (hy:=Or.inl ⟨by rfl,by rintro W' ⟨q0,q1⟩; go_simp⟩) (hS:=hS) (h:=?_)
     try simp only [Act.put,Ord.t,Ord.z,Ord.s]
     refine Ord.wpM_done (by kernel_rfl) ?_ _
     refine NoPanic.normal ?_
     clear hS
     have HE : Hid ((false = true) ↔ xs = ys) := ⟨fun h => (by cases h),fun h => by
      have h1 := HX.out
      rw [h,HY.out] at h1
      cases h1
      exact absurd rfl HN.out⟩
     have HBe := keep (HBx.out.trans (HD.out.mono HBx.out.size))
     clear HN HD
     go_wp2
     go_ret
     exact ⟨false,rfl,HE.out,HBe.out⟩
   ·have hje : j = nx := by omega
    subst hje
    have dl : decide ((j : Int) < (j : Int)) = false := decide_eq_false (by omega)
    have HE : Hid ((true = true) ↔ xs = ys) := by
     refine ⟨fun _ => ?_,fun _ => rfl⟩
     have h := HS.out
     rw [← HLX.out,List.take_length,HLX.out,← HLY.out,List.take_length] at h
     exact h
    clear hjl HS
    go_wp2
    go_ret
    first | exact ⟨true,rfl,HE.out,HBx.out⟩ | exact .inr ⟨rfl,HE.out.1 trivial,HBx.out⟩
 ·have hne : ((nx : Int) != (ny : Int)) = true := by rw [bne_iff_ne]; omega
  have HE : Hid ((false = true) ↔ xs = ys) := ⟨fun h => (by cases h),fun h => absurd (by rw [← HLX.out,← HLY.out,h]) hn⟩
  clear hn
  go_enter Try.func11,Try.ntmps11
  go_wp2
  go_ret
  exact ⟨false,rfl,HE.out,Below.refl _ _⟩
end Go.Proofs.Ytpnacanbknejiaa.Lr
