/- What fits, as the document says it; whether two lists of words are the same. Written by tools/gen_frfit.py. -/
import Derived.Test.YtfbmkcogkiejnaaLfFits
namespace Go.Proofs.Ytfbmkcogkiejnaa.Lr
set_option maxHeartbeats 32000000
set_option maxRecDepth 100000
set_option linter.unusedVariables false
set_option linter.unusedSimpArgs false
open Go.ChangeShapes Go.WideShapes Go.ChangeAt Go.RowKit Lg
theorem wpList_append_ints {w : World} {ops : Array Oper} {rest : List Oper} {o : Oper} {a : Act} {Q : Exit → Act → World → Prop} (hgd : o.guard = none) (s x : Operand) (ho : o.op = .call { callee := .builtin .append,args := #[s,x],argTypes := #[30,30] }) (base B : Nat) (v xs : Value) (done row : List Int) (hs : a.eval s = v) (hx : a.eval x = xs) (hR : RowI w base v done) (hi : IntsIs w B row xs) (hbase : base ≤ w.heap.size) (hlen : done.length + row.length ≤ 1048576)
  (h : ∀ p n c w',RowI w' base (.slice p n c) (done ++ row) → Below base w w' → wpList Try.prog ops Q rest (a.put o.dst (.slice p n c)) w') : wpList Try.prog ops Q (o :: rest) a w := by
 obtain ⟨i0,hi0,j0,j1,j2⟩ := info_parts int_info
 obtain ⟨pv,nv,cv,rfl⟩ := RowX.slice hR
 have hnv := RowX.len hR
 subst hnv
 obtain ⟨pr,nr,cr,rfl⟩ := hi.slice
 rcases hi.form with ⟨hnil,hz⟩ | ⟨gs,os,rfl,hpos,hnr2,hcl⟩
 ·subst hnil
  subst hz
  have hle : done.length ≤ cv := by
   rcases (RowX.own hR).2 with ⟨q1,q2⟩ | ⟨_,_,_,q1,_,_,q4,_⟩
   ·injection q1 with _ q1 q2; omega
   ·injection q1 with _ q1 q2; omega
  have hsrc : Src Try.prog i0.size 30 (.slice pr 0 cr) 0 [] w := by
   cases pr with
   | none => exact Src.ofNil w Try.underlying30 cr
   | some a => exact Src.ofSlice w Try.underlying30 a 0 cr [] (by simp) (by simp) (by simp)
  refine Lib.wpList_append_run w hgd s x _ _ ho _ _ hs hx _ _ (run_append_nothing (P:=Try.prog) w 30 30 _ 3 i0 Try.underlying30 hi0 pv done.length cv hle (.slice pr 0 cr) hsrc) ?_
  exact h _ _ _ _ (by rw [List.append_nil]; exact hR) (Below.refl _ _)
 ·subst hnr2
  refine wpList_append_lies w hgd s x 30 ho base 3 i0 _ 1 8 Try.underlying30 hi0 j0 j1 j2 rfl (by decide) (.slice pv done.length cv) done.length (done.flatMap cellsI) hs (RowX.own hR) ⟨gs,os,none⟩ row.length cr (row.flatMap cellsI) hx (flat_len7 cellsI 1 cellsI_len _) hcl (cellsI_one _) hpos (by unfold maxLen; omega) (by omega) hbase _ rfl ?_
  intro g2 cap w8 hown2 hgrow hat hlt
  exact h _ _ _ _ ⟨by rw [List.length_append,List.flatMap_append]; exact hown2,fun p hp => trivial⟩ ⟨hgrow.os,hgrow.tape,hgrow.output,hgrow.size,fun i hi => hgrow.block i (by omega) (fun e => by have := ((RowX.own hR).lt i e.symm).1; omega)⟩
theorem low5_any (a : Int) (w : World) : Calls Try.prog 39 #[.int .i64 a] w fun e w' => e = .returned (.int .i64 (a % 4294967296)) ∧ w' = w := by
 go_enter Try.func39,Try.ntmps39
 go_wp2
 go_ret
 refine ⟨Wd.ret_int ?_,rfl⟩
 go_num
theorem word_low {n : Int} : isW n ↔ n = n % 4294967296 := by
 unfold isW
 omega
theorem sameInts_any (B : Nat) (xs ys : List Int) (sx sy : Value) (w : World) (hB : B ≤ w.heap.size) (hx : IntsIs w B xs sx) (hy : IntsIs w B ys sy) :
  Calls Try.prog 11 #[sx,sy] w fun r w' => ∃ b : Bool,r = .returned (.bool b) ∧ (b = true ↔ xs = ys) ∧ Below w.heap.size w w' := by
 obtain ⟨px,nx,cx,rfl,hlx,_,_,hqx⟩ := hx
 obtain ⟨py,ny,cy,rfl,hly,_,_,hqy⟩ := hy
 have HLX := keep hlx
 have HLY := keep hly
 have HQX := keep hqx
 have HQY := keep hqy
 have HB0 := keep hB
 clear hlx hly hqx hqy hB
 by_cases hn : nx = ny
 ·subst hn
  go_enter Try.func11,Try.ntmps11
  go_wp2
  go_loopw [13] (fun i wx => ∃ j : Nat,j ≤ nx ∧ i = .int .i64 (j : Int) ∧ xs.take j = ys.take j ∧ Below w.heap.size w wx) (fun i _ => nx - (intOf i).toNat)
  case atStart => exact ⟨0,by omega,rfl,rfl,Below.refl _ _⟩
  case round =>
   obtain ⟨j,hjn,rfl,hs,hb⟩ := hrel
   have HS := keep hs
   have HBx := keep hb
   clear hs hb
   by_cases hjl : j < nx
   ·have d1 : decide ((j : Int) < (nx : Int)) = true := decide_eq_true (by omega)
    have hjz : (j : Int) < (nx : Int) := by omega
    have hj0 : (0 : Int) ≤ (j : Int) := by omega
    have hwr : IntKind.i64.wrap ((j : Int) + 1) = (j : Int) + 1 := by rw [IntKind.wrap_i64]; omega
    obtain ⟨x,hx⟩ : ∃ x,xs[j]? = some x := ⟨_,List.getElem?_eq_getElem (by rw [HLX.out]; exact hjl)⟩
    obtain ⟨y,hy⟩ : ∃ y,ys[j]? = some y := ⟨_,List.getElem?_eq_getElem (by rw [HLY.out]; exact hjl)⟩
    obtain ⟨gx,ox,rfl,hgx,hcx⟩ := HQX.out j x hx
    obtain ⟨gy,oy,rfl,hgy,hcy⟩ := HQY.out j y hy
    have hBw := HB0.out
    have HCX : Hid (∀ W,Below w.heap.size w W → W.cell? ⟨gx,ox + j,none⟩ = some (.int .i64 x) ∧ W.cell? ⟨gy,oy + j,none⟩ = some (.int .i64 y)) := fun W hW => ⟨by rw [cell_below hW (by omega)]; exact hcx,by rw [cell_below hW (by omega)]; exact hcy⟩
    have HX := keep hx
    have HY := keep hy
    clear hx hy hcx hcy hBw
    by_cases hxy : x = y
    ·subst hxy
     go_wp2_with fail
     refine wp_region_noPanic ?_
     refine Ord.wpM_begin (fun W' : World => W'.cell? ⟨gx,ox + j,none⟩ = some (.int .i64 x) ∧ W'.cell? ⟨gy,oy + j,none⟩ = some (.int .i64 x)) [0,1,2,3,4,5,6,7,8] (by kernel_rfl) ?_
     have HD : Hid (Below wr.heap.size wr wr.drew) := Below.drew (Below.refl _ _)
     have hS : wr.drew.cell? ⟨gx,ox + j,none⟩ = some (.int .i64 x) ∧ wr.drew.cell? ⟨gy,oy + j,none⟩ = some (.int .i64 x) := HCX.out _ (HBx.out.trans (HD.out.mono HBx.out.size))
     generalize wr.drew = wd at *
     refine Ord.tk (i:=0) (v:=.slice (some ⟨gx,ox,none⟩) nx cx) (hy:=Or.inl ⟨by rfl,by rintro W' ⟨q0,q1⟩; go_simp⟩) (hS:=hS) (h:=?_)
     try simp only [Act.put,Ord.t,Ord.z,Ord.s]
     refine Ord.tk (i:=1) (v:=.int .i64 (j : Int)) (hy:=Or.inl ⟨by rfl,by rintro W' ⟨q0,q1⟩; go_simp⟩) (hS:=hS) (h:=?_)
     try simp only [Act.put,Ord.t,Ord.z,Ord.s]
     refine Ord.tk (i:=2) (v:=.pointer (some ⟨gx,ox + j,none⟩)) (hy:=Or.inl ⟨by rfl,by rintro W' ⟨q0,q1⟩; go_simp⟩) (hS:=hS) (h:=?_)
     try simp only [Act.put,Ord.t,Ord.z,Ord.s]
     refine Ord.tk (i:=3) (v:=.int .i64 x) (hy:=Or.inl ⟨by rfl,by rintro W' ⟨q0,q1⟩; go_simp⟩) (hS:=hS) (h:=?_)
     try simp only [Act.put,Ord.t,Ord.z,Ord.s]
     refine Ord.tk (i:=4) (v:=.slice (some ⟨gy,oy,none⟩) nx cy) (hy:=Or.inl ⟨by rfl,by rintro W' ⟨q0,q1⟩; go_simp⟩) (hS:=hS) (h:=?_)
     try simp only [Act.put,Ord.t,Ord.z,Ord.s]
     refine Ord.tk (i:=5) (v:=.int .i64 (j : Int)) (hy:=Or.inl ⟨by rfl,by rintro W' ⟨q0,q1⟩; go_simp⟩) (hS:=hS) (h:=?_)
     try simp only [Act.put,Ord.t,Ord.z,Ord.s]
     refine Ord.tk (i:=6) (v:=.pointer (some ⟨gy,oy + j,none⟩)) (hy:=Or.inl ⟨by rfl,by rintro W' ⟨q0,q1⟩; go_simp⟩) (hS:=hS) (h:=?_)
     try simp only [Act.put,Ord.t,Ord.z,Ord.s]
     refine Ord.tk (i:=7) (v:=.int .i64 x) (hy:=Or.inl ⟨by rfl,by rintro W' ⟨q0,q1⟩; go_simp⟩) (hS:=hS) (h:=?_)
     try simp only [Act.put,Ord.t,Ord.z,Ord.s]
     refine Ord.tk (i:=8) (v:=.bool false) (hy:=Or.inl ⟨by rfl,by rintro W' ⟨q0,q1⟩; go_simp⟩) (hS:=hS) (h:=?_)
     try simp only [Act.put,Ord.t,Ord.z,Ord.s]
     refine Ord.wpM_done (by kernel_rfl) ?_ _
     refine NoPanic.normal ?_
     clear hS
     go_wp2
     go_roundw
     case rel => exact ⟨j + 1,by omega,by go_num,by rw [List.take_add_one,List.take_add_one,HS.out,HX.out,HY.out],HBx.out.trans (HD.out.mono HBx.out.size)⟩
     case measure => simp [intOf]; omega
    ·have hne : (x != y) = true := by rw [bne_iff_ne]; exact hxy
     have HN := keep hxy
     clear hxy
     go_wp2_with fail
     refine wp_region_noPanic ?_
     refine Ord.wpM_begin (fun W' : World => W'.cell? ⟨gx,ox + j,none⟩ = some (.int .i64 x) ∧ W'.cell? ⟨gy,oy + j,none⟩ = some (.int .i64 y)) [0,1,2,3,4,5,6,7,8] (by kernel_rfl) ?_
     have HD : Hid (Below wr.heap.size wr wr.drew) := Below.drew (Below.refl _ _)
     have hS : wr.drew.cell? ⟨gx,ox + j,none⟩ = some (.int .i64 x) ∧ wr.drew.cell? ⟨gy,oy + j,none⟩ = some (.int .i64 y) := HCX.out _ (HBx.out.trans (HD.out.mono HBx.out.size))
     generalize wr.drew = wd at *
     refine Ord.tk (i:=0) (v:=.slice (some ⟨gx,ox,none⟩) nx cx) (hy:=Or.inl ⟨by rfl,by rintro W' ⟨q0,q1⟩; go_simp⟩) (hS:=hS) (h:=?_)
     try simp only [Act.put,Ord.t,Ord.z,Ord.s]
     refine Ord.tk (i:=1) (v:=.int .i64 (j : Int)) (hy:=Or.inl ⟨by rfl,by rintro W' ⟨q0,q1⟩; go_simp⟩) (hS:=hS) (h:=?_)
     try simp only [Act.put,Ord.t,Ord.z,Ord.s]
     refine Ord.tk (i:=2) (v:=.pointer (some ⟨gx,ox + j,none⟩)) (hy:=Or.inl ⟨by rfl,by rintro W' ⟨q0,q1⟩; go_simp⟩) (hS:=hS) (h:=?_)
     try simp only [Act.put,Ord.t,Ord.z,Ord.s]
     refine Ord.tk (i:=3) (v:=.int .i64 x) (hy:=Or.inl ⟨by rfl,by rintro W' ⟨q0,q1⟩; go_simp⟩) (hS:=hS) (h:=?_)
     try simp only [Act.put,Ord.t,Ord.z,Ord.s]
     refine Ord.tk (i:=4) (v:=.slice (some ⟨gy,oy,none⟩) nx cy) (hy:=Or.inl ⟨by rfl,by rintro W' ⟨q0,q1⟩; go_simp⟩) (hS:=hS) (h:=?_)
     try simp only [Act.put,Ord.t,Ord.z,Ord.s]
     refine Ord.tk (i:=5) (v:=.int .i64 (j : Int)) (hy:=Or.inl ⟨by rfl,by rintro W' ⟨q0,q1⟩; go_simp⟩) (hS:=hS) (h:=?_)
     try simp only [Act.put,Ord.t,Ord.z,Ord.s]
     refine Ord.tk (i:=6) (v:=.pointer (some ⟨gy,oy + j,none⟩)) (hy:=Or.inl ⟨by rfl,by rintro W' ⟨q0,q1⟩; go_simp⟩) (hS:=hS) (h:=?_)
     try simp only [Act.put,Ord.t,Ord.z,Ord.s]
     refine Ord.tk (i:=7) (v:=.int .i64 y) (hy:=Or.inl ⟨by rfl,by rintro W' ⟨q0,q1⟩; go_simp⟩) (hS:=hS) (h:=?_)
     try simp only [Act.put,Ord.t,Ord.z,Ord.s]
     refine Ord.tk (i:=8) (v:=.bool true) (hy:=Or.inl ⟨by rfl,by rintro W' ⟨q0,q1⟩; go_simp⟩) (hS:=hS) (h:=?_)
     try simp only [Act.put,Ord.t,Ord.z,Ord.s]
     refine Ord.wpM_done (by kernel_rfl) ?_ _
     refine NoPanic.normal ?_
     clear hS
     have HE : Hid ((false = true) ↔ xs = ys) := ⟨fun h => (by cases h),fun h => by
      have h1 := HX.out
      rw [h,HY.out] at h1
      cases h1
      exact absurd rfl HN.out⟩
     have HBe := keep (HBx.out.trans (HD.out.mono HBx.out.size))
     clear HN HD
     go_wp2
     go_ret
     exact ⟨false,rfl,HE.out,HBe.out⟩
   ·have hje : j = nx := by omega
    subst hje
    have dl : decide ((j : Int) < (j : Int)) = false := decide_eq_false (by omega)
    have HE : Hid ((true = true) ↔ xs = ys) := by
     refine ⟨fun _ => ?_,fun _ => rfl⟩
     have h := HS.out
     rw [← HLX.out,List.take_length,HLX.out,← HLY.out,List.take_length] at h
     exact h
    clear hjl HS
    go_wp2
    go_ret
    first | exact ⟨true,rfl,HE.out,HBx.out⟩ | exact .inr ⟨rfl,HE.out.1 trivial,HBx.out⟩
 ·have hne : ((nx : Int) != (ny : Int)) = true := by rw [bne_iff_ne]; omega
  have HE : Hid ((false = true) ↔ xs = ys) := ⟨fun h => (by cases h),fun h => absurd (by rw [← HLX.out,← HLY.out,h]) hn⟩
  clear hn
  go_enter Try.func11,Try.ntmps11
  go_wp2
  go_ret
  exact ⟨false,rfl,HE.out,Below.refl _ _⟩
theorem no_words {l : List Int} {n : Nat} (hl : l.length = n) (h : ∀ k x,k < n → l[k]? = some x → isW x) : ∀ x ∈ l,isW x := fun x hx => by
 obtain ⟨k,hk⟩ := List.getElem?_of_mem hx
 exact h k x (by have := (List.getElem?_eq_some_iff.1 hk).1; omega) hk
theorem rfits_any (B : Nat) (ps rs : List Vr) (s1 s2 s3 : Value) (ws : List Int) (aa : List (List Int)) (gv : Value) (w : World) (hB : B ≤ w.heap.size) (h1 : VrIs w B ps s1) (h2 : VrIs w B rs s2) (h3 : ∃ p n c,s3 = .slice p n c) (hg : GvIs w B ws aa gv) (hT : ws.length = ps.length → aa.length = rs.length → ∀ j,(∀ (k : Nat) (v : Vr) (a : List Int),k < j → rs[k]? = some v → aa[k]? = some a → (a.length : Int) = v.size) → ws.length + sumL (aa.take j) ≤ 1048576) :
  Calls Try.prog 21 #[.agg #[s1,s2,s3],gv] w fun r w' => FitP ps rs ws aa w r w' := by
 obtain ⟨p1,n1,c1,hs1,hl1,_⟩ := id h1
 obtain ⟨p2,n2,c2,hs2,hl2,_,hb2,hq2⟩ := id h2
 obtain ⟨p3,n3,c3,rfl⟩ := h3
 obtain ⟨t1,t2,rfl,hi,ha⟩ := hg
 obtain ⟨p4,n4,c4,hs4,hl4,_⟩ := id hi
 obtain ⟨p5,n5,c5,hs5,hl5,_,_,hq5⟩ := id ha
 subst hs1 hs2 hs4 hs5
 obtain ⟨i0,hi0,j0,j1,j2⟩ := info_parts int_info
 obtain ⟨w0,hw0⟩ : ∃ y,w.alloc (.cells #[.slice p1 n1 c1,.slice p2 n2 c2,.slice p3 n3 c3] 49) = y := ⟨_,rfl⟩
 obtain ⟨w1,hw1⟩ : ∃ y,w0.alloc (.cells #[.slice p4 n4 c4,.slice p5 n5 c5] 33) = y := ⟨_,rfl⟩
 obtain ⟨bF,hbF⟩ : ∃ y,w.heap.size = y := ⟨_,rfl⟩
 obtain ⟨bG,hbG⟩ : ∃ y,w0.heap.size = y := ⟨_,rfl⟩
 have b0 : Below w.heap.size w w0 := by rw [← hw0]; exact (Below.refl _ _).alloc (Nat.le_refl _) _
 have b1 : Below w0.heap.size w0 w1 := by rw [← hw1]; exact (Below.refl _ _).alloc (Nat.le_refl _) _
 have b01 := b0.trans (b1.mono b0.size)
 have kF0 : Bk w0 bF [.slice p1 n1 c1,.slice p2 n2 c2,.slice p3 n3 c3] 49 := by rw [← hw0,← hbF]; exact Bk.new _ _ _
 have kF := kF0.fs (Fs.of_below (l:=[]) b1) (by simp)
 have kG : Bk w1 bG [.slice p4 n4 c4,.slice p5 n5 c5] 33 := by rw [← hw1,← hbG]; exact Bk.new _ _ _
 have HB01 := keep b01
 have HkF := keep kF
 have HkG := keep kG
 have HI := keep (hi.below (b01.mono hB))
 have HA := keep (ha.below (b01.mono hB))
 have HQ2 := keep hq2
 have HQ5 := keep hq5
 have HL1 := keep hl1
 have HL2 := keep hl2
 have HL4 := keep hl4
 have HL5 := keep hl5
 have HTT := keep hT
 have HBB : Hid (B ≤ w1.heap.size) := Nat.le_trans hB b01.size
 have HB0 := keep hB
 have f0 := kF.cell 0 rfl
 have f1 := kF.cell 1 rfl
 have g0 := kG.cell 0 rfl
 have g1 := kG.cell 1 rfl
 have HW0 := keep hw0
 have HW1 := keep hw1
 have HbF := keep hbF
 have HbG := keep hbG
 clear hw0 hw1 b0 b1 b01 kF0 kF kG hi ha hq2 hq5 hl1 hl2 hl4 hl5 hT hB h1 h2
 by_cases e1 : n4 = n1
 ·by_cases e2 : n5 = n2
  ·subst e1 e2
   clear hbF hbG
   have HTj : Hid (∀ j,(∀ (k : Nat) (v : Vr) (a : List Int),k < j → rs[k]? = some v → aa[k]? = some a → (a.length : Int) = v.size) → ws.length + sumL (aa.take j) ≤ 1048576) := HTT.out (by rw [HL4.out,HL1.out]) (by rw [HL5.out,HL2.out])
   obtain ⟨wb,hwb⟩ : ∃ y,w1.alloc (.cells #[] 3) = y := ⟨_,rfl⟩
   have HBb : Hid (Below w1.heap.size w1 wb) := by
    show Below _ _ _
    rw [← hwb]; exact (Below.refl _ _).alloc (Nat.le_refl _) _
   have HR : Hid (RowI wb w1.heap.size (.slice (some ⟨w1.heap.size,0,none⟩) 0 0) []) := by
    show RowI _ _ _ _
    refine ⟨⟨rfl,.inr ⟨w1.heap.size,0,#[],rfl,Nat.le_refl _,?_,Nat.le_refl _,by decide,by simp,by simp⟩⟩,by simp⟩
    rw [← hwb]; exact (MapKept.heap_alloc w1 _).1
   have HI0 := keep (HI.out.below (HBb.out.mono HBB.out))
   have HLe0 : Hid (([] : List Int).length + ws.length ≤ 1048576) := by
    show _ ≤ _
    have := HTj.out 0 (fun k v a hk => by omega)
    rw [List.length_nil]
    omega
   have HWb := keep hwb
   have g0b := (HkG.out.fs (Fs.of_below (l:=[]) HBb.out) (by simp)).cell 0 rfl
   clear hwb
   go_enter Try.func21,Try.ntmps21
   go_wp2_with (first | rw [HW0.out] | rw [HW1.out] | rw [HbF.out] | rw [HbG.out] | rw [HWb.out] | (at_builtin; refine wpList_append_ints rfl (.tmp 26) (.tmp 28) rfl w1.heap.size B _ _ [] ws rfl rfl HR.out HI0.out HBb.out.size HLe0.out ?_))
   intro p6 n6 k6 w6 hr6 hb6
   have HR6 := keep hr6
   have HB6 := keep (HBb.out.trans hb6)
   have g16 := (HkG.out.fs (Fs.of_below (l:=[]) HB6.out) (by simp)).cell 1 rfl
   clear hr6 hb6 HR HBb HWb g0b f0 f1 g0 g1
   go_wp2
   go_loopw [33,5] (fun i v wx => ∃ j : Nat,j ≤ n5 ∧ i = .int .i64 (j : Int) ∧ (∀ (k : Nat) (v : Vr) (a : List Int),k < j → rs[k]? = some v → aa[k]? = some a → (a.length : Int) = v.size) ∧ RowI wx w1.heap.size v (ws ++ (aa.take j).flatten) ∧ Below w1.heap.size w1 wx) (fun i _ _ => n5 - (intOf i).toNat)
   case atStart => exact ⟨0,by omega,rfl,fun k v a hk => by omega,by rw [List.take_zero,List.flatten_nil,List.append_nil]; exact HR6.out,HB6.out⟩
   case round =>
    clear HR6 HB6 g16
    obtain ⟨j,hjn,rfl,hsz,hrow,hbx⟩ := hrel
    have HSz := keep hsz
    have HX := keep hbx
    have HRow := keep hrow
    obtain ⟨pv,nv,cv,rfl⟩ := RowX.slice hrow
    clear hsz hbx hrow
    by_cases hjl : j < n5
    ·have d1 : decide ((j : Int) < (n5 : Int)) = true := decide_eq_true (by omega)
     have hjz : (j : Int) < (n5 : Int) := by omega
     have hj0 : (0 : Int) ≤ (j : Int) := by omega
     have hwr : IntKind.i64.wrap ((j : Int) + 1) = (j : Int) + 1 := by rw [IntKind.wrap_i64]; omega
     obtain ⟨v,hv⟩ : ∃ v,rs[j]? = some v := ⟨_,List.getElem?_eq_getElem (by rw [HL2.out]; exact hjl)⟩
     obtain ⟨row,hrow⟩ : ∃ row,aa[j]? = some row := ⟨_,List.getElem?_eq_getElem (by rw [HL5.out]; exact hjl)⟩
     obtain ⟨g,o,rfl,hgB,hat⟩ := HQ2.out j v hv
     obtain ⟨g5,o5,sr,rfl,hg5,hc5,hint⟩ := HQ5.out j row hrow
     obtain ⟨pr,nr,cr,rfl,hnr,_⟩ := id hint
     have hBw := HB0.out
     have HBx : Hid (Below w.heap.size w wr) := HB01.out.trans (HX.out.mono HB01.out.size)
     have hat := hat.below (HBx.out.mono HB0.out) hgB
     have c5' : wr.cell? ⟨g5,o5 + j,none⟩ = some (.slice pr nr cr) := by rw [cell_below HBx.out (by omega)]; exact hc5
     have f1 := (HkF.out.fs (Fs.of_below (l:=[]) HX.out) (by simp)).cell 1 rfl
     have a2 := hat.c2
     have HV := keep hv
     have HRw := keep hrow
     have HNr := keep hnr
     have HInt := keep (hint.below (HBx.out.mono HB0.out))
     obtain ⟨vn,vs,vz⟩ := v
     dsimp only at a2
     clear hv hrow hat hc5 hnr hint hBw
     by_cases hzz : vz = (nr : Int)
     ·subst hzz
      have HSz2 : Hid (∀ (k : Nat) (v : Vr) (a : List Int),k < j + 1 → rs[k]? = some v → aa[k]? = some a → (a.length : Int) = v.size) := fun k v a hk hv ha => by
       by_cases ek : k = j
       ·subst ek
        rw [HV.out] at hv
        rw [HRw.out] at ha
        cases hv
        cases ha
        show ((row.length : Nat) : Int) = (nr : Int)
        rw [HNr.out]
       ·exact HSz.out k v a (by omega) hv ha
      have HLe : Hid ((ws ++ (aa.take j).flatten).length + row.length ≤ 1048576) := by
       show _ ≤ _
       have := HTj.out (j + 1) HSz2.out
       rw [sumL_take aa j row HRw.out] at this
       rw [List.length_append,flat_len]
       omega
      go_wp2_with (first | (at_builtin; refine wpList_append_ints rfl (.tmp 47) (.tmp 48) rfl w1.heap.size B _ _ (ws ++ (aa.take j).flatten) row rfl rfl HRow.out HInt.out HX.out.size HLe.out ?_))
      intro p8 n8 k8 w8 hr8 hb8
      have HR8 : Hid (RowI w8 w1.heap.size (.slice p8 n8 k8) (ws ++ (aa.take (j + 1)).flatten)) := by
       show RowI _ _ _ _
       rw [List.take_add_one,HRw.out,Option.toList_some,List.flatten_append,← List.append_assoc]
       simpa using hr8
      have HB8 := keep (HX.out.trans hb8)
      clear hr8 hb8
      go_wp2
      go_roundw
      case rel => exact ⟨j + 1,by omega,by go_num,HSz2.out,HR8.out,HB8.out⟩
      case measure => simp [intOf]; omega
     ·have hne : ((nr : Int) != vz) = true := by
       rw [bne_iff_ne]; exact fun e => hzz e.symm
      have HE : Hid (FitP ps rs ws aa w (.returned (.int .i64 5)) wr) := by
       refine ⟨5,rfl,.many fun hs => hzz ?_,HBx.out⟩
       have := hs.s j _ _ HV.out HRw.out
       dsimp only at this
       rw [← this,HNr.out]
      clear hzz HSz HX HRow HInt
      go_wp2
      go_ret
      exact HE.out
    ·have hje : j = n5 := by omega
     subst hje
     have dl : decide ((j : Int) < (j : Int)) = false := decide_eq_false (by omega)
     have HShape : Hid (Shape ps rs ws aa) := ⟨HL4.out.trans HL1.out.symm,HL5.out.trans HL2.out.symm,fun i v a hv ha => HSz.out i v a (by have := (List.getElem?_eq_some_iff.1 hv).1; rw [HL2.out] at this; exact this) hv ha⟩
     have HTot : Hid (ws.length + sumL aa ≤ 1048576) := by
      show _ ≤ _
      have := HTj.out j HSz.out
      rw [← HL5.out,List.take_length] at this
      exact this
     have hrf : RowI wr w1.heap.size (.slice pv nv cv) (ws ++ aa.flatten) := by
      have := HRow.out
      rw [← HL5.out,List.take_length] at this
      exact this
     have hnv := RowX.len hrf
     have HIn : Hid (IntsIs wr wr.heap.size (ws ++ aa.flatten) (.slice pv nv cv)) := RowI.ints hrf (by rw [List.length_append,flat_len]; have := HTot.out; omega)
     have HLn : Hid ((ws ++ aa.flatten).length = nv) := hnv.symm
     have hnvb : nv ≤ 1048576 := by
      have := HTot.out
      rw [hnv,List.length_append,flat_len]
      exact this
     clear hjl hrf hnv HRow
     go_wp2
     go_loopw [53] (fun i wx => ∃ k : Nat,k ≤ nv ∧ i = .int .i64 (k : Int) ∧ (∀ q x,q < k → (ws ++ aa.flatten)[q]? = some x → isW x) ∧ Below wr.heap.size wr wx) (fun i _ => nv - (intOf i).toNat)
     case atStart => exact ⟨0,by omega,rfl,fun q x hq => by omega,Below.refl _ _⟩
     case round =>
      obtain ⟨k,hkn,rfl,hno,hbq⟩ := hrel
      have HNo := keep hno
      have HQ := keep hbq
      clear hno hbq
      by_cases hkl : k < nv
      ·have d1 : decide ((k : Int) < (nv : Int)) = true := decide_eq_true (by omega)
       have hkz : (k : Int) < (nv : Int) := by omega
       have hk0 : (0 : Int) ≤ (k : Int) := by omega
       have hwr : IntKind.i64.wrap ((k : Int) + 1) = (k : Int) + 1 := by rw [IntKind.wrap_i64]; omega
       obtain ⟨x,hx⟩ : ∃ x,(ws ++ aa.flatten)[k]? = some x := ⟨_,List.getElem?_eq_getElem (by rw [HLn.out]; exact hkl)⟩
       obtain ⟨pq,nq,cq,eq0,_,_,_,hq⟩ := HIn.out
       injection eq0 with eq1 eq2 eq3
       obtain ⟨gq,oq,eq4,hgq,hcq⟩ := hq k x hx
       rw [← eq1] at eq4
       subst eq4
       have cq' : wr.cell? ⟨gq,oq + k,none⟩ = some (.int .i64 x) := by rw [cell_below HQ.out hgq]; exact hcq
       have HXk := keep hx
       have HLo := keep (low5_any x wr)
       clear hx hcq hq eq1 eq2 eq3
       go_wp2_with fail
       refine HLo.out.mono ?_
       rintro r w9 ⟨rfl,rfl⟩
       by_cases hww : x = x % 4294967296
       ·have hwd := word_low.2 hww
        have HWd := keep hwd
        rw [← hww]
        clear hww hwd HLo
        go_wp2
        go_roundw
        case rel => exact ⟨k + 1,by omega,by go_num,fun q y hq hy => by
         by_cases eqk : q = k
         ·subst eqk
          rw [HXk.out] at hy
          cases hy
          exact HWd.out
         ·exact HNo.out q y (by omega) hy,HQ.out⟩
        case measure => simp [intOf]; omega
       ·have hne : (x != x % 4294967296) = true := by rw [bne_iff_ne]; exact hww
        have HE : Hid (FitP ps rs ws aa w (.returned (.int .i64 3)) w9) := by
         refine ⟨3,rfl,.range HShape.out fun hall => hww (word_low.1 ?_),HB01.out.trans ((HX.out.trans (HQ.out.mono HX.out.size)).mono HB01.out.size)⟩
         have hm := List.mem_of_getElem? HXk.out
         rcases List.mem_append.1 hm with hm | hm
         ·exact (allW_flat.1 hall).1 x hm
         ·exact (allW_flat.1 hall).2 x hm
        clear hww HLo
        go_wp2
        go_ret
        exact HE.out
      ·have hke : k = nv := by omega
       subst hke
       have dl : decide ((k : Int) < (k : Int)) = false := decide_eq_false (by omega)
       have HE : Hid (FitP ps rs ws aa w (.returned (.int .i64 0)) wr) := by
        have hall := no_words HLn.out HNo.out
        exact ⟨0,rfl,.ok HShape.out (allW_flat.2 ⟨fun x hx => hall x (List.mem_append.2 (.inl hx)),fun x hx => hall x (List.mem_append.2 (.inr hx))⟩),HB01.out.trans ((HX.out.trans (HQ.out.mono HX.out.size)).mono HB01.out.size)⟩
       clear hkl
       go_wp2
       go_ret
       exact HE.out
  ·have hne : ((n5 : Int) != (n2 : Int)) = true := by rw [bne_iff_ne]; omega
   have HE : Hid (FitP ps rs ws aa w (.returned (.int .i64 5)) w1) := ⟨5,rfl,.many fun hs => e2 (by have := hs.a; rw [HL5.out,HL2.out] at this; exact this),HB01.out⟩
   subst e1
   have HE2 := keep e2
   clear hbF hbG e2
   go_enter Try.func21,Try.ntmps21
   go_wp2_with (first | rw [HW0.out] | rw [HW1.out] | rw [HbF.out] | rw [HbG.out])
   all_goals first | (go_ret; exact HE.out) | exact absurd (by omega) HE2.out | skip
 ·have hne : ((n4 : Int) != (n1 : Int)) = true := by rw [bne_iff_ne]; omega
  have HE : Hid (FitP ps rs ws aa w (.returned (.int .i64 5)) w1) := ⟨5,rfl,.many fun hs => e1 (by have := hs.w; rw [HL4.out,HL1.out] at this; exact this),HB01.out⟩
  have HE1 := keep e1
  clear hbF hbG e1
  go_enter Try.func21,Try.ntmps21
  go_wp2_with (first | rw [HW0.out] | rw [HW1.out] | rw [HbF.out] | rw [HbG.out])
  all_goals first | (go_ret; exact HE.out) | exact absurd (by omega) HE1.out | skip
end Go.Proofs.Ytfbmkcogkiejnaa.Lr
