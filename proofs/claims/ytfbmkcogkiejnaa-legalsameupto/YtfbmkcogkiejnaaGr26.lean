/- Laid together: FrCheck, FlWays. -/
import Derived.Test.YtfbmkcogkiejnaaGr25
import Derived.Test.YtfbmkcogkiejnaaGr21
namespace Go.Proofs.Ytfbmkcogkiejnaa.Fl
set_option maxHeartbeats 32000000
set_option maxRecDepth 100000
set_option linter.unusedVariables false
set_option linter.unusedSimpArgs false
open Go.ChangeShapes Go.WideShapes Go.ChangeAt Go.RowKit Lg Lr
theorem kRound_eq : kRound = .seq (fstC kRound) (.seq (.cond (.tmp 44) .skip (.exit 0)) (.seq (.block 1 kOne) (sndC (sndC (sndC kRound))))) := by kernel_rfl
theorem eval_slotK (a : Act) (i : Nat) : a.eval (.tmp i) = slot a i := by
 obtain ⟨⟨l⟩,d⟩ := a
 show (Array.mk l).getD i undef = l.getD i undef
 rw [List.getD_eq_getElem?_getD,Array.getD_eq_getD_getElem?,List.getElem?_toArray]
theorem rk_test {aa : Act} {F n1 n2 k c1 : Nat} {p1 : Option Addr} (hF : FC aa F n1 n2 k c1 p1) (w : World) {q : Bool} (hq : decide ((k : Int) < (n1 : Int)) = q) :
  (fstC kRound).wp Try.prog (OnB fun a' w' => FC a' F n1 n2 k c1 p1 ∧ slot a' 44 = .bool q ∧ w' = w) aa w := by
 obtain ⟨gg,rfl⟩ := hF.opens
 have hq2 : decide (k < n1) = q := by rw [← hq]; simp
 clear hF hq
 conv => arg 2; whnf
 go_wp2
 exact ⟨rfl,⟨⟨rfl,rfl⟩,rfl,rfl,rfl,rfl,rfl⟩,by first | rfl | (show Value.bool _ = _; rw [hq2]),rfl⟩
theorem rk_next {aa : Act} {F n1 n2 k c1 : Nat} {p1 : Option Addr} (hF : FC aa F n1 n2 k c1 p1) (w : World) (hk : k ≤ 12000) :
  (sndC (sndC (sndC kRound))).wp Try.prog (OnB fun a' w' => FC a' F n1 n2 (k + 1) c1 p1 ∧ w' = w) aa w := by
 obtain ⟨gg,rfl⟩ := hF.opens
 have hwr : IntKind.i64.wrap ((k : Int) + 1) = ((k + 1 : Nat) : Int) := by rw [IntKind.wrap_i64]; omega
 clear hF
 conv => arg 2; whnf
 go_wp2
 refine ⟨rfl,⟨⟨rfl,rfl⟩,rfl,rfl,rfl,rfl,?_⟩,rfl⟩
 first | rfl | (show Value.int _ _ = _; rw [hwr]) | (show Value.int .i64 _ = _; congr 1; unfold wrap64; omega) | (show Value.int .i64 _ = _; congr 1; omega)
theorem inB {id : Nat} {Q : Exit → Act → World → Prop} {a : Act} {w : World} (h : Q .normal a w) : Exit.inBlock id Q (.exit id) a w := by
 show (if id = id then Q .normal a w else Q (.exit id) a w)
 rw [if_pos rfl]; exact h
theorem k_loop {Q : Exit → Act → World → Prop} {aa : Act} (F n1 n2 c1 B : Nat) (f : Fx) (p1 p2 p3 : Option Addr) (c2 n3 c3 : Nat) (hF : FC aa F n1 n2 0 c1 p1) (w : World) (hb : BoxF w F B f (.slice p1 n1 c1) (.slice p2 n2 c2) (.slice p3 n3 c3)) (hn : n1 ≤ 12000)
  (hR : ∀ a' w' (e k : Int),FE a' e k → chkL f 0 f.code = (e,k) → Below w.heap.size w w' → Q .ret a' w') (hX : ∀ a' w',FC a' F n1 n2 n1 c1 p1 → chkL f 0 f.code = endF f → Below w.heap.size w w' → Q (.exit 0) a' w') :
  (Code.loop kRound).wp Try.prog Q aa w := by
 have hn1 : f.code.length = n1 := by obtain ⟨q1,q2,q3,q4,q5,_⟩ := hb.is.code; cases q4; exact q5
 refine wp_loop (fun a' w' => ∃ k,k ≤ n1 ∧ FC a' F n1 n2 k c1 p1 ∧ chkL f 0 f.code = chkL f (k : Int) (f.code.drop k) ∧ Below w.heap.size w w') (fun a' _ => n1 - (intOf (slot a' 43)).toNat) ⟨0,Nat.zero_le _,hF,rfl,Below.refl _ _⟩ ?_
 rintro a' w' ⟨k,hk,hF',hch,hbw⟩
 rw [kRound_eq]
 have hb' := hb.below hbw
 by_cases hkl : k < n1
 ·refine OnB.go (rk_test hF' w' (q:=true) (decide_eq_true (by omega))) ?_
  rintro a2 w2 ⟨hF2,hs2,rfl⟩
  refine wp_seq (wp_cond_true (by rw [eval_slotK]; exact hs2) (wp_skip ?_))
  obtain ⟨i,hi⟩ : ∃ i,f.code[k]? = some i := ⟨_,List.getElem?_eq_getElem (by rw [hn1]; exact hkl)⟩
  obtain ⟨q1,q2,q3,q4,q5,q6,q7,q8⟩ := id hb'.is.code
  cases q4
  obtain ⟨g,o,hp,hgB,hix⟩ := q8 k i hi
  refine wp_seq (wp_block (wp_mono (one_ok F _ n2 k _ B f _ p2 p3 c2 n3 c3 g o i hp hF2 w2 hb' hix hkl) ?_))
  rintro e a3 w3 ⟨hb3,⟨rfl,hF3,hw⟩ | ⟨rfl,hF3,hw⟩⟩
  ·show (sndC (sndC (sndC kRound))).wp Try.prog _ a3 w3
   refine wp_mono (rk_next hF3 w3 (by omega)) ?_
   rintro e a4 w4 ⟨rfl,hF4,rfl⟩
   refine ⟨⟨k + 1,hkl,hF4,chk_on hch hi hw,hbw.trans (hb3.mono hbw.size)⟩,?_⟩
   rw [hF4.s43,hF'.s43]
   simp [intOf]; omega
  ·exact hR a3 w3 _ _ hF3 (chk_at hch hi hw) (hbw.trans (hb3.mono hbw.size))
 ·have hke : k = n1 := by omega
  subst hke
  refine OnB.go (rk_test hF' w' (q:=false) (decide_eq_false (by omega))) ?_
  rintro a2 w2 ⟨hF2,hs2,rfl⟩
  refine wp_seq (wp_cond_false (by rw [eval_slotK]; exact hs2) (wp_exit ?_))
  refine hX a2 w2 hF2 ?_ hbw
  rw [hch,List.drop_eq_nil_of_le (by rw [hn1]; exact Nat.le_refl _),chkL]
theorem getD_slot (a : Act) (i : Nat) : a.tmps.getD i undef = slot a i := by
 obtain ⟨⟨l⟩,d⟩ := a
 show (Array.mk l).getD i undef = l.getD i undef
 rw [List.getD_eq_getElem?_getD,Array.getD_eq_getD_getElem?,List.getElem?_toArray]
theorem rcheck_any (B : Nat) (f : Fx) (s1 s2 s3 : Value) (w : World) (hB : B ≤ w.heap.size) (h : FxIs w B f s1 s2 s3) :
  Calls Try.prog 17 #[.agg (fxA f s1 s2 s3)] w fun r w' => ChkP f w r w' := by
 obtain ⟨p1,n1,c1,hs1,hn1,_,hm1,hq1⟩ := id h.code
 obtain ⟨p2,n2,c2,hs2,hn2,_,hm2,_⟩ := id h.sec
 obtain ⟨p3,n3,c3,hs3,hn3,_,hm3,_⟩ := id h.arrs
 subst hs1 hs2 hs3
 obtain ⟨pr,hpr⟩ : ∃ y,f.params = y := ⟨_,rfl⟩
 have HPr := keep hpr
 obtain ⟨w1,hw1⟩ : ∃ y,w.alloc (.cells #[.slice p1 n1 c1,.slice p2 n2 c2,.int .i64 pr,.slice p3 n3 c3] 26) = y := ⟨_,rfl⟩
 obtain ⟨P,hP⟩ : ∃ y,w.heap.size = y := ⟨_,rfl⟩
 have b1 : Below w.heap.size w w1 := by rw [← hw1]; exact (Below.refl _ _).alloc (Nat.le_refl _) _
 have kP : Bk w1 P [.slice p1 n1 c1,.slice p2 n2 c2,.int .i64 f.params,.slice p3 n3 c3] 26 := by rw [hpr,← hw1,← hP]; exact Bk.new _ _ _
 have h1 := h.below (b1.mono hB)
 have hF : BoxF w1 P B f (.slice p1 n1 c1) (.slice p2 n2 c2) (.slice p3 n3 c3) := ⟨kP,h1,by have := b1.size; omega⟩
 have y0 := kP.cell 0 rfl
 have y1 := kP.cell 1 rfl
 have y2 := kP.cell 2 rfl
 have y3 := kP.cell 3 rfl
 rw [hpr] at y2
 have HF := keep hF
 have HW1 := keep hw1
 have HP := keep hP
 have HBw := keep b1
 have HN1 := keep hn1
 have HN2 := keep hn2
 have HN3 := keep hn3
 have HNo : Hid (n1 = 0 ∨ 12000 < n1 ∨ pr < 0 ∨ (n2 : Int) < pr → checkF f = (4,-1)) := fun ho => by
  unfold checkF
  rw [if_neg]
  unfold room
  rw [HN1.out,HN2.out,HPr.out]
  simp only [Bool.and_eq_true,Bool.not_eq_true',decide_eq_false_iff_not]
  omega
 have HYes : Hid (¬ (n1 = 0 ∨ 12000 < n1 ∨ pr < 0 ∨ (n2 : Int) < pr) → checkF f = chkL f 0 f.code) := fun ho => by
  unfold checkF
  rw [if_pos]
  unfold room
  rw [HN1.out,HN2.out,HPr.out]
  simp only [Bool.and_eq_true,Bool.not_eq_true',decide_eq_false_iff_not]
  omega
 unfold fxA
 rw [hpr]
 clear hw1 hP b1 kP hF hq1 hn1 hn2 hn3 h hB h1 hpr
 by_cases g1 : n1 = 0
 ·have HE := keep (HNo.out (.inl g1))
  subst g1
  clear HNo HYes
  go_enter Try.func17,Try.ntmps17
  go_wp2_with (first | rw [HW1.out] | rw [HP.out])
  refine bodyPost_ret (results_tmp2 rfl _ _ _) rfl ?_
  exact .mk HE.out HBw.out
 ·have d1 : ((n1 : Int) == 0) = false := by rw [beq_eq_false_iff_ne]; omega
  by_cases g2 : 12000 < n1
  ·have d2 : decide ((12000 : Int) < (n1 : Int)) = true := decide_eq_true (by omega)
   have HE := keep (HNo.out (.inr (.inl g2)))
   clear g1 g2 HNo HYes
   go_enter Try.func17,Try.ntmps17
   go_wp2_with (first | rw [HW1.out] | rw [HP.out])
   refine bodyPost_ret (results_tmp2 rfl _ _ _) rfl ?_
   exact .mk HE.out HBw.out
  ·have d2 : decide ((12000 : Int) < (n1 : Int)) = false := decide_eq_false (by omega)
   by_cases g3 : pr < 0
   ·have d3 : decide (pr < 0) = true := decide_eq_true g3
    have HE := keep (HNo.out (.inr (.inr (.inl g3))))
    clear g1 g2 g3 HNo HYes
    go_enter Try.func17,Try.ntmps17
    go_wp2_with (first | rw [HW1.out] | rw [HP.out])
    refine bodyPost_ret (results_tmp2 rfl _ _ _) rfl ?_
    exact .mk HE.out HBw.out
   ·have d3 : decide (pr < 0) = false := decide_eq_false g3
    by_cases g4 : (n2 : Int) < pr
    ·have d4 : decide ((n2 : Int) < pr) = true := decide_eq_true g4
     have HE := keep (HNo.out (.inr (.inr (.inr g4))))
     clear g1 g2 g3 g4 HNo HYes
     go_enter Try.func17,Try.ntmps17
     go_wp2_with (first | rw [HW1.out] | rw [HP.out])
     refine bodyPost_ret (results_tmp2 rfl _ _ _) rfl ?_
     exact .mk HE.out HBw.out
    ·have d4 : decide ((n2 : Int) < pr) = false := decide_eq_false g4
     have HE := keep (HYes.out (by omega))
     have HG : Hid (1 ≤ n1 ∧ n1 ≤ 12000) := ⟨by omega,by omega⟩
     clear g1 g2 g3 g4 HNo HYes
     go_enter Try.func17,Try.ntmps17
     go_wp2_with (first | rw [HW1.out] | rw [HP.out])
     refine k_loop P n1 n2 c1 B f p1 p2 p3 c2 n3 c3 ⟨⟨rfl,rfl⟩,rfl,rfl,rfl,rfl,rfl⟩ w1 HF.out HG.out.2 ?_ ?_
     ·intro a' w' e k hFE hch hb
      have HG2 : Hid (ChkP f w (.returned (.tuple #[.int .i64 e,.int .i64 k])) w') := .mk (by rw [HE.out,hch]) (HBw.out.trans (hb.mono HBw.out.size))
      have h2 := hFE.s2
      have h3 := hFE.s3
      refine bodyPost_ret (results_tmp2 rfl _ _ _) hFE.wide.dfr ?_
      rw [show a'.tmps.getD 2 undef = slot a' 2 from (getD_slot a' 2),show a'.tmps.getD 3 undef = slot a' 3 from (getD_slot a' 3),h2,h3]
      exact HG2.out
     ·intro a' w' hFC hch hb
      obtain ⟨gg,rfl⟩ := hFC.opens
      have kF := HF.out.below hb
      have y0 := kF.box.cell 0 rfl
      have hwr : IntKind.i64.wrap ((n1 : Int) - 1) = ((n1 - 1 : Nat) : Int) := by
       have := HG.out
       rw [IntKind.wrap_i64]; omega
      have hz0 : (0 : Int) ≤ ((n1 - 1 : Nat) : Int) := by omega
      have hz1 : ((n1 - 1 : Nat) : Int) < (n1 : Int) := by have := HG.out; omega
      obtain ⟨x,hx⟩ : ∃ x,f.code[n1 - 1]? = some x := ⟨_,List.getElem?_eq_getElem (by rw [HN1.out]; have := HG.out; omega)⟩
      obtain ⟨t1,t2,t3,t4,t5,_,_,t8⟩ := kF.is.code
      cases t4
      obtain ⟨g,o,rfl,hg,hix⟩ := t8 (n1 - 1) x hx
      obtain ⟨op,d,a,b,c,imm⟩ := x
      have z0 := hix.c0
      dsimp only at z0
      have HEnd : Hid (checkF f = if lst op = true then (0,-1) else (8,((n1 - 1 : Nat) : Int))) := by
       show _ = _
       rw [HE.out,hch]
       unfold endF
       rw [List.getLast?_eq_getElem?,HN1.out,hx]
       dsimp only
       split
       ·rfl
       ·have := HG.out
        congr 1
        omega
      have HBX := keep (HBw.out.trans (hb.mono HBw.out.size))
      have HkF := keep kF.box
      clear hFC hch hb kF t8 hg hix hx
      refine inB ?_
      have hcl : op = 18 ∨ op = 20 ∨ op = 21 ∨ op = 19 ∨ op < 18 ∨ 21 < op := by omega
      rcases hcl with rfl | rfl | rfl | rfl | h | h
      iterate 3
       ·go_wp2
        refine bodyPost_ret (results_tmp2 rfl _ _ _) rfl ?_
        exact .mk (by rw [HEnd.out]; rfl) HBX.out
      ·have HE2 : Hid (checkF f = (8,((n1 - 1 : Nat) : Int))) := by show _ = _; rw [HEnd.out]; rfl
       clear HEnd
       go_wp2_with fail
       have HSS : Hid (∀ W',Below w'.heap.size w' W' → W'.cell? ⟨P,0,none⟩ = some (.slice (some ⟨g,o,none⟩) n1 c1)) := fun W' hW => (HkF.out.fs (Fs.of_below (l:=[]) hW) (by simp)).cell 0 rfl
       refine wp_region_noPanic ?_
       refine Ord.wpM_begin (fun W' : World => W'.cell? ⟨P,0,none⟩ = some (.slice (some ⟨g,o,none⟩) n1 c1)) [0,1,2,3,4,5] (by kernel_rfl) ?_
       have HD : Hid (Below w'.heap.size w' w'.drew) := Below.drew (Below.refl _ _)
       generalize w'.drew = wd at *
       have hS := HSS.out wd HD.out
       refine Ord.tk (i:=0) (v:=.pointer (some ⟨P,0,none⟩)) (hy:=Or.inl ⟨by rfl,by intro W' hW; have q0 := hW; go_simp⟩) (hS:=hS) (h:=?_)
       try simp only [Act.put,Ord.t,Ord.z,Ord.s]
       refine Ord.tk (i:=1) (v:=.slice (some ⟨g,o,none⟩) n1 c1) (hy:=Or.inl ⟨by rfl,by intro W' hW; have q0 := hW; go_simp⟩) (hS:=hS) (h:=?_)
       try simp only [Act.put,Ord.t,Ord.z,Ord.s]
       refine Ord.tk (i:=2) (v:=.int .i64 (n1 : Int)) (hy:=Or.inl ⟨by rfl,by intro W' hW; have q0 := hW; go_simp⟩) (hS:=hS) (h:=?_)
       try simp only [Act.put,Ord.t,Ord.z,Ord.s]
       refine Ord.tk (i:=3) (v:=.int .i64 ((n1 - 1 : Nat) : Int)) (hy:=Or.inl ⟨by rfl,by intro W' hW; have q0 := hW; go_simp⟩) (hS:=hS) (h:=?_)
       try simp only [Act.put,Ord.t,Ord.z,Ord.s]
       refine Ord.tk (i:=4) (v:=.int .i64 8) (hy:=Or.inl ⟨by rfl,by intro W' hW; have q0 := hW; go_simp⟩) (hS:=hS) (h:=?_)
       try simp only [Act.put,Ord.t,Ord.z,Ord.s]
       refine Ord.on (i:=5) (h:=fun K hK => ?_)
       go_simp
       refine hK.out _ _ (fun _ => hS) ?_
       clear hK K
       try simp only [Act.put,Ord.t,Ord.z,Ord.s]
       refine Ord.wpM_done (by kernel_rfl) ?_ _
       refine NoPanic.normal ?_
       have HBY : Hid (Below w.heap.size w wd) := HBX.out.trans (HD.out.mono HBX.out.size)
       clear HSS hS
       go_wp2
       refine bodyPost_ret (results_tmp2 rfl _ _ _) rfl ?_
       exact .mk HE2.out HBY.out
      ·have d18 : decide (op < 18) = true := decide_eq_true h
       have HE2 : Hid (checkF f = (8,((n1 - 1 : Nat) : Int))) := by show _ = _; rw [HEnd.out,if_neg]; unfold lst; simp; omega
       clear HEnd h
       go_wp2_with fail
       have HSS : Hid (∀ W',Below w'.heap.size w' W' → W'.cell? ⟨P,0,none⟩ = some (.slice (some ⟨g,o,none⟩) n1 c1)) := fun W' hW => (HkF.out.fs (Fs.of_below (l:=[]) hW) (by simp)).cell 0 rfl
       refine wp_region_noPanic ?_
       refine Ord.wpM_begin (fun W' : World => W'.cell? ⟨P,0,none⟩ = some (.slice (some ⟨g,o,none⟩) n1 c1)) [0,1,2,3,4,5] (by kernel_rfl) ?_
       have HD : Hid (Below w'.heap.size w' w'.drew) := Below.drew (Below.refl _ _)
       generalize w'.drew = wd at *
       have hS := HSS.out wd HD.out
       refine Ord.tk (i:=0) (v:=.pointer (some ⟨P,0,none⟩)) (hy:=Or.inl ⟨by rfl,by intro W' hW; have q0 := hW; go_simp⟩) (hS:=hS) (h:=?_)
       try simp only [Act.put,Ord.t,Ord.z,Ord.s]
       refine Ord.tk (i:=1) (v:=.slice (some ⟨g,o,none⟩) n1 c1) (hy:=Or.inl ⟨by rfl,by intro W' hW; have q0 := hW; go_simp⟩) (hS:=hS) (h:=?_)
       try simp only [Act.put,Ord.t,Ord.z,Ord.s]
       refine Ord.tk (i:=2) (v:=.int .i64 (n1 : Int)) (hy:=Or.inl ⟨by rfl,by intro W' hW; have q0 := hW; go_simp⟩) (hS:=hS) (h:=?_)
       try simp only [Act.put,Ord.t,Ord.z,Ord.s]
       refine Ord.tk (i:=3) (v:=.int .i64 ((n1 - 1 : Nat) : Int)) (hy:=Or.inl ⟨by rfl,by intro W' hW; have q0 := hW; go_simp⟩) (hS:=hS) (h:=?_)
       try simp only [Act.put,Ord.t,Ord.z,Ord.s]
       refine Ord.tk (i:=4) (v:=.int .i64 8) (hy:=Or.inl ⟨by rfl,by intro W' hW; have q0 := hW; go_simp⟩) (hS:=hS) (h:=?_)
       try simp only [Act.put,Ord.t,Ord.z,Ord.s]
       refine Ord.on (i:=5) (h:=fun K hK => ?_)
       go_simp
       refine hK.out _ _ (fun _ => hS) ?_
       clear hK K
       try simp only [Act.put,Ord.t,Ord.z,Ord.s]
       refine Ord.wpM_done (by kernel_rfl) ?_ _
       refine NoPanic.normal ?_
       have HBY : Hid (Below w.heap.size w wd) := HBX.out.trans (HD.out.mono HBX.out.size)
       clear HSS hS
       go_wp2
       refine bodyPost_ret (results_tmp2 rfl _ _ _) rfl ?_
       exact .mk HE2.out HBY.out
      ·have d18 : decide (op < 18) = false := decide_eq_false (by omega)
       have d21 : decide (21 < op) = true := decide_eq_true h
       have k19 : (op == 19) = false := by rw [beq_eq_false_iff_ne]; omega
       have HE2 : Hid (checkF f = (8,((n1 - 1 : Nat) : Int))) := by show _ = _; rw [HEnd.out,if_neg]; unfold lst; simp; omega
       clear HEnd h
       go_wp2_with fail
       have HSS : Hid (∀ W',Below w'.heap.size w' W' → W'.cell? ⟨P,0,none⟩ = some (.slice (some ⟨g,o,none⟩) n1 c1)) := fun W' hW => (HkF.out.fs (Fs.of_below (l:=[]) hW) (by simp)).cell 0 rfl
       refine wp_region_noPanic ?_
       refine Ord.wpM_begin (fun W' : World => W'.cell? ⟨P,0,none⟩ = some (.slice (some ⟨g,o,none⟩) n1 c1)) [0,1,2,3,4,5] (by kernel_rfl) ?_
       have HD : Hid (Below w'.heap.size w' w'.drew) := Below.drew (Below.refl _ _)
       generalize w'.drew = wd at *
       have hS := HSS.out wd HD.out
       refine Ord.tk (i:=0) (v:=.pointer (some ⟨P,0,none⟩)) (hy:=Or.inl ⟨by rfl,by intro W' hW; have q0 := hW; go_simp⟩) (hS:=hS) (h:=?_)
       try simp only [Act.put,Ord.t,Ord.z,Ord.s]
       refine Ord.tk (i:=1) (v:=.slice (some ⟨g,o,none⟩) n1 c1) (hy:=Or.inl ⟨by rfl,by intro W' hW; have q0 := hW; go_simp⟩) (hS:=hS) (h:=?_)
       try simp only [Act.put,Ord.t,Ord.z,Ord.s]
       refine Ord.tk (i:=2) (v:=.int .i64 (n1 : Int)) (hy:=Or.inl ⟨by rfl,by intro W' hW; have q0 := hW; go_simp⟩) (hS:=hS) (h:=?_)
       try simp only [Act.put,Ord.t,Ord.z,Ord.s]
       refine Ord.tk (i:=3) (v:=.int .i64 ((n1 - 1 : Nat) : Int)) (hy:=Or.inl ⟨by rfl,by intro W' hW; have q0 := hW; go_simp⟩) (hS:=hS) (h:=?_)
       try simp only [Act.put,Ord.t,Ord.z,Ord.s]
       refine Ord.tk (i:=4) (v:=.int .i64 8) (hy:=Or.inl ⟨by rfl,by intro W' hW; have q0 := hW; go_simp⟩) (hS:=hS) (h:=?_)
       try simp only [Act.put,Ord.t,Ord.z,Ord.s]
       refine Ord.on (i:=5) (h:=fun K hK => ?_)
       go_simp
       refine hK.out _ _ (fun _ => hS) ?_
       clear hK K
       try simp only [Act.put,Ord.t,Ord.z,Ord.s]
       refine Ord.wpM_done (by kernel_rfl) ?_ _
       refine NoPanic.normal ?_
       have HBY : Hid (Below w.heap.size w wd) := HBX.out.trans (HD.out.mono HBX.out.size)
       clear HSS hS
       go_wp2
       refine bodyPost_ret (results_tmp2 rfl _ _ _) rfl ?_
       exact .mk HE2.out HBY.out
theorem chkL_zero (f : Fx) : ∀ (l : List Ix) (n : Int),(chkL f n l).1 = 0 → chkL f n l = (0,-1)
 | [],n,h => by
  rw [chkL] at h ⊢
  unfold endF at h ⊢
  split at h
  ·rfl
  ·split at h
   ·rename_i q; rw [if_pos q]
   ·cases h
 | i :: l,n,h => by
  rw [chkL] at h ⊢
  split at h
  ·rename_i q; rw [if_pos q]; exact chkL_zero f l _ h
  ·rename_i q; exact absurd h q
theorem check_zero {f : Fx} (h : (checkF f).1 = 0) : checkF f = (0,-1) := by
 unfold checkF at h ⊢
 split at h
 ·rename_i q; rw [if_pos q]; exact chkL_zero f _ _ h
 ·cases h
end Go.Proofs.Ytfbmkcogkiejnaa.Fl
