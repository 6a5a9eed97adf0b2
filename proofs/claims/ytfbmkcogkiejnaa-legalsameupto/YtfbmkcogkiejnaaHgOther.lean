/- An instruction is done otherwise: the maker's otherwise. Written by tools/gen_hgother.py. -/
import Derived.Test.YtfbmkcogkiejnaaHgDiv
namespace Go.Proofs.Ytfbmkcogkiejnaa.Hg
set_option maxHeartbeats 32000000
set_option maxRecDepth 100000
set_option linter.unusedVariables false
set_option linter.unusedSimpArgs false
open Go.ChangeShapes Go.WideShapes Go.ChangeAt Go.RowKit Go.Maps Lg Lr Fl
theorem fresh_gd {m : Mk} (h : ∀ s ∈ m.sec,s = 0 ∨ s = 1) : Gd (fresh m) := ⟨fun n p hp => (by cases hp),h⟩
structure Rd0 (lo MB NB : Nat) (T : Nat → Int) (cv sv : Value) (m : Mk) (w : World) (K : Nat) : Prop where
 l0 : lo ≤ w.heap.size
 it : MkIs w lo MB NB T cv sv m
 t : TabR T
 g : ∀ s ∈ m.sec,s = 0 ∨ s = 1
 s : m.sec.length + K ≤ 200000000
 c : m.code.length + K ≤ 200000000
 k : K ≤ 100000
theorem Rd0.below {lo MB NB : Nat} {T : Nat → Int} {cv sv : Value} {m : Mk} {w w' : World} {K : Nat} (h : Rd0 lo MB NB T cv sv m w K) (hb : Below w.heap.size w w') : Rd0 lo MB NB T cv sv m w' K := ⟨Nat.le_trans h.l0 hb.size,h.it.below hb,h.t,h.g,h.s,h.c,h.k⟩
theorem Stp.unfresh {k : Nat} {m : Mk} {R : Int × Mk} (h : Stp k (fresh m) R) : Stp k m R := ⟨h.gd,h.p0,h.p1,h.ge,h.c,h.s,by have h1 := h.n; have h2 : (fresh m).nums.length = 0 := rfl; omega⟩
theorem down_lst (T : Nat → Int) (a far : Int) (m : Mk) : Lst (downM T a far m) := two_lst T 7 _ _ _
theorem top_lst (T : Nat → Int) (a : Int) (m : Mk) : Lst (topM T a m) := down_lst T a 31 m
theorem below_lst (T : Nat → Int) (a b : Int) (m : Mk) : Lst (belowM T a b m) := top_lst T _ _
theorem choose_lst (T : Nat → Int) (a b c : Int) (m : Mk) : Lst (chooseM T a b c m) := two_lst T 5 _ _ _
def Wo (K lo MB NB : Nat) (T : Nat → Int) (cv sv : Value) (i : Ix) (m : Mk) (w : World) (r : Ending) (w' : World) : Prop := ∃ cv' sv',r = .returned (.bool (ways i.op)) ∧ Rdy lo MB NB T cv' sv' (otherM T i m) w' K ∧ MF MB NB cv sv w cv' sv' w' ∧ (ways i.op = true → ∃ p,Stp 1000 m (p,otherM T i m) ∧ Lst (p,otherM T i m))
theorem other_any (K : Nat) {lo MB NB : Nat} {T : Nat → Int} {cv sv : Value} {m : Mk} {w : World} (i : Ix) (h : Rd0 lo MB NB T cv sv m w (1000 + K)) (hr : ∀ p ∈ rds i,0 ≤ p ∧ p < m.sec.length) : Calls Try.prog 65 #[.pointer (some ⟨MB,0,none⟩),.agg (ixA i)] w fun r w' => Wo K lo MB NB T cv sv i m w r w' := by
 obtain ⟨op,d,a,b,c,imm⟩ := i
 obtain ⟨w1,hw1⟩ : ∃ y,w.alloc (.cells #[.int .i64 op,.int .i64 d,.int .i64 a,.int .i64 b,.int .i64 c,.int .i64 imm] 35) = y := ⟨_,rfl⟩
 obtain ⟨IB,hIB⟩ : ∃ y,w.heap.size = y := ⟨_,rfl⟩
 have b1 : Below w.heap.size w w1 := by rw [← hw1]; exact (Below.refl _ _).alloc (Nat.le_refl _) _
 have kI : Bk w1 IB [.int .i64 op,.int .i64 d,.int .i64 a,.int .i64 b,.int .i64 c,.int .i64 imm] 35 := by rw [← hw1,← hIB]; exact Bk.new _ _ _
 have h1 := h.below b1
 have hfa := h.it.far (k:=IB) (by omega)
 have hm := h1.it.c18.2.2.1
 obtain ⟨w2,hrun,hz,hgr⟩ := h1.it.num.clear
 obtain ⟨hM2,hF2⟩ := h1.it.setNum (l:=[]) hz hgr
 have HRf : Hid (Rdy lo MB NB T cv sv (fresh m) w2 (1000 + K)) := ⟨Nat.le_trans h1.l0 hF2.size,hM2,h.t,fresh_gd h.g,h.s,h.c,by show 0 + _ ≤ _; have := h.k; omega⟩
 have HkI := keep (hF2.far kI hfa)
 have HFa := keep (hfa.step hF2 kI.lt)
 have HFw := keep ((MF.of_below (MB:=MB) (NB:=NB) (cv:=cv) (sv:=sv) b1).trans hF2)
 have HW1 := keep hw1
 have HIB := keep hIB
 have HRg : Hid (∀ p ∈ rds ⟨op,d,a,b,c,imm⟩,In p (fresh m)) := fun p hp => ⟨(hr p hp).1,(hr p hp).2⟩
 have x0 := HkI.out.cell 0 rfl
 have x1 := HkI.out.cell 1 rfl
 have x2 := HkI.out.cell 2 rfl
 have x3 := HkI.out.cell 3 rfl
 have x4 := HkI.out.cell 4 rfl
 unfold ixA
 dsimp only
 clear hw1 hIB b1 kI h1 hfa hz hgr hM2 hF2 h hr
 by_cases h6 : op = 6
 ·subst h6
  have hm0 := hm
  have Ia := keep (HRg.out a (by rw [rds_two (by constructor <;> (dsimp only; decide))]; simp))
  have Ib := keep (HRg.out b (by rw [rds_two (by constructor <;> (dsimp only; decide))]; simp))
  have HC := keep (shl_v (875 + K) a b (HRf.out.le (by omega)) Ia.out Ib.out)
  clear hm0
  go_enter Try.func65,Try.ntmps65
  go_wp2_with (first | rw [HW1.out] | rw [HIB.out] | fail)
  refine HC.out.mono ?_
  rintro r w3 ⟨cv',sv',p,rfl,hr',hf',hs',hl'⟩
  have HR3 := keep hr'
  have HF3 := keep (HFw.out.trans hf')
  have HS3 := keep hs'
  have HL3 := keep hl'
  have HEq : Hid (otherM T ⟨6,d,a,b,c,imm⟩ m = shlM T a b (fresh m)) := rfl
  clear hr' hf' hs' hl' HC x0 x1 x2 x3 x4 hm hrun
  go_wp2
  go_ret
  exact ⟨_,_,rfl,by rw [HEq.out]; exact HR3.out.le (by omega),HF3.out,fun _ => ⟨p,by rw [HEq.out]; exact HS3.out.unfresh.mono (by decide),by rw [HEq.out]; exact HL3.out⟩⟩
 ·have k6 : (op == 6) = false := by simpa using h6
  by_cases h7 : op = 7
  ·subst h7
   have hm0 := hm
   have Ia := keep (HRg.out a (by rw [rds_two (by constructor <;> (dsimp only; decide))]; simp))
   have Ib := keep (HRg.out b (by rw [rds_two (by constructor <;> (dsimp only; decide))]; simp))
   have HC := keep (shr_v (875 + K) a b (HRf.out.le (by omega)) Ia.out Ib.out)
   clear hm0
   go_enter Try.func65,Try.ntmps65
   go_wp2_with (first | rw [HW1.out] | rw [HIB.out] | fail)
   refine HC.out.mono ?_
   rintro r w3 ⟨cv',sv',p,rfl,hr',hf',hs',hl'⟩
   have HR3 := keep hr'
   have HF3 := keep (HFw.out.trans hf')
   have HS3 := keep hs'
   have HL3 := keep hl'
   have HEq : Hid (otherM T ⟨7,d,a,b,c,imm⟩ m = shrM T a b (fresh m)) := rfl
   clear hr' hf' hs' hl' HC x0 x1 x2 x3 x4 hm hrun
   go_wp2
   go_ret
   exact ⟨_,_,rfl,by rw [HEq.out]; exact HR3.out.le (by omega),HF3.out,fun _ => ⟨p,by rw [HEq.out]; exact HS3.out.unfresh.mono (by decide),by rw [HEq.out]; exact HL3.out⟩⟩
  ·have k7 : (op == 7) = false := by simpa using h7
   by_cases h8 : op = 8
   ·subst h8
    have hm0 := hm
    have Ia := keep (HRg.out a (by rw [rds_two (by constructor <;> (dsimp only; decide))]; simp))
    have Ib := keep (HRg.out b (by rw [rds_two (by constructor <;> (dsimp only; decide))]; simp))
    have HC := keep (mul_v (711 + K) a b (HRf.out.le (by omega)) Ia.out Ib.out)
    clear hm0
    go_enter Try.func65,Try.ntmps65
    go_wp2_with (first | rw [HW1.out] | rw [HIB.out] | fail)
    refine HC.out.mono ?_
    rintro r w3 ⟨cv',sv',p,rfl,hr',hf',hs',hl'⟩
    have HR3 := keep hr'
    have HF3 := keep (HFw.out.trans hf')
    have HS3 := keep hs'
    have HL3 := keep hl'
    have HEq : Hid (otherM T ⟨8,d,a,b,c,imm⟩ m = mulM T a b (fresh m)) := rfl
    clear hr' hf' hs' hl' HC x0 x1 x2 x3 x4 hm hrun
    go_wp2
    go_ret
    exact ⟨_,_,rfl,by rw [HEq.out]; exact HR3.out.le (by omega),HF3.out,fun _ => ⟨p,by rw [HEq.out]; exact HS3.out.unfresh.mono (by decide),by rw [HEq.out]; exact HL3.out⟩⟩
   ·have k8 : (op == 8) = false := by simpa using h8
    by_cases h9 : op = 9
    ·subst h9
     have hm0 := hm
     have Ia := keep (HRg.out a (by rw [rds_two (by constructor <;> (dsimp only; decide))]; simp))
     have Ib := keep (HRg.out b (by rw [rds_two (by constructor <;> (dsimp only; decide))]; simp))
     have HC := keep (div_v (422 + K) a b (HRf.out.le (by omega)) Ia.out Ib.out)
     clear hm0
     go_enter Try.func65,Try.ntmps65
     go_wp2_with (first | rw [HW1.out] | rw [HIB.out] | fail)
     refine HC.out.mono ?_
     rintro r w3 ⟨cv',sv',p,rfl,hr',hf',hs',hl'⟩
     have HR3 := keep hr'
     have HF3 := keep (HFw.out.trans hf')
     have HS3 := keep hs'
     have HL3 := keep hl'
     have HEq : Hid (otherM T ⟨9,d,a,b,c,imm⟩ m = divM T a b (fresh m)) := rfl
     clear hr' hf' hs' hl' HC x0 x1 x2 x3 x4 hm hrun
     go_wp2
     go_ret
     exact ⟨_,_,rfl,by rw [HEq.out]; exact HR3.out.le (by omega),HF3.out,fun _ => ⟨p,by rw [HEq.out]; exact HS3.out.unfresh.mono (by decide),by rw [HEq.out]; exact HL3.out⟩⟩
    ·have k9 : (op == 9) = false := by simpa using h9
     by_cases h10 : op = 10
     ·subst h10
      have hm0 := hm
      have Ia := keep (HRg.out a (by rw [rds_two (by constructor <;> (dsimp only; decide))]; simp))
      have Ib := keep (HRg.out b (by rw [rds_two (by constructor <;> (dsimp only; decide))]; simp))
      have HC := keep (rem_v (487 + K) a b (HRf.out.le (by omega)) Ia.out Ib.out)
      clear hm0
      go_enter Try.func65,Try.ntmps65
      go_wp2_with (first | rw [HW1.out] | rw [HIB.out] | fail)
      refine HC.out.mono ?_
      rintro r w3 ⟨cv',sv',p,rfl,hr',hf',hs',hl'⟩
      have HR3 := keep hr'
      have HF3 := keep (HFw.out.trans hf')
      have HS3 := keep hs'
      have HL3 := keep hl'
      have HEq : Hid (otherM T ⟨10,d,a,b,c,imm⟩ m = remM T a b (fresh m)) := rfl
      clear hr' hf' hs' hl' HC x0 x1 x2 x3 x4 hm hrun
      go_wp2
      go_ret
      exact ⟨_,_,rfl,by rw [HEq.out]; exact HR3.out.le (by omega),HF3.out,fun _ => ⟨p,by rw [HEq.out]; exact HS3.out.unfresh.mono (by decide),by rw [HEq.out]; exact HL3.out⟩⟩
     ·have k10 : (op == 10) = false := by simpa using h10
      by_cases h11 : op = 11
      ·subst h11
       have hm0 := hm
       have Ia := keep (HRg.out a (by rw [rds_two (by constructor <;> (dsimp only; decide))]; simp))
       have Ib := keep (HRg.out b (by rw [rds_two (by constructor <;> (dsimp only; decide))]; simp))
       clear hm0
       go_enter Try.func65,Try.ntmps65
       have HC1 := keep (below_q (0 + (993 + K)) a b (HRf.out.le (by omega)) Ia.out Ib.out)
       obtain ⟨R1,hR⟩ : ∃ Q,belowM T a b (fresh m) = Q := ⟨_,rfl⟩
       rw [hR] at HC1
       have HE1 := keep hR
       clear hR
       go_wp2_with (first | rw [HW1.out] | rw [HIB.out] | fail)
       refine HC1.out.mono ?_
       rintro r w1 ⟨cv1,sv1,rfl,hr',hf',hs'⟩
       have HR1 := keep hr'
       have HS1 := keep hs'
       have HF1 := keep hf'
       have HT1 := keep hs'
       clear hr' hf' hs' HC1
       have HEq : Hid (otherM T ⟨11,d,a,b,c,imm⟩ m = R1.2) := by
        show lessM T a b (fresh m) = _
        unfold lessM
        (try dsimp only)
        rw [HE1.out]
       have HFz := keep (HFw.out.trans HF1.out)
       have HLs : Hid (Lst R1) := by show Lst _; rw [← HE1.out]; exact below_lst T _ _ _
       (try clear x0 x1 x2 x3 x4)
       clear hm hrun
       go_wp2
       go_ret
       exact ⟨_,_,rfl,by rw [HEq.out]; exact HR1.out.le (by omega),HFz.out,fun _ => ⟨R1.1,by rw [HEq.out]; exact HS1.out.unfresh.mono (by decide),by rw [HEq.out]; exact HLs.out⟩⟩
      ·have k11 : (op == 11) = false := by simpa using h11
       by_cases h12 : op = 12
       ·subst h12
        have hm0 := hm
        have Ia := keep (HRg.out a (by rw [rds_two (by constructor <;> (dsimp only; decide))]; simp))
        have Ib := keep (HRg.out b (by rw [rds_two (by constructor <;> (dsimp only; decide))]; simp))
        clear hm0
        go_enter Try.func65,Try.ntmps65
        have HC1 := keep (two_q (7 + (992 + K)) 5 a b (HRf.out.le (by omega)) (by decide) Ia.out Ib.out)
        obtain ⟨R1,hR⟩ : ∃ Q,twoM T 5 a b (fresh m) = Q := ⟨_,rfl⟩
        rw [hR] at HC1
        have HE1 := keep hR
        clear hR
        go_wp2_with (first | rw [HW1.out] | rw [HIB.out] | fail)
        refine HC1.out.mono ?_
        rintro r w1 ⟨cv1,sv1,rfl,hr',hf',hs'⟩
        have HR1 := keep hr'
        have HS1 := keep hs'
        have HF1 := keep hf'
        have HT1 := keep hs'
        clear hr' hf' hs' HC1
        have HC2 := keep (some_q (2 + (992 + K)) R1.1 (HR1.out.le (by omega)) HT1.out.in')
        obtain ⟨R2,hR⟩ : ∃ Q,someM T R1.1 R1.2 = Q := ⟨_,rfl⟩
        rw [hR] at HC2
        have HE2 := keep hR
        clear hR
        go_wp2_with fail
        refine HC2.out.mono ?_
        rintro r w2 ⟨cv2,sv2,rfl,hr',hf',hs'⟩
        have HR2 := keep hr'
        have HS2 := keep (HS1.out.then hs')
        have HF2 := keep (HF1.out.trans hf')
        have HT2 := keep hs'
        clear hr' hf' hs' HC2
        have HC3 := keep (num_q (1 + (992 + K)) 1 (HR2.out.le (by omega)) (by decide))
        obtain ⟨R3,hR⟩ : ∃ Q,numM T 1 R2.2 = Q := ⟨_,rfl⟩
        rw [hR] at HC3
        have HE3 := keep hR
        clear hR
        go_wp2_with fail
        refine HC3.out.mono ?_
        rintro r w3 ⟨cv3,sv3,rfl,hr',hf',hs'⟩
        have HR3 := keep hr'
        have HS3 := keep (HS2.out.then hs')
        have HF3 := keep (HF2.out.trans hf')
        have HT3 := keep hs'
        clear hr' hf' hs' HC3
        have HC4 := keep (two_q (0 + (992 + K)) 5 R2.1 R3.1 (HR3.out.le (by omega)) (by decide) (HT2.out.in'.stp HT3.out) HT3.out.in')
        obtain ⟨R4,hR⟩ : ∃ Q,twoM T 5 R2.1 R3.1 R3.2 = Q := ⟨_,rfl⟩
        rw [hR] at HC4
        have HE4 := keep hR
        clear hR
        go_wp2_with fail
        refine HC4.out.mono ?_
        rintro r w4 ⟨cv4,sv4,rfl,hr',hf',hs'⟩
        have HR4 := keep hr'
        have HS4 := keep (HS3.out.then hs')
        have HF4 := keep (HF3.out.trans hf')
        have HT4 := keep hs'
        clear hr' hf' hs' HC4
        have HEq : Hid (otherM T ⟨12,d,a,b,c,imm⟩ m = R4.2) := by
         show sameM T a b (fresh m) = _
         unfold sameM
         (try dsimp only)
         rw [HE1.out,HE2.out,HE3.out,HE4.out]
        have HFz := keep (HFw.out.trans HF4.out)
        have HLs : Hid (Lst R4) := by show Lst _; rw [← HE4.out]; exact two_lst T _ _ _ _
        (try clear x0 x1 x2 x3 x4)
        clear hm hrun
        go_wp2
        go_ret
        exact ⟨_,_,rfl,by rw [HEq.out]; exact HR4.out.le (by omega),HFz.out,fun _ => ⟨R4.1,by rw [HEq.out]; exact HS4.out.unfresh.mono (by decide),by rw [HEq.out]; exact HLs.out⟩⟩
       ·have k12 : (op == 12) = false := by simpa using h12
        by_cases h13 : op = 13
        ·subst h13
         have hm0 := hm
         have Ia := keep (HRg.out a (by rw [rds_sel rfl]; simp))
         have Ib := keep (HRg.out b (by rw [rds_sel rfl]; simp))
         have Ic := keep (HRg.out c (by rw [rds_sel rfl]; simp))
         clear hm0
         go_enter Try.func65,Try.ntmps65
         go_wp2_with (first | rw [HW1.out] | rw [HIB.out] | fail)
         refine wp_region_noPanic ?_
         refine Ord.wpM_begin (fun W' : World => W'.cell? ⟨IB,2,none⟩ = some (.int .i64 a) ∧ W'.cell? ⟨IB,3,none⟩ = some (.int .i64 b) ∧ W'.cell? ⟨IB,4,none⟩ = some (.int .i64 c)) [0,1,2,3,4,5,6,7,8,9,10,11] (by kernel_rfl) ?_
         have HBd : Hid (Below w2.heap.size w2 w2.drew) := Below.drew (Below.refl _ _)
         have HRd := keep (HRf.out.below HBd.out)
         have HkD := keep (HkI.out.fs (Fs.of_below (l:=[]) HBd.out) (by simp))
         generalize w2.drew = wd at *
         have hS : (fun W' : World => W'.cell? ⟨IB,2,none⟩ = some (.int .i64 a) ∧ W'.cell? ⟨IB,3,none⟩ = some (.int .i64 b) ∧ W'.cell? ⟨IB,4,none⟩ = some (.int .i64 c)) wd := ⟨HkD.out.cell 2 rfl,HkD.out.cell 3 rfl,HkD.out.cell 4 rfl⟩
         refine Ord.tk (i:=0) (v:=.pointer (some ⟨MB,0,none⟩)) (hy:=Or.inl ⟨by rfl,by rintro W' ⟨q0,q1,q2⟩; go_simp⟩) (hS:=hS) (h:=?_)
         try simp only [Act.put,Ord.t,Ord.z,Ord.s]
         refine Ord.tk (i:=1) (v:=.pointer (some ⟨MB,0,none⟩)) (hy:=Or.inl ⟨by rfl,by rintro W' ⟨q0,q1,q2⟩; go_simp⟩) (hS:=hS) (h:=?_)
         try simp only [Act.put,Ord.t,Ord.z,Ord.s]
         refine Ord.tk (i:=2) (v:=.pointer (some ⟨MB,0,none⟩)) (hy:=Or.inl ⟨by rfl,by rintro W' ⟨q0,q1,q2⟩; go_simp⟩) (hS:=hS) (h:=?_)
         try simp only [Act.put,Ord.t,Ord.z,Ord.s]
         refine Ord.tk (i:=3) (v:=.pointer (some ⟨IB,2,none⟩)) (hy:=Or.inl ⟨by rfl,by rintro W' ⟨q0,q1,q2⟩; go_simp⟩) (hS:=hS) (h:=?_)
         try simp only [Act.put,Ord.t,Ord.z,Ord.s]
         refine Ord.tk (i:=4) (v:=.int .i64 a) (hy:=Or.inl ⟨by rfl,by rintro W' ⟨q0,q1,q2⟩; go_simp⟩) (hS:=hS) (h:=?_)
         try simp only [Act.put,Ord.t,Ord.z,Ord.s]
         refine Ord.tk (i:=7) (v:=.pointer (some ⟨IB,3,none⟩)) (hy:=Or.inl ⟨by rfl,by rintro W' ⟨q0,q1,q2⟩; go_simp⟩) (hS:=hS) (h:=?_)
         try simp only [Act.put,Ord.t,Ord.z,Ord.s]
         refine Ord.tk (i:=8) (v:=.int .i64 b) (hy:=Or.inl ⟨by rfl,by rintro W' ⟨q0,q1,q2⟩; go_simp⟩) (hS:=hS) (h:=?_)
         try simp only [Act.put,Ord.t,Ord.z,Ord.s]
         refine Ord.tk (i:=9) (v:=.pointer (some ⟨IB,4,none⟩)) (hy:=Or.inl ⟨by rfl,by rintro W' ⟨q0,q1,q2⟩; go_simp⟩) (hS:=hS) (h:=?_)
         try simp only [Act.put,Ord.t,Ord.z,Ord.s]
         refine Ord.tk (i:=10) (v:=.int .i64 c) (hy:=Or.inl ⟨by rfl,by rintro W' ⟨q0,q1,q2⟩; go_simp⟩) (hS:=hS) (h:=?_)
         try simp only [Act.put,Ord.t,Ord.z,Ord.s]
         have HC1 := keep (some_q (995 + K) a (HRd.out.le (by omega)) Ia.out)
         obtain ⟨R1,hR⟩ : ∃ Q,someM T a (fresh m) = Q := ⟨_,rfl⟩
         rw [hR] at HC1
         have HE1 := keep hR
         clear hR
         refine Ord.on (i:=5) (h:=fun K hK => ?_)
         go_simp
         refine HC1.out.mono ?_
         rintro r w3 ⟨cv1,sv1,rfl,hr',hf',hs'⟩
         have HR1 := keep hr'
         have HT1 := keep hs'
         have HF1 := keep hf'
         have HkD1 := keep (hf'.far HkD.out HFa.out)
         have HFa1 := keep (HFa.out.step hf' HkD.out.lt)
         clear hr' hf' hs' HC1
         go_simp
         refine hK.out _ _ (fun _ => ⟨HkD1.out.cell 2 rfl,HkD1.out.cell 3 rfl,HkD1.out.cell 4 rfl⟩) ?_
         clear hK K
         try simp only [Act.put,Ord.t,Ord.z,Ord.s]
         have HC2 := keep (all_q (993 + K) R1.1 (HR1.out.le (by omega)) HT1.out.in')
         obtain ⟨R2,hR⟩ : ∃ Q,allM T R1.1 R1.2 = Q := ⟨_,rfl⟩
         rw [hR] at HC2
         have HE2 := keep hR
         clear hR
         refine Ord.on (i:=6) (h:=fun K hK => ?_)
         go_simp
         refine HC2.out.mono ?_
         rintro r w4 ⟨cv2,sv2,rfl,hr',hf',hs'⟩
         have HR2 := keep hr'
         have HT2 := keep hs'
         have HF2 := keep hf'
         have HkD2 := keep (hf'.far HkD1.out HFa1.out)
         have HFa2 := keep (HFa1.out.step hf' HkD1.out.lt)
         clear hr' hf' hs' HC2
         go_simp
         refine hK.out _ _ (fun _ => ⟨HkD2.out.cell 2 rfl,HkD2.out.cell 3 rfl,HkD2.out.cell 4 rfl⟩) ?_
         clear hK K
         try simp only [Act.put,Ord.t,Ord.z,Ord.s]
         have HC3 := keep (choose_q (990 + K) R2.1 b c (HR2.out.le (by omega)) HT2.out.in' ((Ib.out.stp HT1.out).stp HT2.out) ((Ic.out.stp HT1.out).stp HT2.out))
         obtain ⟨R3,hR⟩ : ∃ Q,chooseM T R2.1 b c R2.2 = Q := ⟨_,rfl⟩
         rw [hR] at HC3
         have HE3 := keep hR
         clear hR
         refine Ord.on (i:=11) (h:=fun K hK => ?_)
         go_simp
         refine HC3.out.mono ?_
         rintro r w5 ⟨cv3,sv3,rfl,hr',hf',hs'⟩
         have HR3 := keep hr'
         have HT3 := keep hs'
         have HF3 := keep hf'
         have HkD3 := keep (hf'.far HkD2.out HFa2.out)
         have HFa3 := keep (HFa2.out.step hf' HkD2.out.lt)
         clear hr' hf' hs' HC3
         go_simp
         refine hK.out _ _ (fun _ => ⟨HkD3.out.cell 2 rfl,HkD3.out.cell 3 rfl,HkD3.out.cell 4 rfl⟩) ?_
         clear hK K
         try simp only [Act.put,Ord.t,Ord.z,Ord.s]
         refine Ord.wpM_done (by kernel_rfl) ?_ _
         refine NoPanic.normal ?_
         have HEq : Hid (otherM T ⟨13,d,a,b,c,imm⟩ m = R3.2) := by
          show selM T a b c (fresh m) = _
          unfold selM
          dsimp only
          rw [HE1.out,HE2.out,HE3.out]
         have HFz := keep (HFw.out.trans ((MF.of_below HBd.out).trans (HF1.out.trans (HF2.out.trans HF3.out))))
         have HSz := keep ((HT1.out.then HT2.out).then HT3.out)
         have HLs : Hid (Lst R3) := by show Lst _; rw [← HE3.out]; exact choose_lst T _ _ _ _
         clear x0 x1 x2 x3 x4 hm hrun
         go_wp2
         go_ret
         exact ⟨_,_,rfl,by rw [HEq.out]; exact HR3.out.le (by omega),HFz.out,fun _ => ⟨R3.1,by rw [HEq.out]; exact HSz.out.unfresh.mono (by decide),by rw [HEq.out]; exact HLs.out⟩⟩
        ·have k13 : (op == 13) = false := by simpa using h13
         have HWy : Hid (ways op = false) := by
          show _ = _
          unfold ways
          by_cases h1 : 6 ≤ op
          ·rw [decide_eq_false (show ¬ op ≤ 13 by omega),Bool.and_false]
          ·rw [decide_eq_false h1,Bool.false_and]
         have HEq : Hid (otherM T ⟨op,d,a,b,c,imm⟩ m = fresh m) := by show _ = _; unfold otherM; dsimp only; rw [if_neg h6,if_neg h7,if_neg h8,if_neg h9,if_neg h10,if_neg h11,if_neg h12,if_neg h13]
         clear h6 h7 h8 h9 h10 h11 h12 h13
         go_enter Try.func65,Try.ntmps65
         go_wp2_with (first | rw [HW1.out] | rw [HIB.out] | fail)
         go_ret
         exact ⟨_,_,by dsimp only; rw [HWy.out]; rfl,by rw [HEq.out]; exact HRf.out.le (by omega),HFw.out,fun hw => by dsimp only at hw; rw [HWy.out] at hw; cases hw⟩
end Go.Proofs.Ytfbmkcogkiejnaa.Hg
