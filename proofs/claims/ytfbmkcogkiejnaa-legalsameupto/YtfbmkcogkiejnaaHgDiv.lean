/- The maker's remainder, quotient, moved. Written by tools/gen_hgdiv.py. -/
import Derived.Test.YtfbmkcogkiejnaaHgRound
namespace Go.Proofs.Ytfbmkcogkiejnaa.Hg
set_option maxHeartbeats 32000000
set_option maxRecDepth 100000
set_option linter.unusedVariables false
set_option linter.unusedSimpArgs false
open Go.ChangeShapes Go.WideShapes Go.ChangeAt Go.RowKit Go.Maps Lg Lr Fl
theorem Rdy.x {X lo MB NB : Nat} {T : Nat → Int} {cv sv : Value} {m : Mk} {w : World} {K : Nat} (h : Rdy lo MB NB T cv sv m w K) : lo ≤ w.heap.size := h.l0
theorem DvOk.ins {k : Nat} {m : Mk} {d : Dv} (h : DvOk k m d) : In d.left d.m ∧ In d.rest d.m := ⟨⟨h.s.p0,h.s.p1⟩,⟨h.r0,h.r1⟩⟩
theorem DvOk.keep' {k : Nat} {m : Mk} {d : Dv} (h : DvOk k m d) {a : Int} (ha : In a m) : In a d.m := ⟨ha.p0,by have h1 := ha.p1; have h2 := h.s.ge; dsimp only at h2; omega⟩
theorem rems_succ (T : Nat → Int) (b : Int) (n : Nat) (d : Dv) : remsM T b (n + 1) d = (stepM T b (remsM T b n d)).2 := rfl
theorem quos_succ (T : Nat → Int) (b : Int) (n : Nat) (p : Int × Dv) : quosM T b (n + 1) p = quoM T b (quosM T b n p) := rfl
theorem rems_lst (T : Nat → Int) (b : Int) (n : Nat) (d : Dv) : Lst ((remsM T b (n + 1) d).left,(remsM T b (n + 1) d).m) := two_lst T 2 _ _ _
theorem quos_lst (T : Nat → Int) (b : Int) (n : Nat) (p : Int × Dv) : Lst ((quosM T b (n + 1) p).1,(quosM T b (n + 1) p).2.m) := two_lst T 2 _ _ _
theorem rem_v (K : Nat) {lo MB NB : Nat} {T : Nat → Int} {cv sv : Value} {m : Mk} {w : World} (a b : Int) (h : Rdy lo MB NB T cv sv m w (513 + K)) (ha : In a m) (hb : In b m) : Calls Try.prog 81 #[.pointer (some ⟨MB,0,none⟩),.int .i64 a,.int .i64 b] w fun r w' => Wv 513 K lo MB NB T cv sv m (remM T a b m) w r w' := by
 have HR0 := keep h
 have Ia := keep ha
 have Ib := keep hb
 clear h ha hb
 have HC0 := keep (num_q (512 + K) 0 (HR0.out.le (by omega)) (by decide))
 obtain ⟨z,hz⟩ : ∃ z,numM T 0 m = z := ⟨_,rfl⟩
 rw [hz] at HC0
 have HZ := keep hz
 clear hz
 go_enter Try.func81,Try.ntmps81
 go_wp2_with fail
 refine HC0.out.mono ?_
 rintro r w0 ⟨cvz,svz,rfl,hrz,hfz,hsz⟩
 obtain ⟨wd,hwd⟩ : ∃ y,w0.alloc (.cells #[.pointer (some ⟨MB,0,none⟩),.int .i64 a,.int .i64 b,.int .i64 z.1] 127) = y := ⟨_,rfl⟩
 obtain ⟨DB,hDB⟩ : ∃ y,w0.heap.size = y := ⟨_,rfl⟩
 have hbd : Below w0.heap.size w0 wd := by rw [← hwd]; exact (Below.refl _ _).alloc (Nat.le_refl _) _
 have kD : Bk wd DB (dvL MB a b z.1) 127 := by rw [← hwd,← hDB]; exact Bk.new _ _ _
 have HkD := keep kD
 have HRz := keep (hrz.below hbd)
 have HFz := keep (hfz.trans (MF.of_below hbd))
 have HFar := keep (hrz.it.far (k:=DB) (by omega))
 have HDBl : Hid (w.heap.size ≤ DB) := by have := hfz.size; show _ ≤ _; omega
 have HSz := keep hsz
 have HWd := keep hwd
 have HDB := keep hDB
 clear hwd hDB hbd kD hrz hfz hsz HC0
 have HP0 : Hid (DvOk 1 m ⟨a,z.1,z.2⟩) := ⟨HSz.out,(Ia.out.stp HSz.out).p0,(Ia.out.stp HSz.out).p1⟩
 go_wp2_with (first | rw [HWd.out,HDB.out] | fail)
 go_loopw [13] (fun j wx => ∃ k : Nat,k ≤ 32 ∧ j = .int .i64 (k : Int) ∧ ∃ cv' sv',Rdy lo MB NB T cv' sv' (remsM T b k ⟨a,z.1,z.2⟩).m wx ((32 - k) * 16 + K) ∧ MF MB NB cv sv w cv' sv' wx ∧ Bk wx DB (dvL MB (remsM T b k ⟨a,z.1,z.2⟩).rest b (remsM T b k ⟨a,z.1,z.2⟩).left) 127 ∧ Far lo MB NB cv' sv' DB ∧ DvOk (1 + k * 16) m (remsM T b k ⟨a,z.1,z.2⟩)) (fun j _ => 32 - (intOf j).toNat)
 case atStart => exact ⟨0,by omega,rfl,_,_,HRz.out.le (by omega),HFz.out,HkD.out,HFar.out,HP0.out⟩
 case round =>
  obtain ⟨k,hkn,rfl,cv0,sv0,hr0,hf0,hd0,hfa0,hp0⟩ := hrel
  by_cases hkl : k < 32
  ·have d1 : decide ((k : Int) < 32) = true := decide_eq_true (by omega)
   have hwr : IntKind.i64.wrap ((k : Int) + 1) = (k : Int) + 1 := by rw [IntKind.wrap_i64]; omega
   have HPn := keep (step_stp T b hp0)
   obtain ⟨pp,hpp⟩ : ∃ pp,remsM T b k ⟨a,z.1,z.2⟩ = pp := ⟨_,rfl⟩
   have HSx : Hid (remsM T b (k + 1) ⟨a,z.1,z.2⟩ = (stepM T b pp).2) := by show _ = _; rw [rems_succ,hpp]
   rw [hpp] at hr0 hd0 hp0 HPn
   obtain ⟨rest,left,q⟩ := pp
   dsimp only at hr0 hd0
   have HC := keep (step_q ((31 - k) * 16 + K) rest b left (hr0.le (by omega)) hd0 hfa0 hp0.ins.2 (hp0.keep' Ib.out) hp0.ins.1)
   obtain ⟨R,hR⟩ : ∃ R,stepM T b ⟨rest,left,q⟩ = R := ⟨_,rfl⟩
   rw [hR] at HC HPn HSx
   have HF := keep hf0
   clear hr0 hf0 hd0 hfa0 hp0 hpp hR
   go_wp2_with fail
   refine HC.out.mono ?_
   rintro r w1 ⟨cv1,sv1,rfl,hr',hf',hd',hfa'⟩
   have HR1 := keep hr'
   have HF1 := keep (HF.out.after hf' HDBl.out)
   have HD1 := keep hd'
   have HFa1 := keep hfa'
   clear hr' hf' hd' hfa' HC
   go_wp2
   go_roundw
   case rel => exact ⟨k + 1,by omega,by go_num,_,_,by rw [HSx.out]; exact HR1.out.le (by omega),HF1.out,by rw [HSx.out]; exact HD1.out,HFa1.out,by rw [HSx.out,show 1 + (k + 1) * 16 = 1 + k * 16 + 16 by omega]; exact HPn.out.1⟩
   case measure => simp [intOf] <;> omega
  ·have hke : k = 32 := by omega
   subst hke
   have HL := keep (rems_lst T b 31 ⟨a,z.1,z.2⟩)
   have HM : Hid (remM T a b m = (remsM T b 32 ⟨a,z.1,z.2⟩).m) := by show _ = _; unfold remM; dsimp only; rw [HZ.out]
   have HR := keep hr0
   have HF := keep hf0
   have HP := keep hp0.s
   clear hr0 hf0 hd0 hfa0 hp0 hkl hkn
   go_wp2
   refine bodyPost_end (results_none rfl _ _ _) rfl ?_
   exact ⟨_,_,_,rfl,by rw [HM.out]; exact HR.out.le (by omega),HF.out,by rw [HM.out]; exact HP.out,by rw [HM.out]; exact HL.out⟩
theorem step_ge (T : Nat → Int) (b rest left : Int) (q : Mk) (hg : Gd q) : q.sec.length ≤ (stepM T b ⟨rest,left,q⟩).2.m.sec.length := by
 unfold stepM
 dsimp only
 have e1 := double_stp T left hg
 generalize doubleM T left q = r1 at *
 have e2 := top_stp T rest e1.gd
 generalize topM T rest r1.2 = r2 at *
 have e3 := two_stp T 4 r1.1 r2.1 e2.gd
 generalize twoM T 4 r1.1 r2.1 r2.2 = r3 at *
 have e4 := double_stp T rest e3.gd
 generalize doubleM T rest r3.2 = r4 at *
 have e5 := below_stp T r3.1 b e4.gd
 generalize belowM T r3.1 b r4.2 = r5 at *
 have e6 := num_stp T 1 e5.gd
 generalize numM T 1 r5.2 = r6 at *
 have e7 := two_stp T 2 r5.1 r6.1 e6.gd
 generalize twoM T 2 r5.1 r6.1 r6.2 = r7 at *
 have e8 := two_stp T 3 b r7.1 e7.gd
 generalize twoM T 3 b r7.1 r7.2 = r8 at *
 have e9 := two_stp T 2 r3.1 r8.1 e8.gd
 generalize twoM T 2 r3.1 r8.1 r8.2 = r9 at *
 have := e1.ge
 have := e2.ge
 have := e3.ge
 have := e4.ge
 have := e5.ge
 have := e6.ge
 have := e7.ge
 have := e8.ge
 have := e9.ge
 omega
theorem div_v (K : Nat) {lo MB NB : Nat} {T : Nat → Int} {cv sv : Value} {m : Mk} {w : World} (a b : Int) (h : Rdy lo MB NB T cv sv m w (578 + K)) (ha : In a m) (hb : In b m) : Calls Try.prog 80 #[.pointer (some ⟨MB,0,none⟩),.int .i64 a,.int .i64 b] w fun r w' => Wv 578 K lo MB NB T cv sv m (divM T a b m) w r w' := by
 have HR0 := keep h
 have Ia := keep ha
 have Ib := keep hb
 clear h ha hb
 have HC0 := keep (num_q (577 + K) 0 (HR0.out.le (by omega)) (by decide))
 obtain ⟨z,hz⟩ : ∃ z,numM T 0 m = z := ⟨_,rfl⟩
 rw [hz] at HC0
 have HZ := keep hz
 clear hz
 go_enter Try.func80,Try.ntmps80
 go_wp2_with fail
 refine HC0.out.mono ?_
 rintro r w0 ⟨cvz,svz,rfl,hrz,hfz,hsz⟩
 obtain ⟨wd,hwd⟩ : ∃ y,w0.alloc (.cells #[.pointer (some ⟨MB,0,none⟩),.int .i64 a,.int .i64 b,.int .i64 z.1] 127) = y := ⟨_,rfl⟩
 obtain ⟨DB,hDB⟩ : ∃ y,w0.heap.size = y := ⟨_,rfl⟩
 have hbd : Below w0.heap.size w0 wd := by rw [← hwd]; exact (Below.refl _ _).alloc (Nat.le_refl _) _
 have kD : Bk wd DB (dvL MB a b z.1) 127 := by rw [← hwd,← hDB]; exact Bk.new _ _ _
 have HkD := keep kD
 have HRz := keep (hrz.below hbd)
 have HFz := keep (hfz.trans (MF.of_below hbd))
 have HFar := keep (hrz.it.far (k:=DB) (by omega))
 have HDBl : Hid (w.heap.size ≤ DB) := by have := hfz.size; show _ ≤ _; omega
 have HSz := keep hsz
 have HWd := keep hwd
 have HDB := keep hDB
 clear hwd hDB hbd kD hrz hfz hsz HC0
 have HC1 := keep (num_q (576 + K) 0 (HRz.out.le (by omega)) (by decide))
 obtain ⟨o,ho⟩ : ∃ o,numM T 0 z.2 = o := ⟨_,rfl⟩
 rw [ho] at HC1
 have HO := keep ho
 clear ho
 go_wp2_with (first | rw [HWd.out,HDB.out] | fail)
 refine HC1.out.mono ?_
 rintro r we ⟨cvo,svo,rfl,hro,hfo,hso⟩
 have HRo := keep hro
 have HFo := keep (HFz.out.trans hfo)
 have HkDo := keep (hfo.far HkD.out HFar.out)
 have HFaro := keep (HFar.out.step hfo HkD.out.lt)
 have HSo := keep (HSz.out.then hso)
 have HIz := keep (HSz.out.in'.stp hso)
 have HIo := keep hso.in'
 clear hro hfo hso HC1
 have HP0 : Hid (DvOk 2 m ⟨a,z.1,o.2⟩) := by
  obtain ⟨g,q0,q1,ge,c,s,n⟩ := HSo.out
  have h1 := Ia.out.stp HSo.out
  exact ⟨⟨g,HIz.out.p0,HIz.out.p1,ge,c,s,n⟩,h1.p0,h1.p1⟩
 go_wp2_with fail
 go_loopw [17,7] (fun j y wx => ∃ k : Nat,k ≤ 32 ∧ j = .int .i64 (k : Int) ∧ y = .int .i64 (quosM T b k (o.1,⟨a,z.1,o.2⟩)).1 ∧ ∃ cv' sv',Rdy lo MB NB T cv' sv' (quosM T b k (o.1,⟨a,z.1,o.2⟩)).2.m wx ((32 - k) * 18 + K) ∧ MF MB NB cv sv w cv' sv' wx ∧ Bk wx DB (dvL MB (quosM T b k (o.1,⟨a,z.1,o.2⟩)).2.rest b (quosM T b k (o.1,⟨a,z.1,o.2⟩)).2.left) 127 ∧ Far lo MB NB cv' sv' DB ∧ DvOk (2 + k * 18) m (quosM T b k (o.1,⟨a,z.1,o.2⟩)).2 ∧ In (quosM T b k (o.1,⟨a,z.1,o.2⟩)).1 (quosM T b k (o.1,⟨a,z.1,o.2⟩)).2.m) (fun j _ _ => 32 - (intOf j).toNat)
 case atStart => exact ⟨0,by omega,rfl,rfl,_,_,HRo.out.le (by omega),HFo.out,HkDo.out,HFaro.out,HP0.out,HIo.out⟩
 case round =>
  obtain ⟨k,hkn,rfl,rfl,cv0,sv0,hr0,hf0,hd0,hfa0,hp0,hi0⟩ := hrel
  by_cases hkl : k < 32
  ·have d1 : decide ((k : Int) < 32) = true := decide_eq_true (by omega)
   have hwr : IntKind.i64.wrap ((k : Int) + 1) = (k : Int) + 1 := by rw [IntKind.wrap_i64]; omega
   have HPn := keep (quo_stp T b hp0)
   have HPs := keep (step_stp T b hp0)
   obtain ⟨pp,hpp⟩ : ∃ pp,quosM T b k (o.1,⟨a,z.1,o.2⟩) = pp := ⟨_,rfl⟩
   have HSx : Hid (quosM T b (k + 1) (o.1,⟨a,z.1,o.2⟩) = quoM T b pp) := by show _ = _; rw [quos_succ,hpp]
   rw [hpp] at hr0 hd0 hp0 HPn HPs hi0 ⊢
   obtain ⟨often,rest,left,q⟩ := pp
   dsimp only at hr0 hd0 hi0 ⊢
   have HC := keep (step_q ((31 - k) * 18 + 2 + K) rest b left (hr0.le (by omega)) hd0 hfa0 hp0.ins.2 (hp0.keep' Ib.out) hp0.ins.1)
   obtain ⟨R,hR⟩ : ∃ R,stepM T b ⟨rest,left,q⟩ = R := ⟨_,rfl⟩
   dsimp only at HPs
   rw [hR] at HC HPs
   have HRq := keep hR
   have HF := keep hf0
   have HIf := keep hi0
   have HPl := keep hp0.s
   clear hr0 hf0 hd0 hfa0 hp0 hpp hR hi0
   go_wp2_with fail
   refine HC.out.mono ?_
   rintro r w1 ⟨cv1,sv1,rfl,hr',hf',hd',hfa'⟩
   have HR1 := keep hr'
   have HF1 := keep (HF.out.after hf' HDBl.out)
   have HD1 := keep hd'
   have HFa1 := keep hfa'
   clear hr' hf' hd' hfa' HC
   have HIo1 : Hid (In often R.2.m) := by
    have hst := step_ge T b rest left q HPl.out.gd
    rw [HRq.out] at hst
    exact ⟨HIf.out.p0,by have := HIf.out.p1; omega⟩
   have HIr : Hid (In R.1 R.2.m) := ⟨HPs.out.2.1,HPs.out.2.2⟩
   have qHC1 := keep (double_q (1 + ((31 - k) * 18 + K)) often (HR1.out.le (by omega)) HIo1.out)
   obtain ⟨qR1,hR⟩ : ∃ Q,doubleM T often R.2.m = Q := ⟨_,rfl⟩
   rw [hR] at qHC1
   have qHE1 := keep hR
   clear hR
   go_wp2_with fail
   refine qHC1.out.mono ?_
   rintro r qw1 ⟨qcv1,qsv1,rfl,hr',hf',hs'⟩
   have qHR1 := keep hr'
   have qHS1 := keep hs'
   have qHF1 := keep hf'
   have qHT1 := keep hs'
   clear hr' hf' hs' qHC1
   have qHC2 := keep (two_q (0 + ((31 - k) * 18 + K)) 2 qR1.1 R.1 (qHR1.out.le (by omega)) (by decide) qHT1.out.in' (HIr.out.stp qHT1.out))
   obtain ⟨qR2,hR⟩ : ∃ Q,twoM T 2 qR1.1 R.1 qR1.2 = Q := ⟨_,rfl⟩
   rw [hR] at qHC2
   have qHE2 := keep hR
   clear hR
   go_wp2_with fail
   refine qHC2.out.mono ?_
   rintro r qw2 ⟨qcv2,qsv2,rfl,hr',hf',hs'⟩
   have qHR2 := keep hr'
   have qHS2 := keep (qHS1.out.then hs')
   have qHF2 := keep (qHF1.out.trans hf')
   have qHT2 := keep hs'
   clear hr' hf' hs' qHC2
   have HQe : Hid (quosM T b (k + 1) (o.1,⟨a,z.1,o.2⟩) = (qR2.1,⟨R.2.rest,R.2.left,qR2.2⟩)) := by
    show _ = _
    rw [HSx.out]
    unfold quoM
    dsimp only
    rw [HRq.out,qHE1.out,qHE2.out]
   rw [← HSx.out,HQe.out] at HPn
   have HD3 := keep (qHF2.out.far HD1.out HFa1.out)
   have HFa3 := keep (HFa1.out.step qHF2.out HD1.out.lt)
   go_wp2
   go_roundw
   case rel => exact ⟨k + 1,by omega,by go_num,by rw [HQe.out],_,_,by rw [HQe.out]; exact qHR2.out.le (by omega),HF1.out.trans qHF2.out,by rw [HQe.out]; exact HD3.out,HFa3.out,by rw [HQe.out,show 2 + (k + 1) * 18 = 2 + k * 18 + 18 by omega]; exact HPn.out.1,by rw [HQe.out]; exact ⟨HPn.out.2.1,HPn.out.2.2⟩⟩
   case measure => simp [intOf] <;> omega
  ·have hke : k = 32 := by omega
   subst hke
   have HL := keep (quos_lst T b 31 (o.1,⟨a,z.1,o.2⟩))
   have HM : Hid (divM T a b m = (quosM T b 32 (o.1,⟨a,z.1,o.2⟩)).2.m) := by show _ = _; unfold divM; dsimp only; rw [HZ.out,HO.out]
   have HR := keep hr0
   have HF := keep hf0
   have HP : Hid (Stp 578 m ((quosM T b 32 (o.1,⟨a,z.1,o.2⟩)).1,(quosM T b 32 (o.1,⟨a,z.1,o.2⟩)).2.m)) := by
    obtain ⟨g,q0,q1,ge,c,s,n⟩ := hp0.s
    exact ⟨g,hi0.p0,hi0.p1,ge,c,s,n⟩
   clear hr0 hf0 hd0 hfa0 hp0 hi0 hkl hkn
   go_wp2
   refine bodyPost_end (results_none rfl _ _ _) rfl ?_
   exact ⟨_,_,_,rfl,by rw [HM.out]; exact HR.out.le (by omega),HF.out,by rw [HM.out]; exact HP.out,by rw [HM.out]; exact HL.out⟩
theorem shl_succ (T : Nat → Int) (b : Int) (n : Nat) (a : Int) (m : Mk) : movedM T (upM T) b (n + 1) a m = moveM T (upM T) n (movedM T (upM T) b n a m).1 b (movedM T (upM T) b n a m).2 := rfl
theorem shl_lst (T : Nat → Int) (b : Int) (n : Nat) (a : Int) (m : Mk) : Lst (movedM T (upM T) b (n + 1) a m) := two_lst T 5 _ _ _
theorem shl_v (K : Nat) {lo MB NB : Nat} {T : Nat → Int} {cv sv : Value} {m : Mk} {w : World} (a b : Int) (h : Rdy lo MB NB T cv sv m w (125 + K)) (ha : In a m) (hb : In b m) : Calls Try.prog 76 #[.pointer (some ⟨MB,0,none⟩),.int .i64 a,.int .i64 b,.func (.func 77) #[.pointer (some ⟨MB,0,none⟩)] #[]] w fun r w' => Wv 125 K lo MB NB T cv sv m (shlM T a b m) w r w' := by
 have HR0 := keep h
 have Ia := keep ha
 have Ib := keep hb
 clear h ha hb
 have HSt : Hid (∀ k,k ≤ 5 → Stp (k * 25) m (movedM T (upM T) b k a m)) := fun k hk => moved_stp T (up_ok T) b k a hk HR0.out.g Ia.out.p0 Ia.out.p1
 go_enter Try.func76,Try.ntmps76
 go_wp2
 go_loopw [10,1] (fun j y wx => ∃ k : Nat,k ≤ 5 ∧ j = .int .i64 (k : Int) ∧ y = .int .i64 (movedM T (upM T) b k a m).1 ∧ ∃ cv' sv',Rdy lo MB NB T cv' sv' (movedM T (upM T) b k a m).2 wx ((5 - k) * 25 + K) ∧ MF MB NB cv sv w cv' sv' wx) (fun j _ _ => 5 - (intOf j).toNat)
 case atStart => exact ⟨0,by omega,rfl,rfl,_,_,HR0.out.le (by omega),MF.refl _ _ _ _ _⟩
 case round =>
  obtain ⟨k,hkn,rfl,rfl,cv0,sv0,hr0,hf0⟩ := hrel
  by_cases hkl : k < 5
  ·have hsx := shl_succ T b k a m
   have hst := HSt.out k (by omega)
   obtain ⟨pp,hpp⟩ : ∃ pp,movedM T (upM T) b k a m = pp := ⟨_,rfl⟩
   rw [hpp] at hr0 hsx hst ⊢
   obtain ⟨x,q⟩ := pp
   dsimp only at hr0 hsx ⊢
   have HSx := keep hsx
   have Ix : Hid (In x q) := hst.in'
   have Ib2 : Hid (In b q) := Ib.out.stp hst
   have HR := keep hr0
   have HF := keep hf0
   clear hr0 hf0 hsx hst hpp
   obtain rfl | rfl | rfl | rfl | rfl : k = 0 ∨ k = 1 ∨ k = 2 ∨ k = 3 ∨ k = 4 := by omega
   ·have HSx0 := HSx
    have HC1 := keep (num_q (3 + (121 + K)) 0 (HR.out.le (by omega)) (by decide))
    obtain ⟨R1,hR⟩ : ∃ Q,numM T 0 q = Q := ⟨_,rfl⟩
    rw [hR] at HC1
    have HE1 := keep hR
    clear hR
    go_wp2_with fail
    refine HC1.out.mono ?_
    rintro r w1 ⟨cv1,sv1,rfl,hr',hf',hs'⟩
    have HR1 := keep hr'
    have HS1 := keep hs'
    have HF1 := keep hf'
    have HT1 := keep hs'
    clear hr' hf' hs' HC1
    have HC2 := keep (two_q (2 + (121 + K)) 7 b R1.1 (HR1.out.le (by omega)) (by decide) (Ib2.out.stp HT1.out) HT1.out.in')
    obtain ⟨R2,hR⟩ : ∃ Q,twoM T 7 b R1.1 R1.2 = Q := ⟨_,rfl⟩
    rw [hR] at HC2
    have HE2 := keep hR
    clear hR
    go_wp2_with fail
    refine HC2.out.mono ?_
    rintro r w2 ⟨cv2,sv2,rfl,hr',hf',hs'⟩
    have HR2 := keep hr'
    have HS2 := keep (HS1.out.then hs')
    have HF2 := keep (HF1.out.trans hf')
    have HT2 := keep hs'
    clear hr' hf' hs' HC2
    have HC3 := keep (num_q (1 + (121 + K)) 1 (HR2.out.le (by omega)) (by decide))
    obtain ⟨R3,hR⟩ : ∃ Q,numM T 1 R2.2 = Q := ⟨_,rfl⟩
    rw [hR] at HC3
    have HE3 := keep hR
    clear hR
    go_wp2_with fail
    refine HC3.out.mono ?_
    rintro r w3 ⟨cv3,sv3,rfl,hr',hf',hs'⟩
    have HR3 := keep hr'
    have HS3 := keep (HS2.out.then hs')
    have HF3 := keep (HF2.out.trans hf')
    have HT3 := keep hs'
    clear hr' hf' hs' HC3
    have HC4 := keep (two_q (0 + (121 + K)) 3 R2.1 R3.1 (HR3.out.le (by omega)) (by decide) (HT2.out.in'.stp HT3.out) HT3.out.in')
    obtain ⟨R4,hR⟩ : ∃ Q,twoM T 3 R2.1 R3.1 R3.2 = Q := ⟨_,rfl⟩
    rw [hR] at HC4
    have HE4 := keep hR
    clear hR
    go_wp2_with fail
    refine HC4.out.mono ?_
    rintro r w4 ⟨cv4,sv4,rfl,hr',hf',hs'⟩
    have HR4 := keep hr'
    have HS4 := keep (HS3.out.then hs')
    have HF4 := keep (HF3.out.trans hf')
    have HT4 := keep hs'
    clear hr' hf' hs' HC4
    go_wp2_with fail
    refine wp_region_noPanic ?_
    refine Ord.wpM_begin (fun _ : World => True) [0,1,2,3,4,5,6,7,8,9,10,11] (by kernel_rfl) ?_
    have HBd : Hid (Below w4.heap.size w4 w4.drew) := Below.drew (Below.refl _ _)
    have HRd := keep (HR4.out.below HBd.out)
    generalize w4.drew = wd at *
    have hS : (fun _ : World => True) wd := trivial
    refine Ord.tk (i:=0) (v:=.pointer (some ⟨MB,0,none⟩)) (hy:=Or.inl ⟨by rfl,by intro W' hW; go_simp⟩) (hS:=hS) (h:=?_)
    try simp only [Act.put,Ord.t,Ord.z,Ord.s]
    refine Ord.tk (i:=1) (v:=.pointer (some ⟨MB,0,none⟩)) (hy:=Or.inl ⟨by rfl,by intro W' hW; go_simp⟩) (hS:=hS) (h:=?_)
    try simp only [Act.put,Ord.t,Ord.z,Ord.s]
    refine Ord.tk (i:=2) (v:=.int .i64 R4.1) (hy:=Or.inl ⟨by rfl,by intro W' hW; go_simp⟩) (hS:=hS) (h:=?_)
    try simp only [Act.put,Ord.t,Ord.z,Ord.s]
    refine Ord.tk (i:=4) (v:=.func (.func 77) #[.pointer (some ⟨MB,0,none⟩)] #[]) (hy:=Or.inl ⟨by rfl,by intro W' hW; go_simp⟩) (hS:=hS) (h:=?_)
    try simp only [Act.put,Ord.t,Ord.z,Ord.s]
    refine Ord.tk (i:=5) (v:=.int .i64 x) (hy:=Or.inl ⟨by rfl,by intro W' hW; go_simp⟩) (hS:=hS) (h:=?_)
    try simp only [Act.put,Ord.t,Ord.z,Ord.s]
    refine Ord.tk (i:=6) (v:=.int .i64 0) (hy:=Or.inl ⟨by rfl,by intro W' hW; go_simp⟩) (hS:=hS) (h:=?_)
    try simp only [Act.put,Ord.t,Ord.z,Ord.s]
    refine Ord.tk (i:=7) (v:=.int .i64 1) (hy:=Or.inl ⟨by rfl,by intro W' hW; go_simp <;> first | decide | (rw [IntKind.wrap_i64]; omega)⟩) (hS:=hS) (h:=?_)
    try simp only [Act.put,Ord.t,Ord.z,Ord.s]
    refine Ord.tk (i:=9) (v:=.int .i64 x) (hy:=Or.inl ⟨by rfl,by intro W' hW; go_simp⟩) (hS:=hS) (h:=?_)
    try simp only [Act.put,Ord.t,Ord.z,Ord.s]
    have HC5 := keep (all_q (119 + K) R4.1 (HRd.out.le (by omega)) HT4.out.in')
    obtain ⟨R5,hR⟩ : ∃ R,allM T R4.1 R4.2 = R := ⟨_,rfl⟩
    rw [hR] at HC5
    have HE5 := keep hR
    clear hR
    refine Ord.on (i:=3) (h:=fun K hK => ?_)
    go_simp
    refine HC5.out.mono ?_
    rintro r w5 ⟨cv5,sv5,rfl,hr',hf',hs'⟩
    have HR5 := keep hr'
    have HT5 := keep hs'
    have HF5 := keep hf'
    clear hr' hf' hs' HC5
    go_simp
    refine hK.out _ _ (fun _ => trivial) ?_
    clear hK K
    try simp only [Act.put,Ord.t,Ord.z,Ord.s]
    have HC6 : Hid (Calls Try.prog 77 #[.pointer (some ⟨MB,0,none⟩),.int .i64 x,.int .i64 1] w5 fun r w' => Wq 1 (103 + K) lo MB NB T cv5 sv5 R5.2 (upM T 1 x R5.2) w5 r w') := up_q (103 + K) 1 x (HR5.out.le (by omega)) (((((Ix.out.stp HT1.out).stp HT2.out).stp HT3.out).stp HT4.out).stp HT5.out) (by decide)
    obtain ⟨R6,hR⟩ : ∃ R,upM T 1 x R5.2 = R := ⟨_,rfl⟩
    have HE6 := keep hR
    rw [hR] at HC6
    clear hR
    refine Ord.on (i:=8) (h:=fun K hK => ?_)
    go_simp
    refine HC6.out.mono ?_
    rintro r w6 ⟨cv6,sv6,rfl,hr',hf',hs'⟩
    have HR6 := keep hr'
    have HT6 := keep hs'
    have HF6 := keep hf'
    clear hr' hf' hs' HC6
    go_simp
    refine hK.out _ _ (fun _ => trivial) ?_
    clear hK K
    try simp only [Act.put,Ord.t,Ord.z,Ord.s]
    have HC7 := keep (choose_q (100 + K) R5.1 R6.1 x (HR6.out.le (by omega)) (HT5.out.in'.stp HT6.out) HT6.out.in' ((((((Ix.out.stp HT1.out).stp HT2.out).stp HT3.out).stp HT4.out).stp HT5.out).stp HT6.out))
    obtain ⟨R7,hR⟩ : ∃ R,chooseM T R5.1 R6.1 x R6.2 = R := ⟨_,rfl⟩
    rw [hR] at HC7
    have HE7 := keep hR
    clear hR
    refine Ord.on (i:=10) (h:=fun K hK => ?_)
    go_simp
    refine HC7.out.mono ?_
    rintro r w7 ⟨cv7,sv7,rfl,hr',hf',hs'⟩
    have HR7 := keep hr'
    have HF7 := keep hf'
    clear hr' hf' hs' HC7
    go_simp
    refine hK.out _ _ (fun _ => trivial) ?_
    clear hK K
    try simp only [Act.put,Ord.t,Ord.z,Ord.s]
    refine Ord.on (i:=11) (h:=fun K hK => ?_)
    go_simp
    refine hK.out _ _ (fun _ => trivial) ?_
    clear hK K
    try simp only [Act.put,Ord.t,Ord.z,Ord.s]
    refine Ord.wpM_done (by kernel_rfl) ?_ _
    refine NoPanic.normal ?_
    have HEq : Hid (movedM T (upM T) b 1 a m = R7) := by
     show _ = _
     rw [HSx.out]
     unfold moveM
     dsimp only
     (try simp only [Nat.reducePow])
     (try rw [show ((0 : Nat) : Int) = 0 from rfl])
     rw [HE1.out,HE2.out,HE3.out,HE4.out,HE5.out]
     (try rw [show ((1 : Nat) : Int) = 1 from rfl])
     rw [HE6.out,HE7.out]
    have HFall := keep (HF.out.trans (HF4.out.trans ((MF.of_below HBd.out).trans (HF5.out.trans (HF6.out.trans HF7.out)))))
    clear hS
    go_wp2
    go_roundw
    case rel => exact ⟨1,by omega,by first | rfl | go_num,by rw [HEq.out],_,_,by rw [HEq.out]; exact HR7.out.le (by omega),HFall.out⟩
    case measure => simp [intOf] <;> omega
   ·have HSx1 := HSx
    have HC1 := keep (num_q (3 + (96 + K)) 1 (HR.out.le (by omega)) (by decide))
    obtain ⟨R1,hR⟩ : ∃ Q,numM T 1 q = Q := ⟨_,rfl⟩
    rw [hR] at HC1
    have HE1 := keep hR
    clear hR
    go_wp2_with fail
    refine HC1.out.mono ?_
    rintro r w1 ⟨cv1,sv1,rfl,hr',hf',hs'⟩
    have HR1 := keep hr'
    have HS1 := keep hs'
    have HF1 := keep hf'
    have HT1 := keep hs'
    clear hr' hf' hs' HC1
    have HC2 := keep (two_q (2 + (96 + K)) 7 b R1.1 (HR1.out.le (by omega)) (by decide) (Ib2.out.stp HT1.out) HT1.out.in')
    obtain ⟨R2,hR⟩ : ∃ Q,twoM T 7 b R1.1 R1.2 = Q := ⟨_,rfl⟩
    rw [hR] at HC2
    have HE2 := keep hR
    clear hR
    go_wp2_with fail
    refine HC2.out.mono ?_
    rintro r w2 ⟨cv2,sv2,rfl,hr',hf',hs'⟩
    have HR2 := keep hr'
    have HS2 := keep (HS1.out.then hs')
    have HF2 := keep (HF1.out.trans hf')
    have HT2 := keep hs'
    clear hr' hf' hs' HC2
    have HC3 := keep (num_q (1 + (96 + K)) 1 (HR2.out.le (by omega)) (by decide))
    obtain ⟨R3,hR⟩ : ∃ Q,numM T 1 R2.2 = Q := ⟨_,rfl⟩
    rw [hR] at HC3
    have HE3 := keep hR
    clear hR
    go_wp2_with fail
    refine HC3.out.mono ?_
    rintro r w3 ⟨cv3,sv3,rfl,hr',hf',hs'⟩
    have HR3 := keep hr'
    have HS3 := keep (HS2.out.then hs')
    have HF3 := keep (HF2.out.trans hf')
    have HT3 := keep hs'
    clear hr' hf' hs' HC3
    have HC4 := keep (two_q (0 + (96 + K)) 3 R2.1 R3.1 (HR3.out.le (by omega)) (by decide) (HT2.out.in'.stp HT3.out) HT3.out.in')
    obtain ⟨R4,hR⟩ : ∃ Q,twoM T 3 R2.1 R3.1 R3.2 = Q := ⟨_,rfl⟩
    rw [hR] at HC4
    have HE4 := keep hR
    clear hR
    go_wp2_with fail
    refine HC4.out.mono ?_
    rintro r w4 ⟨cv4,sv4,rfl,hr',hf',hs'⟩
    have HR4 := keep hr'
    have HS4 := keep (HS3.out.then hs')
    have HF4 := keep (HF3.out.trans hf')
    have HT4 := keep hs'
    clear hr' hf' hs' HC4
    go_wp2_with fail
    refine wp_region_noPanic ?_
    refine Ord.wpM_begin (fun _ : World => True) [0,1,2,3,4,5,6,7,8,9,10,11] (by kernel_rfl) ?_
    have HBd : Hid (Below w4.heap.size w4 w4.drew) := Below.drew (Below.refl _ _)
    have HRd := keep (HR4.out.below HBd.out)
    generalize w4.drew = wd at *
    have hS : (fun _ : World => True) wd := trivial
    refine Ord.tk (i:=0) (v:=.pointer (some ⟨MB,0,none⟩)) (hy:=Or.inl ⟨by rfl,by intro W' hW; go_simp⟩) (hS:=hS) (h:=?_)
    try simp only [Act.put,Ord.t,Ord.z,Ord.s]
    refine Ord.tk (i:=1) (v:=.pointer (some ⟨MB,0,none⟩)) (hy:=Or.inl ⟨by rfl,by intro W' hW; go_simp⟩) (hS:=hS) (h:=?_)
    try simp only [Act.put,Ord.t,Ord.z,Ord.s]
    refine Ord.tk (i:=2) (v:=.int .i64 R4.1) (hy:=Or.inl ⟨by rfl,by intro W' hW; go_simp⟩) (hS:=hS) (h:=?_)
    try simp only [Act.put,Ord.t,Ord.z,Ord.s]
    refine Ord.tk (i:=4) (v:=.func (.func 77) #[.pointer (some ⟨MB,0,none⟩)] #[]) (hy:=Or.inl ⟨by rfl,by intro W' hW; go_simp⟩) (hS:=hS) (h:=?_)
    try simp only [Act.put,Ord.t,Ord.z,Ord.s]
    refine Ord.tk (i:=5) (v:=.int .i64 x) (hy:=Or.inl ⟨by rfl,by intro W' hW; go_simp⟩) (hS:=hS) (h:=?_)
    try simp only [Act.put,Ord.t,Ord.z,Ord.s]
    refine Ord.tk (i:=6) (v:=.int .i64 1) (hy:=Or.inl ⟨by rfl,by intro W' hW; go_simp⟩) (hS:=hS) (h:=?_)
    try simp only [Act.put,Ord.t,Ord.z,Ord.s]
    refine Ord.tk (i:=7) (v:=.int .i64 2) (hy:=Or.inl ⟨by rfl,by intro W' hW; go_simp <;> first | decide | (rw [IntKind.wrap_i64]; omega)⟩) (hS:=hS) (h:=?_)
    try simp only [Act.put,Ord.t,Ord.z,Ord.s]
    refine Ord.tk (i:=9) (v:=.int .i64 x) (hy:=Or.inl ⟨by rfl,by intro W' hW; go_simp⟩) (hS:=hS) (h:=?_)
    try simp only [Act.put,Ord.t,Ord.z,Ord.s]
    have HC5 := keep (all_q (94 + K) R4.1 (HRd.out.le (by omega)) HT4.out.in')
    obtain ⟨R5,hR⟩ : ∃ R,allM T R4.1 R4.2 = R := ⟨_,rfl⟩
    rw [hR] at HC5
    have HE5 := keep hR
    clear hR
    refine Ord.on (i:=3) (h:=fun K hK => ?_)
    go_simp
    refine HC5.out.mono ?_
    rintro r w5 ⟨cv5,sv5,rfl,hr',hf',hs'⟩
    have HR5 := keep hr'
    have HT5 := keep hs'
    have HF5 := keep hf'
    clear hr' hf' hs' HC5
    go_simp
    refine hK.out _ _ (fun _ => trivial) ?_
    clear hK K
    try simp only [Act.put,Ord.t,Ord.z,Ord.s]
    have HC6 : Hid (Calls Try.prog 77 #[.pointer (some ⟨MB,0,none⟩),.int .i64 x,.int .i64 2] w5 fun r w' => Wq 2 (78 + K) lo MB NB T cv5 sv5 R5.2 (upM T 2 x R5.2) w5 r w') := up_q (78 + K) 2 x (HR5.out.le (by omega)) (((((Ix.out.stp HT1.out).stp HT2.out).stp HT3.out).stp HT4.out).stp HT5.out) (by decide)
    obtain ⟨R6,hR⟩ : ∃ R,upM T 2 x R5.2 = R := ⟨_,rfl⟩
    have HE6 := keep hR
    rw [hR] at HC6
    clear hR
    refine Ord.on (i:=8) (h:=fun K hK => ?_)
    go_simp
    refine HC6.out.mono ?_
    rintro r w6 ⟨cv6,sv6,rfl,hr',hf',hs'⟩
    have HR6 := keep hr'
    have HT6 := keep hs'
    have HF6 := keep hf'
    clear hr' hf' hs' HC6
    go_simp
    refine hK.out _ _ (fun _ => trivial) ?_
    clear hK K
    try simp only [Act.put,Ord.t,Ord.z,Ord.s]
    have HC7 := keep (choose_q (75 + K) R5.1 R6.1 x (HR6.out.le (by omega)) (HT5.out.in'.stp HT6.out) HT6.out.in' ((((((Ix.out.stp HT1.out).stp HT2.out).stp HT3.out).stp HT4.out).stp HT5.out).stp HT6.out))
    obtain ⟨R7,hR⟩ : ∃ R,chooseM T R5.1 R6.1 x R6.2 = R := ⟨_,rfl⟩
    rw [hR] at HC7
    have HE7 := keep hR
    clear hR
    refine Ord.on (i:=10) (h:=fun K hK => ?_)
    go_simp
    refine HC7.out.mono ?_
    rintro r w7 ⟨cv7,sv7,rfl,hr',hf',hs'⟩
    have HR7 := keep hr'
    have HF7 := keep hf'
    clear hr' hf' hs' HC7
    go_simp
    refine hK.out _ _ (fun _ => trivial) ?_
    clear hK K
    try simp only [Act.put,Ord.t,Ord.z,Ord.s]
    refine Ord.on (i:=11) (h:=fun K hK => ?_)
    go_simp
    refine hK.out _ _ (fun _ => trivial) ?_
    clear hK K
    try simp only [Act.put,Ord.t,Ord.z,Ord.s]
    refine Ord.wpM_done (by kernel_rfl) ?_ _
    refine NoPanic.normal ?_
    have HEq : Hid (movedM T (upM T) b 2 a m = R7) := by
     show _ = _
     rw [HSx.out]
     unfold moveM
     dsimp only
     (try simp only [Nat.reducePow])
     (try rw [show ((1 : Nat) : Int) = 1 from rfl])
     rw [HE1.out,HE2.out,HE3.out,HE4.out,HE5.out]
     (try rw [show ((2 : Nat) : Int) = 2 from rfl])
     rw [HE6.out,HE7.out]
    have HFall := keep (HF.out.trans (HF4.out.trans ((MF.of_below HBd.out).trans (HF5.out.trans (HF6.out.trans HF7.out)))))
    clear hS
    go_wp2
    go_roundw
    case rel => exact ⟨2,by omega,by first | rfl | go_num,by rw [HEq.out],_,_,by rw [HEq.out]; exact HR7.out.le (by omega),HFall.out⟩
    case measure => simp [intOf] <;> omega
   ·have HSx2 := HSx
    have HC1 := keep (num_q (3 + (71 + K)) 2 (HR.out.le (by omega)) (by decide))
    obtain ⟨R1,hR⟩ : ∃ Q,numM T 2 q = Q := ⟨_,rfl⟩
    rw [hR] at HC1
    have HE1 := keep hR
    clear hR
    go_wp2_with fail
    refine HC1.out.mono ?_
    rintro r w1 ⟨cv1,sv1,rfl,hr',hf',hs'⟩
    have HR1 := keep hr'
    have HS1 := keep hs'
    have HF1 := keep hf'
    have HT1 := keep hs'
    clear hr' hf' hs' HC1
    have HC2 := keep (two_q (2 + (71 + K)) 7 b R1.1 (HR1.out.le (by omega)) (by decide) (Ib2.out.stp HT1.out) HT1.out.in')
    obtain ⟨R2,hR⟩ : ∃ Q,twoM T 7 b R1.1 R1.2 = Q := ⟨_,rfl⟩
    rw [hR] at HC2
    have HE2 := keep hR
    clear hR
    go_wp2_with fail
    refine HC2.out.mono ?_
    rintro r w2 ⟨cv2,sv2,rfl,hr',hf',hs'⟩
    have HR2 := keep hr'
    have HS2 := keep (HS1.out.then hs')
    have HF2 := keep (HF1.out.trans hf')
    have HT2 := keep hs'
    clear hr' hf' hs' HC2
    have HC3 := keep (num_q (1 + (71 + K)) 1 (HR2.out.le (by omega)) (by decide))
    obtain ⟨R3,hR⟩ : ∃ Q,numM T 1 R2.2 = Q := ⟨_,rfl⟩
    rw [hR] at HC3
    have HE3 := keep hR
    clear hR
    go_wp2_with fail
    refine HC3.out.mono ?_
    rintro r w3 ⟨cv3,sv3,rfl,hr',hf',hs'⟩
    have HR3 := keep hr'
    have HS3 := keep (HS2.out.then hs')
    have HF3 := keep (HF2.out.trans hf')
    have HT3 := keep hs'
    clear hr' hf' hs' HC3
    have HC4 := keep (two_q (0 + (71 + K)) 3 R2.1 R3.1 (HR3.out.le (by omega)) (by decide) (HT2.out.in'.stp HT3.out) HT3.out.in')
    obtain ⟨R4,hR⟩ : ∃ Q,twoM T 3 R2.1 R3.1 R3.2 = Q := ⟨_,rfl⟩
    rw [hR] at HC4
    have HE4 := keep hR
    clear hR
    go_wp2_with fail
    refine HC4.out.mono ?_
    rintro r w4 ⟨cv4,sv4,rfl,hr',hf',hs'⟩
    have HR4 := keep hr'
    have HS4 := keep (HS3.out.then hs')
    have HF4 := keep (HF3.out.trans hf')
    have HT4 := keep hs'
    clear hr' hf' hs' HC4
    go_wp2_with fail
    refine wp_region_noPanic ?_
    refine Ord.wpM_begin (fun _ : World => True) [0,1,2,3,4,5,6,7,8,9,10,11] (by kernel_rfl) ?_
    have HBd : Hid (Below w4.heap.size w4 w4.drew) := Below.drew (Below.refl _ _)
    have HRd := keep (HR4.out.below HBd.out)
    generalize w4.drew = wd at *
    have hS : (fun _ : World => True) wd := trivial
    refine Ord.tk (i:=0) (v:=.pointer (some ⟨MB,0,none⟩)) (hy:=Or.inl ⟨by rfl,by intro W' hW; go_simp⟩) (hS:=hS) (h:=?_)
    try simp only [Act.put,Ord.t,Ord.z,Ord.s]
    refine Ord.tk (i:=1) (v:=.pointer (some ⟨MB,0,none⟩)) (hy:=Or.inl ⟨by rfl,by intro W' hW; go_simp⟩) (hS:=hS) (h:=?_)
    try simp only [Act.put,Ord.t,Ord.z,Ord.s]
    refine Ord.tk (i:=2) (v:=.int .i64 R4.1) (hy:=Or.inl ⟨by rfl,by intro W' hW; go_simp⟩) (hS:=hS) (h:=?_)
    try simp only [Act.put,Ord.t,Ord.z,Ord.s]
    refine Ord.tk (i:=4) (v:=.func (.func 77) #[.pointer (some ⟨MB,0,none⟩)] #[]) (hy:=Or.inl ⟨by rfl,by intro W' hW; go_simp⟩) (hS:=hS) (h:=?_)
    try simp only [Act.put,Ord.t,Ord.z,Ord.s]
    refine Ord.tk (i:=5) (v:=.int .i64 x) (hy:=Or.inl ⟨by rfl,by intro W' hW; go_simp⟩) (hS:=hS) (h:=?_)
    try simp only [Act.put,Ord.t,Ord.z,Ord.s]
    refine Ord.tk (i:=6) (v:=.int .i64 2) (hy:=Or.inl ⟨by rfl,by intro W' hW; go_simp⟩) (hS:=hS) (h:=?_)
    try simp only [Act.put,Ord.t,Ord.z,Ord.s]
    refine Ord.tk (i:=7) (v:=.int .i64 4) (hy:=Or.inl ⟨by rfl,by intro W' hW; go_simp <;> first | decide | (rw [IntKind.wrap_i64]; omega)⟩) (hS:=hS) (h:=?_)
    try simp only [Act.put,Ord.t,Ord.z,Ord.s]
    refine Ord.tk (i:=9) (v:=.int .i64 x) (hy:=Or.inl ⟨by rfl,by intro W' hW; go_simp⟩) (hS:=hS) (h:=?_)
    try simp only [Act.put,Ord.t,Ord.z,Ord.s]
    have HC5 := keep (all_q (69 + K) R4.1 (HRd.out.le (by omega)) HT4.out.in')
    obtain ⟨R5,hR⟩ : ∃ R,allM T R4.1 R4.2 = R := ⟨_,rfl⟩
    rw [hR] at HC5
    have HE5 := keep hR
    clear hR
    refine Ord.on (i:=3) (h:=fun K hK => ?_)
    go_simp
    refine HC5.out.mono ?_
    rintro r w5 ⟨cv5,sv5,rfl,hr',hf',hs'⟩
    have HR5 := keep hr'
    have HT5 := keep hs'
    have HF5 := keep hf'
    clear hr' hf' hs' HC5
    go_simp
    refine hK.out _ _ (fun _ => trivial) ?_
    clear hK K
    try simp only [Act.put,Ord.t,Ord.z,Ord.s]
    have HC6 : Hid (Calls Try.prog 77 #[.pointer (some ⟨MB,0,none⟩),.int .i64 x,.int .i64 4] w5 fun r w' => Wq 4 (53 + K) lo MB NB T cv5 sv5 R5.2 (upM T 4 x R5.2) w5 r w') := up_q (53 + K) 4 x (HR5.out.le (by omega)) (((((Ix.out.stp HT1.out).stp HT2.out).stp HT3.out).stp HT4.out).stp HT5.out) (by decide)
    obtain ⟨R6,hR⟩ : ∃ R,upM T 4 x R5.2 = R := ⟨_,rfl⟩
    have HE6 := keep hR
    rw [hR] at HC6
    clear hR
    refine Ord.on (i:=8) (h:=fun K hK => ?_)
    go_simp
    refine HC6.out.mono ?_
    rintro r w6 ⟨cv6,sv6,rfl,hr',hf',hs'⟩
    have HR6 := keep hr'
    have HT6 := keep hs'
    have HF6 := keep hf'
    clear hr' hf' hs' HC6
    go_simp
    refine hK.out _ _ (fun _ => trivial) ?_
    clear hK K
    try simp only [Act.put,Ord.t,Ord.z,Ord.s]
    have HC7 := keep (choose_q (50 + K) R5.1 R6.1 x (HR6.out.le (by omega)) (HT5.out.in'.stp HT6.out) HT6.out.in' ((((((Ix.out.stp HT1.out).stp HT2.out).stp HT3.out).stp HT4.out).stp HT5.out).stp HT6.out))
    obtain ⟨R7,hR⟩ : ∃ R,chooseM T R5.1 R6.1 x R6.2 = R := ⟨_,rfl⟩
    rw [hR] at HC7
    have HE7 := keep hR
    clear hR
    refine Ord.on (i:=10) (h:=fun K hK => ?_)
    go_simp
    refine HC7.out.mono ?_
    rintro r w7 ⟨cv7,sv7,rfl,hr',hf',hs'⟩
    have HR7 := keep hr'
    have HF7 := keep hf'
    clear hr' hf' hs' HC7
    go_simp
    refine hK.out _ _ (fun _ => trivial) ?_
    clear hK K
    try simp only [Act.put,Ord.t,Ord.z,Ord.s]
    refine Ord.on (i:=11) (h:=fun K hK => ?_)
    go_simp
    refine hK.out _ _ (fun _ => trivial) ?_
    clear hK K
    try simp only [Act.put,Ord.t,Ord.z,Ord.s]
    refine Ord.wpM_done (by kernel_rfl) ?_ _
    refine NoPanic.normal ?_
    have HEq : Hid (movedM T (upM T) b 3 a m = R7) := by
     show _ = _
     rw [HSx.out]
     unfold moveM
     dsimp only
     (try simp only [Nat.reducePow])
     (try rw [show ((2 : Nat) : Int) = 2 from rfl])
     rw [HE1.out,HE2.out,HE3.out,HE4.out,HE5.out]
     (try rw [show ((4 : Nat) : Int) = 4 from rfl])
     rw [HE6.out,HE7.out]
    have HFall := keep (HF.out.trans (HF4.out.trans ((MF.of_below HBd.out).trans (HF5.out.trans (HF6.out.trans HF7.out)))))
    clear hS
    go_wp2
    go_roundw
    case rel => exact ⟨3,by omega,by first | rfl | go_num,by rw [HEq.out],_,_,by rw [HEq.out]; exact HR7.out.le (by omega),HFall.out⟩
    case measure => simp [intOf] <;> omega
   ·have HSx3 := HSx
    have HC1 := keep (num_q (3 + (46 + K)) 3 (HR.out.le (by omega)) (by decide))
    obtain ⟨R1,hR⟩ : ∃ Q,numM T 3 q = Q := ⟨_,rfl⟩
    rw [hR] at HC1
    have HE1 := keep hR
    clear hR
    go_wp2_with fail
    refine HC1.out.mono ?_
    rintro r w1 ⟨cv1,sv1,rfl,hr',hf',hs'⟩
    have HR1 := keep hr'
    have HS1 := keep hs'
    have HF1 := keep hf'
    have HT1 := keep hs'
    clear hr' hf' hs' HC1
    have HC2 := keep (two_q (2 + (46 + K)) 7 b R1.1 (HR1.out.le (by omega)) (by decide) (Ib2.out.stp HT1.out) HT1.out.in')
    obtain ⟨R2,hR⟩ : ∃ Q,twoM T 7 b R1.1 R1.2 = Q := ⟨_,rfl⟩
    rw [hR] at HC2
    have HE2 := keep hR
    clear hR
    go_wp2_with fail
    refine HC2.out.mono ?_
    rintro r w2 ⟨cv2,sv2,rfl,hr',hf',hs'⟩
    have HR2 := keep hr'
    have HS2 := keep (HS1.out.then hs')
    have HF2 := keep (HF1.out.trans hf')
    have HT2 := keep hs'
    clear hr' hf' hs' HC2
    have HC3 := keep (num_q (1 + (46 + K)) 1 (HR2.out.le (by omega)) (by decide))
    obtain ⟨R3,hR⟩ : ∃ Q,numM T 1 R2.2 = Q := ⟨_,rfl⟩
    rw [hR] at HC3
    have HE3 := keep hR
    clear hR
    go_wp2_with fail
    refine HC3.out.mono ?_
    rintro r w3 ⟨cv3,sv3,rfl,hr',hf',hs'⟩
    have HR3 := keep hr'
    have HS3 := keep (HS2.out.then hs')
    have HF3 := keep (HF2.out.trans hf')
    have HT3 := keep hs'
    clear hr' hf' hs' HC3
    have HC4 := keep (two_q (0 + (46 + K)) 3 R2.1 R3.1 (HR3.out.le (by omega)) (by decide) (HT2.out.in'.stp HT3.out) HT3.out.in')
    obtain ⟨R4,hR⟩ : ∃ Q,twoM T 3 R2.1 R3.1 R3.2 = Q := ⟨_,rfl⟩
    rw [hR] at HC4
    have HE4 := keep hR
    clear hR
    go_wp2_with fail
    refine HC4.out.mono ?_
    rintro r w4 ⟨cv4,sv4,rfl,hr',hf',hs'⟩
    have HR4 := keep hr'
    have HS4 := keep (HS3.out.then hs')
    have HF4 := keep (HF3.out.trans hf')
    have HT4 := keep hs'
    clear hr' hf' hs' HC4
    go_wp2_with fail
    refine wp_region_noPanic ?_
    refine Ord.wpM_begin (fun _ : World => True) [0,1,2,3,4,5,6,7,8,9,10,11] (by kernel_rfl) ?_
    have HBd : Hid (Below w4.heap.size w4 w4.drew) := Below.drew (Below.refl _ _)
    have HRd := keep (HR4.out.below HBd.out)
    generalize w4.drew = wd at *
    have hS : (fun _ : World => True) wd := trivial
    refine Ord.tk (i:=0) (v:=.pointer (some ⟨MB,0,none⟩)) (hy:=Or.inl ⟨by rfl,by intro W' hW; go_simp⟩) (hS:=hS) (h:=?_)
    try simp only [Act.put,Ord.t,Ord.z,Ord.s]
    refine Ord.tk (i:=1) (v:=.pointer (some ⟨MB,0,none⟩)) (hy:=Or.inl ⟨by rfl,by intro W' hW; go_simp⟩) (hS:=hS) (h:=?_)
    try simp only [Act.put,Ord.t,Ord.z,Ord.s]
    refine Ord.tk (i:=2) (v:=.int .i64 R4.1) (hy:=Or.inl ⟨by rfl,by intro W' hW; go_simp⟩) (hS:=hS) (h:=?_)
    try simp only [Act.put,Ord.t,Ord.z,Ord.s]
    refine Ord.tk (i:=4) (v:=.func (.func 77) #[.pointer (some ⟨MB,0,none⟩)] #[]) (hy:=Or.inl ⟨by rfl,by intro W' hW; go_simp⟩) (hS:=hS) (h:=?_)
    try simp only [Act.put,Ord.t,Ord.z,Ord.s]
    refine Ord.tk (i:=5) (v:=.int .i64 x) (hy:=Or.inl ⟨by rfl,by intro W' hW; go_simp⟩) (hS:=hS) (h:=?_)
    try simp only [Act.put,Ord.t,Ord.z,Ord.s]
    refine Ord.tk (i:=6) (v:=.int .i64 3) (hy:=Or.inl ⟨by rfl,by intro W' hW; go_simp⟩) (hS:=hS) (h:=?_)
    try simp only [Act.put,Ord.t,Ord.z,Ord.s]
    refine Ord.tk (i:=7) (v:=.int .i64 8) (hy:=Or.inl ⟨by rfl,by intro W' hW; go_simp <;> first | decide | (rw [IntKind.wrap_i64]; omega)⟩) (hS:=hS) (h:=?_)
    try simp only [Act.put,Ord.t,Ord.z,Ord.s]
    refine Ord.tk (i:=9) (v:=.int .i64 x) (hy:=Or.inl ⟨by rfl,by intro W' hW; go_simp⟩) (hS:=hS) (h:=?_)
    try simp only [Act.put,Ord.t,Ord.z,Ord.s]
    have HC5 := keep (all_q (44 + K) R4.1 (HRd.out.le (by omega)) HT4.out.in')
    obtain ⟨R5,hR⟩ : ∃ R,allM T R4.1 R4.2 = R := ⟨_,rfl⟩
    rw [hR] at HC5
    have HE5 := keep hR
    clear hR
    refine Ord.on (i:=3) (h:=fun K hK => ?_)
    go_simp
    refine HC5.out.mono ?_
    rintro r w5 ⟨cv5,sv5,rfl,hr',hf',hs'⟩
    have HR5 := keep hr'
    have HT5 := keep hs'
    have HF5 := keep hf'
    clear hr' hf' hs' HC5
    go_simp
    refine hK.out _ _ (fun _ => trivial) ?_
    clear hK K
    try simp only [Act.put,Ord.t,Ord.z,Ord.s]
    have HC6 : Hid (Calls Try.prog 77 #[.pointer (some ⟨MB,0,none⟩),.int .i64 x,.int .i64 8] w5 fun r w' => Wq 8 (28 + K) lo MB NB T cv5 sv5 R5.2 (upM T 8 x R5.2) w5 r w') := up_q (28 + K) 8 x (HR5.out.le (by omega)) (((((Ix.out.stp HT1.out).stp HT2.out).stp HT3.out).stp HT4.out).stp HT5.out) (by decide)
    obtain ⟨R6,hR⟩ : ∃ R,upM T 8 x R5.2 = R := ⟨_,rfl⟩
    have HE6 := keep hR
    rw [hR] at HC6
    clear hR
    refine Ord.on (i:=8) (h:=fun K hK => ?_)
    go_simp
    refine HC6.out.mono ?_
    rintro r w6 ⟨cv6,sv6,rfl,hr',hf',hs'⟩
    have HR6 := keep hr'
    have HT6 := keep hs'
    have HF6 := keep hf'
    clear hr' hf' hs' HC6
    go_simp
    refine hK.out _ _ (fun _ => trivial) ?_
    clear hK K
    try simp only [Act.put,Ord.t,Ord.z,Ord.s]
    have HC7 := keep (choose_q (25 + K) R5.1 R6.1 x (HR6.out.le (by omega)) (HT5.out.in'.stp HT6.out) HT6.out.in' ((((((Ix.out.stp HT1.out).stp HT2.out).stp HT3.out).stp HT4.out).stp HT5.out).stp HT6.out))
    obtain ⟨R7,hR⟩ : ∃ R,chooseM T R5.1 R6.1 x R6.2 = R := ⟨_,rfl⟩
    rw [hR] at HC7
    have HE7 := keep hR
    clear hR
    refine Ord.on (i:=10) (h:=fun K hK => ?_)
    go_simp
    refine HC7.out.mono ?_
    rintro r w7 ⟨cv7,sv7,rfl,hr',hf',hs'⟩
    have HR7 := keep hr'
    have HF7 := keep hf'
    clear hr' hf' hs' HC7
    go_simp
    refine hK.out _ _ (fun _ => trivial) ?_
    clear hK K
    try simp only [Act.put,Ord.t,Ord.z,Ord.s]
    refine Ord.on (i:=11) (h:=fun K hK => ?_)
    go_simp
    refine hK.out _ _ (fun _ => trivial) ?_
    clear hK K
    try simp only [Act.put,Ord.t,Ord.z,Ord.s]
    refine Ord.wpM_done (by kernel_rfl) ?_ _
    refine NoPanic.normal ?_
    have HEq : Hid (movedM T (upM T) b 4 a m = R7) := by
     show _ = _
     rw [HSx.out]
     unfold moveM
     dsimp only
     (try simp only [Nat.reducePow])
     (try rw [show ((3 : Nat) : Int) = 3 from rfl])
     rw [HE1.out,HE2.out,HE3.out,HE4.out,HE5.out]
     (try rw [show ((8 : Nat) : Int) = 8 from rfl])
     rw [HE6.out,HE7.out]
    have HFall := keep (HF.out.trans (HF4.out.trans ((MF.of_below HBd.out).trans (HF5.out.trans (HF6.out.trans HF7.out)))))
    clear hS
    go_wp2
    go_roundw
    case rel => exact ⟨4,by omega,by first | rfl | go_num,by rw [HEq.out],_,_,by rw [HEq.out]; exact HR7.out.le (by omega),HFall.out⟩
    case measure => simp [intOf] <;> omega
   ·have HSx4 := HSx
    have HC1 := keep (num_q (3 + (21 + K)) 4 (HR.out.le (by omega)) (by decide))
    obtain ⟨R1,hR⟩ : ∃ Q,numM T 4 q = Q := ⟨_,rfl⟩
    rw [hR] at HC1
    have HE1 := keep hR
    clear hR
    go_wp2_with fail
    refine HC1.out.mono ?_
    rintro r w1 ⟨cv1,sv1,rfl,hr',hf',hs'⟩
    have HR1 := keep hr'
    have HS1 := keep hs'
    have HF1 := keep hf'
    have HT1 := keep hs'
    clear hr' hf' hs' HC1
    have HC2 := keep (two_q (2 + (21 + K)) 7 b R1.1 (HR1.out.le (by omega)) (by decide) (Ib2.out.stp HT1.out) HT1.out.in')
    obtain ⟨R2,hR⟩ : ∃ Q,twoM T 7 b R1.1 R1.2 = Q := ⟨_,rfl⟩
    rw [hR] at HC2
    have HE2 := keep hR
    clear hR
    go_wp2_with fail
    refine HC2.out.mono ?_
    rintro r w2 ⟨cv2,sv2,rfl,hr',hf',hs'⟩
    have HR2 := keep hr'
    have HS2 := keep (HS1.out.then hs')
    have HF2 := keep (HF1.out.trans hf')
    have HT2 := keep hs'
    clear hr' hf' hs' HC2
    have HC3 := keep (num_q (1 + (21 + K)) 1 (HR2.out.le (by omega)) (by decide))
    obtain ⟨R3,hR⟩ : ∃ Q,numM T 1 R2.2 = Q := ⟨_,rfl⟩
    rw [hR] at HC3
    have HE3 := keep hR
    clear hR
    go_wp2_with fail
    refine HC3.out.mono ?_
    rintro r w3 ⟨cv3,sv3,rfl,hr',hf',hs'⟩
    have HR3 := keep hr'
    have HS3 := keep (HS2.out.then hs')
    have HF3 := keep (HF2.out.trans hf')
    have HT3 := keep hs'
    clear hr' hf' hs' HC3
    have HC4 := keep (two_q (0 + (21 + K)) 3 R2.1 R3.1 (HR3.out.le (by omega)) (by decide) (HT2.out.in'.stp HT3.out) HT3.out.in')
    obtain ⟨R4,hR⟩ : ∃ Q,twoM T 3 R2.1 R3.1 R3.2 = Q := ⟨_,rfl⟩
    rw [hR] at HC4
    have HE4 := keep hR
    clear hR
    go_wp2_with fail
    refine HC4.out.mono ?_
    rintro r w4 ⟨cv4,sv4,rfl,hr',hf',hs'⟩
    have HR4 := keep hr'
    have HS4 := keep (HS3.out.then hs')
    have HF4 := keep (HF3.out.trans hf')
    have HT4 := keep hs'
    clear hr' hf' hs' HC4
    go_wp2_with fail
    refine wp_region_noPanic ?_
    refine Ord.wpM_begin (fun _ : World => True) [0,1,2,3,4,5,6,7,8,9,10,11] (by kernel_rfl) ?_
    have HBd : Hid (Below w4.heap.size w4 w4.drew) := Below.drew (Below.refl _ _)
    have HRd := keep (HR4.out.below HBd.out)
    generalize w4.drew = wd at *
    have hS : (fun _ : World => True) wd := trivial
    refine Ord.tk (i:=0) (v:=.pointer (some ⟨MB,0,none⟩)) (hy:=Or.inl ⟨by rfl,by intro W' hW; go_simp⟩) (hS:=hS) (h:=?_)
    try simp only [Act.put,Ord.t,Ord.z,Ord.s]
    refine Ord.tk (i:=1) (v:=.pointer (some ⟨MB,0,none⟩)) (hy:=Or.inl ⟨by rfl,by intro W' hW; go_simp⟩) (hS:=hS) (h:=?_)
    try simp only [Act.put,Ord.t,Ord.z,Ord.s]
    refine Ord.tk (i:=2) (v:=.int .i64 R4.1) (hy:=Or.inl ⟨by rfl,by intro W' hW; go_simp⟩) (hS:=hS) (h:=?_)
    try simp only [Act.put,Ord.t,Ord.z,Ord.s]
    refine Ord.tk (i:=4) (v:=.func (.func 77) #[.pointer (some ⟨MB,0,none⟩)] #[]) (hy:=Or.inl ⟨by rfl,by intro W' hW; go_simp⟩) (hS:=hS) (h:=?_)
    try simp only [Act.put,Ord.t,Ord.z,Ord.s]
    refine Ord.tk (i:=5) (v:=.int .i64 x) (hy:=Or.inl ⟨by rfl,by intro W' hW; go_simp⟩) (hS:=hS) (h:=?_)
    try simp only [Act.put,Ord.t,Ord.z,Ord.s]
    refine Ord.tk (i:=6) (v:=.int .i64 4) (hy:=Or.inl ⟨by rfl,by intro W' hW; go_simp⟩) (hS:=hS) (h:=?_)
    try simp only [Act.put,Ord.t,Ord.z,Ord.s]
    refine Ord.tk (i:=7) (v:=.int .i64 16) (hy:=Or.inl ⟨by rfl,by intro W' hW; go_simp <;> first | decide | (rw [IntKind.wrap_i64]; omega)⟩) (hS:=hS) (h:=?_)
    try simp only [Act.put,Ord.t,Ord.z,Ord.s]
    refine Ord.tk (i:=9) (v:=.int .i64 x) (hy:=Or.inl ⟨by rfl,by intro W' hW; go_simp⟩) (hS:=hS) (h:=?_)
    try simp only [Act.put,Ord.t,Ord.z,Ord.s]
    have HC5 := keep (all_q (19 + K) R4.1 (HRd.out.le (by omega)) HT4.out.in')
    obtain ⟨R5,hR⟩ : ∃ R,allM T R4.1 R4.2 = R := ⟨_,rfl⟩
    rw [hR] at HC5
    have HE5 := keep hR
    clear hR
    refine Ord.on (i:=3) (h:=fun K hK => ?_)
    go_simp
    refine HC5.out.mono ?_
    rintro r w5 ⟨cv5,sv5,rfl,hr',hf',hs'⟩
    have HR5 := keep hr'
    have HT5 := keep hs'
    have HF5 := keep hf'
    clear hr' hf' hs' HC5
    go_simp
    refine hK.out _ _ (fun _ => trivial) ?_
    clear hK K
    try simp only [Act.put,Ord.t,Ord.z,Ord.s]
    have HC6 : Hid (Calls Try.prog 77 #[.pointer (some ⟨MB,0,none⟩),.int .i64 x,.int .i64 16] w5 fun r w' => Wq 16 (3 + K) lo MB NB T cv5 sv5 R5.2 (upM T 16 x R5.2) w5 r w') := up_q (3 + K) 16 x (HR5.out.le (by omega)) (((((Ix.out.stp HT1.out).stp HT2.out).stp HT3.out).stp HT4.out).stp HT5.out) (by decide)
    obtain ⟨R6,hR⟩ : ∃ R,upM T 16 x R5.2 = R := ⟨_,rfl⟩
    have HE6 := keep hR
    rw [hR] at HC6
    clear hR
    refine Ord.on (i:=8) (h:=fun K hK => ?_)
    go_simp
    refine HC6.out.mono ?_
    rintro r w6 ⟨cv6,sv6,rfl,hr',hf',hs'⟩
    have HR6 := keep hr'
    have HT6 := keep hs'
    have HF6 := keep hf'
    clear hr' hf' hs' HC6
    go_simp
    refine hK.out _ _ (fun _ => trivial) ?_
    clear hK K
    try simp only [Act.put,Ord.t,Ord.z,Ord.s]
    have HC7 := keep (choose_q (0 + K) R5.1 R6.1 x (HR6.out.le (by omega)) (HT5.out.in'.stp HT6.out) HT6.out.in' ((((((Ix.out.stp HT1.out).stp HT2.out).stp HT3.out).stp HT4.out).stp HT5.out).stp HT6.out))
    obtain ⟨R7,hR⟩ : ∃ R,chooseM T R5.1 R6.1 x R6.2 = R := ⟨_,rfl⟩
    rw [hR] at HC7
    have HE7 := keep hR
    clear hR
    refine Ord.on (i:=10) (h:=fun K hK => ?_)
    go_simp
    refine HC7.out.mono ?_
    rintro r w7 ⟨cv7,sv7,rfl,hr',hf',hs'⟩
    have HR7 := keep hr'
    have HF7 := keep hf'
    clear hr' hf' hs' HC7
    go_simp
    refine hK.out _ _ (fun _ => trivial) ?_
    clear hK K
    try simp only [Act.put,Ord.t,Ord.z,Ord.s]
    refine Ord.on (i:=11) (h:=fun K hK => ?_)
    go_simp
    refine hK.out _ _ (fun _ => trivial) ?_
    clear hK K
    try simp only [Act.put,Ord.t,Ord.z,Ord.s]
    refine Ord.wpM_done (by kernel_rfl) ?_ _
    refine NoPanic.normal ?_
    have HEq : Hid (movedM T (upM T) b 5 a m = R7) := by
     show _ = _
     rw [HSx.out]
     unfold moveM
     dsimp only
     (try simp only [Nat.reducePow])
     (try rw [show ((4 : Nat) : Int) = 4 from rfl])
     rw [HE1.out,HE2.out,HE3.out,HE4.out,HE5.out]
     (try rw [show ((16 : Nat) : Int) = 16 from rfl])
     rw [HE6.out,HE7.out]
    have HFall := keep (HF.out.trans (HF4.out.trans ((MF.of_below HBd.out).trans (HF5.out.trans (HF6.out.trans HF7.out)))))
    clear hS
    go_wp2
    go_roundw
    case rel => exact ⟨5,by omega,by first | rfl | go_num,by rw [HEq.out],_,_,by rw [HEq.out]; exact HR7.out.le (by omega),HFall.out⟩
    case measure => simp [intOf] <;> omega
  ·have hke : k = 5 := by omega
   subst hke
   have HL := keep (shl_lst T b 4 a m)
   have HS5 := keep (HSt.out 5 (by omega))
   have HM : Hid (shlM T a b m = (movedM T (upM T) b 5 a m).2) := rfl
   have HR := keep hr0
   have HF := keep hf0
   clear hr0 hf0 hkl hkn
   go_wp2
   refine bodyPost_end (results_none rfl _ _ _) rfl ?_
   exact ⟨_,_,_,rfl,by rw [HM.out]; exact HR.out.le (by omega),HF.out,by rw [HM.out]; exact HS5.out,by rw [HM.out]; exact HL.out⟩
theorem shr_succ (T : Nat → Int) (b : Int) (n : Nat) (a : Int) (m : Mk) : movedM T (fun n a => downM T a n) b (n + 1) a m = moveM T (fun n a => downM T a n) n (movedM T (fun n a => downM T a n) b n a m).1 b (movedM T (fun n a => downM T a n) b n a m).2 := rfl
theorem shr_lst (T : Nat → Int) (b : Int) (n : Nat) (a : Int) (m : Mk) : Lst (movedM T (fun n a => downM T a n) b (n + 1) a m) := two_lst T 5 _ _ _
theorem shr_v (K : Nat) {lo MB NB : Nat} {T : Nat → Int} {cv sv : Value} {m : Mk} {w : World} (a b : Int) (h : Rdy lo MB NB T cv sv m w (125 + K)) (ha : In a m) (hb : In b m) : Calls Try.prog 76 #[.pointer (some ⟨MB,0,none⟩),.int .i64 a,.int .i64 b,.func (.func 78) #[.pointer (some ⟨MB,0,none⟩)] #[]] w fun r w' => Wv 125 K lo MB NB T cv sv m (shrM T a b m) w r w' := by
 have HR0 := keep h
 have Ia := keep ha
 have Ib := keep hb
 clear h ha hb
 have HSt : Hid (∀ k,k ≤ 5 → Stp (k * 25) m (movedM T (fun n a => downM T a n) b k a m)) := fun k hk => moved_stp T (down_ok T) b k a hk HR0.out.g Ia.out.p0 Ia.out.p1
 go_enter Try.func76,Try.ntmps76
 go_wp2
 go_loopw [10,1] (fun j y wx => ∃ k : Nat,k ≤ 5 ∧ j = .int .i64 (k : Int) ∧ y = .int .i64 (movedM T (fun n a => downM T a n) b k a m).1 ∧ ∃ cv' sv',Rdy lo MB NB T cv' sv' (movedM T (fun n a => downM T a n) b k a m).2 wx ((5 - k) * 25 + K) ∧ MF MB NB cv sv w cv' sv' wx) (fun j _ _ => 5 - (intOf j).toNat)
 case atStart => exact ⟨0,by omega,rfl,rfl,_,_,HR0.out.le (by omega),MF.refl _ _ _ _ _⟩
 case round =>
  obtain ⟨k,hkn,rfl,rfl,cv0,sv0,hr0,hf0⟩ := hrel
  by_cases hkl : k < 5
  ·have hsx := shr_succ T b k a m
   have hst := HSt.out k (by omega)
   obtain ⟨pp,hpp⟩ : ∃ pp,movedM T (fun n a => downM T a n) b k a m = pp := ⟨_,rfl⟩
   rw [hpp] at hr0 hsx hst ⊢
   obtain ⟨x,q⟩ := pp
   dsimp only at hr0 hsx ⊢
   have HSx := keep hsx
   have Ix : Hid (In x q) := hst.in'
   have Ib2 : Hid (In b q) := Ib.out.stp hst
   have HR := keep hr0
   have HF := keep hf0
   clear hr0 hf0 hsx hst hpp
   obtain rfl | rfl | rfl | rfl | rfl : k = 0 ∨ k = 1 ∨ k = 2 ∨ k = 3 ∨ k = 4 := by omega
   ·have HSx0 := HSx
    have HC1 := keep (num_q (3 + (121 + K)) 0 (HR.out.le (by omega)) (by decide))
    obtain ⟨R1,hR⟩ : ∃ Q,numM T 0 q = Q := ⟨_,rfl⟩
    rw [hR] at HC1
    have HE1 := keep hR
    clear hR
    go_wp2_with fail
    refine HC1.out.mono ?_
    rintro r w1 ⟨cv1,sv1,rfl,hr',hf',hs'⟩
    have HR1 := keep hr'
    have HS1 := keep hs'
    have HF1 := keep hf'
    have HT1 := keep hs'
    clear hr' hf' hs' HC1
    have HC2 := keep (two_q (2 + (121 + K)) 7 b R1.1 (HR1.out.le (by omega)) (by decide) (Ib2.out.stp HT1.out) HT1.out.in')
    obtain ⟨R2,hR⟩ : ∃ Q,twoM T 7 b R1.1 R1.2 = Q := ⟨_,rfl⟩
    rw [hR] at HC2
    have HE2 := keep hR
    clear hR
    go_wp2_with fail
    refine HC2.out.mono ?_
    rintro r w2 ⟨cv2,sv2,rfl,hr',hf',hs'⟩
    have HR2 := keep hr'
    have HS2 := keep (HS1.out.then hs')
    have HF2 := keep (HF1.out.trans hf')
    have HT2 := keep hs'
    clear hr' hf' hs' HC2
    have HC3 := keep (num_q (1 + (121 + K)) 1 (HR2.out.le (by omega)) (by decide))
    obtain ⟨R3,hR⟩ : ∃ Q,numM T 1 R2.2 = Q := ⟨_,rfl⟩
    rw [hR] at HC3
    have HE3 := keep hR
    clear hR
    go_wp2_with fail
    refine HC3.out.mono ?_
    rintro r w3 ⟨cv3,sv3,rfl,hr',hf',hs'⟩
    have HR3 := keep hr'
    have HS3 := keep (HS2.out.then hs')
    have HF3 := keep (HF2.out.trans hf')
    have HT3 := keep hs'
    clear hr' hf' hs' HC3
    have HC4 := keep (two_q (0 + (121 + K)) 3 R2.1 R3.1 (HR3.out.le (by omega)) (by decide) (HT2.out.in'.stp HT3.out) HT3.out.in')
    obtain ⟨R4,hR⟩ : ∃ Q,twoM T 3 R2.1 R3.1 R3.2 = Q := ⟨_,rfl⟩
    rw [hR] at HC4
    have HE4 := keep hR
    clear hR
    go_wp2_with fail
    refine HC4.out.mono ?_
    rintro r w4 ⟨cv4,sv4,rfl,hr',hf',hs'⟩
    have HR4 := keep hr'
    have HS4 := keep (HS3.out.then hs')
    have HF4 := keep (HF3.out.trans hf')
    have HT4 := keep hs'
    clear hr' hf' hs' HC4
    go_wp2_with fail
    refine wp_region_noPanic ?_
    refine Ord.wpM_begin (fun _ : World => True) [0,1,2,3,4,5,6,7,8,9,10,11] (by kernel_rfl) ?_
    have HBd : Hid (Below w4.heap.size w4 w4.drew) := Below.drew (Below.refl _ _)
    have HRd := keep (HR4.out.below HBd.out)
    generalize w4.drew = wd at *
    have hS : (fun _ : World => True) wd := trivial
    refine Ord.tk (i:=0) (v:=.pointer (some ⟨MB,0,none⟩)) (hy:=Or.inl ⟨by rfl,by intro W' hW; go_simp⟩) (hS:=hS) (h:=?_)
    try simp only [Act.put,Ord.t,Ord.z,Ord.s]
    refine Ord.tk (i:=1) (v:=.pointer (some ⟨MB,0,none⟩)) (hy:=Or.inl ⟨by rfl,by intro W' hW; go_simp⟩) (hS:=hS) (h:=?_)
    try simp only [Act.put,Ord.t,Ord.z,Ord.s]
    refine Ord.tk (i:=2) (v:=.int .i64 R4.1) (hy:=Or.inl ⟨by rfl,by intro W' hW; go_simp⟩) (hS:=hS) (h:=?_)
    try simp only [Act.put,Ord.t,Ord.z,Ord.s]
    refine Ord.tk (i:=4) (v:=.func (.func 78) #[.pointer (some ⟨MB,0,none⟩)] #[]) (hy:=Or.inl ⟨by rfl,by intro W' hW; go_simp⟩) (hS:=hS) (h:=?_)
    try simp only [Act.put,Ord.t,Ord.z,Ord.s]
    refine Ord.tk (i:=5) (v:=.int .i64 x) (hy:=Or.inl ⟨by rfl,by intro W' hW; go_simp⟩) (hS:=hS) (h:=?_)
    try simp only [Act.put,Ord.t,Ord.z,Ord.s]
    refine Ord.tk (i:=6) (v:=.int .i64 0) (hy:=Or.inl ⟨by rfl,by intro W' hW; go_simp⟩) (hS:=hS) (h:=?_)
    try simp only [Act.put,Ord.t,Ord.z,Ord.s]
    refine Ord.tk (i:=7) (v:=.int .i64 1) (hy:=Or.inl ⟨by rfl,by intro W' hW; go_simp <;> first | decide | (rw [IntKind.wrap_i64]; omega)⟩) (hS:=hS) (h:=?_)
    try simp only [Act.put,Ord.t,Ord.z,Ord.s]
    refine Ord.tk (i:=9) (v:=.int .i64 x) (hy:=Or.inl ⟨by rfl,by intro W' hW; go_simp⟩) (hS:=hS) (h:=?_)
    try simp only [Act.put,Ord.t,Ord.z,Ord.s]
    have HC5 := keep (all_q (119 + K) R4.1 (HRd.out.le (by omega)) HT4.out.in')
    obtain ⟨R5,hR⟩ : ∃ R,allM T R4.1 R4.2 = R := ⟨_,rfl⟩
    rw [hR] at HC5
    have HE5 := keep hR
    clear hR
    refine Ord.on (i:=3) (h:=fun K hK => ?_)
    go_simp
    refine HC5.out.mono ?_
    rintro r w5 ⟨cv5,sv5,rfl,hr',hf',hs'⟩
    have HR5 := keep hr'
    have HT5 := keep hs'
    have HF5 := keep hf'
    clear hr' hf' hs' HC5
    go_simp
    refine hK.out _ _ (fun _ => trivial) ?_
    clear hK K
    try simp only [Act.put,Ord.t,Ord.z,Ord.s]
    have HC6 : Hid (Calls Try.prog 78 #[.pointer (some ⟨MB,0,none⟩),.int .i64 x,.int .i64 1] w5 fun r w' => Wq 2 (103 + K) lo MB NB T cv5 sv5 R5.2 (downM T x 1 R5.2) w5 r w') := down_q (103 + K) x 1 (HR5.out.le (by omega)) (((((Ix.out.stp HT1.out).stp HT2.out).stp HT3.out).stp HT4.out).stp HT5.out) (by decide)
    obtain ⟨R6,hR⟩ : ∃ R,downM T x 1 R5.2 = R := ⟨_,rfl⟩
    have HE6 := keep hR
    rw [hR] at HC6
    clear hR
    refine Ord.on (i:=8) (h:=fun K hK => ?_)
    go_simp
    refine HC6.out.mono ?_
    rintro r w6 ⟨cv6,sv6,rfl,hr',hf',hs'⟩
    have HR6 := keep hr'
    have HT6 := keep hs'
    have HF6 := keep hf'
    clear hr' hf' hs' HC6
    go_simp
    refine hK.out _ _ (fun _ => trivial) ?_
    clear hK K
    try simp only [Act.put,Ord.t,Ord.z,Ord.s]
    have HC7 := keep (choose_q (100 + K) R5.1 R6.1 x (HR6.out.le (by omega)) (HT5.out.in'.stp HT6.out) HT6.out.in' ((((((Ix.out.stp HT1.out).stp HT2.out).stp HT3.out).stp HT4.out).stp HT5.out).stp HT6.out))
    obtain ⟨R7,hR⟩ : ∃ R,chooseM T R5.1 R6.1 x R6.2 = R := ⟨_,rfl⟩
    rw [hR] at HC7
    have HE7 := keep hR
    clear hR
    refine Ord.on (i:=10) (h:=fun K hK => ?_)
    go_simp
    refine HC7.out.mono ?_
    rintro r w7 ⟨cv7,sv7,rfl,hr',hf',hs'⟩
    have HR7 := keep hr'
    have HF7 := keep hf'
    clear hr' hf' hs' HC7
    go_simp
    refine hK.out _ _ (fun _ => trivial) ?_
    clear hK K
    try simp only [Act.put,Ord.t,Ord.z,Ord.s]
    refine Ord.on (i:=11) (h:=fun K hK => ?_)
    go_simp
    refine hK.out _ _ (fun _ => trivial) ?_
    clear hK K
    try simp only [Act.put,Ord.t,Ord.z,Ord.s]
    refine Ord.wpM_done (by kernel_rfl) ?_ _
    refine NoPanic.normal ?_
    have HEq : Hid (movedM T (fun n a => downM T a n) b 1 a m = R7) := by
     show _ = _
     rw [HSx.out]
     unfold moveM
     dsimp only
     (try simp only [Nat.reducePow])
     (try rw [show ((0 : Nat) : Int) = 0 from rfl])
     rw [HE1.out,HE2.out,HE3.out,HE4.out,HE5.out]
     (try rw [show ((1 : Nat) : Int) = 1 from rfl])
     rw [HE6.out,HE7.out]
    have HFall := keep (HF.out.trans (HF4.out.trans ((MF.of_below HBd.out).trans (HF5.out.trans (HF6.out.trans HF7.out)))))
    clear hS
    go_wp2
    go_roundw
    case rel => exact ⟨1,by omega,by first | rfl | go_num,by rw [HEq.out],_,_,by rw [HEq.out]; exact HR7.out.le (by omega),HFall.out⟩
    case measure => simp [intOf] <;> omega
   ·have HSx1 := HSx
    have HC1 := keep (num_q (3 + (96 + K)) 1 (HR.out.le (by omega)) (by decide))
    obtain ⟨R1,hR⟩ : ∃ Q,numM T 1 q = Q := ⟨_,rfl⟩
    rw [hR] at HC1
    have HE1 := keep hR
    clear hR
    go_wp2_with fail
    refine HC1.out.mono ?_
    rintro r w1 ⟨cv1,sv1,rfl,hr',hf',hs'⟩
    have HR1 := keep hr'
    have HS1 := keep hs'
    have HF1 := keep hf'
    have HT1 := keep hs'
    clear hr' hf' hs' HC1
    have HC2 := keep (two_q (2 + (96 + K)) 7 b R1.1 (HR1.out.le (by omega)) (by decide) (Ib2.out.stp HT1.out) HT1.out.in')
    obtain ⟨R2,hR⟩ : ∃ Q,twoM T 7 b R1.1 R1.2 = Q := ⟨_,rfl⟩
    rw [hR] at HC2
    have HE2 := keep hR
    clear hR
    go_wp2_with fail
    refine HC2.out.mono ?_
    rintro r w2 ⟨cv2,sv2,rfl,hr',hf',hs'⟩
    have HR2 := keep hr'
    have HS2 := keep (HS1.out.then hs')
    have HF2 := keep (HF1.out.trans hf')
    have HT2 := keep hs'
    clear hr' hf' hs' HC2
    have HC3 := keep (num_q (1 + (96 + K)) 1 (HR2.out.le (by omega)) (by decide))
    obtain ⟨R3,hR⟩ : ∃ Q,numM T 1 R2.2 = Q := ⟨_,rfl⟩
    rw [hR] at HC3
    have HE3 := keep hR
    clear hR
    go_wp2_with fail
    refine HC3.out.mono ?_
    rintro r w3 ⟨cv3,sv3,rfl,hr',hf',hs'⟩
    have HR3 := keep hr'
    have HS3 := keep (HS2.out.then hs')
    have HF3 := keep (HF2.out.trans hf')
    have HT3 := keep hs'
    clear hr' hf' hs' HC3
    have HC4 := keep (two_q (0 + (96 + K)) 3 R2.1 R3.1 (HR3.out.le (by omega)) (by decide) (HT2.out.in'.stp HT3.out) HT3.out.in')
    obtain ⟨R4,hR⟩ : ∃ Q,twoM T 3 R2.1 R3.1 R3.2 = Q := ⟨_,rfl⟩
    rw [hR] at HC4
    have HE4 := keep hR
    clear hR
    go_wp2_with fail
    refine HC4.out.mono ?_
    rintro r w4 ⟨cv4,sv4,rfl,hr',hf',hs'⟩
    have HR4 := keep hr'
    have HS4 := keep (HS3.out.then hs')
    have HF4 := keep (HF3.out.trans hf')
    have HT4 := keep hs'
    clear hr' hf' hs' HC4
    go_wp2_with fail
    refine wp_region_noPanic ?_
    refine Ord.wpM_begin (fun _ : World => True) [0,1,2,3,4,5,6,7,8,9,10,11] (by kernel_rfl) ?_
    have HBd : Hid (Below w4.heap.size w4 w4.drew) := Below.drew (Below.refl _ _)
    have HRd := keep (HR4.out.below HBd.out)
    generalize w4.drew = wd at *
    have hS : (fun _ : World => True) wd := trivial
    refine Ord.tk (i:=0) (v:=.pointer (some ⟨MB,0,none⟩)) (hy:=Or.inl ⟨by rfl,by intro W' hW; go_simp⟩) (hS:=hS) (h:=?_)
    try simp only [Act.put,Ord.t,Ord.z,Ord.s]
    refine Ord.tk (i:=1) (v:=.pointer (some ⟨MB,0,none⟩)) (hy:=Or.inl ⟨by rfl,by intro W' hW; go_simp⟩) (hS:=hS) (h:=?_)
    try simp only [Act.put,Ord.t,Ord.z,Ord.s]
    refine Ord.tk (i:=2) (v:=.int .i64 R4.1) (hy:=Or.inl ⟨by rfl,by intro W' hW; go_simp⟩) (hS:=hS) (h:=?_)
    try simp only [Act.put,Ord.t,Ord.z,Ord.s]
    refine Ord.tk (i:=4) (v:=.func (.func 78) #[.pointer (some ⟨MB,0,none⟩)] #[]) (hy:=Or.inl ⟨by rfl,by intro W' hW; go_simp⟩) (hS:=hS) (h:=?_)
    try simp only [Act.put,Ord.t,Ord.z,Ord.s]
    refine Ord.tk (i:=5) (v:=.int .i64 x) (hy:=Or.inl ⟨by rfl,by intro W' hW; go_simp⟩) (hS:=hS) (h:=?_)
    try simp only [Act.put,Ord.t,Ord.z,Ord.s]
    refine Ord.tk (i:=6) (v:=.int .i64 1) (hy:=Or.inl ⟨by rfl,by intro W' hW; go_simp⟩) (hS:=hS) (h:=?_)
    try simp only [Act.put,Ord.t,Ord.z,Ord.s]
    refine Ord.tk (i:=7) (v:=.int .i64 2) (hy:=Or.inl ⟨by rfl,by intro W' hW; go_simp <;> first | decide | (rw [IntKind.wrap_i64]; omega)⟩) (hS:=hS) (h:=?_)
    try simp only [Act.put,Ord.t,Ord.z,Ord.s]
    refine Ord.tk (i:=9) (v:=.int .i64 x) (hy:=Or.inl ⟨by rfl,by intro W' hW; go_simp⟩) (hS:=hS) (h:=?_)
    try simp only [Act.put,Ord.t,Ord.z,Ord.s]
    have HC5 := keep (all_q (94 + K) R4.1 (HRd.out.le (by omega)) HT4.out.in')
    obtain ⟨R5,hR⟩ : ∃ R,allM T R4.1 R4.2 = R := ⟨_,rfl⟩
    rw [hR] at HC5
    have HE5 := keep hR
    clear hR
    refine Ord.on (i:=3) (h:=fun K hK => ?_)
    go_simp
    refine HC5.out.mono ?_
    rintro r w5 ⟨cv5,sv5,rfl,hr',hf',hs'⟩
    have HR5 := keep hr'
    have HT5 := keep hs'
    have HF5 := keep hf'
    clear hr' hf' hs' HC5
    go_simp
    refine hK.out _ _ (fun _ => trivial) ?_
    clear hK K
    try simp only [Act.put,Ord.t,Ord.z,Ord.s]
    have HC6 : Hid (Calls Try.prog 78 #[.pointer (some ⟨MB,0,none⟩),.int .i64 x,.int .i64 2] w5 fun r w' => Wq 2 (78 + K) lo MB NB T cv5 sv5 R5.2 (downM T x 2 R5.2) w5 r w') := down_q (78 + K) x 2 (HR5.out.le (by omega)) (((((Ix.out.stp HT1.out).stp HT2.out).stp HT3.out).stp HT4.out).stp HT5.out) (by decide)
    obtain ⟨R6,hR⟩ : ∃ R,downM T x 2 R5.2 = R := ⟨_,rfl⟩
    have HE6 := keep hR
    rw [hR] at HC6
    clear hR
    refine Ord.on (i:=8) (h:=fun K hK => ?_)
    go_simp
    refine HC6.out.mono ?_
    rintro r w6 ⟨cv6,sv6,rfl,hr',hf',hs'⟩
    have HR6 := keep hr'
    have HT6 := keep hs'
    have HF6 := keep hf'
    clear hr' hf' hs' HC6
    go_simp
    refine hK.out _ _ (fun _ => trivial) ?_
    clear hK K
    try simp only [Act.put,Ord.t,Ord.z,Ord.s]
    have HC7 := keep (choose_q (75 + K) R5.1 R6.1 x (HR6.out.le (by omega)) (HT5.out.in'.stp HT6.out) HT6.out.in' ((((((Ix.out.stp HT1.out).stp HT2.out).stp HT3.out).stp HT4.out).stp HT5.out).stp HT6.out))
    obtain ⟨R7,hR⟩ : ∃ R,chooseM T R5.1 R6.1 x R6.2 = R := ⟨_,rfl⟩
    rw [hR] at HC7
    have HE7 := keep hR
    clear hR
    refine Ord.on (i:=10) (h:=fun K hK => ?_)
    go_simp
    refine HC7.out.mono ?_
    rintro r w7 ⟨cv7,sv7,rfl,hr',hf',hs'⟩
    have HR7 := keep hr'
    have HF7 := keep hf'
    clear hr' hf' hs' HC7
    go_simp
    refine hK.out _ _ (fun _ => trivial) ?_
    clear hK K
    try simp only [Act.put,Ord.t,Ord.z,Ord.s]
    refine Ord.on (i:=11) (h:=fun K hK => ?_)
    go_simp
    refine hK.out _ _ (fun _ => trivial) ?_
    clear hK K
    try simp only [Act.put,Ord.t,Ord.z,Ord.s]
    refine Ord.wpM_done (by kernel_rfl) ?_ _
    refine NoPanic.normal ?_
    have HEq : Hid (movedM T (fun n a => downM T a n) b 2 a m = R7) := by
     show _ = _
     rw [HSx.out]
     unfold moveM
     dsimp only
     (try simp only [Nat.reducePow])
     (try rw [show ((1 : Nat) : Int) = 1 from rfl])
     rw [HE1.out,HE2.out,HE3.out,HE4.out,HE5.out]
     (try rw [show ((2 : Nat) : Int) = 2 from rfl])
     rw [HE6.out,HE7.out]
    have HFall := keep (HF.out.trans (HF4.out.trans ((MF.of_below HBd.out).trans (HF5.out.trans (HF6.out.trans HF7.out)))))
    clear hS
    go_wp2
    go_roundw
    case rel => exact ⟨2,by omega,by first | rfl | go_num,by rw [HEq.out],_,_,by rw [HEq.out]; exact HR7.out.le (by omega),HFall.out⟩
    case measure => simp [intOf] <;> omega
   ·have HSx2 := HSx
    have HC1 := keep (num_q (3 + (71 + K)) 2 (HR.out.le (by omega)) (by decide))
    obtain ⟨R1,hR⟩ : ∃ Q,numM T 2 q = Q := ⟨_,rfl⟩
    rw [hR] at HC1
    have HE1 := keep hR
    clear hR
    go_wp2_with fail
    refine HC1.out.mono ?_
    rintro r w1 ⟨cv1,sv1,rfl,hr',hf',hs'⟩
    have HR1 := keep hr'
    have HS1 := keep hs'
    have HF1 := keep hf'
    have HT1 := keep hs'
    clear hr' hf' hs' HC1
    have HC2 := keep (two_q (2 + (71 + K)) 7 b R1.1 (HR1.out.le (by omega)) (by decide) (Ib2.out.stp HT1.out) HT1.out.in')
    obtain ⟨R2,hR⟩ : ∃ Q,twoM T 7 b R1.1 R1.2 = Q := ⟨_,rfl⟩
    rw [hR] at HC2
    have HE2 := keep hR
    clear hR
    go_wp2_with fail
    refine HC2.out.mono ?_
    rintro r w2 ⟨cv2,sv2,rfl,hr',hf',hs'⟩
    have HR2 := keep hr'
    have HS2 := keep (HS1.out.then hs')
    have HF2 := keep (HF1.out.trans hf')
    have HT2 := keep hs'
    clear hr' hf' hs' HC2
    have HC3 := keep (num_q (1 + (71 + K)) 1 (HR2.out.le (by omega)) (by decide))
    obtain ⟨R3,hR⟩ : ∃ Q,numM T 1 R2.2 = Q := ⟨_,rfl⟩
    rw [hR] at HC3
    have HE3 := keep hR
    clear hR
    go_wp2_with fail
    refine HC3.out.mono ?_
    rintro r w3 ⟨cv3,sv3,rfl,hr',hf',hs'⟩
    have HR3 := keep hr'
    have HS3 := keep (HS2.out.then hs')
    have HF3 := keep (HF2.out.trans hf')
    have HT3 := keep hs'
    clear hr' hf' hs' HC3
    have HC4 := keep (two_q (0 + (71 + K)) 3 R2.1 R3.1 (HR3.out.le (by omega)) (by decide) (HT2.out.in'.stp HT3.out) HT3.out.in')
    obtain ⟨R4,hR⟩ : ∃ Q,twoM T 3 R2.1 R3.1 R3.2 = Q := ⟨_,rfl⟩
    rw [hR] at HC4
    have HE4 := keep hR
    clear hR
    go_wp2_with fail
    refine HC4.out.mono ?_
    rintro r w4 ⟨cv4,sv4,rfl,hr',hf',hs'⟩
    have HR4 := keep hr'
    have HS4 := keep (HS3.out.then hs')
    have HF4 := keep (HF3.out.trans hf')
    have HT4 := keep hs'
    clear hr' hf' hs' HC4
    go_wp2_with fail
    refine wp_region_noPanic ?_
    refine Ord.wpM_begin (fun _ : World => True) [0,1,2,3,4,5,6,7,8,9,10,11] (by kernel_rfl) ?_
    have HBd : Hid (Below w4.heap.size w4 w4.drew) := Below.drew (Below.refl _ _)
    have HRd := keep (HR4.out.below HBd.out)
    generalize w4.drew = wd at *
    have hS : (fun _ : World => True) wd := trivial
    refine Ord.tk (i:=0) (v:=.pointer (some ⟨MB,0,none⟩)) (hy:=Or.inl ⟨by rfl,by intro W' hW; go_simp⟩) (hS:=hS) (h:=?_)
    try simp only [Act.put,Ord.t,Ord.z,Ord.s]
    refine Ord.tk (i:=1) (v:=.pointer (some ⟨MB,0,none⟩)) (hy:=Or.inl ⟨by rfl,by intro W' hW; go_simp⟩) (hS:=hS) (h:=?_)
    try simp only [Act.put,Ord.t,Ord.z,Ord.s]
    refine Ord.tk (i:=2) (v:=.int .i64 R4.1) (hy:=Or.inl ⟨by rfl,by intro W' hW; go_simp⟩) (hS:=hS) (h:=?_)
    try simp only [Act.put,Ord.t,Ord.z,Ord.s]
    refine Ord.tk (i:=4) (v:=.func (.func 78) #[.pointer (some ⟨MB,0,none⟩)] #[]) (hy:=Or.inl ⟨by rfl,by intro W' hW; go_simp⟩) (hS:=hS) (h:=?_)
    try simp only [Act.put,Ord.t,Ord.z,Ord.s]
    refine Ord.tk (i:=5) (v:=.int .i64 x) (hy:=Or.inl ⟨by rfl,by intro W' hW; go_simp⟩) (hS:=hS) (h:=?_)
    try simp only [Act.put,Ord.t,Ord.z,Ord.s]
    refine Ord.tk (i:=6) (v:=.int .i64 2) (hy:=Or.inl ⟨by rfl,by intro W' hW; go_simp⟩) (hS:=hS) (h:=?_)
    try simp only [Act.put,Ord.t,Ord.z,Ord.s]
    refine Ord.tk (i:=7) (v:=.int .i64 4) (hy:=Or.inl ⟨by rfl,by intro W' hW; go_simp <;> first | decide | (rw [IntKind.wrap_i64]; omega)⟩) (hS:=hS) (h:=?_)
    try simp only [Act.put,Ord.t,Ord.z,Ord.s]
    refine Ord.tk (i:=9) (v:=.int .i64 x) (hy:=Or.inl ⟨by rfl,by intro W' hW; go_simp⟩) (hS:=hS) (h:=?_)
    try simp only [Act.put,Ord.t,Ord.z,Ord.s]
    have HC5 := keep (all_q (69 + K) R4.1 (HRd.out.le (by omega)) HT4.out.in')
    obtain ⟨R5,hR⟩ : ∃ R,allM T R4.1 R4.2 = R := ⟨_,rfl⟩
    rw [hR] at HC5
    have HE5 := keep hR
    clear hR
    refine Ord.on (i:=3) (h:=fun K hK => ?_)
    go_simp
    refine HC5.out.mono ?_
    rintro r w5 ⟨cv5,sv5,rfl,hr',hf',hs'⟩
    have HR5 := keep hr'
    have HT5 := keep hs'
    have HF5 := keep hf'
    clear hr' hf' hs' HC5
    go_simp
    refine hK.out _ _ (fun _ => trivial) ?_
    clear hK K
    try simp only [Act.put,Ord.t,Ord.z,Ord.s]
    have HC6 : Hid (Calls Try.prog 78 #[.pointer (some ⟨MB,0,none⟩),.int .i64 x,.int .i64 4] w5 fun r w' => Wq 2 (53 + K) lo MB NB T cv5 sv5 R5.2 (downM T x 4 R5.2) w5 r w') := down_q (53 + K) x 4 (HR5.out.le (by omega)) (((((Ix.out.stp HT1.out).stp HT2.out).stp HT3.out).stp HT4.out).stp HT5.out) (by decide)
    obtain ⟨R6,hR⟩ : ∃ R,downM T x 4 R5.2 = R := ⟨_,rfl⟩
    have HE6 := keep hR
    rw [hR] at HC6
    clear hR
    refine Ord.on (i:=8) (h:=fun K hK => ?_)
    go_simp
    refine HC6.out.mono ?_
    rintro r w6 ⟨cv6,sv6,rfl,hr',hf',hs'⟩
    have HR6 := keep hr'
    have HT6 := keep hs'
    have HF6 := keep hf'
    clear hr' hf' hs' HC6
    go_simp
    refine hK.out _ _ (fun _ => trivial) ?_
    clear hK K
    try simp only [Act.put,Ord.t,Ord.z,Ord.s]
    have HC7 := keep (choose_q (50 + K) R5.1 R6.1 x (HR6.out.le (by omega)) (HT5.out.in'.stp HT6.out) HT6.out.in' ((((((Ix.out.stp HT1.out).stp HT2.out).stp HT3.out).stp HT4.out).stp HT5.out).stp HT6.out))
    obtain ⟨R7,hR⟩ : ∃ R,chooseM T R5.1 R6.1 x R6.2 = R := ⟨_,rfl⟩
    rw [hR] at HC7
    have HE7 := keep hR
    clear hR
    refine Ord.on (i:=10) (h:=fun K hK => ?_)
    go_simp
    refine HC7.out.mono ?_
    rintro r w7 ⟨cv7,sv7,rfl,hr',hf',hs'⟩
    have HR7 := keep hr'
    have HF7 := keep hf'
    clear hr' hf' hs' HC7
    go_simp
    refine hK.out _ _ (fun _ => trivial) ?_
    clear hK K
    try simp only [Act.put,Ord.t,Ord.z,Ord.s]
    refine Ord.on (i:=11) (h:=fun K hK => ?_)
    go_simp
    refine hK.out _ _ (fun _ => trivial) ?_
    clear hK K
    try simp only [Act.put,Ord.t,Ord.z,Ord.s]
    refine Ord.wpM_done (by kernel_rfl) ?_ _
    refine NoPanic.normal ?_
    have HEq : Hid (movedM T (fun n a => downM T a n) b 3 a m = R7) := by
     show _ = _
     rw [HSx.out]
     unfold moveM
     dsimp only
     (try simp only [Nat.reducePow])
     (try rw [show ((2 : Nat) : Int) = 2 from rfl])
     rw [HE1.out,HE2.out,HE3.out,HE4.out,HE5.out]
     (try rw [show ((4 : Nat) : Int) = 4 from rfl])
     rw [HE6.out,HE7.out]
    have HFall := keep (HF.out.trans (HF4.out.trans ((MF.of_below HBd.out).trans (HF5.out.trans (HF6.out.trans HF7.out)))))
    clear hS
    go_wp2
    go_roundw
    case rel => exact ⟨3,by omega,by first | rfl | go_num,by rw [HEq.out],_,_,by rw [HEq.out]; exact HR7.out.le (by omega),HFall.out⟩
    case measure => simp [intOf] <;> omega
   ·have HSx3 := HSx
    have HC1 := keep (num_q (3 + (46 + K)) 3 (HR.out.le (by omega)) (by decide))
    obtain ⟨R1,hR⟩ : ∃ Q,numM T 3 q = Q := ⟨_,rfl⟩
    rw [hR] at HC1
    have HE1 := keep hR
    clear hR
    go_wp2_with fail
    refine HC1.out.mono ?_
    rintro r w1 ⟨cv1,sv1,rfl,hr',hf',hs'⟩
    have HR1 := keep hr'
    have HS1 := keep hs'
    have HF1 := keep hf'
    have HT1 := keep hs'
    clear hr' hf' hs' HC1
    have HC2 := keep (two_q (2 + (46 + K)) 7 b R1.1 (HR1.out.le (by omega)) (by decide) (Ib2.out.stp HT1.out) HT1.out.in')
    obtain ⟨R2,hR⟩ : ∃ Q,twoM T 7 b R1.1 R1.2 = Q := ⟨_,rfl⟩
    rw [hR] at HC2
    have HE2 := keep hR
    clear hR
    go_wp2_with fail
    refine HC2.out.mono ?_
    rintro r w2 ⟨cv2,sv2,rfl,hr',hf',hs'⟩
    have HR2 := keep hr'
    have HS2 := keep (HS1.out.then hs')
    have HF2 := keep (HF1.out.trans hf')
    have HT2 := keep hs'
    clear hr' hf' hs' HC2
    have HC3 := keep (num_q (1 + (46 + K)) 1 (HR2.out.le (by omega)) (by decide))
    obtain ⟨R3,hR⟩ : ∃ Q,numM T 1 R2.2 = Q := ⟨_,rfl⟩
    rw [hR] at HC3
    have HE3 := keep hR
    clear hR
    go_wp2_with fail
    refine HC3.out.mono ?_
    rintro r w3 ⟨cv3,sv3,rfl,hr',hf',hs'⟩
    have HR3 := keep hr'
    have HS3 := keep (HS2.out.then hs')
    have HF3 := keep (HF2.out.trans hf')
    have HT3 := keep hs'
    clear hr' hf' hs' HC3
    have HC4 := keep (two_q (0 + (46 + K)) 3 R2.1 R3.1 (HR3.out.le (by omega)) (by decide) (HT2.out.in'.stp HT3.out) HT3.out.in')
    obtain ⟨R4,hR⟩ : ∃ Q,twoM T 3 R2.1 R3.1 R3.2 = Q := ⟨_,rfl⟩
    rw [hR] at HC4
    have HE4 := keep hR
    clear hR
    go_wp2_with fail
    refine HC4.out.mono ?_
    rintro r w4 ⟨cv4,sv4,rfl,hr',hf',hs'⟩
    have HR4 := keep hr'
    have HS4 := keep (HS3.out.then hs')
    have HF4 := keep (HF3.out.trans hf')
    have HT4 := keep hs'
    clear hr' hf' hs' HC4
    go_wp2_with fail
    refine wp_region_noPanic ?_
    refine Ord.wpM_begin (fun _ : World => True) [0,1,2,3,4,5,6,7,8,9,10,11] (by kernel_rfl) ?_
    have HBd : Hid (Below w4.heap.size w4 w4.drew) := Below.drew (Below.refl _ _)
    have HRd := keep (HR4.out.below HBd.out)
    generalize w4.drew = wd at *
    have hS : (fun _ : World => True) wd := trivial
    refine Ord.tk (i:=0) (v:=.pointer (some ⟨MB,0,none⟩)) (hy:=Or.inl ⟨by rfl,by intro W' hW; go_simp⟩) (hS:=hS) (h:=?_)
    try simp only [Act.put,Ord.t,Ord.z,Ord.s]
    refine Ord.tk (i:=1) (v:=.pointer (some ⟨MB,0,none⟩)) (hy:=Or.inl ⟨by rfl,by intro W' hW; go_simp⟩) (hS:=hS) (h:=?_)
    try simp only [Act.put,Ord.t,Ord.z,Ord.s]
    refine Ord.tk (i:=2) (v:=.int .i64 R4.1) (hy:=Or.inl ⟨by rfl,by intro W' hW; go_simp⟩) (hS:=hS) (h:=?_)
    try simp only [Act.put,Ord.t,Ord.z,Ord.s]
    refine Ord.tk (i:=4) (v:=.func (.func 78) #[.pointer (some ⟨MB,0,none⟩)] #[]) (hy:=Or.inl ⟨by rfl,by intro W' hW; go_simp⟩) (hS:=hS) (h:=?_)
    try simp only [Act.put,Ord.t,Ord.z,Ord.s]
    refine Ord.tk (i:=5) (v:=.int .i64 x) (hy:=Or.inl ⟨by rfl,by intro W' hW; go_simp⟩) (hS:=hS) (h:=?_)
    try simp only [Act.put,Ord.t,Ord.z,Ord.s]
    refine Ord.tk (i:=6) (v:=.int .i64 3) (hy:=Or.inl ⟨by rfl,by intro W' hW; go_simp⟩) (hS:=hS) (h:=?_)
    try simp only [Act.put,Ord.t,Ord.z,Ord.s]
    refine Ord.tk (i:=7) (v:=.int .i64 8) (hy:=Or.inl ⟨by rfl,by intro W' hW; go_simp <;> first | decide | (rw [IntKind.wrap_i64]; omega)⟩) (hS:=hS) (h:=?_)
    try simp only [Act.put,Ord.t,Ord.z,Ord.s]
    refine Ord.tk (i:=9) (v:=.int .i64 x) (hy:=Or.inl ⟨by rfl,by intro W' hW; go_simp⟩) (hS:=hS) (h:=?_)
    try simp only [Act.put,Ord.t,Ord.z,Ord.s]
    have HC5 := keep (all_q (44 + K) R4.1 (HRd.out.le (by omega)) HT4.out.in')
    obtain ⟨R5,hR⟩ : ∃ R,allM T R4.1 R4.2 = R := ⟨_,rfl⟩
    rw [hR] at HC5
    have HE5 := keep hR
    clear hR
    refine Ord.on (i:=3) (h:=fun K hK => ?_)
    go_simp
    refine HC5.out.mono ?_
    rintro r w5 ⟨cv5,sv5,rfl,hr',hf',hs'⟩
    have HR5 := keep hr'
    have HT5 := keep hs'
    have HF5 := keep hf'
    clear hr' hf' hs' HC5
    go_simp
    refine hK.out _ _ (fun _ => trivial) ?_
    clear hK K
    try simp only [Act.put,Ord.t,Ord.z,Ord.s]
    have HC6 : Hid (Calls Try.prog 78 #[.pointer (some ⟨MB,0,none⟩),.int .i64 x,.int .i64 8] w5 fun r w' => Wq 2 (28 + K) lo MB NB T cv5 sv5 R5.2 (downM T x 8 R5.2) w5 r w') := down_q (28 + K) x 8 (HR5.out.le (by omega)) (((((Ix.out.stp HT1.out).stp HT2.out).stp HT3.out).stp HT4.out).stp HT5.out) (by decide)
    obtain ⟨R6,hR⟩ : ∃ R,downM T x 8 R5.2 = R := ⟨_,rfl⟩
    have HE6 := keep hR
    rw [hR] at HC6
    clear hR
    refine Ord.on (i:=8) (h:=fun K hK => ?_)
    go_simp
    refine HC6.out.mono ?_
    rintro r w6 ⟨cv6,sv6,rfl,hr',hf',hs'⟩
    have HR6 := keep hr'
    have HT6 := keep hs'
    have HF6 := keep hf'
    clear hr' hf' hs' HC6
    go_simp
    refine hK.out _ _ (fun _ => trivial) ?_
    clear hK K
    try simp only [Act.put,Ord.t,Ord.z,Ord.s]
    have HC7 := keep (choose_q (25 + K) R5.1 R6.1 x (HR6.out.le (by omega)) (HT5.out.in'.stp HT6.out) HT6.out.in' ((((((Ix.out.stp HT1.out).stp HT2.out).stp HT3.out).stp HT4.out).stp HT5.out).stp HT6.out))
    obtain ⟨R7,hR⟩ : ∃ R,chooseM T R5.1 R6.1 x R6.2 = R := ⟨_,rfl⟩
    rw [hR] at HC7
    have HE7 := keep hR
    clear hR
    refine Ord.on (i:=10) (h:=fun K hK => ?_)
    go_simp
    refine HC7.out.mono ?_
    rintro r w7 ⟨cv7,sv7,rfl,hr',hf',hs'⟩
    have HR7 := keep hr'
    have HF7 := keep hf'
    clear hr' hf' hs' HC7
    go_simp
    refine hK.out _ _ (fun _ => trivial) ?_
    clear hK K
    try simp only [Act.put,Ord.t,Ord.z,Ord.s]
    refine Ord.on (i:=11) (h:=fun K hK => ?_)
    go_simp
    refine hK.out _ _ (fun _ => trivial) ?_
    clear hK K
    try simp only [Act.put,Ord.t,Ord.z,Ord.s]
    refine Ord.wpM_done (by kernel_rfl) ?_ _
    refine NoPanic.normal ?_
    have HEq : Hid (movedM T (fun n a => downM T a n) b 4 a m = R7) := by
     show _ = _
     rw [HSx.out]
     unfold moveM
     dsimp only
     (try simp only [Nat.reducePow])
     (try rw [show ((3 : Nat) : Int) = 3 from rfl])
     rw [HE1.out,HE2.out,HE3.out,HE4.out,HE5.out]
     (try rw [show ((8 : Nat) : Int) = 8 from rfl])
     rw [HE6.out,HE7.out]
    have HFall := keep (HF.out.trans (HF4.out.trans ((MF.of_below HBd.out).trans (HF5.out.trans (HF6.out.trans HF7.out)))))
    clear hS
    go_wp2
    go_roundw
    case rel => exact ⟨4,by omega,by first | rfl | go_num,by rw [HEq.out],_,_,by rw [HEq.out]; exact HR7.out.le (by omega),HFall.out⟩
    case measure => simp [intOf] <;> omega
   ·have HSx4 := HSx
    have HC1 := keep (num_q (3 + (21 + K)) 4 (HR.out.le (by omega)) (by decide))
    obtain ⟨R1,hR⟩ : ∃ Q,numM T 4 q = Q := ⟨_,rfl⟩
    rw [hR] at HC1
    have HE1 := keep hR
    clear hR
    go_wp2_with fail
    refine HC1.out.mono ?_
    rintro r w1 ⟨cv1,sv1,rfl,hr',hf',hs'⟩
    have HR1 := keep hr'
    have HS1 := keep hs'
    have HF1 := keep hf'
    have HT1 := keep hs'
    clear hr' hf' hs' HC1
    have HC2 := keep (two_q (2 + (21 + K)) 7 b R1.1 (HR1.out.le (by omega)) (by decide) (Ib2.out.stp HT1.out) HT1.out.in')
    obtain ⟨R2,hR⟩ : ∃ Q,twoM T 7 b R1.1 R1.2 = Q := ⟨_,rfl⟩
    rw [hR] at HC2
    have HE2 := keep hR
    clear hR
    go_wp2_with fail
    refine HC2.out.mono ?_
    rintro r w2 ⟨cv2,sv2,rfl,hr',hf',hs'⟩
    have HR2 := keep hr'
    have HS2 := keep (HS1.out.then hs')
    have HF2 := keep (HF1.out.trans hf')
    have HT2 := keep hs'
    clear hr' hf' hs' HC2
    have HC3 := keep (num_q (1 + (21 + K)) 1 (HR2.out.le (by omega)) (by decide))
    obtain ⟨R3,hR⟩ : ∃ Q,numM T 1 R2.2 = Q := ⟨_,rfl⟩
    rw [hR] at HC3
    have HE3 := keep hR
    clear hR
    go_wp2_with fail
    refine HC3.out.mono ?_
    rintro r w3 ⟨cv3,sv3,rfl,hr',hf',hs'⟩
    have HR3 := keep hr'
    have HS3 := keep (HS2.out.then hs')
    have HF3 := keep (HF2.out.trans hf')
    have HT3 := keep hs'
    clear hr' hf' hs' HC3
    have HC4 := keep (two_q (0 + (21 + K)) 3 R2.1 R3.1 (HR3.out.le (by omega)) (by decide) (HT2.out.in'.stp HT3.out) HT3.out.in')
    obtain ⟨R4,hR⟩ : ∃ Q,twoM T 3 R2.1 R3.1 R3.2 = Q := ⟨_,rfl⟩
    rw [hR] at HC4
    have HE4 := keep hR
    clear hR
    go_wp2_with fail
    refine HC4.out.mono ?_
    rintro r w4 ⟨cv4,sv4,rfl,hr',hf',hs'⟩
    have HR4 := keep hr'
    have HS4 := keep (HS3.out.then hs')
    have HF4 := keep (HF3.out.trans hf')
    have HT4 := keep hs'
    clear hr' hf' hs' HC4
    go_wp2_with fail
    refine wp_region_noPanic ?_
    refine Ord.wpM_begin (fun _ : World => True) [0,1,2,3,4,5,6,7,8,9,10,11] (by kernel_rfl) ?_
    have HBd : Hid (Below w4.heap.size w4 w4.drew) := Below.drew (Below.refl _ _)
    have HRd := keep (HR4.out.below HBd.out)
    generalize w4.drew = wd at *
    have hS : (fun _ : World => True) wd := trivial
    refine Ord.tk (i:=0) (v:=.pointer (some ⟨MB,0,none⟩)) (hy:=Or.inl ⟨by rfl,by intro W' hW; go_simp⟩) (hS:=hS) (h:=?_)
    try simp only [Act.put,Ord.t,Ord.z,Ord.s]
    refine Ord.tk (i:=1) (v:=.pointer (some ⟨MB,0,none⟩)) (hy:=Or.inl ⟨by rfl,by intro W' hW; go_simp⟩) (hS:=hS) (h:=?_)
    try simp only [Act.put,Ord.t,Ord.z,Ord.s]
    refine Ord.tk (i:=2) (v:=.int .i64 R4.1) (hy:=Or.inl ⟨by rfl,by intro W' hW; go_simp⟩) (hS:=hS) (h:=?_)
    try simp only [Act.put,Ord.t,Ord.z,Ord.s]
    refine Ord.tk (i:=4) (v:=.func (.func 78) #[.pointer (some ⟨MB,0,none⟩)] #[]) (hy:=Or.inl ⟨by rfl,by intro W' hW; go_simp⟩) (hS:=hS) (h:=?_)
    try simp only [Act.put,Ord.t,Ord.z,Ord.s]
    refine Ord.tk (i:=5) (v:=.int .i64 x) (hy:=Or.inl ⟨by rfl,by intro W' hW; go_simp⟩) (hS:=hS) (h:=?_)
    try simp only [Act.put,Ord.t,Ord.z,Ord.s]
    refine Ord.tk (i:=6) (v:=.int .i64 4) (hy:=Or.inl ⟨by rfl,by intro W' hW; go_simp⟩) (hS:=hS) (h:=?_)
    try simp only [Act.put,Ord.t,Ord.z,Ord.s]
    refine Ord.tk (i:=7) (v:=.int .i64 16) (hy:=Or.inl ⟨by rfl,by intro W' hW; go_simp <;> first | decide | (rw [IntKind.wrap_i64]; omega)⟩) (hS:=hS) (h:=?_)
    try simp only [Act.put,Ord.t,Ord.z,Ord.s]
    refine Ord.tk (i:=9) (v:=.int .i64 x) (hy:=Or.inl ⟨by rfl,by intro W' hW; go_simp⟩) (hS:=hS) (h:=?_)
    try simp only [Act.put,Ord.t,Ord.z,Ord.s]
    have HC5 := keep (all_q (19 + K) R4.1 (HRd.out.le (by omega)) HT4.out.in')
    obtain ⟨R5,hR⟩ : ∃ R,allM T R4.1 R4.2 = R := ⟨_,rfl⟩
    rw [hR] at HC5
    have HE5 := keep hR
    clear hR
    refine Ord.on (i:=3) (h:=fun K hK => ?_)
    go_simp
    refine HC5.out.mono ?_
    rintro r w5 ⟨cv5,sv5,rfl,hr',hf',hs'⟩
    have HR5 := keep hr'
    have HT5 := keep hs'
    have HF5 := keep hf'
    clear hr' hf' hs' HC5
    go_simp
    refine hK.out _ _ (fun _ => trivial) ?_
    clear hK K
    try simp only [Act.put,Ord.t,Ord.z,Ord.s]
    have HC6 : Hid (Calls Try.prog 78 #[.pointer (some ⟨MB,0,none⟩),.int .i64 x,.int .i64 16] w5 fun r w' => Wq 2 (3 + K) lo MB NB T cv5 sv5 R5.2 (downM T x 16 R5.2) w5 r w') := down_q (3 + K) x 16 (HR5.out.le (by omega)) (((((Ix.out.stp HT1.out).stp HT2.out).stp HT3.out).stp HT4.out).stp HT5.out) (by decide)
    obtain ⟨R6,hR⟩ : ∃ R,downM T x 16 R5.2 = R := ⟨_,rfl⟩
    have HE6 := keep hR
    rw [hR] at HC6
    clear hR
    refine Ord.on (i:=8) (h:=fun K hK => ?_)
    go_simp
    refine HC6.out.mono ?_
    rintro r w6 ⟨cv6,sv6,rfl,hr',hf',hs'⟩
    have HR6 := keep hr'
    have HT6 := keep hs'
    have HF6 := keep hf'
    clear hr' hf' hs' HC6
    go_simp
    refine hK.out _ _ (fun _ => trivial) ?_
    clear hK K
    try simp only [Act.put,Ord.t,Ord.z,Ord.s]
    have HC7 := keep (choose_q (0 + K) R5.1 R6.1 x (HR6.out.le (by omega)) (HT5.out.in'.stp HT6.out) HT6.out.in' ((((((Ix.out.stp HT1.out).stp HT2.out).stp HT3.out).stp HT4.out).stp HT5.out).stp HT6.out))
    obtain ⟨R7,hR⟩ : ∃ R,chooseM T R5.1 R6.1 x R6.2 = R := ⟨_,rfl⟩
    rw [hR] at HC7
    have HE7 := keep hR
    clear hR
    refine Ord.on (i:=10) (h:=fun K hK => ?_)
    go_simp
    refine HC7.out.mono ?_
    rintro r w7 ⟨cv7,sv7,rfl,hr',hf',hs'⟩
    have HR7 := keep hr'
    have HF7 := keep hf'
    clear hr' hf' hs' HC7
    go_simp
    refine hK.out _ _ (fun _ => trivial) ?_
    clear hK K
    try simp only [Act.put,Ord.t,Ord.z,Ord.s]
    refine Ord.on (i:=11) (h:=fun K hK => ?_)
    go_simp
    refine hK.out _ _ (fun _ => trivial) ?_
    clear hK K
    try simp only [Act.put,Ord.t,Ord.z,Ord.s]
    refine Ord.wpM_done (by kernel_rfl) ?_ _
    refine NoPanic.normal ?_
    have HEq : Hid (movedM T (fun n a => downM T a n) b 5 a m = R7) := by
     show _ = _
     rw [HSx.out]
     unfold moveM
     dsimp only
     (try simp only [Nat.reducePow])
     (try rw [show ((4 : Nat) : Int) = 4 from rfl])
     rw [HE1.out,HE2.out,HE3.out,HE4.out,HE5.out]
     (try rw [show ((16 : Nat) : Int) = 16 from rfl])
     rw [HE6.out,HE7.out]
    have HFall := keep (HF.out.trans (HF4.out.trans ((MF.of_below HBd.out).trans (HF5.out.trans (HF6.out.trans HF7.out)))))
    clear hS
    go_wp2
    go_roundw
    case rel => exact ⟨5,by omega,by first | rfl | go_num,by rw [HEq.out],_,_,by rw [HEq.out]; exact HR7.out.le (by omega),HFall.out⟩
    case measure => simp [intOf] <;> omega
  ·have hke : k = 5 := by omega
   subst hke
   have HL := keep (shr_lst T b 4 a m)
   have HS5 := keep (HSt.out 5 (by omega))
   have HM : Hid (shrM T a b m = (movedM T (fun n a => downM T a n) b 5 a m).2) := rfl
   have HR := keep hr0
   have HF := keep hf0
   clear hr0 hf0 hkl hkn
   go_wp2
   refine bodyPost_end (results_none rfl _ _ _) rfl ?_
   exact ⟨_,_,_,rfl,by rw [HM.out]; exact HR.out.le (by omega),HF.out,by rw [HM.out]; exact HS5.out,by rw [HM.out]; exact HL.out⟩
end Go.Proofs.Ytfbmkcogkiejnaa.Hg
