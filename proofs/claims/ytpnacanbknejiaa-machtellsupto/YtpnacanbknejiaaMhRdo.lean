/- The document's machine turns the mode on, or back: its Do at those ops. Written by tools/gen_mhrdo.py. -/
import Derived.Test.YtpnacanbknejiaaMhDo
import Derived.Test.YtpnacanbknejiaaFrDo
namespace Go.Proofs.Ytpnacanbknejiaa.Mh
set_option maxHeartbeats 32000000
set_option maxRecDepth 100000
set_option linter.unusedVariables false
set_option linter.unusedSimpArgs false
open Go.ChangeShapes Go.WideShapes Go.ChangeAt Go.RowKit Lg Lr Fl
theorem RM.mode {md : Int} {w : World} {MB PB AO : Nat} {av : Value} {P : List Int} {ps : List (Nat × List Int)} (h : Fl.RM md w MB PB AO av P ps) (m : Int) : Fl.RM m (w.setCell ⟨MB,2,none⟩ (.int .i64 m)) MB PB AO av P ps := by
 have hf : Fs [MB] w (w.setCell ⟨MB,2,none⟩ (.int .i64 m)) := (Fs.refl [MB] w).set (by simp) 2 _
 exact ⟨h.m.set 2 _,h.pl.fs hf (by simpa using Ne.symm h.ne),h.ar.fs hf (fun hn => by simpa using (h.ao hn).2) (fun p hp => by simpa using (h.np p hp).2),h.ne,h.ao,h.np⟩
def RDm (MB PB AO : Nat) (av : Value) (s : Ms) (ps : List (Nat × List Int)) (i : Ix) (at' : Nat) (w : World) (r : Ending) (w' : World) : Prop :=
 r = .returned (.int .i64 (if i.op = 20 ∨ i.op = 21 then -1 else (nx i at' s.P : Nat))) ∧ ∃ ps',Fl.RM (modeM i s) w' MB PB AO av (slotsM i s) ps' ∧ ars ps' = arr i s.P s.A ∧ ps'.map Prod.fst = ps.map Prod.fst ∧ Fs (MB :: PB :: ps.map Prod.fst) w w'
theorem rmode_any (MB PB AO : Nat) (av : Value) (s : Ms) (ps : List (Nat × List Int)) (i : Ix) (at' : Nat) (w : World) (h : Fl.RM s.m w MB PB AO av s.P ps) (hA : ars ps = s.A) (hG : GoodM 120 ps.length s) (hi : FitI 120 ps.length i) (hat : at' ≤ 4294967296) (ho : i.op = 22 ∨ i.op = 23) :
  Calls Try.prog 48 #[.pointer (some ⟨MB,0,none⟩),.agg (ixA i),.int .i64 (at' : Int)] w fun r w' => RDm MB PB AO av s ps i at' w r w' := by
 obtain ⟨op,d,a,b,c,imm⟩ := i
 obtain ⟨sP,sA,sm⟩ := s
 have hln : sP.length = 120 := hG.len
 dsimp only at h hA ho
 obtain ⟨w1,hw1⟩ : ∃ y,w.alloc (.cells #[.int .i64 op,.int .i64 d,.int .i64 a,.int .i64 b,.int .i64 c,.int .i64 imm] 35) = y := ⟨_,rfl⟩
 obtain ⟨I,hI⟩ : ∃ y,w.heap.size = y := ⟨_,rfl⟩
 have b1 : Below w.heap.size w w1 := by rw [← hw1]; exact (Below.refl _ _).alloc (Nat.le_refl _) _
 have kI : Bk w1 I [.int .i64 op,.int .i64 d,.int .i64 a,.int .i64 b,.int .i64 c,.int .i64 imm] 35 := by rw [← hw1,← hI]; exact Bk.new _ _ _
 have HRm := keep (h.below b1)
 have HkI := keep kI
 have HIM : Hid (MB < I ∧ PB < I) := ⟨by rw [← hI]; exact h.m.lt,by rw [← hI]; exact h.pl.lt⟩
 have HB := keep b1
 have HW1 := keep hw1
 have HI := keep hI
 have HG := keep hG
 have HFi := keep hi
 have HA := keep hA
 have y0 := kI.cell 0 rfl
 have y1 := kI.cell 1 rfl
 have y2 := kI.cell 2 rfl
 have kM := (h.below b1).m
 rw [hln] at kM
 have m0 := kM.cell 0 rfl
 have m2 := kM.cell 2 rfl
 have HLn := keep hln
 have hwr : IntKind.i64.wrap ((at' : Int) + 1) = (at' : Int) + 1 := by rw [IntKind.wrap_i64]; omega
 unfold ixA
 dsimp only
 clear hw1 hI b1 kI kM h hA hG hi hat hln
 rcases ho with rfl | rfl
 ·have hd0 := HFi.out.d0
  have hd1 := HFi.out.d1
  dsimp only at hd0 hd1
  obtain ⟨kd,rfl⟩ : ∃ k : Nat,d = (k : Int) := ⟨d.toNat,by omega⟩
  have HE : Hid (∀ W,Fl.RM 1 W MB PB AO av (sP.set kd sm) ps → Fs [MB,PB] w1 W → RDm MB PB AO av ⟨sP,sA,sm⟩ ps ⟨22,(kd : Int),a,b,c,imm⟩ at' w (.returned (.int .i64 ((at' : Int) + 1))) W) := fun W hW hf => by
   refine ⟨by rw [if_neg (by simp),nx_next (show (22 : Int) ≠ 18 by decide) (show (22 : Int) ≠ 19 by decide)]; rfl,ps,hW,?_,rfl,(Fs.of_below HB.out).trans (hf.mono (fun k hk => by simp at hk ⊢; rcases hk with q | q <;> simp [q]))⟩
   rw [HA.out]
   unfold arr
   rw [if_neg (fun x => absurd x.1 (by show ¬ ((22 : Int) = 17); decide))]
  have HSS : Hid (∀ W',Fs [PB] w1 W' → W'.cell? ⟨MB,0,none⟩ = some (.slice (some ⟨PB,0,none⟩) 120 120) ∧ W'.cell? ⟨MB,2,none⟩ = some (.int .i64 sm) ∧ W'.cell? ⟨I,0,none⟩ = some (.int .i64 22) ∧ W'.cell? ⟨I,1,none⟩ = some (.int .i64 (kd : Int))) := fun W' hW => by
   have u1 := HRm.out.m.fs hW (by simpa using HRm.out.ne)
   rw [HLn.out] at u1
   have u2 := HkI.out.fs hW (by have := HIM.out.2; simp; omega)
   exact ⟨u1.cell 0 rfl,u1.cell 2 rfl,u2.cell 0 rfl,u2.cell 1 rfl⟩
  have z1 := HRm.out.place (k:=kd) (by rw [HLn.out]; omega)
  have z2 := HRm.out.pl.fr kd
  generalize gI sP (kd : Int) = vd at *
  have hkd : (kd : Int) < 120 := hd1
  have hkd0 : (0 : Int) ≤ (kd : Int) := hd0
  go_enter Try.func48,Try.ntmps48
  go_wp2_with (first | rw [HW1.out] | rw [HI.out] | fail)
  go_quiet (fail)
  go_wp2_with fail
  refine wp_region_noPanic ?_
  refine Ord.wpM_begin (fun W' : World => W'.cell? ⟨MB,0,none⟩ = some (.slice (some ⟨PB,0,none⟩) 120 120) ∧ W'.cell? ⟨MB,2,none⟩ = some (.int .i64 sm) ∧ W'.cell? ⟨I,0,none⟩ = some (.int .i64 22) ∧ W'.cell? ⟨I,1,none⟩ = some (.int .i64 (kd : Int))) [0,1,2,3,4,5,6,7,8,9,10,11,12,13,14] (by kernel_rfl) ?_
  have hbd : Below w1.heap.size w1 (w1.drewN nq).drew := Below.drew (below_drewN (Below.refl _ _) nq)
  have HD : Hid (Fs [PB] w1 (w1.drewN nq).drew) := Fs.of_below hbd
  have HMd := keep (HRm.out.below hbd)
  have z1d : (w1.drewN nq).drew.cell? ⟨PB,kd,none⟩ = some (.int .i64 vd) := by rw [cell_below hbd HRm.out.pl.lt]; exact z1
  have z2d : (w1.drewN nq).drew.frozen? ⟨PB,kd,none⟩ = false := (HMd.out).pl.fr kd
  clear hbd
  generalize (w1.drewN nq).drew = wd at *
  have hS := HSS.out wd HD.out
  refine Ord.tk (i:=0) (v:=.pointer (some ⟨MB,0,none⟩)) (hy:=Or.inl ⟨by rfl,by rintro W' ⟨q0,q1,q2,q3⟩; go_simp⟩) (hS:=hS) (h:=?_)
  try simp only [Act.put,Ord.t,Ord.z,Ord.s]
  refine Ord.tk (i:=1) (v:=.pointer (some ⟨MB,0,none⟩)) (hy:=Or.inl ⟨by rfl,by rintro W' ⟨q0,q1,q2,q3⟩; go_simp⟩) (hS:=hS) (h:=?_)
  try simp only [Act.put,Ord.t,Ord.z,Ord.s]
  refine Ord.tk (i:=2) (v:=.pointer (some ⟨MB,0,none⟩)) (hy:=Or.inl ⟨by rfl,by rintro W' ⟨q0,q1,q2,q3⟩; go_simp⟩) (hS:=hS) (h:=?_)
  try simp only [Act.put,Ord.t,Ord.z,Ord.s]
  refine Ord.tk (i:=3) (v:=.slice (some ⟨PB,0,none⟩) 120 120) (hy:=Or.inl ⟨by rfl,by rintro W' ⟨q0,q1,q2,q3⟩; go_simp⟩) (hS:=hS) (h:=?_)
  try simp only [Act.put,Ord.t,Ord.z,Ord.s]
  refine Ord.tk (i:=4) (v:=.pointer (some ⟨I,1,none⟩)) (hy:=Or.inl ⟨by rfl,by rintro W' ⟨q0,q1,q2,q3⟩; go_simp⟩) (hS:=hS) (h:=?_)
  try simp only [Act.put,Ord.t,Ord.z,Ord.s]
  refine Ord.tk (i:=5) (v:=.int .i64 (kd : Int)) (hy:=Or.inl ⟨by rfl,by rintro W' ⟨q0,q1,q2,q3⟩; go_simp⟩) (hS:=hS) (h:=?_)
  try simp only [Act.put,Ord.t,Ord.z,Ord.s]
  refine Ord.tk (i:=6) (v:=.pointer (some ⟨MB,0,none⟩)) (hy:=Or.inl ⟨by rfl,by rintro W' ⟨q0,q1,q2,q3⟩; go_simp⟩) (hS:=hS) (h:=?_)
  try simp only [Act.put,Ord.t,Ord.z,Ord.s]
  refine Ord.tk (i:=7) (v:=.pointer (some ⟨MB,0,none⟩)) (hy:=Or.inl ⟨by rfl,by rintro W' ⟨q0,q1,q2,q3⟩; go_simp⟩) (hS:=hS) (h:=?_)
  try simp only [Act.put,Ord.t,Ord.z,Ord.s]
  refine Ord.tk (i:=8) (v:=.pointer (some ⟨MB,0,none⟩)) (hy:=Or.inl ⟨by rfl,by rintro W' ⟨q0,q1,q2,q3⟩; go_simp⟩) (hS:=hS) (h:=?_)
  try simp only [Act.put,Ord.t,Ord.z,Ord.s]
  refine Ord.tk (i:=9) (v:=.pointer (some ⟨MB,2,none⟩)) (hy:=Or.inl ⟨by rfl,by rintro W' ⟨q0,q1,q2,q3⟩; go_simp⟩) (hS:=hS) (h:=?_)
  try simp only [Act.put,Ord.t,Ord.z,Ord.s]
  refine Ord.tk (i:=10) (v:=.int .i64 sm) (hy:=Or.inl ⟨by rfl,by rintro W' ⟨q0,q1,q2,q3⟩; go_simp⟩) (hS:=hS) (h:=?_)
  try simp only [Act.put,Ord.t,Ord.z,Ord.s]
  refine Ord.tk (i:=11) (v:=.pointer (some ⟨PB,kd,none⟩)) (hy:=Or.inl ⟨by rfl,by rintro W' ⟨q0,q1,q2,q3⟩; go_simp⟩) (hS:=hS) (h:=?_)
  try simp only [Act.put,Ord.t,Ord.z,Ord.s]
  refine Ord.on (i:=12) (h:=fun K hK => ?_)
  go_simp
  have HM2 := keep (HMd.out.setP kd sm)
  have HF2 := keep (HD.out.set (show PB ∈ [PB] by simp) kd (.int .i64 sm))
  generalize wd.setCell ⟨PB,kd,none⟩ (.int .i64 sm) = we at *
  refine hK.out _ _ (fun _ => HSS.out we HF2.out) ?_
  clear hK K
  try simp only [Act.put,Ord.t,Ord.z,Ord.s]
  have n2 := HM2.out.m.cell 2 rfl
  have n2f := HM2.out.m.fr 2
  have hS := HSS.out we HF2.out
  refine Ord.on (i:=13) (h:=fun K hK => ?_)
  go_simp
  refine hK.out _ _ (fun _ => hS) ?_
  clear hK K
  try simp only [Act.put,Ord.t,Ord.z,Ord.s]
  refine Ord.on (i:=14) (h:=fun K hK => ?_)
  go_simp
  refine hK.out _ _ (fun _ => hS) ?_
  clear hK K
  try simp only [Act.put,Ord.t,Ord.z,Ord.s]
  refine Ord.on (i:=15) (h:=fun K hK => ?_)
  go_simp
  have HM3 := keep (RM.mode HM2.out 1)
  have HF3 : Hid (Fs [MB,PB] w1 (we.setCell ⟨MB,2,none⟩ (.int .i64 1))) := (HF2.out.mono (by simp)).set (by simp) 2 _
  generalize we.setCell ⟨MB,2,none⟩ (.int .i64 1) = wf at *
  refine hK.out _ _ (fun h => absurd h (by decide)) ?_
  clear hK K
  try simp only [Act.put,Ord.t,Ord.z,Ord.s]
  refine Ord.wpM_done (by kernel_rfl) ?_ _
  refine NoPanic.normal ?_
  have HG3 := keep (HE.out wf HM3.out HF3.out)
  clear hS HSS z1 z2 z1d z2d n2 n2f m0 m2 y0 y1 y2
  go_wp2
  go_ret
  first | exact HG3.out | (rw [hwr]; exact HG3.out)
 ·obtain ⟨a0,a1⟩ := HFi.out.a rfl
  dsimp only at a0 a1
  obtain ⟨ka,rfl⟩ : ∃ k : Nat,a = (k : Int) := ⟨a.toNat,by omega⟩
  have z1 := HRm.out.place (k:=ka) (by rw [HLn.out]; omega)
  have hvw := gI_word HG.out.word (ka : Int)
  dsimp only at hvw
  have HE : Hid (∀ W,Fl.RM (gI sP (ka : Int) % 2) W MB PB AO av sP ps → Fs [MB] w1 W → RDm MB PB AO av ⟨sP,sA,sm⟩ ps ⟨23,d,(ka : Int),b,c,imm⟩ at' w (.returned (.int .i64 ((at' : Int) + 1))) W) := fun W hW hf => by
   refine ⟨by rw [if_neg (by simp),nx_next (show (23 : Int) ≠ 18 by decide) (show (23 : Int) ≠ 19 by decide)]; rfl,ps,hW,?_,rfl,(Fs.of_below HB.out).trans (hf.mono (fun k hk => by simp at hk ⊢; simp [hk]))⟩
   rw [HA.out]
   unfold arr
   rw [if_neg (fun x => absurd x.1 (by show ¬ ((23 : Int) = 17); decide))]
  generalize gI sP (ka : Int) = va at *
  have hka : (ka : Int) < 120 := a1
  have hka0 : (0 : Int) ≤ (ka : Int) := a0
  have htm : va.tmod 2 = va % 2 := Int.tmod_eq_emod_of_nonneg hvw.1
  have z1k := keep z1
  have HSS : Hid (∀ W',Fs [] w1 W' → W'.cell? ⟨MB,0,none⟩ = some (.slice (some ⟨PB,0,none⟩) 120 120) ∧ W'.cell? ⟨I,0,none⟩ = some (.int .i64 23) ∧ W'.cell? ⟨I,2,none⟩ = some (.int .i64 (ka : Int)) ∧ W'.cell? ⟨PB,ka,none⟩ = some (.int .i64 va)) := fun W' hW => by
   have u1 := HRm.out.m.fs hW (by simp)
   rw [HLn.out] at u1
   have u2 := HkI.out.fs hW (by simp)
   exact ⟨u1.cell 0 rfl,u2.cell 0 rfl,u2.cell 2 rfl,by rw [World.cell?_of_block (hW.block PB HRm.out.pl.lt (by simp))]; exact z1k.out⟩
  go_enter Try.func48,Try.ntmps48
  go_wp2_with (first | rw [HW1.out] | rw [HI.out] | fail)
  go_quiet (fail)
  go_wp2_with fail
  refine wp_region_noPanic ?_
  refine Ord.wpM_begin (fun W' : World => W'.cell? ⟨MB,0,none⟩ = some (.slice (some ⟨PB,0,none⟩) 120 120) ∧ W'.cell? ⟨I,0,none⟩ = some (.int .i64 23) ∧ W'.cell? ⟨I,2,none⟩ = some (.int .i64 (ka : Int)) ∧ W'.cell? ⟨PB,ka,none⟩ = some (.int .i64 va)) [0,1,2,3,4,5,6,7,8,9,10,11] (by kernel_rfl) ?_
  have hbd : Below w1.heap.size w1 (w1.drewN nq).drew := Below.drew (below_drewN (Below.refl _ _) nq)
  have HD : Hid (Fs [] w1 (w1.drewN nq).drew) := Fs.of_below hbd
  have HMd := keep (HRm.out.below hbd)
  clear hbd
  generalize (w1.drewN nq).drew = wd at *
  have hS := HSS.out wd HD.out
  have n2 := HMd.out.m.cell 2 rfl
  have n2f := HMd.out.m.fr 2
  refine Ord.tk (i:=0) (v:=.pointer (some ⟨MB,0,none⟩)) (hy:=Or.inl ⟨by rfl,by rintro W' ⟨q0,q1,q2,q3⟩; go_simp⟩) (hS:=hS) (h:=?_)
  try simp only [Act.put,Ord.t,Ord.z,Ord.s]
  refine Ord.tk (i:=1) (v:=.pointer (some ⟨MB,0,none⟩)) (hy:=Or.inl ⟨by rfl,by rintro W' ⟨q0,q1,q2,q3⟩; go_simp⟩) (hS:=hS) (h:=?_)
  try simp only [Act.put,Ord.t,Ord.z,Ord.s]
  refine Ord.tk (i:=2) (v:=.pointer (some ⟨MB,0,none⟩)) (hy:=Or.inl ⟨by rfl,by rintro W' ⟨q0,q1,q2,q3⟩; go_simp⟩) (hS:=hS) (h:=?_)
  try simp only [Act.put,Ord.t,Ord.z,Ord.s]
  refine Ord.tk (i:=3) (v:=.pointer (some ⟨MB,0,none⟩)) (hy:=Or.inl ⟨by rfl,by rintro W' ⟨q0,q1,q2,q3⟩; go_simp⟩) (hS:=hS) (h:=?_)
  try simp only [Act.put,Ord.t,Ord.z,Ord.s]
  refine Ord.tk (i:=4) (v:=.slice (some ⟨PB,0,none⟩) 120 120) (hy:=Or.inl ⟨by rfl,by rintro W' ⟨q0,q1,q2,q3⟩; go_simp⟩) (hS:=hS) (h:=?_)
  try simp only [Act.put,Ord.t,Ord.z,Ord.s]
  refine Ord.tk (i:=5) (v:=.pointer (some ⟨I,2,none⟩)) (hy:=Or.inl ⟨by rfl,by rintro W' ⟨q0,q1,q2,q3⟩; go_simp⟩) (hS:=hS) (h:=?_)
  try simp only [Act.put,Ord.t,Ord.z,Ord.s]
  refine Ord.tk (i:=6) (v:=.int .i64 (ka : Int)) (hy:=Or.inl ⟨by rfl,by rintro W' ⟨q0,q1,q2,q3⟩; go_simp⟩) (hS:=hS) (h:=?_)
  try simp only [Act.put,Ord.t,Ord.z,Ord.s]
  refine Ord.tk (i:=7) (v:=.pointer (some ⟨PB,ka,none⟩)) (hy:=Or.inl ⟨by rfl,by rintro W' ⟨q0,q1,q2,q3⟩; go_simp⟩) (hS:=hS) (h:=?_)
  try simp only [Act.put,Ord.t,Ord.z,Ord.s]
  refine Ord.tk (i:=8) (v:=.int .i64 va) (hy:=Or.inl ⟨by rfl,by rintro W' ⟨q0,q1,q2,q3⟩; go_simp⟩) (hS:=hS) (h:=?_)
  try simp only [Act.put,Ord.t,Ord.z,Ord.s]
  refine Ord.tk (i:=9) (v:=.int .i64 (va % 2)) (hy:=Or.inl ⟨by rfl,by rintro W' ⟨q0,q1,q2,q3⟩; go_simp⟩) (hS:=hS) (h:=?_)
  try simp only [Act.put,Ord.t,Ord.z,Ord.s]
  refine Ord.on (i:=10) (h:=fun K hK => ?_)
  go_simp
  refine hK.out _ _ (fun _ => hS) ?_
  clear hK K
  try simp only [Act.put,Ord.t,Ord.z,Ord.s]
  refine Ord.on (i:=11) (h:=fun K hK => ?_)
  go_simp
  refine hK.out _ _ (fun _ => hS) ?_
  clear hK K
  try simp only [Act.put,Ord.t,Ord.z,Ord.s]
  refine Ord.on (i:=12) (h:=fun K hK => ?_)
  go_simp
  have HM3 := keep (RM.mode HMd.out (va % 2))
  have HF3 : Hid (Fs [MB] w1 (wd.setCell ⟨MB,2,none⟩ (.int .i64 (va % 2)))) := (HD.out.mono (by simp)).set (by simp) 2 _
  generalize wd.setCell ⟨MB,2,none⟩ (.int .i64 (va % 2)) = wf at *
  refine hK.out _ _ (fun h => absurd h (by decide)) ?_
  clear hK K
  try simp only [Act.put,Ord.t,Ord.z,Ord.s]
  refine Ord.wpM_done (by kernel_rfl) ?_ _
  refine NoPanic.normal ?_
  have HG3 := keep (HE.out wf HM3.out HF3.out)
  clear hS HSS z1 n2 n2f m0 m2 y0 y1 y2
  go_wp2
  go_ret
  first | exact HG3.out | (rw [hwr]; exact HG3.out)
end Go.Proofs.Ytpnacanbknejiaa.Mh
