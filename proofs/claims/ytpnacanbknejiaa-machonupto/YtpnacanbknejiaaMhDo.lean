/- The program's machine does an instruction: do. Written by tools/gen_mhdo.py. -/
import Derived.Test.YtpnacanbknejiaaMhLeak
import Derived.Laws.BitsLemmas
namespace Go.Proofs.Ytpnacanbknejiaa.Mh
set_option maxHeartbeats 32000000
set_option maxRecDepth 100000
set_option linter.unusedVariables false
set_option linter.unusedSimpArgs false
open Go.ChangeShapes Go.WideShapes Go.ChangeAt Go.RowKit Lg Lr Fl
theorem and_bit (x : Int) (h0 : 0 ≤ x) (h1 : x ≤ 4294967295) : bits .and .i64 x 1 = x % 2 :=
 bits_mask .i64 32 (by decide) (fun n h₀ h₁ => by rw [IntKind.wrap_i64]; omega) 1 (by decide) x h0 (by omega)
def DoP (MB PB AO : Nat) (cv : Value) (s : Ms) (ps : List (Nat × List Int)) (i : Ix) (at' : Nat) (w : World) (r : Ending) (w' : World) : Prop :=
 r = .returned (.tuple #[]) ∧ ∃ ps',MaIs w' MB PB AO cv (doM i s) ps' (nx i at' s.P) ∧ ps'.map Prod.fst = ps.map Prod.fst ∧ Fs (MB :: PB :: ps.map Prod.fst) w w'
theorem five_at {w : World} {b : Nat} {u v x y z : Value} {ty : TypeId} (h : Bk w b [u,v,x,y,z] ty) : w.cell? ⟨b,1,none⟩ = some v ∧ w.cell? ⟨b,2,none⟩ = some x ∧ w.cell? ⟨b,3,none⟩ = some y ∧ w.cell? ⟨b,4,none⟩ = some z := ⟨h.cell 1 rfl,h.cell 2 rfl,h.cell 3 rfl,h.cell 4 rfl⟩
theorem MaIs.put {w : World} {MB PB AO : Nat} {cv : Value} {s : Ms} {ps : List (Nat × List Int)} {at' : Nat} (h : MaIs w MB PB AO cv s ps at') (m : Int) : MaIs (w.setCell ⟨MB,3,none⟩ (.int .i64 m)) MB PB AO cv ⟨s.P,s.A,m⟩ ps at' := by
 have hf : Fs [MB] w (w.setCell ⟨MB,3,none⟩ (.int .i64 m)) := (Fs.refl [MB] w).set (by simp) 3 _
 exact ⟨h.m.set 3 _,h.mc.fs hf (by simpa using Ne.symm h.nm.1) (by simpa using Ne.symm h.nm.2.1) (fun p hp => by simpa using h.nm.2.2 p hp),h.ar,h.len,h.nm⟩
theorem MaIs.go {w : World} {MB PB AO : Nat} {cv : Value} {s : Ms} {ps : List (Nat × List Int)} {at' : Nat} (h : MaIs w MB PB AO cv s ps at') (k : Nat) : MaIs (w.setCell ⟨MB,4,none⟩ (.int .i64 (k : Int))) MB PB AO cv s ps k := by
 have hf : Fs [MB] w (w.setCell ⟨MB,4,none⟩ (.int .i64 (k : Int))) := (Fs.refl [MB] w).set (by simp) 4 _
 exact ⟨h.m.set 4 _,h.mc.fs hf (by simpa using Ne.symm h.nm.1) (by simpa using Ne.symm h.nm.2.1) (fun p hp => by simpa using h.nm.2.2 p hp),h.ar,h.len,h.nm⟩
theorem MaIs.slot {w : World} {MB PB AO : Nat} {cv : Value} {s : Ms} {ps : List (Nat × List Int)} {at' : Nat} (h : MaIs w MB PB AO cv s ps at') (k : Nat) (v : Int) : MaIs (w.setCell ⟨PB,k,none⟩ (.int .i64 v)) MB PB AO cv ⟨s.P.set k v,s.A,s.m⟩ ps at' := by
 have hf : Fs [PB] w (w.setCell ⟨PB,k,none⟩ (.int .i64 v)) := (Fs.refl [PB] w).set (by simp) k _
 exact ⟨h.m.fs hf (by simpa using h.nm.1),h.mc.setP k v,h.ar,by rw [List.length_set]; exact h.len,h.nm⟩
theorem yieldsIf_state {ops : Array Oper} {S : World → Prop} {op : Oper} {a : Act} (hw : Region.wanted op (yielded ops a.tmps) = true) (x : Operand) (ho : op.op = .load 91 x) (b : Nat) (hx : a.eval x = .pointer (some ⟨b,1,none⟩)) (u v : Value) (hS : ∀ w,S w → w.cell? ⟨b,1,none⟩ = some u ∧ w.cell? ⟨b,2,none⟩ = some v) : YieldsIf Try.prog ops S op (.agg #[u,v]) a := by
 have h := yieldsIf_load_mid (P:=Try.prog) (ops:=ops) (S:=S) hw 91 x ho b 1 hx [u,v] _ (fun w hw' j z hj => by
  obtain ⟨h1,h2⟩ := hS w hw'
  match j,hj with
  | 0,hj => cases hj; exact h1
  | 1,hj => cases hj; exact h2) Try.underlying91 rfl (by kernel_rfl)
 exact h
theorem nx_next {i : Ix} {at' : Nat} {P : List Int} (h1 : i.op ≠ 18) (h2 : i.op ≠ 19) : nx i at' P = at' + 1 := by
 unfold nx
 rw [if_neg h1,if_neg (fun x => h2 x.1)]
theorem do_any (MB PB AO : Nat) (cv : Value) (s : Ms) (ps : List (Nat × List Int)) (i : Ix) (at' : Nat) (w : World) (h : MaIs w MB PB AO cv s ps at') (hG : GoodM 120 ps.length s) (hi : FitI 120 ps.length i) (h20 : i.op ≠ 20) (h21 : i.op ≠ 21) (hat : at' ≤ 1000000) :
  Calls Try.prog 76 #[.pointer (some ⟨MB,0,none⟩),.agg (ixA i)] w fun r w' => DoP MB PB AO cv s ps i at' w r w' := by
 obtain ⟨op,d,a,b,c,imm⟩ := i
 obtain ⟨w1,hw1⟩ : ∃ y,w.alloc (.cells #[.int .i64 op,.int .i64 d,.int .i64 a,.int .i64 b,.int .i64 c,.int .i64 imm] 35) = y := ⟨_,rfl⟩
 obtain ⟨IB,hI⟩ : ∃ y,w.heap.size = y := ⟨_,rfl⟩
 have b1 : Below w.heap.size w w1 := by rw [← hw1]; exact (Below.refl _ _).alloc (Nat.le_refl _) _
 have kI : Bk w1 IB [.int .i64 op,.int .i64 d,.int .i64 a,.int .i64 b,.int .i64 c,.int .i64 imm] 35 := by rw [← hw1,← hI]; exact Bk.new _ _ _
 have h1 := h.below b1
 have HMa := keep h1
 have HkI := keep kI
 have HB := keep b1
 have HW1 := keep hw1
 have HI := keep hI
 have HG := keep hG
 have HFi := keep hi
 have HLt : Hid (MB < IB ∧ PB < IB ∧ AO < IB ∧ ∀ p ∈ ps,p.1 < IB) := ⟨by rw [← hI]; exact h.m.lt,by rw [← hI]; exact h.mc.pl.lt,by rw [← hI]; exact h.mc.row.lt,fun p hp => by rw [← hI]; exact (h.mc.at' p hp).lt⟩
 obtain ⟨sP,sA,sm⟩ := s
 obtain ⟨m,hm⟩ : ∃ y,ps.length = y := ⟨_,rfl⟩
 obtain ⟨m1,m2,m3,m4⟩ := five_at h1.m
 dsimp only at m1 m2 m3 m4
 rw [hm] at m2
 have m1f := h1.m.fr 3
 have m4f := h1.m.fr 4
 have y0 := kI.cell 0 rfl
 have y1 := kI.cell 1 rfl
 have y2 := kI.cell 2 rfl
 have y3 := kI.cell 3 rfl
 have y4 := kI.cell 4 rfl
 have y5 := kI.cell 5 rfl
 have hwr : IntKind.i64.wrap ((at' : Int) + 1) = (at' : Int) + 1 := by rw [IntKind.wrap_i64]; omega
 have HMM := keep hm
 unfold ixA
 dsimp only at h20 h21 ⊢
 have HAt : Hid (at' ≤ 1000000) := hat
 have HO : Hid (op ≠ 20 ∧ op ≠ 21) := ⟨h20,h21⟩
 clear hw1 hI b1 kI h1 h hG hi hm h20 h21 hat
 by_cases h22 : op = 22
 ·subst h22
  have hd0 := HFi.out.d0
  have hd1 := HFi.out.d1
  dsimp only at hd0 hd1
  obtain ⟨kd,rfl⟩ : ∃ k : Nat,d = (k : Int) := ⟨d.toNat,by omega⟩
  have HE : Hid (∀ W,MaIs W MB PB AO cv ⟨sP.set kd sm,sA,1⟩ ps (at' + 1) → Fs [MB,PB] w1 W → DoP MB PB AO cv ⟨sP,sA,sm⟩ ps ⟨22,(kd : Int),a,b,c,imm⟩ at' w (.returned (.tuple #[])) W) := fun W hW hf => by
   refine ⟨rfl,ps,?_,rfl,(Fs.of_below HB.out).trans (hf.mono (fun k hk => by simp at hk ⊢; rcases hk with q | q <;> simp [q]))⟩
   rw [nx_next (show (22 : Int) ≠ 18 by decide) (show (22 : Int) ≠ 19 by decide)]
   have e : doM ⟨22,(kd : Int),a,b,c,imm⟩ ⟨sP,sA,sm⟩ = ⟨sP.set kd sm,sA,1⟩ := rfl
   rw [e]; exact hW
  have HSS : Hid (∀ W',Fs [PB] w1 W' → W'.cell? ⟨MB,1,none⟩ = some (.slice (some ⟨PB,0,none⟩) 120 120) ∧ W'.cell? ⟨MB,3,none⟩ = some (.int .i64 sm) ∧ W'.cell? ⟨IB,0,none⟩ = some (.int .i64 22) ∧ W'.cell? ⟨IB,1,none⟩ = some (.int .i64 (kd : Int))) := fun W' hW => by
   have u1 := HMa.out.m.fs hW (by simpa using HMa.out.nm.1)
   have u2 := HkI.out.fs hW (by have := HLt.out.2.1; simp; omega)
   exact ⟨u1.cell 1 rfl,u1.cell 3 rfl,u2.cell 0 rfl,u2.cell 1 rfl⟩
  have z1 := HMa.out.mc.place (k:=kd) (by rw [HMa.out.len]; omega)
  have z2 := HMa.out.mc.pl.fr kd
  dsimp only at z1
  generalize gI sP (kd : Int) = vd at *
  have hkd : (kd : Int) < 120 := hd1
  have hkd0 : (0 : Int) ≤ (kd : Int) := hd0
  go_enter Try.func76,Try.ntmps76
  go_wp2_with (first | rw [HW1.out] | rw [HI.out] | fail)
  refine wp_region_noPanic ?_
  refine Ord.wpM_begin (fun W' : World => W'.cell? ⟨MB,1,none⟩ = some (.slice (some ⟨PB,0,none⟩) 120 120) ∧ W'.cell? ⟨MB,3,none⟩ = some (.int .i64 sm) ∧ W'.cell? ⟨IB,0,none⟩ = some (.int .i64 22) ∧ W'.cell? ⟨IB,1,none⟩ = some (.int .i64 (kd : Int))) [0,1,2,3,4,5,6,7,8,9,10,11] (by kernel_rfl) ?_
  have HD : Hid (Fs [PB] w1 w1.drew) := Fs.of_below (Below.drew (Below.refl _ _))
  have HMd : Hid (MaIs w1.drew MB PB AO cv ⟨sP,sA,sm⟩ ps at') := HMa.out.below (Below.drew (Below.refl _ _))
  have z1d : w1.drew.cell? ⟨PB,kd,none⟩ = some (.int .i64 vd) := z1
  have z2d : w1.drew.frozen? ⟨PB,kd,none⟩ = false := z2
  generalize w1.drew = wd at *
  have hS := HSS.out wd HD.out
  refine Ord.tk (i:=0) (v:=.slice (some ⟨PB,0,none⟩) 120 120) (hy:=Or.inl ⟨by rfl,by rintro W' ⟨q0,q1,q2,q3⟩; go_simp⟩) (hS:=hS) (h:=?_)
  try simp only [Act.put,Ord.t,Ord.z,Ord.s]
  refine Ord.tk (i:=1) (v:=.pointer (some ⟨IB,1,none⟩)) (hy:=Or.inl ⟨by rfl,by rintro W' ⟨q0,q1,q2,q3⟩; go_simp⟩) (hS:=hS) (h:=?_)
  try simp only [Act.put,Ord.t,Ord.z,Ord.s]
  refine Ord.tk (i:=2) (v:=.int .i64 (kd : Int)) (hy:=Or.inl ⟨by rfl,by rintro W' ⟨q0,q1,q2,q3⟩; go_simp⟩) (hS:=hS) (h:=?_)
  try simp only [Act.put,Ord.t,Ord.z,Ord.s]
  refine Ord.tk (i:=3) (v:=.pointer (some ⟨MB,0,none⟩)) (hy:=Or.inl ⟨by rfl,by rintro W' ⟨q0,q1,q2,q3⟩; go_simp⟩) (hS:=hS) (h:=?_)
  try simp only [Act.put,Ord.t,Ord.z,Ord.s]
  refine Ord.tk (i:=4) (v:=.pointer (some ⟨MB,0,none⟩)) (hy:=Or.inl ⟨by rfl,by rintro W' ⟨q0,q1,q2,q3⟩; go_simp⟩) (hS:=hS) (h:=?_)
  try simp only [Act.put,Ord.t,Ord.z,Ord.s]
  refine Ord.tk (i:=5) (v:=.pointer (some ⟨MB,0,none⟩)) (hy:=Or.inl ⟨by rfl,by rintro W' ⟨q0,q1,q2,q3⟩; go_simp⟩) (hS:=hS) (h:=?_)
  try simp only [Act.put,Ord.t,Ord.z,Ord.s]
  refine Ord.tk (i:=6) (v:=.pointer (some ⟨MB,3,none⟩)) (hy:=Or.inl ⟨by rfl,by rintro W' ⟨q0,q1,q2,q3⟩; go_simp⟩) (hS:=hS) (h:=?_)
  try simp only [Act.put,Ord.t,Ord.z,Ord.s]
  refine Ord.tk (i:=7) (v:=.int .i64 sm) (hy:=Or.inl ⟨by rfl,by rintro W' ⟨q0,q1,q2,q3⟩; go_simp⟩) (hS:=hS) (h:=?_)
  try simp only [Act.put,Ord.t,Ord.z,Ord.s]
  refine Ord.tk (i:=8) (v:=.pointer (some ⟨PB,kd,none⟩)) (hy:=Or.inl ⟨by rfl,by rintro W' ⟨q0,q1,q2,q3⟩; go_simp⟩) (hS:=hS) (h:=?_)
  try simp only [Act.put,Ord.t,Ord.z,Ord.s]
  refine Ord.on (i:=9) (h:=fun K hK => ?_)
  go_simp
  have HM2 := keep (HMd.out.slot kd sm)
  have HF2 := keep (HD.out.set (show PB ∈ [PB] by simp) kd (.int .i64 sm))
  generalize wd.setCell ⟨PB,kd,none⟩ (.int .i64 sm) = we at *
  refine hK.out _ _ (fun _ => HSS.out we HF2.out) ?_
  clear hK K
  try simp only [Act.put,Ord.t,Ord.z,Ord.s]
  obtain ⟨n1,n2,n3,n4⟩ := five_at HM2.out.m
  try dsimp only at n3 n4
  have n3f := HM2.out.m.fr 3
  have hS := HSS.out we HF2.out
  refine Ord.on (i:=10) (h:=fun K hK => ?_)
  go_simp
  refine hK.out _ _ (fun _ => hS) ?_
  clear hK K
  try simp only [Act.put,Ord.t,Ord.z,Ord.s]
  refine Ord.on (i:=11) (h:=fun K hK => ?_)
  go_simp
  refine hK.out _ _ (fun _ => hS) ?_
  clear hK K
  try simp only [Act.put,Ord.t,Ord.z,Ord.s]
  refine Ord.on (i:=12) (h:=fun K hK => ?_)
  go_simp
  have HM3 := keep (HM2.out.put 1)
  have HF3 : Hid (Fs [MB,PB] w1 (we.setCell ⟨MB,3,none⟩ (.int .i64 1))) := (HF2.out.mono (by simp)).set (by simp) 3 _
  generalize we.setCell ⟨MB,3,none⟩ (.int .i64 1) = wf at *
  refine hK.out _ _ (fun h => absurd h (by decide)) ?_
  clear hK K
  try simp only [Act.put,Ord.t,Ord.z,Ord.s]
  refine Ord.wpM_done (by kernel_rfl) ?_ _
  refine NoPanic.normal ?_
  have o4 := (five_at HM3.out.m).2.2.2
  have o4f := HM3.out.m.fr 4
  try dsimp only at o4
  have HG3 := keep (HE.out _ (HM3.out.go (at' + 1)) (HF3.out.set (by simp) 4 _))
  clear hS HSS z1 z2 z1d z2d n1 n2 n3 n4 n3f m1 m2 m3 m4 y0 y1 y2 y3 y4 y5
  go_wp2
  refine bodyPost_end (results_none rfl _ _ _) rfl ?_
  first | exact HG3.out | (rw [hwr]; exact HG3.out)
 ·have k22 : (op == 22) = false := by simpa using h22
  by_cases h23 : op = 23
  ·subst h23
   obtain ⟨a0,a1⟩ := HFi.out.a rfl
   dsimp only at a0 a1
   obtain ⟨ka,rfl⟩ : ∃ k : Nat,a = (k : Int) := ⟨a.toNat,by omega⟩
   have z1 := HMa.out.mc.place (k:=ka) (by rw [HMa.out.len]; omega)
   dsimp only at z1
   have hvw := gI_word HG.out.word (ka : Int)
   dsimp only at hvw
   have HE : Hid (∀ W,MaIs W MB PB AO cv ⟨sP,sA,gI sP (ka : Int) % 2⟩ ps (at' + 1) → Fs [MB] w1 W → DoP MB PB AO cv ⟨sP,sA,sm⟩ ps ⟨23,d,(ka : Int),b,c,imm⟩ at' w (.returned (.tuple #[])) W) := fun W hW hf => by
    refine ⟨rfl,ps,?_,rfl,(Fs.of_below HB.out).trans (hf.mono (fun k hk => by simp at hk ⊢; simp [hk]))⟩
    rw [nx_next (show (23 : Int) ≠ 18 by decide) (show (23 : Int) ≠ 19 by decide)]
    have e : doM ⟨23,d,(ka : Int),b,c,imm⟩ ⟨sP,sA,sm⟩ = ⟨sP,sA,gI sP (ka : Int) % 2⟩ := rfl
    rw [e]; exact hW
   generalize gI sP (ka : Int) = va at *
   have hand := and_bit va hvw.1 hvw.2
   have hka : (ka : Int) < 120 := a1
   have hka0 : (0 : Int) ≤ (ka : Int) := a0
   obtain ⟨wA,hwA⟩ : ∃ y,w1.setCell ⟨MB,3,none⟩ (.int .i64 (va % 2)) = y := ⟨_,rfl⟩
   have HMA : Hid (MaIs wA MB PB AO cv ⟨sP,sA,va % 2⟩ ps at') := by show MaIs _ _ _ _ _ _ _ _; rw [← hwA]; exact HMa.out.put (va % 2)
   have HFA : Hid (Fs [MB] w1 wA) := by show Fs _ _ _; rw [← hwA]; exact (Fs.refl [MB] w1).set (by simp) 3 _
   obtain ⟨n1,n2,n3,n4⟩ := five_at HMA.out.m
   try dsimp only at n4
   have n4f := HMA.out.m.fr 4
   have HWA := keep hwA
   have HGo : Hid (DoP MB PB AO cv ⟨sP,sA,sm⟩ ps ⟨23,d,(ka : Int),b,c,imm⟩ at' w (.returned (.tuple #[])) (wA.setCell ⟨MB,4,none⟩ (.int .i64 ((at' : Int) + 1)))) := HE.out _ (HMA.out.go (at' + 1)) (HFA.out.set (by simp) 4 _)
   clear hwA n1 n2 n3 hvw
   go_enter Try.func76,Try.ntmps76
   go_wp2_with (first | rw [HW1.out] | rw [HI.out] | rw [HWA.out] | fail)
   refine bodyPost_end (results_none rfl _ _ _) rfl ?_
   first | exact HGo.out | (rw [hwr]; exact HGo.out)
  ·have k23 : (op == 23) = false := by simpa using h23
   have hf := HFi.out
   have ho1 := hf.o1
   have ho2 := hf.o2
   dsimp only at ho1 ho2
   have hO := HO.out
   have HSt := keep (fun W (hW : Below w1.heap.size w1 W) => step_any PB AO sP ps ⟨op,d,a,b,c,imm⟩ at' W (HMa.out.mc.below hW) (by rw [HMa.out.len]; omega) (by have := HAt.out; omega) hf.o1 (by dsimp only; omega) (fun _ => ⟨hf.d0,by rw [HMa.out.len]; exact hf.d1⟩) (fun p hp => by rw [HMa.out.len]; exact hf.r p hp) (fun ho => hf.b ho) (fun _ => hf.imm0.1) HG.out.word)
   have hln : sP.length = 120 := HMa.out.len
   unfold ixA at HSt
   dsimp only at HSt
   rw [hln,HMM.out] at HSt
   have hsM : slotsM ⟨op,d,a,b,c,imm⟩ ⟨sP,sA,sm⟩ = pl ⟨op,d,a,b,c,imm⟩ sP sA := if_neg h22
   have hmM : modeM ⟨op,d,a,b,c,imm⟩ ⟨sP,sA,sm⟩ = sm := by unfold modeM; rw [if_neg h22,if_neg h23]
   have hAr : ars ps = sA := HMa.out.ar
   have HE : Hid (∀ W r W',Below w1.heap.size w1 W → StepP PB AO sP ps ⟨op,d,a,b,c,imm⟩ at' W r W' → r = .returned (.int .i64 ((nx ⟨op,d,a,b,c,imm⟩ at' sP : Nat) : Int)) ∧ Bk W' MB [cv,.slice (some ⟨PB,0,none⟩) 120 120,.slice (some ⟨AO,0,none⟩) m m,.int .i64 sm,.int .i64 (at' : Int)] 112 ∧ Fs (PB :: ps.map Prod.fst) w1 W' ∧ DoP MB PB AO cv ⟨sP,sA,sm⟩ ps ⟨op,d,a,b,c,imm⟩ at' w (.returned (.tuple #[])) (W'.setCell ⟨MB,4,none⟩ (.int .i64 ((nx ⟨op,d,a,b,c,imm⟩ at' sP : Nat) : Int)))) := fun W r W' hW hS => by
    obtain ⟨e,ps',hmc,har,hfst,hfs⟩ := hS
    have hfs1 : Fs (PB :: ps.map Prod.fst) w1 W' := (Fs.of_below hW).trans hfs
    have hnM : MB ∉ PB :: ps.map Prod.fst := by
     intro hm
     rcases List.mem_cons.1 hm with q | q
     ·exact HMa.out.nm.1 q
     ·obtain ⟨p,hp,q⟩ := List.mem_map.1 q
      exact HMa.out.nm.2.2 p hp q
    have hl : ps'.length = ps.length := by have := congrArg List.length hfst; simpa using this
    have hk := HMa.out.m.fs hfs1 hnM
    have hMa : MaIs W' MB PB AO cv (doM ⟨op,d,a,b,c,imm⟩ ⟨sP,sA,sm⟩) ps' at' := by
     refine ⟨?_,?_,?_,?_,HMa.out.nm.1,HMa.out.nm.2.1,fun p hp => ?_⟩
     ·show Bk W' MB [cv,_,_,.int .i64 (modeM ⟨op,d,a,b,c,imm⟩ ⟨sP,sA,sm⟩),_] _
      rw [hmM,hl]; exact hk
     ·show Mc W' PB AO (slotsM ⟨op,d,a,b,c,imm⟩ ⟨sP,sA,sm⟩) ps'
      rw [hsM,← hAr]; exact hmc
     ·show ars ps' = arr ⟨op,d,a,b,c,imm⟩ sP sA
      rw [har,hAr]
     ·show (slotsM ⟨op,d,a,b,c,imm⟩ ⟨sP,sA,sm⟩).length = 120
      rw [hsM]; unfold pl; split
      ·rw [List.length_set]; exact hln
      ·exact hln
     ·have : p.1 ∈ ps.map Prod.fst := by rw [← hfst]; exact List.mem_map.2 ⟨p,hp,rfl⟩
      obtain ⟨p',hp',e'⟩ := List.mem_map.1 this
      rw [← e']; exact HMa.out.nm.2.2 p' hp'
    refine ⟨e,by rw [HMM.out] at hk; exact hk,hfs1,rfl,ps',hMa.go _,hfst,(Fs.of_below HB.out).trans ?_⟩
    exact (hfs1.mono (fun k hk => List.mem_cons_of_mem _ hk)).set (by simp) 4 _
   have HSS : Hid (∀ W',Fs (PB :: ps.map Prod.fst) w1 W' → W'.cell? ⟨MB,1,none⟩ = some (.slice (some ⟨PB,0,none⟩) 120 120) ∧ W'.cell? ⟨MB,2,none⟩ = some (.slice (some ⟨AO,0,none⟩) m m) ∧ W'.cell? ⟨MB,4,none⟩ = some (.int .i64 (at' : Int)) ∧ W'.cell? ⟨IB,0,none⟩ = some (.int .i64 op) ∧ W'.cell? ⟨IB,1,none⟩ = some (.int .i64 d) ∧ W'.cell? ⟨IB,2,none⟩ = some (.int .i64 a) ∧ W'.cell? ⟨IB,3,none⟩ = some (.int .i64 b) ∧ W'.cell? ⟨IB,4,none⟩ = some (.int .i64 c) ∧ W'.cell? ⟨IB,5,none⟩ = some (.int .i64 imm)) := fun W' hW => by
    have hnM : MB ∉ PB :: ps.map Prod.fst := by
     intro hm
     rcases List.mem_cons.1 hm with q | q
     ·exact HMa.out.nm.1 q
     ·obtain ⟨p,hp,q⟩ := List.mem_map.1 q
      exact HMa.out.nm.2.2 p hp q
    have hnI : IB ∉ PB :: ps.map Prod.fst := by
     intro hm
     have hl := HLt.out
     rcases List.mem_cons.1 hm with q | q
     ·omega
     ·obtain ⟨p,hp,q⟩ := List.mem_map.1 q
      have := hl.2.2.2 p hp
      omega
    have u1 := HMa.out.m.fs hW hnM
    rw [HMM.out] at u1
    have u2 := HkI.out.fs hW hnI
    exact ⟨u1.cell 1 rfl,u1.cell 2 rfl,u1.cell 4 rfl,u2.cell 0 rfl,u2.cell 1 rfl,u2.cell 2 rfl,u2.cell 3 rfl,u2.cell 4 rfl,u2.cell 5 rfl⟩
   obtain ⟨k',hk'⟩ : ∃ y,nx ⟨op,d,a,b,c,imm⟩ at' sP = y := ⟨_,rfl⟩
   rw [hk'] at HE
   have ho20 : (op == 20) = false := by simpa using hO.1
   clear hf ho1 ho2 hO hln hsM hmM hAr hk' h22 h23 ho20
   go_enter Try.func76,Try.ntmps76
   go_wp2_with (first | rw [HW1.out] | rw [HI.out] | fail)
   refine wp_region_noPanic ?_
   refine Ord.wpM_begin (fun W' : World => W'.cell? ⟨MB,1,none⟩ = some (.slice (some ⟨PB,0,none⟩) 120 120) ∧ W'.cell? ⟨MB,2,none⟩ = some (.slice (some ⟨AO,0,none⟩) m m) ∧ W'.cell? ⟨MB,4,none⟩ = some (.int .i64 (at' : Int)) ∧ W'.cell? ⟨IB,0,none⟩ = some (.int .i64 op) ∧ W'.cell? ⟨IB,1,none⟩ = some (.int .i64 d) ∧ W'.cell? ⟨IB,2,none⟩ = some (.int .i64 a) ∧ W'.cell? ⟨IB,3,none⟩ = some (.int .i64 b) ∧ W'.cell? ⟨IB,4,none⟩ = some (.int .i64 c) ∧ W'.cell? ⟨IB,5,none⟩ = some (.int .i64 imm)) [0,1,2,3,4,5,6,7,8,9,10,11,12] (by kernel_rfl) ?_
   have HD : Hid (Below w1.heap.size w1 w1.drew) := Below.drew (Below.refl _ _)
   generalize w1.drew = wd at *
   have hS := HSS.out wd (Fs.of_below HD.out)
   refine Ord.tk (i:=0) (v:=.pointer (some ⟨MB,0,none⟩)) (hy:=Or.inl ⟨by rfl,by rintro W' ⟨q0,q1,q2,q3,q4,q5,q6,q7,q8⟩; go_simp⟩) (hS:=hS) (h:=?_)
   try simp only [Act.put,Ord.t,Ord.z,Ord.s]
   refine Ord.tk (i:=1) (v:=.pointer (some ⟨MB,0,none⟩)) (hy:=Or.inl ⟨by rfl,by rintro W' ⟨q0,q1,q2,q3,q4,q5,q6,q7,q8⟩; go_simp⟩) (hS:=hS) (h:=?_)
   try simp only [Act.put,Ord.t,Ord.z,Ord.s]
   refine Ord.tk (i:=2) (v:=.pointer (some ⟨MB,0,none⟩)) (hy:=Or.inl ⟨by rfl,by rintro W' ⟨q0,q1,q2,q3,q4,q5,q6,q7,q8⟩; go_simp⟩) (hS:=hS) (h:=?_)
   try simp only [Act.put,Ord.t,Ord.z,Ord.s]
   refine Ord.tk (i:=3) (v:=.pointer (some ⟨MB,1,none⟩)) (hy:=Or.inl ⟨by rfl,by rintro W' ⟨q0,q1,q2,q3,q4,q5,q6,q7,q8⟩; go_simp⟩) (hS:=hS) (h:=?_)
   try simp only [Act.put,Ord.t,Ord.z,Ord.s]
   refine Ord.wpM_take (i:=4) (v:=.agg #[.slice (some ⟨PB,0,none⟩) 120 120,.slice (some ⟨AO,0,none⟩) m m]) (by simp only [List.getElem?_toArray,List.getElem?_cons_zero,List.getElem?_cons_succ]; rfl) (by kernel_rfl) (by kernel_rfl) (by kernel_rfl) (by kernel_rfl) (fun _ _ _ h => h) (yieldsIf_state rfl (.tmp 15) rfl MB rfl _ _ (fun W hW => ⟨hW.1,hW.2.1⟩)) hS ?_
   try simp only [Act.put,Ord.t,Ord.z,Ord.s]
   refine Ord.tk (i:=5) (v:=.agg #[.int .i64 op,.int .i64 d,.int .i64 a,.int .i64 b,.int .i64 c,.int .i64 imm]) (hy:=Or.inl ⟨by rfl,by rintro W' ⟨q0,q1,q2,q3,q4,q5,q6,q7,q8⟩; go_simp⟩) (hS:=hS) (h:=?_)
   try simp only [Act.put,Ord.t,Ord.z,Ord.s]
   refine Ord.tk (i:=6) (v:=.pointer (some ⟨MB,0,none⟩)) (hy:=Or.inl ⟨by rfl,by rintro W' ⟨q0,q1,q2,q3,q4,q5,q6,q7,q8⟩; go_simp⟩) (hS:=hS) (h:=?_)
   try simp only [Act.put,Ord.t,Ord.z,Ord.s]
   refine Ord.tk (i:=7) (v:=.pointer (some ⟨MB,0,none⟩)) (hy:=Or.inl ⟨by rfl,by rintro W' ⟨q0,q1,q2,q3,q4,q5,q6,q7,q8⟩; go_simp⟩) (hS:=hS) (h:=?_)
   try simp only [Act.put,Ord.t,Ord.z,Ord.s]
   refine Ord.tk (i:=8) (v:=.pointer (some ⟨MB,4,none⟩)) (hy:=Or.inl ⟨by rfl,by rintro W' ⟨q0,q1,q2,q3,q4,q5,q6,q7,q8⟩; go_simp⟩) (hS:=hS) (h:=?_)
   try simp only [Act.put,Ord.t,Ord.z,Ord.s]
   refine Ord.tk (i:=9) (v:=.int .i64 (at' : Int)) (hy:=Or.inl ⟨by rfl,by rintro W' ⟨q0,q1,q2,q3,q4,q5,q6,q7,q8⟩; go_simp⟩) (hS:=hS) (h:=?_)
   try simp only [Act.put,Ord.t,Ord.z,Ord.s]
   refine Ord.on (i:=10) (h:=fun K hK => ?_)
   go_simp
   refine (HSt.out wd HD.out).mono ?_
   rintro r we hst
   obtain ⟨rfl,hkM,hfs,hgo⟩ := HE.out wd _ we HD.out hst
   have HGo := keep hgo
   have HKM := keep hkM
   have HFS := keep hfs
   clear hst hkM hfs hgo HSt HE
   go_simp
   refine hK.out _ _ (fun _ => HSS.out we HFS.out) ?_
   clear hK K
   try simp only [Act.put,Ord.t,Ord.z,Ord.s]
   have hS := HSS.out we HFS.out
   have o4 := HKM.out.cell 4 rfl
   have o4f := HKM.out.fr 4
   refine Ord.on (i:=11) (h:=fun K hK => ?_)
   go_simp
   refine hK.out _ _ (fun _ => hS) ?_
   clear hK K
   try simp only [Act.put,Ord.t,Ord.z,Ord.s]
   refine Ord.on (i:=12) (h:=fun K hK => ?_)
   go_simp
   refine hK.out _ _ (fun _ => hS) ?_
   clear hK K
   try simp only [Act.put,Ord.t,Ord.z,Ord.s]
   refine Ord.on (i:=13) (h:=fun K hK => ?_)
   go_simp
   refine hK.out _ _ (fun h => absurd h (by decide)) ?_
   clear hK K
   try simp only [Act.put,Ord.t,Ord.z,Ord.s]
   refine Ord.wpM_done (by kernel_rfl) ?_ _
   refine NoPanic.normal ?_
   generalize we.setCell ⟨MB,4,none⟩ (.int .i64 (k' : Int)) = wf at *
   clear hS HSS o4 o4f m1 m2 m3 m4 y0 y1 y2 y3 y4 y5
   go_wp2
   refine bodyPost_end (results_none rfl _ _ _) rfl ?_
   exact HGo.out
end Go.Proofs.Ytpnacanbknejiaa.Mh
