/- How the program's machine has ended: ended. Written by tools/gen_mhend.py. -/
import Derived.Test.YtpnacanbknejiaaMhRun
namespace Go.Proofs.Ytpnacanbknejiaa.Mh
set_option maxHeartbeats 32000000
set_option maxRecDepth 100000
set_option linter.unusedVariables false
set_option linter.unusedSimpArgs false
open Go.ChangeShapes Go.WideShapes Go.ChangeAt Go.RowKit Lg Lr Fl
def EndP (i : Ix) (s : Ms) (AO m : Nat) (w : World) (r : Ending) (w' : World) : Prop := r = .returned (.agg #[.int .i64 (endM i s).word,.bool (endM i s).trap,.slice (some ⟨AO,0,none⟩) m m]) ∧ Below w.heap.size w w'
theorem mended_any (code : List Ix) (MB PB AO : Nat) (cv : Value) (s : Ms) (ps : List (Nat × List Int)) (at' : Nat) (i : Ix) (w : World) (h : MaIs w MB PB AO cv s ps at') (hC : CodeIs w w.heap.size code cv) (hi : code[at']? = some i) (ho : i.op = 20 ∨ i.op = 21) (hf : FitI 120 ps.length i) (hat : at' ≤ 1000000) (hcl : code.length ≤ 1000000) :
  Calls Try.prog 61 #[.pointer (some ⟨MB,0,none⟩)] w fun r w' => EndP i s AO ps.length w r w' := by
 obtain ⟨p,nc,cc,rfl,hcn,hcc,hcb,hcq⟩ := hC
 obtain ⟨g,o,rfl,hg,hat6⟩ := hcq at' i hi
 have hlt : at' < nc := by rw [← hcn]; exact (List.getElem?_eq_some_iff.1 hi).1
 obtain ⟨op,d,a,b,c,imm⟩ := i
 obtain ⟨w1,hw1⟩ : ∃ y,w.alloc (.cells #[.int .i64 0,.bool false,.slice none 0 0] 51) = y := ⟨_,rfl⟩
 obtain ⟨E,hE⟩ : ∃ y,w.heap.size = y := ⟨_,rfl⟩
 have b1 : Below w.heap.size w w1 := by rw [← hw1]; exact (Below.refl _ _).alloc (Nat.le_refl _) _
 have kE : Bk w1 E [.int .i64 0,.bool false,.slice none 0 0] 51 := by rw [← hw1,← hE]; exact Bk.new _ _ _
 have HMa := keep (h.below b1)
 have HkE := keep kE
 have HB1 := keep b1
 have HW1 := keep hw1
 have HE := keep hE
 have HEw : Hid (w.heap.size ≤ E) := by show _ ≤ _; omega
 have HAt := keep (hat6.below b1 hg)
 have HGl : Hid (g < w1.heap.size) := by have := b1.size; show _ < _; omega
 have HFi := keep hf
 obtain ⟨sP,sA,sm⟩ := s
 obtain ⟨m,hm⟩ : ∃ y,ps.length = y := ⟨_,rfl⟩
 have HMM := keep hm
 have a1 : (0 : Int) ≤ (at' : Int) := by omega
 have a2 : (at' : Int) < (nc : Int) := by omega
 have HNc : Hid (nc ≤ 1000000) := by show _ ≤ _; omega
 have HS1 : Hid (∀ W',Below w1.heap.size w1 W' → W'.cell? ⟨MB,0,none⟩ = some (.slice (some ⟨g,o,none⟩) nc cc) ∧ W'.cell? ⟨MB,4,none⟩ = some (.int .i64 (at' : Int)) ∧ W'.cell? ⟨g,o + at' * 6,none⟩ = some (.int .i64 op) ∧ W'.cell? ⟨g,o + at' * 6 + 1,none⟩ = some (.int .i64 d) ∧ W'.cell? ⟨g,o + at' * 6 + 2,none⟩ = some (.int .i64 a) ∧ W'.cell? ⟨g,o + at' * 6 + 3,none⟩ = some (.int .i64 b) ∧ W'.cell? ⟨g,o + at' * 6 + 4,none⟩ = some (.int .i64 c) ∧ W'.cell? ⟨g,o + at' * 6 + 5,none⟩ = some (.int .i64 imm)) := fun W' hW => by
  have u1 := (HMa.out.below hW).m
  have u2 := HAt.out.below hW HGl.out
  exact ⟨u1.cell 0 rfl,u1.cell 4 rfl,u2.c0,u2.c1,u2.c2,u2.c3,u2.c4,u2.c5⟩
 dsimp only at ho
 rw [hm]
 have hat2 : (at' : Int) ≤ 1000000 := by omega
 clear hw1 hE b1 kE h hcn hcc hcb hcq hg hat6 hlt hf hm hi hat hcl
 go_enter Try.func61,Try.ntmps61
 go_wp2_with (first | rw [HW1.out] | rw [HE.out] | fail)
 refine wp_region_noPanic ?_
 refine Ord.wpM_begin (fun W' : World => W'.cell? ⟨MB,0,none⟩ = some (.slice (some ⟨g,o,none⟩) nc cc) ∧ W'.cell? ⟨MB,4,none⟩ = some (.int .i64 (at' : Int)) ∧ W'.cell? ⟨g,o + at' * 6,none⟩ = some (.int .i64 op) ∧ W'.cell? ⟨g,o + at' * 6 + 1,none⟩ = some (.int .i64 d) ∧ W'.cell? ⟨g,o + at' * 6 + 2,none⟩ = some (.int .i64 a) ∧ W'.cell? ⟨g,o + at' * 6 + 3,none⟩ = some (.int .i64 b) ∧ W'.cell? ⟨g,o + at' * 6 + 4,none⟩ = some (.int .i64 c) ∧ W'.cell? ⟨g,o + at' * 6 + 5,none⟩ = some (.int .i64 imm)) [0,1,2,3,4,5,6,7,8,9,10] (by kernel_rfl) ?_
 have HD2 : Hid (Below w1.heap.size w1 w1.drew) := Below.drew (Below.refl _ _)
 generalize w1.drew = wd2 at *
 have hS := HS1.out wd2 HD2.out
 refine Ord.tk (i:=0) (v:=.pointer (some ⟨MB,0,none⟩)) (hy:=Or.inl ⟨by rfl,by rintro W' ⟨q0,q1,q2,q3,q4,q5,q6,q7⟩; go_simp⟩) (hS:=hS) (h:=?_)
 try simp only [Act.put,Ord.t,Ord.z,Ord.s]
 refine Ord.tk (i:=1) (v:=.pointer (some ⟨MB,0,none⟩)) (hy:=Or.inl ⟨by rfl,by rintro W' ⟨q0,q1,q2,q3,q4,q5,q6,q7⟩; go_simp⟩) (hS:=hS) (h:=?_)
 try simp only [Act.put,Ord.t,Ord.z,Ord.s]
 refine Ord.tk (i:=2) (v:=.pointer (some ⟨MB,0,none⟩)) (hy:=Or.inl ⟨by rfl,by rintro W' ⟨q0,q1,q2,q3,q4,q5,q6,q7⟩; go_simp⟩) (hS:=hS) (h:=?_)
 try simp only [Act.put,Ord.t,Ord.z,Ord.s]
 refine Ord.tk (i:=3) (v:=.slice (some ⟨g,o,none⟩) nc cc) (hy:=Or.inl ⟨by rfl,by rintro W' ⟨q0,q1,q2,q3,q4,q5,q6,q7⟩; go_simp⟩) (hS:=hS) (h:=?_)
 try simp only [Act.put,Ord.t,Ord.z,Ord.s]
 refine Ord.tk (i:=4) (v:=.pointer (some ⟨MB,0,none⟩)) (hy:=Or.inl ⟨by rfl,by rintro W' ⟨q0,q1,q2,q3,q4,q5,q6,q7⟩; go_simp⟩) (hS:=hS) (h:=?_)
 try simp only [Act.put,Ord.t,Ord.z,Ord.s]
 refine Ord.tk (i:=5) (v:=.pointer (some ⟨MB,0,none⟩)) (hy:=Or.inl ⟨by rfl,by rintro W' ⟨q0,q1,q2,q3,q4,q5,q6,q7⟩; go_simp⟩) (hS:=hS) (h:=?_)
 try simp only [Act.put,Ord.t,Ord.z,Ord.s]
 refine Ord.tk (i:=6) (v:=.pointer (some ⟨MB,4,none⟩)) (hy:=Or.inl ⟨by rfl,by rintro W' ⟨q0,q1,q2,q3,q4,q5,q6,q7⟩; go_simp⟩) (hS:=hS) (h:=?_)
 try simp only [Act.put,Ord.t,Ord.z,Ord.s]
 refine Ord.tk (i:=7) (v:=.int .i64 (at' : Int)) (hy:=Or.inl ⟨by rfl,by rintro W' ⟨q0,q1,q2,q3,q4,q5,q6,q7⟩; go_simp⟩) (hS:=hS) (h:=?_)
 try simp only [Act.put,Ord.t,Ord.z,Ord.s]
 refine Ord.tk (i:=8) (v:=.pointer (some ⟨g,o + at' * 6,none⟩)) (hy:=Or.inl ⟨by rfl,by rintro W' ⟨q0,q1,q2,q3,q4,q5,q6,q7⟩; go_simp⟩) (hS:=hS) (h:=?_)
 try simp only [Act.put,Ord.t,Ord.z,Ord.s]
 refine Ord.tk (i:=9) (v:=.agg #[.int .i64 op,.int .i64 d,.int .i64 a,.int .i64 b,.int .i64 c,.int .i64 imm]) (hy:=Or.inl ⟨by rfl,by rintro W' ⟨q0,q1,q2,q3,q4,q5,q6,q7⟩; go_simp⟩) (hS:=hS) (h:=?_)
 try simp only [Act.put,Ord.t,Ord.z,Ord.s]
 refine Ord.on (i:=10) (h:=fun K hK => ?_)
 go_simp
 obtain ⟨w3,hw3⟩ : ∃ y,wd2.alloc (.cells #[.int .i64 0,.int .i64 0,.int .i64 0,.int .i64 0,.int .i64 0,.int .i64 0] 35) = y := ⟨_,rfl⟩
 obtain ⟨IB,hIB⟩ : ∃ y,wd2.heap.size = y := ⟨_,rfl⟩
 have b3 : Below wd2.heap.size wd2 w3 := by rw [← hw3]; exact (Below.refl _ _).alloc (Nat.le_refl _) _
 have k3 : Bk w3 IB [.int .i64 0,.int .i64 0,.int .i64 0,.int .i64 0,.int .i64 0,.int .i64 0] 35 := by rw [← hw3,← hIB]; exact Bk.new _ _ _
 have HK3 := keep k3
 have HB3 := keep (HD2.out.trans (b3.mono HD2.out.size))
 have HIl : Hid (wd2.heap.size = IB) := hIB
 rw [hw3,hIB]
 clear hw3 hIB b3 k3
 refine hK.out _ _ (fun _ => HS1.out w3 HB3.out) ?_
 clear hK K
 try simp only [Act.put,Ord.t,Ord.z,Ord.s]
 obtain ⟨k4,k5⟩ := set_six HK3.out ⟨op,d,a,b,c,imm⟩
 have HK4 := keep k4
 have HF4 := keep k5
 clear k4 k5
 refine Ord.on (i:=11) (h:=fun K hK => ?_)
 refine step_store_mid rfl 35 (.tmp 3) (.tmp 13) rfl IB 0 #[.int .i64 op,.int .i64 d,.int .i64 a,.int .i64 b,.int .i64 c,.int .i64 imm] rfl rfl (six_there HK3.out) (by kernel_rfl) (by simp [Value.oneCell']) ?_
 refine hK.out _ _ (fun h => absurd h (by decide)) ?_
 clear hK K
 try simp only [Act.put,Ord.t,Ord.z,Ord.s]
 refine Ord.wpM_done (by kernel_rfl) ?_ _
 refine NoPanic.normal ?_
 obtain ⟨w5,hw5⟩ : ∃ y,w3.setCells IB 0 [.int .i64 op,.int .i64 d,.int .i64 a,.int .i64 b,.int .i64 c,.int .i64 imm] = y := ⟨_,rfl⟩
 have HK5 : Hid (Bk w5 IB [.int .i64 op,.int .i64 d,.int .i64 a,.int .i64 b,.int .i64 c,.int .i64 imm] 35) := by show Bk _ _ _ _; rw [← hw5]; exact HK4.out
 have HB5 : Hid (Below w1.heap.size w1 w5) := by
  have h1 := HB3.out
  have h2 : Fs [IB] w3 w5 := by rw [← hw5]; exact HF4.out
  exact h1.trans (h2.below h1.size (fun k hk => by simp at hk; have := HIl.out; have := HD2.out.size; omega))
 rw [hw5]
 clear hw5 hS HS1
 by_cases h21 : op = 21
 ·subst h21
  have HG : Hid (∀ W,Fs [E] w5 W → EndP ⟨21,d,a,b,c,imm⟩ ⟨sP,sA,sm⟩ AO m w (.returned (.agg #[.int .i64 0,.bool true,.slice (some ⟨AO,0,none⟩) m m])) W) := fun W hW => ⟨rfl,by
   have h1 := HB1.out.trans (HB5.out.mono HB1.out.size)
   exact h1.trans (hW.below h1.size (fun k hk => by simp at hk; have := HEw.out; omega))⟩
  have hkE := HkE.out.fs (Fs.of_below (l:=[]) HB5.out) (by simp)
  have m2 := (five_at (HMa.out.below HB5.out).m).2.1
  rw [HMM.out] at m2
  have e0 := hkE.cell 0 rfl
  have e1 := hkE.cell 1 rfl
  have e2 := hkE.cell 2 rfl
  have r0 := hkE.fr 0
  have r1 := hkE.fr 1
  have r2 := hkE.fr 2
  have z0 := HK5.out.cell 0 rfl
  obtain ⟨k1,k2⟩ := set_three hkE (.int .i64 0) (.bool true) (.slice (some ⟨AO,0,none⟩) m m)
  have HK1 := keep k1
  have HK2 := keep k2
  clear hkE k1 k2 ho
  go_wp2_with fail
  refine bodyPost_ret (results_cell_row rfl _ _ E _ #[.int .i64 0,.bool true,.slice (some ⟨AO,0,none⟩) m m] (0,0) _ rfl HK1.out Try.underlying51 rfl (by kernel_rfl)) rfl ?_
  exact HG.out _ HK2.out
 ·have h20 : op = 20 := by omega
  subst h20
  obtain ⟨ha0,ha1⟩ := HFi.out.r a (by rw [rds_one (.inr (.inr (.inr rfl)))]; simp)
  obtain ⟨ka,rfl⟩ : ∃ k : Nat,a = (k : Int) := ⟨a.toNat,by omega⟩
  have z1 := (HMa.out.mc.place (k:=ka) (by rw [HMa.out.len]; omega))
  dsimp only at z1
  have HG : Hid (∀ W,Fs [E] w5 W → EndP ⟨20,d,(ka : Int),b,c,imm⟩ ⟨sP,sA,sm⟩ AO m w (.returned (.agg #[.int .i64 (gI sP (ka : Int)),.bool false,.slice (some ⟨AO,0,none⟩) m m])) W) := fun W hW => ⟨rfl,by
   have h1 := HB1.out.trans (HB5.out.mono HB1.out.size)
   exact h1.trans (hW.below h1.size (fun k hk => by simp at hk; have := HEw.out; omega))⟩
  have HPl : Hid (PB < w1.heap.size) := HMa.out.mc.pl.lt
  generalize gI sP (ka : Int) = va at *
  have z1' := keep z1
  have HS2 : Hid (∀ W',Below w5.heap.size w5 W' → W'.cell? ⟨MB,1,none⟩ = some (.slice (some ⟨PB,0,none⟩) 120 120) ∧ W'.cell? ⟨MB,2,none⟩ = some (.slice (some ⟨AO,0,none⟩) m m) ∧ W'.cell? ⟨IB,0,none⟩ = some (.int .i64 20) ∧ W'.cell? ⟨IB,2,none⟩ = some (.int .i64 (ka : Int)) ∧ W'.cell? ⟨PB,ka,none⟩ = some (.int .i64 va)) := fun W' hW => by
   have hb := HB5.out.trans (hW.mono HB5.out.size)
   have u1 := (HMa.out.below hb).m
   rw [HMM.out] at u1
   have u2 := HK5.out.fs (Fs.of_below (l:=[]) hW) (by simp)
   exact ⟨u1.cell 1 rfl,u1.cell 2 rfl,u2.cell 0 rfl,u2.cell 2 rfl,by rw [cell_below hb HPl.out]; exact z1'.out⟩
  have z0 := HK5.out.cell 0 rfl
  have z2 := HK5.out.cell 2 rfl
  clear ho z1 h21
  go_wp2_with fail
  refine wp_region_noPanic ?_
  refine Ord.wpM_begin (fun W' : World => W'.cell? ⟨MB,1,none⟩ = some (.slice (some ⟨PB,0,none⟩) 120 120) ∧ W'.cell? ⟨MB,2,none⟩ = some (.slice (some ⟨AO,0,none⟩) m m) ∧ W'.cell? ⟨IB,0,none⟩ = some (.int .i64 20) ∧ W'.cell? ⟨IB,2,none⟩ = some (.int .i64 (ka : Int)) ∧ W'.cell? ⟨PB,ka,none⟩ = some (.int .i64 va)) [0,1,2,3,4,5,6,7,8,9,10,11,12,13,14] (by kernel_rfl) ?_
  have HD : Hid (Below w5.heap.size w5 w5.drew) := Below.drew (Below.refl _ _)
  generalize w5.drew = wd at *
  have hS := HS2.out wd HD.out
  have hka0 : (0 : Int) ≤ (ka : Int) := ha0
  have hka1 : (ka : Int) < 120 := ha1
  refine Ord.tk (i:=0) (v:=.pointer (some ⟨MB,0,none⟩)) (hy:=Or.inl ⟨by rfl,by rintro W' ⟨q0,q1,q2,q3,q4⟩; go_simp⟩) (hS:=hS) (h:=?_)
  try simp only [Act.put,Ord.t,Ord.z,Ord.s]
  refine Ord.tk (i:=1) (v:=.pointer (some ⟨MB,0,none⟩)) (hy:=Or.inl ⟨by rfl,by rintro W' ⟨q0,q1,q2,q3,q4⟩; go_simp⟩) (hS:=hS) (h:=?_)
  try simp only [Act.put,Ord.t,Ord.z,Ord.s]
  refine Ord.tk (i:=2) (v:=.pointer (some ⟨MB,1,none⟩)) (hy:=Or.inl ⟨by rfl,by rintro W' ⟨q0,q1,q2,q3,q4⟩; go_simp⟩) (hS:=hS) (h:=?_)
  try simp only [Act.put,Ord.t,Ord.z,Ord.s]
  refine Ord.tk (i:=3) (v:=.pointer (some ⟨MB,1,none⟩)) (hy:=Or.inl ⟨by rfl,by rintro W' ⟨q0,q1,q2,q3,q4⟩; go_simp⟩) (hS:=hS) (h:=?_)
  try simp only [Act.put,Ord.t,Ord.z,Ord.s]
  refine Ord.tk (i:=4) (v:=.slice (some ⟨PB,0,none⟩) 120 120) (hy:=Or.inl ⟨by rfl,by rintro W' ⟨q0,q1,q2,q3,q4⟩; go_simp⟩) (hS:=hS) (h:=?_)
  try simp only [Act.put,Ord.t,Ord.z,Ord.s]
  refine Ord.tk (i:=5) (v:=.pointer (some ⟨IB,2,none⟩)) (hy:=Or.inl ⟨by rfl,by rintro W' ⟨q0,q1,q2,q3,q4⟩; go_simp⟩) (hS:=hS) (h:=?_)
  try simp only [Act.put,Ord.t,Ord.z,Ord.s]
  refine Ord.tk (i:=6) (v:=.int .i64 (ka : Int)) (hy:=Or.inl ⟨by rfl,by rintro W' ⟨q0,q1,q2,q3,q4⟩; go_simp⟩) (hS:=hS) (h:=?_)
  try simp only [Act.put,Ord.t,Ord.z,Ord.s]
  refine Ord.tk (i:=7) (v:=.pointer (some ⟨PB,ka,none⟩)) (hy:=Or.inl ⟨by rfl,by rintro W' ⟨q0,q1,q2,q3,q4⟩; go_simp⟩) (hS:=hS) (h:=?_)
  try simp only [Act.put,Ord.t,Ord.z,Ord.s]
  refine Ord.tk (i:=8) (v:=.int .i64 va) (hy:=Or.inl ⟨by rfl,by rintro W' ⟨q0,q1,q2,q3,q4⟩; go_simp⟩) (hS:=hS) (h:=?_)
  try simp only [Act.put,Ord.t,Ord.z,Ord.s]
  refine Ord.tk (i:=9) (v:=.pointer (some ⟨MB,0,none⟩)) (hy:=Or.inl ⟨by rfl,by rintro W' ⟨q0,q1,q2,q3,q4⟩; go_simp⟩) (hS:=hS) (h:=?_)
  try simp only [Act.put,Ord.t,Ord.z,Ord.s]
  refine Ord.tk (i:=10) (v:=.pointer (some ⟨MB,0,none⟩)) (hy:=Or.inl ⟨by rfl,by rintro W' ⟨q0,q1,q2,q3,q4⟩; go_simp⟩) (hS:=hS) (h:=?_)
  try simp only [Act.put,Ord.t,Ord.z,Ord.s]
  refine Ord.tk (i:=11) (v:=.pointer (some ⟨MB,1,none⟩)) (hy:=Or.inl ⟨by rfl,by rintro W' ⟨q0,q1,q2,q3,q4⟩; go_simp⟩) (hS:=hS) (h:=?_)
  try simp only [Act.put,Ord.t,Ord.z,Ord.s]
  refine Ord.tk (i:=12) (v:=.pointer (some ⟨MB,2,none⟩)) (hy:=Or.inl ⟨by rfl,by rintro W' ⟨q0,q1,q2,q3,q4⟩; go_simp⟩) (hS:=hS) (h:=?_)
  try simp only [Act.put,Ord.t,Ord.z,Ord.s]
  refine Ord.tk (i:=13) (v:=.slice (some ⟨AO,0,none⟩) m m) (hy:=Or.inl ⟨by rfl,by rintro W' ⟨q0,q1,q2,q3,q4⟩; go_simp⟩) (hS:=hS) (h:=?_)
  try simp only [Act.put,Ord.t,Ord.z,Ord.s]
  refine Ord.tk (i:=14) (v:=.agg #[.int .i64 va,.bool false,.slice (some ⟨AO,0,none⟩) m m]) (hy:=Or.inl ⟨by rfl,by rintro W' ⟨q0,q1,q2,q3,q4⟩; go_simp⟩) (hS:=hS) (h:=?_)
  try simp only [Act.put,Ord.t,Ord.z,Ord.s]
  have hkE := HkE.out.fs (Fs.of_below (l:=[]) (HB5.out.trans (HD.out.mono HB5.out.size))) (by simp)
  obtain ⟨k1,k2⟩ := set_three hkE (.int .i64 va) (.bool false) (.slice (some ⟨AO,0,none⟩) m m)
  have HK1 := keep k1
  have HK2 := keep ((Fs.of_below HD.out).trans k2)
  have HkE2 := keep hkE
  clear k1 k2 hkE
  refine Ord.on (i:=15) (h:=fun K hK => ?_)
  refine step_store_mid rfl 51 (.tmp 2) (.tmp 37) rfl E 0 #[.int .i64 va,.bool false,.slice (some ⟨AO,0,none⟩) m m] rfl rfl (three_there HkE2.out) (by kernel_rfl) (by simp [Value.oneCell']) ?_
  refine hK.out _ _ (fun h => absurd h (by decide)) ?_
  clear hK K
  try simp only [Act.put,Ord.t,Ord.z,Ord.s]
  refine Ord.wpM_done (by kernel_rfl) ?_ _
  refine NoPanic.normal ?_
  clear hS HS2
  go_wp2
  refine bodyPost_ret (results_cell_row rfl _ _ E _ #[.int .i64 va,.bool false,.slice (some ⟨AO,0,none⟩) m m] (0,0) _ rfl HK1.out Try.underlying51 rfl (by kernel_rfl)) rfl ?_
  exact HG.out _ HK2.out
end Go.Proofs.Ytpnacanbknejiaa.Mh
