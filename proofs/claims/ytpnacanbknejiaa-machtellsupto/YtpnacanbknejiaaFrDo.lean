/- The document's machine does an instruction: its Do. Written by tools/gen_frdo.py. -/
import Derived.Test.YtpnacanbknejiaaFrMach
import Derived.Test.YtpnacanbknejiaaRfMap
import Derived.Deep.QuietTactic
import Derived.BigQuiet
namespace Go.Proofs.Ytpnacanbknejiaa.Fl
set_option maxHeartbeats 32000000
set_option maxRecDepth 100000
set_option linter.unusedVariables false
set_option linter.unusedSimpArgs false
open Go.ChangeShapes Go.WideShapes Go.ChangeAt Go.RowKit Lg Lr
theorem rdo_any {md : Int} (MB PB AO : Nat) (av : Value) (P : List Int) (ps : List (Nat × List Int)) (i : Ix) (at' : Nat) (w : World) (h : RM md w MB PB AO av P ps) (hL : P.length ≤ 17592186044416) (hat : at' ≤ 4294967296) (ho1 : 1 ≤ i.op) (ho2 : i.op ≤ 21) (hmd : mks i = true → 0 ≤ i.d ∧ i.d < P.length) (hr : ∀ p ∈ rds i,0 ≤ p ∧ p < P.length) (hb : i.op = 16 ∨ i.op = 17 → 0 ≤ i.b ∧ i.b < ps.length) (hj : i.op = 18 ∨ i.op = 19 → 0 ≤ i.imm) (hw : ∀ x ∈ P,isW x) :
  Calls Try.prog 48 #[.pointer (some ⟨MB,0,none⟩),.agg (ixA i),.int .i64 (at' : Int)] w fun r w' => RDo md MB PB AO av P ps i at' w r w' := by
 obtain ⟨op,d,a,b,c,imm⟩ := i
 have HGW := keep (fun k => gI_word hw k)
 have HM := keep h
 obtain ⟨n,hn⟩ : ∃ n,P.length = n := ⟨_,rfl⟩
 obtain ⟨m,hmm⟩ : ∃ m,ps.length = m := ⟨_,rfl⟩
 have HPl : Hid (∀ (W : World) (k : Nat),Below w.heap.size w W → k < n → W.cell? ⟨PB,k,none⟩ = some (.int .i64 (gI P (k : Int)))) := fun W k hW hk => by
  have := h.place (k:=k) (by omega)
  rw [cell_below hW (lt_of_cell this)]; exact this
 dsimp only at hb ho1 ho2 hmd hj
 rw [hn] at hL hr hmd
 rw [hmm] at hb
 have HNN := keep hn
 have HMM := keep hmm
 obtain ⟨w1,hw1⟩ : ∃ y,w.alloc (.cells #[.int .i64 op,.int .i64 d,.int .i64 a,.int .i64 b,.int .i64 c,.int .i64 imm] 35) = y := ⟨_,rfl⟩
 obtain ⟨I,hI⟩ : ∃ y,w.heap.size = y := ⟨_,rfl⟩
 have b1 : Below w.heap.size w w1 := by rw [← hw1]; exact (Below.refl _ _).alloc (Nat.le_refl _) _
 have kI : Bk w1 I [.int .i64 op,.int .i64 d,.int .i64 a,.int .i64 b,.int .i64 c,.int .i64 imm] 35 := by rw [← hw1,← hI]; exact Bk.new _ _ _
 have kM := h.m.fs (Fs.of_below (l:=[]) b1) (by simp)
 rw [hn] at kM
 have HkI := keep kI
 have HkM := keep kM
 have HBI : Hid (∀ W,Below w1.heap.size w1 W → Bk W I [.int .i64 op,.int .i64 d,.int .i64 a,.int .i64 b,.int .i64 c,.int .i64 imm] 35 ∧ Bk W MB [.slice (some ⟨PB,0,none⟩) n n,av,.int .i64 md] 97) := fun W hW => ⟨kI.fs (Fs.of_below (l:=[]) hW) (by simp),kM.fs (Fs.of_below (l:=[]) hW) (by simp)⟩
 have y0 := kI.cell 0 rfl
 have y1 := kI.cell 1 rfl
 have y2 := kI.cell 2 rfl
 have y3 := kI.cell 3 rfl
 have y4 := kI.cell 4 rfl
 have y5 := kI.cell 5 rfl
 have m0 := kM.cell 0 rfl
 have m1 := kM.cell 1 rfl
 have HW1 := keep hw1
 have HI := keep hI
 have HB := keep b1
 have HRd := keep hr
 have HPf : Hid (∀ W k,Below w.heap.size w W → W.frozen? ⟨PB,k,none⟩ = false) := fun W k hW => (h.below hW).pl.fr k
 unfold ixA
 dsimp only
 have HBw : Hid (∀ W,Below w1.heap.size w1 W → Below w.heap.size w W) := fun W hW => b1.trans (hW.mono b1.size)
 have hwr : IntKind.i64.wrap ((at' : Int) + 1) = (at' : Int) + 1 := by rw [IntKind.wrap_i64]; omega
 clear hw1 hI b1 kI kM h hw hr hat
 by_cases hle : op ≤ 12
 ·have dle : decide (op ≤ 12) = true := decide_eq_true hle
  have h12 : 1 ≤ op ∧ op ≤ 12 := ⟨ho1,hle⟩
  obtain ⟨a0,a1⟩ := HRd.out a (by rw [rds_two h12]; simp)
  obtain ⟨e0,e1⟩ := HRd.out b (by rw [rds_two h12]; simp)
  obtain ⟨d0,d1⟩ := hmd (by unfold mks; dsimp only; rw [decide_eq_true h12.1,decide_eq_true (show op ≤ 16 by omega)]; rfl)
  obtain ⟨ka,rfl⟩ : ∃ k : Nat,a = (k : Int) := ⟨a.toNat,by omega⟩
  obtain ⟨kb,rfl⟩ : ∃ k : Nat,b = (k : Int) := ⟨b.toNat,by omega⟩
  obtain ⟨kd,rfl⟩ : ∃ k : Nat,d = (k : Int) := ⟨d.toNat,by omega⟩
  have HE : Hid (∀ W,Below w1.heap.size w1 W → RDo md MB PB AO av P ps ⟨op,(kd : Int),(ka : Int),(kb : Int),c,imm⟩ at' w (.returned (.int .i64 ((at' : Int) + 1))) (W.setCell ⟨PB,kd,none⟩ (.int .i64 (Wd.two op (gI P (ka : Int)) (gI P (kb : Int)))))) := fun W hW => .makes rfl ho1 (by show op ≤ 16; omega) (by unfold made; dsimp only; rw [if_neg (by omega),if_neg (by omega),if_neg (by omega),if_neg (by omega)]) rfl HM.out (HBw.out W hW)
  have HC := keep (fun W => Rf.two_yes op (gI P (ka : Int)) (gI P (kb : Int)) h12.1 h12.2 W)
  have HPa : Hid (∀ W,Below w1.heap.size w1 W → W.cell? ⟨PB,ka,none⟩ = some (.int .i64 (gI P (ka : Int))) ∧ W.cell? ⟨PB,kb,none⟩ = some (.int .i64 (gI P (kb : Int)))) := fun W hW => ⟨HPl.out W ka (HBw.out W hW) (by omega),HPl.out W kb (HBw.out W hW) (by omega)⟩
  have HPd : Hid (∀ W,Below w1.heap.size w1 W → W.cell? ⟨PB,kd,none⟩ = some (.int .i64 (gI P (kd : Int))) ∧ W.frozen? ⟨PB,kd,none⟩ = false) := fun W hW => ⟨HPl.out W kd (HBw.out W hW) (by omega),HPf.out W kd (HBw.out W hW)⟩
  generalize gI P (ka : Int) = va at *
  generalize gI P (kb : Int) = vb at *
  generalize gI P (kd : Int) = vd at *
  obtain ⟨vt,hvt⟩ : ∃ y,Wd.two op va vb = y := ⟨_,rfl⟩
  rw [hvt] at HE HC
  clear hvt
  have HSS : Hid (∀ W',Below w1.heap.size w1 W' → W'.cell? ⟨MB,0,none⟩ = some (.slice (some ⟨PB,0,none⟩) n n) ∧ W'.cell? ⟨I,0,none⟩ = some (.int .i64 op) ∧ W'.cell? ⟨I,2,none⟩ = some (.int .i64 (ka : Int)) ∧ W'.cell? ⟨I,3,none⟩ = some (.int .i64 (kb : Int)) ∧ W'.cell? ⟨PB,ka,none⟩ = some (.int .i64 va) ∧ W'.cell? ⟨PB,kb,none⟩ = some (.int .i64 vb)) := fun W' hW => ⟨(HBI.out W' hW).2.cell 0 rfl,(HBI.out W' hW).1.cell 0 rfl,(HBI.out W' hW).1.cell 2 rfl,(HBI.out W' hW).1.cell 3 rfl,(HPa.out W' hW).1,(HPa.out W' hW).2⟩
  clear HPa h12 hmd hb hj ho1 ho2 hle
  go_enter Try.func48,Try.ntmps48
  go_wp2_with (first | rw [HW1.out] | rw [HI.out] | fail)
  refine wp_region_noPanic ?_
  refine Ord.wpM_begin (fun W' : World => W'.cell? ⟨MB,0,none⟩ = some (.slice (some ⟨PB,0,none⟩) n n) ∧ W'.cell? ⟨I,0,none⟩ = some (.int .i64 op) ∧ W'.cell? ⟨I,2,none⟩ = some (.int .i64 (ka : Int)) ∧ W'.cell? ⟨I,3,none⟩ = some (.int .i64 (kb : Int)) ∧ W'.cell? ⟨PB,ka,none⟩ = some (.int .i64 va) ∧ W'.cell? ⟨PB,kb,none⟩ = some (.int .i64 vb)) [0,1,2,3,4,5,6,7,8,9,10,11,12,13,14,15,16,17,18,19,20,21,22,23] (by kernel_rfl) ?_
  have HD : Hid (Below w1.heap.size w1 w1.drew) := Below.drew (Below.refl _ _)
  generalize w1.drew = wd at *
  have hS := HSS.out wd HD.out
  refine Ord.tk (i:=0) (v:=.pointer (some ⟨I,0,none⟩)) (hy:=Or.inl ⟨by rfl,by rintro W' ⟨q0,q1,q2,q3,q4,q5⟩; go_simp⟩) (hS:=hS) (h:=?_)
  try simp only [Act.put,Ord.t,Ord.z,Ord.s]
  refine Ord.tk (i:=1) (v:=.int .i64 op) (hy:=Or.inl ⟨by rfl,by rintro W' ⟨q0,q1,q2,q3,q4,q5⟩; go_simp⟩) (hS:=hS) (h:=?_)
  try simp only [Act.put,Ord.t,Ord.z,Ord.s]
  refine Ord.tk (i:=2) (v:=.pointer (some ⟨MB,0,none⟩)) (hy:=Or.inl ⟨by rfl,by rintro W' ⟨q0,q1,q2,q3,q4,q5⟩; go_simp⟩) (hS:=hS) (h:=?_)
  try simp only [Act.put,Ord.t,Ord.z,Ord.s]
  refine Ord.tk (i:=3) (v:=.pointer (some ⟨MB,0,none⟩)) (hy:=Or.inl ⟨by rfl,by rintro W' ⟨q0,q1,q2,q3,q4,q5⟩; go_simp⟩) (hS:=hS) (h:=?_)
  try simp only [Act.put,Ord.t,Ord.z,Ord.s]
  refine Ord.tk (i:=4) (v:=.pointer (some ⟨MB,0,none⟩)) (hy:=Or.inl ⟨by rfl,by rintro W' ⟨q0,q1,q2,q3,q4,q5⟩; go_simp⟩) (hS:=hS) (h:=?_)
  try simp only [Act.put,Ord.t,Ord.z,Ord.s]
  refine Ord.tk (i:=5) (v:=.slice (some ⟨PB,0,none⟩) n n) (hy:=Or.inl ⟨by rfl,by rintro W' ⟨q0,q1,q2,q3,q4,q5⟩; go_simp⟩) (hS:=hS) (h:=?_)
  try simp only [Act.put,Ord.t,Ord.z,Ord.s]
  refine Ord.tk (i:=6) (v:=.pointer (some ⟨I,2,none⟩)) (hy:=Or.inl ⟨by rfl,by rintro W' ⟨q0,q1,q2,q3,q4,q5⟩; go_simp⟩) (hS:=hS) (h:=?_)
  try simp only [Act.put,Ord.t,Ord.z,Ord.s]
  refine Ord.tk (i:=7) (v:=.int .i64 (ka : Int)) (hy:=Or.inl ⟨by rfl,by rintro W' ⟨q0,q1,q2,q3,q4,q5⟩; go_simp⟩) (hS:=hS) (h:=?_)
  try simp only [Act.put,Ord.t,Ord.z,Ord.s]
  refine Ord.tk (i:=8) (v:=.pointer (some ⟨PB,ka,none⟩)) (hy:=Or.inl ⟨by rfl,by rintro W' ⟨q0,q1,q2,q3,q4,q5⟩; go_simp⟩) (hS:=hS) (h:=?_)
  try simp only [Act.put,Ord.t,Ord.z,Ord.s]
  refine Ord.tk (i:=9) (v:=.int .i64 va) (hy:=Or.inl ⟨by rfl,by rintro W' ⟨q0,q1,q2,q3,q4,q5⟩; go_simp⟩) (hS:=hS) (h:=?_)
  try simp only [Act.put,Ord.t,Ord.z,Ord.s]
  refine Ord.tk (i:=10) (v:=.pointer (some ⟨MB,0,none⟩)) (hy:=Or.inl ⟨by rfl,by rintro W' ⟨q0,q1,q2,q3,q4,q5⟩; go_simp⟩) (hS:=hS) (h:=?_)
  try simp only [Act.put,Ord.t,Ord.z,Ord.s]
  refine Ord.tk (i:=11) (v:=.pointer (some ⟨MB,0,none⟩)) (hy:=Or.inl ⟨by rfl,by rintro W' ⟨q0,q1,q2,q3,q4,q5⟩; go_simp⟩) (hS:=hS) (h:=?_)
  try simp only [Act.put,Ord.t,Ord.z,Ord.s]
  refine Ord.tk (i:=12) (v:=.pointer (some ⟨MB,0,none⟩)) (hy:=Or.inl ⟨by rfl,by rintro W' ⟨q0,q1,q2,q3,q4,q5⟩; go_simp⟩) (hS:=hS) (h:=?_)
  try simp only [Act.put,Ord.t,Ord.z,Ord.s]
  refine Ord.tk (i:=13) (v:=.slice (some ⟨PB,0,none⟩) n n) (hy:=Or.inl ⟨by rfl,by rintro W' ⟨q0,q1,q2,q3,q4,q5⟩; go_simp⟩) (hS:=hS) (h:=?_)
  try simp only [Act.put,Ord.t,Ord.z,Ord.s]
  refine Ord.tk (i:=14) (v:=.pointer (some ⟨I,3,none⟩)) (hy:=Or.inl ⟨by rfl,by rintro W' ⟨q0,q1,q2,q3,q4,q5⟩; go_simp⟩) (hS:=hS) (h:=?_)
  try simp only [Act.put,Ord.t,Ord.z,Ord.s]
  refine Ord.tk (i:=15) (v:=.int .i64 (kb : Int)) (hy:=Or.inl ⟨by rfl,by rintro W' ⟨q0,q1,q2,q3,q4,q5⟩; go_simp⟩) (hS:=hS) (h:=?_)
  try simp only [Act.put,Ord.t,Ord.z,Ord.s]
  refine Ord.tk (i:=16) (v:=.pointer (some ⟨PB,kb,none⟩)) (hy:=Or.inl ⟨by rfl,by rintro W' ⟨q0,q1,q2,q3,q4,q5⟩; go_simp⟩) (hS:=hS) (h:=?_)
  try simp only [Act.put,Ord.t,Ord.z,Ord.s]
  refine Ord.tk (i:=17) (v:=.int .i64 vb) (hy:=Or.inl ⟨by rfl,by rintro W' ⟨q0,q1,q2,q3,q4,q5⟩; go_simp⟩) (hS:=hS) (h:=?_)
  try simp only [Act.put,Ord.t,Ord.z,Ord.s]
  refine Ord.on (i:=18) (h:=fun K hK => ?_)
  go_simp
  refine (HC.out wd).mono ?_
  rintro r we ⟨rfl,hbe⟩
  have HBe := keep (HD.out.trans (hbe.mono HD.out.size))
  clear hbe
  go_simp
  refine hK.out _ _ (fun _ => HSS.out we HBe.out) ?_
  clear hK K
  try simp only [Act.put,Ord.t,Ord.z,Ord.s]
  have hS := HSS.out we HBe.out
  refine Ord.on (i:=19) (h:=fun K hK => ?_)
  go_simp
  refine hK.out _ _ (fun _ => hS) ?_
  clear hK K
  try simp only [Act.put,Ord.t,Ord.z,Ord.s]
  refine Ord.tk (i:=20) (v:=.int .i64 vt) (hy:=Or.inl ⟨by rfl,by rintro W' ⟨q0,q1,q2,q3,q4,q5⟩; go_simp⟩) (hS:=hS) (h:=?_)
  try simp only [Act.put,Ord.t,Ord.z,Ord.s]
  refine Ord.tk (i:=21) (v:=.int .i64 0) (hy:=Or.inl ⟨by rfl,by rintro W' ⟨q0,q1,q2,q3,q4,q5⟩; go_simp⟩) (hS:=hS) (h:=?_)
  try simp only [Act.put,Ord.t,Ord.z,Ord.s]
  refine Ord.on (i:=22) (h:=fun K hK => ?_)
  go_simp
  refine hK.out _ _ (fun _ => hS) ?_
  clear hK K
  try simp only [Act.put,Ord.t,Ord.z,Ord.s]
  refine Ord.on (i:=23) (h:=fun K hK => ?_)
  go_simp
  refine hK.out _ _ (fun _ => hS) ?_
  clear hK K
  try simp only [Act.put,Ord.t,Ord.z,Ord.s]
  refine Ord.wpM_done (by kernel_rfl) ?_ _
  refine NoPanic.normal ?_
  have m0 := (HBI.out we HBe.out).2.cell 0 rfl
  have y1 := (HBI.out we HBe.out).1.cell 1 rfl
  have y0 := (HBI.out we HBe.out).1.cell 0 rfl
  clear HSS hS HC
  go_wp2
  have HSS : Hid (∀ W',Below w1.heap.size w1 W' → W'.cell? ⟨MB,0,none⟩ = some (.slice (some ⟨PB,0,none⟩) n n) ∧ W'.cell? ⟨I,1,none⟩ = some (.int .i64 (kd : Int))) := fun W' hW => ⟨(HBI.out W' hW).2.cell 0 rfl,(HBI.out W' hW).1.cell 1 rfl⟩
  refine wp_region_noPanic ?_
  refine Ord.wpM_begin (fun W' : World => W'.cell? ⟨MB,0,none⟩ = some (.slice (some ⟨PB,0,none⟩) n n) ∧ W'.cell? ⟨I,1,none⟩ = some (.int .i64 (kd : Int))) [0,1,2,3,4,5,6,7] (by kernel_rfl) ?_
  have HD2 : Hid (Below w1.heap.size w1 (we).drew) := Below.drew (HBe.out)
  generalize (we).drew = wd2 at *
  have hS := HSS.out wd2 HD2.out
  refine Ord.tk (i:=0) (v:=.pointer (some ⟨MB,0,none⟩)) (hy:=Or.inl ⟨by rfl,by rintro W' ⟨q0,q1⟩; go_simp⟩) (hS:=hS) (h:=?_)
  try simp only [Act.put,Ord.t,Ord.z,Ord.s]
  refine Ord.tk (i:=1) (v:=.pointer (some ⟨MB,0,none⟩)) (hy:=Or.inl ⟨by rfl,by rintro W' ⟨q0,q1⟩; go_simp⟩) (hS:=hS) (h:=?_)
  try simp only [Act.put,Ord.t,Ord.z,Ord.s]
  refine Ord.tk (i:=2) (v:=.pointer (some ⟨MB,0,none⟩)) (hy:=Or.inl ⟨by rfl,by rintro W' ⟨q0,q1⟩; go_simp⟩) (hS:=hS) (h:=?_)
  try simp only [Act.put,Ord.t,Ord.z,Ord.s]
  refine Ord.tk (i:=3) (v:=.slice (some ⟨PB,0,none⟩) n n) (hy:=Or.inl ⟨by rfl,by rintro W' ⟨q0,q1⟩; go_simp⟩) (hS:=hS) (h:=?_)
  try simp only [Act.put,Ord.t,Ord.z,Ord.s]
  refine Ord.tk (i:=4) (v:=.pointer (some ⟨I,1,none⟩)) (hy:=Or.inl ⟨by rfl,by rintro W' ⟨q0,q1⟩; go_simp⟩) (hS:=hS) (h:=?_)
  try simp only [Act.put,Ord.t,Ord.z,Ord.s]
  refine Ord.tk (i:=5) (v:=.int .i64 (kd : Int)) (hy:=Or.inl ⟨by rfl,by rintro W' ⟨q0,q1⟩; go_simp⟩) (hS:=hS) (h:=?_)
  try simp only [Act.put,Ord.t,Ord.z,Ord.s]
  refine Ord.tk (i:=6) (v:=.int .i64 vt) (hy:=Or.inl ⟨by rfl,by rintro W' ⟨q0,q1⟩; go_simp⟩) (hS:=hS) (h:=?_)
  try simp only [Act.put,Ord.t,Ord.z,Ord.s]
  refine Ord.tk (i:=7) (v:=.pointer (some ⟨PB,kd,none⟩)) (hy:=Or.inl ⟨by rfl,by rintro W' ⟨q0,q1⟩; go_simp⟩) (hS:=hS) (h:=?_)
  try simp only [Act.put,Ord.t,Ord.z,Ord.s]
  have z1 := (HPd.out wd2 HD2.out).1
  have z2 := (HPd.out wd2 HD2.out).2
  refine Ord.on (i:=8) (h:=fun K hK => ?_)
  go_simp
  refine hK.out _ _ (fun h => absurd h (by decide)) ?_
  clear hK K
  try simp only [Act.put,Ord.t,Ord.z,Ord.s]
  refine Ord.wpM_done (by kernel_rfl) ?_ _
  refine NoPanic.normal ?_
  clear HSS
  have HG := keep (HE.out _ HD2.out)
  clear hS HE HPd z1 z2
  generalize wd2.setCell ⟨PB,kd,none⟩ (.int .i64 vt) = wf at *
  go_wp2
  go_ret
  first | exact HG.out | (rw [hwr]; exact HG.out)
 ·have dle : decide (op ≤ 12) = false := decide_eq_false hle
  by_cases h13 : op = 13
  ·subst h13
   obtain ⟨a0,a1⟩ := HRd.out a (by rw [rds_sel rfl]; simp)
   obtain ⟨e0,e1⟩ := HRd.out b (by rw [rds_sel rfl]; simp)
   obtain ⟨f0,f1⟩ := HRd.out c (by rw [rds_sel rfl]; simp)
   obtain ⟨d0,d1⟩ := hmd rfl
   obtain ⟨ka,rfl⟩ : ∃ k : Nat,a = (k : Int) := ⟨a.toNat,by omega⟩
   obtain ⟨kb,rfl⟩ : ∃ k : Nat,b = (k : Int) := ⟨b.toNat,by omega⟩
   obtain ⟨kc,rfl⟩ : ∃ k : Nat,c = (k : Int) := ⟨c.toNat,by omega⟩
   obtain ⟨kd,rfl⟩ : ∃ k : Nat,d = (k : Int) := ⟨d.toNat,by omega⟩
   have HE : Hid (∀ W,Below w1.heap.size w1 W → RDo md MB PB AO av P ps ⟨13,(kd : Int),(ka : Int),(kb : Int),(kc : Int),imm⟩ at' w (.returned (.int .i64 ((at' : Int) + 1))) (W.setCell ⟨PB,kd,none⟩ (.int .i64 (Wd.sel (gI P (ka : Int)) (gI P (kb : Int)) (gI P (kc : Int)))))) := fun W hW => .makes rfl (by show (1 : Int) ≤ 13; decide) (by show (13 : Int) ≤ 16; decide) (by unfold made; rw [if_pos rfl]; exact (sel_selP _ _ _).symm) rfl HM.out (HBw.out W hW)
   have HC := keep (fun W => Rf.sel_any (gI P (ka : Int)) (gI P (kb : Int)) (gI P (kc : Int)) W)
   have HPa : Hid (∀ W,Below w1.heap.size w1 W → W.cell? ⟨PB,ka,none⟩ = some (.int .i64 (gI P (ka : Int))) ∧ W.cell? ⟨PB,kb,none⟩ = some (.int .i64 (gI P (kb : Int))) ∧ W.cell? ⟨PB,kc,none⟩ = some (.int .i64 (gI P (kc : Int)))) := fun W hW => ⟨HPl.out W ka (HBw.out W hW) (by omega),HPl.out W kb (HBw.out W hW) (by omega),HPl.out W kc (HBw.out W hW) (by omega)⟩
   have HPd : Hid (∀ W,Below w1.heap.size w1 W → W.cell? ⟨PB,kd,none⟩ = some (.int .i64 (gI P (kd : Int))) ∧ W.frozen? ⟨PB,kd,none⟩ = false) := fun W hW => ⟨HPl.out W kd (HBw.out W hW) (by omega),HPf.out W kd (HBw.out W hW)⟩
   generalize gI P (ka : Int) = va at *
   generalize gI P (kb : Int) = vb at *
   generalize gI P (kc : Int) = vc at *
   generalize gI P (kd : Int) = vd at *
   obtain ⟨vt,hvt⟩ : ∃ y,Wd.sel va vb vc = y := ⟨_,rfl⟩
   rw [hvt] at HE HC
   clear hvt
   have HSS : Hid (∀ W',Below w1.heap.size w1 W' → W'.cell? ⟨MB,0,none⟩ = some (.slice (some ⟨PB,0,none⟩) n n) ∧ W'.cell? ⟨I,1,none⟩ = some (.int .i64 (kd : Int)) ∧ W'.cell? ⟨I,2,none⟩ = some (.int .i64 (ka : Int)) ∧ W'.cell? ⟨I,3,none⟩ = some (.int .i64 (kb : Int)) ∧ W'.cell? ⟨I,4,none⟩ = some (.int .i64 (kc : Int)) ∧ W'.cell? ⟨PB,ka,none⟩ = some (.int .i64 va) ∧ W'.cell? ⟨PB,kb,none⟩ = some (.int .i64 vb) ∧ W'.cell? ⟨PB,kc,none⟩ = some (.int .i64 vc)) := fun W' hW => ⟨(HBI.out W' hW).2.cell 0 rfl,(HBI.out W' hW).1.cell 1 rfl,(HBI.out W' hW).1.cell 2 rfl,(HBI.out W' hW).1.cell 3 rfl,(HBI.out W' hW).1.cell 4 rfl,(HPa.out W' hW).1,(HPa.out W' hW).2.1,(HPa.out W' hW).2.2⟩
   clear HPa hmd hb hj ho1 ho2 hle
   go_enter Try.func48,Try.ntmps48
   go_wp2_with (first | rw [HW1.out] | rw [HI.out] | fail)
   refine wp_region_noPanic ?_
   refine Ord.wpM_begin (fun W' : World => W'.cell? ⟨MB,0,none⟩ = some (.slice (some ⟨PB,0,none⟩) n n) ∧ W'.cell? ⟨I,1,none⟩ = some (.int .i64 (kd : Int)) ∧ W'.cell? ⟨I,2,none⟩ = some (.int .i64 (ka : Int)) ∧ W'.cell? ⟨I,3,none⟩ = some (.int .i64 (kb : Int)) ∧ W'.cell? ⟨I,4,none⟩ = some (.int .i64 (kc : Int)) ∧ W'.cell? ⟨PB,ka,none⟩ = some (.int .i64 va) ∧ W'.cell? ⟨PB,kb,none⟩ = some (.int .i64 vb) ∧ W'.cell? ⟨PB,kc,none⟩ = some (.int .i64 vc)) [0,1,2,3,4,5,6,7,8,9,10,11,12,13,14,15,16,17,18,19,20,21,22,23,24,25,26,27,28,29,30,31] (by kernel_rfl) ?_
   have HD : Hid (Below w1.heap.size w1 w1.drew) := Below.drew (Below.refl _ _)
   generalize w1.drew = wd at *
   have hS := HSS.out wd HD.out
   refine Ord.tk (i:=0) (v:=.pointer (some ⟨MB,0,none⟩)) (hy:=Or.inl ⟨by rfl,by rintro W' ⟨q0,q1,q2,q3,q4,q5,q6,q7⟩; go_simp⟩) (hS:=hS) (h:=?_)
   try simp only [Act.put,Ord.t,Ord.z,Ord.s]
   refine Ord.tk (i:=1) (v:=.pointer (some ⟨MB,0,none⟩)) (hy:=Or.inl ⟨by rfl,by rintro W' ⟨q0,q1,q2,q3,q4,q5,q6,q7⟩; go_simp⟩) (hS:=hS) (h:=?_)
   try simp only [Act.put,Ord.t,Ord.z,Ord.s]
   refine Ord.tk (i:=2) (v:=.pointer (some ⟨MB,0,none⟩)) (hy:=Or.inl ⟨by rfl,by rintro W' ⟨q0,q1,q2,q3,q4,q5,q6,q7⟩; go_simp⟩) (hS:=hS) (h:=?_)
   try simp only [Act.put,Ord.t,Ord.z,Ord.s]
   refine Ord.tk (i:=3) (v:=.slice (some ⟨PB,0,none⟩) n n) (hy:=Or.inl ⟨by rfl,by rintro W' ⟨q0,q1,q2,q3,q4,q5,q6,q7⟩; go_simp⟩) (hS:=hS) (h:=?_)
   try simp only [Act.put,Ord.t,Ord.z,Ord.s]
   refine Ord.tk (i:=4) (v:=.pointer (some ⟨I,1,none⟩)) (hy:=Or.inl ⟨by rfl,by rintro W' ⟨q0,q1,q2,q3,q4,q5,q6,q7⟩; go_simp⟩) (hS:=hS) (h:=?_)
   try simp only [Act.put,Ord.t,Ord.z,Ord.s]
   refine Ord.tk (i:=5) (v:=.int .i64 (kd : Int)) (hy:=Or.inl ⟨by rfl,by rintro W' ⟨q0,q1,q2,q3,q4,q5,q6,q7⟩; go_simp⟩) (hS:=hS) (h:=?_)
   try simp only [Act.put,Ord.t,Ord.z,Ord.s]
   refine Ord.tk (i:=6) (v:=.pointer (some ⟨MB,0,none⟩)) (hy:=Or.inl ⟨by rfl,by rintro W' ⟨q0,q1,q2,q3,q4,q5,q6,q7⟩; go_simp⟩) (hS:=hS) (h:=?_)
   try simp only [Act.put,Ord.t,Ord.z,Ord.s]
   refine Ord.tk (i:=7) (v:=.pointer (some ⟨MB,0,none⟩)) (hy:=Or.inl ⟨by rfl,by rintro W' ⟨q0,q1,q2,q3,q4,q5,q6,q7⟩; go_simp⟩) (hS:=hS) (h:=?_)
   try simp only [Act.put,Ord.t,Ord.z,Ord.s]
   refine Ord.tk (i:=8) (v:=.pointer (some ⟨MB,0,none⟩)) (hy:=Or.inl ⟨by rfl,by rintro W' ⟨q0,q1,q2,q3,q4,q5,q6,q7⟩; go_simp⟩) (hS:=hS) (h:=?_)
   try simp only [Act.put,Ord.t,Ord.z,Ord.s]
   refine Ord.tk (i:=9) (v:=.slice (some ⟨PB,0,none⟩) n n) (hy:=Or.inl ⟨by rfl,by rintro W' ⟨q0,q1,q2,q3,q4,q5,q6,q7⟩; go_simp⟩) (hS:=hS) (h:=?_)
   try simp only [Act.put,Ord.t,Ord.z,Ord.s]
   refine Ord.tk (i:=10) (v:=.pointer (some ⟨I,2,none⟩)) (hy:=Or.inl ⟨by rfl,by rintro W' ⟨q0,q1,q2,q3,q4,q5,q6,q7⟩; go_simp⟩) (hS:=hS) (h:=?_)
   try simp only [Act.put,Ord.t,Ord.z,Ord.s]
   refine Ord.tk (i:=11) (v:=.int .i64 (ka : Int)) (hy:=Or.inl ⟨by rfl,by rintro W' ⟨q0,q1,q2,q3,q4,q5,q6,q7⟩; go_simp⟩) (hS:=hS) (h:=?_)
   try simp only [Act.put,Ord.t,Ord.z,Ord.s]
   refine Ord.tk (i:=12) (v:=.pointer (some ⟨PB,ka,none⟩)) (hy:=Or.inl ⟨by rfl,by rintro W' ⟨q0,q1,q2,q3,q4,q5,q6,q7⟩; go_simp⟩) (hS:=hS) (h:=?_)
   try simp only [Act.put,Ord.t,Ord.z,Ord.s]
   refine Ord.tk (i:=13) (v:=.int .i64 va) (hy:=Or.inl ⟨by rfl,by rintro W' ⟨q0,q1,q2,q3,q4,q5,q6,q7⟩; go_simp⟩) (hS:=hS) (h:=?_)
   try simp only [Act.put,Ord.t,Ord.z,Ord.s]
   refine Ord.tk (i:=14) (v:=.pointer (some ⟨MB,0,none⟩)) (hy:=Or.inl ⟨by rfl,by rintro W' ⟨q0,q1,q2,q3,q4,q5,q6,q7⟩; go_simp⟩) (hS:=hS) (h:=?_)
   try simp only [Act.put,Ord.t,Ord.z,Ord.s]
   refine Ord.tk (i:=15) (v:=.pointer (some ⟨MB,0,none⟩)) (hy:=Or.inl ⟨by rfl,by rintro W' ⟨q0,q1,q2,q3,q4,q5,q6,q7⟩; go_simp⟩) (hS:=hS) (h:=?_)
   try simp only [Act.put,Ord.t,Ord.z,Ord.s]
   refine Ord.tk (i:=16) (v:=.pointer (some ⟨MB,0,none⟩)) (hy:=Or.inl ⟨by rfl,by rintro W' ⟨q0,q1,q2,q3,q4,q5,q6,q7⟩; go_simp⟩) (hS:=hS) (h:=?_)
   try simp only [Act.put,Ord.t,Ord.z,Ord.s]
   refine Ord.tk (i:=17) (v:=.slice (some ⟨PB,0,none⟩) n n) (hy:=Or.inl ⟨by rfl,by rintro W' ⟨q0,q1,q2,q3,q4,q5,q6,q7⟩; go_simp⟩) (hS:=hS) (h:=?_)
   try simp only [Act.put,Ord.t,Ord.z,Ord.s]
   refine Ord.tk (i:=18) (v:=.pointer (some ⟨I,3,none⟩)) (hy:=Or.inl ⟨by rfl,by rintro W' ⟨q0,q1,q2,q3,q4,q5,q6,q7⟩; go_simp⟩) (hS:=hS) (h:=?_)
   try simp only [Act.put,Ord.t,Ord.z,Ord.s]
   refine Ord.tk (i:=19) (v:=.int .i64 (kb : Int)) (hy:=Or.inl ⟨by rfl,by rintro W' ⟨q0,q1,q2,q3,q4,q5,q6,q7⟩; go_simp⟩) (hS:=hS) (h:=?_)
   try simp only [Act.put,Ord.t,Ord.z,Ord.s]
   refine Ord.tk (i:=20) (v:=.pointer (some ⟨PB,kb,none⟩)) (hy:=Or.inl ⟨by rfl,by rintro W' ⟨q0,q1,q2,q3,q4,q5,q6,q7⟩; go_simp⟩) (hS:=hS) (h:=?_)
   try simp only [Act.put,Ord.t,Ord.z,Ord.s]
   refine Ord.tk (i:=21) (v:=.int .i64 vb) (hy:=Or.inl ⟨by rfl,by rintro W' ⟨q0,q1,q2,q3,q4,q5,q6,q7⟩; go_simp⟩) (hS:=hS) (h:=?_)
   try simp only [Act.put,Ord.t,Ord.z,Ord.s]
   refine Ord.tk (i:=22) (v:=.pointer (some ⟨MB,0,none⟩)) (hy:=Or.inl ⟨by rfl,by rintro W' ⟨q0,q1,q2,q3,q4,q5,q6,q7⟩; go_simp⟩) (hS:=hS) (h:=?_)
   try simp only [Act.put,Ord.t,Ord.z,Ord.s]
   refine Ord.tk (i:=23) (v:=.pointer (some ⟨MB,0,none⟩)) (hy:=Or.inl ⟨by rfl,by rintro W' ⟨q0,q1,q2,q3,q4,q5,q6,q7⟩; go_simp⟩) (hS:=hS) (h:=?_)
   try simp only [Act.put,Ord.t,Ord.z,Ord.s]
   refine Ord.tk (i:=24) (v:=.pointer (some ⟨MB,0,none⟩)) (hy:=Or.inl ⟨by rfl,by rintro W' ⟨q0,q1,q2,q3,q4,q5,q6,q7⟩; go_simp⟩) (hS:=hS) (h:=?_)
   try simp only [Act.put,Ord.t,Ord.z,Ord.s]
   refine Ord.tk (i:=25) (v:=.slice (some ⟨PB,0,none⟩) n n) (hy:=Or.inl ⟨by rfl,by rintro W' ⟨q0,q1,q2,q3,q4,q5,q6,q7⟩; go_simp⟩) (hS:=hS) (h:=?_)
   try simp only [Act.put,Ord.t,Ord.z,Ord.s]
   refine Ord.tk (i:=26) (v:=.pointer (some ⟨I,4,none⟩)) (hy:=Or.inl ⟨by rfl,by rintro W' ⟨q0,q1,q2,q3,q4,q5,q6,q7⟩; go_simp⟩) (hS:=hS) (h:=?_)
   try simp only [Act.put,Ord.t,Ord.z,Ord.s]
   refine Ord.tk (i:=27) (v:=.int .i64 (kc : Int)) (hy:=Or.inl ⟨by rfl,by rintro W' ⟨q0,q1,q2,q3,q4,q5,q6,q7⟩; go_simp⟩) (hS:=hS) (h:=?_)
   try simp only [Act.put,Ord.t,Ord.z,Ord.s]
   refine Ord.tk (i:=28) (v:=.pointer (some ⟨PB,kc,none⟩)) (hy:=Or.inl ⟨by rfl,by rintro W' ⟨q0,q1,q2,q3,q4,q5,q6,q7⟩; go_simp⟩) (hS:=hS) (h:=?_)
   try simp only [Act.put,Ord.t,Ord.z,Ord.s]
   refine Ord.tk (i:=29) (v:=.int .i64 vc) (hy:=Or.inl ⟨by rfl,by rintro W' ⟨q0,q1,q2,q3,q4,q5,q6,q7⟩; go_simp⟩) (hS:=hS) (h:=?_)
   try simp only [Act.put,Ord.t,Ord.z,Ord.s]
   refine Ord.on (i:=30) (h:=fun K hK => ?_)
   go_simp
   refine (HC.out wd).mono ?_
   rintro r wd ⟨rfl,rfl⟩
   go_simp
   refine hK.out _ _ (fun _ => hS) ?_
   clear hK K
   try simp only [Act.put,Ord.t,Ord.z,Ord.s]
   refine Ord.tk (i:=31) (v:=.pointer (some ⟨PB,kd,none⟩)) (hy:=Or.inl ⟨by rfl,by rintro W' ⟨q0,q1,q2,q3,q4,q5,q6,q7⟩; go_simp⟩) (hS:=hS) (h:=?_)
   try simp only [Act.put,Ord.t,Ord.z,Ord.s]
   have z1 := (HPd.out wd HD.out).1
   have z2 := (HPd.out wd HD.out).2
   refine Ord.on (i:=32) (h:=fun K hK => ?_)
   go_simp
   refine hK.out _ _ (fun h => absurd h (by decide)) ?_
   clear hK K
   try simp only [Act.put,Ord.t,Ord.z,Ord.s]
   refine Ord.wpM_done (by kernel_rfl) ?_ _
   refine NoPanic.normal ?_
   have HG := keep (HE.out wd HD.out)
   clear HC HSS hS HE HPd m0 m1 y0 y1 y2 y3 y4 y5 z1 z2
   generalize wd.setCell ⟨PB,kd,none⟩ (.int .i64 vt) = wf at *
   go_wp2
   go_ret
   first | exact HG.out | (rw [hwr]; exact HG.out)
  ·have k13 : (op == 13) = false := by simpa using h13
   by_cases h14 : op = 14
   ·subst h14
    obtain ⟨d0,d1⟩ := hmd rfl
    obtain ⟨kd,rfl⟩ : ∃ k : Nat,d = (k : Int) := ⟨d.toNat,by omega⟩
    have HE : Hid (∀ W,Below w1.heap.size w1 W → RDo md MB PB AO av P ps ⟨14,(kd : Int),a,b,c,imm⟩ at' w (.returned (.int .i64 ((at' : Int) + 1))) (W.setCell ⟨PB,kd,none⟩ (.int .i64 imm))) := fun W hW => .makes rfl (by show (1 : Int) ≤ 14; decide) (by show (14 : Int) ≤ 16; decide) rfl rfl HM.out (HBw.out W hW)
    have HPd : Hid (∀ W,Below w1.heap.size w1 W → W.cell? ⟨PB,kd,none⟩ = some (.int .i64 (gI P (kd : Int))) ∧ W.frozen? ⟨PB,kd,none⟩ = false) := fun W hW => ⟨HPl.out W kd (HBw.out W hW) (by omega),HPf.out W kd (HBw.out W hW)⟩
    generalize gI P (kd : Int) = vd at *
    clear hmd hb hj ho1 ho2 hle
    go_enter Try.func48,Try.ntmps48
    go_wp2_with (first | rw [HW1.out] | rw [HI.out] | fail)
    have HSS : Hid (∀ W',Below w1.heap.size w1 W' → W'.cell? ⟨MB,0,none⟩ = some (.slice (some ⟨PB,0,none⟩) n n) ∧ W'.cell? ⟨I,1,none⟩ = some (.int .i64 (kd : Int)) ∧ W'.cell? ⟨I,5,none⟩ = some (.int .i64 imm)) := fun W' hW => ⟨(HBI.out W' hW).2.cell 0 rfl,(HBI.out W' hW).1.cell 1 rfl,(HBI.out W' hW).1.cell 5 rfl⟩
    refine wp_region_noPanic ?_
    refine Ord.wpM_begin (fun W' : World => W'.cell? ⟨MB,0,none⟩ = some (.slice (some ⟨PB,0,none⟩) n n) ∧ W'.cell? ⟨I,1,none⟩ = some (.int .i64 (kd : Int)) ∧ W'.cell? ⟨I,5,none⟩ = some (.int .i64 imm)) [0,1,2,3,4,5,6,7,8] (by kernel_rfl) ?_
    have HD2 : Hid (Below w1.heap.size w1 (w1).drew) := Below.drew (Below.refl _ _)
    generalize (w1).drew = wd2 at *
    have hS := HSS.out wd2 HD2.out
    refine Ord.tk (i:=0) (v:=.pointer (some ⟨MB,0,none⟩)) (hy:=Or.inl ⟨by rfl,by rintro W' ⟨q0,q1,q2⟩; go_simp⟩) (hS:=hS) (h:=?_)
    try simp only [Act.put,Ord.t,Ord.z,Ord.s]
    refine Ord.tk (i:=1) (v:=.pointer (some ⟨MB,0,none⟩)) (hy:=Or.inl ⟨by rfl,by rintro W' ⟨q0,q1,q2⟩; go_simp⟩) (hS:=hS) (h:=?_)
    try simp only [Act.put,Ord.t,Ord.z,Ord.s]
    refine Ord.tk (i:=2) (v:=.pointer (some ⟨MB,0,none⟩)) (hy:=Or.inl ⟨by rfl,by rintro W' ⟨q0,q1,q2⟩; go_simp⟩) (hS:=hS) (h:=?_)
    try simp only [Act.put,Ord.t,Ord.z,Ord.s]
    refine Ord.tk (i:=3) (v:=.slice (some ⟨PB,0,none⟩) n n) (hy:=Or.inl ⟨by rfl,by rintro W' ⟨q0,q1,q2⟩; go_simp⟩) (hS:=hS) (h:=?_)
    try simp only [Act.put,Ord.t,Ord.z,Ord.s]
    refine Ord.tk (i:=4) (v:=.pointer (some ⟨I,1,none⟩)) (hy:=Or.inl ⟨by rfl,by rintro W' ⟨q0,q1,q2⟩; go_simp⟩) (hS:=hS) (h:=?_)
    try simp only [Act.put,Ord.t,Ord.z,Ord.s]
    refine Ord.tk (i:=5) (v:=.int .i64 (kd : Int)) (hy:=Or.inl ⟨by rfl,by rintro W' ⟨q0,q1,q2⟩; go_simp⟩) (hS:=hS) (h:=?_)
    try simp only [Act.put,Ord.t,Ord.z,Ord.s]
    refine Ord.tk (i:=6) (v:=.pointer (some ⟨I,5,none⟩)) (hy:=Or.inl ⟨by rfl,by rintro W' ⟨q0,q1,q2⟩; go_simp⟩) (hS:=hS) (h:=?_)
    try simp only [Act.put,Ord.t,Ord.z,Ord.s]
    refine Ord.tk (i:=7) (v:=.int .i64 imm) (hy:=Or.inl ⟨by rfl,by rintro W' ⟨q0,q1,q2⟩; go_simp⟩) (hS:=hS) (h:=?_)
    try simp only [Act.put,Ord.t,Ord.z,Ord.s]
    refine Ord.tk (i:=8) (v:=.pointer (some ⟨PB,kd,none⟩)) (hy:=Or.inl ⟨by rfl,by rintro W' ⟨q0,q1,q2⟩; go_simp⟩) (hS:=hS) (h:=?_)
    try simp only [Act.put,Ord.t,Ord.z,Ord.s]
    have z1 := (HPd.out wd2 HD2.out).1
    have z2 := (HPd.out wd2 HD2.out).2
    refine Ord.on (i:=9) (h:=fun K hK => ?_)
    go_simp
    refine hK.out _ _ (fun h => absurd h (by decide)) ?_
    clear hK K
    try simp only [Act.put,Ord.t,Ord.z,Ord.s]
    refine Ord.wpM_done (by kernel_rfl) ?_ _
    refine NoPanic.normal ?_
    clear HSS
    have HG := keep (HE.out _ HD2.out)
    clear hS HE HPd z1 z2
    generalize wd2.setCell ⟨PB,kd,none⟩ (.int .i64 imm) = wf at *
    go_wp2
    go_ret
    first | exact HG.out | (rw [hwr]; exact HG.out)
   ·have k14 : (op == 14) = false := by simpa using h14
    by_cases h15 : op = 15
    ·subst h15
     obtain ⟨d0,d1⟩ := hmd rfl
     obtain ⟨a0,a1⟩ := HRd.out a (by rw [rds_one (.inl rfl)]; simp)
     obtain ⟨kd,rfl⟩ : ∃ k : Nat,d = (k : Int) := ⟨d.toNat,by omega⟩
     obtain ⟨ka,rfl⟩ : ∃ k : Nat,a = (k : Int) := ⟨a.toNat,by omega⟩
     have HE : Hid (∀ W,Below w1.heap.size w1 W → RDo md MB PB AO av P ps ⟨15,(kd : Int),(ka : Int),b,c,imm⟩ at' w (.returned (.int .i64 ((at' : Int) + 1))) (W.setCell ⟨PB,kd,none⟩ (.int .i64 (gI P (ka : Int))))) := fun W hW => .makes rfl (by show (1 : Int) ≤ 15; decide) (by show (15 : Int) ≤ 16; decide) rfl rfl HM.out (HBw.out W hW)
     have HPd : Hid (∀ W,Below w1.heap.size w1 W → W.cell? ⟨PB,kd,none⟩ = some (.int .i64 (gI P (kd : Int))) ∧ W.frozen? ⟨PB,kd,none⟩ = false) := fun W hW => ⟨HPl.out W kd (HBw.out W hW) (by omega),HPf.out W kd (HBw.out W hW)⟩
     have HPa : Hid (∀ W,Below w1.heap.size w1 W → W.cell? ⟨PB,ka,none⟩ = some (.int .i64 (gI P (ka : Int)))) := fun W hW => HPl.out W ka (HBw.out W hW) (by omega)
     generalize gI P (ka : Int) = va at *
     generalize gI P (kd : Int) = vd at *
     clear hmd hb hj ho1 ho2 hle
     go_enter Try.func48,Try.ntmps48
     go_wp2_with (first | rw [HW1.out] | rw [HI.out] | fail)
     have HSS : Hid (∀ W',Below w1.heap.size w1 W' → W'.cell? ⟨MB,0,none⟩ = some (.slice (some ⟨PB,0,none⟩) n n) ∧ W'.cell? ⟨I,1,none⟩ = some (.int .i64 (kd : Int)) ∧ W'.cell? ⟨I,2,none⟩ = some (.int .i64 (ka : Int)) ∧ W'.cell? ⟨PB,ka,none⟩ = some (.int .i64 va)) := fun W' hW => ⟨(HBI.out W' hW).2.cell 0 rfl,(HBI.out W' hW).1.cell 1 rfl,(HBI.out W' hW).1.cell 2 rfl,HPa.out W' hW⟩
     refine wp_region_noPanic ?_
     refine Ord.wpM_begin (fun W' : World => W'.cell? ⟨MB,0,none⟩ = some (.slice (some ⟨PB,0,none⟩) n n) ∧ W'.cell? ⟨I,1,none⟩ = some (.int .i64 (kd : Int)) ∧ W'.cell? ⟨I,2,none⟩ = some (.int .i64 (ka : Int)) ∧ W'.cell? ⟨PB,ka,none⟩ = some (.int .i64 va)) [0,1,2,3,4,5,6,7,8,9,10,11,12,13,14] (by kernel_rfl) ?_
     have HD2 : Hid (Below w1.heap.size w1 (w1).drew) := Below.drew (Below.refl _ _)
     generalize (w1).drew = wd2 at *
     have hS := HSS.out wd2 HD2.out
     refine Ord.tk (i:=0) (v:=.pointer (some ⟨MB,0,none⟩)) (hy:=Or.inl ⟨by rfl,by rintro W' ⟨q0,q1,q2,q3⟩; go_simp⟩) (hS:=hS) (h:=?_)
     try simp only [Act.put,Ord.t,Ord.z,Ord.s]
     refine Ord.tk (i:=1) (v:=.pointer (some ⟨MB,0,none⟩)) (hy:=Or.inl ⟨by rfl,by rintro W' ⟨q0,q1,q2,q3⟩; go_simp⟩) (hS:=hS) (h:=?_)
     try simp only [Act.put,Ord.t,Ord.z,Ord.s]
     refine Ord.tk (i:=2) (v:=.pointer (some ⟨MB,0,none⟩)) (hy:=Or.inl ⟨by rfl,by rintro W' ⟨q0,q1,q2,q3⟩; go_simp⟩) (hS:=hS) (h:=?_)
     try simp only [Act.put,Ord.t,Ord.z,Ord.s]
     refine Ord.tk (i:=3) (v:=.slice (some ⟨PB,0,none⟩) n n) (hy:=Or.inl ⟨by rfl,by rintro W' ⟨q0,q1,q2,q3⟩; go_simp⟩) (hS:=hS) (h:=?_)
     try simp only [Act.put,Ord.t,Ord.z,Ord.s]
     refine Ord.tk (i:=4) (v:=.pointer (some ⟨I,1,none⟩)) (hy:=Or.inl ⟨by rfl,by rintro W' ⟨q0,q1,q2,q3⟩; go_simp⟩) (hS:=hS) (h:=?_)
     try simp only [Act.put,Ord.t,Ord.z,Ord.s]
     refine Ord.tk (i:=5) (v:=.int .i64 (kd : Int)) (hy:=Or.inl ⟨by rfl,by rintro W' ⟨q0,q1,q2,q3⟩; go_simp⟩) (hS:=hS) (h:=?_)
     try simp only [Act.put,Ord.t,Ord.z,Ord.s]
     refine Ord.tk (i:=6) (v:=.pointer (some ⟨MB,0,none⟩)) (hy:=Or.inl ⟨by rfl,by rintro W' ⟨q0,q1,q2,q3⟩; go_simp⟩) (hS:=hS) (h:=?_)
     try simp only [Act.put,Ord.t,Ord.z,Ord.s]
     refine Ord.tk (i:=7) (v:=.pointer (some ⟨MB,0,none⟩)) (hy:=Or.inl ⟨by rfl,by rintro W' ⟨q0,q1,q2,q3⟩; go_simp⟩) (hS:=hS) (h:=?_)
     try simp only [Act.put,Ord.t,Ord.z,Ord.s]
     refine Ord.tk (i:=8) (v:=.pointer (some ⟨MB,0,none⟩)) (hy:=Or.inl ⟨by rfl,by rintro W' ⟨q0,q1,q2,q3⟩; go_simp⟩) (hS:=hS) (h:=?_)
     try simp only [Act.put,Ord.t,Ord.z,Ord.s]
     refine Ord.tk (i:=9) (v:=.slice (some ⟨PB,0,none⟩) n n) (hy:=Or.inl ⟨by rfl,by rintro W' ⟨q0,q1,q2,q3⟩; go_simp⟩) (hS:=hS) (h:=?_)
     try simp only [Act.put,Ord.t,Ord.z,Ord.s]
     refine Ord.tk (i:=10) (v:=.pointer (some ⟨I,2,none⟩)) (hy:=Or.inl ⟨by rfl,by rintro W' ⟨q0,q1,q2,q3⟩; go_simp⟩) (hS:=hS) (h:=?_)
     try simp only [Act.put,Ord.t,Ord.z,Ord.s]
     refine Ord.tk (i:=11) (v:=.int .i64 (ka : Int)) (hy:=Or.inl ⟨by rfl,by rintro W' ⟨q0,q1,q2,q3⟩; go_simp⟩) (hS:=hS) (h:=?_)
     try simp only [Act.put,Ord.t,Ord.z,Ord.s]
     refine Ord.tk (i:=12) (v:=.pointer (some ⟨PB,ka,none⟩)) (hy:=Or.inl ⟨by rfl,by rintro W' ⟨q0,q1,q2,q3⟩; go_simp⟩) (hS:=hS) (h:=?_)
     try simp only [Act.put,Ord.t,Ord.z,Ord.s]
     refine Ord.tk (i:=13) (v:=.int .i64 va) (hy:=Or.inl ⟨by rfl,by rintro W' ⟨q0,q1,q2,q3⟩; go_simp⟩) (hS:=hS) (h:=?_)
     try simp only [Act.put,Ord.t,Ord.z,Ord.s]
     refine Ord.tk (i:=14) (v:=.pointer (some ⟨PB,kd,none⟩)) (hy:=Or.inl ⟨by rfl,by rintro W' ⟨q0,q1,q2,q3⟩; go_simp⟩) (hS:=hS) (h:=?_)
     try simp only [Act.put,Ord.t,Ord.z,Ord.s]
     have z1 := (HPd.out wd2 HD2.out).1
     have z2 := (HPd.out wd2 HD2.out).2
     refine Ord.on (i:=15) (h:=fun K hK => ?_)
     go_simp
     refine hK.out _ _ (fun h => absurd h (by decide)) ?_
     clear hK K
     try simp only [Act.put,Ord.t,Ord.z,Ord.s]
     refine Ord.wpM_done (by kernel_rfl) ?_ _
     refine NoPanic.normal ?_
     clear HSS
     have HG := keep (HE.out _ HD2.out)
     clear hS HE HPd HPa z1 z2
     generalize wd2.setCell ⟨PB,kd,none⟩ (.int .i64 va) = wf at *
     go_wp2
     go_ret
     first | exact HG.out | (rw [hwr]; exact HG.out)
    ·have k15 : (op == 15) = false := by simpa using h15
     by_cases h16 : op = 16
     ·subst h16
      obtain ⟨d0,d1⟩ := hmd rfl
      obtain ⟨a0,a1⟩ := HRd.out a (by rw [rds_one (.inr (.inl rfl))]; simp)
      obtain ⟨e0,e1⟩ := hb (.inl rfl)
      obtain ⟨kd,rfl⟩ : ∃ k : Nat,d = (k : Int) := ⟨d.toNat,by omega⟩
      obtain ⟨ka,rfl⟩ : ∃ k : Nat,a = (k : Int) := ⟨a.toNat,by omega⟩
      obtain ⟨kb,rfl⟩ : ∃ k : Nat,b = (k : Int) := ⟨b.toNat,by omega⟩
      obtain ⟨gb,row,pc,cr,hg,hrow,hav,hcell,hrc,ex,hbk⟩ := HM.out.arr (b:=kb) (by omega)
      have hm' := List.mem_of_getElem? hg
      have hnp := (HM.out.np _ hm').1
      have hne : ps ≠ [] := List.ne_nil_of_mem hm'
      have hao := HM.out.ao hne
      dsimp only at hnp
      subst hav
      rw [hmm] at m1
      have hv0 := (HGW.out (ka : Int)).1
      obtain ⟨v,hv⟩ : ∃ v,gI P (ka : Int) = v := ⟨_,rfl⟩
      rw [hv] at hv0
      obtain ⟨kv,rfl⟩ : ∃ k : Nat,v = (k : Int) := ⟨v.toNat,by omega⟩
      have z3 : w1.cell? ⟨PB,ka,none⟩ = some (.int .i64 (kv : Int)) := by rw [← hv]; exact HPl.out w1 ka HB.out (by omega)
      have HPd : Hid (∀ W,Below w1.heap.size w1 W → W.cell? ⟨PB,kd,none⟩ = some (.int .i64 (gI P (kd : Int))) ∧ W.frozen? ⟨PB,kd,none⟩ = false) := fun W hW => ⟨HPl.out W kd (HBw.out W hW) (by omega),HPf.out W kd (HBw.out W hW)⟩
      have hA1 : w1.cell? ⟨AO,kb,none⟩ = some (.slice (some ⟨gb,0,none⟩) row.length cr) := by rw [cell_below HB.out (lt_of_cell hcell)]; exact hcell
      obtain ⟨x,hx⟩ : ∃ x,row.getD kv 0 = x := ⟨_,rfl⟩
      have HMd : Hid (made ⟨16,(kd : Int),(ka : Int),(kb : Int),c,imm⟩ P (ars ps) = x) := by
       show (rowA (ars ps) (kb : Int)).getD (gI P (ka : Int)).toNat 0 = x
       rw [hrow,hv,Int.toNat_natCast]; exact hx
      have HS1 : Hid (∀ W,Below w1.heap.size w1 W → RM md (W.setCell ⟨PB,kd,none⟩ (.int .i64 0)) MB PB AO (.slice (some ⟨AO,0,none⟩) ps.length pc) (P.set kd 0) ps ∧ Fs (PB :: ps.map Prod.fst) w (W.setCell ⟨PB,kd,none⟩ (.int .i64 0)) ∧ Fs [PB] w1 (W.setCell ⟨PB,kd,none⟩ (.int .i64 0))) := fun W hW => ⟨(HM.out.below (HBw.out W hW)).setP kd 0,(Fs.of_below (HBw.out W hW)).set (by simp) _ _,(Fs.of_below hW).set (by simp) _ _⟩
      have HEnd : Hid (∀ W,RM md W MB PB AO (.slice (some ⟨AO,0,none⟩) ps.length pc) (P.set kd 0) ps → Fs (PB :: ps.map Prod.fst) w W → RDo md MB PB AO (.slice (some ⟨AO,0,none⟩) ps.length pc) P ps ⟨16,(kd : Int),(ka : Int),(kb : Int),c,imm⟩ at' w (.returned (.int .i64 ((at' : Int) + 1))) (W.setCell ⟨PB,kd,none⟩ (.int .i64 x)) ∧ (x = 0 → RDo md MB PB AO (.slice (some ⟨AO,0,none⟩) ps.length pc) P ps ⟨16,(kd : Int),(ka : Int),(kb : Int),c,imm⟩ at' w (.returned (.int .i64 ((at' : Int) + 1))) W)) := fun W h1 h2 => ⟨.makes2 rfl (by show (1 : Int) ≤ 16; decide) (by show (16 : Int) ≤ 16; decide) HMd.out rfl h1 h2,fun h0 => .laid rfl (by show (1 : Int) ≤ 16; decide) (by show (16 : Int) ≤ 16; decide) (HMd.out.trans h0) rfl h1 h2⟩
      have hIP : I ≠ PB := by rw [← HI.out]; have := HM.out.pl.lt; omega
      have HRd2 : Hid (∀ W,Fs [PB] w1 W → W.cell? ⟨MB,0,none⟩ = some (.slice (some ⟨PB,0,none⟩) n n) ∧ W.cell? ⟨MB,1,none⟩ = some (.slice (some ⟨AO,0,none⟩) m pc) ∧ W.cell? ⟨I,0,none⟩ = some (.int .i64 16) ∧ W.cell? ⟨I,1,none⟩ = some (.int .i64 (kd : Int)) ∧ W.cell? ⟨I,3,none⟩ = some (.int .i64 (kb : Int)) ∧ W.cell? ⟨AO,kb,none⟩ = some (.slice (some ⟨gb,0,none⟩) row.length cr)) := fun W hW => by
       have kM := HkM.out.fs hW (by simpa using HM.out.ne)
       have kI := HkI.out.fs hW (by simpa using hIP)
       exact ⟨kM.cell 0 rfl,by first | exact kM.cell 1 rfl | (rw [← HMM.out]; exact kM.cell 1 rfl),kI.cell 0 rfl,kI.cell 1 rfl,kI.cell 3 rfl,by rw [cell_fs hW (lt_of_cell hA1) (by simpa using hao.1)]; exact hA1⟩
      have HBg : Hid (∀ W,Fs [PB] w1 W → Bk W gb (row.map (Value.int .i64) ++ ex) 3) := fun W hW => (hbk.fs (Fs.of_below (l:=[]) HB.out) (by simp)).fs hW (by simpa using hnp)
      have HPk : Hid (∀ W,RM md W MB PB AO (.slice (some ⟨AO,0,none⟩) ps.length pc) (P.set kd 0) ps → W.cell? ⟨PB,kd,none⟩ = some (.int .i64 0) ∧ W.frozen? ⟨PB,kd,none⟩ = false) := fun W hW => ⟨by
       have := hW.place (k:=kd) (by rw [List.length_set,HNN.out]; omega)
       rw [this]
       unfold gI
       rw [Int.toNat_natCast,List.getD_eq_getElem?_getD,List.getElem?_set_self (by rw [HNN.out]; omega)]; rfl,hW.pl.fr kd⟩
      have hz0 : (0 : Int) ≤ (kv : Int) := by omega
      generalize gI P (kd : Int) = vd at *
      have HX := keep hx
      clear hg hm' hrow hcell hnp hne hao hv hrc hIP hbk HMd hx hmd hb hj ho1 ho2 hle
      go_enter Try.func48,Try.ntmps48
      go_wp2_with (first | rw [HW1.out] | rw [HI.out] | fail)
      go_quiet (fail)
      go_wp2_with (first | rw [HW1.out] | rw [HI.out] | fail)
      have HSS : Hid (∀ W',Below w1.heap.size w1 W' → W'.cell? ⟨MB,0,none⟩ = some (.slice (some ⟨PB,0,none⟩) n n) ∧ W'.cell? ⟨I,1,none⟩ = some (.int .i64 (kd : Int))) := fun W' hW => ⟨(HBI.out W' hW).2.cell 0 rfl,(HBI.out W' hW).1.cell 1 rfl⟩
      refine wp_region_noPanic ?_
      refine Ord.wpM_begin (fun W' : World => W'.cell? ⟨MB,0,none⟩ = some (.slice (some ⟨PB,0,none⟩) n n) ∧ W'.cell? ⟨I,1,none⟩ = some (.int .i64 (kd : Int))) [0,1,2,3,4,5,6] (by kernel_rfl) ?_
      have HD2 : Hid (Below w1.heap.size w1 (w1.drewN nq).drew) := Below.drew (below_drewN (Below.refl _ _) nq)
      generalize (w1.drewN nq).drew = wd2 at *
      have hS := HSS.out wd2 HD2.out
      refine Ord.tk (i:=0) (v:=.pointer (some ⟨MB,0,none⟩)) (hy:=Or.inl ⟨by rfl,by rintro W' ⟨q0,q1⟩; go_simp⟩) (hS:=hS) (h:=?_)
      try simp only [Act.put,Ord.t,Ord.z,Ord.s]
      refine Ord.tk (i:=1) (v:=.pointer (some ⟨MB,0,none⟩)) (hy:=Or.inl ⟨by rfl,by rintro W' ⟨q0,q1⟩; go_simp⟩) (hS:=hS) (h:=?_)
      try simp only [Act.put,Ord.t,Ord.z,Ord.s]
      refine Ord.tk (i:=2) (v:=.pointer (some ⟨MB,0,none⟩)) (hy:=Or.inl ⟨by rfl,by rintro W' ⟨q0,q1⟩; go_simp⟩) (hS:=hS) (h:=?_)
      try simp only [Act.put,Ord.t,Ord.z,Ord.s]
      refine Ord.tk (i:=3) (v:=.slice (some ⟨PB,0,none⟩) n n) (hy:=Or.inl ⟨by rfl,by rintro W' ⟨q0,q1⟩; go_simp⟩) (hS:=hS) (h:=?_)
      try simp only [Act.put,Ord.t,Ord.z,Ord.s]
      refine Ord.tk (i:=4) (v:=.pointer (some ⟨I,1,none⟩)) (hy:=Or.inl ⟨by rfl,by rintro W' ⟨q0,q1⟩; go_simp⟩) (hS:=hS) (h:=?_)
      try simp only [Act.put,Ord.t,Ord.z,Ord.s]
      refine Ord.tk (i:=5) (v:=.int .i64 (kd : Int)) (hy:=Or.inl ⟨by rfl,by rintro W' ⟨q0,q1⟩; go_simp⟩) (hS:=hS) (h:=?_)
      try simp only [Act.put,Ord.t,Ord.z,Ord.s]
      refine Ord.tk (i:=6) (v:=.pointer (some ⟨PB,kd,none⟩)) (hy:=Or.inl ⟨by rfl,by rintro W' ⟨q0,q1⟩; go_simp⟩) (hS:=hS) (h:=?_)
      try simp only [Act.put,Ord.t,Ord.z,Ord.s]
      have z1 := (HPd.out wd2 HD2.out).1
      have z2 := (HPd.out wd2 HD2.out).2
      refine Ord.on (i:=7) (h:=fun K hK => ?_)
      go_simp
      refine hK.out _ _ (fun h => absurd h (by decide)) ?_
      clear hK K
      try simp only [Act.put,Ord.t,Ord.z,Ord.s]
      refine Ord.wpM_done (by kernel_rfl) ?_ _
      refine NoPanic.normal ?_
      clear HSS
      obtain ⟨hR2,hF2,hF3⟩ := HS1.out wd2 HD2.out
      have HR2 := keep hR2
      have HF2 := keep hF2
      have HF3 := keep hF3
      obtain ⟨w3,hw3⟩ : ∃ y,wd2.setCell ⟨PB,kd,none⟩ (.int .i64 0) = y := ⟨_,rfl⟩
      rw [hw3] at HR2 HF2 HF3 ⊢
      obtain ⟨r0,r1,r2,r3,r4,r5⟩ := HRd2.out w3 HF3.out
      clear hw3 hS z1 z2 z3 m0 m1 y0 y1 y2 y3 y4 y5 hA1 hR2 hF2 hF3 HS1 HPd
      by_cases hlt : kv < row.length
      ·have d1' : decide ((kv : Int) < (row.length : Int)) = true := decide_eq_true (by omega)
       have HU : Hid (∀ W,Fs [PB] w1 W → W.cell? ⟨gb,kv,none⟩ = some (.int .i64 x)) := fun W hW => (HBg.out W hW).cell kv (by rw [List.getElem?_append_left (by simpa using hlt),List.getElem?_map,List.getElem?_eq_getElem hlt,← HX.out,List.getD_eq_getElem?_getD,List.getElem?_eq_getElem hlt]; rfl)
       have hlz : (kv : Int) < (row.length : Int) := by omega
       clear HBg hlt HX
       generalize row.length = RL at *
       go_wp2
       go_quiet (fail)
       go_wp2
       have HSS : Hid (∀ W',Fs [PB] w1 W' → W'.cell? ⟨MB,0,none⟩ = some (.slice (some ⟨PB,0,none⟩) n n) ∧ W'.cell? ⟨MB,1,none⟩ = some (.slice (some ⟨AO,0,none⟩) m pc) ∧ W'.cell? ⟨I,1,none⟩ = some (.int .i64 (kd : Int)) ∧ W'.cell? ⟨I,3,none⟩ = some (.int .i64 (kb : Int)) ∧ W'.cell? ⟨AO,kb,none⟩ = some (.slice (some ⟨gb,0,none⟩) RL cr) ∧ W'.cell? ⟨gb,kv,none⟩ = some (.int .i64 x)) := fun W' hW => by
        obtain ⟨r0,r1,r2,r3,r4,r5⟩ := HRd2.out W' hW
        exact ⟨r0,r1,r3,r4,r5,HU.out W' hW⟩
       refine wp_region_noPanic ?_
       refine Ord.wpM_begin (fun W' : World => W'.cell? ⟨MB,0,none⟩ = some (.slice (some ⟨PB,0,none⟩) n n) ∧ W'.cell? ⟨MB,1,none⟩ = some (.slice (some ⟨AO,0,none⟩) m pc) ∧ W'.cell? ⟨I,1,none⟩ = some (.int .i64 (kd : Int)) ∧ W'.cell? ⟨I,3,none⟩ = some (.int .i64 (kb : Int)) ∧ W'.cell? ⟨AO,kb,none⟩ = some (.slice (some ⟨gb,0,none⟩) RL cr) ∧ W'.cell? ⟨gb,kv,none⟩ = some (.int .i64 x)) [0,1,2,3,4,5,6,7,8,9,10,11,12,13,14,15,16,17] (by kernel_rfl) ?_
       have HBq : Hid (Below w3.heap.size w3 (w3.drewN nq).drew) := Below.drew (below_drewN (Below.refl _ _) nq)
       generalize (w3.drewN nq).drew = wd3 at *
       have HF4 : Hid (Fs [PB] w1 wd3) := HF3.out.trans (Fs.of_below HBq.out)
       have HR4 := keep (HR2.out.below HBq.out)
       have HF5 : Hid (Fs (PB :: ps.map Prod.fst) w wd3) := HF2.out.trans (Fs.of_below HBq.out)
       have hS := HSS.out wd3 HF4.out
       refine Ord.tk (i:=0) (v:=.pointer (some ⟨MB,0,none⟩)) (hy:=Or.inl ⟨by rfl,by rintro W' ⟨q0,q1,q2,q3,q4,q5⟩; go_simp⟩) (hS:=hS) (h:=?_)
       try simp only [Act.put,Ord.t,Ord.z,Ord.s]
       refine Ord.tk (i:=1) (v:=.pointer (some ⟨MB,0,none⟩)) (hy:=Or.inl ⟨by rfl,by rintro W' ⟨q0,q1,q2,q3,q4,q5⟩; go_simp⟩) (hS:=hS) (h:=?_)
       try simp only [Act.put,Ord.t,Ord.z,Ord.s]
       refine Ord.tk (i:=2) (v:=.pointer (some ⟨MB,0,none⟩)) (hy:=Or.inl ⟨by rfl,by rintro W' ⟨q0,q1,q2,q3,q4,q5⟩; go_simp⟩) (hS:=hS) (h:=?_)
       try simp only [Act.put,Ord.t,Ord.z,Ord.s]
       refine Ord.tk (i:=3) (v:=.slice (some ⟨PB,0,none⟩) n n) (hy:=Or.inl ⟨by rfl,by rintro W' ⟨q0,q1,q2,q3,q4,q5⟩; go_simp⟩) (hS:=hS) (h:=?_)
       try simp only [Act.put,Ord.t,Ord.z,Ord.s]
       refine Ord.tk (i:=4) (v:=.pointer (some ⟨I,1,none⟩)) (hy:=Or.inl ⟨by rfl,by rintro W' ⟨q0,q1,q2,q3,q4,q5⟩; go_simp⟩) (hS:=hS) (h:=?_)
       try simp only [Act.put,Ord.t,Ord.z,Ord.s]
       refine Ord.tk (i:=5) (v:=.int .i64 (kd : Int)) (hy:=Or.inl ⟨by rfl,by rintro W' ⟨q0,q1,q2,q3,q4,q5⟩; go_simp⟩) (hS:=hS) (h:=?_)
       try simp only [Act.put,Ord.t,Ord.z,Ord.s]
       refine Ord.tk (i:=6) (v:=.pointer (some ⟨MB,0,none⟩)) (hy:=Or.inl ⟨by rfl,by rintro W' ⟨q0,q1,q2,q3,q4,q5⟩; go_simp⟩) (hS:=hS) (h:=?_)
       try simp only [Act.put,Ord.t,Ord.z,Ord.s]
       refine Ord.tk (i:=7) (v:=.pointer (some ⟨MB,0,none⟩)) (hy:=Or.inl ⟨by rfl,by rintro W' ⟨q0,q1,q2,q3,q4,q5⟩; go_simp⟩) (hS:=hS) (h:=?_)
       try simp only [Act.put,Ord.t,Ord.z,Ord.s]
       refine Ord.tk (i:=8) (v:=.pointer (some ⟨MB,1,none⟩)) (hy:=Or.inl ⟨by rfl,by rintro W' ⟨q0,q1,q2,q3,q4,q5⟩; go_simp⟩) (hS:=hS) (h:=?_)
       try simp only [Act.put,Ord.t,Ord.z,Ord.s]
       refine Ord.tk (i:=9) (v:=.slice (some ⟨AO,0,none⟩) m pc) (hy:=Or.inl ⟨by rfl,by rintro W' ⟨q0,q1,q2,q3,q4,q5⟩; go_simp⟩) (hS:=hS) (h:=?_)
       try simp only [Act.put,Ord.t,Ord.z,Ord.s]
       refine Ord.tk (i:=10) (v:=.pointer (some ⟨I,3,none⟩)) (hy:=Or.inl ⟨by rfl,by rintro W' ⟨q0,q1,q2,q3,q4,q5⟩; go_simp⟩) (hS:=hS) (h:=?_)
       try simp only [Act.put,Ord.t,Ord.z,Ord.s]
       refine Ord.tk (i:=11) (v:=.int .i64 (kb : Int)) (hy:=Or.inl ⟨by rfl,by rintro W' ⟨q0,q1,q2,q3,q4,q5⟩; go_simp⟩) (hS:=hS) (h:=?_)
       try simp only [Act.put,Ord.t,Ord.z,Ord.s]
       refine Ord.tk (i:=12) (v:=.pointer (some ⟨AO,kb,none⟩)) (hy:=Or.inl ⟨by rfl,by rintro W' ⟨q0,q1,q2,q3,q4,q5⟩; go_simp⟩) (hS:=hS) (h:=?_)
       try simp only [Act.put,Ord.t,Ord.z,Ord.s]
       refine Ord.tk (i:=13) (v:=.slice (some ⟨gb,0,none⟩) RL cr) (hy:=Or.inl ⟨by rfl,by rintro W' ⟨q0,q1,q2,q3,q4,q5⟩; go_simp⟩) (hS:=hS) (h:=?_)
       try simp only [Act.put,Ord.t,Ord.z,Ord.s]
       refine Ord.tk (i:=14) (v:=.int .i64 (kv : Int)) (hy:=Or.inl ⟨by rfl,by rintro W' ⟨q0,q1,q2,q3,q4,q5⟩; go_simp⟩) (hS:=hS) (h:=?_)
       try simp only [Act.put,Ord.t,Ord.z,Ord.s]
       refine Ord.tk (i:=15) (v:=.pointer (some ⟨gb,kv,none⟩)) (hy:=Or.inl ⟨by rfl,by rintro W' ⟨q0,q1,q2,q3,q4,q5⟩; go_simp⟩) (hS:=hS) (h:=?_)
       try simp only [Act.put,Ord.t,Ord.z,Ord.s]
       refine Ord.tk (i:=16) (v:=.int .i64 x) (hy:=Or.inl ⟨by rfl,by rintro W' ⟨q0,q1,q2,q3,q4,q5⟩; go_simp⟩) (hS:=hS) (h:=?_)
       try simp only [Act.put,Ord.t,Ord.z,Ord.s]
       refine Ord.tk (i:=17) (v:=.pointer (some ⟨PB,kd,none⟩)) (hy:=Or.inl ⟨by rfl,by rintro W' ⟨q0,q1,q2,q3,q4,q5⟩; go_simp⟩) (hS:=hS) (h:=?_)
       try simp only [Act.put,Ord.t,Ord.z,Ord.s]
       obtain ⟨z1,z2⟩ := HPk.out wd3 HR4.out
       refine Ord.on (i:=18) (h:=fun K hK => ?_)
       go_simp
       refine hK.out _ _ (fun h => absurd h (by decide)) ?_
       clear hK K
       try simp only [Act.put,Ord.t,Ord.z,Ord.s]
       refine Ord.wpM_done (by kernel_rfl) ?_ _
       refine NoPanic.normal ?_
       have HG := keep (HEnd.out wd3 HR4.out HF5.out).1
       clear HSS hS z1 z2 HPk
       generalize wd3.setCell ⟨PB,kd,none⟩ (.int .i64 x) = wf at *
       go_wp2
       go_ret
       first | exact HG.out | (rw [hwr]; exact HG.out)
      ·have d1' : decide ((kv : Int) < (row.length : Int)) = false := decide_eq_false (by omega)
       have d2' : decide (kv < row.length) = false := decide_eq_false hlt
       have d3' : ¬ ((kv : Int) < (row.length : Int)) := by omega
       have HX0 : Hid (x = 0) := by show _ = _; rw [← HX.out,List.getD_eq_getElem?_getD,List.getElem?_eq_none (by omega)]; rfl
       have HE3 : Hid (∀ k,RDo md MB PB AO (.slice (some ⟨AO,0,none⟩) ps.length pc) P ps ⟨16,(kd : Int),(ka : Int),(kb : Int),c,imm⟩ at' w (.returned (.int .i64 ((at' : Int) + 1))) (w3.drewN k)) := fun k => (HEnd.out _ (HR2.out.below (below_drewN (Below.refl _ _) k)) (HF2.out.trans (Fs.of_below (below_drewN (Below.refl _ _) k)))).2 HX0.out
       clear HBg hlt HX HPk HX0
       generalize row.length = RL at *
       go_wp2
       go_quiet (fail)
       go_wp2
       go_ret
       first | exact (HE3.out _) | (rw [hwr]; exact (HE3.out _))
     ·have k16 : (op == 16) = false := by simpa using h16
      by_cases h17 : op = 17
      ·subst h17
       obtain ⟨a0,a1⟩ := HRd.out a (by rw [rds_sto rfl]; simp)
       obtain ⟨d0,d1⟩ := HRd.out d (by rw [rds_sto rfl]; simp)
       obtain ⟨e0,e1⟩ := hb (.inr rfl)
       obtain ⟨kd,rfl⟩ : ∃ k : Nat,d = (k : Int) := ⟨d.toNat,by omega⟩
       obtain ⟨ka,rfl⟩ : ∃ k : Nat,a = (k : Int) := ⟨a.toNat,by omega⟩
       obtain ⟨kb,rfl⟩ : ∃ k : Nat,b = (k : Int) := ⟨b.toNat,by omega⟩
       obtain ⟨gb,row,pc,cr,hg,hrow,hav,hcell,hrc,ex,hbk⟩ := HM.out.arr (b:=kb) (by omega)
       subst hav
       rw [hmm] at m1
       have hv0 := (HGW.out (ka : Int)).1
       obtain ⟨v,hv⟩ : ∃ v,gI P (ka : Int) = v := ⟨_,rfl⟩
       rw [hv] at hv0
       obtain ⟨kv,rfl⟩ : ∃ k : Nat,v = (k : Int) := ⟨v.toNat,by omega⟩
       have z3 : w1.cell? ⟨PB,ka,none⟩ = some (.int .i64 (kv : Int)) := by rw [← hv]; exact HPl.out w1 ka HB.out (by omega)
       obtain ⟨vd,hvd⟩ : ∃ v,gI P (kd : Int) = v := ⟨_,rfl⟩
       have HDd : Hid (∀ W,Below w1.heap.size w1 W → W.cell? ⟨PB,kd,none⟩ = some (.int .i64 vd)) := fun W hW => by rw [← hvd]; exact HPl.out W kd (HBw.out W hW) (by omega)
       have HA1 : Hid (∀ W,Below w1.heap.size w1 W → W.cell? ⟨AO,kb,none⟩ = some (.slice (some ⟨gb,0,none⟩) row.length cr)) := fun W hW => by rw [cell_below (HBw.out W hW) (lt_of_cell hcell)]; exact hcell
       have hA1 := HA1.out w1 (Below.refl _ _)
       have HM1 : Hid (∀ W,Below w1.heap.size w1 W → W.cell? ⟨MB,1,none⟩ = some (.slice (some ⟨AO,0,none⟩) m pc)) := fun W hW => by rw [cell_below hW (lt_of_cell m1)]; exact m1
       have hz0 : (0 : Int) ≤ (kv : Int) := by omega
       by_cases hlt : kv < row.length
       ·obtain ⟨u,hu⟩ : ∃ u,row[kv]? = some u := ⟨_,List.getElem?_eq_getElem (by omega)⟩
        have HE : Hid (∀ W,Below w1.heap.size w1 W → RDo md MB PB AO (.slice (some ⟨AO,0,none⟩) ps.length pc) P ps ⟨17,(kd : Int),(ka : Int),(kb : Int),c,imm⟩ at' w (.returned (.int .i64 ((at' : Int) + 1))) (W.setCell ⟨gb,kv,none⟩ (.int .i64 vd))) := fun W hW => .stores rfl rfl rfl hg hrow hv (by omega) hvd HM.out (HBw.out W hW)
        have HU : Hid (∀ W,Below w1.heap.size w1 W → W.cell? ⟨gb,kv,none⟩ = some (.int .i64 u) ∧ W.frozen? ⟨gb,kv,none⟩ = false) := fun W hW => by
         have hk := hbk.fs (Fs.of_below (l:=[]) (HBw.out W hW)) (by simp)
         exact ⟨hk.cell kv (by rw [List.getElem?_append_left (by simpa using hlt),List.getElem?_map,hu]; rfl),hk.fr kv⟩
        have d1' : decide ((kv : Int) < (row.length : Int)) = true := decide_eq_true (by omega)
        have hlz : (kv : Int) < (row.length : Int) := by omega
        clear hg hrow hcell hbk hv hvd hrc hu hlt hmd hb hj ho1 ho2 hle
        generalize row.length = RL at *
        go_enter Try.func48,Try.ntmps48
        go_wp2_with (first | rw [HW1.out] | rw [HI.out] | fail)
        go_quiet (fail)
        generalize nq = nq0 at *
        go_wp2
        go_quiet (fail)
        go_wp2
        have HSS : Hid (∀ W',Below w1.heap.size w1 W' → W'.cell? ⟨MB,0,none⟩ = some (.slice (some ⟨PB,0,none⟩) n n) ∧ W'.cell? ⟨MB,1,none⟩ = some (.slice (some ⟨AO,0,none⟩) m pc) ∧ W'.cell? ⟨I,1,none⟩ = some (.int .i64 (kd : Int)) ∧ W'.cell? ⟨I,3,none⟩ = some (.int .i64 (kb : Int)) ∧ W'.cell? ⟨AO,kb,none⟩ = some (.slice (some ⟨gb,0,none⟩) RL cr) ∧ W'.cell? ⟨PB,kd,none⟩ = some (.int .i64 vd)) := fun W' hW => ⟨(HBI.out W' hW).2.cell 0 rfl,HM1.out W' hW,(HBI.out W' hW).1.cell 1 rfl,(HBI.out W' hW).1.cell 3 rfl,HA1.out W' hW,HDd.out W' hW⟩
        refine wp_region_noPanic ?_
        refine Ord.wpM_begin (fun W' : World => W'.cell? ⟨MB,0,none⟩ = some (.slice (some ⟨PB,0,none⟩) n n) ∧ W'.cell? ⟨MB,1,none⟩ = some (.slice (some ⟨AO,0,none⟩) m pc) ∧ W'.cell? ⟨I,1,none⟩ = some (.int .i64 (kd : Int)) ∧ W'.cell? ⟨I,3,none⟩ = some (.int .i64 (kb : Int)) ∧ W'.cell? ⟨AO,kb,none⟩ = some (.slice (some ⟨gb,0,none⟩) RL cr) ∧ W'.cell? ⟨PB,kd,none⟩ = some (.int .i64 vd)) [0,1,2,3,4,5,6,7,8,9,10,11,12,13,14,15,16,17] (by kernel_rfl) ?_
        have HD2 : Hid (Below w1.heap.size w1 ((w1.drewN nq0).drewN nq).drew) := Below.drew (below_drewN (below_drewN (Below.refl _ _) nq0) nq)
        generalize ((w1.drewN nq0).drewN nq).drew = wd2 at *
        have hS := HSS.out wd2 HD2.out
        refine Ord.tk (i:=0) (v:=.pointer (some ⟨MB,0,none⟩)) (hy:=Or.inl ⟨by rfl,by rintro W' ⟨q0,q1,q2,q3,q4,q5⟩; go_simp⟩) (hS:=hS) (h:=?_)
        try simp only [Act.put,Ord.t,Ord.z,Ord.s]
        refine Ord.tk (i:=1) (v:=.pointer (some ⟨MB,0,none⟩)) (hy:=Or.inl ⟨by rfl,by rintro W' ⟨q0,q1,q2,q3,q4,q5⟩; go_simp⟩) (hS:=hS) (h:=?_)
        try simp only [Act.put,Ord.t,Ord.z,Ord.s]
        refine Ord.tk (i:=2) (v:=.pointer (some ⟨MB,1,none⟩)) (hy:=Or.inl ⟨by rfl,by rintro W' ⟨q0,q1,q2,q3,q4,q5⟩; go_simp⟩) (hS:=hS) (h:=?_)
        try simp only [Act.put,Ord.t,Ord.z,Ord.s]
        refine Ord.tk (i:=3) (v:=.slice (some ⟨AO,0,none⟩) m pc) (hy:=Or.inl ⟨by rfl,by rintro W' ⟨q0,q1,q2,q3,q4,q5⟩; go_simp⟩) (hS:=hS) (h:=?_)
        try simp only [Act.put,Ord.t,Ord.z,Ord.s]
        refine Ord.tk (i:=4) (v:=.pointer (some ⟨I,3,none⟩)) (hy:=Or.inl ⟨by rfl,by rintro W' ⟨q0,q1,q2,q3,q4,q5⟩; go_simp⟩) (hS:=hS) (h:=?_)
        try simp only [Act.put,Ord.t,Ord.z,Ord.s]
        refine Ord.tk (i:=5) (v:=.int .i64 (kb : Int)) (hy:=Or.inl ⟨by rfl,by rintro W' ⟨q0,q1,q2,q3,q4,q5⟩; go_simp⟩) (hS:=hS) (h:=?_)
        try simp only [Act.put,Ord.t,Ord.z,Ord.s]
        refine Ord.tk (i:=6) (v:=.pointer (some ⟨AO,kb,none⟩)) (hy:=Or.inl ⟨by rfl,by rintro W' ⟨q0,q1,q2,q3,q4,q5⟩; go_simp⟩) (hS:=hS) (h:=?_)
        try simp only [Act.put,Ord.t,Ord.z,Ord.s]
        refine Ord.tk (i:=7) (v:=.slice (some ⟨gb,0,none⟩) RL cr) (hy:=Or.inl ⟨by rfl,by rintro W' ⟨q0,q1,q2,q3,q4,q5⟩; go_simp⟩) (hS:=hS) (h:=?_)
        try simp only [Act.put,Ord.t,Ord.z,Ord.s]
        refine Ord.tk (i:=8) (v:=.int .i64 (kv : Int)) (hy:=Or.inl ⟨by rfl,by rintro W' ⟨q0,q1,q2,q3,q4,q5⟩; go_simp⟩) (hS:=hS) (h:=?_)
        try simp only [Act.put,Ord.t,Ord.z,Ord.s]
        refine Ord.tk (i:=9) (v:=.pointer (some ⟨MB,0,none⟩)) (hy:=Or.inl ⟨by rfl,by rintro W' ⟨q0,q1,q2,q3,q4,q5⟩; go_simp⟩) (hS:=hS) (h:=?_)
        try simp only [Act.put,Ord.t,Ord.z,Ord.s]
        refine Ord.tk (i:=10) (v:=.pointer (some ⟨MB,0,none⟩)) (hy:=Or.inl ⟨by rfl,by rintro W' ⟨q0,q1,q2,q3,q4,q5⟩; go_simp⟩) (hS:=hS) (h:=?_)
        try simp only [Act.put,Ord.t,Ord.z,Ord.s]
        refine Ord.tk (i:=11) (v:=.pointer (some ⟨MB,0,none⟩)) (hy:=Or.inl ⟨by rfl,by rintro W' ⟨q0,q1,q2,q3,q4,q5⟩; go_simp⟩) (hS:=hS) (h:=?_)
        try simp only [Act.put,Ord.t,Ord.z,Ord.s]
        refine Ord.tk (i:=12) (v:=.slice (some ⟨PB,0,none⟩) n n) (hy:=Or.inl ⟨by rfl,by rintro W' ⟨q0,q1,q2,q3,q4,q5⟩; go_simp⟩) (hS:=hS) (h:=?_)
        try simp only [Act.put,Ord.t,Ord.z,Ord.s]
        refine Ord.tk (i:=13) (v:=.pointer (some ⟨I,1,none⟩)) (hy:=Or.inl ⟨by rfl,by rintro W' ⟨q0,q1,q2,q3,q4,q5⟩; go_simp⟩) (hS:=hS) (h:=?_)
        try simp only [Act.put,Ord.t,Ord.z,Ord.s]
        refine Ord.tk (i:=14) (v:=.int .i64 (kd : Int)) (hy:=Or.inl ⟨by rfl,by rintro W' ⟨q0,q1,q2,q3,q4,q5⟩; go_simp⟩) (hS:=hS) (h:=?_)
        try simp only [Act.put,Ord.t,Ord.z,Ord.s]
        refine Ord.tk (i:=15) (v:=.pointer (some ⟨PB,kd,none⟩)) (hy:=Or.inl ⟨by rfl,by rintro W' ⟨q0,q1,q2,q3,q4,q5⟩; go_simp⟩) (hS:=hS) (h:=?_)
        try simp only [Act.put,Ord.t,Ord.z,Ord.s]
        refine Ord.tk (i:=16) (v:=.int .i64 vd) (hy:=Or.inl ⟨by rfl,by rintro W' ⟨q0,q1,q2,q3,q4,q5⟩; go_simp⟩) (hS:=hS) (h:=?_)
        try simp only [Act.put,Ord.t,Ord.z,Ord.s]
        refine Ord.tk (i:=17) (v:=.pointer (some ⟨gb,kv,none⟩)) (hy:=Or.inl ⟨by rfl,by rintro W' ⟨q0,q1,q2,q3,q4,q5⟩; go_simp⟩) (hS:=hS) (h:=?_)
        try simp only [Act.put,Ord.t,Ord.z,Ord.s]
        have z1 := (HU.out wd2 HD2.out).1
        have z2 := (HU.out wd2 HD2.out).2
        refine Ord.on (i:=18) (h:=fun K hK => ?_)
        go_simp
        refine hK.out _ _ (fun h => absurd h (by decide)) ?_
        clear hK K
        try simp only [Act.put,Ord.t,Ord.z,Ord.s]
        refine Ord.wpM_done (by kernel_rfl) ?_ _
        refine NoPanic.normal ?_
        clear HSS
        have HG := keep (HE.out _ HD2.out)
        clear hS HE HU z1 z2
        generalize wd2.setCell ⟨gb,kv,none⟩ (.int .i64 vd) = wf at *
        go_wp2
        go_ret
        first | exact HG.out | (rw [hwr]; exact HG.out)
       ·have HE : Hid (∀ W,Below w1.heap.size w1 W → RDo md MB PB AO (.slice (some ⟨AO,0,none⟩) ps.length pc) P ps ⟨17,(kd : Int),(ka : Int),(kb : Int),c,imm⟩ at' w (.returned (.int .i64 ((at' : Int) + 1))) W) := fun W hW => .same (by rw [if_neg (by simp),nx_on (by simp) (by simp)]; rfl) rfl (by unfold arr; rw [if_neg (fun x => hlt (by have := x.2; dsimp only at this; rw [hv,hrow] at this; omega))]) HM.out (HBw.out W hW)
        have d1' : decide ((kv : Int) < (row.length : Int)) = false := decide_eq_false (by omega)
        have d2' : decide (kv < row.length) = false := decide_eq_false hlt
        have d3' : ¬ ((kv : Int) < (row.length : Int)) := by omega
        have HE3 : Hid (∀ j,RDo md MB PB AO (.slice (some ⟨AO,0,none⟩) ps.length pc) P ps ⟨17,(kd : Int),(ka : Int),(kb : Int),c,imm⟩ at' w (.returned (.int .i64 ((at' : Int) + 1))) (w1.drewN j)) := fun j => HE.out _ (below_drewN (Below.refl _ _) j)
        clear hg hrow hcell hbk hv hvd hrc hlt HE hmd hb hj ho1 ho2 hle
        generalize row.length = RL at *
        go_enter Try.func48,Try.ntmps48
        go_wp2_with (first | rw [HW1.out] | rw [HI.out] | fail)
        go_quiet (fail)
        go_wp2
        go_quiet (fail)
        go_wp2
        go_ret
        first | exact (HE3.out _) | (rw [hwr]; exact (HE3.out _))
      ·have k17 : (op == 17) = false := by simpa using h17
       by_cases h18 : op = 18
       ·subst h18
        have hi0 := hj (.inl rfl)
        have HG : Hid (RDo md MB PB AO av P ps ⟨18,d,a,b,c,imm⟩ at' w (.returned (.int .i64 imm)) w1) := .same (by rw [if_neg (by simp)]; show imm = ((imm.toNat : Nat) : Int); omega) rfl rfl HM.out HB.out
        clear hi0 hmd hb hj ho1 ho2 hle
        go_enter Try.func48,Try.ntmps48
        go_wp2_with (first | rw [HW1.out] | rw [HI.out] | fail)
        go_ret
        exact HG.out
       ·have k18 : (op == 18) = false := by simpa using h18
        by_cases h19 : op = 19
        ·subst h19
         have hi0 := hj (.inr rfl)
         obtain ⟨a0,a1⟩ := HRd.out a (by rw [rds_one (.inr (.inr (.inl rfl)))]; simp)
         obtain ⟨ka,rfl⟩ : ∃ k : Nat,a = (k : Int) := ⟨a.toNat,by omega⟩
         have z3 := HPl.out w1 ka HB.out (by omega)
         have HE : Hid (∀ (j : Nat) (k : Int),k = (if gI P (ka : Int) = 0 then imm else (at' : Int) + 1) → RDo md MB PB AO av P ps ⟨19,d,(ka : Int),b,c,imm⟩ at' w (.returned (.int .i64 k)) (w1.drewN j)) := fun j k hk => .same (by rw [if_neg (by simp),hk]; exact (nx_zero (i:=⟨19,d,(ka : Int),b,c,imm⟩) rfl hi0).symm) rfl rfl HM.out (below_drewN HB.out j)
         generalize gI P (ka : Int) = va at *
         clear hi0 hmd hb hj ho1 ho2 hle
         by_cases hz : va = 0
         ·subst hz
          go_enter Try.func48,Try.ntmps48
          go_wp2_with (first | rw [HW1.out] | rw [HI.out] | fail)
          go_quiet (fail)
          go_wp2
          go_ret
          exact HE.out _ _ rfl
         ·have kz : (va == 0) = false := by simpa using hz
          have HG := keep (fun j => HE.out j ((at' : Int) + 1) (by rw [if_neg hz]))
          clear hz
          go_enter Try.func48,Try.ntmps48
          go_wp2_with (first | rw [HW1.out] | rw [HI.out] | fail)
          go_quiet (fail)
          go_wp2
          go_ret
          first | exact (HG.out _) | (rw [hwr]; exact (HG.out _))
        ·have k19 : (op == 19) = false := by simpa using h19
         by_cases h20 : op = 20
         ·subst h20
          have HG : Hid (∀ j,RDo md MB PB AO av P ps ⟨20,d,a,b,c,imm⟩ at' w (.returned (.int .i64 (-1))) (w1.drewN j)) := fun j => .same (by rw [if_pos (by simp)]) rfl rfl HM.out (below_drewN HB.out j)
          clear hmd hb hj ho1 ho2 hle
          go_enter Try.func48,Try.ntmps48
          go_wp2_with (first | rw [HW1.out] | rw [HI.out] | fail)
          go_quiet (fail)
          go_wp2
          go_ret
          exact HG.out _
         ·have k20 : (op == 20) = false := by simpa using h20
          by_cases h21 : op = 21
          ·subst h21
           have HG : Hid (∀ j,RDo md MB PB AO av P ps ⟨21,d,a,b,c,imm⟩ at' w (.returned (.int .i64 (-1))) (w1.drewN j)) := fun j => .same (by rw [if_pos (by simp)]) rfl rfl HM.out (below_drewN HB.out j)
           clear hmd hb hj ho1 ho2 hle
           go_enter Try.func48,Try.ntmps48
           go_wp2_with (first | rw [HW1.out] | rw [HI.out] | fail)
           go_quiet (fail)
           go_wp2
           go_ret
           exact HG.out _
          ·have k21 : (op == 21) = false := by simpa using h21
           exfalso; omega
end Go.Proofs.Ytpnacanbknejiaa.Fl
