/- How the document's machine has ended: its ended. Written by tools/gen_frend.py. -/
import Derived.Test.YtpnacanbknejiaaFrMach
namespace Go.Proofs.Ytpnacanbknejiaa.Fl
set_option maxHeartbeats 32000000
set_option maxRecDepth 100000
set_option linter.unusedVariables false
set_option linter.unusedSimpArgs false
open Go.ChangeShapes Go.WideShapes Go.ChangeAt Go.RowKit Lg Lr
def REndP (av : Value) (P : List Int) (i : Ix) (w : World) (r : Ending) (w' : World) : Prop := r = .returned (.agg #[.int .i64 (if i.op = 21 then 0 else gI P i.a),.bool (decide (i.op = 21)),av]) ∧ Below w.heap.size w w'
theorem rended_any {md : Int} (MB PB AO : Nat) (av : Value) (P : List Int) (ps : List (Nat × List Int)) (i : Ix) (w : World) (h : RM md w MB PB AO av P ps) (hL : P.length ≤ 17592186044416) (ho : i.op = 20 ∨ i.op = 21) (ha : i.op = 20 → 0 ≤ i.a ∧ i.a < P.length) :
  Calls Try.prog 49 #[.pointer (some ⟨MB,0,none⟩),.agg (ixA i)] w fun r w' => REndP av P i w r w' := by
 obtain ⟨pv,c0,hav,hc0,_⟩ := id h.ar.av
 obtain ⟨nA,hnA⟩ : ∃ y,ps.length = y := ⟨_,rfl⟩
 rw [hnA] at hav
 subst hav
 obtain ⟨op,d,a,b,c,imm⟩ := i
 dsimp only at ho ha
 have HM := keep h
 obtain ⟨n,hn⟩ : ∃ n,P.length = n := ⟨_,rfl⟩
 rw [hn] at hL ha
 have HNN := keep hn
 obtain ⟨w1,hw1⟩ : ∃ y,w.alloc (.cells #[.int .i64 op,.int .i64 d,.int .i64 a,.int .i64 b,.int .i64 c,.int .i64 imm] 35) = y := ⟨_,rfl⟩
 obtain ⟨I,hI⟩ : ∃ y,w.heap.size = y := ⟨_,rfl⟩
 obtain ⟨w2,hw2⟩ : ∃ y,w1.alloc (.cells #[.int .i64 0,.bool false,.slice none 0 0] 51) = y := ⟨_,rfl⟩
 obtain ⟨E,hE⟩ : ∃ y,w1.heap.size = y := ⟨_,rfl⟩
 have b1 : Below w.heap.size w w1 := by rw [← hw1]; exact (Below.refl _ _).alloc (Nat.le_refl _) _
 have b2 : Below w1.heap.size w1 w2 := by rw [← hw2]; exact (Below.refl _ _).alloc (Nat.le_refl _) _
 have b12 := b1.trans (b2.mono b1.size)
 have kI1 : Bk w1 I [.int .i64 op,.int .i64 d,.int .i64 a,.int .i64 b,.int .i64 c,.int .i64 imm] 35 := by rw [← hw1,← hI]; exact Bk.new _ _ _
 have kI := kI1.fs (Fs.of_below (l:=[]) b2) (by simp)
 have kE : Bk w2 E [.int .i64 0,.bool false,.slice none 0 0] 51 := by rw [← hw2,← hE]; exact Bk.new _ _ _
 have kM := h.m.fs (Fs.of_below (l:=[]) b12) (by simp)
 rw [hn] at kM
 have HkE := keep kE
 have HLt : Hid (I < E ∧ w.heap.size ≤ I ∧ w.heap.size ≤ E) := ⟨by rw [← hE]; exact kI1.lt,by show _ ≤ _; omega,by rw [← hE]; exact b1.size⟩
 have HBI : Hid (∀ W,Below w2.heap.size w2 W → Bk W I [.int .i64 op,.int .i64 d,.int .i64 a,.int .i64 b,.int .i64 c,.int .i64 imm] 35 ∧ Bk W MB [.slice (some ⟨PB,0,none⟩) n n,.slice pv nA c0,.int .i64 md] 97 ∧ Bk W E [.int .i64 0,.bool false,.slice none 0 0] 51) := fun W hW => ⟨kI.fs (Fs.of_below (l:=[]) hW) (by simp),kM.fs (Fs.of_below (l:=[]) hW) (by simp),kE.fs (Fs.of_below (l:=[]) hW) (by simp)⟩
 have HPl : Hid (∀ W,Below w2.heap.size w2 W → Bk W PB (P.map (Value.int .i64)) 3) := fun W hW => (h.below (b12.trans (hW.mono b12.size))).pl
 have y0 := kI.cell 0 rfl
 have m1 := kM.cell 1 rfl
 have HW1 := keep hw1
 have HW2 := keep hw2
 have HI := keep hI
 have HE := keep hE
 have HB := keep b12
 have HBw : Hid (∀ W,Below w2.heap.size w2 W → Below w.heap.size w W) := fun W hW => b12.trans (hW.mono b12.size)
 have HSS : Hid (∀ W',Below w2.heap.size w2 W' → W'.cell? ⟨I,0,none⟩ = some (.int .i64 op) ∧ W'.cell? ⟨MB,1,none⟩ = some (.slice pv nA c0)) := fun W' hW => ⟨(HBI.out W' hW).1.cell 0 rfl,(HBI.out W' hW).2.1.cell 1 rfl⟩
 have HA := keep ha
 unfold ixA
 dsimp only
 clear hw1 hw2 hI hE b1 b2 b12 kI1 kI kE kM h ha
 by_cases h21 : op = 21
 ·subst h21
  have HG : Hid (∀ W,Below w.heap.size w W → REndP (.slice pv nA c0) P ⟨21,d,a,b,c,imm⟩ w (.returned (.agg #[.int .i64 0,.bool true,.slice pv nA c0])) W) := fun W hW => ⟨rfl,hW⟩
  clear ho
  go_enter Try.func49,Try.ntmps49
  go_wp2_with (first | rw [HW1.out] | rw [HW2.out] | rw [HI.out] | rw [HE.out] | fail)
  refine wp_region_noPanic ?_
  refine Ord.wpM_begin (fun W' : World => W'.cell? ⟨I,0,none⟩ = some (.int .i64 21) ∧ W'.cell? ⟨MB,1,none⟩ = some (.slice pv nA c0)) [0,1,2,3,4,5,6,7,8] (by kernel_rfl) ?_
  have HD : Hid (Below w2.heap.size w2 w2.drew) := Below.drew (Below.refl _ _)
  generalize w2.drew = wd at *
  have hS := HSS.out wd HD.out
  refine Ord.tk (i:=0) (v:=.pointer (some ⟨I,0,none⟩)) (hy:=Or.inl ⟨by rfl,by rintro W' ⟨q0,q1⟩; go_simp⟩) (hS:=hS) (h:=?_)
  try simp only [Act.put,Ord.t,Ord.z,Ord.s]
  refine Ord.tk (i:=1) (v:=.int .i64 21) (hy:=Or.inl ⟨by rfl,by rintro W' ⟨q0,q1⟩; go_simp⟩) (hS:=hS) (h:=?_)
  try simp only [Act.put,Ord.t,Ord.z,Ord.s]
  refine Ord.tk (i:=2) (v:=.bool true) (hy:=Or.inl ⟨by rfl,by rintro W' ⟨q0,q1⟩; go_simp⟩) (hS:=hS) (h:=?_)
  try simp only [Act.put,Ord.t,Ord.z,Ord.s]
  refine Ord.tk (i:=3) (v:=.pointer (some ⟨MB,0,none⟩)) (hy:=Or.inl ⟨by rfl,by rintro W' ⟨q0,q1⟩; go_simp⟩) (hS:=hS) (h:=?_)
  try simp only [Act.put,Ord.t,Ord.z,Ord.s]
  refine Ord.tk (i:=4) (v:=.pointer (some ⟨MB,0,none⟩)) (hy:=Or.inl ⟨by rfl,by rintro W' ⟨q0,q1⟩; go_simp⟩) (hS:=hS) (h:=?_)
  try simp only [Act.put,Ord.t,Ord.z,Ord.s]
  refine Ord.tk (i:=5) (v:=.pointer (some ⟨MB,1,none⟩)) (hy:=Or.inl ⟨by rfl,by rintro W' ⟨q0,q1⟩; go_simp⟩) (hS:=hS) (h:=?_)
  try simp only [Act.put,Ord.t,Ord.z,Ord.s]
  refine Ord.tk (i:=6) (v:=.slice pv nA c0) (hy:=Or.inl ⟨by rfl,by rintro W' ⟨q0,q1⟩; go_simp⟩) (hS:=hS) (h:=?_)
  try simp only [Act.put,Ord.t,Ord.z,Ord.s]
  refine Ord.tk (i:=7) (v:=.agg #[.int .i64 0,.bool true,.slice pv nA c0]) (hy:=Or.inl ⟨by rfl,by rintro W' ⟨q0,q1⟩; go_simp⟩) (hS:=hS) (h:=?_)
  try simp only [Act.put,Ord.t,Ord.z,Ord.s]
  refine Ord.on (i:=8) (h:=fun K hK => ?_)
  go_simp
  obtain ⟨wx,hwx⟩ : ∃ y,wd.alloc (.cells #[.int .i64 0,.bool false,.slice none 0 0] 51) = y := ⟨_,rfl⟩
  obtain ⟨XB,hXB⟩ : ∃ y,wd.heap.size = y := ⟨_,rfl⟩
  have HkX : Hid (Bk wx XB [.int .i64 0,.bool false,.slice none 0 0] 51) := by show Bk _ _ _ _; rw [← hwx,← hXB]; exact Bk.new _ _ _
  have HBx : Hid (Below w2.heap.size w2 wx) := by show Below _ _ _; rw [← hwx]; exact HD.out.trans (((Below.refl _ _).alloc (Nat.le_refl _) _).mono HD.out.size)
  have HXn : Hid (w2.heap.size ≤ XB) := by show _ ≤ _; rw [← hXB]; exact HD.out.size
  (try rw [hwx]); (try rw [hXB])
  refine hK.out _ _ (fun _ => HSS.out wx HBx.out) ?_
  clear hK K hwx hXB
  try simp only [Act.put,Ord.t,Ord.z,Ord.s]
  obtain ⟨k1,k2⟩ := set_three HkX.out (.int .i64 0) (.bool true) (.slice pv nA c0)
  have HK1 := keep k1
  have HK2 := keep k2
  clear k1 k2
  refine Ord.on (i:=9) (h:=fun K hK => ?_)
  refine step_store_mid rfl 51 (.tmp 5) (.tmp 13) rfl XB 0 #[.int .i64 0,.bool true,.slice pv nA c0] rfl rfl (three_there HkX.out) (by kernel_rfl) (by simp [Value.oneCell']) ?_
  refine hK.out _ _ (fun h => absurd h (by decide)) ?_
  clear hK K
  try simp only [Act.put,Ord.t,Ord.z,Ord.s]
  refine Ord.wpM_done (by kernel_rfl) ?_ _
  refine NoPanic.normal ?_
  obtain ⟨w5,hw5⟩ : ∃ y,wx.setCells XB 0 [.int .i64 0,.bool true,.slice pv nA c0] = y := ⟨_,rfl⟩
  have HB5 : Hid (Below w2.heap.size w2 w5) := by show Below _ _ _; rw [← hw5]; exact HBx.out.trans (HK2.out.below HBx.out.size (fun k hk => by simp at hk; have := HXn.out; omega))
  have HK5 : Hid (Bk w5 XB [.int .i64 0,.bool true,.slice pv nA c0] 51) := by show Bk _ _ _ _; rw [← hw5]; exact HK1.out
  first | rw [hw5] | (simp only [List.toList_toArray] at *; rw [hw5]) | skip
  clear HK1 HK2 hw5 hS HSS HkX HBx y0 m1
  obtain ⟨kI,kM,kE⟩ := HBI.out w5 HB5.out
  have x0 := HK5.out.cell 0 rfl
  have x1 := HK5.out.cell 1 rfl
  have x2 := HK5.out.cell 2 rfl
  have e0 := kE.cell 0 rfl
  have e1 := kE.cell 1 rfl
  have e2 := kE.cell 2 rfl
  have r0 := kE.fr 0
  have r1 := kE.fr 1
  have r2 := kE.fr 2
  obtain ⟨k1,k2⟩ := set_three kE (.int .i64 0) (.bool true) (.slice pv nA c0)
  have HK1 := keep k1
  have HK2 : Hid (Below w.heap.size w (w5.setCells E 0 [.int .i64 0,.bool true,.slice pv nA c0])) := (HBw.out w5 HB5.out).trans (k2.below (HBw.out w5 HB5.out).size (fun k hk => by simp at hk; have := HLt.out; omega))
  clear k1 k2 kI kM kE
  go_wp2_with fail
  refine bodyPost_ret (results_cell_row rfl _ _ E _ #[.int .i64 0,.bool true,.slice pv nA c0] (0,0) _ rfl HK1.out Try.underlying51 rfl (by kernel_rfl)) rfl ?_
  exact HG.out _ HK2.out
 ·obtain rfl : op = 20 := by omega
  obtain ⟨a0,a1⟩ := HA.out rfl
  obtain ⟨ka,rfl⟩ : ∃ k : Nat,a = (k : Int) := ⟨a.toNat,by omega⟩
  have HG : Hid (∀ W,Below w.heap.size w W → REndP (.slice pv nA c0) P ⟨20,d,(ka : Int),b,c,imm⟩ w (.returned (.agg #[.int .i64 (gI P (ka : Int)),.bool false,.slice pv nA c0])) W) := fun W hW => ⟨rfl,hW⟩
  have HPa : Hid (∀ W,Below w2.heap.size w2 W → W.cell? ⟨PB,ka,none⟩ = some (.int .i64 (gI P (ka : Int)))) := fun W hW => (HPl.out W hW).cell ka (by unfold gI; rw [List.getElem?_map,Int.toNat_natCast,List.getD_eq_getElem?_getD,List.getElem?_eq_getElem (by rw [HNN.out]; omega)]; rfl)
  generalize gI P (ka : Int) = va at *
  clear ho h21 HA
  go_enter Try.func49,Try.ntmps49
  go_wp2_with (first | rw [HW1.out] | rw [HW2.out] | rw [HI.out] | rw [HE.out] | fail)
  refine wp_region_noPanic ?_
  refine Ord.wpM_begin (fun W' : World => W'.cell? ⟨I,0,none⟩ = some (.int .i64 20) ∧ W'.cell? ⟨MB,1,none⟩ = some (.slice pv nA c0)) [0,1,2,3,4,5,6,7,8] (by kernel_rfl) ?_
  have HD : Hid (Below w2.heap.size w2 w2.drew) := Below.drew (Below.refl _ _)
  generalize w2.drew = wd at *
  have hS := HSS.out wd HD.out
  refine Ord.tk (i:=0) (v:=.pointer (some ⟨I,0,none⟩)) (hy:=Or.inl ⟨by rfl,by rintro W' ⟨q0,q1⟩; go_simp⟩) (hS:=hS) (h:=?_)
  try simp only [Act.put,Ord.t,Ord.z,Ord.s]
  refine Ord.tk (i:=1) (v:=.int .i64 20) (hy:=Or.inl ⟨by rfl,by rintro W' ⟨q0,q1⟩; go_simp⟩) (hS:=hS) (h:=?_)
  try simp only [Act.put,Ord.t,Ord.z,Ord.s]
  refine Ord.tk (i:=2) (v:=.bool false) (hy:=Or.inl ⟨by rfl,by rintro W' ⟨q0,q1⟩; go_simp⟩) (hS:=hS) (h:=?_)
  try simp only [Act.put,Ord.t,Ord.z,Ord.s]
  refine Ord.tk (i:=3) (v:=.pointer (some ⟨MB,0,none⟩)) (hy:=Or.inl ⟨by rfl,by rintro W' ⟨q0,q1⟩; go_simp⟩) (hS:=hS) (h:=?_)
  try simp only [Act.put,Ord.t,Ord.z,Ord.s]
  refine Ord.tk (i:=4) (v:=.pointer (some ⟨MB,0,none⟩)) (hy:=Or.inl ⟨by rfl,by rintro W' ⟨q0,q1⟩; go_simp⟩) (hS:=hS) (h:=?_)
  try simp only [Act.put,Ord.t,Ord.z,Ord.s]
  refine Ord.tk (i:=5) (v:=.pointer (some ⟨MB,1,none⟩)) (hy:=Or.inl ⟨by rfl,by rintro W' ⟨q0,q1⟩; go_simp⟩) (hS:=hS) (h:=?_)
  try simp only [Act.put,Ord.t,Ord.z,Ord.s]
  refine Ord.tk (i:=6) (v:=.slice pv nA c0) (hy:=Or.inl ⟨by rfl,by rintro W' ⟨q0,q1⟩; go_simp⟩) (hS:=hS) (h:=?_)
  try simp only [Act.put,Ord.t,Ord.z,Ord.s]
  refine Ord.tk (i:=7) (v:=.agg #[.int .i64 0,.bool false,.slice pv nA c0]) (hy:=Or.inl ⟨by rfl,by rintro W' ⟨q0,q1⟩; go_simp⟩) (hS:=hS) (h:=?_)
  try simp only [Act.put,Ord.t,Ord.z,Ord.s]
  refine Ord.on (i:=8) (h:=fun K hK => ?_)
  go_simp
  obtain ⟨wx,hwx⟩ : ∃ y,wd.alloc (.cells #[.int .i64 0,.bool false,.slice none 0 0] 51) = y := ⟨_,rfl⟩
  obtain ⟨XB,hXB⟩ : ∃ y,wd.heap.size = y := ⟨_,rfl⟩
  have HkX : Hid (Bk wx XB [.int .i64 0,.bool false,.slice none 0 0] 51) := by show Bk _ _ _ _; rw [← hwx,← hXB]; exact Bk.new _ _ _
  have HBx : Hid (Below w2.heap.size w2 wx) := by show Below _ _ _; rw [← hwx]; exact HD.out.trans (((Below.refl _ _).alloc (Nat.le_refl _) _).mono HD.out.size)
  have HXn : Hid (w2.heap.size ≤ XB) := by show _ ≤ _; rw [← hXB]; exact HD.out.size
  (try rw [hwx]); (try rw [hXB])
  refine hK.out _ _ (fun _ => HSS.out wx HBx.out) ?_
  clear hK K hwx hXB
  try simp only [Act.put,Ord.t,Ord.z,Ord.s]
  obtain ⟨k1,k2⟩ := set_three HkX.out (.int .i64 0) (.bool false) (.slice pv nA c0)
  have HK1 := keep k1
  have HK2 := keep k2
  clear k1 k2
  refine Ord.on (i:=9) (h:=fun K hK => ?_)
  refine step_store_mid rfl 51 (.tmp 5) (.tmp 13) rfl XB 0 #[.int .i64 0,.bool false,.slice pv nA c0] rfl rfl (three_there HkX.out) (by kernel_rfl) (by simp [Value.oneCell']) ?_
  refine hK.out _ _ (fun h => absurd h (by decide)) ?_
  clear hK K
  try simp only [Act.put,Ord.t,Ord.z,Ord.s]
  refine Ord.wpM_done (by kernel_rfl) ?_ _
  refine NoPanic.normal ?_
  obtain ⟨w5,hw5⟩ : ∃ y,wx.setCells XB 0 [.int .i64 0,.bool false,.slice pv nA c0] = y := ⟨_,rfl⟩
  have HB5 : Hid (Below w2.heap.size w2 w5) := by show Below _ _ _; rw [← hw5]; exact HBx.out.trans (HK2.out.below HBx.out.size (fun k hk => by simp at hk; have := HXn.out; omega))
  have HK5 : Hid (Bk w5 XB [.int .i64 0,.bool false,.slice pv nA c0] 51) := by show Bk _ _ _ _; rw [← hw5]; exact HK1.out
  first | rw [hw5] | (simp only [List.toList_toArray] at *; rw [hw5]) | skip
  clear HK1 HK2 hw5 hS HSS HkX HBx y0 m1
  have x1 := HK5.out.cell 1 rfl
  go_wp2_with fail
  have HSS : Hid (∀ W',Below w2.heap.size w2 W' → W'.cell? ⟨MB,0,none⟩ = some (.slice (some ⟨PB,0,none⟩) n n) ∧ W'.cell? ⟨I,2,none⟩ = some (.int .i64 (ka : Int)) ∧ W'.cell? ⟨PB,ka,none⟩ = some (.int .i64 va)) := fun W' hW => ⟨(HBI.out W' hW).2.1.cell 0 rfl,(HBI.out W' hW).1.cell 2 rfl,HPa.out W' hW⟩
  refine wp_region_noPanic ?_
  refine Ord.wpM_begin (fun W' : World => W'.cell? ⟨MB,0,none⟩ = some (.slice (some ⟨PB,0,none⟩) n n) ∧ W'.cell? ⟨I,2,none⟩ = some (.int .i64 (ka : Int)) ∧ W'.cell? ⟨PB,ka,none⟩ = some (.int .i64 va)) [0,1,2,3,4,5,6,7,8] (by kernel_rfl) ?_
  have HD6 : Hid (Below w5.heap.size w5 w5.drew) := Below.drew (Below.refl _ _)
  have HK6 : Hid (Bk w5.drew XB [.int .i64 0,.bool false,.slice pv nA c0] 51) := HK5.out.fs (Fs.of_below (l:=[]) HD6.out) (by simp)
  have HB6 : Hid (Below w2.heap.size w2 w5.drew) := HB5.out.trans (HD6.out.mono HB5.out.size)
  generalize w5.drew = w6 at *
  have hS := HSS.out w6 HB6.out
  refine Ord.tk (i:=0) (v:=.pointer (some ⟨MB,0,none⟩)) (hy:=Or.inl ⟨by rfl,by rintro W' ⟨q0,q1,q2⟩; go_simp⟩) (hS:=hS) (h:=?_)
  try simp only [Act.put,Ord.t,Ord.z,Ord.s]
  refine Ord.tk (i:=1) (v:=.pointer (some ⟨MB,0,none⟩)) (hy:=Or.inl ⟨by rfl,by rintro W' ⟨q0,q1,q2⟩; go_simp⟩) (hS:=hS) (h:=?_)
  try simp only [Act.put,Ord.t,Ord.z,Ord.s]
  refine Ord.tk (i:=2) (v:=.pointer (some ⟨MB,0,none⟩)) (hy:=Or.inl ⟨by rfl,by rintro W' ⟨q0,q1,q2⟩; go_simp⟩) (hS:=hS) (h:=?_)
  try simp only [Act.put,Ord.t,Ord.z,Ord.s]
  refine Ord.tk (i:=3) (v:=.slice (some ⟨PB,0,none⟩) n n) (hy:=Or.inl ⟨by rfl,by rintro W' ⟨q0,q1,q2⟩; go_simp⟩) (hS:=hS) (h:=?_)
  try simp only [Act.put,Ord.t,Ord.z,Ord.s]
  refine Ord.tk (i:=4) (v:=.pointer (some ⟨I,2,none⟩)) (hy:=Or.inl ⟨by rfl,by rintro W' ⟨q0,q1,q2⟩; go_simp⟩) (hS:=hS) (h:=?_)
  try simp only [Act.put,Ord.t,Ord.z,Ord.s]
  refine Ord.tk (i:=5) (v:=.int .i64 (ka : Int)) (hy:=Or.inl ⟨by rfl,by rintro W' ⟨q0,q1,q2⟩; go_simp⟩) (hS:=hS) (h:=?_)
  try simp only [Act.put,Ord.t,Ord.z,Ord.s]
  refine Ord.tk (i:=6) (v:=.pointer (some ⟨PB,ka,none⟩)) (hy:=Or.inl ⟨by rfl,by rintro W' ⟨q0,q1,q2⟩; go_simp⟩) (hS:=hS) (h:=?_)
  try simp only [Act.put,Ord.t,Ord.z,Ord.s]
  refine Ord.tk (i:=7) (v:=.int .i64 va) (hy:=Or.inl ⟨by rfl,by rintro W' ⟨q0,q1,q2⟩; go_simp⟩) (hS:=hS) (h:=?_)
  try simp only [Act.put,Ord.t,Ord.z,Ord.s]
  refine Ord.tk (i:=8) (v:=.pointer (some ⟨XB,0,none⟩)) (hy:=Or.inl ⟨by rfl,by rintro W' ⟨q0,q1,q2⟩; go_simp⟩) (hS:=hS) (h:=?_)
  try simp only [Act.put,Ord.t,Ord.z,Ord.s]
  have z1 := HK6.out.cell 0 rfl
  have z2 := HK6.out.fr 0
  refine Ord.on (i:=9) (h:=fun K hK => ?_)
  go_simp
  refine hK.out _ _ (fun h => absurd h (by decide)) ?_
  clear hK K
  try simp only [Act.put,Ord.t,Ord.z,Ord.s]
  refine Ord.wpM_done (by kernel_rfl) ?_ _
  refine NoPanic.normal ?_
  obtain ⟨w7,hw7⟩ : ∃ y,w6.setCell ⟨XB,0,none⟩ (.int .i64 va) = y := ⟨_,rfl⟩
  have HK7 : Hid (Bk w7 XB [.int .i64 va,.bool false,.slice pv nA c0] 51) := by show Bk _ _ _ _; rw [← hw7]; exact HK6.out.set 0 _
  have HB7 : Hid (Below w2.heap.size w2 w7) := by show Below _ _ _; rw [← hw7]; exact HB6.out.trans (((Fs.refl [XB] w6).set (by simp) 0 _).below HB6.out.size (fun k hk => by simp at hk; have := HXn.out; omega))
  try rw [hw7]
  clear hw7 hS HSS z1 z2 x1 HK5 HK6
  obtain ⟨kI,kM,kE⟩ := HBI.out w7 HB7.out
  have x0 := HK7.out.cell 0 rfl
  have x1 := HK7.out.cell 1 rfl
  have x2 := HK7.out.cell 2 rfl
  have e0 := kE.cell 0 rfl
  have e1 := kE.cell 1 rfl
  have e2 := kE.cell 2 rfl
  have r0 := kE.fr 0
  have r1 := kE.fr 1
  have r2 := kE.fr 2
  obtain ⟨k1,k2⟩ := set_three kE (.int .i64 va) (.bool false) (.slice pv nA c0)
  have HK1 := keep k1
  have HK2 : Hid (Below w.heap.size w (w7.setCells E 0 [.int .i64 va,.bool false,.slice pv nA c0])) := (HBw.out w7 HB7.out).trans (k2.below (HBw.out w7 HB7.out).size (fun k hk => by simp at hk; have := HLt.out; omega))
  clear k1 k2 kI kM kE
  go_wp2_with fail
  refine bodyPost_ret (results_cell_row rfl _ _ E _ #[.int .i64 va,.bool false,.slice pv nA c0] (0,0) _ rfl HK1.out Try.underlying51 rfl (by kernel_rfl)) rfl ?_
  exact HG.out _ HK2.out
end Go.Proofs.Ytpnacanbknejiaa.Fl
