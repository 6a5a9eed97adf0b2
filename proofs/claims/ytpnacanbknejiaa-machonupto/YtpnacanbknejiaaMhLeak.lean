/- The program's machine: how it lies; whether an image can be begun; what is seen of a step. Written by tools/gen_mhleak.py. -/
import Derived.Test.YtpnacanbknejiaaMhLd
import Derived.Test.YtpnacanbknejiaaFlRun
namespace Go.Proofs.Ytpnacanbknejiaa.Mh
set_option maxHeartbeats 32000000
set_option maxRecDepth 100000
set_option linter.unusedVariables false
set_option linter.unusedSimpArgs false
open Go.ChangeShapes Go.WideShapes Go.ChangeAt Go.RowKit Lg Lr Fl
structure MaIs (w : World) (MB PB AO : Nat) (cv : Value) (s : Ms) (ps : List (Nat × List Int)) (at' : Nat) : Prop where
 m : Bk w MB [cv,.slice (some ⟨PB,0,none⟩) 120 120,.slice (some ⟨AO,0,none⟩) ps.length ps.length,.int .i64 s.m,.int .i64 (at' : Int)] 112
 mc : Mc w PB AO s.P ps
 ar : ars ps = s.A
 len : s.P.length = 120
 nm : MB ≠ PB ∧ MB ≠ AO ∧ ∀ p ∈ ps,p.1 ≠ MB
theorem MaIs.below {w w' : World} {MB PB AO : Nat} {cv : Value} {s : Ms} {ps : List (Nat × List Int)} {at' : Nat} (h : MaIs w MB PB AO cv s ps at') (hb : Below w.heap.size w w') : MaIs w' MB PB AO cv s ps at' :=
 ⟨h.m.fs (Fs.of_below (l:=[]) hb) (by simp),h.mc.below hb,h.ar,h.len,h.nm⟩
theorem MaIs.fs {w w' : World} {MB PB AO : Nat} {cv : Value} {s : Ms} {ps : List (Nat × List Int)} {at' : Nat} {l : List Nat} (h : MaIs w MB PB AO cv s ps at') (hf : Fs l w w') (h0 : MB ∉ l) (h1 : PB ∉ l) (h2 : AO ∉ l) (h3 : ∀ p ∈ ps,p.1 ∉ l) : MaIs w' MB PB AO cv s ps at' :=
 ⟨h.m.fs hf h0,h.mc.fs hf h1 h2 h3,h.ar,h.len,h.nm⟩
theorem MaIs.ints {w : World} {MB PB AO : Nat} {cv : Value} {s : Ms} {ps : List (Nat × List Int)} {at' : Nat} (h : MaIs w MB PB AO cv s ps at') : IntsIs w w.heap.size s.P (.slice (some ⟨PB,0,none⟩) 120 120) := by
 refine ⟨_,_,_,rfl,h.len,Nat.le_refl _,by omega,fun j x hj => ⟨PB,0,rfl,h.mc.pl.lt,?_⟩⟩
 rw [Nat.zero_add]
 exact h.mc.pl.cell j (by rw [List.getElem?_map,hj]; rfl)
theorem bits_7 {T : Nat → Int} {op : Int} {all : Bool} (h : T7 T) : 0 ≤ bitsG T op all ∧ bitsG T op all ≤ 7 := by
 unfold bitsG
 split
 ·omega
 ·split
  ·unfold Tb.allV; split <;> (try split) <;> (try split) <;> omega
  ·exact h op.toNat (by omega) (by omega)
theorem mfits_any (sb gw ga : Value) (pr mode : Int) (pa pg pw : Option Addr) (m ca n cg nw cw : Nat) (w : World) (hga : ga = .slice pg n cg) (hgw : gw = .slice pw nw cw) :
  Calls Try.prog 55 #[.agg #[sb,.int .i64 pr,.slice pa m ca],.agg #[gw,ga],.int .i64 mode] w fun r w' => r = .returned (.bool (decide ((mode = 0 ∨ mode = 1) ∧ (nw : Int) = pr ∧ pr < 120 ∧ n = m))) ∧ Below w.heap.size w w' := by
 subst hga hgw
 obtain ⟨w1,hw1⟩ : ∃ y,w.alloc (.cells #[sb,.int .i64 pr,.slice pa m ca] 66) = y := ⟨_,rfl⟩
 obtain ⟨w2,hw2⟩ : ∃ y,w1.alloc (.cells #[.slice pw nw cw,.slice pg n cg] 33) = y := ⟨_,rfl⟩
 obtain ⟨X,hX⟩ : ∃ y,w.heap.size = y := ⟨_,rfl⟩
 obtain ⟨G,hG⟩ : ∃ y,w1.heap.size = y := ⟨_,rfl⟩
 have b1 : Below w.heap.size w w1 := by rw [← hw1]; exact (Below.refl _ _).alloc (Nat.le_refl _) _
 have b2 : Below w1.heap.size w1 w2 := by rw [← hw2]; exact (Below.refl _ _).alloc (Nat.le_refl _) _
 have b12 := b1.trans (b2.mono b1.size)
 have kX1 : Bk w1 X [sb,.int .i64 pr,.slice pa m ca] 66 := by rw [← hw1,← hX]; exact Bk.new _ _ _
 have kX := kX1.fs (Fs.of_below (l:=[]) b2) (by simp)
 have kG : Bk w2 G [.slice pw nw cw,.slice pg n cg] 33 := by rw [← hw2,← hG]; exact Bk.new _ _ _
 have x1 := kX.cell 1 rfl
 have x2 := kX.cell 2 rfl
 have g0 := kG.cell 0 rfl
 have g1 := kG.cell 1 rfl
 have HW1 := keep hw1
 have HW2 := keep hw2
 have HX := keep hX
 have HG := keep hG
 have HB := keep b12
 obtain ⟨q,hq⟩ : ∃ q,decide ((mode = 0 ∨ mode = 1) ∧ (nw : Int) = pr ∧ pr < 120 ∧ n = m) = q := ⟨_,rfl⟩
 obtain ⟨p1,hp1⟩ : ∃ y,(mode != 0) = y := ⟨_,rfl⟩
 obtain ⟨p2,hp2⟩ : ∃ y,(mode != 1) = y := ⟨_,rfl⟩
 obtain ⟨p3,hp3⟩ : ∃ y,((nw : Int) != pr) = y := ⟨_,rfl⟩
 obtain ⟨p4,hp4⟩ : ∃ y,decide (120 ≤ pr) = y := ⟨_,rfl⟩
 obtain ⟨p5,hp5⟩ : ∃ y,((n : Int) == (m : Int)) = y := ⟨_,rfl⟩
 have hqq : q = (!((p1 && p2) || p3 || p4) && p5) := by
  rw [← hq,← hp1,← hp2,← hp3,← hp4,← hp5,Bool.eq_iff_iff]
  simp only [decide_eq_true_eq,Bool.and_eq_true,Bool.not_eq_true',Bool.or_eq_false_iff,Bool.and_eq_false_iff,bne_eq_false_iff_eq,decide_eq_false_iff_not,beq_iff_eq]
  constructor
  ·rintro ⟨a,b,c,d⟩; exact ⟨⟨⟨a,b⟩,by omega⟩,by omega⟩
  ·rintro ⟨⟨⟨a,b⟩,c⟩,d⟩; exact ⟨a,b,by omega,by omega⟩
 rw [hq]
 clear hw1 hw2 hX hG b1 b2 b12 kX1 kX kG hq
 have hcs : (p1 = true ∧ p2 = true ∧ q = false) ∨ (p1 = true ∧ p2 = false ∧ p3 = true ∧ q = false) ∨ (p1 = true ∧ p2 = false ∧ p3 = false ∧ p4 = true ∧ q = false) ∨ (p1 = true ∧ p2 = false ∧ p3 = false ∧ p4 = false ∧ p5 = q) ∨ (p1 = false ∧ p3 = true ∧ q = false) ∨ (p1 = false ∧ p3 = false ∧ p4 = true ∧ q = false) ∨ (p1 = false ∧ p3 = false ∧ p4 = false ∧ p5 = q) := by
  subst hqq
  cases p1 <;> cases p2 <;> cases p3 <;> cases p4 <;> cases p5 <;> simp
 clear hqq
 rcases hcs with ⟨rfl,rfl,rfl⟩ | ⟨rfl,rfl,rfl,rfl⟩ | ⟨rfl,rfl,rfl,rfl,rfl⟩ | ⟨rfl,rfl,rfl,rfl,rfl⟩ | ⟨rfl,rfl,rfl⟩ | ⟨rfl,rfl,rfl,rfl⟩ | ⟨rfl,rfl,rfl,rfl⟩
 all_goals
  go_enter Try.func55,Try.ntmps55
  go_wp2_with (first | rw [HW1.out] | rw [HW2.out] | rw [HX.out] | rw [HG.out] | fail)
  go_ret
  first | exact ⟨rfl,HB.out⟩ | exact ⟨rfl,by rw [← HX.out]; exact HB.out⟩ | exact ⟨by simp [hp5],by rw [← HX.out]; exact HB.out⟩
def LeakP (T : Nat → Int) (i : Ix) (s : Ms) (at' : Nat) (w : World) (r : Ending) (w' : World) : Prop := ∃ v,r = .returned (.agg #[.int .i64 (at' : Int),.int .i64 i.op,v]) ∧ RowI w' w.heap.size v (seenM T i s) ∧ Below w.heap.size w w'
theorem leak_any (MB PB AO : Nat) (cv : Value) (s : Ms) (ps : List (Nat × List Int)) (at' : Nat) (T : Nat → Int) (i : Ix) (w : World) (h : MaIs w MB PB AO cv s ps at') (hT : T7 T) :
  Calls Try.prog 60 #[.pointer (some ⟨MB,0,none⟩),.agg (ixA i),.agg (Tb.tabA T)] w fun r w' => LeakP T i s at' w r w' := by
 obtain ⟨op,d,a,b,c,imm⟩ := i
 obtain ⟨w1,hw1⟩ : ∃ y,w.alloc (.cells #[.int .i64 op,.int .i64 d,.int .i64 a,.int .i64 b,.int .i64 c,.int .i64 imm] 35) = y := ⟨_,rfl⟩
 obtain ⟨w2,hw2⟩ : ∃ y,w1.alloc (.cells (Tb.tabA T) 29) = y := ⟨_,rfl⟩
 obtain ⟨w3,hw3⟩ : ∃ y,w2.alloc (.cells #[.int .i64 0,.int .i64 0,.slice none 0 0] 61) = y := ⟨_,rfl⟩
 obtain ⟨IB,hI⟩ : ∃ y,w.heap.size = y := ⟨_,rfl⟩
 obtain ⟨TB,hTB⟩ : ∃ y,w1.heap.size = y := ⟨_,rfl⟩
 obtain ⟨LB,hLB⟩ : ∃ y,w2.heap.size = y := ⟨_,rfl⟩
 have b1 : Below w.heap.size w w1 := by rw [← hw1]; exact (Below.refl _ _).alloc (Nat.le_refl _) _
 have b2 : Below w1.heap.size w1 w2 := by rw [← hw2]; exact (Below.refl _ _).alloc (Nat.le_refl _) _
 have b3 : Below w2.heap.size w2 w3 := by rw [← hw3]; exact (Below.refl _ _).alloc (Nat.le_refl _) _
 have b23 := b2.trans (b3.mono b2.size)
 have b13 := b1.trans (b23.mono b1.size)
 have kI1 : Bk w1 IB [.int .i64 op,.int .i64 d,.int .i64 a,.int .i64 b,.int .i64 c,.int .i64 imm] 35 := by rw [← hw1,← hI]; exact Bk.new _ _ _
 have kI := kI1.fs (Fs.of_below (l:=[]) b23) (by simp)
 have kT2 : Tb.Blk w2 TB T := by rw [← hw2,← hTB]; exact Tb.blk_alloc w1 T
 have kT : Tb.Blk w3 TB T := kT2.below b3 kT2.lt
 have kL : Bk w3 LB [.int .i64 0,.int .i64 0,.slice none 0 0] 61 := by rw [← hw3,← hLB]; exact Bk.new _ _ _
 have h3 := h.below b13
 have HMa := keep h3
 have HkI := keep kI
 have HkT := keep kT
 have HkL := keep kL
 have HB := keep b13
 have HLo : Hid (w.heap.size ≤ LB ∧ w.heap.size ≤ w3.heap.size ∧ LB < w3.heap.size) := ⟨by rw [← hLB]; exact (b1.trans (b2.mono b1.size)).size,b13.size,kL.lt⟩
 have HW1 := keep hw1
 have HW2 := keep hw2
 have HW3 := keep hw3
 have HI := keep hI
 have HTB := keep hTB
 have HLB := keep hLB
 have HT7 := keep hT
 obtain ⟨bm,hbm⟩ : ∃ y,decide (s.m = 0) = y := ⟨_,rfl⟩
 have HSeen := keep (fun W (hW : Below w3.heap.size w3 W) => seen_any W.heap.size T ⟨op,d,a,b,c,imm⟩ s.P (.slice (some ⟨PB,0,none⟩) 120 120) bm W (Nat.le_refl _) (h3.below hW).ints (bits_7 hT))
 have HV : Hid (seenM T ⟨op,d,a,b,c,imm⟩ s = valsW (bitsG T op bm) s.P 0 (rds ⟨op,d,a,b,c,imm⟩)) := by show _ = _; unfold seenM; rw [hbm]
 have hbq : (s.m == 0) = bm := by rw [← hbm]; exact Bool.beq_eq_decide_eq _ _
 unfold ixA at HSeen ⊢
 dsimp only at HSeen ⊢
 obtain ⟨sm,hsm⟩ : ∃ y,s.m = y := ⟨_,rfl⟩
 have HSS : Hid (∀ W',Below w3.heap.size w3 W' → Tb.Blk W' TB T ∧ W'.cell? ⟨MB,1,none⟩ = some (.slice (some ⟨PB,0,none⟩) 120 120) ∧ W'.cell? ⟨MB,3,none⟩ = some (.int .i64 sm) ∧ W'.cell? ⟨MB,4,none⟩ = some (.int .i64 (at' : Int)) ∧ W'.cell? ⟨IB,0,none⟩ = some (.int .i64 op) ∧ W'.cell? ⟨IB,1,none⟩ = some (.int .i64 d) ∧ W'.cell? ⟨IB,2,none⟩ = some (.int .i64 a) ∧ W'.cell? ⟨IB,3,none⟩ = some (.int .i64 b) ∧ W'.cell? ⟨IB,4,none⟩ = some (.int .i64 c) ∧ W'.cell? ⟨IB,5,none⟩ = some (.int .i64 imm)) := fun W' hW => by
  have u1 := (HMa.out.below hW).m
  have u2 := HkI.out.fs (Fs.of_below (l:=[]) hW) (by simp)
  exact ⟨HkT.out.below hW HkT.out.lt,u1.cell 1 rfl,by rw [← hsm]; exact u1.cell 3 rfl,u1.cell 4 rfl,u2.cell 0 rfl,u2.cell 1 rfl,u2.cell 2 rfl,u2.cell 3 rfl,u2.cell 4 rfl,u2.cell 5 rfl⟩
 rw [hsm] at hbq
 clear hw1 hw2 hw3 hI hTB hLB b1 b2 b3 b23 b13 kI1 kI kT2 kT kL h3 h hT hbm hsm
 go_enter Try.func60,Try.ntmps60
 go_wp2_with (first | rw [HW1.out] | rw [HW2.out] | rw [HW3.out] | rw [HI.out] | rw [HTB.out] | rw [HLB.out] | fail)
 refine wp_region_noPanic ?_
 refine Ord.wpM_begin (fun W' : World => Tb.Blk W' TB T ∧ W'.cell? ⟨MB,1,none⟩ = some (.slice (some ⟨PB,0,none⟩) 120 120) ∧ W'.cell? ⟨MB,3,none⟩ = some (.int .i64 sm) ∧ W'.cell? ⟨MB,4,none⟩ = some (.int .i64 (at' : Int)) ∧ W'.cell? ⟨IB,0,none⟩ = some (.int .i64 op) ∧ W'.cell? ⟨IB,1,none⟩ = some (.int .i64 d) ∧ W'.cell? ⟨IB,2,none⟩ = some (.int .i64 a) ∧ W'.cell? ⟨IB,3,none⟩ = some (.int .i64 b) ∧ W'.cell? ⟨IB,4,none⟩ = some (.int .i64 c) ∧ W'.cell? ⟨IB,5,none⟩ = some (.int .i64 imm)) [0,1,2,3,4,5,6,7,8,9,10,11,12,13,14,15,16,17,18,19] (by kernel_rfl) ?_
 have HD : Hid (Below w3.heap.size w3 w3.drew) := Below.drew (Below.refl _ _)
 generalize w3.drew = wd at *
 have hS := HSS.out wd HD.out
 refine Ord.tk (i:=0) (v:=.pointer (some ⟨MB,0,none⟩)) (hy:=Or.inl ⟨by rfl,by rintro W' ⟨q0,q1,q2,q3,q4,q5,q6,q7,q8,q9⟩; go_simp⟩) (hS:=hS) (h:=?_)
 try simp only [Act.put,Ord.t,Ord.z,Ord.s]
 refine Ord.tk (i:=1) (v:=.pointer (some ⟨MB,0,none⟩)) (hy:=Or.inl ⟨by rfl,by rintro W' ⟨q0,q1,q2,q3,q4,q5,q6,q7,q8,q9⟩; go_simp⟩) (hS:=hS) (h:=?_)
 try simp only [Act.put,Ord.t,Ord.z,Ord.s]
 refine Ord.tk (i:=2) (v:=.pointer (some ⟨MB,4,none⟩)) (hy:=Or.inl ⟨by rfl,by rintro W' ⟨q0,q1,q2,q3,q4,q5,q6,q7,q8,q9⟩; go_simp⟩) (hS:=hS) (h:=?_)
 try simp only [Act.put,Ord.t,Ord.z,Ord.s]
 refine Ord.tk (i:=3) (v:=.int .i64 (at' : Int)) (hy:=Or.inl ⟨by rfl,by rintro W' ⟨q0,q1,q2,q3,q4,q5,q6,q7,q8,q9⟩; go_simp⟩) (hS:=hS) (h:=?_)
 try simp only [Act.put,Ord.t,Ord.z,Ord.s]
 refine Ord.tk (i:=4) (v:=.pointer (some ⟨IB,0,none⟩)) (hy:=Or.inl ⟨by rfl,by rintro W' ⟨q0,q1,q2,q3,q4,q5,q6,q7,q8,q9⟩; go_simp⟩) (hS:=hS) (h:=?_)
 try simp only [Act.put,Ord.t,Ord.z,Ord.s]
 refine Ord.tk (i:=5) (v:=.int .i64 op) (hy:=Or.inl ⟨by rfl,by rintro W' ⟨q0,q1,q2,q3,q4,q5,q6,q7,q8,q9⟩; go_simp⟩) (hS:=hS) (h:=?_)
 try simp only [Act.put,Ord.t,Ord.z,Ord.s]
 refine Ord.wpM_take (i:=6) (v:=.agg (Tb.tabA T)) (by simp only [List.getElem?_toArray,List.getElem?_cons_zero,List.getElem?_cons_succ]; rfl) (by kernel_rfl) (by kernel_rfl) (by kernel_rfl) (by kernel_rfl) (fun _ _ _ h => h) (tab_yields rfl (.tmp 5) rfl TB rfl T (fun W hW => hW.1)) hS ?_
 try simp only [Act.put,Ord.t,Ord.z,Ord.s]
 refine Ord.tk (i:=7) (v:=.agg #[.int .i64 op,.int .i64 d,.int .i64 a,.int .i64 b,.int .i64 c,.int .i64 imm]) (hy:=Or.inl ⟨by rfl,by rintro W' ⟨q0,q1,q2,q3,q4,q5,q6,q7,q8,q9⟩; go_simp⟩) (hS:=hS) (h:=?_)
 try simp only [Act.put,Ord.t,Ord.z,Ord.s]
 refine Ord.tk (i:=8) (v:=.pointer (some ⟨MB,0,none⟩)) (hy:=Or.inl ⟨by rfl,by rintro W' ⟨q0,q1,q2,q3,q4,q5,q6,q7,q8,q9⟩; go_simp⟩) (hS:=hS) (h:=?_)
 try simp only [Act.put,Ord.t,Ord.z,Ord.s]
 refine Ord.tk (i:=9) (v:=.pointer (some ⟨MB,0,none⟩)) (hy:=Or.inl ⟨by rfl,by rintro W' ⟨q0,q1,q2,q3,q4,q5,q6,q7,q8,q9⟩; go_simp⟩) (hS:=hS) (h:=?_)
 try simp only [Act.put,Ord.t,Ord.z,Ord.s]
 refine Ord.tk (i:=10) (v:=.pointer (some ⟨MB,1,none⟩)) (hy:=Or.inl ⟨by rfl,by rintro W' ⟨q0,q1,q2,q3,q4,q5,q6,q7,q8,q9⟩; go_simp⟩) (hS:=hS) (h:=?_)
 try simp only [Act.put,Ord.t,Ord.z,Ord.s]
 refine Ord.tk (i:=11) (v:=.pointer (some ⟨MB,1,none⟩)) (hy:=Or.inl ⟨by rfl,by rintro W' ⟨q0,q1,q2,q3,q4,q5,q6,q7,q8,q9⟩; go_simp⟩) (hS:=hS) (h:=?_)
 try simp only [Act.put,Ord.t,Ord.z,Ord.s]
 refine Ord.tk (i:=12) (v:=.slice (some ⟨PB,0,none⟩) 120 120) (hy:=Or.inl ⟨by rfl,by rintro W' ⟨q0,q1,q2,q3,q4,q5,q6,q7,q8,q9⟩; go_simp⟩) (hS:=hS) (h:=?_)
 try simp only [Act.put,Ord.t,Ord.z,Ord.s]
 refine Ord.tk (i:=13) (v:=.pointer (some ⟨MB,0,none⟩)) (hy:=Or.inl ⟨by rfl,by rintro W' ⟨q0,q1,q2,q3,q4,q5,q6,q7,q8,q9⟩; go_simp⟩) (hS:=hS) (h:=?_)
 try simp only [Act.put,Ord.t,Ord.z,Ord.s]
 refine Ord.tk (i:=14) (v:=.pointer (some ⟨MB,0,none⟩)) (hy:=Or.inl ⟨by rfl,by rintro W' ⟨q0,q1,q2,q3,q4,q5,q6,q7,q8,q9⟩; go_simp⟩) (hS:=hS) (h:=?_)
 try simp only [Act.put,Ord.t,Ord.z,Ord.s]
 refine Ord.tk (i:=15) (v:=.pointer (some ⟨MB,3,none⟩)) (hy:=Or.inl ⟨by rfl,by rintro W' ⟨q0,q1,q2,q3,q4,q5,q6,q7,q8,q9⟩; go_simp⟩) (hS:=hS) (h:=?_)
 try simp only [Act.put,Ord.t,Ord.z,Ord.s]
 refine Ord.tk (i:=16) (v:=.int .i64 sm) (hy:=Or.inl ⟨by rfl,by rintro W' ⟨q0,q1,q2,q3,q4,q5,q6,q7,q8,q9⟩; go_simp⟩) (hS:=hS) (h:=?_)
 try simp only [Act.put,Ord.t,Ord.z,Ord.s]
 refine Ord.tk (i:=17) (v:=.bool bm) (hy:=Or.inl ⟨by rfl,by rintro W' ⟨q0,q1,q2,q3,q4,q5,q6,q7,q8,q9⟩; go_simp⟩) (hS:=hS) (h:=?_)
 try simp only [Act.put,Ord.t,Ord.z,Ord.s]
 refine Ord.on (i:=18) (h:=fun K hK => ?_)
 go_simp
 refine (HSeen.out wd HD.out).mono ?_
 rintro r we ⟨vv,rfl,hvv,hbe⟩
 have HBe := keep (HD.out.trans (hbe.mono HD.out.size))
 have HVv := keep hvv
 obtain ⟨pq,nq,cq,rfl⟩ := RowX.slice hvv
 clear hvv hbe HSeen
 go_simp
 refine hK.out _ _ (fun _ => HSS.out we HBe.out) ?_
 clear hK K
 try simp only [Act.put,Ord.t,Ord.z,Ord.s]
 have hS := HSS.out we HBe.out
 refine Ord.tk (i:=19) (v:=.agg #[.int .i64 (at' : Int),.int .i64 op,.slice pq nq cq]) (hy:=Or.inl ⟨by rfl,by rintro W' ⟨q0,q1,q2,q3,q4,q5,q6,q7,q8,q9⟩; go_simp⟩) (hS:=hS) (h:=?_)
 try simp only [Act.put,Ord.t,Ord.z,Ord.s]
 have hkL := HkL.out.fs (Fs.of_below (l:=[]) HBe.out) (by simp)
 obtain ⟨k1,k2⟩ := set_three hkL (.int .i64 (at' : Int)) (.int .i64 op) (.slice pq nq cq)
 have HK1 := keep k1
 have HK2 := keep k2
 have HkL2 := keep hkL
 clear k1 k2 hkL
 refine Ord.on (i:=20) (h:=fun K hK => ?_)
 refine step_store_mid rfl 61 (.tmp 6) (.tmp 26) rfl LB 0 #[.int .i64 (at' : Int),.int .i64 op,.slice pq nq cq] rfl rfl (three_there HkL2.out) (by kernel_rfl) (by simp [Value.oneCell']) ?_
 refine hK.out _ _ (fun h => absurd h (by decide)) ?_
 clear hK K
 try simp only [Act.put,Ord.t,Ord.z,Ord.s]
 refine Ord.wpM_done (by kernel_rfl) ?_ _
 refine NoPanic.normal ?_
 clear hS HSS
 go_wp2
 refine bodyPost_ret (results_cell_row rfl _ _ LB _ #[.int .i64 (at' : Int),.int .i64 op,.slice pq nq cq] (0,0) _ rfl HK1.out Try.underlying61 rfl (by kernel_rfl)) rfl ?_
 refine ⟨_,rfl,?_,?_⟩
 ·rw [HV.out]
  have h1 := HVv.out
  have h2 := HD.out.size
  have h3 := HLo.out
  refine RowI_lower (RowX.fs (l:=[LB]) nestI_nest h1 HK2.out (by simp; omega)) (by omega)
 ·have h1 := HB.out.trans (HBe.out.mono HB.out.size)
  exact h1.trans (HK2.out.below h1.size (fun k hk => by simp at hk; have := HLo.out.1; omega))
end Go.Proofs.Ytpnacanbknejiaa.Mh
