/- Images run, as the document says: its RunImage. Written by tools/gen_mhrrun.py. -/
import Derived.Test.YtpnacanbknejiaaMhAll
import Derived.Test.YtpnacanbknejiaaMhRload
import Derived.Test.YtpnacanbknejiaaMhRdo
import Derived.Test.YtpnacanbknejiaaFrRun
namespace Go.Proofs.Ytpnacanbknejiaa.Mh
set_option maxHeartbeats 32000000
set_option maxRecDepth 100000
set_option linter.unusedVariables false
set_option linter.unusedSimpArgs false
open Go.ChangeShapes Go.WideShapes Go.ChangeAt Go.RowKit Lg Lr Fl
theorem rdoM_any (MB PB AO : Nat) (av : Value) (s : Ms) (ps : List (Nat × List Int)) (i : Ix) (at' : Nat) (w : World) (h : Fl.RM s.m w MB PB AO av s.P ps) (hA : ars ps = s.A) (hG : GoodM 120 ps.length s) (hi : FitI 120 ps.length i) (hat : at' ≤ 4294967296) :
  Calls Try.prog 48 #[.pointer (some ⟨MB,0,none⟩),.agg (ixA i),.int .i64 (at' : Int)] w fun r w' => RDm MB PB AO av s ps i at' w r w' := by
 by_cases ho : i.op = 22 ∨ i.op = 23
 ·exact rmode_any MB PB AO av s ps i at' w h hA hG hi hat ho
 ·have hl : s.P.length = 120 := hG.len
  refine (rdo_any MB PB AO av s.P ps i at' w h (by omega) hat hi.o1 (by have := hi.o2; omega) (fun _ => ⟨hi.d0,by rw [hl]; exact hi.d1⟩) (fun p hp => by rw [hl]; exact hi.r p hp) hi.b (fun _ => hi.imm0.1) hG.word).mono ?_
  rintro r w' ⟨rfl,ps',h1,h2,h3,h4⟩
  have e1 : slotsM i s = pl i s.P s.A := if_neg (fun e => ho (.inl e))
  have e2 : modeM i s = s.m := by unfold modeM; rw [if_neg (fun e => ho (.inl e)),if_neg (fun e => ho (.inr e))]
  refine ⟨rfl,ps',?_,by rw [h2,hA],h3,h4.mono (fun k hk => List.mem_cons_of_mem _ hk)⟩
  rw [e1,e2,← hA]; exact h1
theorem fs_low {L : Nat} {w w' : World} (hb : Below L w w') : Fs ((List.range w.heap.size).filter (fun i => decide (L ≤ i))) w w' :=
 ⟨hb.os,hb.tape,hb.output,hb.size,fun i hi hn => hb.block i (Nat.lt_of_not_le (fun h => hn (List.mem_filter.2 ⟨List.mem_range.2 hi,decide_eq_true h⟩)))⟩
theorem not_low {L n b : Nat} (h : b < L) : b ∉ (List.range n).filter (fun i => decide (L ≤ i)) := fun hm => by
 have := of_decide_eq_true (List.mem_filter.1 hm).2
 omega
theorem rm_low {md : Int} {w w' : World} {MB PB AO L : Nat} {av : Value} {P : List Int} {ps : List (Nat × List Int)} (h : Fl.RM md w MB PB AO av P ps) (hb : Below L w w') (h0 : MB < L) (h1 : PB < L) (h2 : ps ≠ [] → AO < L) (h3 : ∀ p ∈ ps,p.1 < L) : Fl.RM md w' MB PB AO av P ps :=
 h.fs (fs_low hb) (not_low h0) (not_low h1) (fun e => not_low (h2 e)) (fun p hp => not_low (h3 p hp))
theorem set_37 {w : World} {b : Nat} {u v x y z t s : Value} {ty : TypeId} (h : Bk w b [u,v,x,y,z,t,s] ty) (a0 a1 a2 : Value) : Bk (w.setCells b 0 [a0,a1,a2]) b [a0,a1,a2,y,z,t,s] ty ∧ Fs [b] w (w.setCells b 0 [a0,a1,a2]) :=
 ⟨(((h.set 0 _).set 1 _).set 2 _ : _),(((Fs.refl [b] w).set (by simp) 0 _).set (by simp) 1 _).set (by simp) 2 _⟩
def stp (RX : Nat) (w : World) : Nat := match w.cell? ⟨RX,4,none⟩ with | some v => (intOf v).toNat | none => 0
theorem stp_eq {RX : Nat} {w : World} {j : Nat} (h : w.cell? ⟨RX,4,none⟩ = some (.int .i64 (j : Int))) : stp RX w = j := by unfold stp; rw [h]; simp [intOf]
structure RLoop (code : List Ix) (T : Nat → Int) (N : Nat) (s0 : Ms) (RX MB PB AO : Nat) (av : Value) (bl : List Nat) (wL : World) (j at' : Nat) (s : Ms) (ps : List (Nat × List Int)) (hs : List (Nat × Ix × Ms)) (v : Value) (es : List (Lk × Value)) (W : World) : Prop where
 tr : trM code N 0 s0 = ⟨hs ++ (trM code (N - j) at' s).l,(trM code (N - j) at' s).e,(trM code (N - j) at' s).at',(trM code (N - j) at' s).s⟩
 len : hs.length = j
 rx : Bk W RX [.int .i64 0,.bool false,.slice none 0 0,.int .i64 0,.int .i64 (j : Int),.int .i64 0,v] 72
 rm : Fl.RM s.m W MB PB AO av s.P ps
 ar : ars ps = s.A
 row : RowL W wL.heap.size v es
 mp : es.map Prod.fst = hs.map (fun x => lkM T x.1 x.2.1 x.2.2)
 gd : GoodM 120 bl.length s
 hbl : ps.map Prod.fst = bl
 fs : Fs (RX :: MB :: PB :: bl) wL W
 at5 : at' ≤ 4294967295 + 1000001
theorem rran_any (B : Nat) (l : List Int) (sb : Value) (pr : Int) (pa : Option Addr) (m ca : Nat) (T : Nat → Int) (ws : List Int) (aa : List (List Int)) (gv : Value) (mode most : Int) (w : World) (hB : B ≤ w.heap.size) (hby : BysW w B l sb) (hl : l.length ≤ 1048576) (hg : GvIs w B ws aa gv) (hA : AllW ws aa) (hT : TabR T) (hmost : most ≤ 36000) (hsum : sumL aa ≤ 1048576) (haa : aa.length ≤ 1048576) :
  Calls Try.prog 34 #[.agg #[sb,.int .i64 pr,.slice pa m ca],.agg (Tb.tabA T),gv,.int .i64 mode,.int .i64 most] w fun r w' => RanP (ranM T l pr m ws aa mode most) w r w' := by
 obtain ⟨g1,g2,rfl,hgi,hga⟩ := id hg
 obtain ⟨p4,n4,c4,hs4,hx4⟩ := id hgi
 obtain ⟨p5,n5,c5,hs5,hx5⟩ := id hga
 subst hs4 hs5
 have hn4 : ws.length = n4 := hx4.1
 have hn5 : aa.length = n5 := hx5.1
 obtain ⟨psb,csb,rfl,hcsb,hbb,hby0⟩ := id hby
 obtain ⟨nb,hnb⟩ : ∃ y,l.length = y := ⟨_,rfl⟩
 rw [hnb] at hl ⊢
 obtain ⟨w1,hw1⟩ : ∃ y,w.alloc (.cells #[.slice psb nb csb,.int .i64 pr,.slice pa m ca] 66) = y := ⟨_,rfl⟩
 obtain ⟨w2,hw2⟩ : ∃ y,w1.alloc (.cells (Tb.tabA T) 29) = y := ⟨_,rfl⟩
 obtain ⟨w3,hw3⟩ : ∃ y,w2.alloc (.cells #[.slice p4 n4 c4,.slice p5 n5 c5] 33) = y := ⟨_,rfl⟩
 obtain ⟨w4,hw4⟩ : ∃ y,w3.alloc (.cells #[.int .i64 0,.bool false,.slice none 0 0,.int .i64 0,.int .i64 0,.int .i64 0,.slice none 0 0] 72) = y := ⟨_,rfl⟩
 obtain ⟨X,hX⟩ : ∃ y,w.heap.size = y := ⟨_,rfl⟩
 obtain ⟨TB,hTB⟩ : ∃ y,w1.heap.size = y := ⟨_,rfl⟩
 obtain ⟨G,hG⟩ : ∃ y,w2.heap.size = y := ⟨_,rfl⟩
 obtain ⟨RB,hRB⟩ : ∃ y,w3.heap.size = y := ⟨_,rfl⟩
 have b1 : Below w.heap.size w w1 := by rw [← hw1]; exact (Below.refl _ _).alloc (Nat.le_refl _) _
 have b2 : Below w1.heap.size w1 w2 := by rw [← hw2]; exact (Below.refl _ _).alloc (Nat.le_refl _) _
 have b3 : Below w2.heap.size w2 w3 := by rw [← hw3]; exact (Below.refl _ _).alloc (Nat.le_refl _) _
 have b4 : Below w3.heap.size w3 w4 := by rw [← hw4]; exact (Below.refl _ _).alloc (Nat.le_refl _) _
 have b34 := b3.trans (b4.mono b3.size)
 have b24 := b2.trans (b34.mono b2.size)
 have b14 := b1.trans (b24.mono b1.size)
 have kX1 : Bk w1 X [.slice psb nb csb,.int .i64 pr,.slice pa m ca] 66 := by rw [← hw1,← hX]; exact Bk.new _ _ _
 have kX := kX1.fs (Fs.of_below (l:=[]) b24) (by simp)
 have kT2 : Tb.Blk w2 TB T := by rw [← hw2,← hTB]; exact Tb.blk_alloc w1 T
 have kT : Tb.Blk w4 TB T := kT2.below b34 kT2.lt
 have kG3 : Bk w3 G [.slice p4 n4 c4,.slice p5 n5 c5] 33 := by rw [← hw3,← hG]; exact Bk.new _ _ _
 have kG := kG3.fs (Fs.of_below (l:=[]) b4) (by simp)
 have kR : Bk w4 RB [.int .i64 0,.bool false,.slice none 0 0,.int .i64 0,.int .i64 0,.int .i64 0,.slice none 0 0] 72 := by rw [← hw4,← hRB]; exact Bk.new _ _ _
 have HB4 := keep b14
 have HLt : Hid (X < w4.heap.size ∧ TB < w4.heap.size ∧ G < w4.heap.size ∧ RB < w4.heap.size ∧ w.heap.size ≤ w4.heap.size ∧ w.heap.size ≤ RB ∧ X < RB ∧ TB < RB ∧ G < RB) := ⟨kX.lt,kT.lt,kG.lt,kR.lt,b14.size,by rw [← hRB]; exact (b1.trans ((b2.trans (b3.mono b2.size)).mono b1.size)).size,by rw [← hRB]; have := kX1.lt; have := b2.size; have := b3.size; omega,by rw [← hRB]; have := kT2.lt; have := b3.size; omega,by rw [← hRB]; exact kG3.lt⟩
 -- the boxes stay, while only what is new turns
 have HBx : Hid (∀ W,Below w4.heap.size w4 W → Bk W X [.slice psb nb csb,.int .i64 pr,.slice pa m ca] 66 ∧ Tb.Blk W TB T ∧ Bk W G [.slice p4 n4 c4,.slice p5 n5 c5] 33 ∧ Bk W RB [.int .i64 0,.bool false,.slice none 0 0,.int .i64 0,.int .i64 0,.int .i64 0,.slice none 0 0] 72) := fun W hW => ⟨kX.fs (Fs.of_below (l:=[]) hW) (by simp),kT.below hW kT.lt,kG.fs (Fs.of_below (l:=[]) hW) (by simp),kR.fs (Fs.of_below (l:=[]) hW) (by simp)⟩
 have HBw : Hid (∀ W,Below w4.heap.size w4 W → Below w.heap.size w W) := fun W hW' => b14.trans (hW'.mono b14.size)
 have HGv : Hid (∀ W,Below w4.heap.size w4 W → GvIs W B ws aa (.agg #[.slice p4 n4 c4,.slice p5 n5 c5])) := fun W hW => hg.below ((b14.trans (hW.mono b14.size)).mono hB)
 have HBB : Hid (∀ W,Below w4.heap.size w4 W → B ≤ W.heap.size) := fun W hW => Nat.le_trans hB (Nat.le_trans b14.size hW.size)
 have HLd := keep (rload_any B l (.slice psb nb csb) pr pa m ca w4 (Nat.le_trans hB b14.size) (by rw [← hnb]; exact hby.below (b14.mono hB)) (by rw [hnb]; exact hl))
 have HBy := keep hbb
 have HNb : Hid (l.length ≤ 1048576) := by show _ ≤ _; rw [hnb]; exact hl
 have HW1 := keep hw1
 have HW2 := keep hw2
 have HW3 := keep hw3
 have HW4 := keep hw4
 have HX := keep hX
 have HTB := keep hTB
 have HG := keep hG
 have HRB := keep hRB
 have HN4 := keep hn4
 have HN5 := keep hn5
 have HAW := keep hA
 have HTR := keep hT
 have HAa := keep haa
 have HMo := keep hmost
 have HSum := keep hsum
 have HAl : Hid (aa.length ≤ 5864062014805) := by obtain ⟨q1,q2,q3,_⟩ := hx5; show _ ≤ _; omega
 -- an early end
 have HEnd : Hid (∀ W e,Below w4.heap.size w4 W → ranM T l pr m ws aa mode most = noR e → ∃ k1 : Bk (W.setCells RB 0 [.int .i64 0,.bool false,.slice none 0 0,.int .i64 e,.int .i64 0,.int .i64 0,.slice none 0 0]) RB [.int .i64 0,.bool false,.slice none 0 0,.int .i64 e,.int .i64 0,.int .i64 0,.slice none 0 0] 72,RanP (ranM T l pr m ws aa mode most) w (.returned (.agg #[.int .i64 0,.bool false,.slice none 0 0,.int .i64 e,.int .i64 0,.int .i64 0,.slice none 0 0])) (W.setCells RB 0 [.int .i64 0,.bool false,.slice none 0 0,.int .i64 e,.int .i64 0,.int .i64 0,.slice none 0 0])) := fun W e hW hr => by
  obtain ⟨k1,k2⟩ := set_seven (HBx.out W hW).2.2.2 (.int .i64 0) (.bool false) (.slice none 0 0) (.int .i64 e) (.int .i64 0) (.int .i64 0) (.slice none 0 0)
  refine ⟨k1,RanP.no hr ?_⟩
  have h1 := HBw.out W hW
  exact h1.trans (k2.below h1.size (fun k hk => by simp at hk; have := HLt.out.2.2.2.2.2.1; omega))
 clear hw1 hw2 hw3 hw4 hX hTB hG hRB b1 b2 b3 b4 b34 b24 b14 kX1 kX kT2 kT kG3 kG kR hg hgi hga hx4 hx5 hn4 hn5 hby hby0 hcsb hbb hl hnb hA hT hmost hB hsum haa
 obtain ⟨q1,q2,q3,q4⟩ := HBx.out w4 (Below.refl _ _)
 have x0 := q1.cell 0 rfl
 have x1 := q1.cell 1 rfl
 have x2 := q1.cell 2 rfl
 clear q1 q2 q3 q4
 go_enter Try.func34,Try.ntmps34
 go_wp2_with (first | rw [HW1.out] | rw [HW2.out] | rw [HW3.out] | rw [HW4.out] | rw [HX.out] | rw [HTB.out] | rw [HG.out] | rw [HRB.out] | fail)
 refine HLd.out.mono ?_
 rintro r w5 ⟨v,lo,rfl,hlo1,hlo2,hrow,hb5⟩
 obtain ⟨pc,nc,cc,rfl⟩ := RowX.slice hrow
 obtain ⟨code,hcode⟩ : ∃ y,(loadM (m : Int) l).1 = y := ⟨_,rfl⟩
 obtain ⟨e0,he0⟩ : ∃ y,(loadM (m : Int) l).2 = y := ⟨_,rfl⟩
 rw [hcode] at hrow
 rw [he0]
 have HB5 := keep hb5
 have HRow := keep hrow
 have HCode := keep hcode
 have HE0 := keep he0
 clear HLd hb5 hrow hcode he0 x0 x1 x2 hlo1 hlo2
 by_cases h0 : e0 = 0
 ·subst h0
  obtain ⟨hfit,hlen⟩ := loadM_fit HBy.out HE0.out
  rw [HCode.out] at hfit hlen
  have HFit := keep hfit
  have HLen : Hid (code.length ≤ 1000000) := by have := HNb.out; show _ ≤ _; omega
  have HCI := keep (rowX_code HRow.out (by have := HLen.out; omega))
  clear hfit hlen
  obtain ⟨q1,q2,q3,q4⟩ := HBx.out w5 HB5.out
  have x0 := q1.cell 0 rfl
  have x1 := q1.cell 1 rfl
  have x2 := q1.cell 2 rfl
  have g0 := q3.cell 0 rfl
  have g1 := q3.cell 1 rfl
  clear q1 q2 q3 q4
  have HNL : Hid ((ws.length : Int) = (n4 : Int) ∧ aa.length = n5) := ⟨by rw [HN4.out],HN5.out⟩
  obtain ⟨p1,hp1⟩ : ∃ y,decide (mode < 0) = y := ⟨_,rfl⟩
  obtain ⟨p2,hp2⟩ : ∃ y,decide (1 < mode) = y := ⟨_,rfl⟩
  obtain ⟨p3,hp3⟩ : ∃ y,((n4 : Int) != pr) = y := ⟨_,rfl⟩
  obtain ⟨p6,hp6⟩ : ∃ y,decide (119 < pr) = y := ⟨_,rfl⟩
  obtain ⟨p7,hp7⟩ : ∃ y,((n5 : Int) != (m : Int)) = y := ⟨_,rfl⟩
  have hqq : decide ((mode = 0 ∨ mode = 1) ∧ (n4 : Int) = pr ∧ pr < 120 ∧ n5 = m) = !(p1 || p2 || p3 || p6 || p7) := by
   rw [← hp1,← hp2,← hp3,← hp6,← hp7,Bool.eq_iff_iff]
   simp only [decide_eq_true_eq,Bool.not_eq_true',Bool.or_eq_false_iff,bne_eq_false_iff_eq,decide_eq_false_iff_not]
   constructor
   ·rintro ⟨a,b,c,d⟩; exact ⟨⟨⟨⟨by omega,by omega⟩,b⟩,by omega⟩,by omega⟩
   ·rintro ⟨⟨⟨⟨a,b⟩,c⟩,d⟩,e⟩; exact ⟨by omega,c,by omega,by omega⟩
  have HQ := keep hqq
  have hcs : (p1 = true) ∨ (p1 = false ∧ p2 = true) ∨ (p1 = false ∧ p2 = false ∧ p3 = true) ∨ (p1 = false ∧ p2 = false ∧ p3 = false ∧ p6 = true) ∨ (p1 = false ∧ p2 = false ∧ p3 = false ∧ p6 = false ∧ p7 = true) ∨ (p1 = false ∧ p2 = false ∧ p3 = false ∧ p6 = false ∧ p7 = false) := by
   cases p1 <;> cases p2 <;> cases p3 <;> cases p6 <;> cases p7 <;> simp
  have HBad : Hid ((p1 || p2 || p3 || p6 || p7) = true → ranM T l pr m ws aa mode most = noR 5) := fun h => by
   unfold ranM
   rw [if_neg (by rw [HE0.out]; simp),if_pos (by rw [HN4.out,HN5.out,HQ.out,h]; rfl)]
  clear hqq
  rcases hcs with rfl | ⟨rfl,rfl⟩ | ⟨rfl,rfl,rfl⟩ | ⟨rfl,rfl,rfl,rfl⟩ | ⟨rfl,rfl,rfl,rfl,rfl⟩ | ⟨rfl,rfl,rfl,rfl,rfl⟩
  ·obtain ⟨k1,k2⟩ := HEnd.out w5 5 HB5.out (HBad.out (by simp))
   have HK1 := keep k1
   have HK2 := keep k2
   clear k1 k2
   have kR := (HBx.out w5 HB5.out).2.2.2
   have zc0 := kR.cell 0 rfl
   have zc1 := kR.cell 1 rfl
   have zc2 := kR.cell 2 rfl
   have zc3 := kR.cell 3 rfl
   have zc4 := kR.cell 4 rfl
   have zc5 := kR.cell 5 rfl
   have zc6 := kR.cell 6 rfl
   have zr0 := kR.fr 0
   have zr1 := kR.fr 1
   have zr2 := kR.fr 2
   have zr3 := kR.fr 3
   have zr4 := kR.fr 4
   have zr5 := kR.fr 5
   have zr6 := kR.fr 6
   clear kR
   go_wp2_with fail
   refine bodyPost_ret (results_cell_row rfl _ _ RB _ #[.int .i64 0,.bool false,.slice none 0 0,.int .i64 5,.int .i64 0,.int .i64 0,.slice none 0 0] (0,0) _ rfl HK1.out Try.underlying72 rfl (by kernel_rfl)) rfl ?_
   exact HK2.out
  ·obtain ⟨k1,k2⟩ := HEnd.out w5 5 HB5.out (HBad.out (by simp))
   have HK1 := keep k1
   have HK2 := keep k2
   clear k1 k2
   have kR := (HBx.out w5 HB5.out).2.2.2
   have zc0 := kR.cell 0 rfl
   have zc1 := kR.cell 1 rfl
   have zc2 := kR.cell 2 rfl
   have zc3 := kR.cell 3 rfl
   have zc4 := kR.cell 4 rfl
   have zc5 := kR.cell 5 rfl
   have zc6 := kR.cell 6 rfl
   have zr0 := kR.fr 0
   have zr1 := kR.fr 1
   have zr2 := kR.fr 2
   have zr3 := kR.fr 3
   have zr4 := kR.fr 4
   have zr5 := kR.fr 5
   have zr6 := kR.fr 6
   clear kR
   go_wp2_with fail
   refine bodyPost_ret (results_cell_row rfl _ _ RB _ #[.int .i64 0,.bool false,.slice none 0 0,.int .i64 5,.int .i64 0,.int .i64 0,.slice none 0 0] (0,0) _ rfl HK1.out Try.underlying72 rfl (by kernel_rfl)) rfl ?_
   exact HK2.out
  ·obtain ⟨k1,k2⟩ := HEnd.out w5 5 HB5.out (HBad.out (by simp))
   have HK1 := keep k1
   have HK2 := keep k2
   clear k1 k2
   have kR := (HBx.out w5 HB5.out).2.2.2
   have zc0 := kR.cell 0 rfl
   have zc1 := kR.cell 1 rfl
   have zc2 := kR.cell 2 rfl
   have zc3 := kR.cell 3 rfl
   have zc4 := kR.cell 4 rfl
   have zc5 := kR.cell 5 rfl
   have zc6 := kR.cell 6 rfl
   have zr0 := kR.fr 0
   have zr1 := kR.fr 1
   have zr2 := kR.fr 2
   have zr3 := kR.fr 3
   have zr4 := kR.fr 4
   have zr5 := kR.fr 5
   have zr6 := kR.fr 6
   clear kR
   go_wp2_with fail
   refine bodyPost_ret (results_cell_row rfl _ _ RB _ #[.int .i64 0,.bool false,.slice none 0 0,.int .i64 5,.int .i64 0,.int .i64 0,.slice none 0 0] (0,0) _ rfl HK1.out Try.underlying72 rfl (by kernel_rfl)) rfl ?_
   exact HK2.out
  ·obtain ⟨k1,k2⟩ := HEnd.out w5 5 HB5.out (HBad.out (by simp))
   have HK1 := keep k1
   have HK2 := keep k2
   clear k1 k2
   have kR := (HBx.out w5 HB5.out).2.2.2
   have zc0 := kR.cell 0 rfl
   have zc1 := kR.cell 1 rfl
   have zc2 := kR.cell 2 rfl
   have zc3 := kR.cell 3 rfl
   have zc4 := kR.cell 4 rfl
   have zc5 := kR.cell 5 rfl
   have zc6 := kR.cell 6 rfl
   have zr0 := kR.fr 0
   have zr1 := kR.fr 1
   have zr2 := kR.fr 2
   have zr3 := kR.fr 3
   have zr4 := kR.fr 4
   have zr5 := kR.fr 5
   have zr6 := kR.fr 6
   clear kR
   go_wp2_with fail
   refine bodyPost_ret (results_cell_row rfl _ _ RB _ #[.int .i64 0,.bool false,.slice none 0 0,.int .i64 5,.int .i64 0,.int .i64 0,.slice none 0 0] (0,0) _ rfl HK1.out Try.underlying72 rfl (by kernel_rfl)) rfl ?_
   exact HK2.out
  ·obtain ⟨k1,k2⟩ := HEnd.out w5 5 HB5.out (HBad.out (by simp))
   have HK1 := keep k1
   have HK2 := keep k2
   clear k1 k2
   have kR := (HBx.out w5 HB5.out).2.2.2
   have zc0 := kR.cell 0 rfl
   have zc1 := kR.cell 1 rfl
   have zc2 := kR.cell 2 rfl
   have zc3 := kR.cell 3 rfl
   have zc4 := kR.cell 4 rfl
   have zc5 := kR.cell 5 rfl
   have zc6 := kR.cell 6 rfl
   have zr0 := kR.fr 0
   have zr1 := kR.fr 1
   have zr2 := kR.fr 2
   have zr3 := kR.fr 3
   have zr4 := kR.fr 4
   have zr5 := kR.fr 5
   have zr6 := kR.fr 6
   clear kR
   go_wp2_with fail
   refine bodyPost_ret (results_cell_row rfl _ _ RB _ #[.int .i64 0,.bool false,.slice none 0 0,.int .i64 5,.int .i64 0,.int .i64 0,.slice none 0 0] (0,0) _ rfl HK1.out Try.underlying72 rfl (by kernel_rfl)) rfl ?_
   exact HK2.out
  ·have hq := of_decide_eq_true HQ.out
   have HMd : Hid (mode = 0 ∨ mode = 1) := hq.1
   have HWs : Hid (ws.length ≤ 119) := by have := HN4.out; show _ ≤ _; omega
   have HMn : Hid (m = n5 ∧ aa.length = m) := ⟨hq.2.2.2.symm,by have := HN5.out; omega⟩
   have HRn : Hid (ranM T l pr m ws aa mode most = runM code T most.toNat 0 ⟨fromP 120 1 ws,aa,mode⟩) := by
    show _ = _
    unfold ranM
    rw [if_neg (by rw [HE0.out]; simp),if_neg (by rw [HN4.out,HN5.out,HQ.out]; simp),HCode.out]
   obtain ⟨st0,hst0⟩ : ∃ y : Ms,⟨fromP 120 1 ws,aa,mode⟩ = y := ⟨_,rfl⟩
   have HSt := keep hst0
   have HGd : Hid (GoodM 120 aa.length st0) := by show GoodM _ _ _; rw [← hst0]; exact fromP_good (by have := HWs.out; omega) HAW.out HMd.out
   have HFt : Hid (∀ i ∈ code,FitI 120 aa.length i) := by show ∀ i ∈ code,_; rw [HMn.out.2]; exact HFit.out
   have HNw : Hid (Calls Try.prog 47 #[.int .i64 120,.int .i64 1,.agg #[.slice p4 n4 c4,.slice p5 n5 c5]] w5 fun r w' => RNew 120 1 ws aa w5 r w') := rnew_any B 120 1 ws aa _ w5 (HBB.out w5 HB5.out) (HGv.out w5 HB5.out) (by omega) (by have := HWs.out; omega) HSum.out HAa.out
   clear hq hst0 HBad
   go_wp2_with fail
   refine HNw.out.mono ?_
   rintro r w6 ⟨MB,PB,AO,av,ps0,rfl,hrm,hps0,hb6,hM,hP,hAo,hps⟩
   obtain ⟨pv9,n9,cv9,hav⟩ : ∃ p n c,av = .slice p n c := by
    obtain ⟨p,c,e,_⟩ := hrm.ar.av
    exact ⟨p,_,c,e⟩
   subst hav
   obtain ⟨w7,hw7⟩ : ∃ y,w6.setCell ⟨MB,2,none⟩ (.int .i64 mode) = y := ⟨_,rfl⟩
   have hl120 : (fromP 120 1 ws).length = 120 := fromP_len (by have := HWs.out; omega)
   have hrm7 : Fl.RM mode w7 MB PB AO (.slice pv9 n9 cv9) (fromP 120 1 ws) ps0 := by rw [← hw7]; exact RM.mode hrm mode
   have hf7 : Fs [MB] w6 w7 := by rw [← hw7]; exact (Fs.refl [MB] w6).set (by simp) 2 _
   have m2 := hrm.m.cell 2 rfl
   have m2f := hrm.m.fr 2
   obtain ⟨w8,hw8⟩ : ∃ y,w7.alloc (.cells #[.int .i64 0,.bool false,.slice none 0 0,.int .i64 0,.int .i64 0,.int .i64 0,.slice none 0 0] 72) = y := ⟨_,rfl⟩
   obtain ⟨RX,hRX⟩ : ∃ y,w7.heap.size = y := ⟨_,rfl⟩
   have b8 : Below w7.heap.size w7 w8 := by rw [← hw8]; exact (Below.refl _ _).alloc (Nat.le_refl _) _
   have kRX : Bk w8 RX [.int .i64 0,.bool false,.slice none 0 0,.int .i64 0,.int .i64 0,.int .i64 0,.slice none 0 0] 72 := by rw [← hw8,← hRX]; exact Bk.new _ _ _
   have hst : st0 = ⟨fromP 120 1 ws,aa,mode⟩ := HSt.out.symm
   obtain ⟨bl,hbl⟩ : ∃ y,ps0.map Prod.fst = y := ⟨_,rfl⟩
   have hbn : bl.length = aa.length := by rw [← hbl,List.length_map,← hps0]; unfold ars; rw [List.length_map]
   have HBn := keep hbn
   have HAo : Hid (ps0 ≠ [] → AO < RX) := fun hne => by
    have h2 := hrm7.pl.lt
    obtain ⟨_,_,_,_,ha⟩ := hrm7.ar.av
    rw [← hRX]; exact (ha hne).2
   have HPs0 := keep hps0
   have hs5 := HB5.out.size
   have hs6 := hb6.size
   have hs7 := hf7.size
   have hs8 := b8.size
   have hrm8 := hrm7.below b8
   have HB8 : Hid (Below w4.heap.size w4 w8) := (HB5.out.trans (hb6.mono hs5)).trans ((hf7.below (by omega) (by simp; omega)).trans (b8.mono (by omega)))
   have HCL : Hid (CodeIs w8 w5.heap.size code (.slice pc nc cc)) := by
    have h1 := HCI.out.below hb6
    exact (h1.below (hf7.below hs6 (by simp; omega))).below (b8.mono (by omega))
   have HRg : Hid (w5.heap.size ≤ MB ∧ w5.heap.size ≤ PB ∧ (∀ b ∈ bl,w5.heap.size ≤ b ∧ b < w8.heap.size) ∧ w5.heap.size ≤ RX ∧ MB < RX ∧ PB < RX ∧ RX < w8.heap.size ∧ (∀ b ∈ bl,b < RX) ∧ w4.heap.size ≤ w5.heap.size ∧ (ps0 ≠ [] → w5.heap.size ≤ AO ∧ AO < RX)) := by
    have h1 := hrm7.m.lt
    have h2 := hrm7.pl.lt
    have h4 := kRX.lt
    have h5 : ∀ b ∈ bl,w5.heap.size ≤ b ∧ b < RX := fun b hb => by
     rw [← hbl] at hb
     obtain ⟨p,hp,rfl⟩ := List.mem_map.1 hb
     refine ⟨hps p hp,?_⟩
     obtain ⟨j,hj⟩ := List.getElem?_of_mem hp
     obtain ⟨sl,_,har⟩ := hrm7.ar.at' j p hj
     rw [← hRX]; exact har.lt
    refine ⟨hM,hP,fun b hb => ⟨(h5 b hb).1,by have := (h5 b hb).2; omega⟩,by omega,by omega,by omega,h4,fun b hb => (h5 b hb).2,hs5,fun hne => ⟨hAo hne,?_⟩⟩
    obtain ⟨_,_,_,_,ha⟩ := hrm7.ar.av
    have := (ha hne).2
    omega
   obtain ⟨N,hN⟩ : ∃ y,most.toNat = y := ⟨_,rfl⟩
   have HNm : Hid (N = most.toNat ∧ N ≤ 36000) := ⟨hN.symm,by have := HMo.out; show N ≤ _; omega⟩
   have HStart : Hid (RLoop code T N st0 RX MB PB AO (.slice pv9 n9 cv9) bl w8 0 0 st0 ps0 [] (.slice none 0 0) [] w8) := by
    refine ⟨by rw [List.nil_append]; rfl,rfl,kRX,by rw [hst]; exact hrm8,by rw [hst]; exact hps0,RowX.nil _ _,rfl,by rw [hbn]; exact HGd.out,hbl,Fs.refl _ _,by omega⟩
   have HNe0 : Hid (∀ qs : List (Nat × List Int),qs.map Prod.fst = bl → qs ≠ [] → ps0 ≠ []) := fun qs h1 h2 h3 => h2 (by
    have h4 : qs.map Prod.fst = ps0.map Prod.fst := by rw [h1,hbl]
    rw [h3] at h4
    exact List.map_eq_nil_iff.1 h4)
   have HW7 := keep hw7
   have HW8 := keep hw8
   have HRX := keep hRX
   have hcm : (ps0 = [] ∨ ps0 ≠ []) := Classical.em _
   clear hrm hps0 hb6 hM hP hAo hps hw7 hrm7 hf7 hw8 hRX b8 kRX hst hbl hbn hs5 hs6 hs7 hs8 hrm8 hl120 hN HNw hcm
   go_wp2_with (first | rw [HW7.out] | fail)
   try rw [HW8.out]
   try rw [HRX.out]
   clear m2 m2f
   have HFrame : Hid (∀ W,Fs (RX :: MB :: PB :: bl) w8 W → Below w4.heap.size w4 W ∧ CodeIs W w5.heap.size code (.slice pc nc cc)) := fun W hf => by
    have h := HRg.out
    have hin : ∀ k ∈ RX :: MB :: PB :: bl,w5.heap.size ≤ k := fun k hk => by
     simp only [List.mem_cons] at hk
     rcases hk with q | q | q | q
     ·omega
     ·omega
     ·omega
     ·exact (h.2.2.1 k q).1
    exact ⟨HB8.out.trans (hf.below HB8.out.size (fun k hk => Nat.le_trans h.2.2.2.2.2.2.2.2.1 (hin k hk))),CodeIs.fs HCL.out hf (by omega) hin⟩
   go_loopw [15] (fun i wx => ∃ (j at' : Nat) (s : Ms) (ps : List (Nat × List Int)) (hs : List (Nat × Ix × Ms)) (v : Value) (es : List (Lk × Value)),j ≤ N ∧ i = .int .i64 (at' : Int) ∧ RLoop code T N st0 RX MB PB AO (.slice pv9 n9 cv9) bl w8 j at' s ps hs v es wx) (fun _ wx => N + 1 - stp RX wx)
   case atStart => exact ⟨0,0,st0,ps0,[],_,[],by omega,rfl,HStart.out⟩
   case round =>
    obtain ⟨j,at',s,ps,hs,v,es,hjN,rfl,hI⟩ := hrel
    have HI := keep hI
    have HjN := keep hjN
    obtain ⟨hbw,hcd⟩ := HFrame.out wr hI.fs
    have HBW := keep hbw
    have x4 := hI.rx.cell 4 rfl
    obtain ⟨pc',nc',cc',e0,hcn,hcc,hcb,hcq⟩ := hcd
    cases e0
    have HCn := keep hcn
    have HCq := keep hcq
    clear hbw hcn hcc hcq
    by_cases hjm : (j : Int) < most
    ·have d1 : decide (most ≤ (j : Int)) = false := decide_eq_false (by omega)
     have HJl : Hid (j < N ∧ N ≤ 36000) := by
      have := HNm.out
      exact ⟨by omega,by omega⟩
     clear hjm
     by_cases hge : nc ≤ at'
     ·have d2 : decide ((nc : Int) ≤ (at' : Int)) = true := decide_eq_true (by omega)
      have d3 : decide (nc ≤ at') = true := decide_eq_true (by omega)
      have HR : Hid (ranM T l pr m ws aa mode most = noR 8) := by
       show _ = _
       have hno : code[at']? = none := by rw [List.getElem?_eq_none_iff,HCn.out]; exact hge
       have e : N - j = (N - j - 1) + 1 := by have := HJl.out.1; omega
       have ht := HI.out.tr
       rw [e,trM_none hno] at ht
       rw [HRn.out,HSt.out,← HNm.out.1,trM_bad (by rw [ht]; show (8 : Int) ≠ 0; decide),ht]
      clear hI hge
      obtain ⟨k1,k2⟩ := HEnd.out wr 8 HBW.out HR.out
      have HK1 := keep k1
      have HK2 := keep k2
      clear k1 k2
      have kR := (HBx.out wr HBW.out).2.2.2
      have zc0 := kR.cell 0 rfl
      have zr0 := kR.fr 0
      have zc1 := kR.cell 1 rfl
      have zr1 := kR.fr 1
      have zc2 := kR.cell 2 rfl
      have zr2 := kR.fr 2
      have zc3 := kR.cell 3 rfl
      have zr3 := kR.fr 3
      have zc4 := kR.cell 4 rfl
      have zr4 := kR.fr 4
      have zc5 := kR.cell 5 rfl
      have zr5 := kR.fr 5
      have zc6 := kR.cell 6 rfl
      have zr6 := kR.fr 6
      clear kR
      go_wp2_with fail
      refine bodyPost_ret (results_cell_row rfl _ _ RB _ #[.int .i64 0,.bool false,.slice none 0 0,.int .i64 8,.int .i64 0,.int .i64 0,.slice none 0 0] (0,0) _ rfl HK1.out Try.underlying72 rfl (by kernel_rfl)) rfl ?_
      exact HK2.out
     ·have d2 : decide ((nc : Int) ≤ (at' : Int)) = false := decide_eq_false (by omega)
      have d3 : decide (nc ≤ at') = false := decide_eq_false (by omega)
      have hlt : at' < nc := by omega
      obtain ⟨i,hi⟩ : ∃ i,code[at']? = some i := ⟨_,List.getElem?_eq_getElem (by rw [HCn.out]; exact hlt)⟩
      have HIx := keep hi
      have HFi := keep (HFt.out i (List.mem_of_getElem? hi))
      obtain ⟨g,o,rfl,hgB,hix⟩ := HCq.out at' i hi
      have HLtn : Hid (at' < nc ∧ nc ≤ 1000000) := ⟨hlt,by have h1 := HLen.out; have h2 := HCn.out; omega⟩
      obtain ⟨op,d,a,b,c,imm⟩ := i
      have z0 := hix.c0
      have z1 := hix.c1
      have z2 := hix.c2
      have z3 := hix.c3
      have z4 := hix.c4
      have z5 := hix.c5
      dsimp only at z0 z1 z2 z3 z4 z5
      have hk0 : (0 : Int) ≤ (at' : Int) := by omega
      have hk1 : (at' : Int) < (nc : Int) := by omega
      obtain ⟨pv,nv,cv,rfl⟩ := RowX.slice hI.row
      obtain ⟨wA,hwA⟩ : ∃ y,wr.alloc (.cells #[.int .i64 op,.int .i64 d,.int .i64 a,.int .i64 b,.int .i64 c,.int .i64 imm] 35) = y := ⟨_,rfl⟩
      obtain ⟨IB,hIB⟩ : ∃ y,wr.heap.size = y := ⟨_,rfl⟩
      have bA : Below wr.heap.size wr wA := by rw [← hwA]; exact (Below.refl _ _).alloc (Nat.le_refl _) _
      have kI : Bk wA IB [.int .i64 op,.int .i64 d,.int .i64 a,.int .i64 b,.int .i64 c,.int .i64 imm] 35 := by rw [← hwA,← hIB]; exact Bk.new _ _ _
      have HkI := keep kI
      have HBA := keep bA
      have HWA := keep hwA
      have HIB := keep hIB
      have HRmA := keep (hI.rm.below bA)
      have HRxA := keep (hI.rx.fs (Fs.of_below (l:=[]) bA) (by simp))
      have HTbA : Hid (Tb.Blk wA TB T) := (HBx.out wA (HBW.out.trans (bA.mono HBW.out.size))).2.1
      have HRowA : Hid (RowL wA w8.heap.size (.slice pv nv cv) es) := RowX.fs (l:=[]) nestL_nest hI.row (Fs.of_below bA) (by simp)
      obtain ⟨bm,hbm⟩ : ∃ y,decide (s.m = 0) = y := ⟨_,rfl⟩
      have hbq : (s.m == 0) = bm := by rw [← hbm]; exact Bool.beq_eq_decide_eq _ _
      have HBm := keep hbm
      have HBq := keep hbq
      have HSS : Hid (∀ W',Below wA.heap.size wA W' → Tb.Blk W' TB T ∧ W'.cell? ⟨RX,6,none⟩ = some (.slice pv nv cv) ∧ W'.cell? ⟨IB,0,none⟩ = some (.int .i64 op) ∧ W'.cell? ⟨IB,1,none⟩ = some (.int .i64 d) ∧ W'.cell? ⟨IB,2,none⟩ = some (.int .i64 a) ∧ W'.cell? ⟨IB,3,none⟩ = some (.int .i64 b) ∧ W'.cell? ⟨IB,4,none⟩ = some (.int .i64 c) ∧ W'.cell? ⟨IB,5,none⟩ = some (.int .i64 imm) ∧ W'.cell? ⟨MB,0,none⟩ = some (.slice (some ⟨PB,0,none⟩) s.P.length s.P.length) ∧ W'.cell? ⟨MB,2,none⟩ = some (.int .i64 s.m)) := fun W' hW => by
       have u1 := HRxA.out.fs (Fs.of_below (l:=[]) hW) (by simp)
       have u2 := HkI.out.fs (Fs.of_below (l:=[]) hW) (by simp)
       have u3 := (HRmA.out.below hW).m
       exact ⟨HTbA.out.below hW HTbA.out.lt,u1.cell 6 rfl,u2.cell 0 rfl,u2.cell 1 rfl,u2.cell 2 rfl,u2.cell 3 rfl,u2.cell 4 rfl,u2.cell 5 rfl,u3.cell 0 rfl,u3.cell 2 rfl⟩
      have HSeen := keep (fun W (hW : Below wA.heap.size wA W) => rseen_any W.heap.size T ⟨op,d,a,b,c,imm⟩ s.P (.slice (some ⟨PB,0,none⟩) s.P.length s.P.length) bm W (Nat.le_refl _) (by
       have h1 := HRmA.out.below hW
       refine ⟨_,_,_,rfl,rfl,Nat.le_refl _,by have := HI.out.gd.len; omega,fun j x hj => ⟨PB,0,rfl,h1.pl.lt,?_⟩⟩
       rw [Nat.zero_add]
       exact h1.pl.cell j (by rw [List.getElem?_map,hj]; rfl)) HTR.out (fun p hp => by rw [HI.out.gd.len]; exact HFi.out.r p hp))
      unfold ixA at HSeen
      dsimp only at HSeen
      clear hI hi hix hwA hIB bA kI hge hbm hbq hgB hlt
      go_wp2_with fail
      rw [HWA.out,HIB.out]
      obtain ⟨i0,hi0,j0,j1,j2⟩ := info_parts infoL
      refine wp_region_noPanic ?_
      refine Ord.wpM_begin (fun W' : World => Tb.Blk W' TB T ∧ W'.cell? ⟨RX,6,none⟩ = some (.slice pv nv cv) ∧ W'.cell? ⟨IB,0,none⟩ = some (.int .i64 op) ∧ W'.cell? ⟨IB,1,none⟩ = some (.int .i64 d) ∧ W'.cell? ⟨IB,2,none⟩ = some (.int .i64 a) ∧ W'.cell? ⟨IB,3,none⟩ = some (.int .i64 b) ∧ W'.cell? ⟨IB,4,none⟩ = some (.int .i64 c) ∧ W'.cell? ⟨IB,5,none⟩ = some (.int .i64 imm) ∧ W'.cell? ⟨MB,0,none⟩ = some (.slice (some ⟨PB,0,none⟩) s.P.length s.P.length) ∧ W'.cell? ⟨MB,2,none⟩ = some (.int .i64 s.m)) [0,1,2,3,4,5,6,7,8,9,10,11,12,13,14,15,16,17,18,19,20] (by kernel_rfl) ?_
      have HD : Hid (Below wA.heap.size wA wA.drew) := Below.drew (Below.refl _ _)
      generalize wA.drew = wd at *
      have hS := HSS.out wd HD.out
      refine Ord.tk (i:=0) (v:=.pointer (some ⟨RX,6,none⟩)) (hy:=Or.inl ⟨by rfl,by rintro W' ⟨q0,q1,q2,q3,q4,q5,q6,q7,q8,q9⟩; go_simp⟩) (hS:=hS) (h:=?_)
      try simp only [Act.put,Ord.t,Ord.z,Ord.s]
      refine Ord.tk (i:=1) (v:=.slice pv nv cv) (hy:=Or.inl ⟨by rfl,by rintro W' ⟨q0,q1,q2,q3,q4,q5,q6,q7,q8,q9⟩; go_simp⟩) (hS:=hS) (h:=?_)
      try simp only [Act.put,Ord.t,Ord.z,Ord.s]
      refine Ord.tk (i:=2) (v:=.int .i64 (at' : Int)) (hy:=Or.inl ⟨by rfl,by rintro W' ⟨q0,q1,q2,q3,q4,q5,q6,q7,q8,q9⟩; go_simp⟩) (hS:=hS) (h:=?_)
      try simp only [Act.put,Ord.t,Ord.z,Ord.s]
      refine Ord.tk (i:=3) (v:=.pointer (some ⟨IB,0,none⟩)) (hy:=Or.inl ⟨by rfl,by rintro W' ⟨q0,q1,q2,q3,q4,q5,q6,q7,q8,q9⟩; go_simp⟩) (hS:=hS) (h:=?_)
      try simp only [Act.put,Ord.t,Ord.z,Ord.s]
      refine Ord.tk (i:=4) (v:=.int .i64 op) (hy:=Or.inl ⟨by rfl,by rintro W' ⟨q0,q1,q2,q3,q4,q5,q6,q7,q8,q9⟩; go_simp⟩) (hS:=hS) (h:=?_)
      try simp only [Act.put,Ord.t,Ord.z,Ord.s]
      refine Ord.wpM_take (i:=5) (v:=.agg (Tb.tabA T)) (by simp only [List.getElem?_toArray,List.getElem?_cons_zero,List.getElem?_cons_succ]; rfl) (by kernel_rfl) (by kernel_rfl) (by kernel_rfl) (by kernel_rfl) (fun _ _ _ h => h) (tab_yields rfl (.tmp 6) rfl TB rfl T (fun W hW => hW.1)) hS ?_
      try simp only [Act.put,Ord.t,Ord.z,Ord.s]
      refine Ord.tk (i:=6) (v:=.agg #[.int .i64 op,.int .i64 d,.int .i64 a,.int .i64 b,.int .i64 c,.int .i64 imm]) (hy:=Or.inl ⟨by rfl,by rintro W' ⟨q0,q1,q2,q3,q4,q5,q6,q7,q8,q9⟩; go_simp⟩) (hS:=hS) (h:=?_)
      try simp only [Act.put,Ord.t,Ord.z,Ord.s]
      refine Ord.tk (i:=7) (v:=.pointer (some ⟨MB,0,none⟩)) (hy:=Or.inl ⟨by rfl,by rintro W' ⟨q0,q1,q2,q3,q4,q5,q6,q7,q8,q9⟩; go_simp⟩) (hS:=hS) (h:=?_)
      try simp only [Act.put,Ord.t,Ord.z,Ord.s]
      refine Ord.tk (i:=8) (v:=.pointer (some ⟨MB,0,none⟩)) (hy:=Or.inl ⟨by rfl,by rintro W' ⟨q0,q1,q2,q3,q4,q5,q6,q7,q8,q9⟩; go_simp⟩) (hS:=hS) (h:=?_)
      try simp only [Act.put,Ord.t,Ord.z,Ord.s]
      refine Ord.tk (i:=9) (v:=.pointer (some ⟨MB,0,none⟩)) (hy:=Or.inl ⟨by rfl,by rintro W' ⟨q0,q1,q2,q3,q4,q5,q6,q7,q8,q9⟩; go_simp⟩) (hS:=hS) (h:=?_)
      try simp only [Act.put,Ord.t,Ord.z,Ord.s]
      refine Ord.tk (i:=10) (v:=.slice (some ⟨PB,0,none⟩) s.P.length s.P.length) (hy:=Or.inl ⟨by rfl,by rintro W' ⟨q0,q1,q2,q3,q4,q5,q6,q7,q8,q9⟩; go_simp⟩) (hS:=hS) (h:=?_)
      try simp only [Act.put,Ord.t,Ord.z,Ord.s]
      refine Ord.tk (i:=11) (v:=.pointer (some ⟨MB,0,none⟩)) (hy:=Or.inl ⟨by rfl,by rintro W' ⟨q0,q1,q2,q3,q4,q5,q6,q7,q8,q9⟩; go_simp⟩) (hS:=hS) (h:=?_)
      try simp only [Act.put,Ord.t,Ord.z,Ord.s]
      refine Ord.tk (i:=12) (v:=.pointer (some ⟨MB,0,none⟩)) (hy:=Or.inl ⟨by rfl,by rintro W' ⟨q0,q1,q2,q3,q4,q5,q6,q7,q8,q9⟩; go_simp⟩) (hS:=hS) (h:=?_)
      try simp only [Act.put,Ord.t,Ord.z,Ord.s]
      refine Ord.tk (i:=13) (v:=.pointer (some ⟨MB,2,none⟩)) (hy:=Or.inl ⟨by rfl,by rintro W' ⟨q0,q1,q2,q3,q4,q5,q6,q7,q8,q9⟩; go_simp⟩) (hS:=hS) (h:=?_)
      try simp only [Act.put,Ord.t,Ord.z,Ord.s]
      refine Ord.tk (i:=14) (v:=.int .i64 s.m) (hy:=Or.inl ⟨by rfl,by rintro W' ⟨q0,q1,q2,q3,q4,q5,q6,q7,q8,q9⟩; go_simp⟩) (hS:=hS) (h:=?_)
      try simp only [Act.put,Ord.t,Ord.z,Ord.s]
      refine Ord.tk (i:=15) (v:=.bool bm) (hy:=Or.inl ⟨by rfl,by rintro W' ⟨q0,q1,q2,q3,q4,q5,q6,q7,q8,q9⟩; go_simp <;> exact HBq.out⟩) (hS:=hS) (h:=?_)
      try simp only [Act.put,Ord.t,Ord.z,Ord.s]
      refine Ord.on (i:=16) (h:=fun K hK => ?_)
      go_simp
      refine (HSeen.out wd HD.out).mono ?_
      rintro r we ⟨vv,rfl,hvv,hbe⟩
      have HBe := keep (HD.out.trans (hbe.mono HD.out.size))
      obtain ⟨pq,nq,cq,hvq,_⟩ := id hvv
      subst hvq
      have HNe : Hid (nestL we (In w8.heap.size (.slice pv nv cv) we) (⟨at',op,valsW (bitsG T op bm) s.P 0 (rds ⟨op,d,a,b,c,imm⟩)⟩,.slice pq nq cq)) := by
       refine IntsX.mono hvv (fun i hi => ?_)
       have h3 := HD.out.size
       have h4 := HRowA.out
       have h1 := hi.1
       refine ⟨?_,hi.2,fun e => ?_⟩
       ·have h5 := HI.out.fs.size
        have h6 := HBA.out.size
        omega
       ·have := (RowX.own h4).lt i e
        omega
      have HRowE : Hid (RowL we w8.heap.size (.slice pv nv cv) es) := RowX.fs (l:=[]) nestL_nest HRowA.out (Fs.of_below HBe.out) (by simp)
      clear hvv hbe HSeen
      go_simp
      refine hK.out _ _ (fun _ => HSS.out we HBe.out) ?_
      clear hK K
      try simp only [Act.put,Ord.t,Ord.z,Ord.s]
      have hS := HSS.out we HBe.out
      refine Ord.tk (i:=17) (v:=.agg #[.int .i64 (at' : Int),.int .i64 op,.slice pq nq cq]) (hy:=Or.inl ⟨by rfl,by rintro W' ⟨q0,q1,q2,q3,q4,q5,q6,q7,q8,q9⟩; go_simp⟩) (hS:=hS) (h:=?_)
      try simp only [Act.put,Ord.t,Ord.z,Ord.s]
      have hnv : nv = es.length := RowX.len HRowE.out
      subst hnv
      have hown := (RowX.own HRowE.out).alloc (.cells #[.int .i64 (at' : Int),.int .i64 op,.slice pq nq cq] 61)
      have hlen : es.length ≤ 36000 := by have h1 := congrArg List.length HI.out.mp; rw [List.length_map,List.length_map,HI.out.len] at h1; have h2 := HJl.out; omega
      have hw8 : w8.heap.size ≤ we.heap.size := by have h5 := HI.out.fs.size; have h6 := HBA.out.size; have h7 := HBe.out.size; omega
      refine Ord.on (i:=18) (h:=fun K hK => ?_)
      go_simp
      refine hK.out _ _ (fun _ => HSS.out _ (HBe.out.trans (((Below.refl _ _).alloc (Nat.le_refl _) _).mono HBe.out.size))) ?_
      clear hK K
      try simp only [Act.put,Ord.t,Ord.z,Ord.s]
      refine Ord.on (i:=19) (h:=fun K hK => ?_)
      refine step_append_lies _ rfl (.tmp 81) (.tmp 98) 52 rfl w8.heap.size 61 i0 _ 3 40 Try.underlying52 hi0 j0 j1 j2 rfl (by decide) (.slice pv es.length cv) es.length (es.flatMap cellsL) rfl hown ⟨we.heap.size,0,none⟩ 1 1 (cellsL (⟨at',op,valsW (bitsG T op bm) s.P 0 (rds ⟨op,d,a,b,c,imm⟩)⟩,.slice pq nq cq)) rfl rfl (fun j u hj => new_cell we _ _ j u hj) ?c2 (by decide) ?c3 ?c4 ?c5 (we.heap.size + 1) (by simp) ?_
      case c2 =>
       intro u hu
       simp only [cellsL,List.mem_cons,List.not_mem_nil,or_false] at hu
       rcases hu with rfl | rfl | rfl <;> rfl
      case c3 => unfold maxLen; omega
      case c4 => omega
      case c5 => first | omega | (simp; omega)
      intro gz cap wf hown2 hgrow hat hlt
      have hbz : Below we.heap.size we (we.alloc (.cells #[.int .i64 (at' : Int),.int .i64 op,.slice pq nq cq] 61)) := (Below.refl _ _).alloc (Nat.le_refl _) _
      have HRowF : Hid (RowL wf w8.heap.size (.slice (some ⟨gz,0,none⟩) (es.length + 1) cap) (es ++ [(⟨at',op,valsW (bitsG T op bm) s.P 0 (rds ⟨op,d,a,b,c,imm⟩)⟩,.slice pq nq cq)])) :=
       RowX.push nestL_nest (RowX.fs (l:=[]) nestL_nest HRowE.out (Fs.of_below hbz) (by simp)) (nestL_nest.mono _ _ _ _ (nestL_nest.keep _ _ _ _ HNe.out (fun i hi => hbz.block i hi.2.1)) (fun i hi => ⟨hi.1,Nat.lt_of_lt_of_le hi.2.1 hbz.size,hi.2.2⟩)) hown2 hgrow (by simpa using hat)
      have hfr : ∀ i,i < we.heap.size → (i < w8.heap.size ∨ i = IB) → wf.heap[i]? = we.heap[i]? := fun i h1 h2 => by
       refine (hgrow.block i (by have := hbz.size; omega) (fun e => ?_)).trans (hbz.block i h1)
       have h3 := (RowX.own HRowA.out).lt i e.symm
       have h4 := (RowX.own HI.out.row).lt i e.symm
       have h5 := HIB.out
       omega
      have HFrF : Hid (Below w8.heap.size we wf) := ⟨hgrow.os.trans hbz.os,hgrow.tape.trans hbz.tape,hgrow.output.trans hbz.output,Nat.le_trans hbz.size hgrow.size,fun i hi => hfr i (by omega) (.inl hi)⟩
      have HkIF : Hid (Bk wf IB [.int .i64 op,.int .i64 d,.int .i64 a,.int .i64 b,.int .i64 c,.int .i64 imm] 35) := by
       have h1 := HkI.out.fs (Fs.of_below (l:=[]) HBe.out) (by simp)
       show Bk _ _ _ _
       unfold Bk at h1 ⊢
       rw [hfr IB (Array.getElem?_eq_some_iff.1 h1).1 (.inr rfl)]; exact h1
      have HBf : Hid (Below w8.heap.size wr wf) := by
       have h5 := HI.out.fs.size
       have h6 := HBA.out.size
       have h7 : Below w8.heap.size wr we := (HBA.out.trans (HBe.out.mono HBA.out.size)).mono h5
       exact h7.trans HFrF.out
      have HRxF : Hid (Bk wf RX [.int .i64 0,.bool false,.slice none 0 0,.int .i64 0,.int .i64 (j : Int),.int .i64 0,.slice pv es.length cv] 72) := by
       have h1 := HI.out.rx
       show Bk _ _ _ _
       unfold Bk at h1 ⊢
       rw [HBf.out.block RX HRg.out.2.2.2.2.2.2.1]; exact h1
      have HRmF := keep (rm_low HI.out.rm HBf.out (by have := HRg.out; omega) (by have := HRg.out; omega) (fun e => by have h1 := HRg.out; have h2 := HAo.out (HNe0.out _ HI.out.hbl e); omega) (fun p hp => by have h1 := HRg.out.2.2.1 p.1 (by rw [← HI.out.hbl]; exact List.mem_map.2 ⟨p,hp,rfl⟩); omega))
      have hSf : (fun W' : World => Tb.Blk W' TB T ∧ W'.cell? ⟨RX,6,none⟩ = some (.slice pv es.length cv) ∧ W'.cell? ⟨IB,0,none⟩ = some (.int .i64 op) ∧ W'.cell? ⟨IB,1,none⟩ = some (.int .i64 d) ∧ W'.cell? ⟨IB,2,none⟩ = some (.int .i64 a) ∧ W'.cell? ⟨IB,3,none⟩ = some (.int .i64 b) ∧ W'.cell? ⟨IB,4,none⟩ = some (.int .i64 c) ∧ W'.cell? ⟨IB,5,none⟩ = some (.int .i64 imm) ∧ W'.cell? ⟨MB,0,none⟩ = some (.slice (some ⟨PB,0,none⟩) s.P.length s.P.length) ∧ W'.cell? ⟨MB,2,none⟩ = some (.int .i64 s.m)) wf := by
       have u2 : Tb.Blk we TB T := HTbA.out.below HBe.out HTbA.out.lt
       have h9 : TB < w8.heap.size := by have h1 := HLt.out.2.1; have h2 := HB8.out.size; omega
       exact ⟨u2.below HFrF.out h9,HRxF.out.cell 6 rfl,HkIF.out.cell 0 rfl,HkIF.out.cell 1 rfl,HkIF.out.cell 2 rfl,HkIF.out.cell 3 rfl,HkIF.out.cell 4 rfl,HkIF.out.cell 5 rfl,HRmF.out.m.cell 0 rfl,HRmF.out.m.cell 2 rfl⟩
      clear hown2 hgrow hat hlt hown hbz hfr
      refine hK.out _ _ (fun _ => hSf) ?_
      clear hK K
      try simp only [Act.put,Ord.t,Ord.z,Ord.s]
      have hS := hSf
      refine Ord.tk (i:=20) (v:=.pointer (some ⟨RX,6,none⟩)) (hy:=Or.inl ⟨by rfl,by rintro W' ⟨q0,q1,q2,q3,q4,q5,q6,q7,q8,q9⟩; go_simp⟩) (hS:=hS) (h:=?_)
      try simp only [Act.put,Ord.t,Ord.z,Ord.s]
      have l0 := HRxF.out.cell 6 rfl
      have lf := HRxF.out.fr 6
      refine Ord.on (i:=21) (h:=fun K hK => ?_)
      go_simp
      refine hK.out _ _ (fun h => absurd h (by decide)) ?_
      clear hK K
      try simp only [Act.put,Ord.t,Ord.z,Ord.s]
      refine Ord.wpM_done (by kernel_rfl) ?_ _
      refine NoPanic.normal ?_
      clear hS hSf HSS i0 hi0 j0 j1 j2 l0 lf hlen hw8
      obtain ⟨wg,hwg⟩ : ∃ y,wf.setCell ⟨RX,6,none⟩ (.slice (some ⟨gz,0,none⟩) (es.length + 1) cap) = y := ⟨_,rfl⟩
      rw [hwg]
      have HkRg : Hid (Bk wg RX [.int .i64 0,.bool false,.slice none 0 0,.int .i64 0,.int .i64 (j : Int),.int .i64 0,.slice (some ⟨gz,0,none⟩) (es.length + 1) cap] 72) := by show Bk _ _ _ _; rw [← hwg]; exact HRxF.out.set 6 _
      have hfR : Fs [RX] wf wg := by rw [← hwg]; exact (Fs.refl [RX] wf).set (by simp) 6 _
      have HkIg : Hid (Bk wg IB [.int .i64 op,.int .i64 d,.int .i64 a,.int .i64 b,.int .i64 c,.int .i64 imm] 35) := HkIF.out.fs hfR (by have h1 := HRg.out; have h2 := HIB.out; have h3 := HI.out.fs.size; simp; omega)
      have HRmg := keep (HRmF.out.fs hfR (by have := HRg.out; simp; omega) (by have := HRg.out; simp; omega) (fun e => by have h2 := HAo.out (HNe0.out _ HI.out.hbl e); simp; omega) (fun p hp => by have h1 := HRg.out.2.2.2.2.2.2.2.1 p.1 (by rw [← HI.out.hbl]; exact List.mem_map.2 ⟨p,hp,rfl⟩); simp; omega))
      have HFg : Hid (Fs (RX :: MB :: PB :: bl) w8 wg) := by
       have h1 := HI.out.fs
       have h2 := HBf.out
       have h3 : Fs (RX :: MB :: PB :: bl) w8 wf := ⟨h2.os.trans h1.os,h2.tape.trans h1.tape,h2.output.trans h1.output,Nat.le_trans h1.size h2.size,fun i hi hn => (h2.block i hi).trans (h1.block i hi hn)⟩
       exact h3.trans (hfR.mono (by simp))
      have HRowg : Hid (RowL wg w8.heap.size (.slice (some ⟨gz,0,none⟩) (es.length + 1) cap) (es ++ [(⟨at',op,valsW (bitsG T op bm) s.P 0 (rds ⟨op,d,a,b,c,imm⟩)⟩,.slice pq nq cq)])) := RowX.fs nestL_nest HRowF.out hfR (by have := HRg.out; simp; omega)
      have HMpg : Hid ((es ++ [((⟨at',op,valsW (bitsG T op bm) s.P 0 (rds ⟨op,d,a,b,c,imm⟩)⟩ : Lk),Value.slice pq nq cq)]).map Prod.fst = (hs ++ [(at',(⟨op,d,a,b,c,imm⟩ : Ix),s)]).map (fun x => lkM T x.1 x.2.1 x.2.2)) := by
       show _ = _
       rw [List.map_append,List.map_append,HI.out.mp]
       unfold lkM seenM
       rw [← HBm.out]; rfl
      have hpl : ps.length = bl.length := by rw [← HI.out.hbl,List.length_map]
      have HDo := keep (rdoM_any MB PB AO (.slice pv9 n9 cv9) s ps ⟨op,d,a,b,c,imm⟩ at' wg HRmg.out HI.out.ar (by rw [hpl]; exact HI.out.gd) (by rw [hpl,HBn.out]; exact HFi.out) (by have := HLtn.out; omega))
      unfold ixA at HDo
      dsimp only at HDo
      have HIwg : Hid (wr.heap.size ≤ wg.heap.size) := by have h1 := HBf.out.size; have h2 := hfR.size; show _ ≤ _; omega
      clear hwg hfR hpl z0 z1 z2 z3 z4 z5 x4
      have x0 := HkIg.out.cell 0 rfl
      have x1 := HkIg.out.cell 1 rfl
      have x2 := HkIg.out.cell 2 rfl
      have x3 := HkIg.out.cell 3 rfl
      have x4 := HkIg.out.cell 4 rfl
      have x5 := HkIg.out.cell 5 rfl
      by_cases hend : op = 20 ∨ op = 21
      ·have HO := keep hend
       have HRt : Hid (∀ r w',RDm MB PB AO (.slice pv9 n9 cv9) s ps ⟨op,d,a,b,c,imm⟩ at' wg r w' → r = .returned (.int .i64 (-1)) ∧ ∃ ps',Fl.RM s.m w' MB PB AO (.slice pv9 n9 cv9) s.P ps' ∧ ars ps' = s.A ∧ ps'.map Prod.fst = ps.map Prod.fst ∧ Fs (MB :: PB :: ps.map Prod.fst) wg w') := fun r w' h => by
        obtain ⟨e1,ps',e2,e3,e4,e5⟩ := h
        have hm0 : mks ⟨op,d,a,b,c,imm⟩ = false := by unfold mks; dsimp only; rw [decide_eq_false (show ¬ op ≤ 16 by omega),Bool.and_false]
        have hp0 : pl ⟨op,d,a,b,c,imm⟩ s.P s.A = s.P := by unfold pl; rw [hm0]; rfl
        have ha0 : arr ⟨op,d,a,b,c,imm⟩ s.P s.A = s.A := by unfold arr; rw [if_neg (fun x => by have := x.1; dsimp only at this; omega)]
        have hs0 : slotsM ⟨op,d,a,b,c,imm⟩ s = s.P := by unfold slotsM; rw [if_neg (by dsimp only; omega)]; exact hp0
        have hd0 : modeM ⟨op,d,a,b,c,imm⟩ s = s.m := by unfold modeM; rw [if_neg (by dsimp only; omega),if_neg (by dsimp only; omega)]
        rw [if_pos hend] at e1
        rw [hs0,hd0] at e2
        rw [ha0] at e3
        exact ⟨e1,ps',e2,e3,e4,e5⟩
       clear hend
       go_wp2_with fail
       refine HDo.out.mono ?_
       rintro r wh hrd
       obtain ⟨rfl,ps',hrm',har',hfst',hf'⟩ := HRt.out r wh hrd
       rw [HI.out.hbl] at hfst' hf'
       have HAr' := keep har'
       have HFst' := keep hfst'
       have HFh : Hid (Fs (RX :: MB :: PB :: bl) w8 wh) := HFg.out.trans (hf'.mono (fun k hk => List.mem_cons_of_mem _ hk))
       have HkRh : Hid (Bk wh RX [.int .i64 0,.bool false,.slice none 0 0,.int .i64 0,.int .i64 (j : Int),.int .i64 0,.slice (some ⟨gz,0,none⟩) (es.length + 1) cap] 72) := HkRg.out.fs hf' (fun hm => by
        have h1 := HRg.out
        simp only [List.mem_cons] at hm
        rcases hm with q | q | q
        ·omega
        ·omega
        ·have := h1.2.2.2.2.2.2.2.1 RX q; omega)
       have HkIh : Hid (Bk wh IB [.int .i64 op,.int .i64 d,.int .i64 a,.int .i64 b,.int .i64 c,.int .i64 imm] 35) := HkIg.out.fs hf' (fun hm => by
        have h1 := HRg.out
        have h2 := HIB.out
        have h3 := HI.out.fs.size
        simp only [List.mem_cons] at hm
        rcases hm with q | q | q
        ·omega
        ·omega
        ·have := h1.2.2.2.2.2.2.2.1 IB q; omega)
       have HRowh : Hid (RowL wh w8.heap.size (.slice (some ⟨gz,0,none⟩) (es.length + 1) cap) (es ++ [(⟨at',op,valsW (bitsG T op bm) s.P 0 (rds ⟨op,d,a,b,c,imm⟩)⟩,.slice pq nq cq)])) := RowX.fs nestL_nest HRowg.out hf' (fun k hk => by
        have h1 := HRg.out
        simp only [List.mem_cons] at hk
        rcases hk with q | q | q
        ·omega
        ·omega
        ·exact (h1.2.2.1 k q).2)
       obtain ⟨wi,hwi⟩ : ∃ y,wh.setCell ⟨RX,4,none⟩ (.int .i64 ((j : Int) + 1)) = y := ⟨_,rfl⟩
       have hfI : Fs [RX] wh wi := by rw [← hwi]; exact (Fs.refl [RX] wh).set (by simp) 4 _
       have HkRi : Hid (Bk wi RX [.int .i64 0,.bool false,.slice none 0 0,.int .i64 0,.int .i64 ((j : Int) + 1),.int .i64 0,.slice (some ⟨gz,0,none⟩) (es.length + 1) cap] 72) := by show Bk _ _ _ _; rw [← hwi]; exact HkRh.out.set 4 _
       have HkIi : Hid (Bk wi IB [.int .i64 op,.int .i64 d,.int .i64 a,.int .i64 b,.int .i64 c,.int .i64 imm] 35) := HkIh.out.fs hfI (by have h1 := HRg.out; have h2 := HIB.out; have h3 := HI.out.fs.size; simp; omega)
       have HRmi := keep (hrm'.fs hfI (by have := HRg.out; simp; omega) (by have := HRg.out; simp; omega) (fun e => by have h2 := HAo.out (HNe0.out _ HFst'.out e); simp; omega) (fun p hp => by have h1 := HRg.out.2.2.2.2.2.2.2.1 p.1 (by rw [← HFst'.out]; exact List.mem_map.2 ⟨p,hp,rfl⟩); simp; omega))
       have HRowi : Hid (RowL wi w8.heap.size (.slice (some ⟨gz,0,none⟩) (es.length + 1) cap) (es ++ [(⟨at',op,valsW (bitsG T op bm) s.P 0 (rds ⟨op,d,a,b,c,imm⟩)⟩,.slice pq nq cq)])) := RowX.fs nestL_nest HRowh.out hfI (by have := HRg.out; simp; omega)
       have HFi2 : Hid (Fs (RX :: MB :: PB :: bl) w8 wi) := HFh.out.trans (hfI.mono (by simp))
       have hwr1 : IntKind.i64.wrap ((j : Int) + 1) = (j : Int) + 1 := by rw [IntKind.wrap_i64]; have := HJl.out; omega
       have l4 := HkRh.out.cell 4 rfl
       have lf4 := HkRh.out.fr 4
       have HWi := keep hwi
       have HS20 : Hid (∀ W',Below wi.heap.size wi W' → W'.cell? ⟨IB,0,none⟩ = some (.int .i64 op) ∧ W'.cell? ⟨IB,1,none⟩ = some (.int .i64 d) ∧ W'.cell? ⟨IB,2,none⟩ = some (.int .i64 a) ∧ W'.cell? ⟨IB,3,none⟩ = some (.int .i64 b) ∧ W'.cell? ⟨IB,4,none⟩ = some (.int .i64 c) ∧ W'.cell? ⟨IB,5,none⟩ = some (.int .i64 imm) ∧ W'.cell? ⟨MB,2,none⟩ = some (.int .i64 s.m)) := fun W' hW => by
        have u2 := HkIi.out.fs (Fs.of_below (l:=[]) hW) (by simp)
        have u3 := (HRmi.out.below hW).m
        exact ⟨u2.cell 0 rfl,u2.cell 1 rfl,u2.cell 2 rfl,u2.cell 3 rfl,u2.cell 4 rfl,u2.cell 5 rfl,u3.cell 2 rfl⟩
       have HEn := keep (fun W (hW : Below wi.heap.size wi W) => rended_any MB PB AO (.slice pv9 n9 cv9) s.P ps' ⟨op,d,a,b,c,imm⟩ W (HRmi.out.below hW) (by have := HI.out.gd.len; omega) HO.out (fun ho => by rw [HI.out.gd.len]; exact HFi.out.r a (by rw [rds_one (.inr (.inr (.inr ho)))]; simp)))
       unfold ixA at HEn
       dsimp only at HEn
       obtain ⟨wo,hwo⟩ : ∃ y,(if op = 21 then (0 : Int) else gI s.P a) = y := ⟨_,rfl⟩
       obtain ⟨tr,htr⟩ : ∃ y,decide (op = 21) = y := ⟨_,rfl⟩
       have HWo := keep hwo
       have HTr := keep htr
       have HR9 : Hid (ranM T l pr m ws aa mode most = ⟨0,(hs ++ [(at',(⟨op,d,a,b,c,imm⟩ : Ix),s)]).map (fun x => lkM T x.1 x.2.1 x.2.2),⟨wo,tr,s.A⟩,s.m⟩ ∧ s.A.map List.length = aa.map List.length) := by
        have e : N - j = (N - j - 1) + 1 := by have := HJl.out.1; omega
        have ht := HI.out.tr
        rw [e,trM_end HIx.out HO.out] at ht
        dsimp only at ht
        obtain ⟨i9,h1,h2,h3⟩ := (trM_run (code:=code) (T:=T) (n:=N) (at' := 0) (s:=st0)).2 (by rw [ht])
        rw [ht] at h1 h3
        dsimp only at h1 h3
        rw [HIx.out] at h1
        cases h1
        refine ⟨?_,?_⟩
        ·rw [HRn.out,HSt.out,← HNm.out.1,h3]
         unfold endM
         dsimp only
         rw [HWo.out,HTr.out]
        ·have h4 := trM_lens (code:=code) (n:=N) (at' := 0) (s:=st0)
         rw [ht,← HSt.out] at h4
         exact h4
       clear hrd hrm' har' hfst' hf' hwi hfI x0 x1 x2 x3 x4 x5 HDo HRt hwo htr HRmF HRmg
       go_wp2_with fail
       try rw [HWi.out]
       refine wp_region_noPanic ?_
       refine Ord.wpM_begin (fun W' : World => W'.cell? ⟨IB,0,none⟩ = some (.int .i64 op) ∧ W'.cell? ⟨IB,1,none⟩ = some (.int .i64 d) ∧ W'.cell? ⟨IB,2,none⟩ = some (.int .i64 a) ∧ W'.cell? ⟨IB,3,none⟩ = some (.int .i64 b) ∧ W'.cell? ⟨IB,4,none⟩ = some (.int .i64 c) ∧ W'.cell? ⟨IB,5,none⟩ = some (.int .i64 imm) ∧ W'.cell? ⟨MB,2,none⟩ = some (.int .i64 s.m)) [0,1,2,3,4,5,6,7,8,9] (by kernel_rfl) ?_
       have HD2 : Hid (Below wi.heap.size wi wi.drew) := Below.drew (Below.refl _ _)
       generalize wi.drew = wd2 at *
       have hS := HS20.out wd2 HD2.out
       refine Ord.tk (i:=0) (v:=.pointer (some ⟨MB,0,none⟩)) (hy:=Or.inl ⟨by rfl,by rintro W' ⟨q0,q1,q2,q3,q4,q5,q6⟩; go_simp⟩) (hS:=hS) (h:=?_)
       try simp only [Act.put,Ord.t,Ord.z,Ord.s]
       refine Ord.tk (i:=1) (v:=.agg #[.int .i64 op,.int .i64 d,.int .i64 a,.int .i64 b,.int .i64 c,.int .i64 imm]) (hy:=Or.inl ⟨by rfl,by rintro W' ⟨q0,q1,q2,q3,q4,q5,q6⟩; go_simp⟩) (hS:=hS) (h:=?_)
       try simp only [Act.put,Ord.t,Ord.z,Ord.s]
       refine Ord.tk (i:=3) (v:=.pointer (some ⟨MB,0,none⟩)) (hy:=Or.inl ⟨by rfl,by rintro W' ⟨q0,q1,q2,q3,q4,q5,q6⟩; go_simp⟩) (hS:=hS) (h:=?_)
       try simp only [Act.put,Ord.t,Ord.z,Ord.s]
       refine Ord.tk (i:=4) (v:=.pointer (some ⟨MB,0,none⟩)) (hy:=Or.inl ⟨by rfl,by rintro W' ⟨q0,q1,q2,q3,q4,q5,q6⟩; go_simp⟩) (hS:=hS) (h:=?_)
       try simp only [Act.put,Ord.t,Ord.z,Ord.s]
       refine Ord.tk (i:=5) (v:=.pointer (some ⟨MB,2,none⟩)) (hy:=Or.inl ⟨by rfl,by rintro W' ⟨q0,q1,q2,q3,q4,q5,q6⟩; go_simp⟩) (hS:=hS) (h:=?_)
       try simp only [Act.put,Ord.t,Ord.z,Ord.s]
       refine Ord.tk (i:=6) (v:=.int .i64 s.m) (hy:=Or.inl ⟨by rfl,by rintro W' ⟨q0,q1,q2,q3,q4,q5,q6⟩; go_simp⟩) (hS:=hS) (h:=?_)
       try simp only [Act.put,Ord.t,Ord.z,Ord.s]
       refine Ord.on (i:=2) (h:=fun K hK => ?_)
       go_simp
       refine (HEn.out wd2 HD2.out).mono ?_
       rintro r wE ⟨rfl,hbe⟩
       rw [HWo.out,HTr.out]
       have HBE := keep (HD2.out.trans (hbe.mono HD2.out.size))
       clear hbe HEn
       go_simp
       refine hK.out _ _ (fun _ => HS20.out wE HBE.out) ?_
       clear hK K
       try simp only [Act.put,Ord.t,Ord.z,Ord.s]
       have hS := HS20.out wE HBE.out
       refine Ord.tk (i:=7) (v:=.pointer (some ⟨RX,0,none⟩)) (hy:=Or.inl ⟨by rfl,by rintro W' ⟨q0,q1,q2,q3,q4,q5,q6⟩; go_simp⟩) (hS:=hS) (h:=?_)
       try simp only [Act.put,Ord.t,Ord.z,Ord.s]
       have HkRE := keep (HkRi.out.fs (Fs.of_below (l:=[]) HBE.out) (by simp))
       obtain ⟨k1,k2⟩ := set_37 HkRE.out (.int .i64 wo) (.bool tr) (.slice pv9 n9 cv9)
       have HkRj := keep k1
       have HfJ := keep k2
       have hSj : (fun W' : World => W'.cell? ⟨IB,0,none⟩ = some (.int .i64 op) ∧ W'.cell? ⟨IB,1,none⟩ = some (.int .i64 d) ∧ W'.cell? ⟨IB,2,none⟩ = some (.int .i64 a) ∧ W'.cell? ⟨IB,3,none⟩ = some (.int .i64 b) ∧ W'.cell? ⟨IB,4,none⟩ = some (.int .i64 c) ∧ W'.cell? ⟨IB,5,none⟩ = some (.int .i64 imm) ∧ W'.cell? ⟨MB,2,none⟩ = some (.int .i64 s.m)) (wE.setCells RX 0 [.int .i64 wo,.bool tr,.slice pv9 n9 cv9]) := by
        have u2 := (HkIi.out.fs (Fs.of_below (l:=[]) HBE.out) (by simp)).fs k2 (by have h1 := HRg.out; have h2 := HIB.out; have h3 := HI.out.fs.size; simp; omega)
        have u3 := ((HRmi.out.below HBE.out).m).fs k2 (by have h1 := HRg.out; simp; omega)
        exact ⟨u2.cell 0 rfl,u2.cell 1 rfl,u2.cell 2 rfl,u2.cell 3 rfl,u2.cell 4 rfl,u2.cell 5 rfl,u3.cell 2 rfl⟩
       clear k1 k2
       refine Ord.on (i:=8) (h:=fun K hK => ?_)
       refine step_store_mid rfl 51 (.tmp 118) (.tmp 113) rfl RX 0 #[.int .i64 wo,.bool tr,.slice pv9 n9 cv9] rfl rfl (fun q hq => seven_there HkRE.out q (by have : q < 3 := hq; omega)) (by kernel_rfl) (by simp [Value.oneCell']) ?_
       refine hK.out _ (wE.setCells RX 0 [.int .i64 wo,.bool tr,.slice pv9 n9 cv9]) (fun _ => hSj) ?_
       clear hK K
       try simp only [Act.put,Ord.t,Ord.z,Ord.s]
       generalize hwj : wE.setCells RX 0 [.int .i64 wo,.bool tr,.slice pv9 n9 cv9] = wj at *
       have hS := hSj
       refine Ord.tk (i:=9) (v:=.pointer (some ⟨RX,5,none⟩)) (hy:=Or.inl ⟨by rfl,by rintro W' ⟨q0,q1,q2,q3,q4,q5,q6⟩; go_simp⟩) (hS:=hS) (h:=?_)
       try simp only [Act.put,Ord.t,Ord.z,Ord.s]
       have l5 := HkRj.out.cell 5 rfl
       have lf5 := HkRj.out.fr 5
       refine Ord.on (i:=10) (h:=fun K hK => ?_)
       go_simp
       refine hK.out _ _ (fun h => absurd h (by decide)) ?_
       clear hK K
       try simp only [Act.put,Ord.t,Ord.z,Ord.s]
       refine Ord.wpM_done (by kernel_rfl) ?_ _
       refine NoPanic.normal ?_
       clear hS hSj HS20 l5 lf5 l4 lf4 hwj
       obtain ⟨wk,hwk⟩ : ∃ y,wj.setCell ⟨RX,5,none⟩ (.int .i64 s.m) = y := ⟨_,rfl⟩
       rw [hwk]
       have HfK : Hid (Fs [RX] wj wk) := by show Fs _ _ _; rw [← hwk]; exact (Fs.refl [RX] wj).set (by simp) 5 _
       have HkRk : Hid (Bk wk RX [.int .i64 wo,.bool tr,.slice pv9 n9 cv9,.int .i64 0,.int .i64 ((j : Int) + 1),.int .i64 s.m,.slice (some ⟨gz,0,none⟩) (es.length + 1) cap] 72) := by show Bk _ _ _ _; rw [← hwk]; exact HkRj.out.set 5 _
       clear hwk
       have HFik : Hid (Fs [RX] wi wk) := ((Fs.of_below HBE.out).trans HfJ.out).trans HfK.out
       have HFk : Hid (Fs (RX :: MB :: PB :: bl) w8 wk) := HFi2.out.trans (HFik.out.mono (by simp))
       have HBk := keep (HFrame.out wk HFk.out).1
       have kR := (HBx.out wk HBk.out).2.2.2
       obtain ⟨k1,k2⟩ := set_seven kR (.int .i64 wo) (.bool tr) (.slice pv9 n9 cv9) (.int .i64 0) (.int .i64 ((j : Int) + 1)) (.int .i64 s.m) (.slice (some ⟨gz,0,none⟩) (es.length + 1) cap)
       have HK1 := keep k1
       obtain ⟨wz,hwz⟩ : ∃ y,((((((wk.setCell ⟨RB,0,none⟩ (.int .i64 wo)).setCell ⟨RB,1,none⟩ (.bool tr)).setCell ⟨RB,2,none⟩ (.slice pv9 n9 cv9)).setCell ⟨RB,3,none⟩ (.int .i64 0)).setCell ⟨RB,4,none⟩ (.int .i64 ((j : Int) + 1))).setCell ⟨RB,5,none⟩ (.int .i64 s.m)).setCell ⟨RB,6,none⟩ (.slice (some ⟨gz,0,none⟩) (es.length + 1) cap) = y := ⟨_,rfl⟩
       have HK2 : Hid (Fs [RB] wk wz) := by show Fs _ _ _; rw [← hwz]; exact k2
       have HWz := keep hwz
       clear hwz
       have zc0 := kR.cell 0 rfl
       have zr0 := kR.fr 0
       have y0 := HkRk.out.cell 0 rfl
       have zc1 := kR.cell 1 rfl
       have zr1 := kR.fr 1
       have y1 := HkRk.out.cell 1 rfl
       have zc2 := kR.cell 2 rfl
       have zr2 := kR.fr 2
       have y2 := HkRk.out.cell 2 rfl
       have zc3 := kR.cell 3 rfl
       have zr3 := kR.fr 3
       have y3 := HkRk.out.cell 3 rfl
       have zc4 := kR.cell 4 rfl
       have zr4 := kR.fr 4
       have y4 := HkRk.out.cell 4 rfl
       have zc5 := kR.cell 5 rfl
       have zr5 := kR.fr 5
       have y5 := HkRk.out.cell 5 rfl
       have zc6 := kR.cell 6 rfl
       have zr6 := kR.fr 6
       have y6 := HkRk.out.cell 6 rfl
       clear kR k1 k2
       go_wp2_with fail
       refine bodyPost_ret (results_cell_row rfl _ _ RB _ #[.int .i64 wo,.bool tr,.slice pv9 n9 cv9,.int .i64 0,.int .i64 ((j : Int) + 1),.int .i64 s.m,.slice (some ⟨gz,0,none⟩) (es.length + 1) cap] (0,0) _ rfl HK1.out Try.underlying72 rfl (by kernel_rfl)) rfl ?_
       rw [HWz.out]
       rw [HR9.out.1]
       have hRg := HRg.out
       have hLt := HLt.out
       have hbw := HBw.out wk HBk.out
       have hsk := HFk.out.size
       have hsz := HK2.out.size
       have hsi := HFik.out.size
       have hs5 := HB5.out.size
       refine ⟨.slice pv9 n9 cv9,.slice (some ⟨gz,0,none⟩) (es.length + 1) cap,?_,fun W l' hW hl' => ?_,hbw.trans (HK2.out.below hbw.size (fun k hk => by simp at hk; omega))⟩
       ·have hlen9 : (((hs ++ [(at',(⟨op,d,a,b,c,imm⟩ : Ix),s)]).map (fun x => lkM T x.1 x.2.1 x.2.2)).length : Int) = (j : Int) + 1 := by rw [List.length_map,List.length_append,HI.out.len]; simp
        dsimp only
        rw [hlen9]
       ·have hall : Fs (RX :: RB :: l') wi W := ((HFik.out.mono (by simp)).trans (HK2.out.mono (by simp))).trans (hW.mono (fun k hk => List.mem_cons_of_mem _ (List.mem_cons_of_mem _ hk)))
        have hout : ∀ b,w4.heap.size ≤ b → b < wz.heap.size → b ≠ RX → b ∉ RX :: RB :: l' := fun b h1 h2 h3 h4 => by
         simp only [List.mem_cons] at h4
         rcases h4 with q | q | q
         ·exact h3 q
         ·omega
         ·have := hl' b q; omega
        have hin : ∀ p ∈ ps',w5.heap.size ≤ p.1 ∧ p.1 < RX := fun p hp => by
         have h1 : p.1 ∈ bl := by rw [← HFst'.out]; exact List.mem_map.2 ⟨p,hp,rfl⟩
         exact ⟨(hRg.2.2.1 _ h1).1,hRg.2.2.2.2.2.2.2.1 _ h1⟩
        refine ⟨?_,?_⟩
        ·have h1 := (HRmi.out.fs hall (hout MB (by omega) (by omega) (by omega)) (hout PB (by omega) (by omega) (by omega)) (fun e => by have h2 := hRg.2.2.2.2.2.2.2.2.2 (HNe0.out _ HFst'.out e); exact hout AO (by omega) (by omega) (by omega)) (fun p hp => by have h2 := hin p hp; exact hout p.1 (by omega) (by omega) (by omega))).ar.arrs (by
          have h2 := congrArg List.length HFst'.out
          rw [List.length_map,HBn.out] at h2
          rw [h2]; exact HAl.out) (fun r hr => by
          rw [HAr'.out] at hr
          have h4 : r.length ∈ s.A.map List.length := List.mem_map.2 ⟨r,hr,rfl⟩
          rw [HR9.out.2] at h4
          obtain ⟨y,hy,e⟩ := List.mem_map.1 h4
          obtain ⟨q,hj⟩ := List.getElem?_of_mem hy
          have h5 := sumL_take aa q y hj
          have h6 := sumL_le aa (q + 1)
          have h7 := HSum.out
          omega)
         rw [HAr'.out] at h1
         exact h1
        ·have h1 : RowL W w8.heap.size (.slice (some ⟨gz,0,none⟩) (es.length + 1) cap) (es ++ [(⟨at',op,valsW (bitsG T op bm) s.P 0 (rds ⟨op,d,a,b,c,imm⟩)⟩,.slice pq nq cq)]) := RowX.stay nestL_nest HRowi.out hall.size (fun i h1 h2 => hall.block i h2 (hout i (by omega) (by omega) (by omega)))
         have h2 := h1.is (by have h3 := congrArg List.length HMpg.out; rw [List.length_map,List.length_map,List.length_append,List.length_append,HI.out.len] at h3; rw [List.length_append]; have h4 := HJl.out; simp only [List.length_singleton] at h3 ⊢; omega)
         rw [HMpg.out] at h2
         exact h2
      ·have HO := keep hend
       obtain ⟨k',hk'⟩ : ∃ y,nx ⟨op,d,a,b,c,imm⟩ at' s.P = y := ⟨_,rfl⟩
       have HK' := keep hk'
       have hkb : k' ≤ 4294967295 + 1000001 := by
        have h1 := HLtn.out
        have h2 := HFi.out.imm0.1
        have h3 := HFi.out.imm0.2
        dsimp only at h2 h3
        rw [← hk']
        unfold nx
        dsimp only
        split
        ·omega
        ·split <;> omega
       have HKb := keep hkb
       have HRt : Hid (∀ r w',RDm MB PB AO (.slice pv9 n9 cv9) s ps ⟨op,d,a,b,c,imm⟩ at' wg r w' → r = .returned (.int .i64 (k' : Int)) ∧ ∃ ps',Fl.RM (doM ⟨op,d,a,b,c,imm⟩ s).m w' MB PB AO (.slice pv9 n9 cv9) (doM ⟨op,d,a,b,c,imm⟩ s).P ps' ∧ ars ps' = (doM ⟨op,d,a,b,c,imm⟩ s).A ∧ ps'.map Prod.fst = ps.map Prod.fst ∧ Fs (MB :: PB :: ps.map Prod.fst) wg w') := fun r w' h => by
        obtain ⟨e1,h2⟩ := h
        rw [if_neg hend,hk'] at e1
        exact ⟨e1,h2⟩
       clear hend hk'
       have hneg : decide ((k' : Int) < 0) = false := decide_eq_false (by omega)
       go_wp2_with fail
       refine HDo.out.mono ?_
       rintro r wh hrd
       obtain ⟨rfl,ps',hrm',har',hfst',hf'⟩ := HRt.out r wh hrd
       rw [HI.out.hbl] at hfst' hf'
       have hRX : RX ∉ MB :: PB :: bl := fun hm => by
        have h1 := HRg.out
        simp only [List.mem_cons] at hm
        rcases hm with q | q | q
        ·omega
        ·omega
        ·have := h1.2.2.2.2.2.2.2.1 RX q; omega
       have hkRh : Bk wh RX [.int .i64 0,.bool false,.slice none 0 0,.int .i64 0,.int .i64 (j : Int),.int .i64 0,.slice (some ⟨gz,0,none⟩) (es.length + 1) cap] 72 := HkRg.out.fs hf' hRX
       obtain ⟨wi,hwi⟩ : ∃ y,wh.setCell ⟨RX,4,none⟩ (.int .i64 ((j : Int) + 1)) = y := ⟨_,rfl⟩
       have hfI : Fs [RX] wh wi := by rw [← hwi]; exact (Fs.refl [RX] wh).set (by simp) 4 _
       have HInv : Hid (RLoop code T N st0 RX MB PB AO (.slice pv9 n9 cv9) bl w8 (j + 1) k' (doM ⟨op,d,a,b,c,imm⟩ s) ps' (hs ++ [(at',(⟨op,d,a,b,c,imm⟩ : Ix),s)]) (.slice (some ⟨gz,0,none⟩) (es.length + 1) cap) (es ++ [(⟨at',op,valsW (bitsG T op bm) s.P 0 (rds ⟨op,d,a,b,c,imm⟩)⟩,.slice pq nq cq)]) wi) := by
        have ht := HI.out.tr
        have e : N - j = (N - j - 1) + 1 := by have := HJl.out.1; omega
        rw [e,trM_on HIx.out HO.out,HK'.out] at ht
        dsimp only at ht
        have e1 : N - (j + 1) = N - j - 1 := by omega
        refine ⟨?_,by rw [List.length_append,HI.out.len]; rfl,?_,?_,har',?_,HMpg.out,?_,hfst',?_,HKb.out⟩
        ·rw [e1,ht,List.append_assoc]; rfl
        ·rw [← hwi]; exact hkRh.set 4 _
        ·exact hrm'.fs hfI (by have := HRg.out; simp; omega) (by have := HRg.out; simp; omega) (fun e => by have h2 := HAo.out (HNe0.out _ hfst' e); simp; omega) (fun p hp => by have h1 := HRg.out.2.2.2.2.2.2.2.1 p.1 (by rw [← hfst']; exact List.mem_map.2 ⟨p,hp,rfl⟩); simp; omega)
        ·refine RowX.fs nestL_nest (RowX.fs nestL_nest HRowg.out hf' (fun k hk => ?_)) hfI (by have := HRg.out; simp; omega)
         have h1 := HRg.out
         simp only [List.mem_cons] at hk
         rcases hk with q | q | q
         ·omega
         ·omega
         ·exact (h1.2.2.1 k q).2
        ·exact doM_good (by rw [HBn.out]; exact HFi.out) HI.out.gd
        ·exact (HFg.out.trans (hf'.mono (fun k hk => List.mem_cons_of_mem _ hk))).trans (hfI.mono (by simp))
       have hwr1 : IntKind.i64.wrap ((j : Int) + 1) = (j : Int) + 1 := by rw [IntKind.wrap_i64]; have := HJl.out; omega
       have l4 := hkRh.cell 4 rfl
       have lf4 := hkRh.fr 4
       have HWi := keep hwi
       have HSt0 : Hid (stp RX wr = j) := stp_eq (HI.out.rx.cell 4 rfl)
       clear hrd hrm' har' hfst' hf' hRX hkRh hwi hfI x0 x1 x2 x3 x4 x5 HDo HRt hkb HRmF HRmg
       go_wp2_with fail
       try rw [HWi.out]
       go_roundw
       case rel => exact ⟨j + 1,k',_,_,_,_,_,by have := HJl.out.1; omega,rfl,HInv.out⟩
       case measure => rw [HSt0.out,stp_eq (HInv.out.rx.cell 4 rfl)]; have := HJl.out.1; omega
    ·have d1 : decide (most ≤ (j : Int)) = true := decide_eq_true (by omega)
     have HR : Hid (ranM T l pr m ws aa mode most = noR 12) := by
      show _ = _
      have e : N - j = 0 := by have := HNm.out.1; omega
      have ht := HI.out.tr
      rw [e,trM] at ht
      rw [HRn.out,HSt.out,← HNm.out.1,trM_bad (by rw [ht]; show (12 : Int) ≠ 0; decide),ht]
     clear hI hjm
     obtain ⟨k1,k2⟩ := HEnd.out wr 12 HBW.out HR.out
     have HK1 := keep k1
     have HK2 := keep k2
     clear k1 k2
     have kR := (HBx.out wr HBW.out).2.2.2
     have zc0 := kR.cell 0 rfl
     have zr0 := kR.fr 0
     have zc1 := kR.cell 1 rfl
     have zr1 := kR.fr 1
     have zc2 := kR.cell 2 rfl
     have zr2 := kR.fr 2
     have zc3 := kR.cell 3 rfl
     have zr3 := kR.fr 3
     have zc4 := kR.cell 4 rfl
     have zr4 := kR.fr 4
     have zc5 := kR.cell 5 rfl
     have zr5 := kR.fr 5
     have zc6 := kR.cell 6 rfl
     have zr6 := kR.fr 6
     clear kR
     go_wp2_with fail
     refine bodyPost_ret (results_cell_row rfl _ _ RB _ #[.int .i64 0,.bool false,.slice none 0 0,.int .i64 12,.int .i64 0,.int .i64 0,.slice none 0 0] (0,0) _ rfl HK1.out Try.underlying72 rfl (by kernel_rfl)) rfl ?_
     exact HK2.out
 ·have hne : (e0 != 0) = true := by rw [bne_iff_ne]; exact h0
  have HR : Hid (ranM T l pr m ws aa mode most = noR e0) := by
   show _ = _
   unfold ranM
   rw [if_pos (by rw [HE0.out]; exact h0),HE0.out]
  obtain ⟨k1,k2⟩ := HEnd.out w5 e0 HB5.out HR.out
  have HK1 := keep k1
  have HK2 := keep k2
  clear k1 k2 h0
  have kR := (HBx.out w5 HB5.out).2.2.2
  have zc0 := kR.cell 0 rfl
  have zc1 := kR.cell 1 rfl
  have zc2 := kR.cell 2 rfl
  have zc3 := kR.cell 3 rfl
  have zc4 := kR.cell 4 rfl
  have zc5 := kR.cell 5 rfl
  have zc6 := kR.cell 6 rfl
  have zr0 := kR.fr 0
  have zr1 := kR.fr 1
  have zr2 := kR.fr 2
  have zr3 := kR.fr 3
  have zr4 := kR.fr 4
  have zr5 := kR.fr 5
  have zr6 := kR.fr 6
  clear kR
  go_wp2_with fail
  refine bodyPost_ret (results_cell_row rfl _ _ RB _ #[.int .i64 0,.bool false,.slice none 0 0,.int .i64 e0,.int .i64 0,.int .i64 0,.slice none 0 0] (0,0) _ rfl HK1.out Try.underlying72 rfl (by kernel_rfl)) rfl ?_
  exact HK2.out
end Go.Proofs.Ytpnacanbknejiaa.Mh
