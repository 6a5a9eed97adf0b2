/- How instructions run: flow's Run. Written by tools/gen_flrun.py. -/
import Derived.Test.YtpnacanbknejiaaFlLeak
namespace Go.Proofs.Ytpnacanbknejiaa.Fl
set_option maxHeartbeats 32000000
set_option maxRecDepth 100000
set_option linter.unusedVariables false
set_option linter.unusedSimpArgs false
open Go.ChangeShapes Go.WideShapes Go.ChangeAt Go.RowKit Lg Lr
theorem Mc.fs {w w' : World} {PB AO : Nat} {P : List Int} {ps : List (Nat × List Int)} {l : List Nat} (h : Mc w PB AO P ps) (hf : Fs l w w') (h1 : PB ∉ l) (h2 : AO ∉ l) (h3 : ∀ p ∈ ps,p.1 ∉ l) : Mc w' PB AO P ps :=
 ⟨h.pl.fs hf h1,h.row.fs hf h2,fun p hp => (h.at' p hp).fs hf (h3 p hp),h.nd,h.ne,h.np⟩
theorem allV_big {op : Int} (h : 17 < op) : Tb.allV op = 0 := by
 unfold Tb.allV
 rw [if_neg (by omega),if_neg (by omega),if_neg (by omega)]
theorem bitsG_bts {T : Nat → Int} {op : Int} (h1 : 1 ≤ op) : bitsG T op false = bts T op := by
 unfold bitsG bts
 by_cases h9 : op = 19
 ·rw [if_pos h9,if_pos h9]
 ·rw [if_neg h9,if_neg h9]
  by_cases h : op < 1 ∨ 17 < op
  ·rw [if_pos (.inr h),if_pos h,allV_big (by omega)]
  ·rw [if_neg h,if_neg (by intro x; rcases x with x | x; cases x; exact h x)]
def T7 (T : Nat → Int) : Prop := ∀ k,1 ≤ k → k ≤ 17 → 0 ≤ T k ∧ T k ≤ 7
theorem bts_7 {T : Nat → Int} {op : Int} (h : T7 T) : 0 ≤ bts T op ∧ bts T op ≤ 7 := by
 unfold bts
 split
 ·omega
 ·split
  ·omega
  ·exact h op.toNat (by omega) (by omega)
theorem seen_vals {f : Fx} {k : Nat} {i : Ix} {T : Nat → Int} {P : List Int} (hf : Fine f k i) (hP : P.length = f.sec.length) : valsW (bitsG T i.op false) P 0 (rds i) = vals T i P := by
 rw [bitsG_bts hf.o1,valsW_in (fun p hp => by rw [hP]; exact hf.r p hp)]
 rfl
theorem three_there {w : World} {b : Nat} {u v x : Value} {ty : TypeId} (h : Bk w b [u,v,x] ty) : w.there b 0 3 := fun j hj => by
 refine ⟨?_,h.fr _⟩
 rw [Nat.zero_add]
 have : j = 0 ∨ j = 1 ∨ j = 2 := by omega
 rcases this with rfl | rfl | rfl
 ·rw [h.cell 0 rfl]; rfl
 ·rw [h.cell 1 rfl]; rfl
 ·rw [h.cell 2 rfl]; rfl
theorem set_three {w : World} {b : Nat} {u v x : Value} {ty : TypeId} (h : Bk w b [u,v,x] ty) (y z t : Value) : Bk (w.setCells b 0 [y,z,t]) b [y,z,t] ty ∧ Fs [b] w (w.setCells b 0 [y,z,t]) :=
 ⟨(((h.set 0 y).set 1 z).set 2 t : _),(((Fs.refl [b] w).set (by simp) 0 y).set (by simp) 1 z).set (by simp) 2 t⟩
structure RunI (f : Fx) (T : Nat → Int) (P0 : List Int) (aa : List (List Int)) (w4 : World) (PB AO : Nat) (bl : List Nat) (k : Nat) (v : Value) (W : World) (P : List Int) (ps : List (Nat × List Int)) (es : List (Lk × Value)) : Prop where
 lt : k < f.code.length
 mc : Mc W PB AO P ps
 gp : GP f P
 ga : GA f.arrs (ars ps)
 hbl : ps.map Prod.fst = bl
 row : RowL W w4.heap.size v es
 len : es.length ≤ k
 runs : ∀ ls' e,Runs f.code T k P (ars ps) ls' e → Runs f.code T 0 P0 aa (es.map Prod.fst ++ ls') e
 fs : Fs (PB :: bl) w4 W
theorem run_any (B : Nat) (f : Fx) (T : Nat → Int) (s1 s2 s3 : Value) (ws : List Int) (aa : List (List Int)) (gv : Value) (w : World) (hB : B ≤ w.heap.size) (h : FxIs w B f s1 s2 s3) (hg : GvIs w B ws aa gv) (hc : checkF f = (0,-1)) (hT : T7 T) (hN : f.sec.length ≤ 17592186044416) (hPm : f.params ≤ 8796093022208) (hS : Shape (List.replicate f.params.toNat zV) f.arrs ws aa) (hA : AllW ws aa) (hsum : sumL aa ≤ 1048576) :
  Calls Try.prog 22 #[.agg (fxA f s1 s2 s3),.agg (Tb.tabA T),gv] w fun r w' => RunQ f T ws aa w r w' := by
 have hR := right_of (f:=f) (by rw [hc])
 have hWl : ws.length ≤ f.sec.length := by
  have h1 := hS.w
  rw [List.length_replicate] at h1
  have := hR.p0
  have := hR.p1
  omega
 have hGA0 : GA f.arrs aa := ⟨hS.a,fun j row v hj hv => hS.s j v row hv hj,hA.2⟩
 have hGP0 : GP f (firstP f.sec.length ws) := ⟨firstP_len hWl,fun x hx => by
  unfold firstP at hx
  rcases List.mem_append.1 hx with q | q
  ·exact hA.1 x q
  ·rw [(List.mem_replicate.1 q).2]; exact isW_zero⟩
 have haa : aa.length ≤ 5864062014805 := by
  obtain ⟨_,_,_,_,ha⟩ := hg
  obtain ⟨_,_,_,_,q1,_,q2,_⟩ := ha
  omega
 have hrr : ∀ r,GA f.arrs r → r.length = aa.length ∧ ∀ x ∈ r,x.length ≤ 17592186044416 := fun r hr => by
  refine ⟨by rw [hr.len,hGA0.len],fun x hx => ?_⟩
  obtain ⟨j,hj⟩ := List.getElem?_of_mem hx
  have hjl := (List.getElem?_eq_some_iff.1 hj).1
  obtain ⟨y,hy⟩ : ∃ y,aa[j]? = some y := ⟨_,List.getElem?_eq_getElem (by rw [hGA0.len,← hr.len]; exact hjl)⟩
  obtain ⟨v,hv⟩ : ∃ v,f.arrs[j]? = some v := ⟨_,List.getElem?_eq_getElem (by rw [← hr.len]; exact hjl)⟩
  have e1 := hr.size j x v hj hv
  have e2 := hGA0.size j y v hy hv
  have e3 : y.length ≤ sumL aa := by
   have := sumL_take aa j y hy
   have := sumL_le aa (j + 1)
   omega
  omega
 obtain ⟨p1,n1,c1,hs1,hn1,hx1⟩ := id h.code
 obtain ⟨p2,n2,c2,hs2,hn2,hx2⟩ := id h.sec
 obtain ⟨p3,n3,c3,hs3,hx3⟩ := id h.arrs
 subst hs1 hs2 hs3
 have HG0 := keep hg
 obtain ⟨t1,t2,rfl,hi,ha⟩ := hg
 obtain ⟨p4,n4,c4,hs4,hx4⟩ := id hi
 obtain ⟨p5,n5,c5,hs5,hx5⟩ := id ha
 subst hs4 hs5
 obtain ⟨pr,hpr⟩ : ∃ k : Int,f.params = k := ⟨f.params,rfl⟩
 obtain ⟨w1,hw1⟩ : ∃ y,w.alloc (.cells #[.slice p1 n1 c1,.slice p2 n2 c2,.int .i64 pr,.slice p3 n3 c3] 26) = y := ⟨_,rfl⟩
 obtain ⟨w2,hw2⟩ : ∃ y,w1.alloc (.cells (Tb.tabA T) 29) = y := ⟨_,rfl⟩
 obtain ⟨w3,hw3⟩ : ∃ y,w2.alloc (.cells #[.slice p4 n4 c4,.slice p5 n5 c5] 33) = y := ⟨_,rfl⟩
 obtain ⟨w4,hw4⟩ : ∃ y,w3.alloc (.cells #[.int .i64 0,.bool false,.slice none 0 0] 51) = y := ⟨_,rfl⟩
 obtain ⟨F,hF⟩ : ∃ y,w.heap.size = y := ⟨_,rfl⟩
 obtain ⟨TB,hTB⟩ : ∃ y,w1.heap.size = y := ⟨_,rfl⟩
 obtain ⟨G,hG⟩ : ∃ y,w2.heap.size = y := ⟨_,rfl⟩
 obtain ⟨E,hE⟩ : ∃ y,w3.heap.size = y := ⟨_,rfl⟩
 have b1 : Below w.heap.size w w1 := by rw [← hw1]; exact (Below.refl _ _).alloc (Nat.le_refl _) _
 have b2 : Below w1.heap.size w1 w2 := by rw [← hw2]; exact (Below.refl _ _).alloc (Nat.le_refl _) _
 have b3 : Below w2.heap.size w2 w3 := by rw [← hw3]; exact (Below.refl _ _).alloc (Nat.le_refl _) _
 have b4 : Below w3.heap.size w3 w4 := by rw [← hw4]; exact (Below.refl _ _).alloc (Nat.le_refl _) _
 have b34 := b3.trans (b4.mono b3.size)
 have b24 := b2.trans (b34.mono b2.size)
 have b14 := b1.trans (b24.mono b1.size)
 have kF1 : Bk w1 F [.slice p1 n1 c1,.slice p2 n2 c2,.int .i64 pr,.slice p3 n3 c3] 26 := by rw [← hw1,← hF]; exact Bk.new _ _ _
 have kF := kF1.fs (Fs.of_below (l:=[]) b24) (by simp)
 have kT2 : Tb.Blk w2 TB T := by rw [← hw2,← hTB]; exact Tb.blk_alloc w1 T
 have kT : Tb.Blk w4 TB T := kT2.below b34 kT2.lt
 have kG3 : Bk w3 G [.slice p4 n4 c4,.slice p5 n5 c5] 33 := by rw [← hw3,← hG]; exact Bk.new _ _ _
 have kG := kG3.fs (Fs.of_below (l:=[]) b4) (by simp)
 have kE : Bk w4 E [.int .i64 0,.bool false,.slice none 0 0] 51 := by rw [← hw4,← hE]; exact Bk.new _ _ _
 have HkF := keep kF
 have HkT := keep kT
 have HkG := keep kG
 have HkE := keep kE
 have HLt : Hid (F < w4.heap.size ∧ TB < w4.heap.size ∧ G < w4.heap.size ∧ E < w4.heap.size ∧ w.heap.size ≤ w4.heap.size) := ⟨kF.lt,kT.lt,kG.lt,kE.lt,b14.size⟩
 have HEw : Hid (w.heap.size ≤ E) := by
  show _ ≤ _
  rw [← hE]; exact (b1.trans ((b2.trans (b3.mono b2.size)).mono b1.size)).size
 have HBw : Hid (∀ W,Below w4.heap.size w4 W → Below w.heap.size w W) := fun W hW' => b14.trans (hW'.mono b14.size)
 have HCk := keep (check_any B f _ _ _ w4 (Nat.le_trans hB b14.size) (h.below (b14.mono hB)))
 have HFt := keep (fun W (hW : Below w4.heap.size w4 W) => fit_any B f _ _ _ ws aa _ W (by have h1 := (HBw.out W hW).size; omega) (h.below ((HBw.out W hW).mono hB)) (HG0.out.below ((HBw.out W hW).mono hB)) hR.p0 hPm (fun _ => hsum))
 have HBg := keep (fun W (hW : Below w4.heap.size w4 W) => begin_any B f _ _ _ ws aa _ W (by have h1 := (HBw.out W hW).size; omega) (h.below ((HBw.out W hW).mono hB)) (HG0.out.below ((HBw.out W hW).mono hB)) hN hWl)
 have HFx := keep h
 have HW1 := keep hw1
 have HW2 := keep hw2
 have HW3 := keep hw3
 have HW4 := keep hw4
 have HF := keep hF
 have HTB := keep hTB
 have HG := keep hG
 have HE := keep hE
 have HBB := keep hB
 have HR := keep hR
 have HT7 := keep hT
 have HSA := keep (And.intro hS hA)
 have HGA0 := keep hGA0
 have HGP0 := keep hGP0
 have HRR := keep hrr
 have HAA := keep haa
 have HN := keep hN
 have HN1 := keep hn1
 have HC0 := keep hc
 unfold fxA at HCk HFt HBg
 unfold fxA
 rw [hpr] at HCk HFt HBg
 rw [hpr]
 have f0 := kF.cell 0 rfl
 have f1 := kF.cell 1 rfl
 have f2 := kF.cell 2 rfl
 have f3 := kF.cell 3 rfl
 have g0 := kG.cell 0 rfl
 have g1 := kG.cell 1 rfl
 clear hw1 hw2 hw3 hw4 hF hTB hG hE b1 b2 b3 b4 b34 b24 b14 kF1 kT2 kG3 kF kT kG kE hi ha hpr h hB hR hT hS hA hGA0 hGP0 hrr haa hsum hN hPm hc hn1 hn2 hx1 hx2 hx3 hx4 hx5
 go_enter Try.func22,Try.ntmps22
 go_wp2_with (first | rw [HW1.out] | rw [HW2.out] | rw [HW3.out] | rw [HW4.out] | rw [HF.out] | rw [HTB.out] | rw [HG.out] | rw [HE.out] | fail)
 refine HCk.out.mono ?_
 rintro r w5 ⟨rfl,hb5⟩
 rw [HC0.out]
 have HB5 := keep hb5
 clear hb5 HCk f0 f1 f2 f3 g0 g1
 have kF5 := HkF.out.fs (Fs.of_below (l:=[]) HB5.out) (by simp)
 have kG5 := HkG.out.fs (Fs.of_below (l:=[]) HB5.out) (by simp)
 have f0 := kF5.cell 0 rfl
 have f1 := kF5.cell 1 rfl
 have f2 := kF5.cell 2 rfl
 have f3 := kF5.cell 3 rfl
 have g0 := kG5.cell 0 rfl
 have g1 := kG5.cell 1 rfl
 have HFt5 := keep (HFt.out w5 HB5.out)
 clear kF5 kG5 HFt
 go_wp2_with fail
 refine HFt5.out.mono ?_
 rintro r w6 ⟨q,rfl,hq,hb6⟩
 obtain rfl : q = true := hq.2 HSA.out
 have HB6 := keep (HB5.out.trans (hb6.mono HB5.out.size))
 clear hb6 hq HFt5 f0 f1 f2 f3 g0 g1 HB5
 have kF6 := HkF.out.fs (Fs.of_below (l:=[]) HB6.out) (by simp)
 have kG6 := HkG.out.fs (Fs.of_below (l:=[]) HB6.out) (by simp)
 have f0 := kF6.cell 0 rfl
 have f1 := kF6.cell 1 rfl
 have f2 := kF6.cell 2 rfl
 have f3 := kF6.cell 3 rfl
 have g0 := kG6.cell 0 rfl
 have g1 := kG6.cell 1 rfl
 have HBg6 := keep (HBg.out w6 HB6.out)
 clear kF6 kG6 HBg
 go_wp2_with fail
 refine HBg6.out.mono ?_
 rintro r w7 ⟨PB,AO,ps0,rfl,hps0,hmc0,hb7,hl1,hl2,hl3⟩
 obtain ⟨w8,hw8⟩ : ∃ y,w7.alloc (.cells #[.slice (some ⟨PB,0,none⟩) f.sec.length f.sec.length,.slice (some ⟨AO,0,none⟩) aa.length aa.length] 91) = y := ⟨_,rfl⟩
 obtain ⟨SB,hSB⟩ : ∃ y,w7.heap.size = y := ⟨_,rfl⟩
 have hb8 : Below w7.heap.size w7 w8 := by rw [← hw8]; exact (Below.refl _ _).alloc (Nat.le_refl _) _
 have HB8 := keep ((HB6.out.trans (hb7.mono HB6.out.size)).trans (hb8.mono (Nat.le_trans HB6.out.size hb7.size)))
 have hSk : Bk w8 SB [.slice (some ⟨PB,0,none⟩) f.sec.length f.sec.length,.slice (some ⟨AO,0,none⟩) aa.length aa.length] 91 := by rw [← hw8,← hSB]; exact Bk.new _ _ _
 have HSk := keep hSk
 have HMc0 := keep (hmc0.below hb8)
 have HPs0 := keep hps0
 obtain ⟨bl,hbl⟩ : ∃ y,ps0.map Prod.fst = y := ⟨_,rfl⟩
 have HBl := keep hbl
 -- which blocks turn: PB, bl: none of the boxes
 have HNew : Hid (∀ b ∈ PB :: bl,w4.heap.size ≤ b ∧ b < SB) := fun b hb => by
  have h4 : w4.heap.size ≤ w6.heap.size := HB6.out.size
  rcases List.mem_cons.1 hb with rfl | hb
  ·exact ⟨by omega,by rw [← hSB]; exact hmc0.pl.lt⟩
  ·rw [← hbl] at hb
   obtain ⟨p,hp,rfl⟩ := List.mem_map.1 hb
   exact ⟨by have := hl3 p hp; omega,by rw [← hSB]; exact (hmc0.at' p hp).lt⟩
 have HAO : Hid (w4.heap.size ≤ AO ∧ AO < SB) := ⟨by have := HB6.out.size; omega,by rw [← hSB]; exact hmc0.row.lt⟩
 have HLen : Hid (∀ W P ps es k v,RunI f T (firstP f.sec.length ws) aa w8 PB AO bl k v W P ps es → P.length = f.sec.length ∧ ps.length = aa.length) := fun W P ps es k v hI => ⟨hI.gp.len,by have h1 := hI.ga.len; have h2 := HGA0.out.len; unfold ars at h1; rw [List.length_map] at h1; omega⟩
 have HStart : Hid (RunI f T (firstP f.sec.length ws) aa w8 PB AO bl 0 (.slice none 0 0) w8 (firstP f.sec.length ws) ps0 []) := by
  refine ⟨HR.out.len1,HMc0.out,HGP0.out,by rw [show ars ps0 = aa from hps0]; exact HGA0.out,hbl,RowX.nil _ _,Nat.le_refl _,fun ls' e hr => ?_,Fs.refl _ _⟩
  rw [show ars ps0 = aa from hps0] at hr
  exact hr
 have HFrame : Hid (∀ W,Fs (PB :: bl) w8 W → Bk W SB [.slice (some ⟨PB,0,none⟩) f.sec.length f.sec.length,.slice (some ⟨AO,0,none⟩) aa.length aa.length] 91 ∧ Bk W F [.slice p1 n1 c1,.slice p2 n2 c2,.int .i64 pr,.slice p3 n3 c3] 26 ∧ Tb.Blk W TB T ∧ Bk W E [.int .i64 0,.bool false,.slice none 0 0] 51 ∧ Below w.heap.size w W) := fun W hf => by
  have hno : ∀ b,b < w4.heap.size → b ∉ PB :: bl := fun b hb hm => by have := (HNew.out b hm).1; omega
  have h8 := HB8.out
  refine ⟨HSk.out.fs hf (fun hm => by have := (HNew.out SB hm).2; omega),(HkF.out.fs (Fs.of_below (l:=[]) h8) (by simp)).fs hf (hno _ HLt.out.1),?_,(HkE.out.fs (Fs.of_below (l:=[]) h8) (by simp)).fs hf (hno _ HLt.out.2.2.2.1),?_⟩
  ·have h1 : Tb.Blk w8 TB T := HkT.out.below h8 HLt.out.2.1
   unfold Tb.Blk at h1 ⊢
   rw [hf.block TB (Tb.Blk.lt (show Tb.Blk w8 TB T from h1)) (hno _ HLt.out.2.1)]; exact h1
  ·have h1 := HBw.out w8 h8
   exact h1.trans (hf.below h1.size (fun b hb => by have := (HNew.out b hb).1; have := HLt.out.2.2.2.2; omega))
 have HW8 := keep hw8
 have HSB := keep hSB
 clear hw8 hSB hb7 hb8 hSk hmc0 hps0 hl1 hl2 hl3 hbl HBg6 f0 f1 f2 f3 g0 g1
 go_wp2_with fail
 rw [HW8.out,HSB.out]
 go_loopw [11,12] (fun v at' wx => ∃ (k : Nat) (P : List Int) (ps : List (Nat × List Int)) (es : List (Lk × Value)),at' = .int .i64 (k : Int) ∧ RunI f T (firstP f.sec.length ws) aa w8 PB AO bl k v wx P ps es) (fun _ at' _ => f.code.length - (intOf at').toNat)
 case atStart => exact ⟨0,_,_,[],rfl,HStart.out⟩
 case round =>
  obtain ⟨k,P,ps,es,rfl,hI⟩ := hrel
  have HI := keep hI
  obtain ⟨hPl,hpl⟩ := HLen.out _ _ _ _ _ _ hI
  have HPl := keep hPl
  have Hpl := keep hpl
  obtain ⟨i,hik⟩ : ∃ i,f.code[k]? = some i := ⟨_,List.getElem?_eq_getElem hI.lt⟩
  have HIk := keep hik
  have HFine := keep (fine_of (HR.out.each k i hik))
  obtain ⟨kS,kF,kT,kE,hbW⟩ := HFrame.out wr hI.fs
  obtain ⟨q1,q2,q3,q4,q5,q6,q7,q8⟩ := HFx.out.code.below (hbW.mono HBB.out)
  cases q4
  obtain ⟨g,o,rfl,hgB,hix⟩ := q8 k i hik
  obtain ⟨op,d,a,b,c,imm⟩ := i
  have z0 := hix.c0
  have z1 := hix.c1
  have z2 := hix.c2
  have z3 := hix.c3
  have z4 := hix.c4
  have z5 := hix.c5
  dsimp only at z0 z1 z2 z3 z4 z5
  have y0 := kF.cell 0 rfl
  have hk0 : (0 : Int) ≤ (k : Int) := by omega
  have hk1 : (k : Int) < (n1 : Int) := by have := hI.lt; omega
  obtain ⟨pv,nv,cv,rfl⟩ := RowX.slice hI.row
  obtain ⟨wA,hwA⟩ : ∃ y,wr.alloc (.cells #[.int .i64 op,.int .i64 d,.int .i64 a,.int .i64 b,.int .i64 c,.int .i64 imm] 35) = y := ⟨_,rfl⟩
  obtain ⟨IB,hIB⟩ : ∃ y,wr.heap.size = y := ⟨_,rfl⟩
  have bA : Below wr.heap.size wr wA := by rw [← hwA]; exact (Below.refl _ _).alloc (Nat.le_refl _) _
  have kI : Bk wA IB [.int .i64 op,.int .i64 d,.int .i64 a,.int .i64 b,.int .i64 c,.int .i64 imm] 35 := by rw [← hwA,← hIB]; exact Bk.new _ _ _
  have HkI := keep kI
  have HBA := keep bA
  have HkS := keep (kS.fs (Fs.of_below (l:=[]) bA) (by simp))
  have HkT2 := keep (kT.below bA kT.lt)
  have HkE2 := keep (kE.fs (Fs.of_below (l:=[]) bA) (by simp))
  have HMcA := keep (hI.mc.below bA)
  have HbWA := keep (hbW.trans (bA.mono hbW.size))
  have HRowA : Hid (RowL wA w8.heap.size (.slice pv nv cv) es) := RowX.fs (l:=[]) nestL_nest hI.row (Fs.of_below bA) (by simp)
  have HWA := keep hwA
  have HIB := keep hIB
  have HSS : Hid (∀ W',Below wA.heap.size wA W' → Tb.Blk W' TB T ∧ W'.cell? ⟨SB,0,none⟩ = some (.slice (some ⟨PB,0,none⟩) f.sec.length f.sec.length) ∧ W'.cell? ⟨IB,0,none⟩ = some (.int .i64 op) ∧ W'.cell? ⟨IB,1,none⟩ = some (.int .i64 d) ∧ W'.cell? ⟨IB,2,none⟩ = some (.int .i64 a) ∧ W'.cell? ⟨IB,3,none⟩ = some (.int .i64 b) ∧ W'.cell? ⟨IB,4,none⟩ = some (.int .i64 c) ∧ W'.cell? ⟨IB,5,none⟩ = some (.int .i64 imm)) := fun W' hW => by
   have u1 := HkS.out.fs (Fs.of_below (l:=[]) hW) (by simp)
   have u2 := HkI.out.fs (Fs.of_below (l:=[]) hW) (by simp)
   exact ⟨HkT2.out.below hW HkT2.out.lt,u1.cell 0 rfl,u2.cell 0 rfl,u2.cell 1 rfl,u2.cell 2 rfl,u2.cell 3 rfl,u2.cell 4 rfl,u2.cell 5 rfl⟩
  have HSeen := keep (fun W (hW : Below wA.heap.size wA W) => seen_any W.heap.size T ⟨op,d,a,b,c,imm⟩ P (.slice (some ⟨PB,0,none⟩) f.sec.length f.sec.length) false W (Nat.le_refl _) (by
   have h1 := HMcA.out.below hW
   refine ⟨_,_,_,rfl,HPl.out,Nat.le_refl _,HN.out,fun j x hj => ⟨PB,0,rfl,h1.pl.lt,?_⟩⟩
   rw [Nat.zero_add]
   exact h1.pl.cell j (by rw [List.getElem?_map,hj]; rfl)) (by
   rw [bitsG_bts HFine.out.o1]; exact bts_7 HT7.out))
  unfold ixA at HSeen
  dsimp only at HSeen
  have HSB8 : Hid (SB < w8.heap.size ∧ E < w8.heap.size) := ⟨HSk.out.lt,by have := HLt.out.2.2.2.1; have := HB8.out.size; omega⟩
  clear hI hik kS kF kT kE hbW hix q8 hwA hIB bA kI HStart
  go_wp2_with fail
  rw [HWA.out,HIB.out]
  obtain ⟨i0,hi0,j0,j1,j2⟩ := info_parts infoL
  refine wp_region_noPanic ?_
  refine Ord.wpM_begin (fun W' : World => Tb.Blk W' TB T ∧ W'.cell? ⟨SB,0,none⟩ = some (.slice (some ⟨PB,0,none⟩) f.sec.length f.sec.length) ∧ W'.cell? ⟨IB,0,none⟩ = some (.int .i64 op) ∧ W'.cell? ⟨IB,1,none⟩ = some (.int .i64 d) ∧ W'.cell? ⟨IB,2,none⟩ = some (.int .i64 a) ∧ W'.cell? ⟨IB,3,none⟩ = some (.int .i64 b) ∧ W'.cell? ⟨IB,4,none⟩ = some (.int .i64 c) ∧ W'.cell? ⟨IB,5,none⟩ = some (.int .i64 imm)) [0,1,2,3,4,5,6,7,8,9,10,11] (by kernel_rfl) ?_
  have HD : Hid (Below wA.heap.size wA wA.drew) := Below.drew (Below.refl _ _)
  generalize wA.drew = wd at *
  have hS := HSS.out wd HD.out
  refine Ord.tk (i:=0) (v:=.slice pv nv cv) (hy:=Or.inl ⟨by rfl,by rintro W' ⟨q0,q1,q2,q3,q4,q5,q6,q7⟩; go_simp⟩) (hS:=hS) (h:=?_)
  try simp only [Act.put,Ord.t,Ord.z,Ord.s]
  refine Ord.tk (i:=1) (v:=.int .i64 (k : Int)) (hy:=Or.inl ⟨by rfl,by rintro W' ⟨q0,q1,q2,q3,q4,q5,q6,q7⟩; go_simp⟩) (hS:=hS) (h:=?_)
  try simp only [Act.put,Ord.t,Ord.z,Ord.s]
  refine Ord.tk (i:=2) (v:=.pointer (some ⟨IB,0,none⟩)) (hy:=Or.inl ⟨by rfl,by rintro W' ⟨q0,q1,q2,q3,q4,q5,q6,q7⟩; go_simp⟩) (hS:=hS) (h:=?_)
  try simp only [Act.put,Ord.t,Ord.z,Ord.s]
  refine Ord.tk (i:=3) (v:=.int .i64 op) (hy:=Or.inl ⟨by rfl,by rintro W' ⟨q0,q1,q2,q3,q4,q5,q6,q7⟩; go_simp⟩) (hS:=hS) (h:=?_)
  try simp only [Act.put,Ord.t,Ord.z,Ord.s]
  refine Ord.wpM_take (i:=4) (v:=.agg (Tb.tabA T)) (by simp only [List.getElem?_toArray,List.getElem?_cons_zero,List.getElem?_cons_succ]; rfl) (by kernel_rfl) (by kernel_rfl) (by kernel_rfl) (by kernel_rfl) (fun _ _ _ h => h) (tab_yields rfl (.tmp 4) rfl TB rfl T (fun W hW => hW.1)) hS ?_
  try simp only [Act.put,Ord.t,Ord.z,Ord.s]
  refine Ord.tk (i:=5) (v:=.agg #[.int .i64 op,.int .i64 d,.int .i64 a,.int .i64 b,.int .i64 c,.int .i64 imm]) (hy:=Or.inl ⟨by rfl,by rintro W' ⟨q0,q1,q2,q3,q4,q5,q6,q7⟩; go_simp⟩) (hS:=hS) (h:=?_)
  try simp only [Act.put,Ord.t,Ord.z,Ord.s]
  refine Ord.tk (i:=6) (v:=.pointer (some ⟨SB,0,none⟩)) (hy:=Or.inl ⟨by rfl,by rintro W' ⟨q0,q1,q2,q3,q4,q5,q6,q7⟩; go_simp⟩) (hS:=hS) (h:=?_)
  try simp only [Act.put,Ord.t,Ord.z,Ord.s]
  refine Ord.tk (i:=7) (v:=.slice (some ⟨PB,0,none⟩) f.sec.length f.sec.length) (hy:=Or.inl ⟨by rfl,by rintro W' ⟨q0,q1,q2,q3,q4,q5,q6,q7⟩; go_simp⟩) (hS:=hS) (h:=?_)
  try simp only [Act.put,Ord.t,Ord.z,Ord.s]
  refine Ord.on (i:=8) (h:=fun K hK => ?_)
  go_simp
  refine (HSeen.out wd HD.out).mono ?_
  rintro r we ⟨vv,rfl,hvv,hbe⟩
  have HBe := keep (HD.out.trans (hbe.mono HD.out.size))
  have hvl := valsW_len (bitsG T op false) P (rds ⟨op,d,a,b,c,imm⟩) 0
  have hrl := rds_len ⟨op,d,a,b,c,imm⟩
  obtain ⟨pq,nq,cq,rfl⟩ := RowX.slice hvv
  have HNe : Hid (nestL we (In w8.heap.size (.slice pv nv cv) we) (⟨k,op,valsW (bitsG T op false) P 0 (rds ⟨op,d,a,b,c,imm⟩)⟩,.slice pq nq cq)) := by
   refine RowI.intsX hvv (by dsimp only; omega) _ (fun i h1 h2 => ?_)
   have h3 := HD.out.size
   have h4 := HRowA.out
   refine ⟨?_,h2,fun e => ?_⟩
   ·have h5 := HI.out.fs.size
    have h6 := HBA.out.size
    omega
   ·have := (RowX.own h4).lt i e
    omega
  have HRowE : Hid (RowL we w8.heap.size (.slice pv nv cv) es) := RowX.fs (l:=[]) nestL_nest HRowA.out (Fs.of_below HBe.out) (by simp)
  have HV : Hid (valsW (bitsG T op false) P 0 (rds ⟨op,d,a,b,c,imm⟩) = vals T ⟨op,d,a,b,c,imm⟩ P) := seen_vals HFine.out HPl.out
  rw [HV.out] at HNe
  clear hvv hbe hvl hrl HSeen
  go_simp
  refine hK.out _ _ (fun _ => HSS.out we HBe.out) ?_
  clear hK K
  try simp only [Act.put,Ord.t,Ord.z,Ord.s]
  have hS := HSS.out we HBe.out
  refine Ord.tk (i:=9) (v:=.agg #[.int .i64 (k : Int),.int .i64 op,.slice pq nq cq]) (hy:=Or.inl ⟨by rfl,by rintro W' ⟨q0,q1,q2,q3,q4,q5,q6,q7⟩; go_simp⟩) (hS:=hS) (h:=?_)
  try simp only [Act.put,Ord.t,Ord.z,Ord.s]
  have hnv : nv = es.length := RowX.len HRowE.out
  subst hnv
  have hown := (RowX.own HRowE.out).alloc (.cells #[.int .i64 (k : Int),.int .i64 op,.slice pq nq cq] 61)
  have hlen : es.length ≤ 12000 := by have h1 := HI.out.len; have h2 := HI.out.lt; have h3 := HR.out.len2; omega
  have hw8 : w8.heap.size ≤ we.heap.size := by have h5 := HI.out.fs.size; have h6 := HBA.out.size; have h7 := HBe.out.size; omega
  refine Ord.on (i:=10) (h:=fun K hK => ?_)
  go_simp
  refine hK.out _ _ (fun _ => HSS.out _ (HBe.out.trans (((Below.refl _ _).alloc (Nat.le_refl _) _).mono HBe.out.size))) ?_
  clear hK K
  try simp only [Act.put,Ord.t,Ord.z,Ord.s]
  refine Ord.on (i:=11) (h:=fun K hK => ?_)
  refine step_append_lies _ rfl (.tmp 36) (.tmp 46) 52 rfl w8.heap.size 61 i0 _ 3 40 Try.underlying52 hi0 j0 j1 j2 rfl (by decide) (.slice pv es.length cv) es.length (es.flatMap cellsL) rfl hown ⟨we.heap.size,0,none⟩ 1 1 (cellsL (⟨k,op,vals T ⟨op,d,a,b,c,imm⟩ P⟩,.slice pq nq cq)) rfl rfl (fun j u hj => new_cell we _ _ j u hj) ?c2 (by decide) ?c3 ?c4 ?c5 (we.heap.size + 1) (by simp) ?_
  case c2 =>
   intro u hu
   simp only [cellsL,List.mem_cons,List.not_mem_nil,or_false] at hu
   rcases hu with rfl | rfl | rfl <;> rfl
  case c3 => unfold maxLen; omega
  case c4 => omega
  case c5 => first | omega | (simp; omega)
  intro gz cap wf hown2 hgrow hat hlt
  have hbz : Below we.heap.size we (we.alloc (.cells #[.int .i64 (k : Int),.int .i64 op,.slice pq nq cq] 61)) := (Below.refl _ _).alloc (Nat.le_refl _) _
  have HRowF : Hid (RowL wf w8.heap.size (.slice (some ⟨gz,0,none⟩) (es.length + 1) cap) (es ++ [(⟨k,op,vals T ⟨op,d,a,b,c,imm⟩ P⟩,.slice pq nq cq)])) :=
   RowX.push nestL_nest (RowX.fs (l:=[]) nestL_nest HRowE.out (Fs.of_below hbz) (by simp)) (nestL_nest.mono _ _ _ _ (nestL_nest.keep _ _ _ _ HNe.out (fun i hi => hbz.block i hi.2.1)) (fun i hi => ⟨hi.1,Nat.lt_of_lt_of_le hi.2.1 hbz.size,hi.2.2⟩)) hown2 hgrow (by simpa using hat)
  have hfr : ∀ i,i < we.heap.size → (i < w8.heap.size ∨ i = IB) → wf.heap[i]? = we.heap[i]? := fun i h1 h2 => by
   refine (hgrow.block i (by have := hbz.size; omega) (fun e => ?_)).trans (hbz.block i h1)
   have h3 := (RowX.own HRowA.out).lt i e.symm
   have h4 := (RowX.own HI.out.row).lt i e.symm
   have h5 := HIB.out
   omega
  have HFrF : Hid (Below w8.heap.size we wf) := ⟨hgrow.os.trans hbz.os,hgrow.tape.trans hbz.tape,hgrow.output.trans hbz.output,Nat.le_trans hbz.size hgrow.size,fun i hi => hfr i (by omega) (.inl hi)⟩
  have HkIF : Hid (Bk wf IB [.int .i64 op,.int .i64 d,.int .i64 a,.int .i64 b,.int .i64 c,.int .i64 imm] 35) := by
   have h1 := HkI.out.fs (Fs.of_below (l:=[]) HBe.out) (by simp)
   show Bk _ _ _ _
   unfold Bk at h1 ⊢
   rw [hfr IB (Array.getElem?_eq_some_iff.1 h1).1 (.inr rfl)]; exact h1
  have hSf : (fun W' : World => Tb.Blk W' TB T ∧ W'.cell? ⟨SB,0,none⟩ = some (.slice (some ⟨PB,0,none⟩) f.sec.length f.sec.length) ∧ W'.cell? ⟨IB,0,none⟩ = some (.int .i64 op) ∧ W'.cell? ⟨IB,1,none⟩ = some (.int .i64 d) ∧ W'.cell? ⟨IB,2,none⟩ = some (.int .i64 a) ∧ W'.cell? ⟨IB,3,none⟩ = some (.int .i64 b) ∧ W'.cell? ⟨IB,4,none⟩ = some (.int .i64 c) ∧ W'.cell? ⟨IB,5,none⟩ = some (.int .i64 imm)) wf := by
   have u1 := HkS.out.fs (Fs.of_below (l:=[]) HBe.out) (by simp)
   have u2 : Tb.Blk we TB T := HkT2.out.below HBe.out HkT2.out.lt
   have h8 := HSB8.out.1
   have h9 : TB < w8.heap.size := by have h1 := HLt.out.2.1; have h2 := HB8.out.size; omega
   refine ⟨u2.below HFrF.out h9,?_,HkIF.out.cell 0 rfl,HkIF.out.cell 1 rfl,HkIF.out.cell 2 rfl,HkIF.out.cell 3 rfl,HkIF.out.cell 4 rfl,HkIF.out.cell 5 rfl⟩
   rw [cell_below HFrF.out h8]; exact u1.cell 0 rfl
  clear hown2 hgrow hat hlt hown hbz hfr
  refine hK.out _ _ (fun _ => hSf) ?_
  clear hK K
  try simp only [Act.put,Ord.t,Ord.z,Ord.s]
  refine Ord.on (i:=12) (h:=fun K hK => ?_)
  go_simp
  refine hK.out _ _ (fun h => absurd h (by decide)) ?_
  clear hK K
  try simp only [Act.put,Ord.t,Ord.z,Ord.s]
  refine Ord.wpM_done (by kernel_rfl) ?_ _
  refine NoPanic.normal ?_
  have HBf : Hid (Below w8.heap.size wr wf) := by
   have h5 := HI.out.fs.size
   have h6 := HBA.out.size
   have h7 : Below w8.heap.size wr we := (HBA.out.trans (HBe.out.mono HBA.out.size)).mono h5
   exact h7.trans HFrF.out
  have HFsF : Hid (Fs (PB :: bl) w8 wf) := by
   have h1 := HI.out.fs
   have h2 := HBf.out
   exact ⟨h2.os.trans h1.os,h2.tape.trans h1.tape,h2.output.trans h1.output,Nat.le_trans h1.size h2.size,fun i hi hn => (h2.block i hi).trans (h1.block i hi hn)⟩
  have HMcF : Hid (Mc wf PB AO P ps) := by
   have h1 := HI.out.mc
   have h2 := HBf.out
   have h8 := HSB8.out.1
   have hb : ∀ b,b ∈ PB :: bl → b < w8.heap.size := fun b hb => by have := (HNew.out b hb).2; omega
   refine ⟨?_,?_,fun p hp => ?_,h1.nd,h1.ne,h1.np⟩
   ·have h3 := h1.pl
    unfold Bk at h3 ⊢
    rw [h2.block PB (hb PB (by simp))]; exact h3
   ·have h3 := h1.row
    unfold Bk at h3 ⊢
    rw [h2.block AO (by have := HAO.out.2; omega)]; exact h3
   ·have h3 := h1.at' p hp
    unfold Bk at h3 ⊢
    rw [h2.block p.1 (hb p.1 (by rw [← HI.out.hbl]; exact List.mem_cons_of_mem _ (List.mem_map.2 ⟨p,hp,rfl⟩)))]; exact h3
  obtain ⟨kS,kF,kT,kE,hbW⟩ := HFrame.out wf HFsF.out
  have HkSf := keep kS
  have HkEf := keep kE
  have HbWf := keep hbW
  clear kS kF kT kE hbW y0 z0 z1 z2 z3 z4 z5
  have x0 := HkIF.out.cell 0 rfl
  have x1 := HkIF.out.cell 1 rfl
  have x2 := HkIF.out.cell 2 rfl
  have x3 := HkIF.out.cell 3 rfl
  have x4 := HkIF.out.cell 4 rfl
  have x5 := HkIF.out.cell 5 rfl
  have s0 := HkSf.out.cell 0 rfl
  have s1 := HkSf.out.cell 1 rfl
  have HFin : Hid (∀ (e : En) (W : World) (u v' : Value),Runs f.code T k P (ars ps) [⟨k,op,vals T ⟨op,d,a,b,c,imm⟩ P⟩] e → e.arr = ars ps → Fs [E] wf W → RunQ f T ws aa w (.returned (.tuple #[.agg #[.int .i64 e.word,.bool e.trap,.slice (some ⟨AO,0,none⟩) aa.length aa.length],.slice (some ⟨gz,0,none⟩) (es.length + 1) cap])) W) := fun e W u v' hr he hf => by
   have hnE : ∀ b,b ∈ PB :: bl → b ≠ E := fun b hb => by have h1 := (HNew.out b hb).1; have h2 := HLt.out.2.2.2.1; omega
   have hMc : Mc W PB AO P ps := HMcF.out.fs hf (by simpa using hnE PB (by simp)) (by simp; have h1 := HAO.out.1; have h2 := HLt.out.2.2.2.1; omega) (fun p hp => by simpa using hnE p.1 (by rw [← HI.out.hbl]; exact List.mem_cons_of_mem _ (List.mem_map.2 ⟨p,hp,rfl⟩)))
   have hrow : RowL W w8.heap.size (.slice (some ⟨gz,0,none⟩) (es.length + 1) cap) (es ++ [(⟨k,op,vals T ⟨op,d,a,b,c,imm⟩ P⟩,.slice pq nq cq)]) := RowX.fs nestL_nest HRowF.out hf (by simp; exact HSB8.out.2)
   have h1 := HI.out.runs _ e hr
   refine ⟨_,e,_,_,h1,rfl,?_,?_,?_⟩
   ·have h2 := hrow.is (by rw [List.length_append,List.length_singleton]; omega)
    rw [List.map_append] at h2
    exact h2
   ·rw [he]
    have h2 := HRR.out _ HI.out.ga
    have h3 := hMc.arrs (by rw [Hpl.out]; exact HAA.out) h2.2
    rw [Hpl.out] at h3
    exact h3
   ·exact HbWf.out.trans (hf.below HbWf.out.size (fun b hb => by simp at hb; have := HEw.out; omega))
  by_cases h20 : op = 20
  ·subst h20
   obtain ⟨a0,a1⟩ := HFine.out.r a (by rw [rds_one (.inr (.inr (.inr rfl)))]; simp)
   obtain ⟨ka,rfl⟩ : ∃ k : Nat,a = (k : Int) := ⟨a.toNat,by omega⟩
   have HPa : Hid (wf.cell? ⟨PB,ka,none⟩ = some (.int .i64 (gI P (ka : Int)))) := HMcF.out.place (by rw [HPl.out]; omega)
   have HGoal : Hid (∀ W,Fs [E] wf W → RunQ f T ws aa w (.returned (.tuple #[.agg #[.int .i64 (gI P (ka : Int)),.bool false,.slice (some ⟨AO,0,none⟩) aa.length aa.length],.slice (some ⟨gz,0,none⟩) (es.length + 1) cap])) W) := fun W hf => HFin.out ⟨gI P (ka : Int),false,ars ps⟩ W undef undef (.ret k P (ars ps) ⟨20,d,(ka : Int),b,c,imm⟩ HIk.out rfl) rfl hf
   generalize gI P (ka : Int) = va at *
   have hz0 : (0 : Int) ≤ (ka : Int) := by omega
   have hz1 : (ka : Int) < (f.sec.length : Int) := a1
   have HNa : Hid (PB ≠ E) := by have h1 := (HNew.out PB (by simp)).1; have h2 := HLt.out.2.2.2.1; show _ ≠ _; omega
   have HNi : Hid (IB ≠ E ∧ SB ≠ E) := ⟨by have h1 := HIB.out; have h2 := HI.out.fs.size; have h3 := HSB8.out.2; omega,by have h1 := (HNew.out PB (by simp)); have h2 := HLt.out.2.2.2.1; omega⟩
   have HSS : Hid (∀ W',Fs [E] wf W' → W'.cell? ⟨SB,0,none⟩ = some (.slice (some ⟨PB,0,none⟩) f.sec.length f.sec.length) ∧ W'.cell? ⟨SB,1,none⟩ = some (.slice (some ⟨AO,0,none⟩) aa.length aa.length) ∧ W'.cell? ⟨IB,2,none⟩ = some (.int .i64 (ka : Int)) ∧ W'.cell? ⟨PB,ka,none⟩ = some (.int .i64 va)) := fun W' hW => by
    have u1 := HkSf.out.fs hW (by simpa using HNi.out.2)
    have u2 := HkIF.out.fs hW (by simpa using HNi.out.1)
    have u3 := HMcF.out.pl.fs hW (by simpa using HNa.out)
    exact ⟨u1.cell 0 rfl,u1.cell 1 rfl,u2.cell 2 rfl,by rw [World.cell?_of_block (hW.block PB HMcF.out.pl.lt (by simpa using HNa.out))]; exact HPa.out⟩
   clear HFin
   go_wp2_with fail
   refine wp_region_noPanic ?_
   refine Ord.wpM_begin (fun W' : World => W'.cell? ⟨SB,0,none⟩ = some (.slice (some ⟨PB,0,none⟩) f.sec.length f.sec.length) ∧ W'.cell? ⟨SB,1,none⟩ = some (.slice (some ⟨AO,0,none⟩) aa.length aa.length) ∧ W'.cell? ⟨IB,2,none⟩ = some (.int .i64 (ka : Int)) ∧ W'.cell? ⟨PB,ka,none⟩ = some (.int .i64 va)) [0,1,2,3,4,5,6,7,8,9,10] (by kernel_rfl) ?_
   have HD : Hid (Fs [E] wf wf.drew) := Fs.of_below (Below.drew (Below.refl _ _))
   have HkEd : Hid (Bk wf.drew E [.int .i64 0,.bool false,.slice none 0 0] 51) := HkEf.out
   generalize wf.drew = wd2 at *
   have hS := HSS.out wd2 HD.out
   refine Ord.tk (i:=0) (v:=.pointer (some ⟨SB,0,none⟩)) (hy:=Or.inl ⟨by rfl,by rintro W' ⟨q0,q1,q2,q3⟩; go_simp⟩) (hS:=hS) (h:=?_)
   try simp only [Act.put,Ord.t,Ord.z,Ord.s]
   refine Ord.tk (i:=1) (v:=.slice (some ⟨PB,0,none⟩) f.sec.length f.sec.length) (hy:=Or.inl ⟨by rfl,by rintro W' ⟨q0,q1,q2,q3⟩; go_simp⟩) (hS:=hS) (h:=?_)
   try simp only [Act.put,Ord.t,Ord.z,Ord.s]
   refine Ord.tk (i:=2) (v:=.pointer (some ⟨IB,2,none⟩)) (hy:=Or.inl ⟨by rfl,by rintro W' ⟨q0,q1,q2,q3⟩; go_simp⟩) (hS:=hS) (h:=?_)
   try simp only [Act.put,Ord.t,Ord.z,Ord.s]
   refine Ord.tk (i:=3) (v:=.int .i64 (ka : Int)) (hy:=Or.inl ⟨by rfl,by rintro W' ⟨q0,q1,q2,q3⟩; go_simp⟩) (hS:=hS) (h:=?_)
   try simp only [Act.put,Ord.t,Ord.z,Ord.s]
   refine Ord.tk (i:=4) (v:=.pointer (some ⟨PB,ka,none⟩)) (hy:=Or.inl ⟨by rfl,by rintro W' ⟨q0,q1,q2,q3⟩; go_simp⟩) (hS:=hS) (h:=?_)
   try simp only [Act.put,Ord.t,Ord.z,Ord.s]
   refine Ord.tk (i:=5) (v:=.int .i64 va) (hy:=Or.inl ⟨by rfl,by rintro W' ⟨q0,q1,q2,q3⟩; go_simp⟩) (hS:=hS) (h:=?_)
   try simp only [Act.put,Ord.t,Ord.z,Ord.s]
   refine Ord.tk (i:=6) (v:=.pointer (some ⟨SB,1,none⟩)) (hy:=Or.inl ⟨by rfl,by rintro W' ⟨q0,q1,q2,q3⟩; go_simp⟩) (hS:=hS) (h:=?_)
   try simp only [Act.put,Ord.t,Ord.z,Ord.s]
   refine Ord.tk (i:=7) (v:=.slice (some ⟨AO,0,none⟩) aa.length aa.length) (hy:=Or.inl ⟨by rfl,by rintro W' ⟨q0,q1,q2,q3⟩; go_simp⟩) (hS:=hS) (h:=?_)
   try simp only [Act.put,Ord.t,Ord.z,Ord.s]
   refine Ord.tk (i:=8) (v:=.agg #[.int .i64 va,.bool false,.slice (some ⟨AO,0,none⟩) aa.length aa.length]) (hy:=Or.inl ⟨by rfl,by rintro W' ⟨q0,q1,q2,q3⟩; go_simp⟩) (hS:=hS) (h:=?_)
   try simp only [Act.put,Ord.t,Ord.z,Ord.s]
   refine Ord.tk (i:=9) (v:=.slice (some ⟨gz,0,none⟩) (es.length + 1) cap) (hy:=Or.inl ⟨by rfl,by rintro W' ⟨q0,q1,q2,q3⟩; go_simp⟩) (hS:=hS) (h:=?_)
   try simp only [Act.put,Ord.t,Ord.z,Ord.s]
   obtain ⟨k1,k2⟩ := set_three HkEd.out (.int .i64 va) (.bool false) (.slice (some ⟨AO,0,none⟩) aa.length aa.length)
   have HK1 := keep k1
   have HK2 := keep (HD.out.trans k2)
   clear k1 k2
   refine Ord.on (i:=10) (h:=fun K hK => ?_)
   refine step_store_mid rfl 51 (.tmp 6) (.tmp 60) rfl E 0 #[.int .i64 va,.bool false,.slice (some ⟨AO,0,none⟩) aa.length aa.length] rfl rfl (three_there HkEd.out) (by kernel_rfl) (by simp [Value.oneCell']) ?_
   refine hK.out _ _ (fun _ => HSS.out _ HK2.out) ?_
   clear hK K
   try simp only [Act.put,Ord.t,Ord.z,Ord.s]
   refine Ord.on (i:=11) (h:=fun K hK => ?_)
   go_simp
   refine hK.out _ _ (fun h => absurd h (by decide)) ?_
   clear hK K
   try simp only [Act.put,Ord.t,Ord.z,Ord.s]
   refine Ord.wpM_done (by kernel_rfl) ?_ _
   refine NoPanic.normal ?_
   clear hS HSS
   go_wp2
   refine bodyPost_ret (ret_end rfl _ _ E (.int .i64 va) (.bool false) (.slice (some ⟨AO,0,none⟩) aa.length aa.length) (.slice (some ⟨gz,0,none⟩) (es.length + 1) cap) rfl rfl HK1.out) rfl ?_
   exact HGoal.out _ HK2.out
  ·have k20 : (op == 20) = false := by simpa using h20
   by_cases h21 : op = 21
   ·subst h21
    have HGoal : Hid (∀ W,Fs [E] wf W → RunQ f T ws aa w (.returned (.tuple #[.agg #[.int .i64 0,.bool true,.slice (some ⟨AO,0,none⟩) aa.length aa.length],.slice (some ⟨gz,0,none⟩) (es.length + 1) cap])) W) := fun W hf => HFin.out ⟨0,true,ars ps⟩ W undef undef (.trap k P (ars ps) ⟨21,d,a,b,c,imm⟩ HIk.out rfl) rfl hf
    have e0 := HkEf.out.cell 0 rfl
    have e1 := HkEf.out.cell 1 rfl
    have e2 := HkEf.out.cell 2 rfl
    have r0 := HkEf.out.fr 0
    have r1 := HkEf.out.fr 1
    have r2 := HkEf.out.fr 2
    obtain ⟨k1,k2⟩ := set_three HkEf.out (.int .i64 0) (.bool true) (.slice (some ⟨AO,0,none⟩) aa.length aa.length)
    have HK1 := keep k1
    have HK2 := keep k2
    clear HFin h20 k1 k2
    go_wp2_with fail
    refine bodyPost_ret (ret_end rfl _ _ E (.int .i64 0) (.bool true) (.slice (some ⟨AO,0,none⟩) aa.length aa.length) (.slice (some ⟨gz,0,none⟩) (es.length + 1) cap) rfl rfl HK1.out) rfl ?_
    exact HGoal.out _ HK2.out
   ·have k21 : (op == 21) = false := by simpa using h21
    have HF := keep HFine.out
    have HSt := keep (step_any PB AO P ps ⟨op,d,a,b,c,imm⟩ k wf HMcF.out (by rw [HPl.out]; exact HN.out) (by have h1 := HI.out.lt; have h2 := HR.out.len2; omega) HFine.out.o1 (by have h3 := HFine.out.o2; dsimp only at h3 ⊢; omega) (fun hm => by rw [HPl.out]; exact HFine.out.d hm) (fun p hp => by rw [HPl.out]; exact HFine.out.r p hp) (fun ho => by have h1 := HFine.out.b ho; have h2 := HGA0.out.len; rw [Hpl.out,h2]; exact h1) (fun ho => by have h1 := HFine.out.j ho; omega) HI.out.gp.word)
    unfold ixA at HSt
    dsimp only at HSt
    rw [HPl.out,Hpl.out] at HSt
    have HO : Hid (op ≠ 20 ∧ op ≠ 21) := ⟨h20,h21⟩
    clear HFin h20 h21
    go_wp2_with fail
    refine HSt.out.mono ?_
    rintro r wg ⟨rfl,ps',hmc',har',hfst',hf'⟩
    have hnx := nx_lt (P:=P) HR.out HIk.out HO.out.1 HO.out.2
    obtain ⟨k',hk'⟩ : ∃ y,nx ⟨op,d,a,b,c,imm⟩ k P = y := ⟨_,rfl⟩
    rw [hk'] at hnx
    have hbl : ps.map Prod.fst = bl := HI.out.hbl
    rw [hbl] at hf'
    have HInv : Hid (RunI f T (firstP f.sec.length ws) aa w8 PB AO bl k' (.slice (some ⟨gz,0,none⟩) (es.length + 1) cap) wg (pl ⟨op,d,a,b,c,imm⟩ P (ars ps)) ps' (es ++ [(⟨k,op,vals T ⟨op,d,a,b,c,imm⟩ P⟩,.slice pq nq cq)])) := by
     refine ⟨hnx.2,hmc',pl_good HFine.out HI.out.gp HI.out.ga,by rw [har']; exact arr_good HFine.out HI.out.gp HI.out.ga,by rw [hfst']; exact hbl,RowX.fs nestL_nest HRowF.out hf' (fun b hb => by have h1 := (HNew.out b hb).2; have h2 := HSB8.out.1; omega),by have h1 := HI.out.len; rw [List.length_append,List.length_singleton]; omega,fun ls' e hr => ?_,HFsF.out.trans hf'⟩
     rw [List.map_append,List.append_assoc]
     refine HI.out.runs _ e ?_
     refine .step k P (ars ps) ⟨op,d,a,b,c,imm⟩ ls' e HIk.out HO.out.1 HO.out.2 ?_
     rw [hk',← har']
     exact hr
    rw [hk']
    have HK' := keep hnx
    have HLt2 : Hid (k < f.code.length) := HI.out.lt
    clear hmc' har' hfst' hf' hnx hk' hbl x0 x1 x2 x3 x4 x5 s0 s1
    go_wp2_with fail
    go_roundw
    case rel => exact ⟨k',_,_,_,rfl,HInv.out⟩
    case measure => simp [intOf]; have h1 := HK'.out; have h2 := HLt2.out; omega
end Go.Proofs.Ytpnacanbknejiaa.Fl
