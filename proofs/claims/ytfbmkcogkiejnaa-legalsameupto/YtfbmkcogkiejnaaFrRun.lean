/- How instructions run, as the document tells it: its Run. Written by tools/gen_frrun.py. -/
import Derived.Test.YtfbmkcogkiejnaaFrDo
import Derived.Test.YtfbmkcogkiejnaaFrNew
import Derived.Test.YtfbmkcogkiejnaaFrEnd
import Derived.Test.YtfbmkcogkiejnaaFrSeen
namespace Go.Proofs.Ytfbmkcogkiejnaa.Fl
set_option maxHeartbeats 32000000
set_option maxRecDepth 100000
set_option linter.unusedVariables false
set_option linter.unusedSimpArgs false
open Go.ChangeShapes Go.WideShapes Go.ChangeAt Go.RowKit Lg Lr
theorem rnew0_any (B n : Nat) (ws : List Int) (aa : List (List Int)) (gv : Value) (w : World) (hB : B ≤ w.heap.size) (hg : GvIs w B ws aa gv) (hN : n ≤ 17592186044416) (hW : ws.length ≤ n) (hsum : sumL aa ≤ 1048576) (haa : aa.length ≤ 1048576) :
  Calls Try.prog 43 #[.int .i64 (n : Int),.int .i64 0,gv] w fun r w' => RNew n 0 ws aa w r w' := rnew_any B n 0 ws aa gv w hB hg hN (by omega) hsum haa
structure RunR (f : Fx) (T : Nat → Int) (P0 : List Int) (aa : List (List Int)) (w8 : World) (MB PB AO : Nat) (av : Value) (bl : List Nat) (k : Nat) (v : Value) (W : World) (P : List Int) (ps : List (Nat × List Int)) (es : List (Lk × Value)) : Prop where
 lt : k < f.code.length
 rm : RM W MB PB AO av P ps
 gp : GP f P
 ga : GA f.arrs (ars ps)
 hbl : ps.map Prod.fst = bl
 row : RowL W w8.heap.size v es
 len : es.length ≤ k
 runs : ∀ ls' e,Runs f.code T k P (ars ps) ls' e → Runs f.code T 0 P0 aa (es.map Prod.fst ++ ls') e
 fs : Fs (PB :: bl) w8 W
theorem rrun_any (B : Nat) (f : Fx) (T : Nat → Int) (s1 s2 s3 : Value) (ws : List Int) (aa : List (List Int)) (gv : Value) (w : World) (hB : B ≤ w.heap.size) (h : FxIs w B f s1 s2 s3) (hg : GvIs w B ws aa gv) (hc : checkF f = (0,-1)) (hT : TabR T) (hN : f.sec.length ≤ 17592186044416) (hS : Shape (List.replicate f.params.toNat zV) f.arrs ws aa) (hA : AllW ws aa) (hsum : sumL aa ≤ 1048576) (hal : aa.length ≤ 1048576) :
  Calls Try.prog 23 #[.agg (fxA f s1 s2 s3),.agg (Tb.tabA T),gv] w fun r w' => RunQ f T ws aa w r w' := by
 have hR := right_of (f:=f) (by rw [hc])
 have hWl : ws.length ≤ f.sec.length := by
  have h1 := hS.w
  rw [List.length_replicate] at h1
  have := hR.p0
  have := hR.p1
  omega
 have hGA0 : GA f.arrs aa := ⟨hS.a,fun j row v hj hv => hS.s j v row hv hj,hA.2⟩
 have hGP0 : GP f (firstP f.sec.length ws) := ⟨firstP_len hWl,fun x hx => by
  unfold firstP at hx
  rcases List.mem_append.1 hx with q | q
  ·exact hA.1 x q
  ·rw [(List.mem_replicate.1 q).2]; exact isW_zero⟩
 have haa : aa.length ≤ 5864062014805 := by
  obtain ⟨_,_,_,_,ha⟩ := hg
  obtain ⟨_,_,_,_,q1,_,q2,_⟩ := ha
  omega
 have hrr : ∀ r,GA f.arrs r → r.length = aa.length ∧ ∀ x ∈ r,x.length ≤ 17592186044416 := fun r hr => by
  refine ⟨by rw [hr.len,hGA0.len],fun x hx => ?_⟩
  obtain ⟨j,hj⟩ := List.getElem?_of_mem hx
  have hjl := (List.getElem?_eq_some_iff.1 hj).1
  obtain ⟨y,hy⟩ : ∃ y,aa[j]? = some y := ⟨_,List.getElem?_eq_getElem (by rw [hGA0.len,← hr.len]; exact hjl)⟩
  obtain ⟨v,hv⟩ : ∃ v,f.arrs[j]? = some v := ⟨_,List.getElem?_eq_getElem (by rw [← hr.len]; exact hjl)⟩
  have e1 := hr.size j x v hj hv
  have e2 := hGA0.size j y v hy hv
  have e3 : y.length ≤ sumL aa := by
   have := sumL_take aa j y hy
   have := sumL_le aa (j + 1)
   omega
  omega
 obtain ⟨p1,n1,c1,hs1,hn1,hx1⟩ := id h.code
 obtain ⟨p2,n2,c2,hs2,hn2,hx2⟩ := id h.sec
 obtain ⟨p3,n3,c3,hs3,hx3⟩ := id h.arrs
 subst hs1 hs2 hs3
 have HG0 := keep hg
 obtain ⟨t1,t2,rfl,hi,ha⟩ := hg
 obtain ⟨p4,n4,c4,hs4,hx4⟩ := id hi
 obtain ⟨p5,n5,c5,hs5,hx5⟩ := id ha
 subst hs4 hs5
 obtain ⟨pr,hpr⟩ : ∃ k : Int,f.params = k := ⟨f.params,rfl⟩
 obtain ⟨w1,hw1⟩ : ∃ y,w.alloc (.cells #[.slice p1 n1 c1,.slice p2 n2 c2,.int .i64 pr,.slice p3 n3 c3] 26) = y := ⟨_,rfl⟩
 obtain ⟨w2,hw2⟩ : ∃ y,w1.alloc (.cells (Tb.tabA T) 29) = y := ⟨_,rfl⟩
 obtain ⟨w3,hw3⟩ : ∃ y,w2.alloc (.cells #[.slice p4 n4 c4,.slice p5 n5 c5] 33) = y := ⟨_,rfl⟩
 obtain ⟨w4,hw4⟩ : ∃ y,w3.alloc (.cells #[.int .i64 0,.bool false,.slice none 0 0] 51) = y := ⟨_,rfl⟩
 obtain ⟨F,hF⟩ : ∃ y,w.heap.size = y := ⟨_,rfl⟩
 obtain ⟨TB,hTB⟩ : ∃ y,w1.heap.size = y := ⟨_,rfl⟩
 obtain ⟨G,hG⟩ : ∃ y,w2.heap.size = y := ⟨_,rfl⟩
 obtain ⟨E,hE⟩ : ∃ y,w3.heap.size = y := ⟨_,rfl⟩
 have b1 : Below w.heap.size w w1 := by rw [← hw1]; exact (Below.refl _ _).alloc (Nat.le_refl _) _
 have b2 : Below w1.heap.size w1 w2 := by rw [← hw2]; exact (Below.refl _ _).alloc (Nat.le_refl _) _
 have b3 : Below w2.heap.size w2 w3 := by rw [← hw3]; exact (Below.refl _ _).alloc (Nat.le_refl _) _
 have b4 : Below w3.heap.size w3 w4 := by rw [← hw4]; exact (Below.refl _ _).alloc (Nat.le_refl _) _
 have b34 := b3.trans (b4.mono b3.size)
 have b24 := b2.trans (b34.mono b2.size)
 have b14 := b1.trans (b24.mono b1.size)
 have kF1 : Bk w1 F [.slice p1 n1 c1,.slice p2 n2 c2,.int .i64 pr,.slice p3 n3 c3] 26 := by rw [← hw1,← hF]; exact Bk.new _ _ _
 have kF := kF1.fs (Fs.of_below (l:=[]) b24) (by simp)
 have kT2 : Tb.Blk w2 TB T := by rw [← hw2,← hTB]; exact Tb.blk_alloc w1 T
 have kT : Tb.Blk w4 TB T := kT2.below b34 kT2.lt
 have kG3 : Bk w3 G [.slice p4 n4 c4,.slice p5 n5 c5] 33 := by rw [← hw3,← hG]; exact Bk.new _ _ _
 have kG := kG3.fs (Fs.of_below (l:=[]) b4) (by simp)
 have kE : Bk w4 E [.int .i64 0,.bool false,.slice none 0 0] 51 := by rw [← hw4,← hE]; exact Bk.new _ _ _
 have HkF := keep kF
 have HkT := keep kT
 have HkG := keep kG
 have HkE := keep kE
 have HLt : Hid (F < w4.heap.size ∧ TB < w4.heap.size ∧ G < w4.heap.size ∧ E < w4.heap.size ∧ w.heap.size ≤ w4.heap.size) := ⟨kF.lt,kT.lt,kG.lt,kE.lt,b14.size⟩
 have HEw : Hid (w.heap.size ≤ E) := by
  show _ ≤ _
  rw [← hE]; exact (b1.trans ((b2.trans (b3.mono b2.size)).mono b1.size)).size
 have HBw : Hid (∀ W,Below w4.heap.size w4 W → Below w.heap.size w W) := fun W hW' => b14.trans (hW'.mono b14.size)
 have HNw := keep (rnew0_any B n2 ws aa _ w4 (Nat.le_trans hB b14.size) (HG0.out.below (b14.mono hB)) (by rw [← hn2]; exact hN) (by rw [← hn2]; exact hWl) hsum hal)
 have HFx := keep h
 have HW1 := keep hw1
 have HW2 := keep hw2
 have HW3 := keep hw3
 have HW4 := keep hw4
 have HF := keep hF
 have HTB := keep hTB
 have HG := keep hG
 have HE := keep hE
 have HBB := keep hB
 have HR := keep hR
 have HTR := keep hT
 have HSA := keep (And.intro hS hA)
 have HGA0 := keep hGA0
 have HGP0 := keep hGP0
 have HRR := keep hrr
 have HAA := keep haa
 have HN := keep hN
 have HN1 := keep hn1
 have HN2 := keep hn2
 have HC0 := keep hc
 unfold fxA
 rw [hpr]
 have f0 := kF.cell 0 rfl
 have f1 := kF.cell 1 rfl
 have f2 := kF.cell 2 rfl
 have f3 := kF.cell 3 rfl
 have g0 := kG.cell 0 rfl
 have g1 := kG.cell 1 rfl
 clear hw1 hw2 hw3 hw4 hF hTB hG hE b1 b2 b3 b4 b34 b24 b14 kF1 kT2 kG3 kF kT kG kE hi ha hpr h hB hR hT hS hA hGA0 hGP0 hrr haa hsum hN hc hal hWl hn1 hn2 hx1 hx2 hx3 hx4 hx5
 go_enter Try.func23,Try.ntmps23
 go_wp2_with (first | rw [HW1.out] | rw [HW2.out] | rw [HW3.out] | rw [HW4.out] | rw [HF.out] | rw [HTB.out] | rw [HG.out] | rw [HE.out] | fail)
 refine HNw.out.mono ?_
 rintro r w8 ⟨MB,PB,AO,av,ps0,rfl,hrm0,hps0,hb8,hl0,hl1,hl2,hl3⟩
 have HB8 := keep hb8
 rw [fromP_first,← HN2.out] at hrm0
 obtain ⟨pA,cA,hav,hcA,_⟩ := id hrm0.ar.av
 have hpl0 : ps0.length = aa.length := by rw [← hps0]; unfold ars; rw [List.length_map]
 rw [hpl0] at hav
 subst hav
 have HPl0 := keep hpl0
 have HRm0 := keep hrm0
 have HPs0 := keep hps0
 obtain ⟨bl,hbl⟩ : ∃ y,ps0.map Prod.fst = y := ⟨_,rfl⟩
 have HNew : Hid (∀ b ∈ PB :: bl,w4.heap.size ≤ b ∧ b < w8.heap.size) := fun b hb => by
  rcases List.mem_cons.1 hb with rfl | hb
  ·exact ⟨hl1,hrm0.pl.lt⟩
  ·rw [← hbl] at hb
   obtain ⟨p,hp,rfl⟩ := List.mem_map.1 hb
   obtain ⟨j,hj⟩ := List.getElem?_of_mem hp
   obtain ⟨s,_,har⟩ := hrm0.ar.at' j p hj
   exact ⟨hl3 p hp,har.lt⟩
 have HMBn : Hid (MB ∉ PB :: bl ∧ w4.heap.size ≤ MB ∧ MB < w8.heap.size) := ⟨fun hm => by
  rcases List.mem_cons.1 hm with e | hm
  ·exact hrm0.ne e
  ·rw [← hbl] at hm
   obtain ⟨p,hp,e⟩ := List.mem_map.1 hm
   exact (hrm0.np p hp).2 e,hl0,hrm0.m.lt⟩
 have HAO : Hid (ps0 ≠ [] → w4.heap.size ≤ AO) := hl2
 have HLen : Hid (∀ W P ps es k v,RunR f T (firstP f.sec.length ws) aa w8 MB PB AO (.slice pA aa.length cA) bl k v W P ps es → P.length = f.sec.length ∧ ps.length = aa.length) := fun W P ps es k v hI => ⟨hI.gp.len,by have h1 := hI.ga.len; have h2 := HGA0.out.len; unfold ars at h1; rw [List.length_map] at h1; omega⟩
 have HStart : Hid (RunR f T (firstP f.sec.length ws) aa w8 MB PB AO (.slice pA aa.length cA) bl 0 (.slice none 0 0) w8 (firstP f.sec.length ws) ps0 []) := by
  refine ⟨HR.out.len1,HRm0.out,HGP0.out,by rw [show ars ps0 = aa from hps0]; exact HGA0.out,hbl,RowX.nil _ _,Nat.le_refl _,fun ls' e hr => ?_,Fs.refl _ _⟩
  rw [show ars ps0 = aa from hps0] at hr
  exact hr
 have HFrame : Hid (∀ W,Fs (PB :: bl) w8 W → Bk W MB [.slice (some ⟨PB,0,none⟩) f.sec.length f.sec.length,.slice pA aa.length cA,.int .i64 0] 90 ∧ Bk W F [.slice p1 n1 c1,.slice p2 n2 c2,.int .i64 pr,.slice p3 n3 c3] 26 ∧ Tb.Blk W TB T ∧ Bk W E [.int .i64 0,.bool false,.slice none 0 0] 51 ∧ Below w.heap.size w W) := fun W hf => by
  have hno : ∀ b,b < w4.heap.size → b ∉ PB :: bl := fun b hb hm => by have := (HNew.out b hm).1; omega
  have h8 := HB8.out
  have hM0 := HRm0.out.m
  rw [firstP_len (by have := HSA.out.1.w; rw [List.length_replicate] at this; have h3 := HR.out.p0; have h4 := HR.out.p1; omega)] at hM0
  refine ⟨hM0.fs hf HMBn.out.1,(HkF.out.fs (Fs.of_below (l:=[]) h8) (by simp)).fs hf (hno _ HLt.out.1),?_,(HkE.out.fs (Fs.of_below (l:=[]) h8) (by simp)).fs hf (hno _ HLt.out.2.2.2.1),?_⟩
  ·have h1 : Tb.Blk w8 TB T := HkT.out.below h8 HLt.out.2.1
   unfold Tb.Blk at h1 ⊢
   rw [hf.block TB (Tb.Blk.lt (show Tb.Blk w8 TB T from h1)) (hno _ HLt.out.2.1)]; exact h1
  ·have h1 := HBw.out w8 h8
   exact h1.trans (hf.below h1.size (fun b hb => by have := (HNew.out b hb).1; have := HLt.out.2.2.2.2; omega))
 clear hrm0 hps0 hb8 hl0 hl1 hl2 hl3 hbl hpl0 hcA HNw f0 f1 f2 f3 g0 g1
 go_wp2_with fail
 go_loopw [9,10] (fun v at' wx => ∃ (k : Nat) (P : List Int) (ps : List (Nat × List Int)) (es : List (Lk × Value)),at' = .int .i64 (k : Int) ∧ RunR f T (firstP f.sec.length ws) aa w8 MB PB AO (.slice pA aa.length cA) bl k v wx P ps es) (fun _ at' _ => f.code.length - (intOf at').toNat)
 case atStart => exact ⟨0,_,_,[],rfl,HStart.out⟩
 case round =>
  obtain ⟨k,P,ps,es,rfl,hI⟩ := hrel
  have HI := keep hI
  obtain ⟨hPl,hpl⟩ := HLen.out _ _ _ _ _ _ hI
  have HPl := keep hPl
  have Hpl := keep hpl
  obtain ⟨i,hik⟩ : ∃ i,f.code[k]? = some i := ⟨_,List.getElem?_eq_getElem hI.lt⟩
  have HIk := keep hik
  have HFine := keep (fine_of (HR.out.each k i hik))
  obtain ⟨kS,kF,kT,kE,hbW⟩ := HFrame.out wr hI.fs
  obtain ⟨q1,q2,q3,q4,q5,q6,q7,q8⟩ := HFx.out.code.below (hbW.mono HBB.out)
  cases q4
  obtain ⟨g,o,rfl,hgB,hix⟩ := q8 k i hik
  obtain ⟨op,d,a,b,c,imm⟩ := i
  have z0 := hix.c0
  have z1 := hix.c1
  have z2 := hix.c2
  have z3 := hix.c3
  have z4 := hix.c4
  have z5 := hix.c5
  dsimp only at z0 z1 z2 z3 z4 z5
  have y0 := kF.cell 0 rfl
  have hk0 : (0 : Int) ≤ (k : Int) := by omega
  have hk1 : (k : Int) < (n1 : Int) := by have := hI.lt; omega
  obtain ⟨pv,nv,cv,rfl⟩ := RowX.slice hI.row
  obtain ⟨wA,hwA⟩ : ∃ y,wr.alloc (.cells #[.int .i64 op,.int .i64 d,.int .i64 a,.int .i64 b,.int .i64 c,.int .i64 imm] 35) = y := ⟨_,rfl⟩
  obtain ⟨IB,hIB⟩ : ∃ y,wr.heap.size = y := ⟨_,rfl⟩
  have bA : Below wr.heap.size wr wA := by rw [← hwA]; exact (Below.refl _ _).alloc (Nat.le_refl _) _
  have kI : Bk wA IB [.int .i64 op,.int .i64 d,.int .i64 a,.int .i64 b,.int .i64 c,.int .i64 imm] 35 := by rw [← hwA,← hIB]; exact Bk.new _ _ _
  have HkI := keep kI
  have HBA := keep bA
  have HkS := keep (kS.fs (Fs.of_below (l:=[]) bA) (by simp))
  have HkT2 := keep (kT.below bA kT.lt)
  have HkE2 := keep (kE.fs (Fs.of_below (l:=[]) bA) (by simp))
  have HMcA := keep (hI.rm.below bA)
  have HbWA := keep (hbW.trans (bA.mono hbW.size))
  have HRowA : Hid (RowL wA w8.heap.size (.slice pv nv cv) es) := RowX.fs (l:=[]) nestL_nest hI.row (Fs.of_below bA) (by simp)
  have HWA := keep hwA
  have HIB := keep hIB
  have HSS : Hid (∀ W',Below wA.heap.size wA W' → Tb.Blk W' TB T ∧ W'.cell? ⟨MB,0,none⟩ = some (.slice (some ⟨PB,0,none⟩) f.sec.length f.sec.length) ∧ W'.cell? ⟨IB,0,none⟩ = some (.int .i64 op) ∧ W'.cell? ⟨IB,1,none⟩ = some (.int .i64 d) ∧ W'.cell? ⟨IB,2,none⟩ = some (.int .i64 a) ∧ W'.cell? ⟨IB,3,none⟩ = some (.int .i64 b) ∧ W'.cell? ⟨IB,4,none⟩ = some (.int .i64 c) ∧ W'.cell? ⟨IB,5,none⟩ = some (.int .i64 imm)) := fun W' hW => by
   have u1 := HkS.out.fs (Fs.of_below (l:=[]) hW) (by simp)
   have u2 := HkI.out.fs (Fs.of_below (l:=[]) hW) (by simp)
   exact ⟨HkT2.out.below hW HkT2.out.lt,u1.cell 0 rfl,u2.cell 0 rfl,u2.cell 1 rfl,u2.cell 2 rfl,u2.cell 3 rfl,u2.cell 4 rfl,u2.cell 5 rfl⟩
  have HSeen := keep (fun W (hW : Below wA.heap.size wA W) => rseen_any W.heap.size T ⟨op,d,a,b,c,imm⟩ P (.slice (some ⟨PB,0,none⟩) f.sec.length f.sec.length) false W (Nat.le_refl _) (by
   have h1 := HMcA.out.below hW
   refine ⟨_,_,_,rfl,HPl.out,Nat.le_refl _,HN.out,fun j x hj => ⟨PB,0,rfl,h1.pl.lt,?_⟩⟩
   rw [Nat.zero_add]
   exact h1.pl.cell j (by rw [List.getElem?_map,hj]; rfl)) HTR.out (fun p hp => by rw [HPl.out]; exact HFine.out.r p hp))
  unfold ixA at HSeen
  dsimp only at HSeen
  have HSB8 : Hid (MB < w8.heap.size ∧ E < w8.heap.size) := ⟨HMBn.out.2.2,by have := HLt.out.2.2.2.1; have := HB8.out.size; omega⟩
  clear hI hik kS kF kT kE hbW hix q8 hwA hIB bA kI HStart
  go_wp2_with fail
  rw [HWA.out,HIB.out]
  obtain ⟨i0,hi0,j0,j1,j2⟩ := info_parts infoL
  refine wp_region_noPanic ?_
  refine Ord.wpM_begin (fun W' : World => Tb.Blk W' TB T ∧ W'.cell? ⟨MB,0,none⟩ = some (.slice (some ⟨PB,0,none⟩) f.sec.length f.sec.length) ∧ W'.cell? ⟨IB,0,none⟩ = some (.int .i64 op) ∧ W'.cell? ⟨IB,1,none⟩ = some (.int .i64 d) ∧ W'.cell? ⟨IB,2,none⟩ = some (.int .i64 a) ∧ W'.cell? ⟨IB,3,none⟩ = some (.int .i64 b) ∧ W'.cell? ⟨IB,4,none⟩ = some (.int .i64 c) ∧ W'.cell? ⟨IB,5,none⟩ = some (.int .i64 imm)) [0,1,2,3,4,5,6,7,8,9,10,11,12,13] (by kernel_rfl) ?_
  have HD : Hid (Below wA.heap.size wA wA.drew) := Below.drew (Below.refl _ _)
  generalize wA.drew = wd at *
  have hS := HSS.out wd HD.out
  refine Ord.tk (i:=0) (v:=.slice pv nv cv) (hy:=Or.inl ⟨by rfl,by rintro W' ⟨q0,q1,q2,q3,q4,q5,q6,q7⟩; go_simp⟩) (hS:=hS) (h:=?_)
  try simp only [Act.put,Ord.t,Ord.z,Ord.s]
  refine Ord.tk (i:=1) (v:=.int .i64 (k : Int)) (hy:=Or.inl ⟨by rfl,by rintro W' ⟨q0,q1,q2,q3,q4,q5,q6,q7⟩; go_simp⟩) (hS:=hS) (h:=?_)
  try simp only [Act.put,Ord.t,Ord.z,Ord.s]
  refine Ord.tk (i:=2) (v:=.pointer (some ⟨IB,0,none⟩)) (hy:=Or.inl ⟨by rfl,by rintro W' ⟨q0,q1,q2,q3,q4,q5,q6,q7⟩; go_simp⟩) (hS:=hS) (h:=?_)
  try simp only [Act.put,Ord.t,Ord.z,Ord.s]
  refine Ord.tk (i:=3) (v:=.int .i64 op) (hy:=Or.inl ⟨by rfl,by rintro W' ⟨q0,q1,q2,q3,q4,q5,q6,q7⟩; go_simp⟩) (hS:=hS) (h:=?_)
  try simp only [Act.put,Ord.t,Ord.z,Ord.s]
  refine Ord.wpM_take (i:=4) (v:=.agg (Tb.tabA T)) (by simp only [List.getElem?_toArray,List.getElem?_cons_zero,List.getElem?_cons_succ]; rfl) (by kernel_rfl) (by kernel_rfl) (by kernel_rfl) (by kernel_rfl) (fun _ _ _ h => h) (tab_yields rfl (.tmp 4) rfl TB rfl T (fun W hW => hW.1)) hS ?_
  try simp only [Act.put,Ord.t,Ord.z,Ord.s]
  refine Ord.tk (i:=5) (v:=.agg #[.int .i64 op,.int .i64 d,.int .i64 a,.int .i64 b,.int .i64 c,.int .i64 imm]) (hy:=Or.inl ⟨by rfl,by rintro W' ⟨q0,q1,q2,q3,q4,q5,q6,q7⟩; go_simp⟩) (hS:=hS) (h:=?_)
  try simp only [Act.put,Ord.t,Ord.z,Ord.s]
  refine Ord.tk (i:=6) (v:=.pointer (some ⟨MB,0,none⟩)) (hy:=Or.inl ⟨by rfl,by rintro W' ⟨q0,q1,q2,q3,q4,q5,q6,q7⟩; go_simp⟩) (hS:=hS) (h:=?_)
  try simp only [Act.put,Ord.t,Ord.z,Ord.s]
  refine Ord.tk (i:=7) (v:=.pointer (some ⟨MB,0,none⟩)) (hy:=Or.inl ⟨by rfl,by rintro W' ⟨q0,q1,q2,q3,q4,q5,q6,q7⟩; go_simp⟩) (hS:=hS) (h:=?_)
  try simp only [Act.put,Ord.t,Ord.z,Ord.s]
  refine Ord.tk (i:=8) (v:=.pointer (some ⟨MB,0,none⟩)) (hy:=Or.inl ⟨by rfl,by rintro W' ⟨q0,q1,q2,q3,q4,q5,q6,q7⟩; go_simp⟩) (hS:=hS) (h:=?_)
  try simp only [Act.put,Ord.t,Ord.z,Ord.s]
  refine Ord.tk (i:=9) (v:=.slice (some ⟨PB,0,none⟩) f.sec.length f.sec.length) (hy:=Or.inl ⟨by rfl,by rintro W' ⟨q0,q1,q2,q3,q4,q5,q6,q7⟩; go_simp⟩) (hS:=hS) (h:=?_)
  try simp only [Act.put,Ord.t,Ord.z,Ord.s]
  refine Ord.on (i:=10) (h:=fun K hK => ?_)
  go_simp
  refine (HSeen.out wd HD.out).mono ?_
  rintro r we ⟨vv,rfl,hvv,hbe⟩
  have HBe := keep (HD.out.trans (hbe.mono HD.out.size))
  obtain ⟨pq,nq,cq,hvq,_⟩ := id hvv
  subst hvq
  have HNe : Hid (nestL we (In w8.heap.size (.slice pv nv cv) we) (⟨k,op,valsW (bitsG T op false) P 0 (rds ⟨op,d,a,b,c,imm⟩)⟩,.slice pq nq cq)) := by
   refine IntsX.mono hvv (fun i hi => ?_)
   have h3 := HD.out.size
   have h4 := HRowA.out
   have h1 := hi.1
   refine ⟨?_,hi.2,fun e => ?_⟩
   ·have h5 := HI.out.fs.size
    have h6 := HBA.out.size
    omega
   ·have := (RowX.own h4).lt i e
    omega
  have HRowE : Hid (RowL we w8.heap.size (.slice pv nv cv) es) := RowX.fs (l:=[]) nestL_nest HRowA.out (Fs.of_below HBe.out) (by simp)
  have HV : Hid (valsW (bitsG T op false) P 0 (rds ⟨op,d,a,b,c,imm⟩) = vals T ⟨op,d,a,b,c,imm⟩ P) := seen_vals HFine.out HPl.out
  rw [HV.out] at HNe
  clear hvv hbe HSeen
  go_simp
  refine hK.out _ _ (fun _ => HSS.out we HBe.out) ?_
  clear hK K
  try simp only [Act.put,Ord.t,Ord.z,Ord.s]
  have hS := HSS.out we HBe.out
  refine Ord.tk (i:=11) (v:=.agg #[.int .i64 (k : Int),.int .i64 op,.slice pq nq cq]) (hy:=Or.inl ⟨by rfl,by rintro W' ⟨q0,q1,q2,q3,q4,q5,q6,q7⟩; go_simp⟩) (hS:=hS) (h:=?_)
  try simp only [Act.put,Ord.t,Ord.z,Ord.s]
  have hnv : nv = es.length := RowX.len HRowE.out
  subst hnv
  have hown := (RowX.own HRowE.out).alloc (.cells #[.int .i64 (k : Int),.int .i64 op,.slice pq nq cq] 61)
  have hlen : es.length ≤ 12000 := by have h1 := HI.out.len; have h2 := HI.out.lt; have h3 := HR.out.len2; omega
  have hw8 : w8.heap.size ≤ we.heap.size := by have h5 := HI.out.fs.size; have h6 := HBA.out.size; have h7 := HBe.out.size; omega
  refine Ord.on (i:=12) (h:=fun K hK => ?_)
  go_simp
  refine hK.out _ _ (fun _ => HSS.out _ (HBe.out.trans (((Below.refl _ _).alloc (Nat.le_refl _) _).mono HBe.out.size))) ?_
  clear hK K
  try simp only [Act.put,Ord.t,Ord.z,Ord.s]
  refine Ord.on (i:=13) (h:=fun K hK => ?_)
  refine step_append_lies _ rfl (.tmp 22) (.tmp 34) 52 rfl w8.heap.size 61 i0 _ 3 40 Try.underlying52 hi0 j0 j1 j2 rfl (by decide) (.slice pv es.length cv) es.length (es.flatMap cellsL) rfl hown ⟨we.heap.size,0,none⟩ 1 1 (cellsL (⟨k,op,vals T ⟨op,d,a,b,c,imm⟩ P⟩,.slice pq nq cq)) rfl rfl (fun j u hj => new_cell we _ _ j u hj) ?c2 (by decide) ?c3 ?c4 ?c5 (we.heap.size + 1) (by simp) ?_
  case c2 =>
   intro u hu
   simp only [cellsL,List.mem_cons,List.not_mem_nil,or_false] at hu
   rcases hu with rfl | rfl | rfl <;> rfl
  case c3 => unfold maxLen; omega
  case c4 => omega
  case c5 => first | omega | (simp; omega)
  intro gz cap wf hown2 hgrow hat hlt
  have hbz : Below we.heap.size we (we.alloc (.cells #[.int .i64 (k : Int),.int .i64 op,.slice pq nq cq] 61)) := (Below.refl _ _).alloc (Nat.le_refl _) _
  have HRowF : Hid (RowL wf w8.heap.size (.slice (some ⟨gz,0,none⟩) (es.length + 1) cap) (es ++ [(⟨k,op,vals T ⟨op,d,a,b,c,imm⟩ P⟩,.slice pq nq cq)])) :=
   RowX.push nestL_nest (RowX.fs (l:=[]) nestL_nest HRowE.out (Fs.of_below hbz) (by simp)) (nestL_nest.mono _ _ _ _ (nestL_nest.keep _ _ _ _ HNe.out (fun i hi => hbz.block i hi.2.1)) (fun i hi => ⟨hi.1,Nat.lt_of_lt_of_le hi.2.1 hbz.size,hi.2.2⟩)) hown2 hgrow (by simpa using hat)
  have hfr : ∀ i,i < we.heap.size → (i < w8.heap.size ∨ i = IB) → wf.heap[i]? = we.heap[i]? := fun i h1 h2 => by
   refine (hgrow.block i (by have := hbz.size; omega) (fun e => ?_)).trans (hbz.block i h1)
   have h3 := (RowX.own HRowA.out).lt i e.symm
   have h4 := (RowX.own HI.out.row).lt i e.symm
   have h5 := HIB.out
   omega
  have HFrF : Hid (Below w8.heap.size we wf) := ⟨hgrow.os.trans hbz.os,hgrow.tape.trans hbz.tape,hgrow.output.trans hbz.output,Nat.le_trans hbz.size hgrow.size,fun i hi => hfr i (by omega) (.inl hi)⟩
  have HkIF : Hid (Bk wf IB [.int .i64 op,.int .i64 d,.int .i64 a,.int .i64 b,.int .i64 c,.int .i64 imm] 35) := by
   have h1 := HkI.out.fs (Fs.of_below (l:=[]) HBe.out) (by simp)
   show Bk _ _ _ _
   unfold Bk at h1 ⊢
   rw [hfr IB (Array.getElem?_eq_some_iff.1 h1).1 (.inr rfl)]; exact h1
  have hSf : (fun W' : World => Tb.Blk W' TB T ∧ W'.cell? ⟨MB,0,none⟩ = some (.slice (some ⟨PB,0,none⟩) f.sec.length f.sec.length) ∧ W'.cell? ⟨IB,0,none⟩ = some (.int .i64 op) ∧ W'.cell? ⟨IB,1,none⟩ = some (.int .i64 d) ∧ W'.cell? ⟨IB,2,none⟩ = some (.int .i64 a) ∧ W'.cell? ⟨IB,3,none⟩ = some (.int .i64 b) ∧ W'.cell? ⟨IB,4,none⟩ = some (.int .i64 c) ∧ W'.cell? ⟨IB,5,none⟩ = some (.int .i64 imm)) wf := by
   have u1 := HkS.out.fs (Fs.of_below (l:=[]) HBe.out) (by simp)
   have u2 : Tb.Blk we TB T := HkT2.out.below HBe.out HkT2.out.lt
   have h8 := HSB8.out.1
   have h9 : TB < w8.heap.size := by have h1 := HLt.out.2.1; have h2 := HB8.out.size; omega
   refine ⟨u2.below HFrF.out h9,?_,HkIF.out.cell 0 rfl,HkIF.out.cell 1 rfl,HkIF.out.cell 2 rfl,HkIF.out.cell 3 rfl,HkIF.out.cell 4 rfl,HkIF.out.cell 5 rfl⟩
   rw [cell_below HFrF.out h8]; exact u1.cell 0 rfl
  clear hown2 hgrow hat hlt hown hbz hfr
  refine hK.out _ _ (fun _ => hSf) ?_
  clear hK K
  try simp only [Act.put,Ord.t,Ord.z,Ord.s]
  refine Ord.on (i:=14) (h:=fun K hK => ?_)
  go_simp
  refine hK.out _ _ (fun h => absurd h (by decide)) ?_
  clear hK K
  try simp only [Act.put,Ord.t,Ord.z,Ord.s]
  refine Ord.wpM_done (by kernel_rfl) ?_ _
  refine NoPanic.normal ?_
  have HBf : Hid (Below w8.heap.size wr wf) := by
   have h5 := HI.out.fs.size
   have h6 := HBA.out.size
   have h7 : Below w8.heap.size wr we := (HBA.out.trans (HBe.out.mono HBA.out.size)).mono h5
   exact h7.trans HFrF.out
  have HFsF : Hid (Fs (PB :: bl) w8 wf) := by
   have h1 := HI.out.fs
   have h2 := HBf.out
   exact ⟨h2.os.trans h1.os,h2.tape.trans h1.tape,h2.output.trans h1.output,Nat.le_trans h1.size h2.size,fun i hi hn => (h2.block i hi).trans (h1.block i hi hn)⟩
  have HRmF : Hid (RM wf MB PB AO (.slice pA aa.length cA) P ps) := by
   have h1 := HI.out.rm
   have h2 := HBf.out
   have hb : ∀ b,b ∈ PB :: bl → b < w8.heap.size := fun b hb => by have := (HNew.out b hb).2; omega
   have hAO : ps ≠ [] → AO < w8.heap.size := fun hne => by
    obtain ⟨_,_,_,_,ha⟩ := HRm0.out.ar.av
    have hne0 : ps0 ≠ [] := fun e => hne (by
     have h3 := Hpl.out
     apply List.length_eq_zero_iff.1
     have h4 := HPl0.out
     rw [e,List.length_nil] at h4
     omega)
    exact (ha hne0).2
   have hn : Fs [] wr wf → RM wf MB PB AO (.slice pA aa.length cA) P ps := fun h => h1.fs h (by simp) (by simp) (by simp) (by simp)
   have hk : ∀ {b : Nat} {l : List Value} {ty : TypeId},b < w8.heap.size → Bk wr b l ty → Bk wf b l ty := fun hlt h3 => by unfold Bk at h3 ⊢; rw [h2.block _ hlt]; exact h3
   refine ⟨hk HMBn.out.2.2 h1.m,hk (hb PB (by simp)) h1.pl,⟨?_,fun j p hp => ?_,h1.ar.nd,h1.ar.na⟩,h1.ne,h1.ao,h1.np⟩
   ·obtain ⟨pv',c',e,hc,ha⟩ := h1.ar.av
    exact ⟨pv',c',e,hc,fun hne => ⟨(ha hne).1,by have := hAO hne; have := h2.size; have := HI.out.fs.size; omega⟩⟩
   ·obtain ⟨s,hs,c',ex,e,h5,h6⟩ := h1.ar.at' j p hp
    have hne : ps ≠ [] := List.ne_nil_of_mem (List.mem_of_getElem? hp)
    exact ⟨s,by rw [cell_below h2 (hAO hne)]; exact hs,c',ex,e,h5,hk (hb p.1 (by rw [← HI.out.hbl]; exact List.mem_cons_of_mem _ (List.mem_map.2 ⟨p,List.mem_of_getElem? hp,rfl⟩))) h6⟩
  obtain ⟨kS,kF,kT,kE,hbW⟩ := HFrame.out wf HFsF.out
  have HkEf := keep kE
  have HbWf := keep hbW
  clear kS kF kT kE hbW y0 z0 z1 z2 z3 z4 z5
  have x0 := HkIF.out.cell 0 rfl
  have x1 := HkIF.out.cell 1 rfl
  have x2 := HkIF.out.cell 2 rfl
  have x3 := HkIF.out.cell 3 rfl
  have x4 := HkIF.out.cell 4 rfl
  have x5 := HkIF.out.cell 5 rfl
  have HDo := keep (rdo_any MB PB AO (.slice pA aa.length cA) P ps ⟨op,d,a,b,c,imm⟩ k wf HRmF.out (by rw [HPl.out]; exact HN.out) (by have h1 := HI.out.lt; have h2 := HR.out.len2; omega) HFine.out.o1 HFine.out.o2 (fun hm => by rw [HPl.out]; exact HFine.out.d hm) (fun p hp => by rw [HPl.out]; exact HFine.out.r p hp) (fun ho => by have h1 := HFine.out.b ho; have h2 := HGA0.out.len; rw [Hpl.out,h2]; exact h1) (fun ho => by have h1 := HFine.out.j ho; omega) HI.out.gp.word)
  unfold ixA at HDo
  dsimp only at HDo
  by_cases hend : op = 20 ∨ op = 21
  ·have HO : Hid (op = 20 ∨ op = 21) := hend
   have HM0 : Hid (mks ⟨op,d,a,b,c,imm⟩ = false) := by show _ = _; unfold mks; dsimp only; rw [decide_eq_false (show ¬ op ≤ 16 by omega),Bool.and_false]
   have HP0 : Hid (pl ⟨op,d,a,b,c,imm⟩ P (ars ps) = P) := by show _ = _; unfold pl; rw [HM0.out]; rfl
   have HA0 : Hid (arr ⟨op,d,a,b,c,imm⟩ P (ars ps) = ars ps) := by show _ = _; unfold arr; rw [if_neg (fun x => by have := x.1; dsimp only at this; omega)]
   have HRt : Hid (∀ r w',RDo MB PB AO (.slice pA aa.length cA) P ps ⟨op,d,a,b,c,imm⟩ k wf r w' → r = .returned (.int .i64 (-1)) ∧ ∃ ps',RM w' MB PB AO (.slice pA aa.length cA) P ps' ∧ ars ps' = ars ps ∧ ps'.map Prod.fst = ps.map Prod.fst ∧ Fs (PB :: ps.map Prod.fst) wf w') := fun r w' h => by
    obtain ⟨e1,ps',e2,e3,e4,e5⟩ := h
    rw [if_pos hend] at e1
    rw [HP0.out] at e2
    rw [HA0.out] at e3
    exact ⟨e1,ps',e2,e3,e4,e5⟩
   clear hend
   go_wp2_with fail
   refine HDo.out.mono ?_
   rintro r wg hrd
   obtain ⟨rfl,ps',hrm',har',hfst',hf'⟩ := HRt.out r wg hrd
   have hbl : ps.map Prod.fst = bl := HI.out.hbl
   rw [hbl] at hf'
   have HFst : Hid (ps'.map Prod.fst = bl) := hfst'.trans hbl
   have HAOn : Hid (ps' ≠ [] → w4.heap.size ≤ AO) := fun hne => HAO.out (fun e => hne (by
    have h3 := Hpl.out
    have h5 := congrArg List.length hfst'
    rw [List.length_map,List.length_map] at h5
    apply List.length_eq_zero_iff.1
    have h4 := HPl0.out
    rw [e,List.length_nil] at h4
    omega))
   have HRm' := keep hrm'
   have HAr' := keep har'
   have HFs' := keep hf'
   have HkIg : Hid (Bk wg IB [.int .i64 op,.int .i64 d,.int .i64 a,.int .i64 b,.int .i64 c,.int .i64 imm] 35) := HkIF.out.fs hf' (fun hm => by have h1 := (HNew.out IB hm).2; have h2 := HIB.out; have h3 := HI.out.fs.size; omega)
   have HkEg : Hid (Bk wg E [.int .i64 0,.bool false,.slice none 0 0] 51) := HkEf.out.fs hf' (fun hm => by have h1 := (HNew.out E hm).1; have h2 := HLt.out.2.2.2.1; omega)
   have HbWg : Hid (Below w.heap.size w wg) := HbWf.out.trans (hf'.below HbWf.out.size (fun b hb => by have h1 := (HNew.out b hb).1; have h2 := HLt.out.2.2.2.2; omega))
   have HRowG : Hid (RowL wg w8.heap.size (.slice (some ⟨gz,0,none⟩) (es.length + 1) cap) (es ++ [(⟨k,op,vals T ⟨op,d,a,b,c,imm⟩ P⟩,.slice pq nq cq)])) := RowX.fs nestL_nest HRowF.out hf' (fun b hb => (HNew.out b hb).2)
   have HEn := keep (rended_any MB PB AO (.slice pA aa.length cA) P ps' ⟨op,d,a,b,c,imm⟩ wg hrm' (by rw [HPl.out]; exact HN.out) HO.out (fun ho => by rw [HPl.out]; exact HFine.out.r a (by rw [rds_one (.inr (.inr (.inr ho)))]; simp)))
   unfold ixA at HEn
   dsimp only at HEn
   clear hrd hrm' har' hfst' hf' hbl x0 x1 x2 x3 x4 x5 HDo HRt
   have x0 := HkIg.out.cell 0 rfl
   have x1 := HkIg.out.cell 1 rfl
   have x2 := HkIg.out.cell 2 rfl
   have x3 := HkIg.out.cell 3 rfl
   have x4 := HkIg.out.cell 4 rfl
   have x5 := HkIg.out.cell 5 rfl
   go_wp2_with fail
   refine HEn.out.mono ?_
   rintro r wh ⟨rfl,hbh⟩
   have HBh := keep hbh
   obtain ⟨wo,hwo⟩ : ∃ y,(if op = 21 then (0 : Int) else gI P a) = y := ⟨_,rfl⟩
   obtain ⟨tr,htr⟩ : ∃ y,decide (op = 21) = y := ⟨_,rfl⟩
   dsimp only
   rw [hwo,htr]
   have HkEh : Hid (Bk wh E [.int .i64 0,.bool false,.slice none 0 0] 51) := HkEg.out.fs (Fs.of_below (l:=[]) hbh) (by simp)
   obtain ⟨k1,k2⟩ := set_three HkEh.out (.int .i64 wo) (.bool tr) (.slice pA aa.length cA)
   have HK1 := keep k1
   have HK2 := keep k2
   have HGoal : Hid (RunQ f T ws aa w (.returned (.tuple #[.agg #[.int .i64 wo,.bool tr,.slice pA aa.length cA],.slice (some ⟨gz,0,none⟩) (es.length + 1) cap])) (wh.setCells E 0 [.int .i64 wo,.bool tr,.slice pA aa.length cA])) := by
    have hE8 : E < w8.heap.size := HSB8.out.2
    have hf2 : Fs [E] wg (wh.setCells E 0 [.int .i64 wo,.bool tr,.slice pA aa.length cA]) := (Fs.of_below hbh).trans k2
    have hnE : ∀ b,b ∈ PB :: bl → b ≠ E := fun b hb => by have h1 := (HNew.out b hb).1; have h2 := HLt.out.2.2.2.1; omega
    have hfst : ps'.map Prod.fst = bl := by
     have h1 := HFst.out
     exact h1
    have hRA := HRm'.out.ar.fs hf2 (fun hne => by simp; have h2 := HLt.out.2.2.2.1; have h3 := HAOn.out hne; omega) (fun p hp => by simpa using hnE p.1 (by rw [← hfst]; exact List.mem_cons_of_mem _ (List.mem_map.2 ⟨p,hp,rfl⟩)))
    have hrow : RowL _ w8.heap.size (.slice (some ⟨gz,0,none⟩) (es.length + 1) cap) (es ++ [(⟨k,op,vals T ⟨op,d,a,b,c,imm⟩ P⟩,.slice pq nq cq)]) := RowX.fs nestL_nest HRowG.out hf2 (by simp; exact hE8)
    have hrun : Runs f.code T k P (ars ps) [⟨k,op,vals T ⟨op,d,a,b,c,imm⟩ P⟩] ⟨wo,tr,ars ps⟩ := by
     rcases HO.out with e | e
     ·have e1 : wo = gI P a := by rw [← hwo,if_neg (by omega)]
      have e2 : tr = false := by rw [← htr]; exact decide_eq_false (by omega)
      rw [e1,e2]
      exact .ret k P (ars ps) ⟨op,d,a,b,c,imm⟩ HIk.out e
     ·have e1 : wo = 0 := by rw [← hwo,if_pos e]
      have e2 : tr = true := by rw [← htr]; exact decide_eq_true e
      rw [e1,e2]
      exact .trap k P (ars ps) ⟨op,d,a,b,c,imm⟩ HIk.out e
    have h1 := HI.out.runs _ _ hrun
    refine ⟨_,⟨wo,tr,ars ps⟩,_,_,h1,rfl,?_,?_,?_⟩
    ·have h2 := hrow.is (by rw [List.length_append,List.length_singleton]; omega)
     rw [List.map_append] at h2
     exact h2
    ·have h2 := HRR.out _ HI.out.ga
     have h3 := hRA.arrs (by have h5 := congrArg List.length HAr'.out; unfold ars at h5; rw [List.length_map,List.length_map] at h5; rw [h5,Hpl.out]; exact HAA.out) (by rw [HAr'.out]; exact h2.2)
     rw [HAr'.out] at h3
     exact h3
    ·exact (HbWg.out.trans (hbh.mono HbWg.out.size)).trans (k2.below ((HbWg.out.trans (hbh.mono HbWg.out.size)).size) (fun b hb => by simp at hb; have := HEw.out; omega))
   have e0 := HkEh.out.cell 0 rfl
   have e1 := HkEh.out.cell 1 rfl
   have e2 := HkEh.out.cell 2 rfl
   have r0 := HkEh.out.fr 0
   have r1 := HkEh.out.fr 1
   have r2 := HkEh.out.fr 2
   clear hbh k1 k2 hwo htr x0 x1 x2 x3 x4 x5 HEn
   go_wp2_with fail
   refine bodyPost_ret (ret_end rfl _ _ E (.int .i64 wo) (.bool tr) (.slice pA aa.length cA) (.slice (some ⟨gz,0,none⟩) (es.length + 1) cap) rfl rfl HK1.out) rfl ?_
   exact HGoal.out
  ·have HO : Hid (op ≠ 20 ∧ op ≠ 21) := ⟨fun e => hend (.inl e),fun e => hend (.inr e)⟩
   have HRt : Hid (∀ r w',RDo MB PB AO (.slice pA aa.length cA) P ps ⟨op,d,a,b,c,imm⟩ k wf r w' → r = .returned (.int .i64 ((nx ⟨op,d,a,b,c,imm⟩ k P : Nat) : Int)) ∧ ∃ ps',RM w' MB PB AO (.slice pA aa.length cA) (pl ⟨op,d,a,b,c,imm⟩ P (ars ps)) ps' ∧ ars ps' = arr ⟨op,d,a,b,c,imm⟩ P (ars ps) ∧ ps'.map Prod.fst = ps.map Prod.fst ∧ Fs (PB :: ps.map Prod.fst) wf w') := fun r w' h => by
    obtain ⟨e1,h2⟩ := h
    rw [if_neg hend] at e1
    exact ⟨e1,h2⟩
   clear hend
   go_wp2_with fail
   refine HDo.out.mono ?_
   rintro r wg hrd
   obtain ⟨rfl,ps',hrm',har',hfst',hf'⟩ := HRt.out r wg hrd
   have hnx := nx_lt (P:=P) HR.out HIk.out HO.out.1 HO.out.2
   obtain ⟨k',hk'⟩ : ∃ y,nx ⟨op,d,a,b,c,imm⟩ k P = y := ⟨_,rfl⟩
   rw [hk'] at hnx
   have hbl : ps.map Prod.fst = bl := HI.out.hbl
   rw [hbl] at hf'
   have HInv : Hid (RunR f T (firstP f.sec.length ws) aa w8 MB PB AO (.slice pA aa.length cA) bl k' (.slice (some ⟨gz,0,none⟩) (es.length + 1) cap) wg (pl ⟨op,d,a,b,c,imm⟩ P (ars ps)) ps' (es ++ [(⟨k,op,vals T ⟨op,d,a,b,c,imm⟩ P⟩,.slice pq nq cq)])) := by
    refine ⟨hnx.2,hrm',pl_good HFine.out HI.out.gp HI.out.ga,by rw [har']; exact arr_good HFine.out HI.out.gp HI.out.ga,by rw [hfst']; exact hbl,RowX.fs nestL_nest HRowF.out hf' (fun b hb => (HNew.out b hb).2),by have h1 := HI.out.len; rw [List.length_append,List.length_singleton]; omega,fun ls' e hr => ?_,HFsF.out.trans hf'⟩
    rw [List.map_append,List.append_assoc]
    refine HI.out.runs _ e ?_
    refine .step k P (ars ps) ⟨op,d,a,b,c,imm⟩ ls' e HIk.out HO.out.1 HO.out.2 ?_
    rw [hk',← har']
    exact hr
   rw [hk']
   have HK' := keep hnx
   have HLt2 : Hid (k < f.code.length) := HI.out.lt
   have hneg : decide ((k' : Int) < 0) = false := decide_eq_false (by omega)
   clear hrd hrm' har' hfst' hf' hnx hk' hbl x0 x1 x2 x3 x4 x5 HDo HRt
   go_wp2_with fail
   go_roundw
   case rel => exact ⟨k',_,_,_,rfl,HInv.out⟩
   case measure => simp [intOf]; have h1 := HK'.out; have h2 := HLt2.out; omega
end Go.Proofs.Ytfbmkcogkiejnaa.Fl
