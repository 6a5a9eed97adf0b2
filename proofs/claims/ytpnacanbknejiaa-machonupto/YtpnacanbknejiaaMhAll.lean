/- Images run: mach's Run, all of it. Written by tools/gen_mhall.py. -/
import Derived.Test.YtpnacanbknejiaaMhLook
import Derived.Test.YtpnacanbknejiaaMhLoad
namespace Go.Proofs.Ytpnacanbknejiaa.Mh
set_option maxHeartbeats 32000000
set_option maxRecDepth 100000
set_option linter.unusedVariables false
set_option linter.unusedSimpArgs false
open Go.ChangeShapes Go.WideShapes Go.ChangeAt Go.RowKit Lg Lr Fl
def ranM (T : Nat → Int) (l : List Int) (pr : Int) (m : Nat) (ws : List Int) (aa : List (List Int)) (mode most : Int) : Rn :=
 if (loadM m l).2 ≠ 0 then noR (loadM m l).2 else
 if decide ((mode = 0 ∨ mode = 1) ∧ (ws.length : Int) = pr ∧ pr < 120 ∧ aa.length = m) = false then noR 5 else
 runM (loadM m l).1 T most.toNat 0 ⟨fromP 120 1 ws,aa,mode⟩
theorem loadM_fit {m : Nat} {l : List Int} (hb : ∀ x ∈ l,0 ≤ x ∧ x < 256) (h : (loadM m l).2 = 0) : (∀ i ∈ (loadM m l).1,FitI 120 m i) ∧ 8 * (loadM m l).1.length ≤ l.length := by
 by_cases h0 : l.length = 0 ∨ l.length % 8 ≠ 0
 ·rw [loadM_form h0] at h; cases h
 ·by_cases hx : ∃ k,k < l.length / 8 ∧ ldE m l k ≠ 0
  ·exfalso
   obtain ⟨k,hk,he⟩ := hx
   have hmin : ∃ k,k < l.length / 8 ∧ ldE m l k ≠ 0 ∧ ∀ j,j < k → ldE m l j = 0 := by
    induction k using Nat.strongRecOn with
    | ind k ih =>
     by_cases hj : ∃ j,j < k ∧ ldE m l j ≠ 0
     ·obtain ⟨j,hj1,hj2⟩ := hj
      exact ih j hj1 (by omega) hj2
     ·exact ⟨k,hk,he,fun j hj1 => Classical.byContradiction fun hj2 => hj ⟨j,hj1,hj2⟩⟩
   obtain ⟨k,hk,he,hno⟩ := hmin
   rw [loadM_bad h0 hk hno he] at h
   exact he h
  ·have hno : ∀ j,j < l.length / 8 → ldE m l j = 0 := fun j hj => Classical.byContradiction fun he => hx ⟨j,hj,he⟩
   rw [loadM_all h0 hno]
   refine ⟨fun i hi => ?_,by rw [List.length_map,List.length_range]; omega⟩
   obtain ⟨k,hk,rfl⟩ := List.mem_map.1 hi
   rw [List.mem_range] at hk
   exact ldI_fit hb (by omega) (hno k hk)
theorem arr_lens (i : Ix) (P : List Int) (A : List (List Int)) : (arr i P A).map List.length = A.map List.length := by
 unfold arr
 split
 ·rw [List.map_set,List.length_set]
  apply List.ext_getElem?
  intro k
  rw [List.getElem?_set,List.length_map]
  split
  ·rename_i e
   subst e
   split
   ·rename_i hl
    rw [List.getElem?_map]
    unfold rowA
    rw [List.getD_eq_getElem?_getD,List.getElem?_eq_getElem hl]; rfl
   ·rename_i hl
    rw [List.getElem?_map,List.getElem?_eq_none (by omega)]; rfl
  ·rfl
 ·rfl
theorem trM_lens {code : List Ix} : ∀ {n at' : Nat} {s : Ms},(trM code n at' s).s.A.map List.length = s.A.map List.length
 | 0,_,_ => rfl
 | n + 1,at',s => by
  cases hi : code[at']? with
  | none => rw [trM_none hi]
  | some i =>
   by_cases ho : i.op = 20 ∨ i.op = 21
   ·rw [trM_end hi ho]
   ·rw [trM_on hi ho]
    dsimp only
    rw [trM_lens]
    exact arr_lens i s.P s.A
def RanP (R : Rn) (w : World) (r : Ending) (w' : World) : Prop :=
 ∃ sA v,r = .returned (.agg #[.int .i64 R.en.word,.bool R.en.trap,sA,.int .i64 R.e,.int .i64 (R.ls.length : Int),.int .i64 R.m,v]) ∧ (∀ W l,Fs l w' W → (∀ b ∈ l,b < w.heap.size ∨ w'.heap.size ≤ b) → ArrsIs W W.heap.size R.en.arr sA ∧ LksIs W W.heap.size R.ls v) ∧ Below w.heap.size w w'
theorem RanP.no {R : Rn} {e : Int} {w w' : World} (h : R = noR e) (hb : Below w.heap.size w w') : RanP R w (.returned (.agg #[.int .i64 0,.bool false,.slice none 0 0,.int .i64 e,.int .i64 0,.int .i64 0,.slice none 0 0])) w' := by
 subst h
 exact ⟨_,_,rfl,fun W l _ _ => ⟨⟨none,0,0,rfl,rfl,Nat.le_refl _,by omega,fun j l hj => by cases hj⟩,⟨none,0,0,rfl,rfl,Nat.le_refl _,by omega,fun j l hj => by cases hj⟩⟩,hb⟩
theorem own_some {g i n c : Nat} (e : (Value.slice (some ⟨g,0,none⟩) n c).ownBlock = some i) : i = g := by
 have e' : g = i := by simpa [Value.ownBlock] using e
 exact e'.symm
theorem seven_there {w : World} {b : Nat} {u v x y z t s : Value} {ty : TypeId} (h : Bk w b [u,v,x,y,z,t,s] ty) : w.there b 0 7 := fun j hj => by
 refine ⟨?_,h.fr _⟩
 rw [Nat.zero_add]
 have : j = 0 ∨ j = 1 ∨ j = 2 ∨ j = 3 ∨ j = 4 ∨ j = 5 ∨ j = 6 := by omega
 rcases this with rfl | rfl | rfl | rfl | rfl | rfl | rfl
 ·rw [h.cell 0 rfl]; rfl
 ·rw [h.cell 1 rfl]; rfl
 ·rw [h.cell 2 rfl]; rfl
 ·rw [h.cell 3 rfl]; rfl
 ·rw [h.cell 4 rfl]; rfl
 ·rw [h.cell 5 rfl]; rfl
 ·rw [h.cell 6 rfl]; rfl
theorem set_seven {w : World} {b : Nat} {u v x y z t s : Value} {ty : TypeId} (h : Bk w b [u,v,x,y,z,t,s] ty) (a0 a1 a2 a3 a4 a5 a6 : Value) : Bk (w.setCells b 0 [a0,a1,a2,a3,a4,a5,a6]) b [a0,a1,a2,a3,a4,a5,a6] ty ∧ Fs [b] w (w.setCells b 0 [a0,a1,a2,a3,a4,a5,a6]) :=
 ⟨(((((((h.set 0 _).set 1 _).set 2 _).set 3 _).set 4 _).set 5 _).set 6 _ : _),(((((((Fs.refl [b] w).set (by simp) 0 _).set (by simp) 1 _).set (by simp) 2 _).set (by simp) 3 _).set (by simp) 4 _).set (by simp) 5 _).set (by simp) 6 _⟩
theorem make_leaks (k : Nat) (hk : k ≤ 1000000) (w : World) : ∃ cur,(Instr.makeSlice 52 (.int .i64 0) (.int .i64 (k : Int))).run Try.prog w = .ok (.slice (some ⟨w.heap.size,0,none⟩) 0 k) (w.alloc (.cells cur 61)) ∧ cur.size = k * 3 := by
 obtain ⟨i,hi,hz0,hz1,hz2⟩ := info_parts infoL
 have h := run_make (P:=Try.prog) w 52 61 i _ (by kernel_rfl) hi hz0 .i64 .i64 0 (k : Int) (Int.le_refl _) (by omega) (by rw [hz2]; omega) (by omega)
 rw [h,hz1,Int.toNat_natCast]
 exact ⟨_,rfl,by simp [madeCells,Value.cells]⟩
theorem fromP_good {n : Nat} {ws : List Int} {aa : List (List Int)} {mode : Int} (hl : 1 + ws.length ≤ n) (hA : AllW ws aa) (hm : mode = 0 ∨ mode = 1) : GoodM n aa.length ⟨fromP n 1 ws,aa,mode⟩ := by
 refine ⟨fromP_len hl,fun x hx => ?_,rfl,hA.2,hm⟩
 change x ∈ fromP n 1 ws at hx
 unfold fromP at hx
 rcases List.mem_append.1 hx with q | q
 ·rw [(List.mem_replicate.1 q).2]; exact isW_zero
 ·rcases List.mem_append.1 q with q | q
  ·exact hA.1 x q
  ·rw [(List.mem_replicate.1 q).2]; exact isW_zero
theorem mran_any (B : Nat) (l : List Int) (sb : Value) (pr : Int) (pa : Option Addr) (m ca : Nat) (T : Nat → Int) (ws : List Int) (aa : List (List Int)) (gv : Value) (mode most : Int) (w : World) (hB : B ≤ w.heap.size) (hby : BysW w B l sb) (hl : l.length ≤ 1048576) (hg : GvIs w B ws aa gv) (hA : AllW ws aa) (hT : T7 T) (hmost : most ≤ 36000) (hsum : sumL aa ≤ 1048576) :
  Calls Try.prog 33 #[.agg #[sb,.int .i64 pr,.slice pa m ca],.agg (Tb.tabA T),gv,.int .i64 mode,.int .i64 most] w fun r w' => RanP (ranM T l pr m ws aa mode most) w r w' := by
 obtain ⟨g1,g2,rfl,hgi,hga⟩ := id hg
 obtain ⟨p4,n4,c4,hs4,hx4⟩ := id hgi
 obtain ⟨p5,n5,c5,hs5,hx5⟩ := id hga
 subst hs4 hs5
 have hn4 : ws.length = n4 := hx4.1
 have hn5 : aa.length = n5 := hx5.1
 obtain ⟨psb,csb,rfl,hcsb,hbb,hby0⟩ := id hby
 obtain ⟨nb,hnb⟩ : ∃ y,l.length = y := ⟨_,rfl⟩
 rw [hnb] at hl ⊢
 obtain ⟨w1,hw1⟩ : ∃ y,w.alloc (.cells #[.slice psb nb csb,.int .i64 pr,.slice pa m ca] 66) = y := ⟨_,rfl⟩
 obtain ⟨w2,hw2⟩ : ∃ y,w1.alloc (.cells (Tb.tabA T) 29) = y := ⟨_,rfl⟩
 obtain ⟨w3,hw3⟩ : ∃ y,w2.alloc (.cells #[.slice p4 n4 c4,.slice p5 n5 c5] 33) = y := ⟨_,rfl⟩
 obtain ⟨w4,hw4⟩ : ∃ y,w3.alloc (.cells #[.int .i64 0,.bool false,.slice none 0 0,.int .i64 0,.int .i64 0,.int .i64 0,.slice none 0 0] 72) = y := ⟨_,rfl⟩
 obtain ⟨X,hX⟩ : ∃ y,w.heap.size = y := ⟨_,rfl⟩
 obtain ⟨TB,hTB⟩ : ∃ y,w1.heap.size = y := ⟨_,rfl⟩
 obtain ⟨G,hG⟩ : ∃ y,w2.heap.size = y := ⟨_,rfl⟩
 obtain ⟨RB,hRB⟩ : ∃ y,w3.heap.size = y := ⟨_,rfl⟩
 have b1 : Below w.heap.size w w1 := by rw [← hw1]; exact (Below.refl _ _).alloc (Nat.le_refl _) _
 have b2 : Below w1.heap.size w1 w2 := by rw [← hw2]; exact (Below.refl _ _).alloc (Nat.le_refl _) _
 have b3 : Below w2.heap.size w2 w3 := by rw [← hw3]; exact (Below.refl _ _).alloc (Nat.le_refl _) _
 have b4 : Below w3.heap.size w3 w4 := by rw [← hw4]; exact (Below.refl _ _).alloc (Nat.le_refl _) _
 have b34 := b3.trans (b4.mono b3.size)
 have b24 := b2.trans (b34.mono b2.size)
 have b14 := b1.trans (b24.mono b1.size)
 have kX1 : Bk w1 X [.slice psb nb csb,.int .i64 pr,.slice pa m ca] 66 := by rw [← hw1,← hX]; exact Bk.new _ _ _
 have kX := kX1.fs (Fs.of_below (l:=[]) b24) (by simp)
 have kT2 : Tb.Blk w2 TB T := by rw [← hw2,← hTB]; exact Tb.blk_alloc w1 T
 have kT : Tb.Blk w4 TB T := kT2.below b34 kT2.lt
 have kG3 : Bk w3 G [.slice p4 n4 c4,.slice p5 n5 c5] 33 := by rw [← hw3,← hG]; exact Bk.new _ _ _
 have kG := kG3.fs (Fs.of_below (l:=[]) b4) (by simp)
 have kR : Bk w4 RB [.int .i64 0,.bool false,.slice none 0 0,.int .i64 0,.int .i64 0,.int .i64 0,.slice none 0 0] 72 := by rw [← hw4,← hRB]; exact Bk.new _ _ _
 have HB4 := keep b14
 have HLt : Hid (X < w4.heap.size ∧ TB < w4.heap.size ∧ G < w4.heap.size ∧ RB < w4.heap.size ∧ w.heap.size ≤ w4.heap.size ∧ w.heap.size ≤ RB ∧ X < RB ∧ TB < RB ∧ G < RB) := ⟨kX.lt,kT.lt,kG.lt,kR.lt,b14.size,by rw [← hRB]; exact (b1.trans ((b2.trans (b3.mono b2.size)).mono b1.size)).size,by rw [← hRB]; have := kX1.lt; have := b2.size; have := b3.size; omega,by rw [← hRB]; have := kT2.lt; have := b3.size; omega,by rw [← hRB]; exact kG3.lt⟩
 -- the boxes stay, while only what is new turns
 have HBx : Hid (∀ W,Below w4.heap.size w4 W → Bk W X [.slice psb nb csb,.int .i64 pr,.slice pa m ca] 66 ∧ Tb.Blk W TB T ∧ Bk W G [.slice p4 n4 c4,.slice p5 n5 c5] 33 ∧ Bk W RB [.int .i64 0,.bool false,.slice none 0 0,.int .i64 0,.int .i64 0,.int .i64 0,.slice none 0 0] 72) := fun W hW => ⟨kX.fs (Fs.of_below (l:=[]) hW) (by simp),kT.below hW kT.lt,kG.fs (Fs.of_below (l:=[]) hW) (by simp),kR.fs (Fs.of_below (l:=[]) hW) (by simp)⟩
 have HBw : Hid (∀ W,Below w4.heap.size w4 W → Below w.heap.size w W) := fun W hW' => b14.trans (hW'.mono b14.size)
 have HGv : Hid (∀ W,Below w4.heap.size w4 W → GvIs W B ws aa (.agg #[.slice p4 n4 c4,.slice p5 n5 c5])) := fun W hW => hg.below ((b14.trans (hW.mono b14.size)).mono hB)
 have HBB : Hid (∀ W,Below w4.heap.size w4 W → B ≤ W.heap.size) := fun W hW => Nat.le_trans hB (Nat.le_trans b14.size hW.size)
 have HLd := keep (load_any B l (.slice psb nb csb) pr pa m ca w4 (Nat.le_trans hB b14.size) (by rw [← hnb]; exact hby.below (b14.mono hB)) (by rw [hnb]; exact hl))
 have HBy := keep hbb
 have HNb : Hid (l.length ≤ 1048576) := by show _ ≤ _; rw [hnb]; exact hl
 have HW1 := keep hw1
 have HW2 := keep hw2
 have HW3 := keep hw3
 have HW4 := keep hw4
 have HX := keep hX
 have HTB := keep hTB
 have HG := keep hG
 have HRB := keep hRB
 have HN4 := keep hn4
 have HN5 := keep hn5
 have HAW := keep hA
 have HT7 := keep hT
 have HMo := keep hmost
 have HSum := keep hsum
 have HAl : Hid (aa.length ≤ 5864062014805) := by obtain ⟨q1,q2,q3,_⟩ := hx5; show _ ≤ _; omega
 -- an early end
 have HEnd : Hid (∀ W e,Below w4.heap.size w4 W → ranM T l pr m ws aa mode most = noR e → ∃ k1 : Bk (W.setCells RB 0 [.int .i64 0,.bool false,.slice none 0 0,.int .i64 e,.int .i64 0,.int .i64 0,.slice none 0 0]) RB [.int .i64 0,.bool false,.slice none 0 0,.int .i64 e,.int .i64 0,.int .i64 0,.slice none 0 0] 72,RanP (ranM T l pr m ws aa mode most) w (.returned (.agg #[.int .i64 0,.bool false,.slice none 0 0,.int .i64 e,.int .i64 0,.int .i64 0,.slice none 0 0])) (W.setCells RB 0 [.int .i64 0,.bool false,.slice none 0 0,.int .i64 e,.int .i64 0,.int .i64 0,.slice none 0 0])) := fun W e hW hr => by
  obtain ⟨k1,k2⟩ := set_seven (HBx.out W hW).2.2.2 (.int .i64 0) (.bool false) (.slice none 0 0) (.int .i64 e) (.int .i64 0) (.int .i64 0) (.slice none 0 0)
  refine ⟨k1,RanP.no hr ?_⟩
  have h1 := HBw.out W hW
  exact h1.trans (k2.below h1.size (fun k hk => by simp at hk; have := HLt.out.2.2.2.2.2.1; omega))
 clear hw1 hw2 hw3 hw4 hX hTB hG hRB b1 b2 b3 b4 b34 b24 b14 kX1 kX kT2 kT kG3 kG kR hg hgi hga hx4 hx5 hn4 hn5 hby hby0 hcsb hbb hl hnb hA hT hmost hB hsum
 obtain ⟨q1,q2,q3,q4⟩ := HBx.out w4 (Below.refl _ _)
 have x0 := q1.cell 0 rfl
 have x1 := q1.cell 1 rfl
 have x2 := q1.cell 2 rfl
 clear q1 q2 q3 q4
 go_enter Try.func33,Try.ntmps33
 go_wp2_with (first | rw [HW1.out] | rw [HW2.out] | rw [HW3.out] | rw [HW4.out] | rw [HX.out] | rw [HTB.out] | rw [HG.out] | rw [HRB.out] | fail)
 refine HLd.out.mono ?_
 rintro r w5 ⟨v,lo,rfl,hlo1,hlo2,hrow,hb5⟩
 obtain ⟨pc,nc,cc,rfl⟩ := RowX.slice hrow
 obtain ⟨code,hcode⟩ : ∃ y,(loadM (m : Int) l).1 = y := ⟨_,rfl⟩
 obtain ⟨e0,he0⟩ : ∃ y,(loadM (m : Int) l).2 = y := ⟨_,rfl⟩
 rw [hcode] at hrow
 rw [he0]
 have HB5 := keep hb5
 have HRow := keep hrow
 have HCode := keep hcode
 have HE0 := keep he0
 clear HLd hb5 hrow hcode he0 x0 x1 x2 hlo1 hlo2
 by_cases h0 : e0 = 0
 ·subst h0
  obtain ⟨hfit,hlen⟩ := loadM_fit HBy.out HE0.out
  rw [HCode.out] at hfit hlen
  have HFit := keep hfit
  have HLen : Hid (code.length ≤ 1000000) := by have := HNb.out; show _ ≤ _; omega
  have HCI := keep (rowX_code HRow.out (by have := HLen.out; omega))
  clear hfit hlen
  obtain ⟨q1,q2,q3,q4⟩ := HBx.out w5 HB5.out
  have x0 := q1.cell 0 rfl
  have x1 := q1.cell 1 rfl
  have x2 := q1.cell 2 rfl
  have g0 := q3.cell 0 rfl
  have g1 := q3.cell 1 rfl
  clear q1 q2 q3 q4
  have HFi := keep (mfits_any (.slice psb nb csb) (.slice p4 n4 c4) (.slice p5 n5 c5) pr mode pa p5 p4 m ca n5 c5 n4 c4 w5 rfl rfl)
  obtain ⟨qf,hqf⟩ : ∃ y,decide ((mode = 0 ∨ mode = 1) ∧ (n4 : Int) = pr ∧ pr < 120 ∧ n5 = m) = y := ⟨_,rfl⟩
  rw [hqf] at HFi
  have HQf := keep hqf
  clear hqf
  go_wp2_with fail
  refine HFi.out.mono ?_
  rintro r w6 ⟨rfl,hb6⟩
  have HB6 := keep (HB5.out.trans (hb6.mono HB5.out.size))
  have Hb6 := keep hb6
  clear hb6 HFi x0 x1 x2 g0 g1
  cases qf with
  | false =>
   have HR : Hid (ranM T l pr m ws aa mode most = noR 5) := by
    show _ = _
    unfold ranM
    rw [if_neg (by rw [HE0.out]; simp),if_pos (by rw [HN4.out,HN5.out]; exact HQf.out)]
   obtain ⟨k1,k2⟩ := HEnd.out w6 5 HB6.out HR.out
   have HK1 := keep k1
   have HK2 := keep k2
   clear k1 k2
   have kR := (HBx.out w6 HB6.out).2.2.2
   have zc0 := kR.cell 0 rfl
   have zc1 := kR.cell 1 rfl
   have zc2 := kR.cell 2 rfl
   have zc3 := kR.cell 3 rfl
   have zc4 := kR.cell 4 rfl
   have zc5 := kR.cell 5 rfl
   have zc6 := kR.cell 6 rfl
   have zr0 := kR.fr 0
   have zr1 := kR.fr 1
   have zr2 := kR.fr 2
   have zr3 := kR.fr 3
   have zr4 := kR.fr 4
   have zr5 := kR.fr 5
   have zr6 := kR.fr 6
   clear kR
   go_wp2_with fail
   refine bodyPost_ret (results_cell_row rfl _ _ RB _ #[.int .i64 0,.bool false,.slice none 0 0,.int .i64 5,.int .i64 0,.int .i64 0,.slice none 0 0] (0,0) _ rfl HK1.out Try.underlying72 rfl (by kernel_rfl)) rfl ?_
   exact HK2.out
  | true =>
   have hq := of_decide_eq_true HQf.out
   have HMd : Hid (mode = 0 ∨ mode = 1) := hq.1
   have HWs : Hid (ws.length ≤ 119) := by have := HN4.out; show _ ≤ _; omega
   have HMn : Hid (m = n5 ∧ aa.length = m) := ⟨hq.2.2.2.symm,by have := HN5.out; omega⟩
   have HRn : Hid (ranM T l pr m ws aa mode most = runM code T most.toNat 0 ⟨fromP 120 1 ws,aa,mode⟩) := by
    show _ = _
    unfold ranM
    rw [if_neg (by rw [HE0.out]; simp),if_neg (by rw [HN4.out,HN5.out,HQf.out]; simp),HCode.out]
   obtain ⟨st0,hst0⟩ : ∃ y : Ms,⟨fromP 120 1 ws,aa,mode⟩ = y := ⟨_,rfl⟩
   have HSt := keep hst0
   have HGd : Hid (GoodM 120 aa.length st0) := by show GoodM _ _ _; rw [← hst0]; exact fromP_good (by have := HWs.out; omega) HAW.out HMd.out
   have HFt : Hid (∀ i ∈ code,FitI 120 aa.length i) := by show ∀ i ∈ code,_; rw [HMn.out.2]; exact HFit.out
   clear hq hst0
   obtain ⟨w7a,hw7a⟩ : ∃ y,w6.alloc (.cells #[.int .i64 0] 3) = y := ⟨_,rfl⟩
   obtain ⟨CB,hCB⟩ : ∃ y,w6.heap.size = y := ⟨_,rfl⟩
   have b7a : Below w6.heap.size w6 w7a := by rw [← hw7a]; exact (Below.refl _ _).alloc (Nat.le_refl _) _
   have kCa : Bk w7a CB [.int .i64 0] 3 := by rw [← hw7a,← hCB]; exact Bk.new _ _ _
   have zc := kCa.cell 0 rfl
   have zf := kCa.fr 0
   obtain ⟨w7,hw7⟩ : ∃ y,w7a.setCell ⟨CB,0,none⟩ (.int .i64 0) = y := ⟨_,rfl⟩
   have b7 : Below w6.heap.size w6 w7 := by rw [← hw7]; exact b7a.setCell (p:=⟨CB,0,none⟩) (by show _ ≤ CB; omega) _
   have kC : Bk w7 CB [.int .i64 0] 3 := by rw [← hw7]; exact kCa.set 0 _
   have HkC := keep kC
   have HB7 := keep (HB6.out.trans (b7.mono HB6.out.size))
   have HC7 : Hid (CodeIs w7 CB code (.slice pc nc cc)) := by
    have h1 := (HCI.out.below Hb6.out).below (b7.mono Hb6.out.size)
    exact h1.mono (by have := Hb6.out.size; omega)
   have HCl : Hid (CB < w7.heap.size ∧ w4.heap.size ≤ CB) := ⟨kC.lt,by rw [← hCB]; exact HB6.out.size⟩
   have HW7a := keep hw7a
   have HW7 := keep hw7
   have HCB := keep hCB
   clear hw7 hw7a hCB b7 b7a kC kCa
   obtain ⟨q1,q2,q3,q4⟩ := HBx.out w7 HB7.out
   have g0 := q3.cell 0 rfl
   have g1 := q3.cell 1 rfl
   clear q1 q2 q3 q4
   have HBg := keep (mbegin_any B pc nc cc mode ws aa _ w7 (HBB.out w7 HB7.out) (HGv.out w7 HB7.out) HWs.out)
   go_wp2_with (first | rw [HW7a.out,HCB.out] | rw [HW7.out] | fail)
   refine HBg.out.mono ?_
   rintro r w8 ⟨MB,PB,AO,ps,rfl,hma,hb8,hM,hP,hAo,hps⟩
   rw [HSt.out] at hma
   have hpl : ps.length = aa.length := by have h1 := hma.ar; rw [← HSt.out] at h1; have h2 := congrArg List.length h1; simpa [ars] using h2
   have hno : CB ∉ MB :: PB :: ps.map Prod.fst := by
    have := HCl.out.1
    intro h
    simp only [List.mem_cons,List.mem_map] at h
    rcases h with q | q | ⟨p,hp,q⟩
    ·omega
    ·omega
    ·have := hps p hp; omega
   have HRu := keep (mrun_any code most 0 st0 MB PB AO (.slice pc nc cc) ps _ _ (J1 w7 CB) w8 (look1_is code MB PB AO CB (.slice pc nc cc) (ps.map Prod.fst) w7 CB HC7.out (Nat.le_refl _) HCl.out.1 hM hP (fun b hb => by obtain ⟨p,hp,rfl⟩ := List.mem_map.1 hb; exact hps p hp) (by have := HCl.out.1; omega)) ⟨HkC.out.fs (Fs.of_below (l:=[]) hb8) (by simp),Fs.of_below hb8,by have := HCl.out.1; have := hb8.size; omega⟩ hma (by rw [hpl]; exact HGd.out) (by rw [hpl]; exact HFt.out) HMo.out HLen.out (by omega))
   clear HBg g0 g1 hma hno
   go_wp2_with fail
   refine HRu.out.mono ?_
   rintro r w9 ⟨rfl,⟨B9,hj9⟩,hs9,ps9,hma9,hps9⟩
   obtain ⟨R1,hR1⟩ : ∃ y,trM code most.toNat 0 st0 = y := ⟨_,rfl⟩
   rw [hR1] at hj9 hma9
   rw [hR1]
   have HF9 := keep hj9.fs
   have HC9 := keep hj9.bk
   have HB9 : Hid (Below w4.heap.size w4 w9) := HB7.out.trans (HF9.out.below HB7.out.size (by have := HCl.out.2; simpa using this))
   have HR1 := keep hR1
   have HLn : Hid (R1.l.length ≤ 36000) := by
    have h1 := trM_len (code:=code) (n:=most.toNat) (at' := 0) (s:=st0)
    have h2 := HMo.out
    rw [hR1] at h1
    show _ ≤ _
    omega
   have HX9 : Hid (CodeIs w9 CB code (.slice pc nc cc)) := CodeIs.fs HC7.out HF9.out (by have := HCl.out.1; omega) (by simp)
   obtain ⟨e1,he1⟩ : ∃ y,R1.e = y := ⟨_,rfl⟩
   rw [he1]
   have HE1 := keep he1
   clear HRu hj9 hma9 hps9 hs9 hR1 he1
   by_cases h1 : e1 = 0
   ·subst h1
    obtain ⟨i9,hi9,ho9,hr9⟩ := (trM_run (code:=code) (T:=T) (n:=most.toNat) (at' := 0) (s:=st0)).2 (by rw [HR1.out]; exact HE1.out)
    rw [HR1.out] at hi9 hr9
    have HI9 := keep hi9
    have HO9 := keep ho9
    have HR9 : Hid (ranM T l pr m ws aa mode most = ⟨0,R1.l.map (fun x => lkM T x.1 x.2.1 x.2.2),endM i9 R1.s,R1.s.m⟩) := by show _ = _; rw [HRn.out,HSt.out]; exact hr9
    have HFi9 := keep (HFt.out i9 (List.mem_of_getElem? hi9))
    have HAt9 : Hid (R1.at' ≤ 1000000) := by have h1 := (List.getElem?_eq_some_iff.1 hi9).1; have h2 := HLen.out; show _ ≤ _; omega
    clear hi9 ho9 hr9
    obtain ⟨q1,q2,q3,q4⟩ := HBx.out w9 HB9.out
    have g0 := q3.cell 0 rfl
    have g1 := q3.cell 1 rfl
    clear q1 q2 q3 q4
    have HBg := keep (mbegin_any B pc nc cc mode ws aa _ w9 (HBB.out w9 HB9.out) (HGv.out w9 HB9.out) HWs.out)
    go_wp2_with fail
    refine HBg.out.mono ?_
    rintro r w10 ⟨MB2,PB2,AO2,ps2,rfl,hma,hb10,hM2,hP2,hA2,hps2⟩
    rw [HSt.out] at hma
    have hpl2 : ps2.length = aa.length := by have h1 := hma.ar; rw [← HSt.out] at h1; have h2 := congrArg List.length h1; simpa [ars] using h2
    obtain ⟨n9,hn9⟩ : ∃ y,R1.l.length = y := ⟨_,rfl⟩
    rw [hn9] at HC9 HLn
    have HN9 := keep hn9
    obtain ⟨w11,hw11⟩ : ∃ y,w10.alloc (.cells #[.pointer (some ⟨MB2,0,none⟩)] 105) = y := ⟨_,rfl⟩
    obtain ⟨MX,hMX⟩ : ∃ y,w10.heap.size = y := ⟨_,rfl⟩
    have b11 : Below w10.heap.size w10 w11 := by rw [← hw11]; exact (Below.refl _ _).alloc (Nat.le_refl _) _
    have kMX : Bk w11 MX [.pointer (some ⟨MB2,0,none⟩)] 105 := by rw [← hw11,← hMX]; exact Bk.new _ _ _
    obtain ⟨cur,hmk,hcur⟩ := make_leaks n9 (by have := HLn.out; omega) w11
    obtain ⟨w12,hw12⟩ : ∃ y,w11.alloc (.cells cur 61) = y := ⟨_,rfl⟩
    obtain ⟨LO,hLO⟩ : ∃ y,w11.heap.size = y := ⟨_,rfl⟩
    have b12 : Below w11.heap.size w11 w12 := by rw [← hw12]; exact (Below.refl _ _).alloc (Nat.le_refl _) _
    have hrow12 : RowJ w12.heap.size w12 LO (.slice (some ⟨LO,0,none⟩) 0 n9) [] := ⟨by rw [← hw12,← hLO]; exact World.ownsRow_made w11 cur n9 (Nat.le_refl _) (by have := HLn.out; unfold maxLen; omega) hcur,fun p hp => by cases hp⟩
    obtain ⟨w13,hw13⟩ : ∃ y,w12.alloc (.cells #[.slice (some ⟨LO,0,none⟩) 0 n9] 52) = y := ⟨_,rfl⟩
    obtain ⟨LX,hLX⟩ : ∃ y,w12.heap.size = y := ⟨_,rfl⟩
    have b13 : Below w12.heap.size w12 w13 := by rw [← hw13]; exact (Below.refl _ _).alloc (Nat.le_refl _) _
    have kLX : Bk w13 LX [.slice (some ⟨LO,0,none⟩) 0 n9] 52 := by rw [← hw13,← hLX]; exact Bk.new _ _ _
    have b1213 := b12.trans (b13.mono b12.size)
    have b1113 := b11.trans (b1213.mono b11.size)
    have b913 := hb10.trans (b1113.mono hb10.size)
    have HB13 := keep (HB9.out.trans (b913.mono HB9.out.size))
    have hLOl : LO < w12.heap.size := by rw [← hLO,← hw12]; simp
    have hMXl : MX < w11.heap.size := kMX.lt
    have hLXl : LX < w13.heap.size := kLX.lt
    have hs10 := hb10.size
    have hsMB := hma.m.lt
    have hsPB := hma.mc.pl.lt
    have hsAO := hma.mc.row.lt
    have hsps : ∀ p ∈ ps2,p.1 < w10.heap.size := fun p hp => (hma.mc.at' p hp).lt
    have hCB9 := HC9.out.lt
    have hHLt := HLt.out
    have hCB4 := HCl.out.2
    have hs9 := HB9.out.size
    have hs13 := b13.size
    have hs12 := b12.size
    have hs11 := b11.size
    have hbl : ∀ b ∈ ps2.map Prod.fst,w9.heap.size ≤ b ∧ b < w10.heap.size := fun b hb => by
     obtain ⟨p,hp,rfl⟩ := List.mem_map.1 hb
     exact ⟨hps2 p hp,hsps p hp⟩
    have hE2 : E2 code (.slice pc nc cc) T w13 LO LX MX TB MB2 PB2 AO2 CB (ps2.map Prod.fst) := by
     refine ⟨kMX.fs (Fs.of_below (l:=[]) b1213) (by simp),(HBx.out w13 HB13.out).2.1,HX9.out.below (b913.mono (by omega)),HT7.out,⟨by omega,by omega,by omega,by omega,fun b hb => by have := hbl b hb; omega⟩,⟨by omega,by omega,by omega,by omega,fun hb => by have := hbl _ hb; omega⟩,⟨by omega,by omega,by omega,by omega,fun hb => by have := hbl _ hb; omega⟩,⟨by omega,by omega,by omega,by omega,fun hb => by have := hbl _ hb; omega⟩,⟨by omega,by omega,by omega,fun hb => by have := hbl _ hb; omega⟩,⟨by omega,by omega,by omega,by omega,by omega,fun b hb => by have := hbl b hb; omega,by omega⟩⟩
    have hJ2 : J2 T w13 LO LX MB2 PB2 (ps2.map Prod.fst) [] w13.heap.size w13 := ⟨Fs.refl _ _,Nat.le_refl _,_,[],kLX,⟨(hrow12.keep (l:=[]) (fun _ _ => by simp) (Fs.of_below b13) (by simp)).own,fun p hp => by cases hp⟩,fun i e => .inl (own_some e),rfl⟩
    have HRu2 := keep (mrun_any code most 0 st0 MB2 PB2 AO2 (.slice pc nc cc) ps2 _ _ (J2 T w13 LO LX MB2 PB2 (ps2.map Prod.fst)) w13 (look2_is code (.slice pc nc cc) T w13 LO LX MX TB MB2 PB2 AO2 CB (ps2.map Prod.fst) hE2) hJ2 (hma.below b1113) (by rw [hpl2]; exact HGd.out) (by rw [hpl2]; exact HFt.out) HMo.out HLen.out (by omega))
    have HE2 := keep hE2
    have HW11 := keep hw11
    have HMX := keep hMX
    have HW12 := keep hw12
    have HLO := keep hLO
    have HW13 := keep hw13
    have HLX := keep hLX
    have HCn : Hid (CB ∉ LO :: LX :: MB2 :: PB2 :: ps2.map Prod.fst) := by
     show ¬ _
     intro h
     simp only [List.mem_cons] at h
     rcases h with q | q | q | q | q
     ·omega
     ·omega
     ·omega
     ·omega
     ·have := hbl _ q; omega
    have HC13 := keep (HC9.out.fs (Fs.of_below (l:=[]) b913) (by simp))
    have HNew : Hid (∀ b ∈ LO :: LX :: MB2 :: PB2 :: ps2.map Prod.fst,w4.heap.size ≤ b) := fun b h => by
     simp only [List.mem_cons] at h
     rcases h with q | q | q | q | q
     ·omega
     ·omega
     ·omega
     ·omega
     ·have := hbl _ q; omega
    have HPl2 := keep hpl2
    have HRange : Hid (w4.heap.size ≤ LO ∧ w4.heap.size ≤ AO2 ∧ w4.heap.size ≤ MX) := ⟨by omega,by omega,by omega⟩
    have c11 := (HC9.out.fs (Fs.of_below (l:=[]) (hb10.trans (b11.mono hb10.size))) (by simp)).cell 0 rfl
    have hmx13 := (kMX.fs (Fs.of_below (l:=[]) b1213) (by simp)).cell 0 rfl
    have hn90 : (0 : Int) ≤ (n9 : Int) := by omega
    clear hLXl HBg g0 g1 hma hb10 hM2 hP2 hA2 hps2 hpl2 hn9 hw11 hMX b11 kMX hcur hw12 hLO b12 hrow12 hw13 hLX b13 kLX b1213 b1113 b913 hLOl hMXl hs10 hsMB hsPB hsAO hsps hCB9 hHLt hCB4 hs9 hs13 hs12 hs11 hbl hE2 hJ2
    go_wp2_with (first | rw [HW11.out,HMX.out] | rw [hmk] | rw [HW12.out] | rw [HLO.out] | rw [HW13.out,HLX.out] | fail)
    refine HRu2.out.mono ?_
    rintro r w14 ⟨rfl,⟨B14,hj14⟩,hs14,ps14,hma14,hps14⟩
    rw [HR1.out] at hj14 hma14
    obtain ⟨v,es,hbk,hrowj,hown,hmp⟩ := hj14.row
    obtain ⟨pv,nv,cv',rfl⟩ := RowX.slice hrowj
    have HF14 := keep hj14.fs
    have HB14 : Hid (Below w4.heap.size w4 w14) := HB13.out.trans (HF14.out.below HB13.out.size HNew.out)
    have HRj := keep hrowj.rowL
    have HMp := keep hmp
    have HMa := keep hma14
    have HLk := keep hbk
    have HMXk : Hid (Bk w14 MX [.pointer (some ⟨MB2,0,none⟩)] 105) := HE2.out.mx.fs HF14.out (by
     have h := HE2.out.nm
     simp only [List.mem_cons,not_or]
     exact ⟨h.1,h.2.1,h.2.2.1,h.2.2.2.1,h.2.2.2.2⟩)
    have HCk := keep (HC13.out.fs HF14.out HCn.out)
    have HCd : Hid (CodeIs w14 w14.heap.size code (.slice pc nc cc)) := by
     have h1 := (look2_is code (.slice pc nc cc) T w13 LO LX MX TB MB2 PB2 AO2 CB (ps2.map Prod.fst) HE2.out).lies _ _ _ hj14
     exact h1
    have hpl14 : ps14.length = aa.length := by
     have h1 := congrArg List.length hps14
     rw [List.length_map,List.length_map] at h1
     rw [h1]; exact HPl2.out
    obtain ⟨m14,hm14⟩ : ∃ y,ps14.length = y := ⟨_,rfl⟩
    have HM14 := keep hm14
    have HMm : Hid (m14 = aa.length) := by show _ = _; omega
    have HEd := keep (fun W (hW : Below w14.heap.size w14 W) => mended_any code MB2 PB2 AO2 (.slice pc nc cc) R1.s ps14 R1.at' i9 W (HMa.out.below hW) ((HCd.out.below hW).mono hW.size) HI9.out HO9.out (by rw [hpl14]; exact HFi9.out) HAt9.out HLen.out)
    obtain ⟨smf,hsmf⟩ : ∃ y,R1.s.m = y := ⟨_,rfl⟩
    have HSm := keep hsmf
    obtain ⟨ew,hew⟩ : ∃ y,(endM i9 R1.s).word = y := ⟨_,rfl⟩
    obtain ⟨et,het⟩ : ∃ y,(endM i9 R1.s).trap = y := ⟨_,rfl⟩
    have HEw := keep hew
    have HEt := keep het
    have HS14 : Hid (∀ W',Below w14.heap.size w14 W' → W'.cell? ⟨MX,0,none⟩ = some (.pointer (some ⟨MB2,0,none⟩)) ∧ W'.cell? ⟨CB,0,none⟩ = some (.int .i64 (n9 : Int)) ∧ W'.cell? ⟨MB2,3,none⟩ = some (.int .i64 smf) ∧ W'.cell? ⟨LX,0,none⟩ = some (.slice pv nv cv')) := fun W' hW => by
     have u1 := (HMa.out.below hW).m
     have u2 := HMXk.out.fs (Fs.of_below (l:=[]) hW) (by simp)
     have u3 := HCk.out.fs (Fs.of_below (l:=[]) hW) (by simp)
     have u4 := HLk.out.fs (Fs.of_below (l:=[]) hW) (by simp)
     exact ⟨u2.cell 0 rfl,u3.cell 0 rfl,by rw [← hsmf]; exact u1.cell 3 rfl,u4.cell 0 rfl⟩
    have HSt14 : Hid (∀ W l',Fs l' w14 W → (∀ b ∈ l',b < w4.heap.size ∨ w14.heap.size ≤ b) → ArrsIs W W.heap.size (endM i9 R1.s).arr (.slice (some ⟨AO2,0,none⟩) m14 m14) ∧ LksIs W W.heap.size (R1.l.map (fun x => lkM T x.1 x.2.1 x.2.2)) (.slice pv nv cv')) := fun W l' hW hl' => by
     have hRg := HRange.out
     have hNw := HNew.out
     have hin : ∀ p ∈ ps14,w4.heap.size ≤ p.1 := fun p hp => hNw p.1 (by
      have : p.1 ∈ ps2.map Prod.fst := by rw [← hps14]; exact List.mem_map.2 ⟨p,hp,rfl⟩
      simp [List.mem_cons]
      exact .inr (.inr (.inr (.inr (by simpa using this)))))
     have hout : ∀ b,w4.heap.size ≤ b → b < w14.heap.size → b ∉ l' := fun b h1 h2 h3 => by have := hl' b h3; omega
     refine ⟨?_,?_⟩
     ·have h1 := (HMa.out.fs hW (hout MB2 (hNw MB2 (by simp)) HMa.out.m.lt) (hout PB2 (hNw PB2 (by simp)) HMa.out.mc.pl.lt) (hout AO2 hRg.2.1 HMa.out.mc.row.lt) (fun p hp => hout p.1 (hin p hp) (HMa.out.mc.at' p hp).lt)).mc.arrs (by rw [hpl14]; exact HAl.out) (fun r hr => by
       have h2 : ars ps14 = R1.s.A := HMa.out.ar
       rw [h2] at hr
       have h3 := trM_lens (code:=code) (n:=most.toNat) (at' := 0) (s:=st0)
       rw [HR1.out,← HSt.out] at h3
       have h4 : r.length ∈ R1.s.A.map List.length := List.mem_map.2 ⟨r,hr,rfl⟩
       rw [h3] at h4
       obtain ⟨y,hy,e⟩ := List.mem_map.1 h4
       obtain ⟨j,hj⟩ := List.getElem?_of_mem hy
       have h5 := sumL_take aa j y hj
       have h6 := sumL_le aa (j + 1)
       have h7 := HSum.out
       omega)
      rw [HM14.out,HMa.out.ar] at h1
      exact h1
     ·have h1 : RowL W LO (.slice pv nv cv') es := RowX.stay nestL_nest HRj.out hW.size (fun i h1 h2 => hW.block i h2 (hout i (by omega) h2))
      have h2 := h1.is (by have h3 := congrArg List.length HMp.out; rw [List.length_map,List.length_map,HN9.out] at h3; have := HLn.out; omega)
      rw [HMp.out] at h2
      exact h2
    clear HRu2 hj14 hma14 hps14 hbk hrowj hown hmp hpl14 hm14 hsmf hew het c11 hmx13
    have z0 := HMXk.out.cell 0 rfl
    go_wp2_with fail
    refine wp_region_noPanic ?_
    refine Ord.wpM_begin (fun W' : World => W'.cell? ⟨MX,0,none⟩ = some (.pointer (some ⟨MB2,0,none⟩)) ∧ W'.cell? ⟨CB,0,none⟩ = some (.int .i64 (n9 : Int)) ∧ W'.cell? ⟨MB2,3,none⟩ = some (.int .i64 smf) ∧ W'.cell? ⟨LX,0,none⟩ = some (.slice pv nv cv')) [0,1,2,3,4,5,6,7,8] (by kernel_rfl) ?_
    have HD : Hid (Below w14.heap.size w14 w14.drew) := Below.drew (Below.refl _ _)
    generalize w14.drew = wd at *
    have hS := HS14.out wd HD.out
    refine Ord.tk (i:=0) (v:=.pointer (some ⟨MB2,0,none⟩)) (hy:=Or.inl ⟨by rfl,by rintro W' ⟨q0,q1,q2,q3⟩; go_simp⟩) (hS:=hS) (h:=?_)
    try simp only [Act.put,Ord.t,Ord.z,Ord.s]
    refine Ord.tk (i:=2) (v:=.int .i64 (n9 : Int)) (hy:=Or.inl ⟨by rfl,by rintro W' ⟨q0,q1,q2,q3⟩; go_simp⟩) (hS:=hS) (h:=?_)
    try simp only [Act.put,Ord.t,Ord.z,Ord.s]
    refine Ord.tk (i:=3) (v:=.pointer (some ⟨MB2,0,none⟩)) (hy:=Or.inl ⟨by rfl,by rintro W' ⟨q0,q1,q2,q3⟩; go_simp⟩) (hS:=hS) (h:=?_)
    try simp only [Act.put,Ord.t,Ord.z,Ord.s]
    refine Ord.tk (i:=4) (v:=.pointer (some ⟨MB2,0,none⟩)) (hy:=Or.inl ⟨by rfl,by rintro W' ⟨q0,q1,q2,q3⟩; go_simp⟩) (hS:=hS) (h:=?_)
    try simp only [Act.put,Ord.t,Ord.z,Ord.s]
    refine Ord.tk (i:=5) (v:=.pointer (some ⟨MB2,3,none⟩)) (hy:=Or.inl ⟨by rfl,by rintro W' ⟨q0,q1,q2,q3⟩; go_simp⟩) (hS:=hS) (h:=?_)
    try simp only [Act.put,Ord.t,Ord.z,Ord.s]
    refine Ord.tk (i:=6) (v:=.int .i64 smf) (hy:=Or.inl ⟨by rfl,by rintro W' ⟨q0,q1,q2,q3⟩; go_simp⟩) (hS:=hS) (h:=?_)
    try simp only [Act.put,Ord.t,Ord.z,Ord.s]
    refine Ord.tk (i:=7) (v:=.slice pv nv cv') (hy:=Or.inl ⟨by rfl,by rintro W' ⟨q0,q1,q2,q3⟩; go_simp⟩) (hS:=hS) (h:=?_)
    try simp only [Act.put,Ord.t,Ord.z,Ord.s]
    refine Ord.on (i:=1) (h:=fun K hK => ?_)
    go_simp
    refine (HEd.out wd HD.out).mono ?_
    rintro r we ⟨rfl,hbe⟩
    rw [HEw.out,HEt.out,HM14.out]
    have HBe := keep (HD.out.trans (hbe.mono HD.out.size))
    clear hbe HEd
    go_simp
    refine hK.out _ _ (fun _ => HS14.out we HBe.out) ?_
    clear hK K
    try simp only [Act.put,Ord.t,Ord.z,Ord.s]
    have hS := HS14.out we HBe.out
    refine Ord.on (i:=8) (h:=fun K hK => ?_)
    go_simp
    refine hK.out _ _ (fun _ => hS) ?_
    clear hK K
    try simp only [Act.put,Ord.t,Ord.z,Ord.s]
    have kR := (HBx.out we (HB14.out.trans (HBe.out.mono HB14.out.size))).2.2.2
    have HkR := keep kR
    obtain ⟨k1,k2⟩ := set_seven kR (.int .i64 ew) (.bool et) (.slice (some ⟨AO2,0,none⟩) m14 m14) (.int .i64 0) (.int .i64 (n9 : Int)) (.int .i64 smf) (.slice pv nv cv')
    have HK1 := keep k1
    have HK2 := keep k2
    clear kR k1 k2
    refine Ord.on (i:=9) (h:=fun K hK => ?_)
    refine step_store_mid rfl 72 (.tmp 10) (.tmp 61) rfl RB 0 #[.int .i64 ew,.bool et,.slice (some ⟨AO2,0,none⟩) m14 m14,.int .i64 0,.int .i64 (n9 : Int),.int .i64 smf,.slice pv nv cv'] rfl rfl (seven_there HkR.out) (by kernel_rfl) (by simp [Value.oneCell']) ?_
    refine hK.out _ _ (fun h => absurd h (by decide)) ?_
    clear hK K
    try simp only [Act.put,Ord.t,Ord.z,Ord.s]
    refine Ord.wpM_done (by kernel_rfl) ?_ _
    refine NoPanic.normal ?_
    clear hS HS14
    go_wp2
    refine bodyPost_ret (results_cell_row rfl _ _ RB _ #[.int .i64 ew,.bool et,.slice (some ⟨AO2,0,none⟩) m14 m14,.int .i64 0,.int .i64 (n9 : Int),.int .i64 smf,.slice pv nv cv'] (0,0) _ rfl HK1.out Try.underlying72 rfl (by kernel_rfl)) rfl ?_
    have hbw := HBw.out we (HB14.out.trans (HBe.out.mono HB14.out.size))
    have hrb := HLt.out
    have h14 := HB14.out.size
    have hel := HBe.out.size
    rw [HR9.out]
    refine ⟨.slice (some ⟨AO2,0,none⟩) m14 m14,.slice pv nv cv',by dsimp only; rw [HEw.out,HEt.out,HSm.out,List.length_map,HN9.out],fun W l' hW hl' => ?_,hbw.trans (HK2.out.below hbw.size (fun k hk => by simp at hk; omega))⟩
    have hsz := HK2.out.size
    refine HSt14.out W (RB :: l') ((((Fs.of_below HBe.out).trans HK2.out).mono (by simp)).trans (hW.mono (fun k hk => List.mem_cons_of_mem _ hk))) (fun b hb => ?_)
    rcases List.mem_cons.1 hb with q | q
    ·exact .inl (by omega)
    ·rcases hl' b q with q | q
     ·exact .inl (by omega)
     ·exact .inr (by omega)
   ·have hne : (e1 != 0) = true := by rw [bne_iff_ne]; exact h1
    have HR : Hid (ranM T l pr m ws aa mode most = noR e1) := by
     show _ = _
     rw [HRn.out,HSt.out]
     have h2 := trM_bad (code:=code) (T:=T) (n:=most.toNat) (at' := 0) (s:=st0) (by rw [HR1.out,HE1.out]; exact h1)
     rw [h2,HR1.out,HE1.out]
    obtain ⟨k1,k2⟩ := HEnd.out w9 e1 HB9.out HR.out
    have HK1 := keep k1
    have HK2 := keep k2
    clear k1 k2 h1
    have kR := (HBx.out w9 HB9.out).2.2.2
    have zc0 := kR.cell 0 rfl
    have zc1 := kR.cell 1 rfl
    have zc2 := kR.cell 2 rfl
    have zc3 := kR.cell 3 rfl
    have zc4 := kR.cell 4 rfl
    have zc5 := kR.cell 5 rfl
    have zc6 := kR.cell 6 rfl
    have zr0 := kR.fr 0
    have zr1 := kR.fr 1
    have zr2 := kR.fr 2
    have zr3 := kR.fr 3
    have zr4 := kR.fr 4
    have zr5 := kR.fr 5
    have zr6 := kR.fr 6
    clear kR
    go_wp2_with fail
    refine bodyPost_ret (results_cell_row rfl _ _ RB _ #[.int .i64 0,.bool false,.slice none 0 0,.int .i64 e1,.int .i64 0,.int .i64 0,.slice none 0 0] (0,0) _ rfl HK1.out Try.underlying72 rfl (by kernel_rfl)) rfl ?_
    exact HK2.out
 ·have hne : (e0 != 0) = true := by rw [bne_iff_ne]; exact h0
  have HR : Hid (ranM T l pr m ws aa mode most = noR e0) := by
   show _ = _
   unfold ranM
   rw [if_pos (by rw [HE0.out]; exact h0),HE0.out]
  obtain ⟨k1,k2⟩ := HEnd.out w5 e0 HB5.out HR.out
  have HK1 := keep k1
  have HK2 := keep k2
  clear k1 k2 h0
  have kR := (HBx.out w5 HB5.out).2.2.2
  have zc0 := kR.cell 0 rfl
  have zc1 := kR.cell 1 rfl
  have zc2 := kR.cell 2 rfl
  have zc3 := kR.cell 3 rfl
  have zc4 := kR.cell 4 rfl
  have zc5 := kR.cell 5 rfl
  have zc6 := kR.cell 6 rfl
  have zr0 := kR.fr 0
  have zr1 := kR.fr 1
  have zr2 := kR.fr 2
  have zr3 := kR.fr 3
  have zr4 := kR.fr 4
  have zr5 := kR.fr 5
  have zr6 := kR.fr 6
  clear kR
  go_wp2_with fail
  refine bodyPost_ret (results_cell_row rfl _ _ RB _ #[.int .i64 0,.bool false,.slice none 0 0,.int .i64 e0,.int .i64 0,.int .i64 0,.slice none 0 0] (0,0) _ rfl HK1.out Try.underlying72 rfl (by kernel_rfl)) rfl ?_
  exact HK2.out
end Go.Proofs.Ytpnacanbknejiaa.Mh
