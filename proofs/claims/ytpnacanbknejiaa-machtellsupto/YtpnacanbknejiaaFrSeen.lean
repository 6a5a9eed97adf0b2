/- What is seen of an instruction, as the document tells it: its Seen. Written by tools/gen_frseen.py. -/
import Derived.Test.YtpnacanbknejiaaGr40
import Derived.Test.YtpnacanbknejiaaGr34
namespace Go.Proofs.Ytpnacanbknejiaa.Fl
set_option maxHeartbeats 32000000
set_option maxRecDepth 100000
set_option linter.unusedVariables false
set_option linter.unusedSimpArgs false
open Go.ChangeShapes Go.WideShapes Go.ChangeAt Go.RowKit Lg Lr
def sl (n : Int) (i : Ix) (P : List Int) : List Int := (if bitOn n 0 = true then [gI P i.a] else []) ++ ((if bitOn n 1 = true ∧ i.op ≠ 16 then [gI P (if i.op = 17 then i.d else i.b)] else []) ++ (if bitOn n 2 = true then [gI P i.c] else []))
theorem bit_small {n : Int} (h0 : 0 ≤ n) (j : Nat) (h : n < 2 ^ j) (hj : j < 3) : bitOn n j = false := by
 unfold bitOn
 rw [decide_eq_false_iff_not,Int.ediv_eq_zero_of_lt h0 h]
 omega
theorem sl_vals {k : Nat} {n : Int} {i : Ix} {P : List Int} (hi : i.op = (k : Int)) (h1 : 1 ≤ k) (h2 : k ≤ 17) (n0 : 0 ≤ n) (nm : n ≤ Tb.most k) (hr : ∀ p ∈ rds i,0 ≤ p ∧ p < P.length) : valsW n P 0 (rds i) = sl n i P := by
 rw [valsW_in hr]
 have hk : k ≤ 12 ∨ k = 13 ∨ k = 14 ∨ k = 15 ∨ k = 16 ∨ k = 17 := by omega
 unfold sl
 rcases hk with hk | rfl | rfl | rfl | rfl | rfl
 ·have hm : n ≤ 3 := by
   have : ∀ j : Fin 13,Tb.most j.val ≤ 3 := by decide
   have := this ⟨k,by omega⟩
   simp only at this; omega
  have e : rds i = [i.a,i.b] := by unfold rds; rw [if_pos (by omega)]
  rw [e,bit_small n0 2 (by omega) (by omega),if_neg (show ¬ i.op = 17 by omega)]
  have h6 : i.op ≠ 16 := by omega
  simp only [valsL]
  cases bitOn n 0 <;> cases bitOn n 1 <;> simp [h6]
 ·have e : rds i = [i.a,i.b,i.c] := by unfold rds; rw [if_neg (by omega),if_pos (by omega)]
  rw [e,if_neg (show ¬ i.op = 17 by omega)]
  have h6 : i.op ≠ 16 := by omega
  simp only [valsL]
  cases bitOn n 0 <;> cases bitOn n 1 <;> cases bitOn n 2 <;> simp [h6]
 ·have hn : n = 0 := by have : Tb.most 14 = 0 := rfl; omega
  subst hn
  have e : rds i = [] := by unfold rds; rw [if_neg (by omega),if_neg (by omega),if_neg (by omega),if_neg (by omega)]
  rw [e]
  simp [valsL,bitOn]
 ·have hn : n ≤ 1 := nm
  have e : rds i = [i.a] := by unfold rds; rw [if_neg (by omega),if_neg (by omega),if_neg (by omega),if_pos (by omega)]
  rw [e,bit_small n0 1 (by omega) (by omega),bit_small n0 2 (by omega) (by omega)]
  simp only [valsL]
  cases bitOn n 0 <;> simp
 ·have hn : n ≤ 1 := nm
  have e : rds i = [i.a] := by unfold rds; rw [if_neg (by omega),if_neg (by omega),if_neg (by omega),if_pos (by omega)]
  rw [e,bit_small n0 1 (by omega) (by omega),bit_small n0 2 (by omega) (by omega)]
  simp only [valsL]
  cases bitOn n 0 <;> simp
 ·have hm : n ≤ 3 := nm
  have e : rds i = [i.a,i.d] := by unfold rds; rw [if_neg (by omega),if_neg (by omega),if_pos (by omega)]
  rw [e,bit_small n0 2 (by omega) (by omega),if_pos (show i.op = 17 by omega)]
  have h6 : i.op ≠ 16 := by omega
  simp only [valsL]
  cases bitOn n 0 <;> cases bitOn n 1 <;> simp [h6]
theorem valsW_zero (P : List Int) : ∀ (l : List Int) (k : Nat),valsW 0 P k l = []
 | [],_ => rfl
 | p :: l,k => by rw [valsW,if_neg (by simp [bitOn])]; exact valsW_zero P l (k + 1)
theorem sl_all {k : Nat} {i : Ix} {P : List Int} (hi : i.op = (k : Int)) (h1 : 1 ≤ k) (h2 : k ≤ 17) (hr : ∀ p ∈ rds i,0 ≤ p ∧ p < P.length) : valsW (Tb.allV i.op) P 0 (rds i) = sl (Tb.most k) i P := by
 by_cases h6 : k = 16
 ·subst h6
  have e : rds i = [i.a] := by unfold rds; rw [hi]; rfl
  rw [hi,e,valsW_in (by rw [← e]; exact hr)]
  unfold sl
  simp [valsL,bitOn,Tb.allV,Tb.most]
 ·rw [hi,Tb.allV_most k h1 h2 (by omega)]
  exact sl_vals hi h1 h2 (by have : ∀ j : Fin 18,0 ≤ Tb.most j.val := by decide
                             exact this ⟨k,by omega⟩) (Int.le_refl _) hr
theorem RowI.ints {w : World} {lo : Nat} {v : Value} {es : List Int} (h : RowI w lo v es) (hl : es.length ≤ 17592186044416) : IntsIs w w.heap.size es v := by
 obtain ⟨p,n,cap,h1,h2,h3,h4,h5⟩ := RowI.intsX h hl (fun i => i < w.heap.size) (fun i _ hi => hi)
 exact ⟨p,n,cap,h1,h2,h3,h4,h5⟩
def Nw (w w' : World) : Nat → Prop := fun i => w.heap.size ≤ i ∧ i < w'.heap.size
theorem IntsX.mono {w : World} {X Y : Nat → Prop} {l : List Int} {v : Value} (h : IntsX w X l v) (hb : ∀ i,X i → Y i) : IntsX w Y l v := by
 obtain ⟨q,n,cap,h1,h2,h3,h4,h5⟩ := h
 refine ⟨q,n,cap,h1,h2,h3,h4,fun j x hj => ?_⟩
 obtain ⟨g,o,k1,k2,k3⟩ := h5 j x hj
 exact ⟨g,o,k1,hb g k2,k3⟩
theorem IntsX.ints {w : World} {X : Nat → Prop} {l : List Int} {v : Value} (h : IntsX w X l v) (hb : ∀ i,X i → i < w.heap.size) : IntsIs w w.heap.size l v := by
 obtain ⟨q,n,cap,h1,h2,h3,h4,h5⟩ := h
 refine ⟨q,n,cap,h1,h2,h3,h4,fun j x hj => ?_⟩
 obtain ⟨g,o,k1,k2,k3⟩ := h5 j x hj
 exact ⟨g,o,k1,hb g k2,k3⟩
theorem intsX_nil (w : World) (X : Nat → Prop) : IntsX w X [] (.slice none 0 0) := ⟨none,0,0,rfl,rfl,Nat.le_refl _,by omega,fun j x hj => by cases hj⟩
theorem intsX_new (w : World) (l : List Int) (hl : l.length ≤ 100) : IntsX (w.alloc (.cells (l.map (Value.int .i64)).toArray 3)) (Nw w (w.alloc (.cells (l.map (Value.int .i64)).toArray 3))) l (.slice (some ⟨w.heap.size,0,none⟩) l.length l.length) := by
 have hk := Bk.new w (l.map (Value.int .i64)) 3
 refine ⟨_,_,_,rfl,rfl,Nat.le_refl _,by omega,fun j x hj => ⟨_,0,rfl,⟨Nat.le_refl _,hk.lt⟩,?_⟩⟩
 rw [Nat.zero_add]
 exact hk.cell j (by rw [List.getElem?_map,hj]; rfl)
def RSeenP (T : Nat → Int) (i : Ix) (all : Bool) (P : List Int) (w : World) (r : Ending) (w' : World) : Prop := ∃ v,r = .returned v ∧ IntsX w' (Nw w w') (valsW (bitsG T i.op all) P 0 (rds i)) v ∧ Below w.heap.size w w'
theorem rseen_any (B : Nat) (T : Nat → Int) (i : Ix) (P : List Int) (sv : Value) (all : Bool) (w : World) (hB : B ≤ w.heap.size) (hv : IntsIs w B P sv) (hT : TabR T) (hr : ∀ p ∈ rds i,0 ≤ p ∧ p < P.length) :
  Calls Try.prog 20 #[.agg (Tb.tabA T),.agg (ixA i),sv,.bool all] w fun r w' => RSeenP T i all P w r w' := by
 obtain ⟨pP,nP,cP,rfl,hnP,hcP,hlP,_⟩ := id hv
 have HNP := keep hnP
 obtain ⟨op,d,a,b,c,imm⟩ := i
 obtain ⟨w1,hw1⟩ : ∃ y,w.alloc (.cells (Tb.tabA T) 29) = y := ⟨_,rfl⟩
 obtain ⟨w2,hw2⟩ : ∃ y,w1.alloc (.cells #[.int .i64 op,.int .i64 d,.int .i64 a,.int .i64 b,.int .i64 c,.int .i64 imm] 35) = y := ⟨_,rfl⟩
 obtain ⟨TB,hTB⟩ : ∃ y,w.heap.size = y := ⟨_,rfl⟩
 obtain ⟨X,hX⟩ : ∃ y,w1.heap.size = y := ⟨_,rfl⟩
 have b1 : Below w.heap.size w w1 := by rw [← hw1]; exact (Below.refl _ _).alloc (Nat.le_refl _) _
 have b2 : Below w1.heap.size w1 w2 := by rw [← hw2]; exact (Below.refl _ _).alloc (Nat.le_refl _) _
 have b12 := b1.trans (b2.mono b1.size)
 have kT1 : Tb.Blk w1 TB T := by rw [← hw1,← hTB]; exact Tb.blk_alloc w T
 have kT : Tb.Blk w2 TB T := kT1.below b2 kT1.lt
 have kX : Bk w2 X [.int .i64 op,.int .i64 d,.int .i64 a,.int .i64 b,.int .i64 c,.int .i64 imm] 35 := by rw [← hw2,← hX]; exact Bk.new _ _ _
 have HBx : Hid (∀ W,Below w2.heap.size w2 W → Bk W X [.int .i64 op,.int .i64 d,.int .i64 a,.int .i64 b,.int .i64 c,.int .i64 imm] 35) := fun W hW => kX.fs (Fs.of_below (l:=[]) hW) (by simp)
 have HPs : Hid (∀ W,Below w2.heap.size w2 W → IntsIs W B P (.slice pP nP cP)) := fun W hW => hv.below ((b12.trans (hW.mono b12.size)).mono hB)
 have HBw : Hid (∀ W,Below w2.heap.size w2 W → Below w.heap.size w W) := fun W hW => b12.trans (hW.mono b12.size)
 have HTl : Hid (∀ W,Below w2.heap.size w2 W → ∀ k,k < 18 → W.cell? ⟨TB,k,none⟩ = some (.int .i64 (T k))) := fun W hW k hk => (kT.below hW kT.lt).lies k hk
 have HW1 := keep hw1
 have HW2 := keep hw2
 have HTB := keep hTB
 have HX := keep hX
 have HTR := keep hT
 have x0 := kX.cell 0 rfl
 have x2 := kX.cell 2 rfl
 have HRng : Hid (∀ p : Int,p ∈ rds ⟨op,d,a,b,c,imm⟩ → ∃ kp : Nat,p = (kp : Int) ∧ kp < nP) := fun p hp => by
  obtain ⟨h0,h1⟩ := hr p hp
  exact ⟨p.toNat,by omega,by omega⟩
 have HR := keep hr
 unfold ixA
 dsimp only
 have HPost : Hid (∀ v W,IntsX W (Nw w2 W) (valsW (bitsG T op all) P 0 (rds ⟨op,d,a,b,c,imm⟩)) v → Below w2.heap.size w2 W → RSeenP T ⟨op,d,a,b,c,imm⟩ all P w (.returned v) W) := fun v W h1 h2 => ⟨v,rfl,h1.mono (fun i hi => ⟨Nat.le_trans b12.size hi.1,hi.2⟩),HBw.out W h2⟩
 clear hw1 hw2 hTB hX b1 b2 b12 kT1 kT kX hv hB hnP hT hr
 by_cases h9 : op = 19
 ·subst h9
  obtain ⟨ka,rfl,la⟩ := HRng.out a (by unfold rds; simp)
  obtain ⟨g,o,rfl,_,ca⟩ := int_at (HPs.out w2 (Below.refl _ _)) (k:=ka) (by rw [HNP.out]; exact la)
  have la0 : (0 : Int) ≤ (ka : Int) := by omega
  have lan : (ka : Int) < (nP : Int) := by omega
  have HG : Hid (∀ v W,IntsX W (Nw w2 W) [gI P (ka : Int)] v → Below w2.heap.size w2 W → RSeenP T ⟨19,d,(ka : Int),b,c,imm⟩ all P w (.returned v) W) := fun v W h1 h2 => HPost.out v W (by
   have e : valsW (bitsG T 19 all) P 0 (rds ⟨19,d,(ka : Int),b,c,imm⟩) = [gI P (ka : Int)] := by
    have e1 : rds ⟨19,d,(ka : Int),b,c,imm⟩ = [(ka : Int)] := by unfold rds; simp
    have e2 : bitsG T 19 all = 1 := by unfold bitsG; rw [if_pos rfl]
    rw [e1,e2,valsW,valsW,if_pos ⟨by simp [bitOn],wi_iff.2 ⟨by omega,by have := HNP.out; omega⟩⟩]
   rw [e]; exact h1) h2
  obtain ⟨z,hz⟩ : ∃ z,gI P (ka : Int) = z := ⟨_,rfl⟩
  rw [hz] at ca HG
  have HIn := keep (intsX_new w2 [z] (by simp))
  have HBn : Hid (Below w2.heap.size w2 (w2.alloc (.cells #[.int .i64 z] 3))) := (Below.refl _ _).alloc (Nat.le_refl _) _
  clear HR HRng HPost hz HTR
  go_enter Try.func20,Try.ntmps20
  go_wp2_with (first | rw [HW1.out] | rw [HW2.out] | rw [HTB.out] | rw [HX.out] | fail)
  go_ret
  exact HG.out _ _ HIn.out HBn.out
 ·have e9 : (op == 19) = false := by rw [beq_eq_false_iff_ne]; exact h9
  by_cases h1 : op < 1
  ·have d1 : decide (op < 1) = true := decide_eq_true h1
   have HG : Hid (RSeenP T ⟨op,d,a,b,c,imm⟩ all P w (.returned (.slice none 0 0)) w2) := HPost.out _ _ (by
    have e : bitsG T op all = 0 := by
     unfold bitsG
     rw [if_neg h9,if_pos (.inr (.inl h1))]
     unfold Tb.allV
     rw [if_neg (by omega),if_neg (by omega),if_neg (by omega)]
    rw [e,valsW_zero]; exact intsX_nil _ _) (Below.refl _ _)
   clear HR HRng HPost HTR h9 h1
   go_enter Try.func20,Try.ntmps20
   go_wp2_with (first | rw [HW1.out] | rw [HW2.out] | rw [HTB.out] | rw [HX.out] | fail)
   go_ret
   exact HG.out
  ·have d1 : decide (op < 1) = false := decide_eq_false h1
   by_cases h17 : 17 < op
   ·have d17 : decide (17 < op) = true := decide_eq_true h17
    have HG : Hid (RSeenP T ⟨op,d,a,b,c,imm⟩ all P w (.returned (.slice none 0 0)) w2) := HPost.out _ _ (by
     have e : bitsG T op all = 0 := by
      unfold bitsG
      rw [if_neg h9,if_pos (.inr (.inr h17)),allV_big h17]
     rw [e,valsW_zero]; exact intsX_nil _ _) (Below.refl _ _)
    clear HR HRng HPost HTR h9 h1 h17
    go_enter Try.func20,Try.ntmps20
    go_wp2_with (first | rw [HW1.out] | rw [HW2.out] | rw [HTB.out] | rw [HX.out] | fail)
    go_ret
    exact HG.out
   ·obtain ⟨k,rfl⟩ : ∃ k : Nat,op = (k : Int) := ⟨op.toNat,by omega⟩
    have d17 : decide (17 < (k : Int)) = false := decide_eq_false h17
    have q1 : 1 ≤ k := by omega
    have q2 : k ≤ 17 := by omega
    have hk0 : (0 : Int) ≤ (k : Int) := by omega
    have hk18 : (k : Int) < 18 := by omega
    have HOps := keep (Rt.ops_lies w2)
    have HEq : Hid (∀ n,(if all = true then Tb.most k else T k) = n → 0 ≤ n ∧ n ≤ Tb.most k ∧ valsW (bitsG T (k : Int) all) P 0 (rds ⟨(k : Int),d,a,b,c,imm⟩) = sl n ⟨(k : Int),d,a,b,c,imm⟩ P) := fun n hn => by
     subst hn
     cases all with
     | true =>
      refine ⟨by have : ∀ j : Fin 18,0 ≤ Tb.most j.val := by decide
                 exact this ⟨k,by omega⟩,Int.le_refl _,?_⟩
      have e : bitsG T (k : Int) true = Tb.allV (k : Int) := by unfold bitsG; rw [if_neg h9,if_pos (.inl rfl)]
      rw [e]
      exact sl_all rfl q1 q2 HR.out
     | false =>
      obtain ⟨t1,t2⟩ := HTR.out.2 k q1 q2
      refine ⟨t1,t2,?_⟩
      have e : bitsG T (k : Int) false = T k := by unfold bitsG; rw [if_neg h9,if_neg (by simp; omega)]; rfl
      rw [e]
      exact sl_vals rfl q1 q2 t1 t2 HR.out
    have HQ : Hid (1 ≤ k ∧ k ≤ 17) := ⟨q1,q2⟩
    clear HR HTR h9 h1 h17 q1 q2
    go_enter Try.func20,Try.ntmps20
    go_wp2_with (first | rw [HW1.out] | rw [HW2.out] | rw [HTB.out] | rw [HX.out] | fail)
    refine HOps.out.mono ?_
    rintro r w3 ⟨rfl,-,hm,hb3⟩
    have HB3 := keep hb3
    have mk := hm.cell k (by omega)
    have tk := HTl.out w3 hb3 k (by omega)
    generalize w2.heap.size + 1 = mb at *
    have kX := HBx.out w3 hb3
    clear x0 x2 hm hb3 HOps HTl
    have x0 := kX.cell 0 rfl
    have x1 := kX.cell 1 rfl
    have x2 := kX.cell 2 rfl
    have x3 := kX.cell 3 rfl
    have x4 := kX.cell 4 rfl
    clear kX
    cases all with
    | false =>
     obtain ⟨n,hn⟩ : ∃ n,T k = n := ⟨_,rfl⟩
     obtain ⟨n0,nm,hsl⟩ := HEq.out n hn
     have n7 : n ≤ 7 := Int.le_trans nm (most_7 k HQ.out.2)
     rw [hn] at tk
     clear hn
     have hA : 1 ≤ n → ∃ kp : Nat,a = (kp : Int) ∧ kp < nP := fun hh => HRng.out _ (rds_a (k:=k) rfl HQ.out.1 HQ.out.2 (most_0 k HQ.out.1 HQ.out.2 (by omega)))
     have hB : 2 ≤ n → k ≠ 17 → ∃ kp : Nat,b = (kp : Int) ∧ kp < nP := fun hh h7 => HRng.out _ (rds_b (k:=k) rfl HQ.out.1 (by have := most_1 k HQ.out.1 HQ.out.2 (by omega); omega))
     have hC : 4 ≤ n → ∃ kp : Nat,c = (kp : Int) ∧ kp < nP := fun hh => HRng.out _ (rds_c (by have := most_2 k HQ.out.1 HQ.out.2 (by omega); show (k : Int) = 13; omega))
     have hD : k = 17 → ∃ kp : Nat,d = (kp : Int) ∧ kp < nP := fun hh => HRng.out _ (rds_d (by show (k : Int) = 17; omega))
     by_cases k17 : k = 17
     ·have e17 : ((k : Int) == 17) = true := by simp; omega
      have e16 : ((k : Int) != 16) = true := by rw [bne_iff_ne]; omega
      have e16v : (k : Int) = 17 := by omega
      have hn3 : n ≤ 3 := by rw [k17] at nm; exact nm
      obtain rfl | rfl | rfl | rfl : n = 0 ∨ n = 1 ∨ n = 2 ∨ n = 3 := by omega
      ·have rA := True.intro
       have rB := True.intro
       have rC := True.intro
       have rD := True.intro
       have HE16 := keep e16v
       clear hA hB hC hD nm e16v k17
       have HRow : Hid (RowI w3 w3.heap.size (.slice none 0 0) []) := RowX.nil _ _
       have HG : Hid (∀ v W,IntsX W (Nw w2 W) [] v → Below w2.heap.size w2 W → RSeenP T _ _ P w (.returned v) W) := fun v W h1 h2 => HPost.out v W (by rw [hsl]; unfold sl; simp [bitOn,HE16.out]; exact h1) h2
       clear hsl HPost HEq HRng rA rB rC rD
       go_wp2_with fail
       go_ret
       exact HG.out _ _ (intsX_nil _ _) HB3.out
      ·have rA := hA (by decide)
       have rB := True.intro
       have rC := True.intro
       have rD := True.intro
       have HE16 := keep e16v
       clear hA hB hC hD nm e16v k17
       have HRow : Hid (RowI w3 w3.heap.size (.slice none 0 0) []) := RowX.nil _ _
       obtain ⟨ka,rfl,la⟩ := rA
       have la0 : (0 : Int) ≤ (ka : Int) := by omega
       have lan : (ka : Int) < (nP : Int) := by omega
       obtain ⟨g,o,rfl,hgg,hcc⟩ := int_at (HPs.out w3 HB3.out) (k:=ka) (by rw [HNP.out]; exact la)
       clear hgg hcc
       obtain ⟨za,hza⟩ : ∃ z,gI P (ka : Int) = z := ⟨_,rfl⟩
       have HZa := keep hza
       have HG : Hid (∀ v W,IntsX W (Nw w2 W) [za] v → Below w2.heap.size w2 W → RSeenP T _ _ P w (.returned v) W) := fun v W h1 h2 => HPost.out v W (by rw [hsl]; unfold sl; simp [bitOn,HE16.out,hza]; exact h1) h2
       clear hsl HPost HEq HRng rB rC rD hza
       obtain ⟨_,_,ee,_,ca⟩ := int_at (HPs.out w3 HB3.out) (k:=ka) (by rw [HNP.out]; exact la)
       cases ee
       rw [HZa.out] at ca
       obtain ⟨u0,hu0⟩ : ∃ y,w3.alloc (.cells #[.int .i64 za] 3) = y := ⟨_,rfl⟩
       have HBu0 : Hid (Below w3.heap.size w3 u0) := by show Below _ _ _; rw [← hu0]; exact (Below.refl _ _).alloc (Nat.le_refl _) _
       have HIu0 : Hid (IntsIs u0 u0.heap.size [za] (.slice (some ⟨w3.heap.size,0,none⟩) 1 1)) := by
        have h := ints_new w3 [za] (by simp)
        show IntsIs _ _ _ _
        rw [← hu0]; exact h
       have HRu0 : Hid (RowI u0 w3.heap.size (.slice none 0 0) []) := RowX.fs (l:=[]) nestI_nest HRow.out (Fs.of_below HBu0.out) (by simp)
       have HSu0 : Hid (w3.heap.size ≤ u0.heap.size) := by have h4 := HBu0.out.size; show _ ≤ _; omega
       have HUu0 := keep hu0
       clear hu0
       go_wp2_with (first | rw [HUu0.out] | (at_builtin; refine wpList_append_ints rfl (.tmp 48) (.tmp 54) rfl w3.heap.size u0.heap.size _ _ [] [za] rfl rfl HRu0.out HIu0.out HSu0.out (by simp) ?_) | fail)
       intro p0 n0 c0 v0 hr0 hb0
       have HRow := keep hr0
       have HBW0 : Hid (Below w3.heap.size w3 v0) := HBu0.out.trans hb0
       have HB0v : Hid (Below w2.heap.size w2 v0) := HB3.out.trans (HBW0.out.mono HB3.out.size)
       have HSz1 : Hid (w3.heap.size ≤ v0.heap.size) := HBW0.out.size
       have kX := HBx.out v0 HB0v.out
       clear hr0 hb0 x0 x1 x2 x3 x4 ca
       have x0 := kX.cell 0 rfl
       have x1 := kX.cell 1 rfl
       have x2 := kX.cell 2 rfl
       have x3 := kX.cell 3 rfl
       have x4 := kX.cell 4 rfl
       clear kX
       go_wp2_with fail
       go_ret
       exact HG.out _ _ (by simpa using RowI.intsX HRow.out (by simp) (Nw w2 _) (fun i h1 h2 => ⟨Nat.le_trans HB3.out.size h1,h2⟩)) HB0v.out
      ·have rA := True.intro
       have rB := True.intro
       have rC := True.intro
       have rD := hD k17
       have HE16 := keep e16v
       clear hA hB hC hD nm e16v k17
       have HRow : Hid (RowI w3 w3.heap.size (.slice none 0 0) []) := RowX.nil _ _
       obtain ⟨kd,rfl,ld⟩ := rD
       have ld0 : (0 : Int) ≤ (kd : Int) := by omega
       have ldn : (kd : Int) < (nP : Int) := by omega
       obtain ⟨g,o,rfl,hgg,hcc⟩ := int_at (HPs.out w3 HB3.out) (k:=kd) (by rw [HNP.out]; exact ld)
       clear hgg hcc
       obtain ⟨zd,hzd⟩ : ∃ z,gI P (kd : Int) = z := ⟨_,rfl⟩
       have HZd := keep hzd
       have HG : Hid (∀ v W,IntsX W (Nw w2 W) [zd] v → Below w2.heap.size w2 W → RSeenP T _ _ P w (.returned v) W) := fun v W h1 h2 => HPost.out v W (by rw [hsl]; unfold sl; simp [bitOn,HE16.out,hzd]; exact h1) h2
       clear hsl HPost HEq HRng rA rB rC hzd
       obtain ⟨_,_,ee,_,cd⟩ := int_at (HPs.out w3 HB3.out) (k:=kd) (by rw [HNP.out]; exact ld)
       cases ee
       rw [HZd.out] at cd
       obtain ⟨u0,hu0⟩ : ∃ y,w3.alloc (.cells #[.int .i64 zd] 3) = y := ⟨_,rfl⟩
       have HBu0 : Hid (Below w3.heap.size w3 u0) := by show Below _ _ _; rw [← hu0]; exact (Below.refl _ _).alloc (Nat.le_refl _) _
       have HIu0 : Hid (IntsIs u0 u0.heap.size [zd] (.slice (some ⟨w3.heap.size,0,none⟩) 1 1)) := by
        have h := ints_new w3 [zd] (by simp)
        show IntsIs _ _ _ _
        rw [← hu0]; exact h
       have HRu0 : Hid (RowI u0 w3.heap.size (.slice none 0 0) []) := RowX.fs (l:=[]) nestI_nest HRow.out (Fs.of_below HBu0.out) (by simp)
       have HSu0 : Hid (w3.heap.size ≤ u0.heap.size) := by have h4 := HBu0.out.size; show _ ≤ _; omega
       have HUu0 := keep hu0
       clear hu0
       go_wp2_with (first | rw [HUu0.out] | (at_builtin; refine wpList_append_ints rfl (.tmp 65) (.tmp 71) rfl w3.heap.size u0.heap.size _ _ [] [zd] rfl rfl HRu0.out HIu0.out HSu0.out (by simp) ?_) | fail)
       intro p0 n0 c0 v0 hr0 hb0
       have HRow := keep hr0
       have HBW0 : Hid (Below w3.heap.size w3 v0) := HBu0.out.trans hb0
       have HB0v : Hid (Below w2.heap.size w2 v0) := HB3.out.trans (HBW0.out.mono HB3.out.size)
       have HSz1 : Hid (w3.heap.size ≤ v0.heap.size) := HBW0.out.size
       have kX := HBx.out v0 HB0v.out
       clear hr0 hb0 x0 x1 x2 x3 x4 cd
       have x0 := kX.cell 0 rfl
       have x1 := kX.cell 1 rfl
       have x2 := kX.cell 2 rfl
       have x3 := kX.cell 3 rfl
       have x4 := kX.cell 4 rfl
       clear kX
       go_wp2_with fail
       go_ret
       exact HG.out _ _ (by simpa using RowI.intsX HRow.out (by simp) (Nw w2 _) (fun i h1 h2 => ⟨Nat.le_trans HB3.out.size h1,h2⟩)) HB0v.out
      ·have rA := hA (by decide)
       have rB := True.intro
       have rC := True.intro
       have rD := hD k17
       have HE16 := keep e16v
       clear hA hB hC hD nm e16v k17
       have HRow : Hid (RowI w3 w3.heap.size (.slice none 0 0) []) := RowX.nil _ _
       obtain ⟨ka,rfl,la⟩ := rA
       have la0 : (0 : Int) ≤ (ka : Int) := by omega
       have lan : (ka : Int) < (nP : Int) := by omega
       obtain ⟨kd,rfl,ld⟩ := rD
       have ld0 : (0 : Int) ≤ (kd : Int) := by omega
       have ldn : (kd : Int) < (nP : Int) := by omega
       obtain ⟨g,o,rfl,hgg,hcc⟩ := int_at (HPs.out w3 HB3.out) (k:=ka) (by rw [HNP.out]; exact la)
       clear hgg hcc
       obtain ⟨za,hza⟩ : ∃ z,gI P (ka : Int) = z := ⟨_,rfl⟩
       have HZa := keep hza
       obtain ⟨zd,hzd⟩ : ∃ z,gI P (kd : Int) = z := ⟨_,rfl⟩
       have HZd := keep hzd
       have HG : Hid (∀ v W,IntsX W (Nw w2 W) [za,zd] v → Below w2.heap.size w2 W → RSeenP T _ _ P w (.returned v) W) := fun v W h1 h2 => HPost.out v W (by rw [hsl]; unfold sl; simp [bitOn,HE16.out,hza,hzd]; exact h1) h2
       clear hsl HPost HEq HRng rB rC hza hzd
       obtain ⟨_,_,ee,_,ca⟩ := int_at (HPs.out w3 HB3.out) (k:=ka) (by rw [HNP.out]; exact la)
       cases ee
       rw [HZa.out] at ca
       obtain ⟨u0,hu0⟩ : ∃ y,w3.alloc (.cells #[.int .i64 za] 3) = y := ⟨_,rfl⟩
       have HBu0 : Hid (Below w3.heap.size w3 u0) := by show Below _ _ _; rw [← hu0]; exact (Below.refl _ _).alloc (Nat.le_refl _) _
       have HIu0 : Hid (IntsIs u0 u0.heap.size [za] (.slice (some ⟨w3.heap.size,0,none⟩) 1 1)) := by
        have h := ints_new w3 [za] (by simp)
        show IntsIs _ _ _ _
        rw [← hu0]; exact h
       have HRu0 : Hid (RowI u0 w3.heap.size (.slice none 0 0) []) := RowX.fs (l:=[]) nestI_nest HRow.out (Fs.of_below HBu0.out) (by simp)
       have HSu0 : Hid (w3.heap.size ≤ u0.heap.size) := by have h4 := HBu0.out.size; show _ ≤ _; omega
       have HUu0 := keep hu0
       clear hu0
       go_wp2_with (first | rw [HUu0.out] | (at_builtin; refine wpList_append_ints rfl (.tmp 48) (.tmp 54) rfl w3.heap.size u0.heap.size _ _ [] [za] rfl rfl HRu0.out HIu0.out HSu0.out (by simp) ?_) | fail)
       intro p0 n0 c0 v0 hr0 hb0
       have HRow := keep hr0
       have HBW0 : Hid (Below w3.heap.size w3 v0) := HBu0.out.trans hb0
       have HB0v : Hid (Below w2.heap.size w2 v0) := HB3.out.trans (HBW0.out.mono HB3.out.size)
       have HSz1 : Hid (w3.heap.size ≤ v0.heap.size) := HBW0.out.size
       have kX := HBx.out v0 HB0v.out
       clear hr0 hb0 x0 x1 x2 x3 x4 ca
       have x0 := kX.cell 0 rfl
       have x1 := kX.cell 1 rfl
       have x2 := kX.cell 2 rfl
       have x3 := kX.cell 3 rfl
       have x4 := kX.cell 4 rfl
       clear kX
       obtain ⟨_,_,ee,_,cd⟩ := int_at (HPs.out v0 HB0v.out) (k:=kd) (by rw [HNP.out]; exact ld)
       cases ee
       rw [HZd.out] at cd
       obtain ⟨u1,hu1⟩ : ∃ y,v0.alloc (.cells #[.int .i64 zd] 3) = y := ⟨_,rfl⟩
       have HBu1 : Hid (Below v0.heap.size v0 u1) := by show Below _ _ _; rw [← hu1]; exact (Below.refl _ _).alloc (Nat.le_refl _) _
       have HIu1 : Hid (IntsIs u1 u1.heap.size [zd] (.slice (some ⟨v0.heap.size,0,none⟩) 1 1)) := by
        have h := ints_new v0 [zd] (by simp)
        show IntsIs _ _ _ _
        rw [← hu1]; exact h
       have HRu1 : Hid (RowI u1 w3.heap.size (.slice p0 n0 c0) ([] ++ [za])) := RowX.fs (l:=[]) nestI_nest HRow.out (Fs.of_below HBu1.out) (by simp)
       have HSu1 : Hid (w3.heap.size ≤ u1.heap.size) := by have h4 := HBu1.out.size; have h5 := HSz1.out; show _ ≤ _; omega
       have HUu1 := keep hu1
       clear hu1
       go_wp2_with (first | rw [HUu1.out] | (at_builtin; refine wpList_append_ints rfl (.tmp 65) (.tmp 71) rfl w3.heap.size u1.heap.size _ _ ([] ++ [za]) [zd] rfl rfl HRu1.out HIu1.out HSu1.out (by simp) ?_) | fail)
       intro p1 n1 c1 v1 hr1 hb1
       have HRow := keep hr1
       have HBW1 : Hid (Below w3.heap.size w3 v1) := HBW0.out.trans ((HBu1.out.mono HBW0.out.size).trans hb1)
       have HB1v : Hid (Below w2.heap.size w2 v1) := HB3.out.trans (HBW1.out.mono HB3.out.size)
       have HSz2 : Hid (w3.heap.size ≤ v1.heap.size) := HBW1.out.size
       have kX := HBx.out v1 HB1v.out
       clear hr1 hb1 x0 x1 x2 x3 x4 cd
       have x0 := kX.cell 0 rfl
       have x1 := kX.cell 1 rfl
       have x2 := kX.cell 2 rfl
       have x3 := kX.cell 3 rfl
       have x4 := kX.cell 4 rfl
       clear kX
       go_wp2_with fail
       go_ret
       exact HG.out _ _ (by simpa using RowI.intsX HRow.out (by simp) (Nw w2 _) (fun i h1 h2 => ⟨Nat.le_trans HB3.out.size h1,h2⟩)) HB1v.out
     ·have e17 : ((k : Int) == 17) = false := by simp; omega
      by_cases k16 : k = 16
      ·have e16 : ((k : Int) != 16) = false := by simp; omega
       have e16v : (k : Int) = 16 := by omega
       have hn1 : n ≤ 1 := by rw [k16] at nm; exact nm
       obtain rfl | rfl : n = 0 ∨ n = 1 := by omega
       ·have rA := True.intro
        have rB := True.intro
        have rC := True.intro
        have rD := True.intro
        have HE16 := keep e16v
        clear hA hB hC hD nm e16v k17 k16
        have HRow : Hid (RowI w3 w3.heap.size (.slice none 0 0) []) := RowX.nil _ _
        have HG : Hid (∀ v W,IntsX W (Nw w2 W) [] v → Below w2.heap.size w2 W → RSeenP T _ _ P w (.returned v) W) := fun v W h1 h2 => HPost.out v W (by rw [hsl]; unfold sl; simp [bitOn,HE16.out]; exact h1) h2
        clear hsl HPost HEq HRng rA rB rC rD
        go_wp2_with fail
        go_ret
        exact HG.out _ _ (intsX_nil _ _) HB3.out
       ·have rA := hA (by decide)
        have rB := True.intro
        have rC := True.intro
        have rD := True.intro
        have HE16 := keep e16v
        clear hA hB hC hD nm e16v k17 k16
        have HRow : Hid (RowI w3 w3.heap.size (.slice none 0 0) []) := RowX.nil _ _
        obtain ⟨ka,rfl,la⟩ := rA
        have la0 : (0 : Int) ≤ (ka : Int) := by omega
        have lan : (ka : Int) < (nP : Int) := by omega
        obtain ⟨g,o,rfl,hgg,hcc⟩ := int_at (HPs.out w3 HB3.out) (k:=ka) (by rw [HNP.out]; exact la)
        clear hgg hcc
        obtain ⟨za,hza⟩ : ∃ z,gI P (ka : Int) = z := ⟨_,rfl⟩
        have HZa := keep hza
        have HG : Hid (∀ v W,IntsX W (Nw w2 W) [za] v → Below w2.heap.size w2 W → RSeenP T _ _ P w (.returned v) W) := fun v W h1 h2 => HPost.out v W (by rw [hsl]; unfold sl; simp [bitOn,HE16.out,hza]; exact h1) h2
        clear hsl HPost HEq HRng rB rC rD hza
        obtain ⟨_,_,ee,_,ca⟩ := int_at (HPs.out w3 HB3.out) (k:=ka) (by rw [HNP.out]; exact la)
        cases ee
        rw [HZa.out] at ca
        obtain ⟨u0,hu0⟩ : ∃ y,w3.alloc (.cells #[.int .i64 za] 3) = y := ⟨_,rfl⟩
        have HBu0 : Hid (Below w3.heap.size w3 u0) := by show Below _ _ _; rw [← hu0]; exact (Below.refl _ _).alloc (Nat.le_refl _) _
        have HIu0 : Hid (IntsIs u0 u0.heap.size [za] (.slice (some ⟨w3.heap.size,0,none⟩) 1 1)) := by
         have h := ints_new w3 [za] (by simp)
         show IntsIs _ _ _ _
         rw [← hu0]; exact h
        have HRu0 : Hid (RowI u0 w3.heap.size (.slice none 0 0) []) := RowX.fs (l:=[]) nestI_nest HRow.out (Fs.of_below HBu0.out) (by simp)
        have HSu0 : Hid (w3.heap.size ≤ u0.heap.size) := by have h4 := HBu0.out.size; show _ ≤ _; omega
        have HUu0 := keep hu0
        clear hu0
        go_wp2_with (first | rw [HUu0.out] | (at_builtin; refine wpList_append_ints rfl (.tmp 48) (.tmp 54) rfl w3.heap.size u0.heap.size _ _ [] [za] rfl rfl HRu0.out HIu0.out HSu0.out (by simp) ?_) | fail)
        intro p0 n0 c0 v0 hr0 hb0
        have HRow := keep hr0
        have HBW0 : Hid (Below w3.heap.size w3 v0) := HBu0.out.trans hb0
        have HB0v : Hid (Below w2.heap.size w2 v0) := HB3.out.trans (HBW0.out.mono HB3.out.size)
        have HSz1 : Hid (w3.heap.size ≤ v0.heap.size) := HBW0.out.size
        have kX := HBx.out v0 HB0v.out
        clear hr0 hb0 x0 x1 x2 x3 x4 ca
        have x0 := kX.cell 0 rfl
        have x1 := kX.cell 1 rfl
        have x2 := kX.cell 2 rfl
        have x3 := kX.cell 3 rfl
        have x4 := kX.cell 4 rfl
        clear kX
        go_wp2_with fail
        go_ret
        exact HG.out _ _ (by simpa using RowI.intsX HRow.out (by simp) (Nw w2 _) (fun i h1 h2 => ⟨Nat.le_trans HB3.out.size h1,h2⟩)) HB0v.out
      ·have e16 : ((k : Int) != 16) = true := by rw [bne_iff_ne]; omega
       have e16v : ¬ (k : Int) = 16 ∧ ¬ (k : Int) = 17 := by omega
       obtain rfl | rfl | rfl | rfl | rfl | rfl | rfl | rfl : n = 0 ∨ n = 1 ∨ n = 2 ∨ n = 3 ∨ n = 4 ∨ n = 5 ∨ n = 6 ∨ n = 7 := by omega
       ·have rA := True.intro
        have rB := True.intro
        have rC := True.intro
        have rD := True.intro
        have HE16 := keep e16v
        clear hA hB hC hD nm e16v k17 k16
        have HRow : Hid (RowI w3 w3.heap.size (.slice none 0 0) []) := RowX.nil _ _
        have HG : Hid (∀ v W,IntsX W (Nw w2 W) [] v → Below w2.heap.size w2 W → RSeenP T _ _ P w (.returned v) W) := fun v W h1 h2 => HPost.out v W (by rw [hsl]; unfold sl; simp [bitOn,HE16.out]; exact h1) h2
        clear hsl HPost HEq HRng rA rB rC rD
        go_wp2_with fail
        go_ret
        exact HG.out _ _ (intsX_nil _ _) HB3.out
       ·have rA := hA (by decide)
        have rB := True.intro
        have rC := True.intro
        have rD := True.intro
        have HE16 := keep e16v
        clear hA hB hC hD nm e16v k17 k16
        have HRow : Hid (RowI w3 w3.heap.size (.slice none 0 0) []) := RowX.nil _ _
        obtain ⟨ka,rfl,la⟩ := rA
        have la0 : (0 : Int) ≤ (ka : Int) := by omega
        have lan : (ka : Int) < (nP : Int) := by omega
        obtain ⟨g,o,rfl,hgg,hcc⟩ := int_at (HPs.out w3 HB3.out) (k:=ka) (by rw [HNP.out]; exact la)
        clear hgg hcc
        obtain ⟨za,hza⟩ : ∃ z,gI P (ka : Int) = z := ⟨_,rfl⟩
        have HZa := keep hza
        have HG : Hid (∀ v W,IntsX W (Nw w2 W) [za] v → Below w2.heap.size w2 W → RSeenP T _ _ P w (.returned v) W) := fun v W h1 h2 => HPost.out v W (by rw [hsl]; unfold sl; simp [bitOn,HE16.out,hza]; exact h1) h2
        clear hsl HPost HEq HRng rB rC rD hza
        obtain ⟨_,_,ee,_,ca⟩ := int_at (HPs.out w3 HB3.out) (k:=ka) (by rw [HNP.out]; exact la)
        cases ee
        rw [HZa.out] at ca
        obtain ⟨u0,hu0⟩ : ∃ y,w3.alloc (.cells #[.int .i64 za] 3) = y := ⟨_,rfl⟩
        have HBu0 : Hid (Below w3.heap.size w3 u0) := by show Below _ _ _; rw [← hu0]; exact (Below.refl _ _).alloc (Nat.le_refl _) _
        have HIu0 : Hid (IntsIs u0 u0.heap.size [za] (.slice (some ⟨w3.heap.size,0,none⟩) 1 1)) := by
         have h := ints_new w3 [za] (by simp)
         show IntsIs _ _ _ _
         rw [← hu0]; exact h
        have HRu0 : Hid (RowI u0 w3.heap.size (.slice none 0 0) []) := RowX.fs (l:=[]) nestI_nest HRow.out (Fs.of_below HBu0.out) (by simp)
        have HSu0 : Hid (w3.heap.size ≤ u0.heap.size) := by have h4 := HBu0.out.size; show _ ≤ _; omega
        have HUu0 := keep hu0
        clear hu0
        go_wp2_with (first | rw [HUu0.out] | (at_builtin; refine wpList_append_ints rfl (.tmp 48) (.tmp 54) rfl w3.heap.size u0.heap.size _ _ [] [za] rfl rfl HRu0.out HIu0.out HSu0.out (by simp) ?_) | fail)
        intro p0 n0 c0 v0 hr0 hb0
        have HRow := keep hr0
        have HBW0 : Hid (Below w3.heap.size w3 v0) := HBu0.out.trans hb0
        have HB0v : Hid (Below w2.heap.size w2 v0) := HB3.out.trans (HBW0.out.mono HB3.out.size)
        have HSz1 : Hid (w3.heap.size ≤ v0.heap.size) := HBW0.out.size
        have kX := HBx.out v0 HB0v.out
        clear hr0 hb0 x0 x1 x2 x3 x4 ca
        have x0 := kX.cell 0 rfl
        have x1 := kX.cell 1 rfl
        have x2 := kX.cell 2 rfl
        have x3 := kX.cell 3 rfl
        have x4 := kX.cell 4 rfl
        clear kX
        go_wp2_with fail
        go_ret
        exact HG.out _ _ (by simpa using RowI.intsX HRow.out (by simp) (Nw w2 _) (fun i h1 h2 => ⟨Nat.le_trans HB3.out.size h1,h2⟩)) HB0v.out
       ·have rA := True.intro
        have rB := hB (by decide) k17
        have rC := True.intro
        have rD := True.intro
        have HE16 := keep e16v
        clear hA hB hC hD nm e16v k17 k16
        have HRow : Hid (RowI w3 w3.heap.size (.slice none 0 0) []) := RowX.nil _ _
        obtain ⟨kb,rfl,lb⟩ := rB
        have lb0 : (0 : Int) ≤ (kb : Int) := by omega
        have lbn : (kb : Int) < (nP : Int) := by omega
        obtain ⟨g,o,rfl,hgg,hcc⟩ := int_at (HPs.out w3 HB3.out) (k:=kb) (by rw [HNP.out]; exact lb)
        clear hgg hcc
        obtain ⟨zb,hzb⟩ : ∃ z,gI P (kb : Int) = z := ⟨_,rfl⟩
        have HZb := keep hzb
        have HG : Hid (∀ v W,IntsX W (Nw w2 W) [zb] v → Below w2.heap.size w2 W → RSeenP T _ _ P w (.returned v) W) := fun v W h1 h2 => HPost.out v W (by rw [hsl]; unfold sl; simp [bitOn,HE16.out,hzb]; exact h1) h2
        clear hsl HPost HEq HRng rA rC rD hzb
        obtain ⟨_,_,ee,_,cb⟩ := int_at (HPs.out w3 HB3.out) (k:=kb) (by rw [HNP.out]; exact lb)
        cases ee
        rw [HZb.out] at cb
        obtain ⟨u0,hu0⟩ : ∃ y,w3.alloc (.cells #[.int .i64 zb] 3) = y := ⟨_,rfl⟩
        have HBu0 : Hid (Below w3.heap.size w3 u0) := by show Below _ _ _; rw [← hu0]; exact (Below.refl _ _).alloc (Nat.le_refl _) _
        have HIu0 : Hid (IntsIs u0 u0.heap.size [zb] (.slice (some ⟨w3.heap.size,0,none⟩) 1 1)) := by
         have h := ints_new w3 [zb] (by simp)
         show IntsIs _ _ _ _
         rw [← hu0]; exact h
        have HRu0 : Hid (RowI u0 w3.heap.size (.slice none 0 0) []) := RowX.fs (l:=[]) nestI_nest HRow.out (Fs.of_below HBu0.out) (by simp)
        have HSu0 : Hid (w3.heap.size ≤ u0.heap.size) := by have h4 := HBu0.out.size; show _ ≤ _; omega
        have HUu0 := keep hu0
        clear hu0
        go_wp2_with (first | rw [HUu0.out] | (at_builtin; refine wpList_append_ints rfl (.tmp 82) (.tmp 88) rfl w3.heap.size u0.heap.size _ _ [] [zb] rfl rfl HRu0.out HIu0.out HSu0.out (by simp) ?_) | fail)
        intro p0 n0 c0 v0 hr0 hb0
        have HRow := keep hr0
        have HBW0 : Hid (Below w3.heap.size w3 v0) := HBu0.out.trans hb0
        have HB0v : Hid (Below w2.heap.size w2 v0) := HB3.out.trans (HBW0.out.mono HB3.out.size)
        have HSz1 : Hid (w3.heap.size ≤ v0.heap.size) := HBW0.out.size
        have kX := HBx.out v0 HB0v.out
        clear hr0 hb0 x0 x1 x2 x3 x4 cb
        have x0 := kX.cell 0 rfl
        have x1 := kX.cell 1 rfl
        have x2 := kX.cell 2 rfl
        have x3 := kX.cell 3 rfl
        have x4 := kX.cell 4 rfl
        clear kX
        go_wp2_with fail
        go_ret
        exact HG.out _ _ (by simpa using RowI.intsX HRow.out (by simp) (Nw w2 _) (fun i h1 h2 => ⟨Nat.le_trans HB3.out.size h1,h2⟩)) HB0v.out
       ·have rA := hA (by decide)
        have rB := hB (by decide) k17
        have rC := True.intro
        have rD := True.intro
        have HE16 := keep e16v
        clear hA hB hC hD nm e16v k17 k16
        have HRow : Hid (RowI w3 w3.heap.size (.slice none 0 0) []) := RowX.nil _ _
        obtain ⟨ka,rfl,la⟩ := rA
        have la0 : (0 : Int) ≤ (ka : Int) := by omega
        have lan : (ka : Int) < (nP : Int) := by omega
        obtain ⟨kb,rfl,lb⟩ := rB
        have lb0 : (0 : Int) ≤ (kb : Int) := by omega
        have lbn : (kb : Int) < (nP : Int) := by omega
        obtain ⟨g,o,rfl,hgg,hcc⟩ := int_at (HPs.out w3 HB3.out) (k:=ka) (by rw [HNP.out]; exact la)
        clear hgg hcc
        obtain ⟨za,hza⟩ : ∃ z,gI P (ka : Int) = z := ⟨_,rfl⟩
        have HZa := keep hza
        obtain ⟨zb,hzb⟩ : ∃ z,gI P (kb : Int) = z := ⟨_,rfl⟩
        have HZb := keep hzb
        have HG : Hid (∀ v W,IntsX W (Nw w2 W) [za,zb] v → Below w2.heap.size w2 W → RSeenP T _ _ P w (.returned v) W) := fun v W h1 h2 => HPost.out v W (by rw [hsl]; unfold sl; simp [bitOn,HE16.out,hza,hzb]; exact h1) h2
        clear hsl HPost HEq HRng rC rD hza hzb
        obtain ⟨_,_,ee,_,ca⟩ := int_at (HPs.out w3 HB3.out) (k:=ka) (by rw [HNP.out]; exact la)
        cases ee
        rw [HZa.out] at ca
        obtain ⟨u0,hu0⟩ : ∃ y,w3.alloc (.cells #[.int .i64 za] 3) = y := ⟨_,rfl⟩
        have HBu0 : Hid (Below w3.heap.size w3 u0) := by show Below _ _ _; rw [← hu0]; exact (Below.refl _ _).alloc (Nat.le_refl _) _
        have HIu0 : Hid (IntsIs u0 u0.heap.size [za] (.slice (some ⟨w3.heap.size,0,none⟩) 1 1)) := by
         have h := ints_new w3 [za] (by simp)
         show IntsIs _ _ _ _
         rw [← hu0]; exact h
        have HRu0 : Hid (RowI u0 w3.heap.size (.slice none 0 0) []) := RowX.fs (l:=[]) nestI_nest HRow.out (Fs.of_below HBu0.out) (by simp)
        have HSu0 : Hid (w3.heap.size ≤ u0.heap.size) := by have h4 := HBu0.out.size; show _ ≤ _; omega
        have HUu0 := keep hu0
        clear hu0
        go_wp2_with (first | rw [HUu0.out] | (at_builtin; refine wpList_append_ints rfl (.tmp 48) (.tmp 54) rfl w3.heap.size u0.heap.size _ _ [] [za] rfl rfl HRu0.out HIu0.out HSu0.out (by simp) ?_) | fail)
        intro p0 n0 c0 v0 hr0 hb0
        have HRow := keep hr0
        have HBW0 : Hid (Below w3.heap.size w3 v0) := HBu0.out.trans hb0
        have HB0v : Hid (Below w2.heap.size w2 v0) := HB3.out.trans (HBW0.out.mono HB3.out.size)
        have HSz1 : Hid (w3.heap.size ≤ v0.heap.size) := HBW0.out.size
        have kX := HBx.out v0 HB0v.out
        clear hr0 hb0 x0 x1 x2 x3 x4 ca
        have x0 := kX.cell 0 rfl
        have x1 := kX.cell 1 rfl
        have x2 := kX.cell 2 rfl
        have x3 := kX.cell 3 rfl
        have x4 := kX.cell 4 rfl
        clear kX
        obtain ⟨_,_,ee,_,cb⟩ := int_at (HPs.out v0 HB0v.out) (k:=kb) (by rw [HNP.out]; exact lb)
        cases ee
        rw [HZb.out] at cb
        obtain ⟨u1,hu1⟩ : ∃ y,v0.alloc (.cells #[.int .i64 zb] 3) = y := ⟨_,rfl⟩
        have HBu1 : Hid (Below v0.heap.size v0 u1) := by show Below _ _ _; rw [← hu1]; exact (Below.refl _ _).alloc (Nat.le_refl _) _
        have HIu1 : Hid (IntsIs u1 u1.heap.size [zb] (.slice (some ⟨v0.heap.size,0,none⟩) 1 1)) := by
         have h := ints_new v0 [zb] (by simp)
         show IntsIs _ _ _ _
         rw [← hu1]; exact h
        have HRu1 : Hid (RowI u1 w3.heap.size (.slice p0 n0 c0) ([] ++ [za])) := RowX.fs (l:=[]) nestI_nest HRow.out (Fs.of_below HBu1.out) (by simp)
        have HSu1 : Hid (w3.heap.size ≤ u1.heap.size) := by have h4 := HBu1.out.size; have h5 := HSz1.out; show _ ≤ _; omega
        have HUu1 := keep hu1
        clear hu1
        go_wp2_with (first | rw [HUu1.out] | (at_builtin; refine wpList_append_ints rfl (.tmp 82) (.tmp 88) rfl w3.heap.size u1.heap.size _ _ ([] ++ [za]) [zb] rfl rfl HRu1.out HIu1.out HSu1.out (by simp) ?_) | fail)
        intro p1 n1 c1 v1 hr1 hb1
        have HRow := keep hr1
        have HBW1 : Hid (Below w3.heap.size w3 v1) := HBW0.out.trans ((HBu1.out.mono HBW0.out.size).trans hb1)
        have HB1v : Hid (Below w2.heap.size w2 v1) := HB3.out.trans (HBW1.out.mono HB3.out.size)
        have HSz2 : Hid (w3.heap.size ≤ v1.heap.size) := HBW1.out.size
        have kX := HBx.out v1 HB1v.out
        clear hr1 hb1 x0 x1 x2 x3 x4 cb
        have x0 := kX.cell 0 rfl
        have x1 := kX.cell 1 rfl
        have x2 := kX.cell 2 rfl
        have x3 := kX.cell 3 rfl
        have x4 := kX.cell 4 rfl
        clear kX
        go_wp2_with fail
        go_ret
        exact HG.out _ _ (by simpa using RowI.intsX HRow.out (by simp) (Nw w2 _) (fun i h1 h2 => ⟨Nat.le_trans HB3.out.size h1,h2⟩)) HB1v.out
       ·have rA := True.intro
        have rB := True.intro
        have rC := hC (by decide)
        have rD := True.intro
        have HE16 := keep e16v
        clear hA hB hC hD nm e16v k17 k16
        have HRow : Hid (RowI w3 w3.heap.size (.slice none 0 0) []) := RowX.nil _ _
        obtain ⟨kc,rfl,lc⟩ := rC
        have lc0 : (0 : Int) ≤ (kc : Int) := by omega
        have lcn : (kc : Int) < (nP : Int) := by omega
        obtain ⟨g,o,rfl,hgg,hcc⟩ := int_at (HPs.out w3 HB3.out) (k:=kc) (by rw [HNP.out]; exact lc)
        clear hgg hcc
        obtain ⟨zc,hzc⟩ : ∃ z,gI P (kc : Int) = z := ⟨_,rfl⟩
        have HZc := keep hzc
        have HG : Hid (∀ v W,IntsX W (Nw w2 W) [zc] v → Below w2.heap.size w2 W → RSeenP T _ _ P w (.returned v) W) := fun v W h1 h2 => HPost.out v W (by rw [hsl]; unfold sl; simp [bitOn,HE16.out,hzc]; exact h1) h2
        clear hsl HPost HEq HRng rA rB rD hzc
        obtain ⟨_,_,ee,_,cc⟩ := int_at (HPs.out w3 HB3.out) (k:=kc) (by rw [HNP.out]; exact lc)
        cases ee
        rw [HZc.out] at cc
        obtain ⟨u0,hu0⟩ : ∃ y,w3.alloc (.cells #[.int .i64 zc] 3) = y := ⟨_,rfl⟩
        have HBu0 : Hid (Below w3.heap.size w3 u0) := by show Below _ _ _; rw [← hu0]; exact (Below.refl _ _).alloc (Nat.le_refl _) _
        have HIu0 : Hid (IntsIs u0 u0.heap.size [zc] (.slice (some ⟨w3.heap.size,0,none⟩) 1 1)) := by
         have h := ints_new w3 [zc] (by simp)
         show IntsIs _ _ _ _
         rw [← hu0]; exact h
        have HRu0 : Hid (RowI u0 w3.heap.size (.slice none 0 0) []) := RowX.fs (l:=[]) nestI_nest HRow.out (Fs.of_below HBu0.out) (by simp)
        have HSu0 : Hid (w3.heap.size ≤ u0.heap.size) := by have h4 := HBu0.out.size; show _ ≤ _; omega
        have HUu0 := keep hu0
        clear hu0
        go_wp2_with (first | rw [HUu0.out] | (at_builtin; refine wpList_append_ints rfl (.tmp 94) (.tmp 100) rfl w3.heap.size u0.heap.size _ _ [] [zc] rfl rfl HRu0.out HIu0.out HSu0.out (by simp) ?_) | fail)
        intro p0 n0 c0 v0 hr0 hb0
        have HRow := keep hr0
        have HBW0 : Hid (Below w3.heap.size w3 v0) := HBu0.out.trans hb0
        have HB0v : Hid (Below w2.heap.size w2 v0) := HB3.out.trans (HBW0.out.mono HB3.out.size)
        have HSz1 : Hid (w3.heap.size ≤ v0.heap.size) := HBW0.out.size
        have kX := HBx.out v0 HB0v.out
        clear hr0 hb0 x0 x1 x2 x3 x4 cc
        have x0 := kX.cell 0 rfl
        have x1 := kX.cell 1 rfl
        have x2 := kX.cell 2 rfl
        have x3 := kX.cell 3 rfl
        have x4 := kX.cell 4 rfl
        clear kX
        go_wp2_with fail
        go_ret
        exact HG.out _ _ (by simpa using RowI.intsX HRow.out (by simp) (Nw w2 _) (fun i h1 h2 => ⟨Nat.le_trans HB3.out.size h1,h2⟩)) HB0v.out
       ·have rA := hA (by decide)
        have rB := True.intro
        have rC := hC (by decide)
        have rD := True.intro
        have HE16 := keep e16v
        clear hA hB hC hD nm e16v k17 k16
        have HRow : Hid (RowI w3 w3.heap.size (.slice none 0 0) []) := RowX.nil _ _
        obtain ⟨ka,rfl,la⟩ := rA
        have la0 : (0 : Int) ≤ (ka : Int) := by omega
        have lan : (ka : Int) < (nP : Int) := by omega
        obtain ⟨kc,rfl,lc⟩ := rC
        have lc0 : (0 : Int) ≤ (kc : Int) := by omega
        have lcn : (kc : Int) < (nP : Int) := by omega
        obtain ⟨g,o,rfl,hgg,hcc⟩ := int_at (HPs.out w3 HB3.out) (k:=ka) (by rw [HNP.out]; exact la)
        clear hgg hcc
        obtain ⟨za,hza⟩ : ∃ z,gI P (ka : Int) = z := ⟨_,rfl⟩
        have HZa := keep hza
        obtain ⟨zc,hzc⟩ : ∃ z,gI P (kc : Int) = z := ⟨_,rfl⟩
        have HZc := keep hzc
        have HG : Hid (∀ v W,IntsX W (Nw w2 W) [za,zc] v → Below w2.heap.size w2 W → RSeenP T _ _ P w (.returned v) W) := fun v W h1 h2 => HPost.out v W (by rw [hsl]; unfold sl; simp [bitOn,HE16.out,hza,hzc]; exact h1) h2
        clear hsl HPost HEq HRng rB rD hza hzc
        obtain ⟨_,_,ee,_,ca⟩ := int_at (HPs.out w3 HB3.out) (k:=ka) (by rw [HNP.out]; exact la)
        cases ee
        rw [HZa.out] at ca
        obtain ⟨u0,hu0⟩ : ∃ y,w3.alloc (.cells #[.int .i64 za] 3) = y := ⟨_,rfl⟩
        have HBu0 : Hid (Below w3.heap.size w3 u0) := by show Below _ _ _; rw [← hu0]; exact (Below.refl _ _).alloc (Nat.le_refl _) _
        have HIu0 : Hid (IntsIs u0 u0.heap.size [za] (.slice (some ⟨w3.heap.size,0,none⟩) 1 1)) := by
         have h := ints_new w3 [za] (by simp)
         show IntsIs _ _ _ _
         rw [← hu0]; exact h
        have HRu0 : Hid (RowI u0 w3.heap.size (.slice none 0 0) []) := RowX.fs (l:=[]) nestI_nest HRow.out (Fs.of_below HBu0.out) (by simp)
        have HSu0 : Hid (w3.heap.size ≤ u0.heap.size) := by have h4 := HBu0.out.size; show _ ≤ _; omega
        have HUu0 := keep hu0
        clear hu0
        go_wp2_with (first | rw [HUu0.out] | (at_builtin; refine wpList_append_ints rfl (.tmp 48) (.tmp 54) rfl w3.heap.size u0.heap.size _ _ [] [za] rfl rfl HRu0.out HIu0.out HSu0.out (by simp) ?_) | fail)
        intro p0 n0 c0 v0 hr0 hb0
        have HRow := keep hr0
        have HBW0 : Hid (Below w3.heap.size w3 v0) := HBu0.out.trans hb0
        have HB0v : Hid (Below w2.heap.size w2 v0) := HB3.out.trans (HBW0.out.mono HB3.out.size)
        have HSz1 : Hid (w3.heap.size ≤ v0.heap.size) := HBW0.out.size
        have kX := HBx.out v0 HB0v.out
        clear hr0 hb0 x0 x1 x2 x3 x4 ca
        have x0 := kX.cell 0 rfl
        have x1 := kX.cell 1 rfl
        have x2 := kX.cell 2 rfl
        have x3 := kX.cell 3 rfl
        have x4 := kX.cell 4 rfl
        clear kX
        obtain ⟨_,_,ee,_,cc⟩ := int_at (HPs.out v0 HB0v.out) (k:=kc) (by rw [HNP.out]; exact lc)
        cases ee
        rw [HZc.out] at cc
        obtain ⟨u1,hu1⟩ : ∃ y,v0.alloc (.cells #[.int .i64 zc] 3) = y := ⟨_,rfl⟩
        have HBu1 : Hid (Below v0.heap.size v0 u1) := by show Below _ _ _; rw [← hu1]; exact (Below.refl _ _).alloc (Nat.le_refl _) _
        have HIu1 : Hid (IntsIs u1 u1.heap.size [zc] (.slice (some ⟨v0.heap.size,0,none⟩) 1 1)) := by
         have h := ints_new v0 [zc] (by simp)
         show IntsIs _ _ _ _
         rw [← hu1]; exact h
        have HRu1 : Hid (RowI u1 w3.heap.size (.slice p0 n0 c0) ([] ++ [za])) := RowX.fs (l:=[]) nestI_nest HRow.out (Fs.of_below HBu1.out) (by simp)
        have HSu1 : Hid (w3.heap.size ≤ u1.heap.size) := by have h4 := HBu1.out.size; have h5 := HSz1.out; show _ ≤ _; omega
        have HUu1 := keep hu1
        clear hu1
        go_wp2_with (first | rw [HUu1.out] | (at_builtin; refine wpList_append_ints rfl (.tmp 94) (.tmp 100) rfl w3.heap.size u1.heap.size _ _ ([] ++ [za]) [zc] rfl rfl HRu1.out HIu1.out HSu1.out (by simp) ?_) | fail)
        intro p1 n1 c1 v1 hr1 hb1
        have HRow := keep hr1
        have HBW1 : Hid (Below w3.heap.size w3 v1) := HBW0.out.trans ((HBu1.out.mono HBW0.out.size).trans hb1)
        have HB1v : Hid (Below w2.heap.size w2 v1) := HB3.out.trans (HBW1.out.mono HB3.out.size)
        have HSz2 : Hid (w3.heap.size ≤ v1.heap.size) := HBW1.out.size
        have kX := HBx.out v1 HB1v.out
        clear hr1 hb1 x0 x1 x2 x3 x4 cc
        have x0 := kX.cell 0 rfl
        have x1 := kX.cell 1 rfl
        have x2 := kX.cell 2 rfl
        have x3 := kX.cell 3 rfl
        have x4 := kX.cell 4 rfl
        clear kX
        go_wp2_with fail
        go_ret
        exact HG.out _ _ (by simpa using RowI.intsX HRow.out (by simp) (Nw w2 _) (fun i h1 h2 => ⟨Nat.le_trans HB3.out.size h1,h2⟩)) HB1v.out
       ·have rA := True.intro
        have rB := hB (by decide) k17
        have rC := hC (by decide)
        have rD := True.intro
        have HE16 := keep e16v
        clear hA hB hC hD nm e16v k17 k16
        have HRow : Hid (RowI w3 w3.heap.size (.slice none 0 0) []) := RowX.nil _ _
        obtain ⟨kb,rfl,lb⟩ := rB
        have lb0 : (0 : Int) ≤ (kb : Int) := by omega
        have lbn : (kb : Int) < (nP : Int) := by omega
        obtain ⟨kc,rfl,lc⟩ := rC
        have lc0 : (0 : Int) ≤ (kc : Int) := by omega
        have lcn : (kc : Int) < (nP : Int) := by omega
        obtain ⟨g,o,rfl,hgg,hcc⟩ := int_at (HPs.out w3 HB3.out) (k:=kb) (by rw [HNP.out]; exact lb)
        clear hgg hcc
        obtain ⟨zb,hzb⟩ : ∃ z,gI P (kb : Int) = z := ⟨_,rfl⟩
        have HZb := keep hzb
        obtain ⟨zc,hzc⟩ : ∃ z,gI P (kc : Int) = z := ⟨_,rfl⟩
        have HZc := keep hzc
        have HG : Hid (∀ v W,IntsX W (Nw w2 W) [zb,zc] v → Below w2.heap.size w2 W → RSeenP T _ _ P w (.returned v) W) := fun v W h1 h2 => HPost.out v W (by rw [hsl]; unfold sl; simp [bitOn,HE16.out,hzb,hzc]; exact h1) h2
        clear hsl HPost HEq HRng rA rD hzb hzc
        obtain ⟨_,_,ee,_,cb⟩ := int_at (HPs.out w3 HB3.out) (k:=kb) (by rw [HNP.out]; exact lb)
        cases ee
        rw [HZb.out] at cb
        obtain ⟨u0,hu0⟩ : ∃ y,w3.alloc (.cells #[.int .i64 zb] 3) = y := ⟨_,rfl⟩
        have HBu0 : Hid (Below w3.heap.size w3 u0) := by show Below _ _ _; rw [← hu0]; exact (Below.refl _ _).alloc (Nat.le_refl _) _
        have HIu0 : Hid (IntsIs u0 u0.heap.size [zb] (.slice (some ⟨w3.heap.size,0,none⟩) 1 1)) := by
         have h := ints_new w3 [zb] (by simp)
         show IntsIs _ _ _ _
         rw [← hu0]; exact h
        have HRu0 : Hid (RowI u0 w3.heap.size (.slice none 0 0) []) := RowX.fs (l:=[]) nestI_nest HRow.out (Fs.of_below HBu0.out) (by simp)
        have HSu0 : Hid (w3.heap.size ≤ u0.heap.size) := by have h4 := HBu0.out.size; show _ ≤ _; omega
        have HUu0 := keep hu0
        clear hu0
        go_wp2_with (first | rw [HUu0.out] | (at_builtin; refine wpList_append_ints rfl (.tmp 82) (.tmp 88) rfl w3.heap.size u0.heap.size _ _ [] [zb] rfl rfl HRu0.out HIu0.out HSu0.out (by simp) ?_) | fail)
        intro p0 n0 c0 v0 hr0 hb0
        have HRow := keep hr0
        have HBW0 : Hid (Below w3.heap.size w3 v0) := HBu0.out.trans hb0
        have HB0v : Hid (Below w2.heap.size w2 v0) := HB3.out.trans (HBW0.out.mono HB3.out.size)
        have HSz1 : Hid (w3.heap.size ≤ v0.heap.size) := HBW0.out.size
        have kX := HBx.out v0 HB0v.out
        clear hr0 hb0 x0 x1 x2 x3 x4 cb
        have x0 := kX.cell 0 rfl
        have x1 := kX.cell 1 rfl
        have x2 := kX.cell 2 rfl
        have x3 := kX.cell 3 rfl
        have x4 := kX.cell 4 rfl
        clear kX
        obtain ⟨_,_,ee,_,cc⟩ := int_at (HPs.out v0 HB0v.out) (k:=kc) (by rw [HNP.out]; exact lc)
        cases ee
        rw [HZc.out] at cc
        obtain ⟨u1,hu1⟩ : ∃ y,v0.alloc (.cells #[.int .i64 zc] 3) = y := ⟨_,rfl⟩
        have HBu1 : Hid (Below v0.heap.size v0 u1) := by show Below _ _ _; rw [← hu1]; exact (Below.refl _ _).alloc (Nat.le_refl _) _
        have HIu1 : Hid (IntsIs u1 u1.heap.size [zc] (.slice (some ⟨v0.heap.size,0,none⟩) 1 1)) := by
         have h := ints_new v0 [zc] (by simp)
         show IntsIs _ _ _ _
         rw [← hu1]; exact h
        have HRu1 : Hid (RowI u1 w3.heap.size (.slice p0 n0 c0) ([] ++ [zb])) := RowX.fs (l:=[]) nestI_nest HRow.out (Fs.of_below HBu1.out) (by simp)
        have HSu1 : Hid (w3.heap.size ≤ u1.heap.size) := by have h4 := HBu1.out.size; have h5 := HSz1.out; show _ ≤ _; omega
        have HUu1 := keep hu1
        clear hu1
        go_wp2_with (first | rw [HUu1.out] | (at_builtin; refine wpList_append_ints rfl (.tmp 94) (.tmp 100) rfl w3.heap.size u1.heap.size _ _ ([] ++ [zb]) [zc] rfl rfl HRu1.out HIu1.out HSu1.out (by simp) ?_) | fail)
        intro p1 n1 c1 v1 hr1 hb1
        have HRow := keep hr1
        have HBW1 : Hid (Below w3.heap.size w3 v1) := HBW0.out.trans ((HBu1.out.mono HBW0.out.size).trans hb1)
        have HB1v : Hid (Below w2.heap.size w2 v1) := HB3.out.trans (HBW1.out.mono HB3.out.size)
        have HSz2 : Hid (w3.heap.size ≤ v1.heap.size) := HBW1.out.size
        have kX := HBx.out v1 HB1v.out
        clear hr1 hb1 x0 x1 x2 x3 x4 cc
        have x0 := kX.cell 0 rfl
        have x1 := kX.cell 1 rfl
        have x2 := kX.cell 2 rfl
        have x3 := kX.cell 3 rfl
        have x4 := kX.cell 4 rfl
        clear kX
        go_wp2_with fail
        go_ret
        exact HG.out _ _ (by simpa using RowI.intsX HRow.out (by simp) (Nw w2 _) (fun i h1 h2 => ⟨Nat.le_trans HB3.out.size h1,h2⟩)) HB1v.out
       ·have rA := hA (by decide)
        have rB := hB (by decide) k17
        have rC := hC (by decide)
        have rD := True.intro
        have HE16 := keep e16v
        clear hA hB hC hD nm e16v k17 k16
        have HRow : Hid (RowI w3 w3.heap.size (.slice none 0 0) []) := RowX.nil _ _
        obtain ⟨ka,rfl,la⟩ := rA
        have la0 : (0 : Int) ≤ (ka : Int) := by omega
        have lan : (ka : Int) < (nP : Int) := by omega
        obtain ⟨kb,rfl,lb⟩ := rB
        have lb0 : (0 : Int) ≤ (kb : Int) := by omega
        have lbn : (kb : Int) < (nP : Int) := by omega
        obtain ⟨kc,rfl,lc⟩ := rC
        have lc0 : (0 : Int) ≤ (kc : Int) := by omega
        have lcn : (kc : Int) < (nP : Int) := by omega
        obtain ⟨g,o,rfl,hgg,hcc⟩ := int_at (HPs.out w3 HB3.out) (k:=ka) (by rw [HNP.out]; exact la)
        clear hgg hcc
        obtain ⟨za,hza⟩ : ∃ z,gI P (ka : Int) = z := ⟨_,rfl⟩
        have HZa := keep hza
        obtain ⟨zb,hzb⟩ : ∃ z,gI P (kb : Int) = z := ⟨_,rfl⟩
        have HZb := keep hzb
        obtain ⟨zc,hzc⟩ : ∃ z,gI P (kc : Int) = z := ⟨_,rfl⟩
        have HZc := keep hzc
        have HG : Hid (∀ v W,IntsX W (Nw w2 W) [za,zb,zc] v → Below w2.heap.size w2 W → RSeenP T _ _ P w (.returned v) W) := fun v W h1 h2 => HPost.out v W (by rw [hsl]; unfold sl; simp [bitOn,HE16.out,hza,hzb,hzc]; exact h1) h2
        clear hsl HPost HEq HRng rD hza hzb hzc
        obtain ⟨_,_,ee,_,ca⟩ := int_at (HPs.out w3 HB3.out) (k:=ka) (by rw [HNP.out]; exact la)
        cases ee
        rw [HZa.out] at ca
        obtain ⟨u0,hu0⟩ : ∃ y,w3.alloc (.cells #[.int .i64 za] 3) = y := ⟨_,rfl⟩
        have HBu0 : Hid (Below w3.heap.size w3 u0) := by show Below _ _ _; rw [← hu0]; exact (Below.refl _ _).alloc (Nat.le_refl _) _
        have HIu0 : Hid (IntsIs u0 u0.heap.size [za] (.slice (some ⟨w3.heap.size,0,none⟩) 1 1)) := by
         have h := ints_new w3 [za] (by simp)
         show IntsIs _ _ _ _
         rw [← hu0]; exact h
        have HRu0 : Hid (RowI u0 w3.heap.size (.slice none 0 0) []) := RowX.fs (l:=[]) nestI_nest HRow.out (Fs.of_below HBu0.out) (by simp)
        have HSu0 : Hid (w3.heap.size ≤ u0.heap.size) := by have h4 := HBu0.out.size; show _ ≤ _; omega
        have HUu0 := keep hu0
        clear hu0
        go_wp2_with (first | rw [HUu0.out] | (at_builtin; refine wpList_append_ints rfl (.tmp 48) (.tmp 54) rfl w3.heap.size u0.heap.size _ _ [] [za] rfl rfl HRu0.out HIu0.out HSu0.out (by simp) ?_) | fail)
        intro p0 n0 c0 v0 hr0 hb0
        have HRow := keep hr0
        have HBW0 : Hid (Below w3.heap.size w3 v0) := HBu0.out.trans hb0
        have HB0v : Hid (Below w2.heap.size w2 v0) := HB3.out.trans (HBW0.out.mono HB3.out.size)
        have HSz1 : Hid (w3.heap.size ≤ v0.heap.size) := HBW0.out.size
        have kX := HBx.out v0 HB0v.out
        clear hr0 hb0 x0 x1 x2 x3 x4 ca
        have x0 := kX.cell 0 rfl
        have x1 := kX.cell 1 rfl
        have x2 := kX.cell 2 rfl
        have x3 := kX.cell 3 rfl
        have x4 := kX.cell 4 rfl
        clear kX
        obtain ⟨_,_,ee,_,cb⟩ := int_at (HPs.out v0 HB0v.out) (k:=kb) (by rw [HNP.out]; exact lb)
        cases ee
        rw [HZb.out] at cb
        obtain ⟨u1,hu1⟩ : ∃ y,v0.alloc (.cells #[.int .i64 zb] 3) = y := ⟨_,rfl⟩
        have HBu1 : Hid (Below v0.heap.size v0 u1) := by show Below _ _ _; rw [← hu1]; exact (Below.refl _ _).alloc (Nat.le_refl _) _
        have HIu1 : Hid (IntsIs u1 u1.heap.size [zb] (.slice (some ⟨v0.heap.size,0,none⟩) 1 1)) := by
         have h := ints_new v0 [zb] (by simp)
         show IntsIs _ _ _ _
         rw [← hu1]; exact h
        have HRu1 : Hid (RowI u1 w3.heap.size (.slice p0 n0 c0) ([] ++ [za])) := RowX.fs (l:=[]) nestI_nest HRow.out (Fs.of_below HBu1.out) (by simp)
        have HSu1 : Hid (w3.heap.size ≤ u1.heap.size) := by have h4 := HBu1.out.size; have h5 := HSz1.out; show _ ≤ _; omega
        have HUu1 := keep hu1
        clear hu1
        go_wp2_with (first | rw [HUu1.out] | (at_builtin; refine wpList_append_ints rfl (.tmp 82) (.tmp 88) rfl w3.heap.size u1.heap.size _ _ ([] ++ [za]) [zb] rfl rfl HRu1.out HIu1.out HSu1.out (by simp) ?_) | fail)
        intro p1 n1 c1 v1 hr1 hb1
        have HRow := keep hr1
        have HBW1 : Hid (Below w3.heap.size w3 v1) := HBW0.out.trans ((HBu1.out.mono HBW0.out.size).trans hb1)
        have HB1v : Hid (Below w2.heap.size w2 v1) := HB3.out.trans (HBW1.out.mono HB3.out.size)
        have HSz2 : Hid (w3.heap.size ≤ v1.heap.size) := HBW1.out.size
        have kX := HBx.out v1 HB1v.out
        clear hr1 hb1 x0 x1 x2 x3 x4 cb
        have x0 := kX.cell 0 rfl
        have x1 := kX.cell 1 rfl
        have x2 := kX.cell 2 rfl
        have x3 := kX.cell 3 rfl
        have x4 := kX.cell 4 rfl
        clear kX
        obtain ⟨_,_,ee,_,cc⟩ := int_at (HPs.out v1 HB1v.out) (k:=kc) (by rw [HNP.out]; exact lc)
        cases ee
        rw [HZc.out] at cc
        obtain ⟨u2,hu2⟩ : ∃ y,v1.alloc (.cells #[.int .i64 zc] 3) = y := ⟨_,rfl⟩
        have HBu2 : Hid (Below v1.heap.size v1 u2) := by show Below _ _ _; rw [← hu2]; exact (Below.refl _ _).alloc (Nat.le_refl _) _
        have HIu2 : Hid (IntsIs u2 u2.heap.size [zc] (.slice (some ⟨v1.heap.size,0,none⟩) 1 1)) := by
         have h := ints_new v1 [zc] (by simp)
         show IntsIs _ _ _ _
         rw [← hu2]; exact h
        have HRu2 : Hid (RowI u2 w3.heap.size (.slice p1 n1 c1) (([] ++ [za]) ++ [zb])) := RowX.fs (l:=[]) nestI_nest HRow.out (Fs.of_below HBu2.out) (by simp)
        have HSu2 : Hid (w3.heap.size ≤ u2.heap.size) := by have h4 := HBu2.out.size; have h5 := HSz2.out; show _ ≤ _; omega
        have HUu2 := keep hu2
        clear hu2
        go_wp2_with (first | rw [HUu2.out] | (at_builtin; refine wpList_append_ints rfl (.tmp 94) (.tmp 100) rfl w3.heap.size u2.heap.size _ _ (([] ++ [za]) ++ [zb]) [zc] rfl rfl HRu2.out HIu2.out HSu2.out (by simp) ?_) | fail)
        intro p2 n2 c2 v2 hr2 hb2
        have HRow := keep hr2
        have HBW2 : Hid (Below w3.heap.size w3 v2) := HBW1.out.trans ((HBu2.out.mono HBW1.out.size).trans hb2)
        have HB2v : Hid (Below w2.heap.size w2 v2) := HB3.out.trans (HBW2.out.mono HB3.out.size)
        have HSz3 : Hid (w3.heap.size ≤ v2.heap.size) := HBW2.out.size
        have kX := HBx.out v2 HB2v.out
        clear hr2 hb2 x0 x1 x2 x3 x4 cc
        have x0 := kX.cell 0 rfl
        have x1 := kX.cell 1 rfl
        have x2 := kX.cell 2 rfl
        have x3 := kX.cell 3 rfl
        have x4 := kX.cell 4 rfl
        clear kX
        go_wp2_with fail
        go_ret
        exact HG.out _ _ (by simpa using RowI.intsX HRow.out (by simp) (Nw w2 _) (fun i h1 h2 => ⟨Nat.le_trans HB3.out.size h1,h2⟩)) HB2v.out
    | true =>
     obtain ⟨n,hn⟩ : ∃ n,Tb.most k = n := ⟨_,rfl⟩
     obtain ⟨n0,nm,hsl⟩ := HEq.out n hn
     have n7 : n ≤ 7 := Int.le_trans nm (most_7 k HQ.out.2)
     rw [hn] at mk
     clear hn
     have hA : 1 ≤ n → ∃ kp : Nat,a = (kp : Int) ∧ kp < nP := fun hh => HRng.out _ (rds_a (k:=k) rfl HQ.out.1 HQ.out.2 (most_0 k HQ.out.1 HQ.out.2 (by omega)))
     have hB : 2 ≤ n → k ≠ 17 → ∃ kp : Nat,b = (kp : Int) ∧ kp < nP := fun hh h7 => HRng.out _ (rds_b (k:=k) rfl HQ.out.1 (by have := most_1 k HQ.out.1 HQ.out.2 (by omega); omega))
     have hC : 4 ≤ n → ∃ kp : Nat,c = (kp : Int) ∧ kp < nP := fun hh => HRng.out _ (rds_c (by have := most_2 k HQ.out.1 HQ.out.2 (by omega); show (k : Int) = 13; omega))
     have hD : k = 17 → ∃ kp : Nat,d = (kp : Int) ∧ kp < nP := fun hh => HRng.out _ (rds_d (by show (k : Int) = 17; omega))
     by_cases k17 : k = 17
     ·have e17 : ((k : Int) == 17) = true := by simp; omega
      have e16 : ((k : Int) != 16) = true := by rw [bne_iff_ne]; omega
      have e16v : (k : Int) = 17 := by omega
      have hn3 : n ≤ 3 := by rw [k17] at nm; exact nm
      obtain rfl | rfl | rfl | rfl : n = 0 ∨ n = 1 ∨ n = 2 ∨ n = 3 := by omega
      ·have rA := True.intro
       have rB := True.intro
       have rC := True.intro
       have rD := True.intro
       have HE16 := keep e16v
       clear hA hB hC hD nm e16v k17
       have HRow : Hid (RowI w3 w3.heap.size (.slice none 0 0) []) := RowX.nil _ _
       have HG : Hid (∀ v W,IntsX W (Nw w2 W) [] v → Below w2.heap.size w2 W → RSeenP T _ _ P w (.returned v) W) := fun v W h1 h2 => HPost.out v W (by rw [hsl]; unfold sl; simp [bitOn,HE16.out]; exact h1) h2
       clear hsl HPost HEq HRng rA rB rC rD
       go_wp2_with fail
       go_ret
       exact HG.out _ _ (intsX_nil _ _) HB3.out
      ·have rA := hA (by decide)
       have rB := True.intro
       have rC := True.intro
       have rD := True.intro
       have HE16 := keep e16v
       clear hA hB hC hD nm e16v k17
       have HRow : Hid (RowI w3 w3.heap.size (.slice none 0 0) []) := RowX.nil _ _
       obtain ⟨ka,rfl,la⟩ := rA
       have la0 : (0 : Int) ≤ (ka : Int) := by omega
       have lan : (ka : Int) < (nP : Int) := by omega
       obtain ⟨g,o,rfl,hgg,hcc⟩ := int_at (HPs.out w3 HB3.out) (k:=ka) (by rw [HNP.out]; exact la)
       clear hgg hcc
       obtain ⟨za,hza⟩ : ∃ z,gI P (ka : Int) = z := ⟨_,rfl⟩
       have HZa := keep hza
       have HG : Hid (∀ v W,IntsX W (Nw w2 W) [za] v → Below w2.heap.size w2 W → RSeenP T _ _ P w (.returned v) W) := fun v W h1 h2 => HPost.out v W (by rw [hsl]; unfold sl; simp [bitOn,HE16.out,hza]; exact h1) h2
       clear hsl HPost HEq HRng rB rC rD hza
       obtain ⟨_,_,ee,_,ca⟩ := int_at (HPs.out w3 HB3.out) (k:=ka) (by rw [HNP.out]; exact la)
       cases ee
       rw [HZa.out] at ca
       obtain ⟨u0,hu0⟩ : ∃ y,w3.alloc (.cells #[.int .i64 za] 3) = y := ⟨_,rfl⟩
       have HBu0 : Hid (Below w3.heap.size w3 u0) := by show Below _ _ _; rw [← hu0]; exact (Below.refl _ _).alloc (Nat.le_refl _) _
       have HIu0 : Hid (IntsIs u0 u0.heap.size [za] (.slice (some ⟨w3.heap.size,0,none⟩) 1 1)) := by
        have h := ints_new w3 [za] (by simp)
        show IntsIs _ _ _ _
        rw [← hu0]; exact h
       have HRu0 : Hid (RowI u0 w3.heap.size (.slice none 0 0) []) := RowX.fs (l:=[]) nestI_nest HRow.out (Fs.of_below HBu0.out) (by simp)
       have HSu0 : Hid (w3.heap.size ≤ u0.heap.size) := by have h4 := HBu0.out.size; show _ ≤ _; omega
       have HUu0 := keep hu0
       clear hu0
       go_wp2_with (first | rw [HUu0.out] | (at_builtin; refine wpList_append_ints rfl (.tmp 48) (.tmp 54) rfl w3.heap.size u0.heap.size _ _ [] [za] rfl rfl HRu0.out HIu0.out HSu0.out (by simp) ?_) | fail)
       intro p0 n0 c0 v0 hr0 hb0
       have HRow := keep hr0
       have HBW0 : Hid (Below w3.heap.size w3 v0) := HBu0.out.trans hb0
       have HB0v : Hid (Below w2.heap.size w2 v0) := HB3.out.trans (HBW0.out.mono HB3.out.size)
       have HSz1 : Hid (w3.heap.size ≤ v0.heap.size) := HBW0.out.size
       have kX := HBx.out v0 HB0v.out
       clear hr0 hb0 x0 x1 x2 x3 x4 ca
       have x0 := kX.cell 0 rfl
       have x1 := kX.cell 1 rfl
       have x2 := kX.cell 2 rfl
       have x3 := kX.cell 3 rfl
       have x4 := kX.cell 4 rfl
       clear kX
       go_wp2_with fail
       go_ret
       exact HG.out _ _ (by simpa using RowI.intsX HRow.out (by simp) (Nw w2 _) (fun i h1 h2 => ⟨Nat.le_trans HB3.out.size h1,h2⟩)) HB0v.out
      ·have rA := True.intro
       have rB := True.intro
       have rC := True.intro
       have rD := hD k17
       have HE16 := keep e16v
       clear hA hB hC hD nm e16v k17
       have HRow : Hid (RowI w3 w3.heap.size (.slice none 0 0) []) := RowX.nil _ _
       obtain ⟨kd,rfl,ld⟩ := rD
       have ld0 : (0 : Int) ≤ (kd : Int) := by omega
       have ldn : (kd : Int) < (nP : Int) := by omega
       obtain ⟨g,o,rfl,hgg,hcc⟩ := int_at (HPs.out w3 HB3.out) (k:=kd) (by rw [HNP.out]; exact ld)
       clear hgg hcc
       obtain ⟨zd,hzd⟩ : ∃ z,gI P (kd : Int) = z := ⟨_,rfl⟩
       have HZd := keep hzd
       have HG : Hid (∀ v W,IntsX W (Nw w2 W) [zd] v → Below w2.heap.size w2 W → RSeenP T _ _ P w (.returned v) W) := fun v W h1 h2 => HPost.out v W (by rw [hsl]; unfold sl; simp [bitOn,HE16.out,hzd]; exact h1) h2
       clear hsl HPost HEq HRng rA rB rC hzd
       obtain ⟨_,_,ee,_,cd⟩ := int_at (HPs.out w3 HB3.out) (k:=kd) (by rw [HNP.out]; exact ld)
       cases ee
       rw [HZd.out] at cd
       obtain ⟨u0,hu0⟩ : ∃ y,w3.alloc (.cells #[.int .i64 zd] 3) = y := ⟨_,rfl⟩
       have HBu0 : Hid (Below w3.heap.size w3 u0) := by show Below _ _ _; rw [← hu0]; exact (Below.refl _ _).alloc (Nat.le_refl _) _
       have HIu0 : Hid (IntsIs u0 u0.heap.size [zd] (.slice (some ⟨w3.heap.size,0,none⟩) 1 1)) := by
        have h := ints_new w3 [zd] (by simp)
        show IntsIs _ _ _ _
        rw [← hu0]; exact h
       have HRu0 : Hid (RowI u0 w3.heap.size (.slice none 0 0) []) := RowX.fs (l:=[]) nestI_nest HRow.out (Fs.of_below HBu0.out) (by simp)
       have HSu0 : Hid (w3.heap.size ≤ u0.heap.size) := by have h4 := HBu0.out.size; show _ ≤ _; omega
       have HUu0 := keep hu0
       clear hu0
       go_wp2_with (first | rw [HUu0.out] | (at_builtin; refine wpList_append_ints rfl (.tmp 65) (.tmp 71) rfl w3.heap.size u0.heap.size _ _ [] [zd] rfl rfl HRu0.out HIu0.out HSu0.out (by simp) ?_) | fail)
       intro p0 n0 c0 v0 hr0 hb0
       have HRow := keep hr0
       have HBW0 : Hid (Below w3.heap.size w3 v0) := HBu0.out.trans hb0
       have HB0v : Hid (Below w2.heap.size w2 v0) := HB3.out.trans (HBW0.out.mono HB3.out.size)
       have HSz1 : Hid (w3.heap.size ≤ v0.heap.size) := HBW0.out.size
       have kX := HBx.out v0 HB0v.out
       clear hr0 hb0 x0 x1 x2 x3 x4 cd
       have x0 := kX.cell 0 rfl
       have x1 := kX.cell 1 rfl
       have x2 := kX.cell 2 rfl
       have x3 := kX.cell 3 rfl
       have x4 := kX.cell 4 rfl
       clear kX
       go_wp2_with fail
       go_ret
       exact HG.out _ _ (by simpa using RowI.intsX HRow.out (by simp) (Nw w2 _) (fun i h1 h2 => ⟨Nat.le_trans HB3.out.size h1,h2⟩)) HB0v.out
      ·have rA := hA (by decide)
       have rB := True.intro
       have rC := True.intro
       have rD := hD k17
       have HE16 := keep e16v
       clear hA hB hC hD nm e16v k17
       have HRow : Hid (RowI w3 w3.heap.size (.slice none 0 0) []) := RowX.nil _ _
       obtain ⟨ka,rfl,la⟩ := rA
       have la0 : (0 : Int) ≤ (ka : Int) := by omega
       have lan : (ka : Int) < (nP : Int) := by omega
       obtain ⟨kd,rfl,ld⟩ := rD
       have ld0 : (0 : Int) ≤ (kd : Int) := by omega
       have ldn : (kd : Int) < (nP : Int) := by omega
       obtain ⟨g,o,rfl,hgg,hcc⟩ := int_at (HPs.out w3 HB3.out) (k:=ka) (by rw [HNP.out]; exact la)
       clear hgg hcc
       obtain ⟨za,hza⟩ : ∃ z,gI P (ka : Int) = z := ⟨_,rfl⟩
       have HZa := keep hza
       obtain ⟨zd,hzd⟩ : ∃ z,gI P (kd : Int) = z := ⟨_,rfl⟩
       have HZd := keep hzd
       have HG : Hid (∀ v W,IntsX W (Nw w2 W) [za,zd] v → Below w2.heap.size w2 W → RSeenP T _ _ P w (.returned v) W) := fun v W h1 h2 => HPost.out v W (by rw [hsl]; unfold sl; simp [bitOn,HE16.out,hza,hzd]; exact h1) h2
       clear hsl HPost HEq HRng rB rC hza hzd
       obtain ⟨_,_,ee,_,ca⟩ := int_at (HPs.out w3 HB3.out) (k:=ka) (by rw [HNP.out]; exact la)
       cases ee
       rw [HZa.out] at ca
       obtain ⟨u0,hu0⟩ : ∃ y,w3.alloc (.cells #[.int .i64 za] 3) = y := ⟨_,rfl⟩
       have HBu0 : Hid (Below w3.heap.size w3 u0) := by show Below _ _ _; rw [← hu0]; exact (Below.refl _ _).alloc (Nat.le_refl _) _
       have HIu0 : Hid (IntsIs u0 u0.heap.size [za] (.slice (some ⟨w3.heap.size,0,none⟩) 1 1)) := by
        have h := ints_new w3 [za] (by simp)
        show IntsIs _ _ _ _
        rw [← hu0]; exact h
       have HRu0 : Hid (RowI u0 w3.heap.size (.slice none 0 0) []) := RowX.fs (l:=[]) nestI_nest HRow.out (Fs.of_below HBu0.out) (by simp)
       have HSu0 : Hid (w3.heap.size ≤ u0.heap.size) := by have h4 := HBu0.out.size; show _ ≤ _; omega
       have HUu0 := keep hu0
       clear hu0
       go_wp2_with (first | rw [HUu0.out] | (at_builtin; refine wpList_append_ints rfl (.tmp 48) (.tmp 54) rfl w3.heap.size u0.heap.size _ _ [] [za] rfl rfl HRu0.out HIu0.out HSu0.out (by simp) ?_) | fail)
       intro p0 n0 c0 v0 hr0 hb0
       have HRow := keep hr0
       have HBW0 : Hid (Below w3.heap.size w3 v0) := HBu0.out.trans hb0
       have HB0v : Hid (Below w2.heap.size w2 v0) := HB3.out.trans (HBW0.out.mono HB3.out.size)
       have HSz1 : Hid (w3.heap.size ≤ v0.heap.size) := HBW0.out.size
       have kX := HBx.out v0 HB0v.out
       clear hr0 hb0 x0 x1 x2 x3 x4 ca
       have x0 := kX.cell 0 rfl
       have x1 := kX.cell 1 rfl
       have x2 := kX.cell 2 rfl
       have x3 := kX.cell 3 rfl
       have x4 := kX.cell 4 rfl
       clear kX
       obtain ⟨_,_,ee,_,cd⟩ := int_at (HPs.out v0 HB0v.out) (k:=kd) (by rw [HNP.out]; exact ld)
       cases ee
       rw [HZd.out] at cd
       obtain ⟨u1,hu1⟩ : ∃ y,v0.alloc (.cells #[.int .i64 zd] 3) = y := ⟨_,rfl⟩
       have HBu1 : Hid (Below v0.heap.size v0 u1) := by show Below _ _ _; rw [← hu1]; exact (Below.refl _ _).alloc (Nat.le_refl _) _
       have HIu1 : Hid (IntsIs u1 u1.heap.size [zd] (.slice (some ⟨v0.heap.size,0,none⟩) 1 1)) := by
        have h := ints_new v0 [zd] (by simp)
        show IntsIs _ _ _ _
        rw [← hu1]; exact h
       have HRu1 : Hid (RowI u1 w3.heap.size (.slice p0 n0 c0) ([] ++ [za])) := RowX.fs (l:=[]) nestI_nest HRow.out (Fs.of_below HBu1.out) (by simp)
       have HSu1 : Hid (w3.heap.size ≤ u1.heap.size) := by have h4 := HBu1.out.size; have h5 := HSz1.out; show _ ≤ _; omega
       have HUu1 := keep hu1
       clear hu1
       go_wp2_with (first | rw [HUu1.out] | (at_builtin; refine wpList_append_ints rfl (.tmp 65) (.tmp 71) rfl w3.heap.size u1.heap.size _ _ ([] ++ [za]) [zd] rfl rfl HRu1.out HIu1.out HSu1.out (by simp) ?_) | fail)
       intro p1 n1 c1 v1 hr1 hb1
       have HRow := keep hr1
       have HBW1 : Hid (Below w3.heap.size w3 v1) := HBW0.out.trans ((HBu1.out.mono HBW0.out.size).trans hb1)
       have HB1v : Hid (Below w2.heap.size w2 v1) := HB3.out.trans (HBW1.out.mono HB3.out.size)
       have HSz2 : Hid (w3.heap.size ≤ v1.heap.size) := HBW1.out.size
       have kX := HBx.out v1 HB1v.out
       clear hr1 hb1 x0 x1 x2 x3 x4 cd
       have x0 := kX.cell 0 rfl
       have x1 := kX.cell 1 rfl
       have x2 := kX.cell 2 rfl
       have x3 := kX.cell 3 rfl
       have x4 := kX.cell 4 rfl
       clear kX
       go_wp2_with fail
       go_ret
       exact HG.out _ _ (by simpa using RowI.intsX HRow.out (by simp) (Nw w2 _) (fun i h1 h2 => ⟨Nat.le_trans HB3.out.size h1,h2⟩)) HB1v.out
     ·have e17 : ((k : Int) == 17) = false := by simp; omega
      by_cases k16 : k = 16
      ·have e16 : ((k : Int) != 16) = false := by simp; omega
       have e16v : (k : Int) = 16 := by omega
       have hn1 : n ≤ 1 := by rw [k16] at nm; exact nm
       obtain rfl | rfl : n = 0 ∨ n = 1 := by omega
       ·have rA := True.intro
        have rB := True.intro
        have rC := True.intro
        have rD := True.intro
        have HE16 := keep e16v
        clear hA hB hC hD nm e16v k17 k16
        have HRow : Hid (RowI w3 w3.heap.size (.slice none 0 0) []) := RowX.nil _ _
        have HG : Hid (∀ v W,IntsX W (Nw w2 W) [] v → Below w2.heap.size w2 W → RSeenP T _ _ P w (.returned v) W) := fun v W h1 h2 => HPost.out v W (by rw [hsl]; unfold sl; simp [bitOn,HE16.out]; exact h1) h2
        clear hsl HPost HEq HRng rA rB rC rD
        go_wp2_with fail
        go_ret
        exact HG.out _ _ (intsX_nil _ _) HB3.out
       ·have rA := hA (by decide)
        have rB := True.intro
        have rC := True.intro
        have rD := True.intro
        have HE16 := keep e16v
        clear hA hB hC hD nm e16v k17 k16
        have HRow : Hid (RowI w3 w3.heap.size (.slice none 0 0) []) := RowX.nil _ _
        obtain ⟨ka,rfl,la⟩ := rA
        have la0 : (0 : Int) ≤ (ka : Int) := by omega
        have lan : (ka : Int) < (nP : Int) := by omega
        obtain ⟨g,o,rfl,hgg,hcc⟩ := int_at (HPs.out w3 HB3.out) (k:=ka) (by rw [HNP.out]; exact la)
        clear hgg hcc
        obtain ⟨za,hza⟩ : ∃ z,gI P (ka : Int) = z := ⟨_,rfl⟩
        have HZa := keep hza
        have HG : Hid (∀ v W,IntsX W (Nw w2 W) [za] v → Below w2.heap.size w2 W → RSeenP T _ _ P w (.returned v) W) := fun v W h1 h2 => HPost.out v W (by rw [hsl]; unfold sl; simp [bitOn,HE16.out,hza]; exact h1) h2
        clear hsl HPost HEq HRng rB rC rD hza
        obtain ⟨_,_,ee,_,ca⟩ := int_at (HPs.out w3 HB3.out) (k:=ka) (by rw [HNP.out]; exact la)
        cases ee
        rw [HZa.out] at ca
        obtain ⟨u0,hu0⟩ : ∃ y,w3.alloc (.cells #[.int .i64 za] 3) = y := ⟨_,rfl⟩
        have HBu0 : Hid (Below w3.heap.size w3 u0) := by show Below _ _ _; rw [← hu0]; exact (Below.refl _ _).alloc (Nat.le_refl _) _
        have HIu0 : Hid (IntsIs u0 u0.heap.size [za] (.slice (some ⟨w3.heap.size,0,none⟩) 1 1)) := by
         have h := ints_new w3 [za] (by simp)
         show IntsIs _ _ _ _
         rw [← hu0]; exact h
        have HRu0 : Hid (RowI u0 w3.heap.size (.slice none 0 0) []) := RowX.fs (l:=[]) nestI_nest HRow.out (Fs.of_below HBu0.out) (by simp)
        have HSu0 : Hid (w3.heap.size ≤ u0.heap.size) := by have h4 := HBu0.out.size; show _ ≤ _; omega
        have HUu0 := keep hu0
        clear hu0
        go_wp2_with (first | rw [HUu0.out] | (at_builtin; refine wpList_append_ints rfl (.tmp 48) (.tmp 54) rfl w3.heap.size u0.heap.size _ _ [] [za] rfl rfl HRu0.out HIu0.out HSu0.out (by simp) ?_) | fail)
        intro p0 n0 c0 v0 hr0 hb0
        have HRow := keep hr0
        have HBW0 : Hid (Below w3.heap.size w3 v0) := HBu0.out.trans hb0
        have HB0v : Hid (Below w2.heap.size w2 v0) := HB3.out.trans (HBW0.out.mono HB3.out.size)
        have HSz1 : Hid (w3.heap.size ≤ v0.heap.size) := HBW0.out.size
        have kX := HBx.out v0 HB0v.out
        clear hr0 hb0 x0 x1 x2 x3 x4 ca
        have x0 := kX.cell 0 rfl
        have x1 := kX.cell 1 rfl
        have x2 := kX.cell 2 rfl
        have x3 := kX.cell 3 rfl
        have x4 := kX.cell 4 rfl
        clear kX
        go_wp2_with fail
        go_ret
        exact HG.out _ _ (by simpa using RowI.intsX HRow.out (by simp) (Nw w2 _) (fun i h1 h2 => ⟨Nat.le_trans HB3.out.size h1,h2⟩)) HB0v.out
      ·have e16 : ((k : Int) != 16) = true := by rw [bne_iff_ne]; omega
       have e16v : ¬ (k : Int) = 16 ∧ ¬ (k : Int) = 17 := by omega
       obtain rfl | rfl | rfl | rfl | rfl | rfl | rfl | rfl : n = 0 ∨ n = 1 ∨ n = 2 ∨ n = 3 ∨ n = 4 ∨ n = 5 ∨ n = 6 ∨ n = 7 := by omega
       ·have rA := True.intro
        have rB := True.intro
        have rC := True.intro
        have rD := True.intro
        have HE16 := keep e16v
        clear hA hB hC hD nm e16v k17 k16
        have HRow : Hid (RowI w3 w3.heap.size (.slice none 0 0) []) := RowX.nil _ _
        have HG : Hid (∀ v W,IntsX W (Nw w2 W) [] v → Below w2.heap.size w2 W → RSeenP T _ _ P w (.returned v) W) := fun v W h1 h2 => HPost.out v W (by rw [hsl]; unfold sl; simp [bitOn,HE16.out]; exact h1) h2
        clear hsl HPost HEq HRng rA rB rC rD
        go_wp2_with fail
        go_ret
        exact HG.out _ _ (intsX_nil _ _) HB3.out
       ·have rA := hA (by decide)
        have rB := True.intro
        have rC := True.intro
        have rD := True.intro
        have HE16 := keep e16v
        clear hA hB hC hD nm e16v k17 k16
        have HRow : Hid (RowI w3 w3.heap.size (.slice none 0 0) []) := RowX.nil _ _
        obtain ⟨ka,rfl,la⟩ := rA
        have la0 : (0 : Int) ≤ (ka : Int) := by omega
        have lan : (ka : Int) < (nP : Int) := by omega
        obtain ⟨g,o,rfl,hgg,hcc⟩ := int_at (HPs.out w3 HB3.out) (k:=ka) (by rw [HNP.out]; exact la)
        clear hgg hcc
        obtain ⟨za,hza⟩ : ∃ z,gI P (ka : Int) = z := ⟨_,rfl⟩
        have HZa := keep hza
        have HG : Hid (∀ v W,IntsX W (Nw w2 W) [za] v → Below w2.heap.size w2 W → RSeenP T _ _ P w (.returned v) W) := fun v W h1 h2 => HPost.out v W (by rw [hsl]; unfold sl; simp [bitOn,HE16.out,hza]; exact h1) h2
        clear hsl HPost HEq HRng rB rC rD hza
        obtain ⟨_,_,ee,_,ca⟩ := int_at (HPs.out w3 HB3.out) (k:=ka) (by rw [HNP.out]; exact la)
        cases ee
        rw [HZa.out] at ca
        obtain ⟨u0,hu0⟩ : ∃ y,w3.alloc (.cells #[.int .i64 za] 3) = y := ⟨_,rfl⟩
        have HBu0 : Hid (Below w3.heap.size w3 u0) := by show Below _ _ _; rw [← hu0]; exact (Below.refl _ _).alloc (Nat.le_refl _) _
        have HIu0 : Hid (IntsIs u0 u0.heap.size [za] (.slice (some ⟨w3.heap.size,0,none⟩) 1 1)) := by
         have h := ints_new w3 [za] (by simp)
         show IntsIs _ _ _ _
         rw [← hu0]; exact h
        have HRu0 : Hid (RowI u0 w3.heap.size (.slice none 0 0) []) := RowX.fs (l:=[]) nestI_nest HRow.out (Fs.of_below HBu0.out) (by simp)
        have HSu0 : Hid (w3.heap.size ≤ u0.heap.size) := by have h4 := HBu0.out.size; show _ ≤ _; omega
        have HUu0 := keep hu0
        clear hu0
        go_wp2_with (first | rw [HUu0.out] | (at_builtin; refine wpList_append_ints rfl (.tmp 48) (.tmp 54) rfl w3.heap.size u0.heap.size _ _ [] [za] rfl rfl HRu0.out HIu0.out HSu0.out (by simp) ?_) | fail)
        intro p0 n0 c0 v0 hr0 hb0
        have HRow := keep hr0
        have HBW0 : Hid (Below w3.heap.size w3 v0) := HBu0.out.trans hb0
        have HB0v : Hid (Below w2.heap.size w2 v0) := HB3.out.trans (HBW0.out.mono HB3.out.size)
        have HSz1 : Hid (w3.heap.size ≤ v0.heap.size) := HBW0.out.size
        have kX := HBx.out v0 HB0v.out
        clear hr0 hb0 x0 x1 x2 x3 x4 ca
        have x0 := kX.cell 0 rfl
        have x1 := kX.cell 1 rfl
        have x2 := kX.cell 2 rfl
        have x3 := kX.cell 3 rfl
        have x4 := kX.cell 4 rfl
        clear kX
        go_wp2_with fail
        go_ret
        exact HG.out _ _ (by simpa using RowI.intsX HRow.out (by simp) (Nw w2 _) (fun i h1 h2 => ⟨Nat.le_trans HB3.out.size h1,h2⟩)) HB0v.out
       ·have rA := True.intro
        have rB := hB (by decide) k17
        have rC := True.intro
        have rD := True.intro
        have HE16 := keep e16v
        clear hA hB hC hD nm e16v k17 k16
        have HRow : Hid (RowI w3 w3.heap.size (.slice none 0 0) []) := RowX.nil _ _
        obtain ⟨kb,rfl,lb⟩ := rB
        have lb0 : (0 : Int) ≤ (kb : Int) := by omega
        have lbn : (kb : Int) < (nP : Int) := by omega
        obtain ⟨g,o,rfl,hgg,hcc⟩ := int_at (HPs.out w3 HB3.out) (k:=kb) (by rw [HNP.out]; exact lb)
        clear hgg hcc
        obtain ⟨zb,hzb⟩ : ∃ z,gI P (kb : Int) = z := ⟨_,rfl⟩
        have HZb := keep hzb
        have HG : Hid (∀ v W,IntsX W (Nw w2 W) [zb] v → Below w2.heap.size w2 W → RSeenP T _ _ P w (.returned v) W) := fun v W h1 h2 => HPost.out v W (by rw [hsl]; unfold sl; simp [bitOn,HE16.out,hzb]; exact h1) h2
        clear hsl HPost HEq HRng rA rC rD hzb
        obtain ⟨_,_,ee,_,cb⟩ := int_at (HPs.out w3 HB3.out) (k:=kb) (by rw [HNP.out]; exact lb)
        cases ee
        rw [HZb.out] at cb
        obtain ⟨u0,hu0⟩ : ∃ y,w3.alloc (.cells #[.int .i64 zb] 3) = y := ⟨_,rfl⟩
        have HBu0 : Hid (Below w3.heap.size w3 u0) := by show Below _ _ _; rw [← hu0]; exact (Below.refl _ _).alloc (Nat.le_refl _) _
        have HIu0 : Hid (IntsIs u0 u0.heap.size [zb] (.slice (some ⟨w3.heap.size,0,none⟩) 1 1)) := by
         have h := ints_new w3 [zb] (by simp)
         show IntsIs _ _ _ _
         rw [← hu0]; exact h
        have HRu0 : Hid (RowI u0 w3.heap.size (.slice none 0 0) []) := RowX.fs (l:=[]) nestI_nest HRow.out (Fs.of_below HBu0.out) (by simp)
        have HSu0 : Hid (w3.heap.size ≤ u0.heap.size) := by have h4 := HBu0.out.size; show _ ≤ _; omega
        have HUu0 := keep hu0
        clear hu0
        go_wp2_with (first | rw [HUu0.out] | (at_builtin; refine wpList_append_ints rfl (.tmp 82) (.tmp 88) rfl w3.heap.size u0.heap.size _ _ [] [zb] rfl rfl HRu0.out HIu0.out HSu0.out (by simp) ?_) | fail)
        intro p0 n0 c0 v0 hr0 hb0
        have HRow := keep hr0
        have HBW0 : Hid (Below w3.heap.size w3 v0) := HBu0.out.trans hb0
        have HB0v : Hid (Below w2.heap.size w2 v0) := HB3.out.trans (HBW0.out.mono HB3.out.size)
        have HSz1 : Hid (w3.heap.size ≤ v0.heap.size) := HBW0.out.size
        have kX := HBx.out v0 HB0v.out
        clear hr0 hb0 x0 x1 x2 x3 x4 cb
        have x0 := kX.cell 0 rfl
        have x1 := kX.cell 1 rfl
        have x2 := kX.cell 2 rfl
        have x3 := kX.cell 3 rfl
        have x4 := kX.cell 4 rfl
        clear kX
        go_wp2_with fail
        go_ret
        exact HG.out _ _ (by simpa using RowI.intsX HRow.out (by simp) (Nw w2 _) (fun i h1 h2 => ⟨Nat.le_trans HB3.out.size h1,h2⟩)) HB0v.out
       ·have rA := hA (by decide)
        have rB := hB (by decide) k17
        have rC := True.intro
        have rD := True.intro
        have HE16 := keep e16v
        clear hA hB hC hD nm e16v k17 k16
        have HRow : Hid (RowI w3 w3.heap.size (.slice none 0 0) []) := RowX.nil _ _
        obtain ⟨ka,rfl,la⟩ := rA
        have la0 : (0 : Int) ≤ (ka : Int) := by omega
        have lan : (ka : Int) < (nP : Int) := by omega
        obtain ⟨kb,rfl,lb⟩ := rB
        have lb0 : (0 : Int) ≤ (kb : Int) := by omega
        have lbn : (kb : Int) < (nP : Int) := by omega
        obtain ⟨g,o,rfl,hgg,hcc⟩ := int_at (HPs.out w3 HB3.out) (k:=ka) (by rw [HNP.out]; exact la)
        clear hgg hcc
        obtain ⟨za,hza⟩ : ∃ z,gI P (ka : Int) = z := ⟨_,rfl⟩
        have HZa := keep hza
        obtain ⟨zb,hzb⟩ : ∃ z,gI P (kb : Int) = z := ⟨_,rfl⟩
        have HZb := keep hzb
        have HG : Hid (∀ v W,IntsX W (Nw w2 W) [za,zb] v → Below w2.heap.size w2 W → RSeenP T _ _ P w (.returned v) W) := fun v W h1 h2 => HPost.out v W (by rw [hsl]; unfold sl; simp [bitOn,HE16.out,hza,hzb]; exact h1) h2
        clear hsl HPost HEq HRng rC rD hza hzb
        obtain ⟨_,_,ee,_,ca⟩ := int_at (HPs.out w3 HB3.out) (k:=ka) (by rw [HNP.out]; exact la)
        cases ee
        rw [HZa.out] at ca
        obtain ⟨u0,hu0⟩ : ∃ y,w3.alloc (.cells #[.int .i64 za] 3) = y := ⟨_,rfl⟩
        have HBu0 : Hid (Below w3.heap.size w3 u0) := by show Below _ _ _; rw [← hu0]; exact (Below.refl _ _).alloc (Nat.le_refl _) _
        have HIu0 : Hid (IntsIs u0 u0.heap.size [za] (.slice (some ⟨w3.heap.size,0,none⟩) 1 1)) := by
         have h := ints_new w3 [za] (by simp)
         show IntsIs _ _ _ _
         rw [← hu0]; exact h
        have HRu0 : Hid (RowI u0 w3.heap.size (.slice none 0 0) []) := RowX.fs (l:=[]) nestI_nest HRow.out (Fs.of_below HBu0.out) (by simp)
        have HSu0 : Hid (w3.heap.size ≤ u0.heap.size) := by have h4 := HBu0.out.size; show _ ≤ _; omega
        have HUu0 := keep hu0
        clear hu0
        go_wp2_with (first | rw [HUu0.out] | (at_builtin; refine wpList_append_ints rfl (.tmp 48) (.tmp 54) rfl w3.heap.size u0.heap.size _ _ [] [za] rfl rfl HRu0.out HIu0.out HSu0.out (by simp) ?_) | fail)
        intro p0 n0 c0 v0 hr0 hb0
        have HRow := keep hr0
        have HBW0 : Hid (Below w3.heap.size w3 v0) := HBu0.out.trans hb0
        have HB0v : Hid (Below w2.heap.size w2 v0) := HB3.out.trans (HBW0.out.mono HB3.out.size)
        have HSz1 : Hid (w3.heap.size ≤ v0.heap.size) := HBW0.out.size
        have kX := HBx.out v0 HB0v.out
        clear hr0 hb0 x0 x1 x2 x3 x4 ca
        have x0 := kX.cell 0 rfl
        have x1 := kX.cell 1 rfl
        have x2 := kX.cell 2 rfl
        have x3 := kX.cell 3 rfl
        have x4 := kX.cell 4 rfl
        clear kX
        obtain ⟨_,_,ee,_,cb⟩ := int_at (HPs.out v0 HB0v.out) (k:=kb) (by rw [HNP.out]; exact lb)
        cases ee
        rw [HZb.out] at cb
        obtain ⟨u1,hu1⟩ : ∃ y,v0.alloc (.cells #[.int .i64 zb] 3) = y := ⟨_,rfl⟩
        have HBu1 : Hid (Below v0.heap.size v0 u1) := by show Below _ _ _; rw [← hu1]; exact (Below.refl _ _).alloc (Nat.le_refl _) _
        have HIu1 : Hid (IntsIs u1 u1.heap.size [zb] (.slice (some ⟨v0.heap.size,0,none⟩) 1 1)) := by
         have h := ints_new v0 [zb] (by simp)
         show IntsIs _ _ _ _
         rw [← hu1]; exact h
        have HRu1 : Hid (RowI u1 w3.heap.size (.slice p0 n0 c0) ([] ++ [za])) := RowX.fs (l:=[]) nestI_nest HRow.out (Fs.of_below HBu1.out) (by simp)
        have HSu1 : Hid (w3.heap.size ≤ u1.heap.size) := by have h4 := HBu1.out.size; have h5 := HSz1.out; show _ ≤ _; omega
        have HUu1 := keep hu1
        clear hu1
        go_wp2_with (first | rw [HUu1.out] | (at_builtin; refine wpList_append_ints rfl (.tmp 82) (.tmp 88) rfl w3.heap.size u1.heap.size _ _ ([] ++ [za]) [zb] rfl rfl HRu1.out HIu1.out HSu1.out (by simp) ?_) | fail)
        intro p1 n1 c1 v1 hr1 hb1
        have HRow := keep hr1
        have HBW1 : Hid (Below w3.heap.size w3 v1) := HBW0.out.trans ((HBu1.out.mono HBW0.out.size).trans hb1)
        have HB1v : Hid (Below w2.heap.size w2 v1) := HB3.out.trans (HBW1.out.mono HB3.out.size)
        have HSz2 : Hid (w3.heap.size ≤ v1.heap.size) := HBW1.out.size
        have kX := HBx.out v1 HB1v.out
        clear hr1 hb1 x0 x1 x2 x3 x4 cb
        have x0 := kX.cell 0 rfl
        have x1 := kX.cell 1 rfl
        have x2 := kX.cell 2 rfl
        have x3 := kX.cell 3 rfl
        have x4 := kX.cell 4 rfl
        clear kX
        go_wp2_with fail
        go_ret
        exact HG.out _ _ (by simpa using RowI.intsX HRow.out (by simp) (Nw w2 _) (fun i h1 h2 => ⟨Nat.le_trans HB3.out.size h1,h2⟩)) HB1v.out
       ·have rA := True.intro
        have rB := True.intro
        have rC := hC (by decide)
        have rD := True.intro
        have HE16 := keep e16v
        clear hA hB hC hD nm e16v k17 k16
        have HRow : Hid (RowI w3 w3.heap.size (.slice none 0 0) []) := RowX.nil _ _
        obtain ⟨kc,rfl,lc⟩ := rC
        have lc0 : (0 : Int) ≤ (kc : Int) := by omega
        have lcn : (kc : Int) < (nP : Int) := by omega
        obtain ⟨g,o,rfl,hgg,hcc⟩ := int_at (HPs.out w3 HB3.out) (k:=kc) (by rw [HNP.out]; exact lc)
        clear hgg hcc
        obtain ⟨zc,hzc⟩ : ∃ z,gI P (kc : Int) = z := ⟨_,rfl⟩
        have HZc := keep hzc
        have HG : Hid (∀ v W,IntsX W (Nw w2 W) [zc] v → Below w2.heap.size w2 W → RSeenP T _ _ P w (.returned v) W) := fun v W h1 h2 => HPost.out v W (by rw [hsl]; unfold sl; simp [bitOn,HE16.out,hzc]; exact h1) h2
        clear hsl HPost HEq HRng rA rB rD hzc
        obtain ⟨_,_,ee,_,cc⟩ := int_at (HPs.out w3 HB3.out) (k:=kc) (by rw [HNP.out]; exact lc)
        cases ee
        rw [HZc.out] at cc
        obtain ⟨u0,hu0⟩ : ∃ y,w3.alloc (.cells #[.int .i64 zc] 3) = y := ⟨_,rfl⟩
        have HBu0 : Hid (Below w3.heap.size w3 u0) := by show Below _ _ _; rw [← hu0]; exact (Below.refl _ _).alloc (Nat.le_refl _) _
        have HIu0 : Hid (IntsIs u0 u0.heap.size [zc] (.slice (some ⟨w3.heap.size,0,none⟩) 1 1)) := by
         have h := ints_new w3 [zc] (by simp)
         show IntsIs _ _ _ _
         rw [← hu0]; exact h
        have HRu0 : Hid (RowI u0 w3.heap.size (.slice none 0 0) []) := RowX.fs (l:=[]) nestI_nest HRow.out (Fs.of_below HBu0.out) (by simp)
        have HSu0 : Hid (w3.heap.size ≤ u0.heap.size) := by have h4 := HBu0.out.size; show _ ≤ _; omega
        have HUu0 := keep hu0
        clear hu0
        go_wp2_with (first | rw [HUu0.out] | (at_builtin; refine wpList_append_ints rfl (.tmp 94) (.tmp 100) rfl w3.heap.size u0.heap.size _ _ [] [zc] rfl rfl HRu0.out HIu0.out HSu0.out (by simp) ?_) | fail)
        intro p0 n0 c0 v0 hr0 hb0
        have HRow := keep hr0
        have HBW0 : Hid (Below w3.heap.size w3 v0) := HBu0.out.trans hb0
        have HB0v : Hid (Below w2.heap.size w2 v0) := HB3.out.trans (HBW0.out.mono HB3.out.size)
        have HSz1 : Hid (w3.heap.size ≤ v0.heap.size) := HBW0.out.size
        have kX := HBx.out v0 HB0v.out
        clear hr0 hb0 x0 x1 x2 x3 x4 cc
        have x0 := kX.cell 0 rfl
        have x1 := kX.cell 1 rfl
        have x2 := kX.cell 2 rfl
        have x3 := kX.cell 3 rfl
        have x4 := kX.cell 4 rfl
        clear kX
        go_wp2_with fail
        go_ret
        exact HG.out _ _ (by simpa using RowI.intsX HRow.out (by simp) (Nw w2 _) (fun i h1 h2 => ⟨Nat.le_trans HB3.out.size h1,h2⟩)) HB0v.out
       ·have rA := hA (by decide)
        have rB := True.intro
        have rC := hC (by decide)
        have rD := True.intro
        have HE16 := keep e16v
        clear hA hB hC hD nm e16v k17 k16
        have HRow : Hid (RowI w3 w3.heap.size (.slice none 0 0) []) := RowX.nil _ _
        obtain ⟨ka,rfl,la⟩ := rA
        have la0 : (0 : Int) ≤ (ka : Int) := by omega
        have lan : (ka : Int) < (nP : Int) := by omega
        obtain ⟨kc,rfl,lc⟩ := rC
        have lc0 : (0 : Int) ≤ (kc : Int) := by omega
        have lcn : (kc : Int) < (nP : Int) := by omega
        obtain ⟨g,o,rfl,hgg,hcc⟩ := int_at (HPs.out w3 HB3.out) (k:=ka) (by rw [HNP.out]; exact la)
        clear hgg hcc
        obtain ⟨za,hza⟩ : ∃ z,gI P (ka : Int) = z := ⟨_,rfl⟩
        have HZa := keep hza
        obtain ⟨zc,hzc⟩ : ∃ z,gI P (kc : Int) = z := ⟨_,rfl⟩
        have HZc := keep hzc
        have HG : Hid (∀ v W,IntsX W (Nw w2 W) [za,zc] v → Below w2.heap.size w2 W → RSeenP T _ _ P w (.returned v) W) := fun v W h1 h2 => HPost.out v W (by rw [hsl]; unfold sl; simp [bitOn,HE16.out,hza,hzc]; exact h1) h2
        clear hsl HPost HEq HRng rB rD hza hzc
        obtain ⟨_,_,ee,_,ca⟩ := int_at (HPs.out w3 HB3.out) (k:=ka) (by rw [HNP.out]; exact la)
        cases ee
        rw [HZa.out] at ca
        obtain ⟨u0,hu0⟩ : ∃ y,w3.alloc (.cells #[.int .i64 za] 3) = y := ⟨_,rfl⟩
        have HBu0 : Hid (Below w3.heap.size w3 u0) := by show Below _ _ _; rw [← hu0]; exact (Below.refl _ _).alloc (Nat.le_refl _) _
        have HIu0 : Hid (IntsIs u0 u0.heap.size [za] (.slice (some ⟨w3.heap.size,0,none⟩) 1 1)) := by
         have h := ints_new w3 [za] (by simp)
         show IntsIs _ _ _ _
         rw [← hu0]; exact h
        have HRu0 : Hid (RowI u0 w3.heap.size (.slice none 0 0) []) := RowX.fs (l:=[]) nestI_nest HRow.out (Fs.of_below HBu0.out) (by simp)
        have HSu0 : Hid (w3.heap.size ≤ u0.heap.size) := by have h4 := HBu0.out.size; show _ ≤ _; omega
        have HUu0 := keep hu0
        clear hu0
        go_wp2_with (first | rw [HUu0.out] | (at_builtin; refine wpList_append_ints rfl (.tmp 48) (.tmp 54) rfl w3.heap.size u0.heap.size _ _ [] [za] rfl rfl HRu0.out HIu0.out HSu0.out (by simp) ?_) | fail)
        intro p0 n0 c0 v0 hr0 hb0
        have HRow := keep hr0
        have HBW0 : Hid (Below w3.heap.size w3 v0) := HBu0.out.trans hb0
        have HB0v : Hid (Below w2.heap.size w2 v0) := HB3.out.trans (HBW0.out.mono HB3.out.size)
        have HSz1 : Hid (w3.heap.size ≤ v0.heap.size) := HBW0.out.size
        have kX := HBx.out v0 HB0v.out
        clear hr0 hb0 x0 x1 x2 x3 x4 ca
        have x0 := kX.cell 0 rfl
        have x1 := kX.cell 1 rfl
        have x2 := kX.cell 2 rfl
        have x3 := kX.cell 3 rfl
        have x4 := kX.cell 4 rfl
        clear kX
        obtain ⟨_,_,ee,_,cc⟩ := int_at (HPs.out v0 HB0v.out) (k:=kc) (by rw [HNP.out]; exact lc)
        cases ee
        rw [HZc.out] at cc
        obtain ⟨u1,hu1⟩ : ∃ y,v0.alloc (.cells #[.int .i64 zc] 3) = y := ⟨_,rfl⟩
        have HBu1 : Hid (Below v0.heap.size v0 u1) := by show Below _ _ _; rw [← hu1]; exact (Below.refl _ _).alloc (Nat.le_refl _) _
        have HIu1 : Hid (IntsIs u1 u1.heap.size [zc] (.slice (some ⟨v0.heap.size,0,none⟩) 1 1)) := by
         have h := ints_new v0 [zc] (by simp)
         show IntsIs _ _ _ _
         rw [← hu1]; exact h
        have HRu1 : Hid (RowI u1 w3.heap.size (.slice p0 n0 c0) ([] ++ [za])) := RowX.fs (l:=[]) nestI_nest HRow.out (Fs.of_below HBu1.out) (by simp)
        have HSu1 : Hid (w3.heap.size ≤ u1.heap.size) := by have h4 := HBu1.out.size; have h5 := HSz1.out; show _ ≤ _; omega
        have HUu1 := keep hu1
        clear hu1
        go_wp2_with (first | rw [HUu1.out] | (at_builtin; refine wpList_append_ints rfl (.tmp 94) (.tmp 100) rfl w3.heap.size u1.heap.size _ _ ([] ++ [za]) [zc] rfl rfl HRu1.out HIu1.out HSu1.out (by simp) ?_) | fail)
        intro p1 n1 c1 v1 hr1 hb1
        have HRow := keep hr1
        have HBW1 : Hid (Below w3.heap.size w3 v1) := HBW0.out.trans ((HBu1.out.mono HBW0.out.size).trans hb1)
        have HB1v : Hid (Below w2.heap.size w2 v1) := HB3.out.trans (HBW1.out.mono HB3.out.size)
        have HSz2 : Hid (w3.heap.size ≤ v1.heap.size) := HBW1.out.size
        have kX := HBx.out v1 HB1v.out
        clear hr1 hb1 x0 x1 x2 x3 x4 cc
        have x0 := kX.cell 0 rfl
        have x1 := kX.cell 1 rfl
        have x2 := kX.cell 2 rfl
        have x3 := kX.cell 3 rfl
        have x4 := kX.cell 4 rfl
        clear kX
        go_wp2_with fail
        go_ret
        exact HG.out _ _ (by simpa using RowI.intsX HRow.out (by simp) (Nw w2 _) (fun i h1 h2 => ⟨Nat.le_trans HB3.out.size h1,h2⟩)) HB1v.out
       ·have rA := True.intro
        have rB := hB (by decide) k17
        have rC := hC (by decide)
        have rD := True.intro
        have HE16 := keep e16v
        clear hA hB hC hD nm e16v k17 k16
        have HRow : Hid (RowI w3 w3.heap.size (.slice none 0 0) []) := RowX.nil _ _
        obtain ⟨kb,rfl,lb⟩ := rB
        have lb0 : (0 : Int) ≤ (kb : Int) := by omega
        have lbn : (kb : Int) < (nP : Int) := by omega
        obtain ⟨kc,rfl,lc⟩ := rC
        have lc0 : (0 : Int) ≤ (kc : Int) := by omega
        have lcn : (kc : Int) < (nP : Int) := by omega
        obtain ⟨g,o,rfl,hgg,hcc⟩ := int_at (HPs.out w3 HB3.out) (k:=kb) (by rw [HNP.out]; exact lb)
        clear hgg hcc
        obtain ⟨zb,hzb⟩ : ∃ z,gI P (kb : Int) = z := ⟨_,rfl⟩
        have HZb := keep hzb
        obtain ⟨zc,hzc⟩ : ∃ z,gI P (kc : Int) = z := ⟨_,rfl⟩
        have HZc := keep hzc
        have HG : Hid (∀ v W,IntsX W (Nw w2 W) [zb,zc] v → Below w2.heap.size w2 W → RSeenP T _ _ P w (.returned v) W) := fun v W h1 h2 => HPost.out v W (by rw [hsl]; unfold sl; simp [bitOn,HE16.out,hzb,hzc]; exact h1) h2
        clear hsl HPost HEq HRng rA rD hzb hzc
        obtain ⟨_,_,ee,_,cb⟩ := int_at (HPs.out w3 HB3.out) (k:=kb) (by rw [HNP.out]; exact lb)
        cases ee
        rw [HZb.out] at cb
        obtain ⟨u0,hu0⟩ : ∃ y,w3.alloc (.cells #[.int .i64 zb] 3) = y := ⟨_,rfl⟩
        have HBu0 : Hid (Below w3.heap.size w3 u0) := by show Below _ _ _; rw [← hu0]; exact (Below.refl _ _).alloc (Nat.le_refl _) _
        have HIu0 : Hid (IntsIs u0 u0.heap.size [zb] (.slice (some ⟨w3.heap.size,0,none⟩) 1 1)) := by
         have h := ints_new w3 [zb] (by simp)
         show IntsIs _ _ _ _
         rw [← hu0]; exact h
        have HRu0 : Hid (RowI u0 w3.heap.size (.slice none 0 0) []) := RowX.fs (l:=[]) nestI_nest HRow.out (Fs.of_below HBu0.out) (by simp)
        have HSu0 : Hid (w3.heap.size ≤ u0.heap.size) := by have h4 := HBu0.out.size; show _ ≤ _; omega
        have HUu0 := keep hu0
        clear hu0
        go_wp2_with (first | rw [HUu0.out] | (at_builtin; refine wpList_append_ints rfl (.tmp 82) (.tmp 88) rfl w3.heap.size u0.heap.size _ _ [] [zb] rfl rfl HRu0.out HIu0.out HSu0.out (by simp) ?_) | fail)
        intro p0 n0 c0 v0 hr0 hb0
        have HRow := keep hr0
        have HBW0 : Hid (Below w3.heap.size w3 v0) := HBu0.out.trans hb0
        have HB0v : Hid (Below w2.heap.size w2 v0) := HB3.out.trans (HBW0.out.mono HB3.out.size)
        have HSz1 : Hid (w3.heap.size ≤ v0.heap.size) := HBW0.out.size
        have kX := HBx.out v0 HB0v.out
        clear hr0 hb0 x0 x1 x2 x3 x4 cb
        have x0 := kX.cell 0 rfl
        have x1 := kX.cell 1 rfl
        have x2 := kX.cell 2 rfl
        have x3 := kX.cell 3 rfl
        have x4 := kX.cell 4 rfl
        clear kX
        obtain ⟨_,_,ee,_,cc⟩ := int_at (HPs.out v0 HB0v.out) (k:=kc) (by rw [HNP.out]; exact lc)
        cases ee
        rw [HZc.out] at cc
        obtain ⟨u1,hu1⟩ : ∃ y,v0.alloc (.cells #[.int .i64 zc] 3) = y := ⟨_,rfl⟩
        have HBu1 : Hid (Below v0.heap.size v0 u1) := by show Below _ _ _; rw [← hu1]; exact (Below.refl _ _).alloc (Nat.le_refl _) _
        have HIu1 : Hid (IntsIs u1 u1.heap.size [zc] (.slice (some ⟨v0.heap.size,0,none⟩) 1 1)) := by
         have h := ints_new v0 [zc] (by simp)
         show IntsIs _ _ _ _
         rw [← hu1]; exact h
        have HRu1 : Hid (RowI u1 w3.heap.size (.slice p0 n0 c0) ([] ++ [zb])) := RowX.fs (l:=[]) nestI_nest HRow.out (Fs.of_below HBu1.out) (by simp)
        have HSu1 : Hid (w3.heap.size ≤ u1.heap.size) := by have h4 := HBu1.out.size; have h5 := HSz1.out; show _ ≤ _; omega
        have HUu1 := keep hu1
        clear hu1
        go_wp2_with (first | rw [HUu1.out] | (at_builtin; refine wpList_append_ints rfl (.tmp 94) (.tmp 100) rfl w3.heap.size u1.heap.size _ _ ([] ++ [zb]) [zc] rfl rfl HRu1.out HIu1.out HSu1.out (by simp) ?_) | fail)
        intro p1 n1 c1 v1 hr1 hb1
        have HRow := keep hr1
        have HBW1 : Hid (Below w3.heap.size w3 v1) := HBW0.out.trans ((HBu1.out.mono HBW0.out.size).trans hb1)
        have HB1v : Hid (Below w2.heap.size w2 v1) := HB3.out.trans (HBW1.out.mono HB3.out.size)
        have HSz2 : Hid (w3.heap.size ≤ v1.heap.size) := HBW1.out.size
        have kX := HBx.out v1 HB1v.out
        clear hr1 hb1 x0 x1 x2 x3 x4 cc
        have x0 := kX.cell 0 rfl
        have x1 := kX.cell 1 rfl
        have x2 := kX.cell 2 rfl
        have x3 := kX.cell 3 rfl
        have x4 := kX.cell 4 rfl
        clear kX
        go_wp2_with fail
        go_ret
        exact HG.out _ _ (by simpa using RowI.intsX HRow.out (by simp) (Nw w2 _) (fun i h1 h2 => ⟨Nat.le_trans HB3.out.size h1,h2⟩)) HB1v.out
       ·have rA := hA (by decide)
        have rB := hB (by decide) k17
        have rC := hC (by decide)
        have rD := True.intro
        have HE16 := keep e16v
        clear hA hB hC hD nm e16v k17 k16
        have HRow : Hid (RowI w3 w3.heap.size (.slice none 0 0) []) := RowX.nil _ _
        obtain ⟨ka,rfl,la⟩ := rA
        have la0 : (0 : Int) ≤ (ka : Int) := by omega
        have lan : (ka : Int) < (nP : Int) := by omega
        obtain ⟨kb,rfl,lb⟩ := rB
        have lb0 : (0 : Int) ≤ (kb : Int) := by omega
        have lbn : (kb : Int) < (nP : Int) := by omega
        obtain ⟨kc,rfl,lc⟩ := rC
        have lc0 : (0 : Int) ≤ (kc : Int) := by omega
        have lcn : (kc : Int) < (nP : Int) := by omega
        obtain ⟨g,o,rfl,hgg,hcc⟩ := int_at (HPs.out w3 HB3.out) (k:=ka) (by rw [HNP.out]; exact la)
        clear hgg hcc
        obtain ⟨za,hza⟩ : ∃ z,gI P (ka : Int) = z := ⟨_,rfl⟩
        have HZa := keep hza
        obtain ⟨zb,hzb⟩ : ∃ z,gI P (kb : Int) = z := ⟨_,rfl⟩
        have HZb := keep hzb
        obtain ⟨zc,hzc⟩ : ∃ z,gI P (kc : Int) = z := ⟨_,rfl⟩
        have HZc := keep hzc
        have HG : Hid (∀ v W,IntsX W (Nw w2 W) [za,zb,zc] v → Below w2.heap.size w2 W → RSeenP T _ _ P w (.returned v) W) := fun v W h1 h2 => HPost.out v W (by rw [hsl]; unfold sl; simp [bitOn,HE16.out,hza,hzb,hzc]; exact h1) h2
        clear hsl HPost HEq HRng rD hza hzb hzc
        obtain ⟨_,_,ee,_,ca⟩ := int_at (HPs.out w3 HB3.out) (k:=ka) (by rw [HNP.out]; exact la)
        cases ee
        rw [HZa.out] at ca
        obtain ⟨u0,hu0⟩ : ∃ y,w3.alloc (.cells #[.int .i64 za] 3) = y := ⟨_,rfl⟩
        have HBu0 : Hid (Below w3.heap.size w3 u0) := by show Below _ _ _; rw [← hu0]; exact (Below.refl _ _).alloc (Nat.le_refl _) _
        have HIu0 : Hid (IntsIs u0 u0.heap.size [za] (.slice (some ⟨w3.heap.size,0,none⟩) 1 1)) := by
         have h := ints_new w3 [za] (by simp)
         show IntsIs _ _ _ _
         rw [← hu0]; exact h
        have HRu0 : Hid (RowI u0 w3.heap.size (.slice none 0 0) []) := RowX.fs (l:=[]) nestI_nest HRow.out (Fs.of_below HBu0.out) (by simp)
        have HSu0 : Hid (w3.heap.size ≤ u0.heap.size) := by have h4 := HBu0.out.size; show _ ≤ _; omega
        have HUu0 := keep hu0
        clear hu0
        go_wp2_with (first | rw [HUu0.out] | (at_builtin; refine wpList_append_ints rfl (.tmp 48) (.tmp 54) rfl w3.heap.size u0.heap.size _ _ [] [za] rfl rfl HRu0.out HIu0.out HSu0.out (by simp) ?_) | fail)
        intro p0 n0 c0 v0 hr0 hb0
        have HRow := keep hr0
        have HBW0 : Hid (Below w3.heap.size w3 v0) := HBu0.out.trans hb0
        have HB0v : Hid (Below w2.heap.size w2 v0) := HB3.out.trans (HBW0.out.mono HB3.out.size)
        have HSz1 : Hid (w3.heap.size ≤ v0.heap.size) := HBW0.out.size
        have kX := HBx.out v0 HB0v.out
        clear hr0 hb0 x0 x1 x2 x3 x4 ca
        have x0 := kX.cell 0 rfl
        have x1 := kX.cell 1 rfl
        have x2 := kX.cell 2 rfl
        have x3 := kX.cell 3 rfl
        have x4 := kX.cell 4 rfl
        clear kX
        obtain ⟨_,_,ee,_,cb⟩ := int_at (HPs.out v0 HB0v.out) (k:=kb) (by rw [HNP.out]; exact lb)
        cases ee
        rw [HZb.out] at cb
        obtain ⟨u1,hu1⟩ : ∃ y,v0.alloc (.cells #[.int .i64 zb] 3) = y := ⟨_,rfl⟩
        have HBu1 : Hid (Below v0.heap.size v0 u1) := by show Below _ _ _; rw [← hu1]; exact (Below.refl _ _).alloc (Nat.le_refl _) _
        have HIu1 : Hid (IntsIs u1 u1.heap.size [zb] (.slice (some ⟨v0.heap.size,0,none⟩) 1 1)) := by
         have h := ints_new v0 [zb] (by simp)
         show IntsIs _ _ _ _
         rw [← hu1]; exact h
        have HRu1 : Hid (RowI u1 w3.heap.size (.slice p0 n0 c0) ([] ++ [za])) := RowX.fs (l:=[]) nestI_nest HRow.out (Fs.of_below HBu1.out) (by simp)
        have HSu1 : Hid (w3.heap.size ≤ u1.heap.size) := by have h4 := HBu1.out.size; have h5 := HSz1.out; show _ ≤ _; omega
        have HUu1 := keep hu1
        clear hu1
        go_wp2_with (first | rw [HUu1.out] | (at_builtin; refine wpList_append_ints rfl (.tmp 82) (.tmp 88) rfl w3.heap.size u1.heap.size _ _ ([] ++ [za]) [zb] rfl rfl HRu1.out HIu1.out HSu1.out (by simp) ?_) | fail)
        intro p1 n1 c1 v1 hr1 hb1
        have HRow := keep hr1
        have HBW1 : Hid (Below w3.heap.size w3 v1) := HBW0.out.trans ((HBu1.out.mono HBW0.out.size).trans hb1)
        have HB1v : Hid (Below w2.heap.size w2 v1) := HB3.out.trans (HBW1.out.mono HB3.out.size)
        have HSz2 : Hid (w3.heap.size ≤ v1.heap.size) := HBW1.out.size
        have kX := HBx.out v1 HB1v.out
        clear hr1 hb1 x0 x1 x2 x3 x4 cb
        have x0 := kX.cell 0 rfl
        have x1 := kX.cell 1 rfl
        have x2 := kX.cell 2 rfl
        have x3 := kX.cell 3 rfl
        have x4 := kX.cell 4 rfl
        clear kX
        obtain ⟨_,_,ee,_,cc⟩ := int_at (HPs.out v1 HB1v.out) (k:=kc) (by rw [HNP.out]; exact lc)
        cases ee
        rw [HZc.out] at cc
        obtain ⟨u2,hu2⟩ : ∃ y,v1.alloc (.cells #[.int .i64 zc] 3) = y := ⟨_,rfl⟩
        have HBu2 : Hid (Below v1.heap.size v1 u2) := by show Below _ _ _; rw [← hu2]; exact (Below.refl _ _).alloc (Nat.le_refl _) _
        have HIu2 : Hid (IntsIs u2 u2.heap.size [zc] (.slice (some ⟨v1.heap.size,0,none⟩) 1 1)) := by
         have h := ints_new v1 [zc] (by simp)
         show IntsIs _ _ _ _
         rw [← hu2]; exact h
        have HRu2 : Hid (RowI u2 w3.heap.size (.slice p1 n1 c1) (([] ++ [za]) ++ [zb])) := RowX.fs (l:=[]) nestI_nest HRow.out (Fs.of_below HBu2.out) (by simp)
        have HSu2 : Hid (w3.heap.size ≤ u2.heap.size) := by have h4 := HBu2.out.size; have h5 := HSz2.out; show _ ≤ _; omega
        have HUu2 := keep hu2
        clear hu2
        go_wp2_with (first | rw [HUu2.out] | (at_builtin; refine wpList_append_ints rfl (.tmp 94) (.tmp 100) rfl w3.heap.size u2.heap.size _ _ (([] ++ [za]) ++ [zb]) [zc] rfl rfl HRu2.out HIu2.out HSu2.out (by simp) ?_) | fail)
        intro p2 n2 c2 v2 hr2 hb2
        have HRow := keep hr2
        have HBW2 : Hid (Below w3.heap.size w3 v2) := HBW1.out.trans ((HBu2.out.mono HBW1.out.size).trans hb2)
        have HB2v : Hid (Below w2.heap.size w2 v2) := HB3.out.trans (HBW2.out.mono HB3.out.size)
        have HSz3 : Hid (w3.heap.size ≤ v2.heap.size) := HBW2.out.size
        have kX := HBx.out v2 HB2v.out
        clear hr2 hb2 x0 x1 x2 x3 x4 cc
        have x0 := kX.cell 0 rfl
        have x1 := kX.cell 1 rfl
        have x2 := kX.cell 2 rfl
        have x3 := kX.cell 3 rfl
        have x4 := kX.cell 4 rfl
        clear kX
        go_wp2_with fail
        go_ret
        exact HG.out _ _ (by simpa using RowI.intsX HRow.out (by simp) (Nw w2 _) (fun i h1 h2 => ⟨Nat.le_trans HB3.out.size h1,h2⟩)) HB2v.out
end Go.Proofs.Ytpnacanbknejiaa.Fl
