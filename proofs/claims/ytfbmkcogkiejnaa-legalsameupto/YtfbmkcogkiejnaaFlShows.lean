/- Whether an instruction shows what is secret, by a table: the document's own Shows. Written by tools/gen_flshows.py. -/
import Derived.Test.YtfbmkcogkiejnaaFlRun
namespace Go.Proofs.Ytfbmkcogkiejnaa.Fl
set_option maxHeartbeats 32000000
set_option maxRecDepth 100000
set_option linter.unusedVariables false
set_option linter.unusedSimpArgs false
open Go.ChangeShapes Go.WideShapes Go.ChangeAt Go.RowKit Lg Lr
def TabR (T : Nat → Int) : Prop := T 0 = 0 ∧ ∀ k,1 ≤ k → k ≤ 17 → 0 ≤ T k ∧ T k ≤ Tb.most k
theorem most_7 (k : Nat) (h : k ≤ 17) : Tb.most k ≤ 7 := by
 have : ∀ j : Fin 18,Tb.most j.val ≤ 7 := by decide
 exact this ⟨k,by omega⟩
theorem TabR.t7 {T : Nat → Int} (h : TabR T) : T7 T := fun k h1 h2 => ⟨(h.2 k h1 h2).1,Int.le_trans (h.2 k h1 h2).2 (most_7 k h2)⟩
theorem most_0 (k : Nat) (h1 : 1 ≤ k) (h2 : k ≤ 17) (h : 1 ≤ Tb.most k) : k ≠ 14 := by
 intro e; subst e; exact absurd h (by decide)
theorem most_1 (k : Nat) (h1 : 1 ≤ k) (h2 : k ≤ 17) (h : 2 ≤ Tb.most k) : k ≤ 13 ∨ k = 17 := by
 have : ∀ j : Fin 18,2 ≤ Tb.most j.val → j.val ≤ 13 ∨ j.val = 17 := by decide
 exact this ⟨k,by omega⟩ h
theorem most_2 (k : Nat) (h1 : 1 ≤ k) (h2 : k ≤ 17) (h : 4 ≤ Tb.most k) : k = 13 := by
 have : ∀ j : Fin 18,4 ≤ Tb.most j.val → j.val = 13 := by decide
 exact this ⟨k,by omega⟩ h
theorem rds_a {i : Ix} {k : Nat} (hi : i.op = (k : Int)) (h1 : 1 ≤ k) (h2 : k ≤ 17) (h : k ≠ 14) : i.a ∈ rds i := by
 unfold rds
 rw [hi]
 split
 ·simp
 ·split
  ·simp
  ·split
   ·simp
   ·split
    ·simp
    ·omega
theorem rds_b {i : Ix} {k : Nat} (hi : i.op = (k : Int)) (h1 : 1 ≤ k) (h2 : k ≤ 13) : i.b ∈ rds i := by
 unfold rds
 rw [hi]
 split
 ·simp
 ·rw [if_pos (by omega)]; simp
theorem rds_d {i : Ix} (hi : i.op = 17) : i.d ∈ rds i := by
 unfold rds
 rw [hi,if_neg (by omega),if_neg (by omega),if_pos rfl]; simp
theorem rds_c {i : Ix} (hi : i.op = 13) : i.c ∈ rds i := by
 unfold rds
 rw [hi,if_neg (by omega),if_pos rfl]; simp
theorem bool_at {w : World} {B : Nat} {l : List Bool} {p : Option Addr} {n c : Nat} (h : BoolsIs w B l (.slice p n c)) {k : Nat} (hk : k < l.length) : ∃ g o,p = some ⟨g,o,none⟩ ∧ g < B ∧ w.cell? ⟨g,o + k,none⟩ = some (.bool (gB l (k : Int))) := by
 obtain ⟨q1,q2,q3,q4,q5,q6,q7,q8⟩ := h
 cases q4
 have e : l[k]? = some (gB l (k : Int)) := by
  unfold gB
  rw [Int.toNat_natCast,List.getD_eq_getElem?_getD,List.getElem?_eq_getElem hk]; rfl
 exact q8 k _ e
theorem shows_any (B : Nat) (f : Fx) (s1 s2 s3 : Value) (T : Nat → Int) (i : Ix) (k0 : Nat) (w : World) (hB : B ≤ w.heap.size) (h : FxIs w B f s1 s2 s3) (hf : Fine f k0 i) (hT : TabR T) :
  Calls Try.prog 28 #[.agg (fxA f s1 s2 s3),.agg (Tb.tabA T),.agg (ixA i)] w fun r w' => r = .returned (.bool (shw f T i)) ∧ Below w.heap.size w w' := by
 obtain ⟨p1,n1,c1,hs1,hx1⟩ := id h.code
 obtain ⟨p2,n2,c2,hs2,hl2,hx2⟩ := id h.sec
 obtain ⟨p3,n3,c3,hs3,hx3⟩ := id h.arrs
 subst hs1 hs2 hs3
 obtain ⟨op,d,a,b,c,imm⟩ := i
 obtain ⟨pr,hpr⟩ : ∃ k : Int,f.params = k := ⟨f.params,rfl⟩
 obtain ⟨w1,hw1⟩ : ∃ y,w.alloc (.cells #[.slice p1 n1 c1,.slice p2 n2 c2,.int .i64 pr,.slice p3 n3 c3] 26) = y := ⟨_,rfl⟩
 obtain ⟨w2,hw2⟩ : ∃ y,w1.alloc (.cells (Tb.tabA T) 29) = y := ⟨_,rfl⟩
 obtain ⟨w3,hw3⟩ : ∃ y,w2.alloc (.cells #[.int .i64 op,.int .i64 d,.int .i64 a,.int .i64 b,.int .i64 c,.int .i64 imm] 35) = y := ⟨_,rfl⟩
 obtain ⟨F,hF⟩ : ∃ y,w.heap.size = y := ⟨_,rfl⟩
 obtain ⟨G,hG⟩ : ∃ y,w1.heap.size = y := ⟨_,rfl⟩
 obtain ⟨X,hX⟩ : ∃ y,w2.heap.size = y := ⟨_,rfl⟩
 have b1 : Below w.heap.size w w1 := by rw [← hw1]; exact (Below.refl _ _).alloc (Nat.le_refl _) _
 have b2 : Below w1.heap.size w1 w2 := by rw [← hw2]; exact (Below.refl _ _).alloc (Nat.le_refl _) _
 have b3 : Below w2.heap.size w2 w3 := by rw [← hw3]; exact (Below.refl _ _).alloc (Nat.le_refl _) _
 have b23 := b2.trans (b3.mono b2.size)
 have b13 := b1.trans (b23.mono b1.size)
 have kF1 : Bk w1 F [.slice p1 n1 c1,.slice p2 n2 c2,.int .i64 pr,.slice p3 n3 c3] 26 := by rw [← hw1,← hF]; exact Bk.new _ _ _
 have kF := kF1.fs (Fs.of_below (l:=[]) b23) (by simp)
 have kX : Bk w3 X [.int .i64 op,.int .i64 d,.int .i64 a,.int .i64 b,.int .i64 c,.int .i64 imm] 35 := by rw [← hw3,← hX]; exact Bk.new _ _ _
 have tC : ∀ k,k < 18 → w3.cell? ⟨G,k,none⟩ = some (.int .i64 (T k)) := fun k hk => by
  have h1 : Tb.Blk w2 G T := by rw [← hw2,← hG]; exact Tb.blk_alloc _ _
  have h2 := h1.lies k hk
  rw [cell_below b3 (by rw [← hG,← hw2]; simp)]
  exact h2
 have HSec := keep ((h.below (b13.mono hB)).sec)
 have HBw : Hid (Below w.heap.size w w3) := b13
 have HW1 := keep hw1
 have HW2 := keep hw2
 have HW3 := keep hw3
 have HF := keep hF
 have HG := keep hG
 have HX := keep hX
 have HPr := keep hpr
 have hRng : ∀ p : Int,p ∈ rds ⟨op,d,a,b,c,imm⟩ → ∃ kp : Nat,p = (kp : Int) ∧ kp < n2 := fun p hp => by
  obtain ⟨h0,h1⟩ := hf.r p hp
  exact ⟨p.toNat,by omega,by omega⟩
 have o1 : 1 ≤ op := hf.o1
 have o2 : op ≤ 21 := hf.o2
 have HL2 := keep hl2
 have x0 := kX.cell 0 rfl
 have x1 := kX.cell 1 rfl
 have x2 := kX.cell 2 rfl
 have x3 := kX.cell 3 rfl
 have x4 := kX.cell 4 rfl
 have y1 := kF.cell 1 rfl
 have h1' : decide (op < 1) = false := decide_eq_false (by omega)
 obtain ⟨R,hR⟩ : ∃ R,shw f T ⟨op,d,a,b,c,imm⟩ = R := ⟨_,rfl⟩
 rw [hR]
 have HR := keep hR
 unfold fxA ixA
 rw [hpr]
 dsimp only
 clear hw1 hw2 hw3 hF hG hX b1 b2 b3 b23 b13 kF1 kF kX hx1 hx2 hx3 h hB hpr hf hR hl2
 by_cases h17 : 17 < op
 ·have d17 : decide (17 < op) = true := decide_eq_true h17
  have HE : Hid (R = false) := by show _ = _; rw [← HR.out]; unfold shw; rw [if_pos (.inr h17)]
  clear tC hT hRng o1 o2 h17 y1 x1 x2 x3 x4 HR HSec HL2
  go_enter Try.func28,Try.ntmps28
  go_wp2_with (first | rw [HW1.out] | rw [HW2.out] | rw [HW3.out] | rw [HF.out] | rw [HG.out] | rw [HX.out] | fail)
  go_ret
  exact ⟨by rw [HE.out]; rfl,by first | exact HBw.out | (rw [← HF.out]; exact HBw.out)⟩
 ·obtain ⟨k,rfl⟩ : ∃ k : Nat,op = (k : Int) := ⟨op.toNat,by omega⟩
  have q1 : 1 ≤ k := by omega
  have q2 : k ≤ 17 := by omega
  obtain ⟨t1,t2⟩ := hT.2 k q1 q2
  have t7 := most_7 k q2
  have tk := tC k (by omega)
  have hk0 : (0 : Int) ≤ (k : Int) := by omega
  have hk18 : (k : Int) < 18 := by omega
  have d17 : decide (17 < (k : Int)) = false := decide_eq_false h17
  have hF : shw f T ⟨(k : Int),d,a,b,c,imm⟩ = (bitOn (T k) 0 && gB f.sec a || bitOn (T k) 1 && decide ((k : Int) ≠ 16) && gB f.sec (if (k : Int) = 17 then d else b) || bitOn (T k) 2 && gB f.sec c) := by
   unfold shw
   rw [if_neg (show ¬ ((k : Int) < 1 ∨ 17 < (k : Int)) by omega)]
   rfl
  rw [HR.out] at hF
  have rA : 1 ≤ T k → ∃ kp : Nat,a = (kp : Int) ∧ kp < n2 := fun hh => hRng _ (rds_a (k:=k) rfl q1 q2 (most_0 k q1 q2 (by omega)))
  have rB : 2 ≤ T k → k ≠ 17 → ∃ kp : Nat,b = (kp : Int) ∧ kp < n2 := fun hh h7 => hRng _ (rds_b (k:=k) rfl q1 (by have := most_1 k q1 q2 (by omega); omega))
  have rC : 4 ≤ T k → ∃ kp : Nat,c = (kp : Int) ∧ kp < n2 := fun hh => hRng _ (rds_c (by have := most_2 k q1 q2 (by omega); show (k : Int) = 13; omega))
  have rD : k = 17 → ∃ kp : Nat,d = (kp : Int) ∧ kp < n2 := fun hh => hRng _ (rds_d (by show (k : Int) = 17; omega))
  have hle : T k ≤ Tb.most k := t2
  obtain ⟨n,hn⟩ : ∃ n,T k = n := ⟨_,rfl⟩
  rw [hn] at rA rB rC hle tk hF t1
  have hn7 : n ≤ 7 := by omega
  clear tC hT hRng o1 o2 h17 t2 t7 hn HR
  by_cases k17 : k = 17
  ·rw [decide_eq_true (show (k : Int) ≠ 16 by omega),if_pos (show (k : Int) = 17 by omega)] at hF
   have e17 : ((k : Int) == 17) = true := by simp; omega
   have e16 : ((k : Int) != 16) = true := by rw [bne_iff_ne]; omega
   have hn3 : n ≤ 3 := by rw [k17] at hle; exact hle
   clear hle hn7 rB rC
   obtain ⟨kd,rfl,ld⟩ := rD k17
   clear rD k17
   obtain ⟨g,o,rfl,hg,cd⟩ := bool_at HSec.out (k:=kd) (by rw [HL2.out]; exact ld)
   clear hg
   obtain rfl | rfl | rfl | rfl : n = 0 ∨ n = 1 ∨ n = 2 ∨ n = 3 := by omega
   ·have HE : Hid (R = false) := by show _ = _; rw [hF]; simp [bitOn]
    clear hF HSec HL2 rA
    go_enter Try.func28,Try.ntmps28
    go_wp2_with (first | rw [HW1.out] | rw [HW2.out] | rw [HW3.out] | rw [HF.out] | rw [HG.out] | rw [HX.out] | fail)
    go_ret
    exact ⟨by rw [HE.out]; rfl,by first | exact HBw.out | (rw [← HF.out]; exact HBw.out)⟩
   ·obtain ⟨ka,rfl,la⟩ := rA (by decide)
    obtain ⟨_,_,ee,_,ca⟩ := bool_at HSec.out (k:=ka) (by rw [HL2.out]; exact la)
    cases ee
    obtain ⟨va,ea⟩ : ∃ v,gB f.sec (ka : Int) = v := ⟨_,rfl⟩
    rw [ea] at ca
    have la0 : (0 : Int) ≤ (ka : Int) := by omega
    have lan : (ka : Int) < (n2 : Int) := by omega
    cases va with
    | true =>
     have HE : Hid (R = true) := by show _ = _; rw [hF]; simp [bitOn,ea]
     clear hF HSec HL2 rA
     go_enter Try.func28,Try.ntmps28
     go_wp2_with (first | rw [HW1.out] | rw [HW2.out] | rw [HW3.out] | rw [HF.out] | rw [HG.out] | rw [HX.out] | fail)
     go_ret
     exact ⟨by rw [HE.out]; rfl,by first | exact HBw.out | (rw [← HF.out]; exact HBw.out)⟩
    | false =>
     have HE : Hid (R = false) := by show _ = _; rw [hF]; simp [bitOn,ea]
     clear hF HSec HL2 rA
     go_enter Try.func28,Try.ntmps28
     go_wp2_with (first | rw [HW1.out] | rw [HW2.out] | rw [HW3.out] | rw [HF.out] | rw [HG.out] | rw [HX.out] | fail)
     go_ret
     exact ⟨by rw [HE.out]; rfl,by first | exact HBw.out | (rw [← HF.out]; exact HBw.out)⟩
   ·obtain ⟨vd,ed⟩ : ∃ v,gB f.sec (kd : Int) = v := ⟨_,rfl⟩
    rw [ed] at cd
    have ld0 : (0 : Int) ≤ (kd : Int) := by omega
    have ldn : (kd : Int) < (n2 : Int) := by omega
    cases vd with
    | true =>
     have HE : Hid (R = true) := by show _ = _; rw [hF]; simp [bitOn,ed]
     clear hF HSec HL2 rA
     go_enter Try.func28,Try.ntmps28
     go_wp2_with (first | rw [HW1.out] | rw [HW2.out] | rw [HW3.out] | rw [HF.out] | rw [HG.out] | rw [HX.out] | fail)
     go_ret
     exact ⟨by rw [HE.out]; rfl,by first | exact HBw.out | (rw [← HF.out]; exact HBw.out)⟩
    | false =>
     have HE : Hid (R = false) := by show _ = _; rw [hF]; simp [bitOn,ed]
     clear hF HSec HL2 rA
     go_enter Try.func28,Try.ntmps28
     go_wp2_with (first | rw [HW1.out] | rw [HW2.out] | rw [HW3.out] | rw [HF.out] | rw [HG.out] | rw [HX.out] | fail)
     go_ret
     exact ⟨by rw [HE.out]; rfl,by first | exact HBw.out | (rw [← HF.out]; exact HBw.out)⟩
   ·obtain ⟨ka,rfl,la⟩ := rA (by decide)
    obtain ⟨_,_,ee,_,ca⟩ := bool_at HSec.out (k:=ka) (by rw [HL2.out]; exact la)
    cases ee
    obtain ⟨va,ea⟩ : ∃ v,gB f.sec (ka : Int) = v := ⟨_,rfl⟩
    rw [ea] at ca
    have la0 : (0 : Int) ≤ (ka : Int) := by omega
    have lan : (ka : Int) < (n2 : Int) := by omega
    cases va with
    | true =>
     have HE : Hid (R = true) := by show _ = _; rw [hF]; simp [bitOn,ea]
     clear hF HSec HL2 rA
     go_enter Try.func28,Try.ntmps28
     go_wp2_with (first | rw [HW1.out] | rw [HW2.out] | rw [HW3.out] | rw [HF.out] | rw [HG.out] | rw [HX.out] | fail)
     go_ret
     exact ⟨by rw [HE.out]; rfl,by first | exact HBw.out | (rw [← HF.out]; exact HBw.out)⟩
    | false =>
     obtain ⟨vd,ed⟩ : ∃ v,gB f.sec (kd : Int) = v := ⟨_,rfl⟩
     rw [ed] at cd
     have ld0 : (0 : Int) ≤ (kd : Int) := by omega
     have ldn : (kd : Int) < (n2 : Int) := by omega
     cases vd with
     | true =>
      have HE : Hid (R = true) := by show _ = _; rw [hF]; simp [bitOn,ea,ed]
      clear hF HSec HL2 rA
      go_enter Try.func28,Try.ntmps28
      go_wp2_with (first | rw [HW1.out] | rw [HW2.out] | rw [HW3.out] | rw [HF.out] | rw [HG.out] | rw [HX.out] | fail)
      go_ret
      exact ⟨by rw [HE.out]; rfl,by first | exact HBw.out | (rw [← HF.out]; exact HBw.out)⟩
     | false =>
      have HE : Hid (R = false) := by show _ = _; rw [hF]; simp [bitOn,ea,ed]
      clear hF HSec HL2 rA
      go_enter Try.func28,Try.ntmps28
      go_wp2_with (first | rw [HW1.out] | rw [HW2.out] | rw [HW3.out] | rw [HF.out] | rw [HG.out] | rw [HX.out] | fail)
      go_ret
      exact ⟨by rw [HE.out]; rfl,by first | exact HBw.out | (rw [← HF.out]; exact HBw.out)⟩
  ·have e17 : ((k : Int) == 17) = false := by simp; omega
   by_cases k16 : k = 16
   ·rw [decide_eq_false (show ¬ (k : Int) ≠ 16 by omega),if_neg (show ¬ (k : Int) = 17 by omega)] at hF
    have e16 : ((k : Int) != 16) = false := by simp; omega
    have hn1 : n ≤ 1 := by rw [k16] at hle; exact hle
    clear hle hn7 rB rC rD k17 k16
    obtain rfl | rfl : n = 0 ∨ n = 1 := by omega
    ·have HE : Hid (R = false) := by show _ = _; rw [hF]; simp [bitOn]
     clear hF HSec HL2 rA
     go_enter Try.func28,Try.ntmps28
     go_wp2_with (first | rw [HW1.out] | rw [HW2.out] | rw [HW3.out] | rw [HF.out] | rw [HG.out] | rw [HX.out] | fail)
     go_ret
     exact ⟨by rw [HE.out]; rfl,by first | exact HBw.out | (rw [← HF.out]; exact HBw.out)⟩
    ·obtain ⟨ka,rfl,la⟩ := rA (by decide)
     obtain ⟨g,o,rfl,hg,ca⟩ := bool_at HSec.out (k:=ka) (by rw [HL2.out]; exact la)
     clear hg
     obtain ⟨va,ea⟩ : ∃ v,gB f.sec (ka : Int) = v := ⟨_,rfl⟩
     rw [ea] at ca
     have la0 : (0 : Int) ≤ (ka : Int) := by omega
     have lan : (ka : Int) < (n2 : Int) := by omega
     cases va with
     | true =>
      have HE : Hid (R = true) := by show _ = _; rw [hF]; simp [bitOn,ea]
      clear hF HSec HL2 rA
      go_enter Try.func28,Try.ntmps28
      go_wp2_with (first | rw [HW1.out] | rw [HW2.out] | rw [HW3.out] | rw [HF.out] | rw [HG.out] | rw [HX.out] | fail)
      go_ret
      exact ⟨by rw [HE.out]; rfl,by first | exact HBw.out | (rw [← HF.out]; exact HBw.out)⟩
     | false =>
      have HE : Hid (R = false) := by show _ = _; rw [hF]; simp [bitOn,ea]
      clear hF HSec HL2 rA
      go_enter Try.func28,Try.ntmps28
      go_wp2_with (first | rw [HW1.out] | rw [HW2.out] | rw [HW3.out] | rw [HF.out] | rw [HG.out] | rw [HX.out] | fail)
      go_ret
      exact ⟨by rw [HE.out]; rfl,by first | exact HBw.out | (rw [← HF.out]; exact HBw.out)⟩
   ·have e16 : ((k : Int) != 16) = true := by rw [bne_iff_ne]; omega
    rw [decide_eq_true (show (k : Int) ≠ 16 by omega),if_neg (show ¬ (k : Int) = 17 by omega)] at hF
    have rB' : 2 ≤ n → ∃ kp : Nat,b = (kp : Int) ∧ kp < n2 := fun hh => rB hh k17
    clear hle k17 k16 rB rD
    obtain rfl | rfl | rfl | rfl | rfl | rfl | rfl | rfl : n = 0 ∨ n = 1 ∨ n = 2 ∨ n = 3 ∨ n = 4 ∨ n = 5 ∨ n = 6 ∨ n = 7 := by omega
    ·have HE : Hid (R = false) := by show _ = _; rw [hF]; simp [bitOn]
     clear hF HSec HL2 rA rB' rC
     go_enter Try.func28,Try.ntmps28
     go_wp2_with (first | rw [HW1.out] | rw [HW2.out] | rw [HW3.out] | rw [HF.out] | rw [HG.out] | rw [HX.out] | fail)
     go_ret
     exact ⟨by rw [HE.out]; rfl,by first | exact HBw.out | (rw [← HF.out]; exact HBw.out)⟩
    ·obtain ⟨ka,rfl,la⟩ := rA (by decide)
     obtain ⟨g,o,rfl,hg,ca⟩ := bool_at HSec.out (k:=ka) (by rw [HL2.out]; exact la)
     clear hg
     obtain ⟨va,ea⟩ : ∃ v,gB f.sec (ka : Int) = v := ⟨_,rfl⟩
     rw [ea] at ca
     have la0 : (0 : Int) ≤ (ka : Int) := by omega
     have lan : (ka : Int) < (n2 : Int) := by omega
     cases va with
     | true =>
      have HE : Hid (R = true) := by show _ = _; rw [hF]; simp [bitOn,ea]
      clear hF HSec HL2 rA rB' rC
      go_enter Try.func28,Try.ntmps28
      go_wp2_with (first | rw [HW1.out] | rw [HW2.out] | rw [HW3.out] | rw [HF.out] | rw [HG.out] | rw [HX.out] | fail)
      go_ret
      exact ⟨by rw [HE.out]; rfl,by first | exact HBw.out | (rw [← HF.out]; exact HBw.out)⟩
     | false =>
      have HE : Hid (R = false) := by show _ = _; rw [hF]; simp [bitOn,ea]
      clear hF HSec HL2 rA rB' rC
      go_enter Try.func28,Try.ntmps28
      go_wp2_with (first | rw [HW1.out] | rw [HW2.out] | rw [HW3.out] | rw [HF.out] | rw [HG.out] | rw [HX.out] | fail)
      go_ret
      exact ⟨by rw [HE.out]; rfl,by first | exact HBw.out | (rw [← HF.out]; exact HBw.out)⟩
    ·obtain ⟨kb,rfl,lb⟩ := rB' (by decide)
     obtain ⟨g,o,rfl,hg,cb⟩ := bool_at HSec.out (k:=kb) (by rw [HL2.out]; exact lb)
     clear hg
     obtain ⟨vb,eb⟩ : ∃ v,gB f.sec (kb : Int) = v := ⟨_,rfl⟩
     rw [eb] at cb
     have lb0 : (0 : Int) ≤ (kb : Int) := by omega
     have lbn : (kb : Int) < (n2 : Int) := by omega
     cases vb with
     | true =>
      have HE : Hid (R = true) := by show _ = _; rw [hF]; simp [bitOn,eb]
      clear hF HSec HL2 rA rB' rC
      go_enter Try.func28,Try.ntmps28
      go_wp2_with (first | rw [HW1.out] | rw [HW2.out] | rw [HW3.out] | rw [HF.out] | rw [HG.out] | rw [HX.out] | fail)
      go_ret
      exact ⟨by rw [HE.out]; rfl,by first | exact HBw.out | (rw [← HF.out]; exact HBw.out)⟩
     | false =>
      have HE : Hid (R = false) := by show _ = _; rw [hF]; simp [bitOn,eb]
      clear hF HSec HL2 rA rB' rC
      go_enter Try.func28,Try.ntmps28
      go_wp2_with (first | rw [HW1.out] | rw [HW2.out] | rw [HW3.out] | rw [HF.out] | rw [HG.out] | rw [HX.out] | fail)
      go_ret
      exact ⟨by rw [HE.out]; rfl,by first | exact HBw.out | (rw [← HF.out]; exact HBw.out)⟩
    ·obtain ⟨ka,rfl,la⟩ := rA (by decide)
     obtain ⟨g,o,rfl,hg,ca⟩ := bool_at HSec.out (k:=ka) (by rw [HL2.out]; exact la)
     clear hg
     obtain ⟨va,ea⟩ : ∃ v,gB f.sec (ka : Int) = v := ⟨_,rfl⟩
     rw [ea] at ca
     have la0 : (0 : Int) ≤ (ka : Int) := by omega
     have lan : (ka : Int) < (n2 : Int) := by omega
     cases va with
     | true =>
      have HE : Hid (R = true) := by show _ = _; rw [hF]; simp [bitOn,ea]
      clear hF HSec HL2 rA rB' rC
      go_enter Try.func28,Try.ntmps28
      go_wp2_with (first | rw [HW1.out] | rw [HW2.out] | rw [HW3.out] | rw [HF.out] | rw [HG.out] | rw [HX.out] | fail)
      go_ret
      exact ⟨by rw [HE.out]; rfl,by first | exact HBw.out | (rw [← HF.out]; exact HBw.out)⟩
     | false =>
      obtain ⟨kb,rfl,lb⟩ := rB' (by decide)
      obtain ⟨_,_,ee,_,cb⟩ := bool_at HSec.out (k:=kb) (by rw [HL2.out]; exact lb)
      cases ee
      obtain ⟨vb,eb⟩ : ∃ v,gB f.sec (kb : Int) = v := ⟨_,rfl⟩
      rw [eb] at cb
      have lb0 : (0 : Int) ≤ (kb : Int) := by omega
      have lbn : (kb : Int) < (n2 : Int) := by omega
      cases vb with
      | true =>
       have HE : Hid (R = true) := by show _ = _; rw [hF]; simp [bitOn,ea,eb]
       clear hF HSec HL2 rA rB' rC
       go_enter Try.func28,Try.ntmps28
       go_wp2_with (first | rw [HW1.out] | rw [HW2.out] | rw [HW3.out] | rw [HF.out] | rw [HG.out] | rw [HX.out] | fail)
       go_ret
       exact ⟨by rw [HE.out]; rfl,by first | exact HBw.out | (rw [← HF.out]; exact HBw.out)⟩
      | false =>
       have HE : Hid (R = false) := by show _ = _; rw [hF]; simp [bitOn,ea,eb]
       clear hF HSec HL2 rA rB' rC
       go_enter Try.func28,Try.ntmps28
       go_wp2_with (first | rw [HW1.out] | rw [HW2.out] | rw [HW3.out] | rw [HF.out] | rw [HG.out] | rw [HX.out] | fail)
       go_ret
       exact ⟨by rw [HE.out]; rfl,by first | exact HBw.out | (rw [← HF.out]; exact HBw.out)⟩
    ·obtain ⟨kc,rfl,lc⟩ := rC (by decide)
     obtain ⟨g,o,rfl,hg,cc⟩ := bool_at HSec.out (k:=kc) (by rw [HL2.out]; exact lc)
     clear hg
     obtain ⟨vc,ec⟩ : ∃ v,gB f.sec (kc : Int) = v := ⟨_,rfl⟩
     rw [ec] at cc
     have lc0 : (0 : Int) ≤ (kc : Int) := by omega
     have lcn : (kc : Int) < (n2 : Int) := by omega
     cases vc with
     | true =>
      have HE : Hid (R = true) := by show _ = _; rw [hF]; simp [bitOn,ec]
      clear hF HSec HL2 rA rB' rC
      go_enter Try.func28,Try.ntmps28
      go_wp2_with (first | rw [HW1.out] | rw [HW2.out] | rw [HW3.out] | rw [HF.out] | rw [HG.out] | rw [HX.out] | fail)
      go_ret
      exact ⟨by rw [HE.out]; rfl,by first | exact HBw.out | (rw [← HF.out]; exact HBw.out)⟩
     | false =>
      have HE : Hid (R = false) := by show _ = _; rw [hF]; simp [bitOn,ec]
      clear hF HSec HL2 rA rB' rC
      go_enter Try.func28,Try.ntmps28
      go_wp2_with (first | rw [HW1.out] | rw [HW2.out] | rw [HW3.out] | rw [HF.out] | rw [HG.out] | rw [HX.out] | fail)
      go_ret
      exact ⟨by rw [HE.out]; rfl,by first | exact HBw.out | (rw [← HF.out]; exact HBw.out)⟩
    ·obtain ⟨ka,rfl,la⟩ := rA (by decide)
     obtain ⟨g,o,rfl,hg,ca⟩ := bool_at HSec.out (k:=ka) (by rw [HL2.out]; exact la)
     clear hg
     obtain ⟨va,ea⟩ : ∃ v,gB f.sec (ka : Int) = v := ⟨_,rfl⟩
     rw [ea] at ca
     have la0 : (0 : Int) ≤ (ka : Int) := by omega
     have lan : (ka : Int) < (n2 : Int) := by omega
     cases va with
     | true =>
      have HE : Hid (R = true) := by show _ = _; rw [hF]; simp [bitOn,ea]
      clear hF HSec HL2 rA rB' rC
      go_enter Try.func28,Try.ntmps28
      go_wp2_with (first | rw [HW1.out] | rw [HW2.out] | rw [HW3.out] | rw [HF.out] | rw [HG.out] | rw [HX.out] | fail)
      go_ret
      exact ⟨by rw [HE.out]; rfl,by first | exact HBw.out | (rw [← HF.out]; exact HBw.out)⟩
     | false =>
      obtain ⟨kc,rfl,lc⟩ := rC (by decide)
      obtain ⟨_,_,ee,_,cc⟩ := bool_at HSec.out (k:=kc) (by rw [HL2.out]; exact lc)
      cases ee
      obtain ⟨vc,ec⟩ : ∃ v,gB f.sec (kc : Int) = v := ⟨_,rfl⟩
      rw [ec] at cc
      have lc0 : (0 : Int) ≤ (kc : Int) := by omega
      have lcn : (kc : Int) < (n2 : Int) := by omega
      cases vc with
      | true =>
       have HE : Hid (R = true) := by show _ = _; rw [hF]; simp [bitOn,ea,ec]
       clear hF HSec HL2 rA rB' rC
       go_enter Try.func28,Try.ntmps28
       go_wp2_with (first | rw [HW1.out] | rw [HW2.out] | rw [HW3.out] | rw [HF.out] | rw [HG.out] | rw [HX.out] | fail)
       go_ret
       exact ⟨by rw [HE.out]; rfl,by first | exact HBw.out | (rw [← HF.out]; exact HBw.out)⟩
      | false =>
       have HE : Hid (R = false) := by show _ = _; rw [hF]; simp [bitOn,ea,ec]
       clear hF HSec HL2 rA rB' rC
       go_enter Try.func28,Try.ntmps28
       go_wp2_with (first | rw [HW1.out] | rw [HW2.out] | rw [HW3.out] | rw [HF.out] | rw [HG.out] | rw [HX.out] | fail)
       go_ret
       exact ⟨by rw [HE.out]; rfl,by first | exact HBw.out | (rw [← HF.out]; exact HBw.out)⟩
    ·obtain ⟨kb,rfl,lb⟩ := rB' (by decide)
     obtain ⟨g,o,rfl,hg,cb⟩ := bool_at HSec.out (k:=kb) (by rw [HL2.out]; exact lb)
     clear hg
     obtain ⟨vb,eb⟩ : ∃ v,gB f.sec (kb : Int) = v := ⟨_,rfl⟩
     rw [eb] at cb
     have lb0 : (0 : Int) ≤ (kb : Int) := by omega
     have lbn : (kb : Int) < (n2 : Int) := by omega
     cases vb with
     | true =>
      have HE : Hid (R = true) := by show _ = _; rw [hF]; simp [bitOn,eb]
      clear hF HSec HL2 rA rB' rC
      go_enter Try.func28,Try.ntmps28
      go_wp2_with (first | rw [HW1.out] | rw [HW2.out] | rw [HW3.out] | rw [HF.out] | rw [HG.out] | rw [HX.out] | fail)
      go_ret
      exact ⟨by rw [HE.out]; rfl,by first | exact HBw.out | (rw [← HF.out]; exact HBw.out)⟩
     | false =>
      obtain ⟨kc,rfl,lc⟩ := rC (by decide)
      obtain ⟨_,_,ee,_,cc⟩ := bool_at HSec.out (k:=kc) (by rw [HL2.out]; exact lc)
      cases ee
      obtain ⟨vc,ec⟩ : ∃ v,gB f.sec (kc : Int) = v := ⟨_,rfl⟩
      rw [ec] at cc
      have lc0 : (0 : Int) ≤ (kc : Int) := by omega
      have lcn : (kc : Int) < (n2 : Int) := by omega
      cases vc with
      | true =>
       have HE : Hid (R = true) := by show _ = _; rw [hF]; simp [bitOn,eb,ec]
       clear hF HSec HL2 rA rB' rC
       go_enter Try.func28,Try.ntmps28
       go_wp2_with (first | rw [HW1.out] | rw [HW2.out] | rw [HW3.out] | rw [HF.out] | rw [HG.out] | rw [HX.out] | fail)
       go_ret
       exact ⟨by rw [HE.out]; rfl,by first | exact HBw.out | (rw [← HF.out]; exact HBw.out)⟩
      | false =>
       have HE : Hid (R = false) := by show _ = _; rw [hF]; simp [bitOn,eb,ec]
       clear hF HSec HL2 rA rB' rC
       go_enter Try.func28,Try.ntmps28
       go_wp2_with (first | rw [HW1.out] | rw [HW2.out] | rw [HW3.out] | rw [HF.out] | rw [HG.out] | rw [HX.out] | fail)
       go_ret
       exact ⟨by rw [HE.out]; rfl,by first | exact HBw.out | (rw [← HF.out]; exact HBw.out)⟩
    ·obtain ⟨ka,rfl,la⟩ := rA (by decide)
     obtain ⟨g,o,rfl,hg,ca⟩ := bool_at HSec.out (k:=ka) (by rw [HL2.out]; exact la)
     clear hg
     obtain ⟨va,ea⟩ : ∃ v,gB f.sec (ka : Int) = v := ⟨_,rfl⟩
     rw [ea] at ca
     have la0 : (0 : Int) ≤ (ka : Int) := by omega
     have lan : (ka : Int) < (n2 : Int) := by omega
     cases va with
     | true =>
      have HE : Hid (R = true) := by show _ = _; rw [hF]; simp [bitOn,ea]
      clear hF HSec HL2 rA rB' rC
      go_enter Try.func28,Try.ntmps28
      go_wp2_with (first | rw [HW1.out] | rw [HW2.out] | rw [HW3.out] | rw [HF.out] | rw [HG.out] | rw [HX.out] | fail)
      go_ret
      exact ⟨by rw [HE.out]; rfl,by first | exact HBw.out | (rw [← HF.out]; exact HBw.out)⟩
     | false =>
      obtain ⟨kb,rfl,lb⟩ := rB' (by decide)
      obtain ⟨_,_,ee,_,cb⟩ := bool_at HSec.out (k:=kb) (by rw [HL2.out]; exact lb)
      cases ee
      obtain ⟨vb,eb⟩ : ∃ v,gB f.sec (kb : Int) = v := ⟨_,rfl⟩
      rw [eb] at cb
      have lb0 : (0 : Int) ≤ (kb : Int) := by omega
      have lbn : (kb : Int) < (n2 : Int) := by omega
      cases vb with
      | true =>
       have HE : Hid (R = true) := by show _ = _; rw [hF]; simp [bitOn,ea,eb]
       clear hF HSec HL2 rA rB' rC
       go_enter Try.func28,Try.ntmps28
       go_wp2_with (first | rw [HW1.out] | rw [HW2.out] | rw [HW3.out] | rw [HF.out] | rw [HG.out] | rw [HX.out] | fail)
       go_ret
       exact ⟨by rw [HE.out]; rfl,by first | exact HBw.out | (rw [← HF.out]; exact HBw.out)⟩
      | false =>
       obtain ⟨kc,rfl,lc⟩ := rC (by decide)
       obtain ⟨_,_,ee,_,cc⟩ := bool_at HSec.out (k:=kc) (by rw [HL2.out]; exact lc)
       cases ee
       obtain ⟨vc,ec⟩ : ∃ v,gB f.sec (kc : Int) = v := ⟨_,rfl⟩
       rw [ec] at cc
       have lc0 : (0 : Int) ≤ (kc : Int) := by omega
       have lcn : (kc : Int) < (n2 : Int) := by omega
       cases vc with
       | true =>
        have HE : Hid (R = true) := by show _ = _; rw [hF]; simp [bitOn,ea,eb,ec]
        clear hF HSec HL2 rA rB' rC
        go_enter Try.func28,Try.ntmps28
        go_wp2_with (first | rw [HW1.out] | rw [HW2.out] | rw [HW3.out] | rw [HF.out] | rw [HG.out] | rw [HX.out] | fail)
        go_ret
        exact ⟨by rw [HE.out]; rfl,by first | exact HBw.out | (rw [← HF.out]; exact HBw.out)⟩
       | false =>
        have HE : Hid (R = false) := by show _ = _; rw [hF]; simp [bitOn,ea,eb,ec]
        clear hF HSec HL2 rA rB' rC
        go_enter Try.func28,Try.ntmps28
        go_wp2_with (first | rw [HW1.out] | rw [HW2.out] | rw [HW3.out] | rw [HF.out] | rw [HG.out] | rw [HX.out] | fail)
        go_ret
        exact ⟨by rw [HE.out]; rfl,by first | exact HBw.out | (rw [← HF.out]; exact HBw.out)⟩
end Go.Proofs.Ytfbmkcogkiejnaa.Fl
