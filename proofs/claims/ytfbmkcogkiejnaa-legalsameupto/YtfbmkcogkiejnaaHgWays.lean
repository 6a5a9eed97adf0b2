/- The maker's ways that are calls one behind the other: down, top, double, all, choose, some, below, up. Written by tools/gen_hgways.py. -/
import Derived.Test.YtfbmkcogkiejnaaHgMade
namespace Go.Proofs.Ytfbmkcogkiejnaa.Hg
set_option maxHeartbeats 32000000
set_option maxRecDepth 100000
set_option linter.unusedVariables false
set_option linter.unusedSimpArgs false
open Go.ChangeShapes Go.WideShapes Go.ChangeAt Go.RowKit Go.Maps Lg Lr Fl
structure In (a : Int) (m : Mk) : Prop where
 p0 : 0 ≤ a
 p1 : a < m.sec.length
theorem In.stp {a : Int} {m : Mk} {k : Nat} {R : Int × Mk} (h : In a m) (s : Stp k m R) : In a R.2 := ⟨h.p0,by have h1 := h.p1; have h2 := s.ge; omega⟩
theorem Stp.in' {m : Mk} {k : Nat} {R : Int × Mk} (s : Stp k m R) : In R.1 R.2 := ⟨s.p0,s.p1⟩
structure Rdy (lo MB NB : Nat) (T : Nat → Int) (cv sv : Value) (m : Mk) (w : World) (K : Nat) : Prop where
 l0 : lo ≤ w.heap.size
 it : MkIs w lo MB NB T cv sv m
 t : TabR T
 g : Gd m
 s : m.sec.length + K ≤ 200000000
 c : m.code.length + K ≤ 200000000
 n : m.nums.length + K ≤ 100000
theorem Rdy.le {lo MB NB : Nat} {T : Nat → Int} {cv sv : Value} {m : Mk} {w : World} {K L : Nat} (h : Rdy lo MB NB T cv sv m w K) (hl : L ≤ K) : Rdy lo MB NB T cv sv m w L :=
 ⟨h.l0,h.it,h.t,h.g,by have := h.s; omega,by have := h.c; omega,by have := h.n; omega⟩
theorem Rdy.below {lo MB NB : Nat} {T : Nat → Int} {cv sv : Value} {m : Mk} {w w' : World} {K : Nat} (h : Rdy lo MB NB T cv sv m w K) (hb : Below w.heap.size w w') : Rdy lo MB NB T cv sv m w' K := ⟨Nat.le_trans h.l0 hb.size,h.it.below hb,h.t,h.g,h.s,h.c,h.n⟩
def Wq (k K lo MB NB : Nat) (T : Nat → Int) (cv sv : Value) (m : Mk) (R : Int × Mk) (w : World) (r : Ending) (w' : World) : Prop := ∃ cv' sv',r = .returned (.int .i64 R.1) ∧ Rdy lo MB NB T cv' sv' R.2 w' K ∧ MF MB NB cv sv w cv' sv' w' ∧ Stp k m R
theorem wq_of {k K lo MB NB : Nat} {T : Nat → Int} {cv sv : Value} {m : Mk} {R : Int × Mk} {w : World} {r : Ending} {w' : World} (hr : Rdy lo MB NB T cv sv m w (k + K)) (h : Wk lo MB NB T cv sv R w r w') (hs : Stp k m R) : Wq k K lo MB NB T cv sv m R w r w' := by
 obtain ⟨cv',sv',e,hm,hf⟩ := h
 obtain ⟨S,hS,hSl⟩ := hs.s
 obtain ⟨C,hC,hCl⟩ := hs.c
 have l1 := congrArg List.length hS
 have l2 := congrArg List.length hC
 rw [List.length_append] at l1 l2
 exact ⟨cv',sv',e,⟨Nat.le_trans hr.l0 hf.size,hm,hr.t,hs.gd,by have := hr.s; omega,by have := hr.c; omega,by have := hr.n; have := hs.n; omega⟩,hf,hs⟩
theorem two_q (K : Nat) {lo MB NB : Nat} {T : Nat → Int} {cv sv : Value} {m : Mk} {w : World} (op a b : Int) (h : Rdy lo MB NB T cv sv m w (1 + K)) (ho : 1 ≤ op ∧ op ≤ 12) (ha : In a m) (hb : In b m) : Calls Try.prog 83 #[.pointer (some ⟨MB,0,none⟩),.int .i64 op,.int .i64 a,.int .i64 b] w fun r w' => Wq 1 K lo MB NB T cv sv m (twoM T op a b m) w r w' :=
 (two_any lo MB NB T cv sv m op a b w h.l0 h.it h.t h.g ho ⟨ha.p0,ha.p1⟩ ⟨hb.p0,hb.p1⟩ (by have := h.s; omega) (by have := h.c; omega)).mono fun r w' hw => wq_of h hw (two_stp T op a b h.g)
theorem num_q (K : Nat) {lo MB NB : Nat} {T : Nat → Int} {cv sv : Value} {m : Mk} {w : World} (n : Int) (h : Rdy lo MB NB T cv sv m w (1 + K)) (hn : 0 ≤ n ∧ n ≤ 100) : Calls Try.prog 85 #[.pointer (some ⟨MB,0,none⟩),.int .i64 n] w fun r w' => Wq 1 K lo MB NB T cv sv m (numM T n m) w r w' :=
 (num_any lo MB NB T cv sv m n w h.l0 h.it h.t h.g hn (by have := h.n; omega) (by have := h.s; omega) (by have := h.c; omega)).mono fun r w' hw => wq_of h hw (num_stp T n h.g)
theorem down_q (K : Nat) {lo MB NB : Nat} {T : Nat → Int} {cv sv : Value} {m : Mk} {w : World} (a far : Int) (h : Rdy lo MB NB T cv sv m w (2 + K)) (ha : In a m) (hn : 0 ≤ far ∧ far ≤ 100) : Calls Try.prog 78 #[.pointer (some ⟨MB,0,none⟩),.int .i64 a,.int .i64 far] w fun r w' => Wq 2 K lo MB NB T cv sv m (downM T a far m) w r w' := by
 have HR0 := keep h
 have Ia := keep ha
 have HN := keep hn
 clear hn
 clear h ha
 go_enter Try.func78,Try.ntmps78
 have HC1 := keep (num_q (1 + K) far (HR0.out.le (by omega)) HN.out)
 obtain ⟨R1,hR⟩ : ∃ Q,numM T far m = Q := ⟨_,rfl⟩
 rw [hR] at HC1
 have HE1 := keep hR
 clear hR
 go_wp2_with fail
 refine HC1.out.mono ?_
 rintro r w1 ⟨cv1,sv1,rfl,hr',hf',hs'⟩
 have HR1 := keep hr'
 have HS1 := keep hs'
 have HF1 := keep hf'
 have HT1 := keep hs'
 clear hr' hf' hs' HC1
 have HC2 := keep (two_q (0 + K) 7 a R1.1 (HR1.out.le (by omega)) (by decide) (Ia.out.stp HT1.out) HT1.out.in')
 obtain ⟨R2,hR⟩ : ∃ Q,twoM T 7 a R1.1 R1.2 = Q := ⟨_,rfl⟩
 rw [hR] at HC2
 have HE2 := keep hR
 clear hR
 go_wp2_with fail
 refine HC2.out.mono ?_
 rintro r w2 ⟨cv2,sv2,rfl,hr',hf',hs'⟩
 have HR2 := keep hr'
 have HS2 := keep (HS1.out.then hs')
 have HF2 := keep (HF1.out.trans hf')
 have HT2 := keep hs'
 clear hr' hf' hs' HC2
 go_wp2
 go_ret
 have HEq : downM T a far m = R2 := by unfold downM; (try dsimp only); rw [HE1.out,HE2.out]
 rw [HEq]
 exact ⟨_,_,rfl,HR2.out.le (by omega),HF2.out,HS2.out.mono (by omega)⟩
theorem top_q (K : Nat) {lo MB NB : Nat} {T : Nat → Int} {cv sv : Value} {m : Mk} {w : World} (a : Int) (h : Rdy lo MB NB T cv sv m w (2 + K)) (ha : In a m)  : Calls Try.prog 96 #[.pointer (some ⟨MB,0,none⟩),.int .i64 a] w fun r w' => Wq 2 K lo MB NB T cv sv m (topM T a m) w r w' := by
 have HR0 := keep h
 have Ia := keep ha
 clear h ha
 go_enter Try.func96,Try.ntmps96
 have HC1 := keep (down_q (0 + K) a 31 (HR0.out.le (by omega)) Ia.out (by decide))
 obtain ⟨R1,hR⟩ : ∃ Q,downM T a 31 m = Q := ⟨_,rfl⟩
 rw [hR] at HC1
 have HE1 := keep hR
 clear hR
 go_wp2_with fail
 refine HC1.out.mono ?_
 rintro r w1 ⟨cv1,sv1,rfl,hr',hf',hs'⟩
 have HR1 := keep hr'
 have HS1 := keep hs'
 have HF1 := keep hf'
 have HT1 := keep hs'
 clear hr' hf' hs' HC1
 go_wp2
 go_ret
 have HEq : topM T a m = R1 := by unfold topM; (try dsimp only); rw [HE1.out]
 rw [HEq]
 exact ⟨_,_,rfl,HR1.out.le (by omega),HF1.out,HS1.out.mono (by omega)⟩
theorem double_q (K : Nat) {lo MB NB : Nat} {T : Nat → Int} {cv sv : Value} {m : Mk} {w : World} (a : Int) (h : Rdy lo MB NB T cv sv m w (1 + K)) (ha : In a m)  : Calls Try.prog 94 #[.pointer (some ⟨MB,0,none⟩),.int .i64 a] w fun r w' => Wq 1 K lo MB NB T cv sv m (doubleM T a m) w r w' := by
 have HR0 := keep h
 have Ia := keep ha
 clear h ha
 go_enter Try.func94,Try.ntmps94
 have HC1 := keep (two_q (0 + K) 1 a a (HR0.out.le (by omega)) (by decide) Ia.out Ia.out)
 obtain ⟨R1,hR⟩ : ∃ Q,twoM T 1 a a m = Q := ⟨_,rfl⟩
 rw [hR] at HC1
 have HE1 := keep hR
 clear hR
 go_wp2_with fail
 refine HC1.out.mono ?_
 rintro r w1 ⟨cv1,sv1,rfl,hr',hf',hs'⟩
 have HR1 := keep hr'
 have HS1 := keep hs'
 have HF1 := keep hf'
 have HT1 := keep hs'
 clear hr' hf' hs' HC1
 go_wp2
 go_ret
 have HEq : doubleM T a m = R1 := by unfold doubleM; (try dsimp only); rw [HE1.out]
 rw [HEq]
 exact ⟨_,_,rfl,HR1.out.le (by omega),HF1.out,HS1.out.mono (by omega)⟩
theorem all_q (K : Nat) {lo MB NB : Nat} {T : Nat → Int} {cv sv : Value} {m : Mk} {w : World} (a : Int) (h : Rdy lo MB NB T cv sv m w (2 + K)) (ha : In a m)  : Calls Try.prog 87 #[.pointer (some ⟨MB,0,none⟩),.int .i64 a] w fun r w' => Wq 2 K lo MB NB T cv sv m (allM T a m) w r w' := by
 have HR0 := keep h
 have Ia := keep ha
 clear h ha
 go_enter Try.func87,Try.ntmps87
 have HC1 := keep (num_q (1 + K) 0 (HR0.out.le (by omega)) (by decide))
 obtain ⟨R1,hR⟩ : ∃ Q,numM T 0 m = Q := ⟨_,rfl⟩
 rw [hR] at HC1
 have HE1 := keep hR
 clear hR
 go_wp2_with fail
 refine HC1.out.mono ?_
 rintro r w1 ⟨cv1,sv1,rfl,hr',hf',hs'⟩
 have HR1 := keep hr'
 have HS1 := keep hs'
 have HF1 := keep hf'
 have HT1 := keep hs'
 clear hr' hf' hs' HC1
 have HC2 := keep (two_q (0 + K) 2 R1.1 a (HR1.out.le (by omega)) (by decide) HT1.out.in' (Ia.out.stp HT1.out))
 obtain ⟨R2,hR⟩ : ∃ Q,twoM T 2 R1.1 a R1.2 = Q := ⟨_,rfl⟩
 rw [hR] at HC2
 have HE2 := keep hR
 clear hR
 go_wp2_with fail
 refine HC2.out.mono ?_
 rintro r w2 ⟨cv2,sv2,rfl,hr',hf',hs'⟩
 have HR2 := keep hr'
 have HS2 := keep (HS1.out.then hs')
 have HF2 := keep (HF1.out.trans hf')
 have HT2 := keep hs'
 clear hr' hf' hs' HC2
 go_wp2
 go_ret
 have HEq : allM T a m = R2 := by unfold allM; (try dsimp only); rw [HE1.out,HE2.out]
 rw [HEq]
 exact ⟨_,_,rfl,HR2.out.le (by omega),HF2.out,HS2.out.mono (by omega)⟩
theorem choose_q (K : Nat) {lo MB NB : Nat} {T : Nat → Int} {cv sv : Value} {m : Mk} {w : World} (a b c : Int) (h : Rdy lo MB NB T cv sv m w (3 + K)) (ha : In a m) (hb : In b m) (hc : In c m)  : Calls Try.prog 86 #[.pointer (some ⟨MB,0,none⟩),.int .i64 a,.int .i64 b,.int .i64 c] w fun r w' => Wq 3 K lo MB NB T cv sv m (chooseM T a b c m) w r w' := by
 have HR0 := keep h
 have Ia := keep ha
 have Ib := keep hb
 have Ic := keep hc
 clear h ha hb hc
 go_enter Try.func86,Try.ntmps86
 have HC1 := keep (two_q (2 + K) 5 b c (HR0.out.le (by omega)) (by decide) Ib.out Ic.out)
 obtain ⟨R1,hR⟩ : ∃ Q,twoM T 5 b c m = Q := ⟨_,rfl⟩
 rw [hR] at HC1
 have HE1 := keep hR
 clear hR
 go_wp2_with fail
 refine HC1.out.mono ?_
 rintro r w1 ⟨cv1,sv1,rfl,hr',hf',hs'⟩
 have HR1 := keep hr'
 have HS1 := keep hs'
 have HF1 := keep hf'
 have HT1 := keep hs'
 clear hr' hf' hs' HC1
 have HC2 := keep (two_q (1 + K) 3 R1.1 a (HR1.out.le (by omega)) (by decide) HT1.out.in' (Ia.out.stp HT1.out))
 obtain ⟨R2,hR⟩ : ∃ Q,twoM T 3 R1.1 a R1.2 = Q := ⟨_,rfl⟩
 rw [hR] at HC2
 have HE2 := keep hR
 clear hR
 go_wp2_with fail
 refine HC2.out.mono ?_
 rintro r w2 ⟨cv2,sv2,rfl,hr',hf',hs'⟩
 have HR2 := keep hr'
 have HS2 := keep (HS1.out.then hs')
 have HF2 := keep (HF1.out.trans hf')
 have HT2 := keep hs'
 clear hr' hf' hs' HC2
 have HC3 := keep (two_q (0 + K) 5 c R2.1 (HR2.out.le (by omega)) (by decide) ((Ic.out.stp HT1.out).stp HT2.out) HT2.out.in')
 obtain ⟨R3,hR⟩ : ∃ Q,twoM T 5 c R2.1 R2.2 = Q := ⟨_,rfl⟩
 rw [hR] at HC3
 have HE3 := keep hR
 clear hR
 go_wp2_with fail
 refine HC3.out.mono ?_
 rintro r w3 ⟨cv3,sv3,rfl,hr',hf',hs'⟩
 have HR3 := keep hr'
 have HS3 := keep (HS2.out.then hs')
 have HF3 := keep (HF2.out.trans hf')
 have HT3 := keep hs'
 clear hr' hf' hs' HC3
 go_wp2
 go_ret
 have HEq : chooseM T a b c m = R3 := by unfold chooseM; (try dsimp only); rw [HE1.out,HE2.out,HE3.out]
 rw [HEq]
 exact ⟨_,_,rfl,HR3.out.le (by omega),HF3.out,HS3.out.mono (by omega)⟩
theorem some_q (K : Nat) {lo MB NB : Nat} {T : Nat → Int} {cv sv : Value} {m : Mk} {w : World} (a : Int) (h : Rdy lo MB NB T cv sv m w (5 + K)) (ha : In a m)  : Calls Try.prog 84 #[.pointer (some ⟨MB,0,none⟩),.int .i64 a] w fun r w' => Wq 5 K lo MB NB T cv sv m (someM T a m) w r w' := by
 have HR0 := keep h
 have Ia := keep ha
 clear h ha
 go_enter Try.func84,Try.ntmps84
 have HC1 := keep (num_q (4 + K) 0 (HR0.out.le (by omega)) (by decide))
 obtain ⟨R1,hR⟩ : ∃ Q,numM T 0 m = Q := ⟨_,rfl⟩
 rw [hR] at HC1
 have HE1 := keep hR
 clear hR
 go_wp2_with fail
 refine HC1.out.mono ?_
 rintro r w1 ⟨cv1,sv1,rfl,hr',hf',hs'⟩
 have HR1 := keep hr'
 have HS1 := keep hs'
 have HF1 := keep hf'
 have HT1 := keep hs'
 clear hr' hf' hs' HC1
 have HC2 := keep (two_q (3 + K) 2 R1.1 a (HR1.out.le (by omega)) (by decide) HT1.out.in' (Ia.out.stp HT1.out))
 obtain ⟨R2,hR⟩ : ∃ Q,twoM T 2 R1.1 a R1.2 = Q := ⟨_,rfl⟩
 rw [hR] at HC2
 have HE2 := keep hR
 clear hR
 go_wp2_with fail
 refine HC2.out.mono ?_
 rintro r w2 ⟨cv2,sv2,rfl,hr',hf',hs'⟩
 have HR2 := keep hr'
 have HS2 := keep (HS1.out.then hs')
 have HF2 := keep (HF1.out.trans hf')
 have HT2 := keep hs'
 clear hr' hf' hs' HC2
 have HC3 := keep (two_q (2 + K) 4 a R2.1 (HR2.out.le (by omega)) (by decide) ((Ia.out.stp HT1.out).stp HT2.out) HT2.out.in')
 obtain ⟨R3,hR⟩ : ∃ Q,twoM T 4 a R2.1 R2.2 = Q := ⟨_,rfl⟩
 rw [hR] at HC3
 have HE3 := keep hR
 clear hR
 go_wp2_with fail
 refine HC3.out.mono ?_
 rintro r w3 ⟨cv3,sv3,rfl,hr',hf',hs'⟩
 have HR3 := keep hr'
 have HS3 := keep (HS2.out.then hs')
 have HF3 := keep (HF2.out.trans hf')
 have HT3 := keep hs'
 clear hr' hf' hs' HC3
 have HC4 := keep (top_q (0 + K) R3.1 (HR3.out.le (by omega)) HT3.out.in')
 obtain ⟨R4,hR⟩ : ∃ Q,topM T R3.1 R3.2 = Q := ⟨_,rfl⟩
 rw [hR] at HC4
 have HE4 := keep hR
 clear hR
 go_wp2_with fail
 refine HC4.out.mono ?_
 rintro r w4 ⟨cv4,sv4,rfl,hr',hf',hs'⟩
 have HR4 := keep hr'
 have HS4 := keep (HS3.out.then hs')
 have HF4 := keep (HF3.out.trans hf')
 have HT4 := keep hs'
 clear hr' hf' hs' HC4
 go_wp2
 go_ret
 have HEq : someM T a m = R4 := by unfold someM; (try dsimp only); rw [HE1.out,HE2.out,HE3.out,HE4.out]
 rw [HEq]
 exact ⟨_,_,rfl,HR4.out.le (by omega),HF4.out,HS4.out.mono (by omega)⟩
theorem below_q (K : Nat) {lo MB NB : Nat} {T : Nat → Int} {cv sv : Value} {m : Mk} {w : World} (a b : Int) (h : Rdy lo MB NB T cv sv m w (7 + K)) (ha : In a m) (hb : In b m)  : Calls Try.prog 82 #[.pointer (some ⟨MB,0,none⟩),.int .i64 a,.int .i64 b] w fun r w' => Wq 7 K lo MB NB T cv sv m (belowM T a b m) w r w' := by
 have HR0 := keep h
 have Ia := keep ha
 have Ib := keep hb
 clear h ha hb
 go_enter Try.func82,Try.ntmps82
 have HC1 := keep (two_q (6 + K) 2 a b (HR0.out.le (by omega)) (by decide) Ia.out Ib.out)
 obtain ⟨R1,hR⟩ : ∃ Q,twoM T 2 a b m = Q := ⟨_,rfl⟩
 rw [hR] at HC1
 have HE1 := keep hR
 clear hR
 go_wp2_with fail
 refine HC1.out.mono ?_
 rintro r w1 ⟨cv1,sv1,rfl,hr',hf',hs'⟩
 have HR1 := keep hr'
 have HS1 := keep hs'
 have HF1 := keep hf'
 have HT1 := keep hs'
 clear hr' hf' hs' HC1
 have HC2 := keep (two_q (5 + K) 5 a b (HR1.out.le (by omega)) (by decide) (Ia.out.stp HT1.out) (Ib.out.stp HT1.out))
 obtain ⟨R2,hR⟩ : ∃ Q,twoM T 5 a b R1.2 = Q := ⟨_,rfl⟩
 rw [hR] at HC2
 have HE2 := keep hR
 clear hR
 go_wp2_with fail
 refine HC2.out.mono ?_
 rintro r w2 ⟨cv2,sv2,rfl,hr',hf',hs'⟩
 have HR2 := keep hr'
 have HS2 := keep (HS1.out.then hs')
 have HF2 := keep (HF1.out.trans hf')
 have HT2 := keep hs'
 clear hr' hf' hs' HC2
 have HC3 := keep (two_q (4 + K) 5 a R1.1 (HR2.out.le (by omega)) (by decide) ((Ia.out.stp HT1.out).stp HT2.out) (HT1.out.in'.stp HT2.out))
 obtain ⟨R3,hR⟩ : ∃ Q,twoM T 5 a R1.1 R2.2 = Q := ⟨_,rfl⟩
 rw [hR] at HC3
 have HE3 := keep hR
 clear hR
 go_wp2_with fail
 refine HC3.out.mono ?_
 rintro r w3 ⟨cv3,sv3,rfl,hr',hf',hs'⟩
 have HR3 := keep hr'
 have HS3 := keep (HS2.out.then hs')
 have HF3 := keep (HF2.out.trans hf')
 have HT3 := keep hs'
 clear hr' hf' hs' HC3
 have HC4 := keep (two_q (3 + K) 4 R2.1 R3.1 (HR3.out.le (by omega)) (by decide) (HT2.out.in'.stp HT3.out) HT3.out.in')
 obtain ⟨R4,hR⟩ : ∃ Q,twoM T 4 R2.1 R3.1 R3.2 = Q := ⟨_,rfl⟩
 rw [hR] at HC4
 have HE4 := keep hR
 clear hR
 go_wp2_with fail
 refine HC4.out.mono ?_
 rintro r w4 ⟨cv4,sv4,rfl,hr',hf',hs'⟩
 have HR4 := keep hr'
 have HS4 := keep (HS3.out.then hs')
 have HF4 := keep (HF3.out.trans hf')
 have HT4 := keep hs'
 clear hr' hf' hs' HC4
 have HC5 := keep (two_q (2 + K) 5 a R4.1 (HR4.out.le (by omega)) (by decide) ((((Ia.out.stp HT1.out).stp HT2.out).stp HT3.out).stp HT4.out) HT4.out.in')
 obtain ⟨R5,hR⟩ : ∃ Q,twoM T 5 a R4.1 R4.2 = Q := ⟨_,rfl⟩
 rw [hR] at HC5
 have HE5 := keep hR
 clear hR
 go_wp2_with fail
 refine HC5.out.mono ?_
 rintro r w5 ⟨cv5,sv5,rfl,hr',hf',hs'⟩
 have HR5 := keep hr'
 have HS5 := keep (HS4.out.then hs')
 have HF5 := keep (HF4.out.trans hf')
 have HT5 := keep hs'
 clear hr' hf' hs' HC5
 have HC6 := keep (top_q (0 + K) R5.1 (HR5.out.le (by omega)) HT5.out.in')
 obtain ⟨R6,hR⟩ : ∃ Q,topM T R5.1 R5.2 = Q := ⟨_,rfl⟩
 rw [hR] at HC6
 have HE6 := keep hR
 clear hR
 go_wp2_with fail
 refine HC6.out.mono ?_
 rintro r w6 ⟨cv6,sv6,rfl,hr',hf',hs'⟩
 have HR6 := keep hr'
 have HS6 := keep (HS5.out.then hs')
 have HF6 := keep (HF5.out.trans hf')
 have HT6 := keep hs'
 clear hr' hf' hs' HC6
 go_wp2
 go_ret
 have HEq : belowM T a b m = R6 := by unfold belowM; (try dsimp only); rw [HE1.out,HE2.out,HE3.out,HE4.out,HE5.out,HE6.out]
 rw [HEq]
 exact ⟨_,_,rfl,HR6.out.le (by omega),HF6.out,HS6.out.mono (by omega)⟩
theorem up_succ (T : Nat → Int) (n : Nat) (a : Int) (m : Mk) : upM T (n + 1) a m = doubleM T (upM T n a m).1 (upM T n a m).2 := rfl
theorem up_q (K : Nat) {lo MB NB : Nat} {T : Nat → Int} {cv sv : Value} {m : Mk} {w : World} (n : Nat) (a : Int) (h : Rdy lo MB NB T cv sv m w (n + K)) (ha : In a m) (hn : n ≤ 100) : Calls Try.prog 77 #[.pointer (some ⟨MB,0,none⟩),.int .i64 a,.int .i64 (n : Int)] w fun r w' => Wq n K lo MB NB T cv sv m (upM T n a m) w r w' := by
 have HR0 := keep h
 have Ia := keep ha
 have HN := keep hn
 clear h ha hn
 go_enter Try.func77,Try.ntmps77
 go_wp2
 go_loopw [8,1] (fun j q wx => ∃ k : Nat,k ≤ n ∧ j = .int .i64 (k : Int) ∧ q = .int .i64 (upM T k a m).1 ∧ ∃ cv' sv',Rdy lo MB NB T cv' sv' (upM T k a m).2 wx (n - k + K) ∧ MF MB NB cv sv w cv' sv' wx ∧ Stp k m (upM T k a m)) (fun j _ _ => n - (intOf j).toNat)
 case atStart => exact ⟨0,by omega,rfl,rfl,cv,sv,HR0.out,MF.refl _ _ _ _ _,Stp.same HR0.out.g Ia.out.p0 Ia.out.p1⟩
 case round =>
  obtain ⟨k,hkn,rfl,rfl,cv0,sv0,hr0,hf0,hs0⟩ := hrel
  have HR := keep hr0
  have HF := keep hf0
  have HS := keep hs0
  obtain ⟨R,hR⟩ : ∃ R,upM T k a m = R := ⟨_,rfl⟩
  rw [hR] at HR HS ⊢
  have HE := keep hR
  clear hr0 hf0 hs0 hR
  by_cases hkl : k < n
  ·have d1 : decide ((k : Int) < (n : Int)) = true := decide_eq_true (by omega)
   have hwr : IntKind.i64.wrap ((k : Int) + 1) = (k : Int) + 1 := by rw [IntKind.wrap_i64]; have := HN.out; omega
   have HC := keep (double_q (n - (k + 1) + K) R.1 (HR.out.le (by omega)) HS.out.in')
   obtain ⟨R2,hR2⟩ : ∃ R2,doubleM T R.1 R.2 = R2 := ⟨_,rfl⟩
   rw [hR2] at HC
   have HE2 : Hid (upM T (k + 1) a m = R2) := by show _ = _; rw [up_succ,HE.out,hR2]
   clear hR2
   go_wp2_with fail
   refine HC.out.mono ?_
   rintro r w1 ⟨cv1,sv1,rfl,hr',hf',hs'⟩
   have HR1 := keep hr'
   have HF1 := keep (HF.out.trans hf')
   have HS1 := keep (HS.out.then hs')
   clear hr' hf' hs' HC
   go_wp2
   go_roundw
   case rel => exact ⟨k + 1,by omega,by go_num,by rw [HE2.out],cv1,sv1,by rw [HE2.out]; exact HR1.out,HF1.out,by rw [HE2.out]; exact HS1.out⟩
   case measure => simp [intOf] <;> omega
  ·have hke : k = n := by omega
   subst hke
   have dl : decide ((k : Int) < (k : Int)) = false := decide_eq_false (by omega)
   clear hkl hkn
   go_wp2
   go_ret
   exact ⟨_,_,by rw [HE.out]; rfl,by rw [HE.out]; exact HR.out.le (by omega),HF.out,by rw [HE.out]; exact HS.out⟩
end Go.Proofs.Ytfbmkcogkiejnaa.Hg
