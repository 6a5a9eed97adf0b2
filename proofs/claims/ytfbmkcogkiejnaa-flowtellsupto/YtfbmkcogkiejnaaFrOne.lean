/- The document's Check of instructions: one instruction. Written by tools/gen_frchk.py. -/
import Derived.Test.YtfbmkcogkiejnaaFrSome
namespace Go.Proofs.Ytfbmkcogkiejnaa.Fl
set_option linter.unusedVariables false
set_option linter.unusedSimpArgs false
open Go.ChangeShapes Go.WideShapes Go.ChangeAt Go.RowKit Lg Lr

theorem kOne_eq : kOne = .seq (fstC kOne) kT1 := by kernel_rfl
theorem kT1_eq : kT1 = .seq (fstC kT1) kT2 := by kernel_rfl
theorem kT2_eq : kT2 = .seq (fstC kT2) kT3 := by kernel_rfl
theorem kT3_eq : kT3 = .seq (fstC kT3) kT4 := by kernel_rfl
theorem kT4_eq : kT4 = .seq (fstC kT4) kT5 := by kernel_rfl
theorem kT5_eq : kT5 = .seq (fstC kT5) kT6 := by kernel_rfl
theorem kT6_eq : kT6 = .seq (fstC kT6) kT7 := by kernel_rfl
theorem kT7_eq : kT7 = .seq (fstC kT7) kT8 := by kernel_rfl
theorem kT8_eq : kT8 = .seq (fstC kT8) kT9 := by kernel_rfl
theorem kT9_eq : kT9 = .seq (fstC kT9) kT10 := by kernel_rfl
theorem kT10_eq : kT10 = .seq (fstC kT10) kT11 := by kernel_rfl
theorem kT11_eq : kT11 = .seq (fstC kT11) kT12 := by kernel_rfl
theorem kT12_eq : kT12 = .seq (fstC kT12) kT13 := by kernel_rfl
theorem kT13_eq : kT13 = .seq (fstC kT13) kT14 := by kernel_rfl
theorem FO.c {aa : Act} {F n1 n2 k c1 : Nat} {p1 : Option Addr} {X : Nat} (h : FO aa F n1 n2 k c1 p1 X) : FC aa F n1 n2 k c1 p1 := ⟨h.wide, h.s1, h.s4, h.s41, h.s42, h.s43⟩
/-- What comes of one instruction. -/
def OneP (F n1 n2 k c1 : Nat) (p1 : Option Addr) (f : Fx) (i : Ix) (w : World) (e : Exit) (a' : Act) (w' : World) : Prop :=
  Below w.heap.size w w' ∧ ((e = .normal ∧ FC a' F n1 n2 k c1 p1 ∧ wrg f k i = 0) ∨ (e = .ret ∧ FE a' (wrg f k i) (k : Int) ∧ wrg f k i ≠ 0))
set_option maxHeartbeats 4000000 in
theorem one_ok {aa : Act} (F n1 n2 k c1 B : Nat) (f : Fx) (p1 p2 p3 : Option Addr) (c2 n3 c3 g o : Nat) (i : Ix) (hp : p1 = some ⟨g, o, none⟩) (hF : FC aa F n1 n2 k c1 p1) (w : World) (hb : BoxF w F B f (.slice p1 n1 c1) (.slice p2 n2 c2) (.slice p3 n3 c3)) (hx : IxAt w g (o + k * 6) i) (hk : k < n1) :
    kOne.wp Try.prog (OneP F n1 n2 k c1 p1 f i w) aa w := by
  subst hp
  have hn1 : f.code.length = n1 := by obtain ⟨q1, q2, q3, q4, q5, _⟩ := hb.is.code; cases q4; exact q5
  have hn2 : f.sec.length = n2 := by obtain ⟨q1, q2, q3, q4, q5, _⟩ := hb.is.sec; cases q4; exact q5
  have hn3 : f.arrs.length = n3 := by obtain ⟨q1, q2, q3, q4, q5, _⟩ := hb.is.arrs; cases q4; exact q5
  have hFl : F < w.heap.size := hb.box.lt
  rw [kOne_eq]
  refine OnB.go (k0 F n1 n2 k c1 (some ⟨g, o, none⟩) g o hF i w hx hk) ?_
  rintro a0 w0 ⟨hF0, rfl⟩
  have hb0 : Below w.heap.size w (w.alloc (.cells #[.int .i64 i.op, .int .i64 i.d, .int .i64 i.a, .int .i64 i.b, .int .i64 i.c, .int .i64 i.imm] 35)) := (Below.refl _ _).alloc (Nat.le_refl _) _
  have hC0 : CW (w.alloc (.cells #[.int .i64 i.op, .int .i64 i.d, .int .i64 i.a, .int .i64 i.b, .int .i64 i.c, .int .i64 i.imm] 35)) F B f (.slice (some ⟨g, o, none⟩) n1 c1) (.slice p2 n2 c2) (.slice p3 n3 c3) w.heap.size i.op i.d i.a i.b i.c i.imm := ⟨hb.below hb0, Bk.new _ [.int .i64 i.op, .int .i64 i.d, .int .i64 i.a, .int .i64 i.b, .int .i64 i.c, .int .i64 i.imm] _⟩
  generalize w.alloc (.cells #[.int .i64 i.op, .int .i64 i.d, .int .i64 i.a, .int .i64 i.b, .int .i64 i.c, .int .i64 i.imm] 35) = w0 at *
  rw [kT1_eq]
  refine OnR.go (k1 F n1 n2 k c1 _ w.heap.size B f p2 p3 c2 n3 c3 i.op i.d i.a i.b i.c i.imm hF0 w0 hC0) ?_ ?_
  · rintro a1 w1 ⟨hF1, rfl, ho⟩
    rw [kT2_eq]
    refine OnB.go (k2 F n1 n2 k c1 _ w.heap.size B f p2 p3 c2 n3 c3 i.op i.d i.a i.b i.c i.imm hF1 w1 hC0) ?_
    rintro a2 w2 ⟨pl, nl, cl, hF2, hr2, hb2⟩
    rw [kT3_eq]
    refine OnB.go (k3 F n1 n2 k c1 _ w.heap.size B f p2 p3 c2 n3 c3 i.op i.d i.a i.b i.c i.imm pl nl cl hF2 w2 w1.heap.size hb2.size (hC0.below hb2) hr2) ?_
    rintro a3 w3 ⟨pl, nl, cl, hF3, hr3, hb3⟩
    have hC3 := (hC0.below hb2).lo hb3 (by have := hb0.size; omega) hC0.x.lt hC0.f.le
    have hnl := RowX.len hr3
    have hlr : (rdm i).length ≤ 4 := by
      unfold rdm
      rw [List.length_append]
      have := rds_len i
      split <;> simp <;> omega
    have hb03 : Below w.heap.size w w3 := (hb0.trans (hb2.mono hb0.size)).trans (hb3.mono hb0.size)
    rw [kT4_eq]
    refine OnB.go (k4 F n1 n2 k c1 _ w.heap.size pl nl cl hF3 w3) ?_
    rintro a4 w4 ⟨hF4, rfl⟩
    rw [kT5_eq]
    refine OnB.go (k5 F n1 n2 k c1 _ w.heap.size pl nl cl hF4 w4 (rdm i) (RowI.ints hr3 (by omega)) (by rw [hnl]; exact hlr)) ?_
    rintro a5 w5 ⟨hF5, rfl⟩
    rw [kT6_eq]
    refine OnB.go (k6 F n1 n2 k c1 _ w.heap.size B f p2 p3 c2 n3 c3 i.op i.d i.a i.b i.c i.imm _ hF5 w5 hC3) ?_
    rintro a6 w6 ⟨hF6, rfl⟩
    rw [kT7_eq]
    refine OnB.go (k7 F n1 n2 k c1 _ w.heap.size B f p2 p3 c2 n3 c3 i.op i.d i.a i.b i.c i.imm _ hF6 w6 hC3) ?_
    rintro a7 w7 ⟨hF7, rfl⟩
    rw [kT8_eq]
    refine OnB.go (k8 F n1 n2 k c1 _ w.heap.size B f p2 p3 c2 n3 c3 i.op i.d i.a i.b i.c i.imm _ hF7 w7 hC3) ?_
    rintro a8 w8 ⟨hF8, rfl⟩
    have hbad := bad_inR f k i
    rw [hn1, hn2, hn3] at hbad
    rw [hbad] at hF8
    rw [kT9_eq]
    refine OnR.go (k9 F n1 n2 k c1 _ w.heap.size _ hF8 w8) ?_ ?_
    · rintro a9 w9 ⟨hF9, rfl, hq⟩
      have hin : inR f k i = true := by simpa using hq
      have hT := there_of hin
      rw [kT10_eq]
      refine OnB.go (k10 F n1 n2 k c1 _ w.heap.size hF9 w9) ?_
      rintro a10 w10 ⟨hF10, rfl⟩
      rw [kT11_eq]
      refine OnB.go (k11 F n1 n2 k c1 _ w.heap.size B f p2 p3 c2 n3 c3 i.op i.d i.a i.b i.c i.imm hF10 w10 hC3 hT.r) ?_
      rintro a11 w11 ⟨hF11, hb11⟩
      rw [kT12_eq]
      refine OnB.go (k12 F n1 n2 k c1 _ w.heap.size _ hF11 w11) ?_
      rintro a12 w12 ⟨hF12, rfl⟩
      rw [kT13_eq]
      refine OnB.go (k13 F n1 n2 k c1 _ w.heap.size B f p2 p3 c2 n3 c3 i.op i.d i.a i.b i.c i.imm _ hF12 w12 (hC3.below hb11) hT rfl) ?_
      rintro a13 w13 ⟨hF13, hb13⟩
      have hb013 : Below w.heap.size w w13 := (hb03.trans (hb11.mono hb03.size)).trans (hb13.mono (Nat.le_trans hb03.size hb11.size))
      have hw : wrg f k i = if spl f i = true then 10 else 0 := by
        unfold wrg
        rw [if_neg (by omega), if_neg (by rw [hin]; simp)]
      refine wp_mono (k14 F n1 n2 k c1 _ w.heap.size _ _ hF13 w13) ?_
      rintro e a14 w14 (⟨rfl, hF14, rfl, ht⟩ | ⟨rfl, hF14, rfl, ht⟩)
      · refine ⟨hb013, .inl ⟨rfl, hF14.c, ?_⟩⟩
        rw [hw, if_neg (by intro x; exact Bool.noConfusion (ht.symm.trans x))]
      · refine ⟨hb013, .inr ⟨rfl, ?_, ?_⟩⟩
        · rw [hw, if_pos ht]; exact hF14
        · rw [hw, if_pos ht]; decide
    · rintro a9 w9 ⟨hF9, rfl, hq⟩
      have hin : inR f k i = false := by simpa using hq
      have hw : wrg f k i = 3 := by
        unfold wrg
        rw [if_neg (by omega), if_pos hin]
      exact ⟨hb03, .inr ⟨rfl, by rw [hw]; exact hF9, by rw [hw]; decide⟩⟩
  · rintro a1 w1 ⟨hF1, rfl, ho⟩
    have hw : wrg f k i = 1 := by
      unfold wrg
      rw [if_pos ho]
    exact ⟨hb0, .inr ⟨rfl, by rw [hw]; exact hF1, by rw [hw]; decide⟩⟩
end Go.Proofs.Ytfbmkcogkiejnaa.Fl
