/- The program's own writer: an expression, however deep. Written by tools/gen_wex.py. -/
import Derived.Test.YtkobiojndamofaaDoorLwWx1
namespace Go.Proofs.YtkobiojndamofaaDoor.Lr
set_option linter.unusedVariables false
set_option linter.unusedSimpArgs false
open Go.ChangeShapes Go.WideShapes Go.ChangeAt Go.RowKit Lg

set_option maxHeartbeats 8000000 in
set_option maxRecDepth 100000 in
theorem expr_step (B b lo m : Nat) (hB : B ≤ b) (hg : GL B) (ih : PW B b lo m) (n : Nat) (hmn : m ≤ n) (e : Ex) (sl : Value) (out : List UInt8) (w : World) (hx : ExIs w B (n + 1) e sl) (hw : wfE (m + 1) e) (h : WO w b lo out) (ht : Tabs w) (hl : (addsW out (toksE (m + 1) e)).length ≤ 1000000) :
    Calls Tryd.prog 18 #[.pointer (some ⟨b, 0, none⟩), .agg (exA e sl)] w fun r w' => r = .returned (.tuple #[]) ∧ Wrote b lo w (addsW out (toksE (m + 1) e)) w' := by
  obtain ⟨kind, en, name, args⟩ := e
  have hx : ExIs w B (n + 1) (ar args) sl := hx
  obtain ⟨p, na, cap, rfl, _⟩ := hx.parts
  rcases hw with ⟨k, h1, h2, h3, h4⟩ | ⟨k, h1, h2, h3⟩ | ⟨k, h1, h2, h3, hlen, hwf⟩ | ⟨k, h1, h2, hlen, hwf⟩ | ⟨k, h1, h2, hlen, hwf⟩
  all_goals simp only at k h1 h2
  · simp only at h3 h4
    subst k h3 h4
    have ets : toksE (m + 1) ⟨1, en, [], []⟩ = [Lib.itoa en] := by
      rw [itoa_dec h1]; rfl
    rw [ets, adds_cons, adds_nil] at hl ⊢
    obtain ⟨w2, hw2⟩ : ∃ w2, (w.alloc (.cells #[.pointer (some ⟨b, 0, none⟩)] 66)).alloc (.cells #[.int .i64 1, .int .i64 en, .string ⟨[].toArray⟩, .slice p na cap] 39) = w2 := ⟨_, rfl⟩
    have hb2 : Below w.heap.size w w2 := by rw [← hw2]; exact ((Below.refl w.heap.size w).alloc (Nat.le_refl _) _).alloc (by simp) _
    have HF0 := keep (Fw.of_below (b := b) (lo := lo) hb2)
    have HEB : Hid (EB w2 b w.heap.size (w.heap.size + 1) ⟨1, en, [], []⟩ (.slice p na cap)) := by
      rw [← hw2]
      refine ⟨(Bk.new w [.pointer (some ⟨b, 0, none⟩)] 66).up _, ?_, by have := h.lt; have := h.le; omega, by have := h.lt; have := h.le; omega⟩
      have := Bk.new (w.alloc (.cells #[.pointer (some ⟨b, 0, none⟩)] 66)) [.int .i64 1, .int .i64 en, .string ⟨[].toArray⟩, .slice p na cap] 39
      simpa using this
    have HO := keep (h.below hb2)
    have HT2 := keep (ht.up hb2)
    have HX2 : Hid (ExIs w2 B (n + 1) (ar []) (.slice p na cap)) := ExIs.below (hb2.mono (Nat.le_trans hB (Nat.le_trans (Nat.le_of_lt h.lt) h.le))) hx
    clear hb2
    unfold exA
    simp only
    have z0 := HEB.out.W.cell 0 rfl
    have y0 := HEB.out.E.cell 0 rfl
    have y1 := HEB.out.E.cell 1 rfl
    have y2 := HEB.out.E.cell 2 rfl
    have HC := keep (number_wr b lo out en (by omega) (by omega) w2 HO.out HT2.out hl)
    clear ih hx h ht hl hg HT2 HO HX2 ets
    go_enter Tryd.func18, Tryd.ntmps18
    go_wp2_with fail
    refine HC.out.mono ?_
    rintro r w3 ⟨rfl, h3⟩
    have H3 := keep h3
    clear h3 HC
    go_wp2
    go_end0
    exact ⟨rfl, H3.out.1, HF0.out.trans H3.out.2⟩
  · simp only at h3
    subst k h1 h3
    have ets : toksE (m + 1) ⟨2, 0, name, []⟩ = [name] := rfl
    rw [ets, adds_cons, adds_nil] at hl ⊢
    obtain ⟨w2, hw2⟩ : ∃ w2, (w.alloc (.cells #[.pointer (some ⟨b, 0, none⟩)] 66)).alloc (.cells #[.int .i64 2, .int .i64 0, .string ⟨name.toArray⟩, .slice p na cap] 39) = w2 := ⟨_, rfl⟩
    have hb2 : Below w.heap.size w w2 := by rw [← hw2]; exact ((Below.refl w.heap.size w).alloc (Nat.le_refl _) _).alloc (by simp) _
    have HF0 := keep (Fw.of_below (b := b) (lo := lo) hb2)
    have HEB : Hid (EB w2 b w.heap.size (w.heap.size + 1) ⟨2, 0, name, []⟩ (.slice p na cap)) := by
      rw [← hw2]
      refine ⟨(Bk.new w [.pointer (some ⟨b, 0, none⟩)] 66).up _, ?_, by have := h.lt; have := h.le; omega, by have := h.lt; have := h.le; omega⟩
      have := Bk.new (w.alloc (.cells #[.pointer (some ⟨b, 0, none⟩)] 66)) [.int .i64 2, .int .i64 0, .string ⟨name.toArray⟩, .slice p na cap] 39
      simpa using this
    have HO := keep (h.below hb2)
    have HT2 := keep (ht.up hb2)
    have HX2 : Hid (ExIs w2 B (n + 1) (ar []) (.slice p na cap)) := ExIs.below (hb2.mono (Nat.le_trans hB (Nat.le_trans (Nat.le_of_lt h.lt) h.le))) hx
    clear hb2
    unfold exA
    simp only
    have z0 := HEB.out.W.cell 0 rfl
    have y0 := HEB.out.E.cell 0 rfl
    have y1 := HEB.out.E.cell 1 rfl
    have y2 := HEB.out.E.cell 2 rfl
    have HC := keep (wo_word b lo out ⟨name.toArray⟩ w2 HO.out hl)
    clear ih hx h ht hl hg HT2 HO HX2 ets
    go_enter Tryd.func18, Tryd.ntmps18
    go_wp2_with fail
    refine HC.out.mono ?_
    rintro r w3 ⟨rfl, h3⟩
    have H3 := keep h3
    clear h3 HC
    go_wp2
    go_end0
    exact ⟨rfl, H3.out.1, HF0.out.trans H3.out.2⟩
  · simp only at h3 hlen hwf
    subst k h3
    have ets : toksE (m + 1) ⟨3, en, [], args⟩ = [40] :: ((sign en.toNat :: args.flatMap (toksE m)) ++ [[41]]) := rfl
    rw [ets] at hl ⊢
    have g1 : decide ((1 : Int) ≤ en) = true := decide_eq_true h1
    have g2 : decide (en ≤ 12) = true := decide_eq_true h2
    obtain ⟨w2, hw2⟩ : ∃ w2, (w.alloc (.cells #[.pointer (some ⟨b, 0, none⟩)] 66)).alloc (.cells #[.int .i64 3, .int .i64 en, .string ⟨[].toArray⟩, .slice p na cap] 39) = w2 := ⟨_, rfl⟩
    have hb2 : Below w.heap.size w w2 := by rw [← hw2]; exact ((Below.refl w.heap.size w).alloc (Nat.le_refl _) _).alloc (by simp) _
    have HF0 := keep (Fw.of_below (b := b) (lo := lo) hb2)
    have HEB : Hid (EB w2 b w.heap.size (w.heap.size + 1) ⟨3, en, [], args⟩ (.slice p na cap)) := by
      rw [← hw2]
      refine ⟨(Bk.new w [.pointer (some ⟨b, 0, none⟩)] 66).up _, ?_, by have := h.lt; have := h.le; omega, by have := h.lt; have := h.le; omega⟩
      have := Bk.new (w.alloc (.cells #[.pointer (some ⟨b, 0, none⟩)] 66)) [.int .i64 3, .int .i64 en, .string ⟨[].toArray⟩, .slice p na cap] 39
      simpa using this
    have HO := keep (h.below hb2)
    have HT2 := keep (ht.up hb2)
    have HX2 : Hid (ExIs w2 B (n + 1) (ar args) (.slice p na cap)) := ExIs.below (hb2.mono (Nat.le_trans hB (Nat.le_trans (Nat.le_of_lt h.lt) h.le))) hx
    clear hb2
    unfold exA
    simp only
    have z0 := HEB.out.W.cell 0 rfl
    have y0 := HEB.out.E.cell 0 rfl
    have y1 := HEB.out.E.cell 1 rfl
    have y2 := HEB.out.E.cell 2 rfl
    have hl3 : (addsW (addW out [40]) (sign en.toNat :: args.flatMap (toksE m))).length ≤ 1000000 := by
      rw [adds_cons, adds_app] at hl
      exact Nat.le_trans (adds_le [[41]] _) hl
    have hin : ∀ W, Wrote b lo w2 (addW out [40]) W → Calls Tryd.prog 45 #[.pointer (some ⟨w.heap.size, 0, none⟩), .pointer (some ⟨w.heap.size + 1, 0, none⟩)] W fun r w' => r = .returned (.tuple #[]) ∧ Wrote b lo W (addsW (addW out [40]) (sign en.toNat :: args.flatMap (toksE m))) w' := fun W hW =>
      expr1_wr B b lo m hB hg ih n hmn ⟨3, en, [], args⟩ h1 h2 (.slice p na cap) w.heap.size (w.heap.size + 1) (addW out [40]) W (HEB.out.fw hW.2) (HX2.out.below (hW.2.below hB HO.out.lt HO.out.le)) hwf hlen hW.1 (HT2.out.wrote (p := []) hB hg HO.out hW.2) hl3
    have HC := keep (bracketed_wr b lo 45 #[.pointer (some ⟨w.heap.size, 0, none⟩), .pointer (some ⟨w.heap.size + 1, 0, none⟩)] out (sign en.toNat :: args.flatMap (toksE m)) w2 (enters_of Tryd.func45 (by kernel_rfl) rfl) hin HO.out hl)
    clear hin
    clear ih hx hwf h ht hl hg HT2 HO HX2 hl3
    go_enter Tryd.func18, Tryd.ntmps18
    go_wp2_with fail
    refine HC.out.mono ?_
    rintro r w3 ⟨rfl, h3⟩
    have H3 := keep h3
    clear h3 HC
    go_wp2
    go_end0
    exact ⟨rfl, H3.out.1, HF0.out.trans H3.out.2⟩
  · simp only at hlen hwf
    subst k h1 h2
    have ets : toksE (m + 1) ⟨4, 0, [], args⟩ = [40] :: (([115, 101, 108] :: args.flatMap (toksE m)) ++ [[41]]) := rfl
    rw [ets] at hl ⊢
    obtain ⟨w2, hw2⟩ : ∃ w2, (w.alloc (.cells #[.pointer (some ⟨b, 0, none⟩)] 66)).alloc (.cells #[.int .i64 4, .int .i64 0, .string ⟨[].toArray⟩, .slice p na cap] 39) = w2 := ⟨_, rfl⟩
    have hb2 : Below w.heap.size w w2 := by rw [← hw2]; exact ((Below.refl w.heap.size w).alloc (Nat.le_refl _) _).alloc (by simp) _
    have HF0 := keep (Fw.of_below (b := b) (lo := lo) hb2)
    have HEB : Hid (EB w2 b w.heap.size (w.heap.size + 1) ⟨4, 0, [], args⟩ (.slice p na cap)) := by
      rw [← hw2]
      refine ⟨(Bk.new w [.pointer (some ⟨b, 0, none⟩)] 66).up _, ?_, by have := h.lt; have := h.le; omega, by have := h.lt; have := h.le; omega⟩
      have := Bk.new (w.alloc (.cells #[.pointer (some ⟨b, 0, none⟩)] 66)) [.int .i64 4, .int .i64 0, .string ⟨[].toArray⟩, .slice p na cap] 39
      simpa using this
    have HO := keep (h.below hb2)
    have HT2 := keep (ht.up hb2)
    have HX2 : Hid (ExIs w2 B (n + 1) (ar args) (.slice p na cap)) := ExIs.below (hb2.mono (Nat.le_trans hB (Nat.le_trans (Nat.le_of_lt h.lt) h.le))) hx
    clear hb2
    unfold exA
    simp only
    have z0 := HEB.out.W.cell 0 rfl
    have y0 := HEB.out.E.cell 0 rfl
    have y1 := HEB.out.E.cell 1 rfl
    have y2 := HEB.out.E.cell 2 rfl
    have hl3 : (addsW (addW out [40]) ([115, 101, 108] :: args.flatMap (toksE m))).length ≤ 1000000 := by
      rw [adds_cons, adds_app] at hl
      exact Nat.le_trans (adds_le [[41]] _) hl
    have hin : ∀ W, Wrote b lo w2 (addW out [40]) W → Calls Tryd.prog 46 #[.pointer (some ⟨w.heap.size, 0, none⟩), .pointer (some ⟨w.heap.size + 1, 0, none⟩)] W fun r w' => r = .returned (.tuple #[]) ∧ Wrote b lo W (addsW (addW out [40]) ([115, 101, 108] :: args.flatMap (toksE m))) w' := fun W hW =>
      expr2_wr B b lo m hB hg ih n hmn ⟨4, 0, [], args⟩ (.slice p na cap) w.heap.size (w.heap.size + 1) (addW out [40]) W (HEB.out.fw hW.2) (HX2.out.below (hW.2.below hB HO.out.lt HO.out.le)) hwf hlen hW.1 (HT2.out.wrote (p := []) hB hg HO.out hW.2) hl3
    have HC := keep (bracketed_wr b lo 46 #[.pointer (some ⟨w.heap.size, 0, none⟩), .pointer (some ⟨w.heap.size + 1, 0, none⟩)] out ([115, 101, 108] :: args.flatMap (toksE m)) w2 (enters_of Tryd.func46 (by kernel_rfl) rfl) hin HO.out hl)
    clear hin
    clear ih hx hwf h ht hl hg HT2 HO HX2 hl3
    go_enter Tryd.func18, Tryd.ntmps18
    go_wp2_with fail
    refine HC.out.mono ?_
    rintro r w3 ⟨rfl, h3⟩
    have H3 := keep h3
    clear h3 HC
    go_wp2
    go_end0
    exact ⟨rfl, H3.out.1, HF0.out.trans H3.out.2⟩
  · simp only at hlen hwf
    subst k h1
    have ets : toksE (m + 1) ⟨5, 0, name, args⟩ = [40] :: (([97, 116] :: name :: args.flatMap (toksE m)) ++ [[41]]) := rfl
    rw [ets] at hl ⊢
    obtain ⟨w2, hw2⟩ : ∃ w2, (w.alloc (.cells #[.pointer (some ⟨b, 0, none⟩)] 66)).alloc (.cells #[.int .i64 5, .int .i64 0, .string ⟨name.toArray⟩, .slice p na cap] 39) = w2 := ⟨_, rfl⟩
    have hb2 : Below w.heap.size w w2 := by rw [← hw2]; exact ((Below.refl w.heap.size w).alloc (Nat.le_refl _) _).alloc (by simp) _
    have HF0 := keep (Fw.of_below (b := b) (lo := lo) hb2)
    have HEB : Hid (EB w2 b w.heap.size (w.heap.size + 1) ⟨5, 0, name, args⟩ (.slice p na cap)) := by
      rw [← hw2]
      refine ⟨(Bk.new w [.pointer (some ⟨b, 0, none⟩)] 66).up _, ?_, by have := h.lt; have := h.le; omega, by have := h.lt; have := h.le; omega⟩
      have := Bk.new (w.alloc (.cells #[.pointer (some ⟨b, 0, none⟩)] 66)) [.int .i64 5, .int .i64 0, .string ⟨name.toArray⟩, .slice p na cap] 39
      simpa using this
    have HO := keep (h.below hb2)
    have HT2 := keep (ht.up hb2)
    have HX2 : Hid (ExIs w2 B (n + 1) (ar args) (.slice p na cap)) := ExIs.below (hb2.mono (Nat.le_trans hB (Nat.le_trans (Nat.le_of_lt h.lt) h.le))) hx
    clear hb2
    unfold exA
    simp only
    have z0 := HEB.out.W.cell 0 rfl
    have y0 := HEB.out.E.cell 0 rfl
    have y1 := HEB.out.E.cell 1 rfl
    have y2 := HEB.out.E.cell 2 rfl
    have hl3 : (addsW (addW out [40]) ([97, 116] :: name :: args.flatMap (toksE m))).length ≤ 1000000 := by
      rw [adds_cons, adds_app] at hl
      exact Nat.le_trans (adds_le [[41]] _) hl
    have hin : ∀ W, Wrote b lo w2 (addW out [40]) W → Calls Tryd.prog 47 #[.pointer (some ⟨w.heap.size, 0, none⟩), .pointer (some ⟨w.heap.size + 1, 0, none⟩)] W fun r w' => r = .returned (.tuple #[]) ∧ Wrote b lo W (addsW (addW out [40]) ([97, 116] :: name :: args.flatMap (toksE m))) w' := fun W hW =>
      expr3_wr B b lo m hB hg ih n hmn ⟨5, 0, name, args⟩ (.slice p na cap) w.heap.size (w.heap.size + 1) (addW out [40]) W (HEB.out.fw hW.2) (HX2.out.below (hW.2.below hB HO.out.lt HO.out.le)) hwf hlen hW.1 (HT2.out.wrote (p := []) hB hg HO.out hW.2) hl3
    have HC := keep (bracketed_wr b lo 47 #[.pointer (some ⟨w.heap.size, 0, none⟩), .pointer (some ⟨w.heap.size + 1, 0, none⟩)] out ([97, 116] :: name :: args.flatMap (toksE m)) w2 (enters_of Tryd.func47 (by kernel_rfl) rfl) hin HO.out hl)
    clear hin
    clear ih hx hwf h ht hl hg HT2 HO HX2 hl3
    go_enter Tryd.func18, Tryd.ntmps18
    go_wp2_with fail
    refine HC.out.mono ?_
    rintro r w3 ⟨rfl, h3⟩
    have H3 := keep h3
    clear h3 HC
    go_wp2
    go_end0
    exact ⟨rfl, H3.out.1, HF0.out.trans H3.out.2⟩

theorem expr_wr (B b lo : Nat) (hB : B ≤ b) (hg : GL B) : ∀ m, PW B b lo m
  | 0 => fun n e sl out w hmn hx hw => hw.elim
  | m + 1 => fun n e sl out w hmn hx hw h ht hl => by
    obtain ⟨k, rfl⟩ : ∃ k, n = k + 1 := ⟨n - 1, by omega⟩
    exact expr_step B b lo m hB hg (expr_wr B b lo hB hg m) k (by omega) e sl out w hx hw h ht hl
end Go.Proofs.YtkobiojndamofaaDoor.Lr
