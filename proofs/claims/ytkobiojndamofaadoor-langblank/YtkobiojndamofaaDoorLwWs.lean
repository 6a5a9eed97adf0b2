/- The program's own writer: statements behind each other; a block. -/
import Derived.Test.YtkobiojndamofaaDoorLwWex
namespace Go.Proofs.YtkobiojndamofaaDoor.Lr
set_option linter.unusedVariables false
set_option linter.unusedSimpArgs false
open Go.ChangeShapes Go.WideShapes Go.ChangeAt Go.RowKit Lg

/-- A statement is written, where m may stand within one another. -/
def SW (B b lo e m : Nat) : Prop := ∀ (n : Nat) (t : St) (s1 s2 s3 : Value) (out : List UInt8) (w : World), m ≤ n → ExIs w B (e + 1) (ar t.args) s1 → StIs w B e n t.thn s2 → StIs w B e n t.els s3 → wfS m t → WO w b lo out → Tabs w → (addsW out (toksS m t)).length ≤ 1000000 →
  Calls Tryd.prog 17 #[.pointer (some ⟨b, 0, none⟩), .agg (stA t s1 s2 s3)] w fun r w' => r = .returned (.tuple #[]) ∧ Wrote b lo w (addsW out (toksS m t)) w'

set_option maxHeartbeats 8000000 in
set_option maxRecDepth 100000 in
theorem stmts_wr (B b lo e m : Nat) (hB : B ≤ b) (hg : GL B) (ih : SW B b lo e m) (n : Nat) (hmn : m ≤ n) (us : List St) (hwf : ∀ a ∈ us, wfS m a) (sl : Value) (out : List UInt8) (w : World)
    (hx : StIs w B e (n + 1) us sl) (h : WO w b lo out) (ht : Tabs w) (hl : (addsW out (us.flatMap (toksS m))).length ≤ 1000000) :
    Calls Tryd.prog 39 #[.pointer (some ⟨b, 0, none⟩), sl] w fun r w' => r = .returned (.tuple #[]) ∧ Wrote b lo w (addsW out (us.flatMap (toksS m))) w' := by
  obtain ⟨p, na, cap, rfl, hna, hca, hla, hea⟩ := hx
  have HE := keep hea
  have HN := keep hna
  have IH := keep ih
  have HW := keep h
  have HT := keep ht
  have HL := keep hl
  have HWf := keep hwf
  have HG := keep hg
  clear hea hna ih h ht hl hwf hg
  go_enter Tryd.func39, Tryd.ntmps39
  go_wp2
  go_loopw [8] (fun i wx => ∃ k : Nat, k ≤ na ∧ i = .int .i64 (k : Int) ∧ Wrote b lo w (addsW out ((us.take k).flatMap (toksS m))) wx) (fun i _ => na - (intOf i).toNat)
  case atStart => exact ⟨0, by omega, rfl, by simpa [addsW] using HW.out, Fw.refl _ _ _⟩
  case round =>
    obtain ⟨k, hkn, rfl, hwr⟩ := hrel
    have HR := keep hwr
    clear hwr
    by_cases hkl : k < na
    · have d1 : decide ((k : Int) < (na : Int)) = true := decide_eq_true (by omega)
      have hkz : (k : Int) < (na : Int) := by omega
      have hk0 : (0 : Int) ≤ (k : Int) := by omega
      obtain ⟨x, hx⟩ : ∃ x, us[k]? = some x := ⟨_, List.getElem?_eq_getElem (by rw [HN.out]; exact hkl)⟩
      obtain ⟨g, o, s1, s2, s3, rfl, hgB, hax, hx1, hx2, hx3⟩ := HE.out k x hx
      obtain ⟨p1, n1, c1, rfl, _⟩ := hx1.parts
      obtain ⟨p2, n2, c2, rfl⟩ := hx2.slice
      obtain ⟨p3, n3, c3, rfl⟩ := hx3.slice
      have hbel := HR.out.2.below hB HW.out.lt HW.out.le
      have hax := hax.below hbel hgB
      have a0 := hax.c0
      have a1 := hax.c1
      have a2 := hax.c2
      have a3 := hax.c3
      have a4 := hax.c4
      have a5 := hax.c5
      have a6 := hax.c6
      have hBr : B ≤ wr.heap.size := Nat.le_trans hB (Nat.le_trans (Nat.le_of_lt HW.out.lt) (Nat.le_trans HW.out.le HR.out.2.size))
      have HS := keep (adds_take (toksS m) out us k x hx)
      have hle := adds_take_le (toksS m) out us (k + 1)
      have HZ := keep (Bk.new wr [.int .i64 0, .int .i64 0, .string ⟨#[]⟩, .bool false, .slice none 0 0, .slice none 0 0, .slice none 0 0] 36)
      have hb0 := (Below.refl wr.heap.size wr).alloc (Nat.le_refl _) (.cells #[.int .i64 0, .int .i64 0, .string ⟨#[]⟩, .bool false, .slice none 0 0, .slice none 0 0, .slice none 0 0] 36)
      obtain ⟨wa, hwa⟩ : ∃ wa, wr.alloc (.cells #[.int .i64 0, .int .i64 0, .string ⟨#[]⟩, .bool false, .slice none 0 0, .slice none 0 0, .slice none 0 0] 36) = wa := ⟨_, rfl⟩
      have HZ : Hid (Bk wa wr.heap.size [.int .i64 0, .int .i64 0, .string ⟨#[]⟩, .bool false, .slice none 0 0, .slice none 0 0, .slice none 0 0] 36) := by rw [← hwa]; exact HZ.out
      rw [hwa] at hb0
      obtain ⟨wb, hwb⟩ : ∃ wb, wa.setRow wr.heap.size #[.int .i64 x.kind, .int .i64 x.n, .string ⟨x.name.toArray⟩, .bool x.secret, .slice p1 n1 c1, .slice p2 n2 c2, .slice p3 n3 c3] = wb := ⟨_, rfl⟩
      have HRow : Hid (wb.heap[wr.heap.size]? = some (.cells #[.int .i64 x.kind, .int .i64 x.n, .string ⟨x.name.toArray⟩, .bool x.secret, .slice p1 n1 c1, .slice p2 n2 c2, .slice p3 n3 c3] 36 (0, 0))) := by
        rw [← hwb]; exact setRow_heap _ _ _ _ _ _ HZ.out
      have hbb : Below wr.heap.size wr wb := by
        rw [← hwb]
        exact ⟨hb0.os, hb0.tape, hb0.output, by simp; exact hb0.size, fun k hk => by rw [setRow_other _ _ _ _ (by omega)]; exact hb0.block k hk⟩
      have hbw : Below B w wb := hbel.trans (hbb.mono hBr)
      have HC := keep (IH.out n x _ _ _ _ wb hmn (hx1.below hbw) (hx2.below hbw) (hx3.below hbw) (HWf.out x (List.mem_of_getElem? hx)) (HR.out.1.below hbb) ((HT.out.wrote (p := []) hB HG.out HW.out HR.out.2).up hbb) (by rw [← HS.out]; exact Nat.le_trans hle HL.out))
      have HBb := keep hbb
      clear hx hx1 hx2 hx3 hax hbel hle HE hb0 hbb hbw
      unfold stA at HC
      go_wp2_with (first
        | refine wpList_store_row rfl 36 (.tmp 5) (.tmp 11) rfl wr.heap.size #[.int .i64 x.kind, .int .i64 x.n, .string ⟨x.name.toArray⟩, .bool x.secret, .slice p1 n1 c1, .slice p2 n2 c2, .slice p3 n3 c3] rfl rfl 36 #[.int .i64 0, .int .i64 0, .string ⟨#[]⟩, .bool false, .slice none 0 0, .slice none 0 0, .slice none 0 0] HZ.out (info_S [.int .i64 x.kind, .int .i64 x.n, .string ⟨x.name.toArray⟩, .bool x.secret, .slice p1 n1 c1, .slice p2 n2 c2, .slice p3 n3 c3] rfl) rfl (by simp [Value.oneCell']) ?_
        | refine wpList_load_row rfl 36 (.tmp 5) rfl wr.heap.size rfl 36 #[.int .i64 x.kind, .int .i64 x.n, .string ⟨x.name.toArray⟩, .bool x.secret, .slice p1 n1 c1, .slice p2 n2 c2, .slice p3 n3 c3] (0, 0) _ HRow.out Tryd.underlying36 rfl (info_S [.int .i64 x.kind, .int .i64 x.n, .string ⟨x.name.toArray⟩, .bool x.secret, .slice p1 n1 c1, .slice p2 n2 c2, .slice p3 n3 c3] rfl) ?_
        | (go_at_call 17; refine HC.out.mono ?_; rintro e w1 ⟨rfl, h1⟩; have H1 := keep h1; clear h1 HC)
        | fail)
      go_roundw
      case rel => exact ⟨k + 1, by omega, by go_num, by rw [HS.out]; exact ⟨H1.out.1, HR.out.2.trans ((Fw.of_below HBb.out).trans H1.out.2)⟩⟩
      case measure => simp [intOf]; omega
    · have hke : k = na := by omega
      subst hke
      have dk : decide ((k : Int) < (k : Int)) = false := decide_eq_false (by omega)
      have HT2 : Hid (us.take k = us) := List.take_of_length_le (by rw [HN.out]; exact Nat.le_refl _)
      clear hkl
      go_wp2
      go_end0
      refine ⟨rfl, ?_⟩
      have := HR.out
      rw [HT2.out] at this
      exact this

set_option maxHeartbeats 8000000 in
set_option maxRecDepth 100000 in
theorem block1_wr (B b lo e m : Nat) (hB : B ≤ b) (hg : GL B) (ih : SW B b lo e m) (n : Nat) (hmn : m ≤ n) (us : List St) (hwf : ∀ a ∈ us, wfS m a) (sl : Value) (bw bl : Nat) (o : List UInt8) (w : World) (hW : Bk w bw [.pointer (some ⟨b, 0, none⟩)] 66) (hL : Bk w bl [sl] 24)
    (hx : StIs w B e (n + 1) us sl) (h : WO w b lo o) (ht : Tabs w) (hl : (addsW o (us.flatMap (toksS m))).length ≤ 1000000) :
    Calls Tryd.prog 67 #[.pointer (some ⟨bw, 0, none⟩), .pointer (some ⟨bl, 0, none⟩)] w fun r w' => r = .returned (.tuple #[]) ∧ Wrote b lo w (addsW o (us.flatMap (toksS m))) w' := by
  obtain ⟨p, na, cap, rfl⟩ := hx.slice
  have HC := keep (stmts_wr B b lo e m hB hg ih n hmn us hwf _ o w hx h ht hl)
  have c0 := hW.cell 0 rfl
  have c1 := hL.cell 0 rfl
  clear hx hwf h ht hl ih hW hL
  go_enter Tryd.func67, Tryd.ntmps67
  go_wp2_with fail
  refine HC.out.mono ?_
  rintro r w1 ⟨rfl, h1⟩
  have H1 := keep h1
  clear h1 HC c0 c1
  go_wp2
  go_end0
  exact ⟨rfl, H1.out⟩

set_option maxHeartbeats 8000000 in
set_option maxRecDepth 100000 in
theorem block_wr (B b lo e m : Nat) (hB : B ≤ b) (hg : GL B) (ih : SW B b lo e m) (n : Nat) (hmn : m ≤ n) (us : List St) (hwf : ∀ a ∈ us, wfS m a) (sl : Value) (out : List UInt8) (w : World)
    (hx : StIs w B e (n + 1) us sl) (h : WO w b lo out) (ht : Tabs w) (hl : (addsW out ([40] :: (us.flatMap (toksS m) ++ [[41]]))).length ≤ 1000000) :
    Calls Tryd.prog 44 #[.pointer (some ⟨b, 0, none⟩), sl] w fun r w' => r = .returned (.tuple #[]) ∧ Wrote b lo w (addsW out ([40] :: (us.flatMap (toksS m) ++ [[41]]))) w' := by
  obtain ⟨p, na, cap, rfl⟩ := hx.slice
  obtain ⟨w2, hw2⟩ : ∃ w2, (w.alloc (.cells #[.pointer (some ⟨b, 0, none⟩)] 66)).alloc (.cells #[.slice p na cap] 24) = w2 := ⟨_, rfl⟩
  have hb2 : Below w.heap.size w w2 := by rw [← hw2]; exact ((Below.refl w.heap.size w).alloc (Nat.le_refl _) _).alloc (by simp) _
  have HF0 := keep (Fw.of_below (b := b) (lo := lo) hb2)
  have HBW : Hid (Bk w2 w.heap.size [.pointer (some ⟨b, 0, none⟩)] 66) := by
    rw [← hw2]; exact (Bk.new w [.pointer (some ⟨b, 0, none⟩)] 66).up _
  have HBL : Hid (Bk w2 (w.heap.size + 1) [.slice p na cap] 24) := by
    rw [← hw2]
    have := Bk.new (w.alloc (.cells #[.pointer (some ⟨b, 0, none⟩)] 66)) [.slice p na cap] 24
    have h2 : Bk ((w.alloc (.cells #[.pointer (some ⟨b, 0, none⟩)] 66)).alloc (.cells #[.slice p na cap] 24)) (w.heap.size + 1) [.slice p na cap] 24 := by simpa using this
    exact h2
  have hne : w.heap.size ≠ b ∧ w.heap.size + 1 ≠ b := by have := h.lt; have := h.le; omega
  have HO := keep (h.below hb2)
  have HT2 := keep (ht.up hb2)
  have HX2 : Hid (StIs w2 B e (n + 1) us (.slice p na cap)) := hx.below (hb2.mono (Nat.le_trans hB (Nat.le_trans (Nat.le_of_lt h.lt) h.le)))
  have hl3 : (addsW (addW out [40]) (us.flatMap (toksS m))).length ≤ 1000000 := by
    rw [adds_cons, adds_app] at hl
    exact Nat.le_trans (adds_le [[41]] _) hl
  have hin : ∀ W, Wrote b lo w2 (addW out [40]) W → Calls Tryd.prog 67 #[.pointer (some ⟨w.heap.size, 0, none⟩), .pointer (some ⟨w.heap.size + 1, 0, none⟩)] W fun r w' => r = .returned (.tuple #[]) ∧ Wrote b lo W (addsW (addW out [40]) (us.flatMap (toksS m))) w' := fun W hW =>
    block1_wr B b lo e m hB hg ih n hmn us hwf (.slice p na cap) w.heap.size (w.heap.size + 1) (addW out [40]) W (HBW.out.fw hW.2 hne.1 (by decide)) (HBL.out.fw hW.2 hne.2 (by decide)) (HX2.out.below (hW.2.below hB HO.out.lt HO.out.le)) hW.1 (HT2.out.wrote (p := []) hB hg HO.out hW.2) hl3
  have HC := keep (bracketed_wr b lo 67 #[.pointer (some ⟨w.heap.size, 0, none⟩), .pointer (some ⟨w.heap.size + 1, 0, none⟩)] out (us.flatMap (toksS m)) w2 (enters_of Tryd.func67 (by kernel_rfl) rfl) hin HO.out hl)
  have z0 := HBW.out.cell 0 rfl
  clear hin ih hx hwf h ht hl hg HT2 HO HX2 hl3 hb2
  go_enter Tryd.func44, Tryd.ntmps44
  go_wp2_with fail
  refine HC.out.mono ?_
  rintro r w3 ⟨rfl, h3⟩
  have H3 := keep h3
  clear h3 HC
  go_wp2
  go_end0
  exact ⟨rfl, H3.out.1, HF0.out.trans H3.out.2⟩
end Go.Proofs.YtkobiojndamofaaDoor.Lr
