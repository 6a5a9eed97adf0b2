/- The program's own writer: parameters and arrays, behind each other. -/
import Derived.Test.YtkobiojndamofaaDoorLwWv
namespace Go.Proofs.YtkobiojndamofaaDoor.Lr
set_option linter.unusedVariables false
set_option linter.unusedSimpArgs false
open Go.ChangeShapes Go.WideShapes Go.ChangeAt Go.RowKit Lg

/-- A variable in its brackets. -/
def toksV (tm : Vr → List (List UInt8)) (v : Vr) : List (List UInt8) := [40] :: ((lab v.secret :: v.name :: tm v) ++ [[41]])
set_option maxHeartbeats 8000000 in
set_option maxRecDepth 100000 in
theorem vars1_wr (B b lo : Nat) (hB : B ≤ b) (hg : GL B) (k : FuncId) (mb : Array Value) (eg : ∀ args w, (callFunc k args).run Tryd.prog w = .ok (.enter k args) w) (Inv : World → Prop) (hInv : ∀ W W', Inv W → Fw b lo W W' → Inv W') (tm : Vr → List (List UInt8)) (us : List Vr) (hm : MoreOK B b lo k mb Inv tm us)
    (sl : Value) (bl bw bm : Nat) (hnl : bl ≠ b) (hnw : bw ≠ b) (hnm : bm ≠ b) (o : List UInt8) (w : World) (hL : Bk w bl [sl] 23) (hW : Bk w bw [.pointer (some ⟨b, 0, none⟩)] 66) (hM : Bk w bm [.func (.func k) #[] mb] 68)
    (hx : VrIs w B us sl) (hi : Inv w) (h : WO w b lo o) (ht : Tabs w) (hl : (addsW o (us.flatMap (toksV tm))).length ≤ 1000000) :
    Calls Tryd.prog 64 #[.pointer (some ⟨bl, 0, none⟩), .pointer (some ⟨bw, 0, none⟩), .pointer (some ⟨bm, 0, none⟩)] w fun r w' => r = .returned (.tuple #[]) ∧ Wrote b lo w (addsW o (us.flatMap (toksV tm))) w' := by
  obtain ⟨p, na, cap, rfl, hna, hca, hla, hea⟩ := hx
  have HE := keep hea
  have HN := keep hna
  have HMo := keep hm
  have HIv := keep hInv
  have Hi := keep hi
  have HW := keep h
  have HT := keep ht
  have HL := keep hl
  have HG := keep hg
  have HWb := keep hW
  have HMb := keep hM
  have HEg := keep eg
  have c0 := hL.cell 0 rfl
  clear hea hna hm hInv hi h ht hl hg hW hM hL eg
  go_enter Tryd.func64, Tryd.ntmps64
  go_wp2
  clear c0
  go_loopw [7] (fun i wx => ∃ k : Nat, k ≤ na ∧ i = .int .i64 (k : Int) ∧ Wrote b lo w (addsW o ((us.take k).flatMap (toksV tm))) wx) (fun i _ => na - (intOf i).toNat)
  case atStart => exact ⟨0, by omega, rfl, by simpa [addsW] using HW.out, Fw.refl _ _ _⟩
  case round =>
    obtain ⟨j, hkn, rfl, hwr⟩ := hrel
    have HR := keep hwr
    clear hwr
    by_cases hkl : j < na
    · have d1 : decide ((j : Int) < (na : Int)) = true := decide_eq_true (by omega)
      have hkz : (j : Int) < (na : Int) := by omega
      have hk0 : (0 : Int) ≤ (j : Int) := by omega
      obtain ⟨x, hx⟩ : ∃ x, us[j]? = some x := ⟨_, List.getElem?_eq_getElem (by rw [HN.out]; exact hkl)⟩
      obtain ⟨g, oo, rfl, hgB, hax⟩ := HE.out j x hx
      have hbel := HR.out.2.below hB HW.out.lt HW.out.le
      have hax := hax.below hbel hgB
      have a0 := hax.c0
      have a1 := hax.c1
      have a2 := hax.c2
      have hsz : b < wr.heap.size := Nat.lt_of_lt_of_le HW.out.lt (Nat.le_trans HW.out.le HR.out.2.size)
      have HS := keep (adds_take (toksV tm) o us j x hx)
      have hle := adds_take_le (toksV tm) o us (j + 1)
      have HZ := keep (Bk.new wr [.string ⟨#[]⟩, .bool false, .int .i64 0] 62)
      have hb0 := (Below.refl wr.heap.size wr).alloc (Nat.le_refl _) (.cells #[.string ⟨#[]⟩, .bool false, .int .i64 0] 62)
      obtain ⟨wa, hwa⟩ : ∃ wa, wr.alloc (.cells #[.string ⟨#[]⟩, .bool false, .int .i64 0] 62) = wa := ⟨_, rfl⟩
      have HZ : Hid (Bk wa wr.heap.size [.string ⟨#[]⟩, .bool false, .int .i64 0] 62) := by rw [← hwa]; exact HZ.out
      rw [hwa] at hb0
      obtain ⟨wb, hwb⟩ : ∃ wb, wa.setRow wr.heap.size #[.string ⟨x.name.toArray⟩, .bool x.secret, .int .i64 x.size] = wb := ⟨_, rfl⟩
      have HRow : Hid (Bk wb wr.heap.size [.string ⟨x.name.toArray⟩, .bool x.secret, .int .i64 x.size] 62) := by
        rw [← hwb]; exact setRow_heap _ _ _ _ _ _ HZ.out
      have hbb : Below wr.heap.size wr wb := by
        rw [← hwb]
        exact ⟨hb0.os, hb0.tape, hb0.output, by simp; exact hb0.size, fun k hk => by rw [setRow_other _ _ _ _ (by omega)]; exact hb0.block k hk⟩
      have hfb : Fw b lo w wb := HR.out.2.trans (Fw.of_below hbb)
      have hfw : Hid (Fw b lo w wb) := hfb
      have hOb := HR.out.1.below hbb
      have hlx : (addsW (addsW o ((us.take j).flatMap (toksV tm))) (toksV tm x)).length ≤ 1000000 := by rw [← HS.out]; exact Nat.le_trans hle HL.out
      have hl3 : (addsW (addW (addsW o ((us.take j).flatMap (toksV tm))) [40]) (lab x.secret :: x.name :: tm x)).length ≤ 1000000 := by
        unfold toksV at hlx
        rw [adds_cons, adds_app] at hlx
        exact Nat.le_trans (adds_le [[41]] _) hlx
      have hnv : wr.heap.size ≠ b := by omega
      have hin : ∀ W, Wrote b lo wb (addW (addsW o ((us.take j).flatMap (toksV tm))) [40]) W → Calls Tryd.prog 65 #[.pointer (some ⟨bw, 0, none⟩), .pointer (some ⟨wr.heap.size, 0, none⟩), .pointer (some ⟨bm, 0, none⟩)] W fun r w' => r = .returned (.tuple #[]) ∧ Wrote b lo W (addsW (addW (addsW o ((us.take j).flatMap (toksV tm))) [40]) (lab x.secret :: x.name :: tm x)) w' := fun W hW => by
        have hf := hfb.trans hW.2
        exact var1_wr B b lo hB HG.out k mb HEg.out Inv HIv.out tm us HMo.out x (List.mem_of_getElem? hx) bw wr.heap.size bm hnw hnv hnm _ W (HWb.out.fw hf hnw (by decide)) (HRow.out.fw hW.2 hnv (by decide)) (HMb.out.fw hf hnm (by decide)) (HIv.out _ _ Hi.out hf) hW.1 (HT.out.wrote (p := []) hB HG.out HW.out hf) hl3
      have HC := keep (bracketed_wr b lo 65 #[.pointer (some ⟨bw, 0, none⟩), .pointer (some ⟨wr.heap.size, 0, none⟩), .pointer (some ⟨bm, 0, none⟩)] _ (lab x.secret :: x.name :: tm x) wb (enters_of Tryd.func65 (by kernel_rfl) rfl) hin hOb hlx)
      have z0 := (HWb.out.fw hfb hnw (by decide)).cell 0 rfl
      clear hx hax hbel hle HE hb0 hbb hfb hOb hlx hl3 hin
      go_wp2_with (first
        | refine wpList_store_row rfl 62 (.tmp 4) (.tmp 10) rfl wr.heap.size #[.string ⟨x.name.toArray⟩, .bool x.secret, .int .i64 x.size] rfl rfl 62 #[.string ⟨#[]⟩, .bool false, .int .i64 0] HZ.out (info_V [.string ⟨x.name.toArray⟩, .bool x.secret, .int .i64 x.size] rfl) rfl (by simp [Value.oneCell']) ?_
        | (go_at_call 32; refine HC.out.mono ?_; rintro e w1 ⟨rfl, h1⟩; have H1 := keep h1; clear h1 HC)
        | fail)
      go_roundw
      case rel => exact ⟨j + 1, by omega, by go_num, by rw [HS.out]; exact ⟨H1.out.1, hfw.out.trans H1.out.2⟩⟩
      case measure => simp [intOf]; omega
    · have hke : j = na := by omega
      subst hke
      have dk : decide ((j : Int) < (j : Int)) = false := decide_eq_false (by omega)
      have HT2 : Hid (us.take j = us) := List.take_of_length_le (by rw [HN.out]; exact Nat.le_refl _)
      clear hkl
      go_wp2
      go_end0
      refine ⟨rfl, ?_⟩
      have := HR.out
      rw [HT2.out] at this
      exact this

set_option maxHeartbeats 8000000 in
set_option maxRecDepth 100000 in
theorem vars_wr (B b lo : Nat) (hB : B ≤ b) (hg : GL B) (k : FuncId) (mb : Array Value) (eg : ∀ args w, (callFunc k args).run Tryd.prog w = .ok (.enter k args) w) (Inv : World → Prop) (hInv : ∀ W W', Inv W → Fw b lo W W' → Inv W') (tm : Vr → List (List UInt8)) (us : List Vr) (hm : MoreOK B b lo k mb Inv tm us)
    (sl : Value) (out : List UInt8) (w : World) (hx : VrIs w B us sl) (hi : Inv w) (h : WO w b lo out) (ht : Tabs w) (hl : (addsW out ([40] :: (us.flatMap (toksV tm) ++ [[41]]))).length ≤ 1000000) :
    Calls Tryd.prog 35 #[.pointer (some ⟨b, 0, none⟩), sl, .func (.func k) #[] mb] w fun r w' => r = .returned (.tuple #[]) ∧ Wrote b lo w (addsW out ([40] :: (us.flatMap (toksV tm) ++ [[41]]))) w' := by
  obtain ⟨p, na, cap, rfl⟩ := hx.slice
  obtain ⟨w1, hw1⟩ : ∃ w1, w.alloc (.cells #[.pointer (some ⟨b, 0, none⟩)] 66) = w1 := ⟨_, rfl⟩
  obtain ⟨w2, hw2⟩ : ∃ w2, w1.alloc (.cells #[.slice p na cap] 23) = w2 := ⟨_, rfl⟩
  obtain ⟨w3, hw3⟩ : ∃ w3, w2.alloc (.cells #[.func (.func k) #[] mb] 68) = w3 := ⟨_, rfl⟩
  have hs1 : w1.heap.size = w.heap.size + 1 := by rw [← hw1]; simp
  have hs2 : w2.heap.size = w.heap.size + 1 + 1 := by rw [← hw2]; simp; omega
  have hb2 : Below w.heap.size w w3 := by rw [← hw3, ← hw2, ← hw1]; exact (((Below.refl w.heap.size w).alloc (Nat.le_refl _) _).alloc (by simp) _).alloc (by simp; omega) _
  have HF0 := keep (Fw.of_below (b := b) (lo := lo) hb2)
  have hBW : Bk w3 w.heap.size [.pointer (some ⟨b, 0, none⟩)] 66 := by
    rw [← hw3, ← hw2, ← hw1]; exact ((Bk.new w [.pointer (some ⟨b, 0, none⟩)] 66).up _).up _
  have hBL : Bk w3 (w.heap.size + 1) [.slice p na cap] 23 := by
    rw [← hs1, ← hw3, ← hw2]; exact (Bk.new w1 [.slice p na cap] 23).up _
  have hBM : Bk w3 (w.heap.size + 1 + 1) [.func (.func k) #[] mb] 68 := by
    rw [← hs2, ← hw3]; exact Bk.new w2 [.func (.func k) #[] mb] 68
  have hne : w.heap.size ≠ b ∧ w.heap.size + 1 ≠ b ∧ w.heap.size + 1 + 1 ≠ b := by have := h.lt; have := h.le; omega
  have HO := keep (h.below hb2)
  have HT2 := keep (ht.up hb2)
  have HI2 := keep (hInv _ _ hi HF0.out)
  have HX2 : Hid (VrIs w3 B us (.slice p na cap)) := hx.below (hb2.mono (Nat.le_trans hB (Nat.le_trans (Nat.le_of_lt h.lt) h.le)))
  have hl3 : (addsW (addW out [40]) (us.flatMap (toksV tm))).length ≤ 1000000 := by
    rw [adds_cons, adds_app] at hl
    exact Nat.le_trans (adds_le [[41]] _) hl
  have hin : ∀ W, Wrote b lo w3 (addW out [40]) W → Calls Tryd.prog 64 #[.pointer (some ⟨w.heap.size + 1, 0, none⟩), .pointer (some ⟨w.heap.size, 0, none⟩), .pointer (some ⟨w.heap.size + 1 + 1, 0, none⟩)] W fun r w' => r = .returned (.tuple #[]) ∧ Wrote b lo W (addsW (addW out [40]) (us.flatMap (toksV tm))) w' := fun W hW =>
    vars1_wr B b lo hB hg k mb eg Inv hInv tm us hm (.slice p na cap) (w.heap.size + 1) w.heap.size (w.heap.size + 1 + 1) hne.2.1 hne.1 hne.2.2 (addW out [40]) W (hBL.fw hW.2 hne.2.1 (by decide)) (hBW.fw hW.2 hne.1 (by decide)) (hBM.fw hW.2 hne.2.2 (by decide)) (HX2.out.below (hW.2.below hB HO.out.lt HO.out.le)) (hInv _ _ HI2.out hW.2) hW.1 (HT2.out.wrote (p := []) hB hg HO.out hW.2) hl3
  have HC := keep (bracketed_wr b lo 64 #[.pointer (some ⟨w.heap.size + 1, 0, none⟩), .pointer (some ⟨w.heap.size, 0, none⟩), .pointer (some ⟨w.heap.size + 1 + 1, 0, none⟩)] out (us.flatMap (toksV tm)) w3 (enters_of Tryd.func64 (by kernel_rfl) rfl) hin HO.out hl)
  have z0 := hBW.cell 0 rfl
  clear hin hx h ht hl hg HT2 HO HX2 hl3 hb2 hBW hBL hBM hm hi hInv HI2 eg
  go_enter Tryd.func35, Tryd.ntmps35
  go_wp2_with fail
  refine HC.out.mono ?_
  rintro r w4 ⟨rfl, h3⟩
  have H3 := keep h3
  clear h3 HC
  go_wp2
  go_end0
  exact ⟨rfl, H3.out.1, HF0.out.trans H3.out.2⟩
end Go.Proofs.YtkobiojndamofaaDoor.Lr
