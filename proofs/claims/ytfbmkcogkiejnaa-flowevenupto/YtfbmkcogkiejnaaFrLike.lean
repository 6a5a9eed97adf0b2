/- Two that are given the same, but for what is secret: chapter 7's alike. Written by tools/gen_frlike.py. -/
import Derived.Test.YtfbmkcogkiejnaaFrAlike
import Derived.Test.YtfbmkcogkiejnaaFlRun
namespace Go.Proofs.Ytfbmkcogkiejnaa.Fl
set_option linter.unusedVariables false
set_option linter.unusedSimpArgs false
open Go.ChangeShapes Go.WideShapes Go.ChangeAt Go.RowKit Lg Lr

def cellsW (v : Vr) : List Value := [.string ⟨v.name.toArray⟩, .bool v.secret, .int .i64 v.size]
def nestW (w : World) (X : Nat → Prop) (p : Vr) : Prop := True
theorem nestW_nest : Nest nestW := ⟨fun _ _ _ _ _ _ => trivial, fun _ _ _ _ _ _ => trivial⟩
theorem cellsW_len (p : Vr) : (cellsW p).length = 3 := rfl
def RowW (w : World) (lo : Nat) (v : Value) (es : List Vr) : Prop := RowX nestW cellsW 3 75 w lo v es
theorem RowW.is {w : World} {lo : Nat} {v : Value} {es : List Vr} (h : RowW w lo v es) (hl : es.length ≤ 281474976710656) : VrIs w w.heap.size es v := by
  rcases RowX.form cellsW_len h with ⟨h1, h2⟩ | ⟨g, cap, h1, h2, h3, h4, h5⟩
  · exact ⟨none, 0, 0, h2, by rw [h1]; rfl, Nat.le_refl _, by omega, fun j t hj => by rw [h1] at hj; simp at hj⟩
  · refine ⟨some ⟨g, 0, none⟩, _, cap, h1, rfl, h2, hl, fun j l hj => ⟨g, 0, rfl, h4, ?_, ?_, ?_⟩⟩
    · have := h5 j l 0 _ hj rfl; rw [Nat.zero_add]; simpa using this
    · have := h5 j l 1 _ hj rfl; rw [Nat.zero_add]; exact this
    · have := h5 j l 2 _ hj rfl; rw [Nat.zero_add]; exact this
def pV (b : Bool) : Vr := ⟨[], b, 0⟩
def parV (f : Fx) : List Vr := (f.sec.take f.params.toNat).map pV
theorem infoW : (Try.prog.info? 75).map (fun i => (i.zero, i.size, i.bytes)) = some (some (.agg #[.string ⟨#[]⟩, .bool false, .int .i64 0]), 3, 32) := by kernel_rfl
theorem gvIs_mono {w : World} {B B' : Nat} {ws : List Int} {aa : List (List Int)} {v : Value} (h : GvIs w B ws aa v) (hB : B ≤ B') : GvIs w B' ws aa v := by
  obtain ⟨s1, s2, h1, h2, h3⟩ := h
  exact ⟨s1, s2, h1, h2.mono hB, h3.mono hB⟩
set_option maxHeartbeats 64000000 in
set_option maxRecDepth 100000 in
theorem like_any (B : Nat) (f : Fx) (s1 s2 s3 : Value) (ws : List Int) (aa : List (List Int)) (gv : Value) (vs : List Int) (bb : List (List Int)) (hv : Value) (w : World) (hB : B ≤ w.heap.size) (h : FxIs w B f s1 s2 s3) (hg : GvIs w B ws aa gv) (hh : GvIs w B vs bb hv) (hp0 : 0 ≤ f.params) (hp1 : f.params ≤ f.sec.length) (hN : f.sec.length ≤ 1048576) (hT1 : ws.length + sumL aa ≤ 1048576) (hT2 : vs.length + sumL bb ≤ 1048576) :
    Calls Try.prog 27 #[.agg (fxA f s1 s2 s3), gv, hv] w fun r w' => AlP (parV f) f.arrs ws aa vs bb w r w' := by
  obtain ⟨p1, n1, c1, hs1, hx1⟩ := id h.code
  obtain ⟨p2, n2, c2, hs2, hn2, hx2, hm2, hq2⟩ := id h.sec
  obtain ⟨p3, n3, c3, hs3, hx3⟩ := id h.arrs
  subst hs1 hs2 hs3
  have HG := keep hg
  have HH := keep hh
  obtain ⟨t1, t2, rfl, hi, ha⟩ := hg
  obtain ⟨p4, n4, c4, hs4, hx4⟩ := id hi
  obtain ⟨p5, n5, c5, hs5, hx5⟩ := id ha
  obtain ⟨t3, t4, rfl, hi', ha'⟩ := hh
  obtain ⟨p6, n6, c6, hs6, hx6⟩ := id hi'
  obtain ⟨p7, n7, c7, hs7, hx7⟩ := id ha'
  subst hs4 hs5 hs6 hs7
  obtain ⟨pr, hpr⟩ : ∃ k : Nat, f.params = (k : Int) := ⟨f.params.toNat, by omega⟩
  obtain ⟨w1, hw1⟩ : ∃ y, w.alloc (.cells #[.slice p1 n1 c1, .slice p2 n2 c2, .int .i64 (pr : Int), .slice p3 n3 c3] 26) = y := ⟨_, rfl⟩
  obtain ⟨w2, hw2⟩ : ∃ y, w1.alloc (.cells #[.slice p4 n4 c4, .slice p5 n5 c5] 33) = y := ⟨_, rfl⟩
  obtain ⟨w3, hw3⟩ : ∃ y, w2.alloc (.cells #[.slice p6 n6 c6, .slice p7 n7 c7] 33) = y := ⟨_, rfl⟩
  obtain ⟨w4, hw4⟩ : ∃ y, w3.alloc (.cells #[.slice none 0 0, .slice p3 n3 c3, .slice none 0 0] 49) = y := ⟨_, rfl⟩
  obtain ⟨F, hF⟩ : ∃ y, w.heap.size = y := ⟨_, rfl⟩
  obtain ⟨G, hG⟩ : ∃ y, w1.heap.size = y := ⟨_, rfl⟩
  obtain ⟨Hh, hHh⟩ : ∃ y, w2.heap.size = y := ⟨_, rfl⟩
  obtain ⟨X, hX⟩ : ∃ y, w3.heap.size = y := ⟨_, rfl⟩
  have b1 : Below w.heap.size w w1 := by rw [← hw1]; exact (Below.refl _ _).alloc (Nat.le_refl _) _
  have b2 : Below w1.heap.size w1 w2 := by rw [← hw2]; exact (Below.refl _ _).alloc (Nat.le_refl _) _
  have b3 : Below w2.heap.size w2 w3 := by rw [← hw3]; exact (Below.refl _ _).alloc (Nat.le_refl _) _
  have b4 : Below w3.heap.size w3 w4 := by rw [← hw4]; exact (Below.refl _ _).alloc (Nat.le_refl _) _
  have b34 := b3.trans (b4.mono b3.size)
  have b24 := b2.trans (b34.mono b2.size)
  have b14 := b1.trans (b24.mono b1.size)
  have kF1 : Bk w1 F [.slice p1 n1 c1, .slice p2 n2 c2, .int .i64 (pr : Int), .slice p3 n3 c3] 26 := by rw [← hw1, ← hF]; exact Bk.new _ _ _
  have kF := kF1.fs (Fs.of_below (l := []) b24) (by simp)
  have kG2 : Bk w2 G [.slice p4 n4 c4, .slice p5 n5 c5] 33 := by rw [← hw2, ← hG]; exact Bk.new _ _ _
  have kG := kG2.fs (Fs.of_below (l := []) b34) (by simp)
  have kH3 : Bk w3 Hh [.slice p6 n6 c6, .slice p7 n7 c7] 33 := by rw [← hw3, ← hHh]; exact Bk.new _ _ _
  have kH := kH3.fs (Fs.of_below (l := []) b4) (by simp)
  have kX : Bk w4 X [.slice none 0 0, .slice p3 n3 c3, .slice none 0 0] 49 := by rw [← hw4, ← hX]; exact Bk.new _ _ _
  have HkF := keep kF
  have HkG := keep kG
  have HkH := keep kH
  have HkX := keep kX
  have HOrd : Hid (w.heap.size ≤ F ∧ F < X ∧ G < X ∧ Hh < X ∧ X < w4.heap.size ∧ w.heap.size ≤ X) := ⟨by omega, by rw [← hX]; exact (kF1.fs (Fs.of_below (l := []) (b2.trans (b3.mono b2.size))) (by simp)).lt, by rw [← hX]; exact (kG2.fs (Fs.of_below (l := []) b3) (by simp)).lt, by rw [← hX]; exact kH3.lt, kX.lt, by rw [← hX]; exact (b1.trans ((b2.trans (b3.mono b2.size)).mono b1.size)).size⟩
  have HBw := keep b14
  have HFx := keep h
  have HW1 := keep hw1
  have HW2 := keep hw2
  have HW3 := keep hw3
  have HW4 := keep hw4
  have HF := keep hF
  have HGe := keep hG
  have HHe := keep hHh
  have HX := keep hX
  have HBB := keep hB
  have HPr := keep hpr
  have HN2 := keep hn2
  have HTT := keep (And.intro hT1 hT2)
  have HSz : Hid (pr ≤ n2 ∧ n2 ≤ 1048576) := ⟨by rw [hpr, hn2] at hp1; omega, by rw [← hn2]; exact hN⟩
  have hz0 : (0 : Int) ≤ (pr : Int) := by omega
  obtain ⟨i0, hi0, j0, j1, j2⟩ := info_parts infoW
  unfold fxA
  rw [hpr]
  have y2 := kF.cell 2 rfl
  have y3 := ((kF1.fs (Fs.of_below (l := []) (b2.trans (b3.mono b2.size))) (by simp)).cell 3 rfl)
  clear hw1 hw2 hw3 hw4 hF hG hHh hX b1 b2 b3 b4 b34 b24 b14 kF1 kF kG2 kG kH3 kH kX hi ha hi' ha' hx1 hx2 hx3 hx4 hx5 hx6 hx7 hpr h hB hn2 hq2 hT1 hT2 hp0 hp1 hN
  go_enter Try.func27, Try.ntmps27
  go_wp2_with (first | rw [HW1.out] | rw [HW2.out] | rw [HW3.out] | rw [HF.out] | rw [HGe.out] | rw [HHe.out] | rw [HW4.out, HX.out] | fail)
  clear y2 y3
  go_loopw [14] (fun i wx => ∃ (k : Nat) (v : Value) (es : List Vr), k ≤ pr ∧ i = .int .i64 (k : Int) ∧ es = (f.sec.take k).map pV ∧ RowW wx w4.heap.size v es ∧ Bk wx X [v, .slice p3 n3 c3, .slice none 0 0] 49 ∧ Fs [X] w4 wx) (fun i _ => pr - (intOf i).toNat)
  case atStart => exact ⟨0, _, [], by omega, rfl, rfl, RowX.nil _ _, HkX.out, Fs.refl _ _⟩
  case round =>
    obtain ⟨k, v, es, hkn, rfl, hes, hrow, hkx, hfx⟩ := hrel
    have HEs := keep hes
    have HRow := keep hrow
    have HKx := keep hkx
    have HFs := keep hfx
    have hlen : es.length = k := by rw [hes, List.length_map, List.length_take]; have h1 := HSz.out; have h2 := HN2.out; omega
    have HLen := keep hlen
    obtain ⟨pv, nv, cv, rfl⟩ := RowX.slice hrow
    have hnv := RowX.len hrow
    have HNv := keep hnv
    have HNF : Hid (F ≠ X) := by have := HOrd.out; show _ ≠ _; omega
    have HkF2 := keep (HkF.out.fs hfx (by simpa using HNF.out))
    have y2 := HkF2.out.cell 2 rfl
    clear hes hrow hkx hfx hlen hnv
    by_cases hkl : k < pr
    · have d1 : decide ((k : Int) < (pr : Int)) = true := decide_eq_true (by omega)
      have hkz : (k : Int) < (n2 : Int) := by have := HSz.out; omega
      have hk0 : (0 : Int) ≤ (k : Int) := by omega
      have hwr : IntKind.i64.wrap ((k : Int) + 1) = (k : Int) + 1 := by rw [IntKind.wrap_i64]; have := HSz.out; omega
      obtain ⟨b, hb⟩ : ∃ b, f.sec[k]? = some b := ⟨_, List.getElem?_eq_getElem (by have h1 := HSz.out; have h2 := HN2.out; omega)⟩
      have HBt := keep hb
      have hBX : B ≤ X := by have h1 := HOrd.out; have h2 := HBB.out; omega
      have hbel : ∀ W, Fs [X] w4 W → Below B w W := fun W hW => (HBw.out.mono HBB.out).trans (hW.below (by have h1 := HBw.out.size; have h2 := HBB.out; omega) (fun z hz => by simp at hz; omega))
      obtain ⟨q1, q2, q3, q4, q5, q6, q7, q8⟩ := HFx.out.sec.below (hbel wr HFs.out)
      cases q4
      obtain ⟨g, o, rfl, hgB, hc⟩ := q8 k b hb
      have HGB : Hid (g < X) := by show _ < _; omega
      have HSS : Hid (∀ W' : World, Bk W' F [.slice p1 n1 c1, .slice (some ⟨g, o, none⟩) n2 c2, .int .i64 (pr : Int), .slice p3 n3 c3] 26 → Bk W' X [.slice pv nv cv, .slice p3 n3 c3, .slice none 0 0] 49 → W'.cell? ⟨g, o + k, none⟩ = some (.bool b) → (W'.cell? ⟨X, 0, none⟩ = some (.slice pv nv cv) ∧ W'.cell? ⟨F, 1, none⟩ = some (.slice (some ⟨g, o, none⟩) n2 c2) ∧ W'.cell? ⟨g, o + k, none⟩ = some (.bool b))) := fun W' h1 h2 h3 => ⟨h2.cell 0 rfl, h1.cell 1 rfl, h3⟩
      have HCell := keep hc
      clear hb q8 hgB hc hbel hBX
      go_wp2_with fail
      refine wp_region_noPanic ?_
      refine Ord.wpM_begin (fun W' : World => W'.cell? ⟨X, 0, none⟩ = some (.slice pv nv cv) ∧ W'.cell? ⟨F, 1, none⟩ = some (.slice (some ⟨g, o, none⟩) n2 c2) ∧ W'.cell? ⟨g, o + k, none⟩ = some (.bool b)) [0, 1, 2, 3, 4, 5, 6, 7, 8, 9, 10] (by kernel_rfl) ?_
      have HkFd : Hid (Bk wr.drew F [.slice p1 n1 c1, .slice (some ⟨g, o, none⟩) n2 c2, .int .i64 (pr : Int), .slice p3 n3 c3] 26) := HkF2.out
      have HkXd : Hid (Bk wr.drew X [.slice pv nv cv, .slice p3 n3 c3, .slice none 0 0] 49) := HKx.out
      have HCd : Hid (wr.drew.cell? ⟨g, o + k, none⟩ = some (.bool b)) := HCell.out
      have HRd : Hid (RowW wr.drew w4.heap.size (.slice pv nv cv) es) := RowX.fs (l := []) nestW_nest HRow.out (Fs.of_below (Below.drew (Below.refl _ _))) (by simp)
      have HFd : Hid (Fs [X] w4 wr.drew) := HFs.out.trans (Fs.of_below (Below.drew (Below.refl _ _)))
      generalize wr.drew = wd at *
      have hS := HSS.out wd HkFd.out HkXd.out HCd.out
      refine Ord.wpM_take (i := 0) (v := .pointer (some ⟨X, 0, none⟩)) (by simp only [List.getElem?_toArray, List.getElem?_cons_zero, List.getElem?_cons_succ]; rfl) (by kernel_rfl) (by kernel_rfl) (by kernel_rfl) (by kernel_rfl) (fun _ _ _ h => h) (Or.inl ⟨by rfl, by intro W' hW; obtain ⟨q0, q1, q2⟩ := hW; go_simp⟩) hS ?_
      try simp only [Act.put, List.setIfInBounds_toArray, List.set_cons_zero, List.set_cons_succ]
      refine Ord.wpM_take (i := 1) (v := .slice pv nv cv) (by simp only [List.getElem?_toArray, List.getElem?_cons_zero, List.getElem?_cons_succ]; rfl) (by kernel_rfl) (by kernel_rfl) (by kernel_rfl) (by kernel_rfl) (fun _ _ _ h => h) (Or.inl ⟨by rfl, by intro W' hW; obtain ⟨q0, q1, q2⟩ := hW; go_simp⟩) hS ?_
      try simp only [Act.put, List.setIfInBounds_toArray, List.set_cons_zero, List.set_cons_succ]
      refine Ord.wpM_take (i := 2) (v := .pointer (some ⟨F, 1, none⟩)) (by simp only [List.getElem?_toArray, List.getElem?_cons_zero, List.getElem?_cons_succ]; rfl) (by kernel_rfl) (by kernel_rfl) (by kernel_rfl) (by kernel_rfl) (fun _ _ _ h => h) (Or.inl ⟨by rfl, by intro W' hW; obtain ⟨q0, q1, q2⟩ := hW; go_simp⟩) hS ?_
      try simp only [Act.put, List.setIfInBounds_toArray, List.set_cons_zero, List.set_cons_succ]
      refine Ord.wpM_take (i := 3) (v := .slice (some ⟨g, o, none⟩) n2 c2) (by simp only [List.getElem?_toArray, List.getElem?_cons_zero, List.getElem?_cons_succ]; rfl) (by kernel_rfl) (by kernel_rfl) (by kernel_rfl) (by kernel_rfl) (fun _ _ _ h => h) (Or.inl ⟨by rfl, by intro W' hW; obtain ⟨q0, q1, q2⟩ := hW; go_simp⟩) hS ?_
      try simp only [Act.put, List.setIfInBounds_toArray, List.set_cons_zero, List.set_cons_succ]
      refine Ord.wpM_take (i := 4) (v := .int .i64 (k : Int)) (by simp only [List.getElem?_toArray, List.getElem?_cons_zero, List.getElem?_cons_succ]; rfl) (by kernel_rfl) (by kernel_rfl) (by kernel_rfl) (by kernel_rfl) (fun _ _ _ h => h) (Or.inl ⟨by rfl, by intro W' hW; obtain ⟨q0, q1, q2⟩ := hW; go_simp⟩) hS ?_
      try simp only [Act.put, List.setIfInBounds_toArray, List.set_cons_zero, List.set_cons_succ]
      refine Ord.wpM_take (i := 5) (v := .pointer (some ⟨g, o + k, none⟩)) (by simp only [List.getElem?_toArray, List.getElem?_cons_zero, List.getElem?_cons_succ]; rfl) (by kernel_rfl) (by kernel_rfl) (by kernel_rfl) (by kernel_rfl) (fun _ _ _ h => h) (Or.inl ⟨by rfl, by intro W' hW; obtain ⟨q0, q1, q2⟩ := hW; go_simp⟩) hS ?_
      try simp only [Act.put, List.setIfInBounds_toArray, List.set_cons_zero, List.set_cons_succ]
      refine Ord.wpM_take (i := 6) (v := .bool b) (by simp only [List.getElem?_toArray, List.getElem?_cons_zero, List.getElem?_cons_succ]; rfl) (by kernel_rfl) (by kernel_rfl) (by kernel_rfl) (by kernel_rfl) (fun _ _ _ h => h) (Or.inl ⟨by rfl, by intro W' hW; obtain ⟨q0, q1, q2⟩ := hW; go_simp⟩) hS ?_
      try simp only [Act.put, List.setIfInBounds_toArray, List.set_cons_zero, List.set_cons_succ]
      refine Ord.wpM_take (i := 7) (v := .agg #[.string ⟨#[]⟩, .bool b, .int .i64 0]) (by simp only [List.getElem?_toArray, List.getElem?_cons_zero, List.getElem?_cons_succ]; rfl) (by kernel_rfl) (by kernel_rfl) (by kernel_rfl) (by kernel_rfl) (fun _ _ _ h => h) (Or.inl ⟨by rfl, by intro W' hW; obtain ⟨q0, q1, q2⟩ := hW; go_simp⟩) hS ?_
      try simp only [Act.put, List.setIfInBounds_toArray, List.set_cons_zero, List.set_cons_succ]
      have hnv : nv = es.length := HNv.out
      subst hnv
      have hown := (RowX.own HRd.out).alloc (.cells #[.string ⟨#[]⟩, .bool b, .int .i64 0] 75)
      have hel : es.length ≤ 1048576 := by have h1 := HLen.out; have h2 := HSz.out; omega
      have hw4 : w4.heap.size ≤ wd.heap.size := HFd.out.size
      have hb1 : Below wd.heap.size wd (wd.alloc (.cells #[.string ⟨#[]⟩, .bool b, .int .i64 0] 75)) := (Below.refl _ _).alloc (Nat.le_refl _) _
      refine Ord.wpM_one (i := 8) (by kernel_rfl) (by simp only [List.getElem?_toArray, List.getElem?_cons_zero, List.getElem?_cons_succ]; rfl) (fun K hK => ?_)
      go_simp
      refine hK.out _ _ (fun _ => HSS.out _ (HkFd.out.fs (Fs.of_below (l := []) hb1) (by simp)) (HkXd.out.fs (Fs.of_below (l := []) hb1) (by simp)) (keep_cell hb1 HCd.out)) ?_
      clear hK K
      try simp only [Act.put, List.setIfInBounds_toArray, List.set_cons_zero, List.set_cons_succ]
      refine Ord.wpM_one (i := 9) (by kernel_rfl) (by simp only [List.getElem?_toArray, List.getElem?_cons_zero, List.getElem?_cons_succ]; rfl) (fun K hK => ?_)
      refine step_append_lies _ rfl (.tmp 18) (.tmp 25) 24 rfl w4.heap.size 75 i0 _ 3 32 Try.underlying24 hi0 j0 j1 j2 rfl (by decide) (.slice pv es.length cv) es.length (es.flatMap cellsW) rfl hown ⟨wd.heap.size, 0, none⟩ 1 1 (cellsW (pV b)) rfl rfl (fun j u hj => new_cell wd _ _ j u hj) ?c2 (by decide) ?c3 ?c4 ?c5 (wd.heap.size + 1) (by simp) ?_
      case c2 =>
        intro u hu
        simp only [cellsW, pV, List.mem_cons, List.not_mem_nil, or_false] at hu
        rcases hu with rfl | rfl | rfl <;> rfl
      case c3 => unfold maxLen; omega
      case c4 => omega
      case c5 => first | omega | (simp; omega)
      intro gz cap wf hown2 hgrow hat hlt
      have HRf : Hid (RowW wf w4.heap.size (.slice (some ⟨gz, 0, none⟩) (es.length + 1) cap) (es ++ [pV b])) := RowX.push nestW_nest (RowX.fs (l := []) nestW_nest HRd.out (Fs.of_below hb1) (by simp)) trivial hown2 hgrow (by simpa using hat)
      have hfr : ∀ i, i < w4.heap.size → wf.heap[i]? = wd.heap[i]? := fun i h1 => by
        refine (hgrow.block i (by have := hb1.size; omega) (fun e => ?_)).trans (hb1.block i (by omega))
        have h3 := (RowX.own HRd.out).lt i e.symm
        omega
      have HFr : Hid (Below w4.heap.size wd wf) := ⟨hgrow.os.trans hb1.os, hgrow.tape.trans hb1.tape, hgrow.output.trans hb1.output, Nat.le_trans hb1.size hgrow.size, hfr⟩
      have HLX : Hid (F < w4.heap.size ∧ X < w4.heap.size ∧ g < w4.heap.size) := by have h1 := HOrd.out; have h2 := HGB.out; exact ⟨by omega, by omega, by omega⟩
      have HkFf : Hid (Bk wf F [.slice p1 n1 c1, .slice (some ⟨g, o, none⟩) n2 c2, .int .i64 (pr : Int), .slice p3 n3 c3] 26) := by
        have h1 := HkFd.out
        show Bk _ _ _ _
        unfold Bk at h1 ⊢
        rw [hfr F HLX.out.1]; exact h1
      have HkXf : Hid (Bk wf X [.slice pv es.length cv, .slice p3 n3 c3, .slice none 0 0] 49) := by
        have h1 := HkXd.out
        show Bk _ _ _ _
        unfold Bk at h1 ⊢
        rw [hfr X HLX.out.2.1]; exact h1
      have hCf : wf.cell? ⟨g, o + k, none⟩ = some (.bool b) := by rw [World.cell?_of_block (hfr g HLX.out.2.2)]; exact HCd.out
      have hSf := HSS.out wf HkFf.out HkXf.out hCf
      refine hK.out _ _ (fun _ => hSf) ?_
      have cX := HkXf.out.cell 0 rfl
      have fX := HkXf.out.fr 0
      clear hK K hown2 hgrow hat hlt hown hb1 hfr hCf
      try simp only [Act.put, List.setIfInBounds_toArray, List.set_cons_zero, List.set_cons_succ]
      refine Ord.wpM_one (i := 10) (by kernel_rfl) (by simp only [List.getElem?_toArray, List.getElem?_cons_zero, List.getElem?_cons_succ]; rfl) (fun K hK => ?_)
      go_simp
      refine hK.out _ _ (fun _ => hSf) ?_
      clear hK K
      try simp only [Act.put, List.setIfInBounds_toArray, List.set_cons_zero, List.set_cons_succ]
      refine Ord.wpM_one (i := 11) (by kernel_rfl) (by simp only [List.getElem?_toArray, List.getElem?_cons_zero, List.getElem?_cons_succ]; rfl) (fun K hK => ?_)
      go_simp
      refine hK.out _ _ (fun h => absurd h (by decide)) ?_
      clear hK K
      try simp only [Act.put, List.setIfInBounds_toArray, List.set_cons_zero, List.set_cons_succ]
      refine Ord.wpM_done (by kernel_rfl) ?_ _
      refine NoPanic.normal ?_
      obtain ⟨wg, hwg⟩ : ∃ y, wf.setCell ⟨X, 0, none⟩ (.slice (some ⟨gz, 0, none⟩) (es.length + 1) cap) = y := ⟨_, rfl⟩
      have HkXg : Hid (Bk wg X [.slice (some ⟨gz, 0, none⟩) (es.length + 1) cap, .slice p3 n3 c3, .slice none 0 0] 49) := by show Bk _ _ _ _; rw [← hwg]; exact HkXf.out.set 0 _
      have HFg : Hid (Fs [X] wf wg) := by show Fs _ _ _; rw [← hwg]; exact (Fs.refl _ _).set (by simp) 0 _
      have HFw : Hid (Fs [X] w4 wg) := by
        have h1 := HFd.out
        have h2 := HFr.out
        exact (⟨h2.os.trans h1.os, h2.tape.trans h1.tape, h2.output.trans h1.output, Nat.le_trans h1.size h2.size, fun i hi hn => (h2.block i hi).trans (h1.block i hi hn)⟩ : Fs [X] w4 wf).trans HFg.out
      have HRg : Hid (RowW wg w4.heap.size (.slice (some ⟨gz, 0, none⟩) (es.length + 1) cap) (es ++ [pV b])) := RowX.fs nestW_nest HRf.out HFg.out (by simp; exact HLX.out.2.1)
      have HEg : Hid (es ++ [pV b] = (f.sec.take (k + 1)).map pV) := by
        show _ = _
        rw [List.take_add_one, HBt.out, Option.toList_some, List.map_append, HEs.out]; rfl
      rw [hwg]
      clear hwg hS cX fX y2
      go_wp2
      go_roundw
      case rel => exact ⟨k + 1, _, _, by omega, by go_num, HEg.out, HRg.out, HkXg.out, HFw.out⟩
      case measure => simp [intOf]; omega
    · have hke : k = pr := by omega
      subst hke
      have dl : decide ((k : Int) < (k : Int)) = false := decide_eq_false (by omega)
      have hE : es = parV f := by
        unfold parV
        rw [HPr.out, Int.toNat_natCast]
        exact HEs.out
      have hbx : Below w.heap.size w wr := HBw.out.trans (HFs.out.below HBw.out.size (fun z hz => by simp at hz; have := HOrd.out; omega))
      have hn1 : Hid (G ≠ X ∧ Hh ≠ X) := by have := HOrd.out; exact ⟨by omega, by omega⟩
      have kG := HkG.out.fs HFs.out (by simpa using hn1.out.1)
      have kH := HkH.out.fs HFs.out (by simpa using hn1.out.2)
      have HBX := keep hbx
      have hw := hbx.size
      have HAl := keep (alike_any wr.heap.size (parV f) f.arrs (.slice pv nv cv) (.slice p3 n3 c3) (.slice none 0 0) ws aa _ vs bb _ wr (Nat.le_refl _) (by rw [← hE]; exact RowW.is HRow.out (by have h1 := HLen.out; have h2 := HSz.out; omega)) (VrIs.mono (HFx.out.arrs.below (hbx.mono HBB.out)) (by have := HBB.out; omega)) ⟨_, _, _, rfl⟩ (gvIs_mono (HG.out.below (hbx.mono HBB.out)) (by have := HBB.out; omega)) (gvIs_mono (HH.out.below (hbx.mono HBB.out)) (by have := HBB.out; omega)) HTT.out.1 HTT.out.2)
      have x0 := HKx.out.cell 0 rfl
      have x1 := HKx.out.cell 1 rfl
      have x2 := HKx.out.cell 2 rfl
      have g0 := kG.cell 0 rfl
      have g1 := kG.cell 1 rfl
      have h0 := kH.cell 0 rfl
      have h1 := kH.cell 1 rfl
      clear hkl hE hbx kG kH hw
      go_wp2_with fail
      refine HAl.out.mono ?_
      rintro r w9 ⟨q, rfl, hq, hb9⟩
      have HE : Hid (AlP (parV f) f.arrs ws aa vs bb w (.returned (.bool q)) w9) := ⟨q, rfl, hq, HBX.out.trans (hb9.mono HBX.out.size)⟩
      clear HAl hq hb9 x0 x1 x2 g0 g1 h0 h1 y2
      go_wp2
      go_ret
      exact HE.out
end Go.Proofs.Ytfbmkcogkiejnaa.Fl
