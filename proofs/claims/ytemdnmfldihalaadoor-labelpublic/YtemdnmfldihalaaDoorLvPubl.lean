/- Variables, all made public, in chapter 4's laws. Written by tools/gen_vall.py. Statements, all made public, in chapter 4's laws. Written by tools/gen_vall.py. -/
import Derived.Test.YtemdnmfldihalaaDoorLvAlive4
import Derived.Test.YtemdnmfldihalaaDoorLcSmall
namespace Go.Proofs.YtemdnmfldihalaaDoor.Lr
set_option linter.unusedVariables false
set_option linter.unusedSimpArgs false
open Go.ChangeShapes Go.WideShapes Go.ChangeAt Go.RowKit Lg Rf

theorem take_pub {l : List Vr} {k : Nat} {v : Vr} (h : l[k]? = some v) : (l.take (k + 1)).map pubV = (l.take k).map pubV ++ [pubV v] := by
  obtain ⟨hk, rfl⟩ := List.getElem?_eq_some_iff.1 h
  rw [List.take_succ_eq_append_getElem hk, List.map_append]; rfl
set_option maxHeartbeats 8000000 in
set_option maxRecDepth 100000 in
theorem vars_any (B : Nat) (vs : List Vr) (sl : Value) (w : World) (hB : B ≤ w.heap.size) (h : VrIs w B vs sl) (hl : vs.length ≤ 2500) :
    Calls Tryd.prog 10 #[sl, .bool false] w fun r w' => ∃ v, r = .returned v ∧ RowV w' w.heap.size v (vs.map pubV) ∧ Below w.heap.size w w' := by
  obtain ⟨p, n, cap, rfl, hn, hc, hm, hat⟩ := h
  subst hn
  obtain ⟨i0, hi0, j0, j1, j2⟩ := info_parts infoV
  have HAt := keep hat
  clear hat
  go_enter Tryd.func10, Tryd.ntmps10
  go_wp2
  go_loopw [10, 5] (fun i v wx => ∃ k : Nat, k ≤ vs.length ∧ i = .int .i64 (k : Int) ∧ RowV wx w.heap.size v ((vs.take k).map pubV) ∧ Below w.heap.size w wx) (fun i _ _ => vs.length - (intOf i).toNat)
  case atStart => exact ⟨0, by omega, rfl, RowX.nil _ _, Below.refl _ _⟩
  case round =>
    rename_i vr
    obtain ⟨k, hkn, rfl, hrow, hbx⟩ := hrel
    have HR := keep hrow
    have HX := keep hbx
    clear hrow hbx
    obtain ⟨pr, nr, cr, rfl⟩ := RowX.slice HR.out
    have hnr := RowX.len HR.out
    by_cases hkl : k < vs.length
    · have d1 : decide ((k : Int) < (vs.length : Int)) = true := decide_eq_true (by omega)
      have hkz : (k : Int) < (vs.length : Int) := by omega
      have hk0 : (0 : Int) ≤ (k : Int) := by omega
      obtain ⟨x, hx⟩ : ∃ x, vs[k]? = some x := ⟨_, List.getElem?_eq_getElem hkl⟩
      obtain ⟨g, o, rfl, hg, hat⟩ := HAt.out k x hx
      have hat := hat.below (HX.out.mono hB) hg
      have a0 := hat.c0
      have a1 := hat.c1
      have a2 := hat.c2
      have HStep := keep (take_pub hx)
      obtain ⟨xn, xs, xz⟩ := x
      simp only at a0 a1 a2
      have hnk : ((vs.take k).map pubV).length = k := by rw [List.length_map, List.length_take]; omega
      rw [hnk] at hnr
      subst hnr
      obtain ⟨es, hes⟩ : ∃ es, (vs.take nr).map pubV = es := ⟨_, rfl⟩
      rw [hes] at HR HStep hnk
      clear hes
      obtain ⟨w3, hw3⟩ : ∃ w3, wr.alloc (.cells #[.string ⟨xn.toArray⟩, .bool false, .int .i64 xz] 35) = w3 := ⟨_, rfl⟩
      have hb3 : Below wr.heap.size wr w3 := by rw [← hw3]; exact (Below.refl _ _).alloc (Nat.le_refl _) _
      have HT3 : Hid (Bk w3 wr.heap.size [.string ⟨xn.toArray⟩, .bool false, .int .i64 xz] 35) := by
        show Bk _ _ _ _
        rw [← hw3]; exact Bk.new wr _ _
      have HR3 := keep (RowX.fs (l := []) nestV_nest HR.out (Fs.of_below hb3) (by simp))
      have HB3 := keep (HX.out.trans (hb3.mono HX.out.size))
      have hown := (RowX.own HR3.out).alloc (.cells #[.string ⟨xn.toArray⟩, .bool false, .int .i64 xz] 35)
      rw [hnk] at hown
      have HW3 := keep hw3
      have HNw : Hid (∀ j u, (cellsV ⟨xn, false, xz⟩)[j]? = some u → (w3.alloc (.cells #[.string ⟨xn.toArray⟩, .bool false, .int .i64 xz] 35)).cell? ((⟨wr.heap.size + 1, 0, none⟩ : Addr).add j) = some u) := fun j u hj => by
        have := new_cell w3 [.string ⟨xn.toArray⟩, .bool false, .int .i64 xz] 35 j u hj
        rw [show w3.heap.size = wr.heap.size + 1 by rw [← hw3]; simp] at this
        exact this
      have HOne : Hid (∀ u ∈ cellsV ⟨xn, false, xz⟩, u.oneCell' = true) := fun u hu => by
        simp only [cellsV, List.mem_cons, List.not_mem_nil, or_false] at hu
        rcases hu with rfl | rfl | rfl <;> rfl
      have hz3 : w.heap.size ≤ w3.heap.size := HB3.out.size
      have hs3 : w3.heap.size = wr.heap.size + 1 := by rw [← hw3]; simp
      clear hx hat hw3 hb3 HR
      go_wp2_with (first
        | rw [HW3.out]
        | refine wpList_load_row rfl 35 (.tmp 7) rfl wr.heap.size rfl 35 #[.string ⟨xn.toArray⟩, .bool false, .int .i64 xz] (0, 0) _ HT3.out Tryd.underlying35 rfl (info_V [.string ⟨xn.toArray⟩, .bool false, .int .i64 xz] rfl) ?_
        | (at_builtin; refine wpList_append_lies _ rfl (.tmp 16) (.tmp 18) 22 rfl w.heap.size 35 i0 _ 3 32 Tryd.underlying22 hi0 j0 j1 j2 rfl (by decide) (.slice pr nr cr) nr (es.flatMap cellsV) rfl hown ⟨wr.heap.size + 1, 0, none⟩ 1 1 (cellsV ⟨xn, false, xz⟩) rfl rfl HNw.out HOne.out (by decide) (by unfold maxLen; omega) (by omega) (by simp; omega) (w3.heap.size + 1) (by simp [hs3]) ?_))
      intro gq cq w4 hown2 hgrow hat hlt
      have HR4 : Hid (RowV w4 w.heap.size (.slice (some ⟨gq, 0, none⟩) (nr + 1) cq) (es ++ [pubV ⟨xn, xs, xz⟩])) := ⟨by rw [List.length_append, List.length_singleton, hnk, List.flatMap_append, List.flatMap_singleton]; exact hown2, fun p hp => trivial⟩
      have hba : Below w3.heap.size w3 (w3.alloc (.cells #[.string ⟨xn.toArray⟩, .bool false, .int .i64 xz] 35)) := (Below.refl _ _).alloc (Nat.le_refl _) _
      have HB4 : Hid (Below w.heap.size w w4) := HB3.out.trans ⟨hgrow.os, hgrow.tape, hgrow.output, by have := hgrow.size; simp at this; omega, fun i hi => (hgrow.block i (by have := HB3.out.size; simp; omega) (fun e => by have := ((RowX.own HR3.out).lt i e.symm).1; omega)).trans (hba.block i (by have := HB3.out.size; omega))⟩
      rw [← HStep.out] at HR4
      clear hown2 hgrow hat hlt hown hba HStep
      go_wp2
      go_roundw
      case rel => exact ⟨nr + 1, by omega, by go_num, HR4.out, HB4.out⟩
      case measure => simp [intOf]; omega
    · have hke : k = vs.length := by omega
      subst hke
      have dl : decide ((vs.length : Int) < (vs.length : Int)) = false := decide_eq_false (by omega)
      have HE : Hid (RowV wr w.heap.size (.slice pr nr cr) (vs.map pubV)) := by
        have := HR.out
        rw [List.take_length] at this
        exact this
      clear hkl hnr
      go_wp2
      go_ret
      exact ⟨_, rfl, HE.out, HX.out⟩
end Go.Proofs.YtemdnmfldihalaaDoor.Lr
namespace Go.Proofs.YtemdnmfldihalaaDoor.Lr
set_option linter.unusedVariables false
set_option linter.unusedSimpArgs false
open Go.ChangeShapes Go.WideShapes Go.ChangeAt Go.RowKit Lg Rf

theorem ExIs.keepB {w w' : World} {B : Nat} (hb : ∀ i, i < B → w'.heap[i]? = w.heap[i]?) : ∀ {m : Nat} {e : Ex} {sl : Value}, ExIs w B m e sl → ExIs w' B m e sl
  | 0, _, _, h => h
  | m + 1, e, sl, h => by
    rcases h with h | ⟨g, o, cap, h1, h2, h5, h3, h4⟩
    · exact .inl h
    · refine .inr ⟨g, o, cap, h1, h2, h5, h3, fun j a hj => ?_⟩
      obtain ⟨sl', k1, k2⟩ := h4 j a hj
      have key : ∀ i, w'.cell? ⟨g, i, none⟩ = w.cell? ⟨g, i, none⟩ := fun i => by unfold World.cell?; simp only [hb g h3]
      exact ⟨sl', ⟨by rw [key]; exact k1.c0, by rw [key]; exact k1.c1, by rw [key]; exact k1.c2, by rw [key]; exact k1.c3⟩, ExIs.keepB hb k2⟩
theorem ExIs.more {w : World} {B B' : Nat} (hB : B ≤ B') : ∀ {m : Nat} {e : Ex} {sl : Value}, ExIs w B m e sl → ExIs w B' m e sl
  | 0, _, _, h => h
  | m + 1, e, sl, h => by
    rcases h with h | ⟨g, o, cap, h1, h2, h5, h3, h4⟩
    · exact .inl h
    · refine .inr ⟨g, o, cap, h1, h2, h5, by omega, fun j a hj => ?_⟩
      obtain ⟨sl', k1, k2⟩ := h4 j a hj
      exact ⟨sl', k1, ExIs.more hB k2⟩
/-- The slice sl holds statements, in blocks of X; their expressions lie below B. -/
def StP (w : World) (B : Nat) (X : Nat → Prop) : Nat → List St → Value → Prop
  | 0, _, _ => False
  | m + 1, l, sl => (l = [] ∧ sl = .slice none 0 0) ∨ ∃ (g cap : Nat), sl = .slice (some ⟨g, 0, none⟩) l.length cap ∧ l.length ≤ cap ∧ l.length ≤ 281474976710656 ∧ X g ∧
      ∀ j t, l[j]? = some t → ∃ s1 s2 s3, StAt w g (0 + j * 7) t s1 s2 s3 ∧ ExIs w B 11 (ar t.args) s1 ∧ StP w B X m t.thn s2 ∧ StP w B X m t.els s3
theorem StP.keep {w w' : World} {B : Nat} {X : Nat → Prop} (h0 : ∀ i, i < B → w'.heap[i]? = w.heap[i]?) (hb : ∀ i, X i → w'.heap[i]? = w.heap[i]?) : ∀ {m : Nat} {l : List St} {sl : Value}, StP w B X m l sl → StP w' B X m l sl
  | 0, _, _, h => h
  | m + 1, l, sl, h => by
    rcases h with h | ⟨g, cap, h1, h2, h5, h3, h4⟩
    · exact .inl h
    · refine .inr ⟨g, cap, h1, h2, h5, h3, fun j t hj => ?_⟩
      obtain ⟨s1, s2, s3, k1, k2, k3, k4⟩ := h4 j t hj
      have key : ∀ i, w'.cell? ⟨g, i, none⟩ = w.cell? ⟨g, i, none⟩ := fun i => by unfold World.cell?; simp only [hb g h3]
      exact ⟨s1, s2, s3, ⟨by rw [key]; exact k1.c0, by rw [key]; exact k1.c1, by rw [key]; exact k1.c2, by rw [key]; exact k1.c3, by rw [key]; exact k1.c4, by rw [key]; exact k1.c5, by rw [key]; exact k1.c6⟩, ExIs.keepB h0 k2, StP.keep h0 hb k3, StP.keep h0 hb k4⟩
theorem StP.mono {w : World} {B : Nat} {X Y : Nat → Prop} (hb : ∀ i, X i → Y i) : ∀ {m : Nat} {l : List St} {sl : Value}, StP w B X m l sl → StP w B Y m l sl
  | 0, _, _, h => h
  | m + 1, l, sl, h => by
    rcases h with h | ⟨g, cap, h1, h2, h5, h3, h4⟩
    · exact .inl h
    · refine .inr ⟨g, cap, h1, h2, h5, hb g h3, fun j t hj => ?_⟩
      obtain ⟨s1, s2, s3, k1, k2, k3, k4⟩ := h4 j t hj
      exact ⟨s1, s2, s3, k1, k2, StP.mono hb k3, StP.mono hb k4⟩
theorem StP.stIs {w : World} {B B' : Nat} {X : Nat → Prop} (hb : ∀ i, X i → i < B') (hB : B ≤ B') : ∀ {m : Nat} {l : List St} {sl : Value}, StP w B X m l sl → StIs w B' 10 m l sl
  | 0, _, _, h => h
  | m + 1, l, sl, h => by
    rcases h with ⟨h1, h2⟩ | ⟨g, cap, h1, h2, h5, h3, h4⟩
    · exact ⟨none, 0, 0, h2, by rw [h1]; rfl, Nat.le_refl _, by decide, fun j t hj => by rw [h1] at hj; cases hj⟩
    · refine ⟨some ⟨g, 0, none⟩, _, cap, h1, rfl, h2, h5, fun j t hj => ?_⟩
      obtain ⟨s1, s2, s3, k1, k2, k3, k4⟩ := h4 j t hj
      exact ⟨g, 0, s1, s2, s3, rfl, hb g h3, k1, ExIs.more hB k2, StP.stIs hb hB k3, StP.stIs hb hB k4⟩
theorem StP.slice {w : World} {B : Nat} {X : Nat → Prop} : ∀ {m : Nat} {l : List St} {sl : Value}, StP w B X m l sl → ∃ p n cap, sl = .slice p n cap
  | 0, _, _, h => h.elim
  | m + 1, l, sl, h => by
    rcases h with ⟨h1, h2⟩ | ⟨g, cap, h1, _⟩
    · exact ⟨_, _, _, h2⟩
    · exact ⟨_, _, _, h1⟩
def nestT (w : World) (X : Nat → Prop) (p : St × Value × Value × Value) : Prop := True
theorem nestT_nest : Nest nestT := ⟨fun w w' X p h hb => trivial, fun w X Y p h hb => trivial⟩
def nestP (B K : Nat) (w : World) (X : Nat → Prop) (p : St × Value × Value × Value) : Prop := ExIs w B 11 (ar p.1.args) p.2.1 ∧ StP w B X K p.1.thn p.2.2.1 ∧ StP w B X K p.1.els p.2.2.2
/-- A row of statements that is built; their expressions lie below B. -/
structure RowP (B K : Nat) (w : World) (lo : Nat) (v : Value) (es : List (St × Value × Value × Value)) : Prop where
  row : RowX nestT cellsS 7 67 w lo v es
  sub : ∀ p ∈ es, nestP B K w (In lo v w) p
theorem RowP.nil (B K : Nat) (w : World) (lo : Nat) : RowP B K w lo (.slice none 0 0) [] := ⟨RowX.nil _ _, by simp⟩
theorem RowP.below {B K : Nat} {w w' : World} {lo : Nat} {v : Value} {es : List (St × Value × Value × Value)} (h : RowP B K w lo v es) (hB : B ≤ w.heap.size) (k : Below w.heap.size w w') : RowP B K w' lo v es := by
  refine ⟨RowX.fs (l := []) nestT_nest h.row (Fs.of_below k) (by simp), fun p hp => ?_⟩
  obtain ⟨h1, h2, h3⟩ := h.sub p hp
  have h0 : ∀ i, i < B → w'.heap[i]? = w.heap[i]? := fun i hi => k.block i (by omega)
  have hb : ∀ i, In lo v w i → w'.heap[i]? = w.heap[i]? := fun i hi => k.block i hi.2.1
  have hm : ∀ i, In lo v w i → In lo v w' i := fun i hi => ⟨hi.1, Nat.lt_of_lt_of_le hi.2.1 k.size, hi.2.2⟩
  exact ⟨ExIs.keepB h0 h1, StP.mono hm (StP.keep h0 hb h2), StP.mono hm (StP.keep h0 hb h3)⟩
theorem RowP.push {B K : Nat} {w w1 : World} {lo g n cap : Nat} {v : Value} {es : List (St × Value × Value × Value)} {p : St × Value × Value × Value} (hBl : B ≤ lo) (hlw : lo ≤ w.heap.size) (h : RowP B K w lo v es) (hp : nestP B K w (In lo v w) p)
    (hown : w1.ownsRow lo 67 7 (.slice (some ⟨g, 0, none⟩) n cap) (es.length + 1) (es.flatMap cellsS ++ cellsS p)) (hgrow : w.grownBy w1 v.ownBlock) (hat : v.ownBlock = some g ∨ w.heap.size ≤ g) :
    RowP B K w1 lo (.slice (some ⟨g, 0, none⟩) n cap) (es ++ [p]) := by
  have hown0 := RowX.own h.row
  have h0 : ∀ i, i < B → w1.heap[i]? = w.heap[i]? := fun i hi => hgrow.block i (by omega) (fun e => by have := (hown0.lt i e.symm).1; omega)
  have hb : ∀ i, In lo v w i → w1.heap[i]? = w.heap[i]? := fun i hi => hgrow.block i hi.2.1 (fun e => hi.2.2 e.symm)
  have hm : ∀ i, In lo v w i → In lo (.slice (some ⟨g, 0, none⟩) n cap) w1 i := fun i hi => ⟨hi.1, Nat.lt_of_lt_of_le hi.2.1 hgrow.size, fun e => by
    have e' : g = i := by simpa [Value.ownBlock] using e
    rcases hat with ha | ha
    · exact hi.2.2 (by rw [ha, e'])
    · have := hi.2.1; omega⟩
  have key : ∀ q, nestP B K w (In lo v w) q → nestP B K w1 (In lo (.slice (some ⟨g, 0, none⟩) n cap) w1) q := fun q hq => ⟨ExIs.keepB h0 hq.1, StP.mono hm (StP.keep h0 hb hq.2.1), StP.mono hm (StP.keep h0 hb hq.2.2)⟩
  refine ⟨⟨by rw [List.length_append, List.length_singleton, List.flatMap_append, List.flatMap_singleton]; exact hown, fun q hq => trivial⟩, fun q hq => ?_⟩
  rcases List.mem_append.1 hq with e | e
  · exact key q (h.sub q e)
  · rw [List.mem_singleton] at e; rw [e]; exact key p hp
theorem RowP.fin {B K : Nat} {w : World} {lo : Nat} {v : Value} {es : List (St × Value × Value × Value)} (h : RowP B K w lo v es) (hl : es.length ≤ 281474976710656) : StP w B (fun i => lo ≤ i ∧ i < w.heap.size) (K + 1) (es.map (·.1)) v := by
  rcases RowX.form cellsS_len h.row with ⟨h1, h2⟩ | ⟨g, cap, h1, h2, h3, h4, h5⟩
  · exact .inl ⟨by rw [h1]; rfl, h2⟩
  · refine .inr ⟨g, cap, by rw [List.length_map]; exact h1, by rw [List.length_map]; exact h2, by rw [List.length_map]; exact hl, ⟨h3, h4⟩, fun j t hj => ?_⟩
    rw [List.getElem?_map, Option.map_eq_some_iff] at hj
    obtain ⟨p, hp, rfl⟩ := hj
    obtain ⟨k1, k2, k3⟩ := h.sub p (List.mem_of_getElem? hp)
    refine ⟨p.2.1, p.2.2.1, p.2.2.2, ⟨?_, ?_, ?_, ?_, ?_, ?_, ?_⟩, k1, StP.mono (fun i hi => ⟨hi.1, hi.2.1⟩) k2, StP.mono (fun i hi => ⟨hi.1, hi.2.1⟩) k3⟩
    · rw [Nat.zero_add]; exact h5 j p 0 _ hp rfl
    · rw [Nat.zero_add]; exact h5 j p 1 _ hp rfl
    · rw [Nat.zero_add]; exact h5 j p 2 _ hp rfl
    · rw [Nat.zero_add]; exact h5 j p 3 _ hp rfl
    · rw [Nat.zero_add]; exact h5 j p 4 _ hp rfl
    · rw [Nat.zero_add]; exact h5 j p 5 _ hp rfl
    · rw [Nat.zero_add]; exact h5 j p 6 _ hp rfl
def AllOK (m : Nat) : Prop := ∀ (K B : Nat) (l : List St) (sl : Value) (w : World), m ≤ K → B ≤ w.heap.size → (∀ t ∈ l, wfS m t) → (∀ t ∈ l, SmallS m t) → l.length ≤ 2500 → StIs w B 10 (K + 1) l sl →
  Calls Tryd.prog 11 #[sl, .bool false] w fun r w' => ∃ v, r = .returned v ∧ StP w' B (New w w') (K + 1) (l.map (pubS m)) v ∧ Below w.heap.size w w'
theorem wfS_thn {m : Nat} {t : St} (h : wfS (m + 1) t) : (∀ u ∈ t.thn, wfS m u) ∧ ∀ u ∈ t.els, wfS m u := by
  have nil : ∀ u ∈ ([] : List St), wfS m u := fun u hu => by cases hu
  rcases h with ⟨_, _, h3, h4, _⟩ | ⟨_, _, _, _, h5, h6, _⟩ | ⟨_, _, _, _, _, h7, h8⟩ | ⟨_, _, _, _, _, _, h7, h8⟩
  · rw [h3, h4]; exact ⟨nil, nil⟩
  · rw [h5, h6]; exact ⟨nil, nil⟩
  · exact ⟨h7, h8⟩
  · rw [h7]; exact ⟨h8, nil⟩
theorem take_pubS {m : Nat} {l : List St} {k : Nat} {t : St} (h : l[k]? = some t) : (l.take (k + 1)).map (pubS m) = (l.take k).map (pubS m) ++ [pubS m t] := by
  obtain ⟨hk, rfl⟩ := List.getElem?_eq_some_iff.1 h
  rw [List.take_succ_eq_append_getElem hk, List.map_append]; rfl
end Go.Proofs.YtemdnmfldihalaaDoor.Lr
