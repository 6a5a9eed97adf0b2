/- The document's own reader: what comes of several steps. -/
import Derived.Test.YtemdnmfldihalaaDoorLrNum
import Derived.Test.YtemdnmfldihalaaDoorLdBase
namespace Go.Proofs.YtemdnmfldihalaaDoor.Lr
set_option linter.unusedVariables false
set_option linter.unusedSimpArgs false
open Go.ChangeShapes Go.WideShapes Go.ChangeAt Go.RowKit Lg

theorem Fr.fs {b : Nat} {w w' : World} (h : Fr b w w') : Fs [b] w w' := ⟨h.os, h.tape, h.output, h.size, fun k hk hl => h.block k hk (by simpa using hl)⟩
theorem PB.fs {w w' : World} {b : Nat} {s : ByteArray} {e : Int} {l : List Nat} (h : PB w b s e) (k : Fs l w w') (hb : b ∉ l) : PB w' b s e := by
  unfold PB at h ⊢
  rw [k.block b (Array.getElem?_eq_some_iff.1 h).1 hb]; exact h
theorem PB.up {w : World} {b : Nat} {s : ByteArray} {e : Int} (h : PB w b s e) (o : Obj) : PB (w.alloc o) b s e := h.below ((Below.refl _ _).alloc (Nat.le_refl _) o)
theorem PB.far {w : World} {b : Nat} {s : ByteArray} {e : Int} (h : PB w b s e) {k : Nat} (hb : b ≠ k) (i : Nat) (v : Value) : PB (w.setCell ⟨k, i, none⟩ v) b s e := by
  unfold PB at h ⊢
  rw [Below.heap_setCell _ _ _ _ hb]; exact h
theorem PB.row {w : World} {b : Nat} {s : ByteArray} {e : Int} (h : PB w b s e) {D : Nat} (hb : b ≠ D) (cs : Array Value) : PB (w.setRow D cs) b s e := by
  unfold PB at h ⊢
  rw [setRow_other _ _ _ _ hb]; exact h

/-- What comes of two steps. -/
theorem rd_then {α β : Type} {w2 : World} {b n n1 : Nat} {e e1 : Int} {s1 : ByteArray} {res : Res α} {f : α → List (List UInt8) → Res β} {x : α} {post : β → Prop}
    (h1 : ¬ e = 0 → e1 = e) (h2 : e = 0 → (∀ y, res = .error y → e1 = y ∧ ¬ y = 0) ∧ ∀ a r, res = .ok (a, r) → e1 = 0 ∧ words s1.data.toList = r ∧ a = x)
    (h : Rd w2 b n1 e1 (f x (words s1.data.toList)) post) (hn : n1 ≤ n) : Rd w2 b n e (andT res f) post := by
  obtain ⟨s2, e2, hp, hs, k1, k2⟩ := h
  refine ⟨s2, e2, hp, Nat.le_trans hs hn, fun he => ?_, fun he => ?_⟩
  · have := h1 he
    rw [k1 (by rw [this]; exact he), this]
  · obtain ⟨g1, g2⟩ := h2 he
    cases hr : res with
    | error y =>
      obtain ⟨i1, i2⟩ := g1 y hr
      refine ⟨fun z hz => ?_, fun a r hz => by cases hz⟩
      cases hz
      rw [k1 (by rw [i1]; exact i2), i1]; exact ⟨rfl, i2⟩
    | ok p =>
      obtain ⟨a, r⟩ := p
      obtain ⟨i1, i2, i3⟩ := g2 a r hr
      subst i3 i2
      exact k2 i1
/-- The last step has come: something is made of what was read. -/
theorem rd_ok {β : Type} {w : World} {b n : Nat} {e : Int} {s : ByteArray} {y : β} {post : β → Prop} (hp : PB w b s e) (hs : s.size ≤ n) (h : post y) : Rd w b n e (.ok (y, words s.data.toList)) post :=
  ⟨s, e, hp, hs, fun _ => rfl, fun he => ⟨fun z hz => (by cases hz), fun a r hz => (by cases hz; exact ⟨he, rfl, h⟩)⟩⟩
/-- It is wrong, or was. -/
theorem rd_bad {β : Type} {w : World} {b n : Nat} {e x : Int} {s : ByteArray} {post : β → Prop} (hp : PB w b s (first e x)) (hs : s.size ≤ n) (hx : ¬ x = 0) : Rd (α := β) w b n e (.error x) post :=
  ⟨s, first e x, hp, hs, fun he => first_ne he, fun he => ⟨fun z hz => (by cases hz; rw [he, first_zero]; exact ⟨rfl, hx⟩), fun a r hz => (by cases hz)⟩⟩
/-- Where something was wrong, whatever. -/
theorem rd_gone {β : Type} {w : World} {b n : Nat} {e : Int} {s : ByteArray} {res : Res β} {post : β → Prop} (he : ¬ e = 0) (hp : PB w b s e) (hs : s.size ≤ n) : Rd w b n e res post :=
  ⟨s, e, hp, hs, fun _ => rfl, fun h => absurd h he⟩
theorem Rd.mono {α : Type} {w : World} {b n : Nat} {e : Int} {res : Res α} {p q : α → Prop} (h : Rd w b n e res p) (hq : ∀ a, p a → q a) : Rd w b n e res q := by
  obtain ⟨s, e1, h1, h2, h3, h4⟩ := h
  exact ⟨s, e1, h1, h2, h3, fun he => ⟨(h4 he).1, fun a r hr => ⟨((h4 he).2 a r hr).1, ((h4 he).2 a r hr).2.1, hq a ((h4 he).2 a r hr).2.2⟩⟩⟩

/-- How much is left to be read, in words. -/
def leftW (b : Nat) (w : World) : Nat := match w.cell? ⟨b, 1, none⟩, w.cell? ⟨b, 0, none⟩ with
  | some (.int _ e), some (.string s) => if e = 0 then (words s.data.toList).length + 1 else 0
  | _, _ => 0
theorem PB.left {w : World} {b : Nat} {s : ByteArray} {e : Int} (h : PB w b s e) : leftW b w = if e = 0 then (words s.data.toList).length + 1 else 0 := by unfold leftW; rw [h.c1, h.c0]

theorem skip_bytes (s : ByteArray) : (⟨(skip s.data.toList).toArray⟩ : ByteArray).data.toList = skip s.data.toList := by simp
theorem skip_size (s : ByteArray) : (⟨(skip s.data.toList).toArray⟩ : ByteArray).size ≤ s.size := by
  rw [size_mk, Lib.size_eq]
  exact (List.dropWhile_sublist Lg.blank (l := s.data.toList)).length_le
theorem upto_shut {α : Type} {f : List (List UInt8) → Res α} (n : Nat) (r : List (List UInt8)) : uptoT f (n + 1) ([41] :: r) = .ok ([], r) := by
  rw [uptoT, List.head?_cons, if_pos rfl]; rfl
theorem upto_more {α : Type} {f : List (List UInt8) → Res α} (n : Nat) {l : List (List UInt8)} (h : ¬ l.head? = some [41]) : uptoT f (n + 1) l = andT (f l) fun a r => andT (uptoT f n r) fun us q => .ok (a :: us, q) := by
  rw [uptoT, if_neg h]
theorem upto_pre {α : Type} (a : α) (x : Res (List α)) : (andT x fun us q => .ok (a :: us, q)) = pre [a] x := by cases x <;> rfl

set_option maxHeartbeats 4000000 in
set_option maxRecDepth 100000 in
/-- All up to a bracket, whatever reads them. -/
theorem all_rd {α : Type} (b B : Nat) (k : FuncId) (binds : Array Value) (f : List (List UInt8) → Res α) (I : World → List α → Prop) (L0 n0 : Nat)
    (eg : ∀ args w, (callFunc k args).run Tryd.prog w = .ok (.enter k args) w)
    (hI : ∀ W W' us, I W us → Fs [b] W W' → I W' us)
    (hf : ∀ l a r, f l = .ok (a, r) → r.length < l.length)
    (hpart : ∀ W s us, PB W b s 0 → s.size ≤ n0 → us.length ≤ L0 → I W us → B ≤ W.heap.size →
      Calls Tryd.prog k binds W fun r w' => r = .returned (.tuple #[]) ∧ ∃ a, I w' (us ++ [a]) ∧ Rd w' b s.size 0 (f (words s.data.toList)) (fun x => x = a) ∧ Fh B [b] W w')
    (s : ByteArray) (hn0 : s.size ≤ n0) (hs : n0 ≤ 281474976710656) (hL : (words s.data.toList).length ≤ L0) (e : Int) (w : World) (h : PB w b s e) (hi : I w []) (hB : B ≤ w.heap.size) :
    Calls Tryd.prog 13 #[.pointer (some ⟨b, 0, none⟩), .func (.func k) #[] binds] w fun r w' => r = .returned (.tuple #[]) ∧ ∃ us, us.length ≤ L0 + 1 ∧ I w' us ∧ Rd w' b s.size e (uptoT f ((words s.data.toList).length + 1) (words s.data.toList)) (fun x => x = us) ∧ Fh B [b] w w' := by
  have HPart := keep hpart
  have HI := keep hI
  have HP := keep h
  have Hi := keep hi
  have Hf := keep hf
  clear hpart hI h hi hf
  go_enter Tryd.func13, Tryd.ntmps13
  go_wp2
  go_loopw [] (fun wx => ∃ (s' : ByteArray) (e' : Int) (us : List α), PB wx b s' e' ∧ s'.size ≤ s.size ∧ us.length ≤ L0 + 1 ∧ I wx us ∧ Fh B [b] w wx ∧ (¬ e = 0 → e' = e) ∧
      (e = 0 → (¬ e' = 0 → uptoT f ((words s.data.toList).length + 1) (words s.data.toList) = .error e') ∧ (e' = 0 → ∃ N', (words s'.data.toList).length < N' ∧ (words s'.data.toList).length + us.length ≤ L0 ∧ uptoT f ((words s.data.toList).length + 1) (words s.data.toList) = pre us (uptoT f N' (words s'.data.toList))))) (fun wx => leftW b wx)
  case atStart => exact ⟨s, e, [], HP.out, Nat.le_refl _, by simp, Hi.out, Fh.refl _ _ _, fun _ => rfl, fun he => ⟨fun h => absurd he h, fun _ => ⟨_, Nat.lt_succ_self _, by simpa using hL, pre_nil _⟩⟩⟩
  case round =>
    obtain ⟨s', e', us, hp, hsz, hul, hia, hfh, hne, heq⟩ := hrel
    have hc1 := hp.c1
    have HP2 := keep hp
    have HIa := keep hia
    have HF := keep hfh
    have HNe := keep hne
    have HEq := keep heq
    have HLw := keep hp.left
    have hBr : B ≤ wr.heap.size := Nat.le_trans hB hfh.size
    clear hp hia hfh hne heq HP Hi
    by_cases he' : e' = 0
    · subst he'
      have he : e = 0 := by
        by_cases h : e = 0
        · exact h
        · exact (HNe.out h).symm
      subst he
      obtain ⟨N', hN', hLe, hrest⟩ := (HEq.out rfl).2 rfl
      have HRest := keep hrest
      obtain ⟨m, rfl⟩ : ∃ m, N' = m + 1 := ⟨N' - 1, by omega⟩
      clear hrest HEq HNe
      rw [if_pos rfl] at HLw
      have HPk := keep (peek_any b s' (by omega) 0 wr HP2.out)
      have HWs := keep (words_step s'.data.toList)
      have HWn := keep (wd_none s'.data.toList)
      have hsk := skip_size s'
      have HSk : Hid (words (⟨(skip s'.data.toList).toArray⟩ : ByteArray).data.toList = words s'.data.toList) := by
        show words _ = _
        rw [skip_bytes, words_skip]
      generalize (⟨(skip s'.data.toList).toArray⟩ : ByteArray) = sk at *
      generalize wd s'.data.toList = W at *
      by_cases hshut : W = [41]
      · subst hshut
        have HHd : Hid (∃ r, words s'.data.toList = [41] :: r) := by
          refine ⟨words (rs s'.data.toList), ?_⟩
          rw [HWs.out, if_neg (fun h => by have := HWn.out.2 h; cases this)]
        go_wp2_with fail
        refine HPk.out.mono ?_
        rintro r w1 ⟨rfl, hp1, hf1⟩
        have HP1 := keep hp1
        have HF1 := keep (HF.out.trans (hf1.fs.fh hBr))
        have HI1 := keep (HI.out _ _ _ HIa.out hf1.fs)
        have hB1 : B ≤ w1.heap.size := Nat.le_trans hBr hf1.size
        clear hp1 hf1 HPk HP2 hc1
        go_wp2_with fail
        refine (is_rd b sk (by omega) 0 ⟨#[41]⟩ w1 HP1.out).mono ?_
        rintro r w2 ⟨rfl, hr2, hf2⟩
        have HR2 := keep hr2
        have HF2 := keep (HF1.out.trans (hf2.fs.fh hB1))
        have HI2 := keep (HI.out _ _ _ HI1.out hf2.fs)
        clear hr2 hf2
        go_wp2
        go_end0
        obtain ⟨s2, e2, hp2, hn2, k1, k2⟩ := HR2.out
        obtain ⟨rest, hrw⟩ := HHd.out
        rw [HSk.out, hrw, wantT_toks] at k2
        obtain ⟨k3, k4⟩ := k2 rfl
        obtain ⟨k5, k6, _⟩ := k4 _ _ rfl
        refine ⟨rfl, us, hul, HI2.out, ⟨s2, e2, hp2, by omega, fun h => absurd rfl h, fun _ => ?_⟩, HF2.out⟩
        rw [HRest.out, hrw, upto_shut]
        exact ⟨fun x hx => (by cases hx), fun a r hx => (by cases hx; exact ⟨k5, k6, by simp⟩)⟩
      · have d1 : (W == [41]) = false := by simpa using hshut
        have HHd : Hid (¬ (words s'.data.toList).head? = some [41]) := by
          show ¬ _
          rw [HWs.out]
          intro hh
          split at hh
          · cases hh
          · rw [List.head?_cons] at hh; exact hshut (Option.some.inj hh)
        clear hshut
        go_wp2_with fail
        refine HPk.out.mono ?_
        rintro r w1 ⟨rfl, hp1, hf1⟩
        have HP1 := keep hp1
        have HF1 := keep (HF.out.trans (hf1.fs.fh hBr))
        have HC2 := keep (HPart.out w1 sk us hp1 (by omega) (by omega) (HI.out _ _ _ HIa.out hf1.fs) (Nat.le_trans hBr hf1.size))
        clear hp1 hf1 HPk HP2 hc1
        go_wp2_with (go_at_fn k; refine HC2.out.mono ?_; rintro r w2 ⟨rfl, a, hi2, hr2, hf2⟩; have HI2 := keep hi2; have HR2 := keep hr2; have HF2 := keep (HF1.out.trans hf2); clear hi2 hr2 hf2)
        obtain ⟨s2, e2, hp2, hs2, k1, k2⟩ := HR2.out
        rw [HSk.out] at k2
        obtain ⟨k3, k4⟩ := k2 rfl
        go_roundw
        case rel =>
          refine ⟨s2, e2, us ++ [a], hp2, by omega, by rw [List.length_append, List.length_singleton]; omega, HI2.out, HF2.out, fun h => absurd trivial h, fun _ => ⟨fun he2 => ?_, fun he2 => ?_⟩⟩
          · rw [HRest.out, upto_more m HHd.out]
            cases hfr : f (words s'.data.toList) with
            | error x => rw [(k3 x hfr).1]; rfl
            | ok p =>
              obtain ⟨a', q⟩ := p
              exact absurd (k4 a' q hfr).1 he2
          · cases hfr : f (words s'.data.toList) with
            | error x => exact absurd ((k3 x hfr).1 ▸ he2) (k3 x hfr).2
            | ok p =>
              obtain ⟨a', q⟩ := p
              obtain ⟨_, g2, g3⟩ := k4 a' q hfr
              have hlt := Hf.out _ _ _ hfr
              refine ⟨m, by rw [g2]; omega, by rw [g2, List.length_append, List.length_singleton]; omega, ?_⟩
              rw [HRest.out, upto_more m HHd.out, hfr, andT_ok, upto_pre, pre_pre, g2, g3]
        case measure =>
          rw [HLw.out, hp2.left]
          by_cases he2 : e2 = 0
          · rw [if_pos he2]
            cases hfr : f (words s'.data.toList) with
            | error x => exact absurd ((k3 x hfr).1 ▸ he2) (k3 x hfr).2
            | ok p =>
              obtain ⟨a', q⟩ := p
              obtain ⟨_, g2, g3⟩ := k4 a' q hfr
              have hlt := Hf.out _ _ _ hfr
              rw [g2]; omega
          · rw [if_neg he2]; omega
    · have d : (e' == 0) = false := by simpa using he'
      have HE := keep he'
      clear he'
      go_wp2_with fail
      refine (is_rd b s' (by omega) e' ⟨#[41]⟩ wr HP2.out).mono ?_
      rintro r w2 ⟨rfl, hr2, hf2⟩
      have HR2 := keep hr2
      have HF2 := keep (HF.out.trans (hf2.fs.fh hBr))
      have HI2 := keep (HI.out _ _ _ HIa.out hf2.fs)
      clear hr2 hf2
      go_wp2
      go_end0
      obtain ⟨s2, e2, hp2, hn2, k1, k2⟩ := HR2.out
      have hee := k1 HE.out
      subst hee
      refine ⟨rfl, us, hul, HI2.out, ⟨s2, _, hp2, by omega, HNe.out, fun he => ?_⟩, HF2.out⟩
      rw [(HEq.out he).1 HE.out]
      exact ⟨fun x hx => (by cases hx; exact ⟨rfl, HE.out⟩), fun a r hx => (by cases hx)⟩
end Go.Proofs.YtemdnmfldihalaaDoor.Lr
