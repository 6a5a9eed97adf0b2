/- The document's own reader: how things stand while an expression is read that is made of others. Written by tools/gen_dmade.py. -/
import Derived.Test.YtemdnmfldihalaaDoorLdExpr
import Derived.Test.YtemdnmfldihalaaDoorLgAll
import Derived.Great.BuildSlice
namespace Go.Proofs.YtemdnmfldihalaaDoor.Lr
set_option linter.unusedVariables false
set_option linter.unusedSimpArgs false
open Go.ChangeShapes Go.WideShapes Go.ChangeAt Go.RowKit Lg Rf

theorem rs_bytes (s : ByteArray) : (⟨(rs s.data.toList).toArray⟩ : ByteArray).data.toList = rs s.data.toList := by simp
/-- The next word: what is left is known. -/
theorem w_ex (b : Nat) (s : ByteArray) (hs : s.size ≤ 281474976710656) (e : Int) (w : World) (h : PB w b s e) :
    Calls Tryd.prog 26 #[.pointer (some ⟨b, 0, none⟩)] w fun r w' => r = .returned (.string ⟨(wd s.data.toList).toArray⟩) ∧ (∃ e', PB w' b ⟨(rs s.data.toList).toArray⟩ e' ∧ (¬ e = 0 → e' = e) ∧ (e = 0 → (∀ x, next (words s.data.toList) = .error x → e' = x ∧ ¬ x = 0) ∧ ∀ a r, next (words s.data.toList) = .ok (a, r) → e' = 0 ∧ words (rs s.data.toList) = r ∧ a = wd s.data.toList)) ∧ Fr b w w' := by
  refine (w_any b s hs e w h).mono ?_
  rintro r w' ⟨rfl, hp, hf⟩
  refine ⟨rfl, ⟨_, hp, fun he => ?_, fun he => ?_⟩, hf⟩
  · by_cases hw : wd s.data.toList = []
    · rw [if_pos hw, first_ne he]
    · rw [if_neg hw]
  · subst he
    rw [next_words]
    by_cases hw : wd s.data.toList = []
    · rw [if_pos hw, if_pos hw, first_zero]
      exact ⟨fun x hx => (by cases hx; exact ⟨rfl, by decide⟩), fun a r hx => (by cases hx)⟩
    · rw [if_neg hw, if_neg hw]
      refine ⟨fun x hx => (by cases hx), fun a r hx => ?_⟩
      cases hx
      exact ⟨rfl, rfl, rfl⟩
/-- The next word, that is known. -/
theorem w_pack (b : Nat) (s : ByteArray) (hs : s.size ≤ 281474976710656) (X : List UInt8) (hX : wd s.data.toList = X) : ∃ s1 : ByteArray, s1.data.toList = rs s.data.toList ∧ s1.size ≤ s.size ∧ ∀ (e : Int) (w : World), PB w b s e →
    Calls Tryd.prog 26 #[.pointer (some ⟨b, 0, none⟩)] w fun r w' => r = .returned (.string ⟨X.toArray⟩) ∧ (∃ e', PB w' b s1 e' ∧ (¬ e = 0 → e' = e) ∧ (e = 0 → (∀ x, next (words s.data.toList) = .error x → e' = x ∧ ¬ x = 0) ∧ ∀ a r, next (words s.data.toList) = .ok (a, r) → e' = 0 ∧ words s1.data.toList = r ∧ a = X)) ∧ Fr b w w' := by
  subst hX
  refine ⟨⟨(rs s.data.toList).toArray⟩, by simp, rs_len s, fun e w h => ?_⟩
  refine (w_ex b s hs e w h).mono ?_
  rintro r w' ⟨rfl, ⟨e', hp, h1, h2⟩, hf⟩
  refine ⟨rfl, ⟨e', hp, h1, ?_⟩, hf⟩
  rw [rs_bytes]; exact h2
structure MS (w W : World) (b E : Nat) (l : List Value) : Prop where
  fs : Fs [b] w W
  D : Bk W w.heap.size [.int .i64 0, .int .i64 0, .string ⟨#[]⟩, .slice none 0 0] 76
  E : Bk W E l 76
theorem MS.step {w W W' : World} {b E : Nat} {l : List Value} (h : MS w W b E l) (hb : b < w.heap.size) (hE : w.heap.size < E) (k : Fs [b] W W') : MS w W' b E l :=
  ⟨h.fs.trans k, h.D.fs k (by simp; omega), h.E.fs k (by simp; omega)⟩
theorem MS.set {w W : World} {b E : Nat} {l : List Value} (h : MS w W b E l) (hE : w.heap.size < E) (i : Nat) (v : Value) : MS w (W.setCell ⟨E, i, none⟩ v) b E (l.set i v) :=
  ⟨⟨h.fs.os, h.fs.tape, h.fs.output, by simp [World.setCell]; exact h.fs.size, fun k hk hl => by
      rw [Below.heap_setCell _ _ _ _ (by show k ≠ E; omega)]; exact h.fs.block k hk hl⟩, h.D.far _ _ (by omega), h.E.set i v⟩
/-- A step that leaves all there is, but the reader and its own. -/
theorem MS.grow {w W W' : World} {b E : Nat} {l : List Value} (h : MS w W b E l) (hE : w.heap.size < E) (os : W'.os = W.os) (tape : W'.tape = W.tape) (output : W'.output = W.output) (size : W.heap.size ≤ W'.heap.size) (k : ∀ i, i ≤ E → W'.heap[i]? = W.heap[i]?) : MS w W' b E l :=
  ⟨⟨os.trans h.fs.os, tape.trans h.fs.tape, output.trans h.fs.output, Nat.le_trans h.fs.size size, fun i hi hl => (k i (by omega)).trans (h.fs.block i hi hl)⟩,
    by have := h.D; unfold Bk at this ⊢; rw [k _ (by omega)]; exact this, by have := h.E; unfold Bk at this ⊢; rw [k _ (Nat.le_refl _)]; exact this⟩
theorem rd_go {β : Type} {w2 : World} {b n n1 : Nat} {e e1 : Int} {s1 : ByteArray} {res : Res Unit} {f : Unit → List (List UInt8) → Res β} {post : β → Prop}
    (h1 : ¬ e = 0 → e1 = e) (h2 : e = 0 → (∀ y, res = .error y → e1 = y ∧ ¬ y = 0) ∧ ∀ a r, res = .ok (a, r) → e1 = 0 ∧ words s1.data.toList = r ∧ True)
    (h : Rd w2 b n1 e1 (f () (words s1.data.toList)) post) (hn : n1 ≤ n) : Rd w2 b n e (andT res f) post :=
  rd_then (x := ()) h1 (fun he => ⟨(h2 he).1, fun a r hr => ⟨((h2 he).2 a r hr).1, ((h2 he).2 a r hr).2.1, rfl⟩⟩) h hn
theorem head_sel (q : List (List UInt8)) : headT [115, 101, 108] q = .ok ((4, 0, []), q) := rfl
theorem head_at (q : List (List UInt8)) : headT [97, 116] q = andT (nameT q) fun x r => .ok ((5, 0, x), r) := rfl
theorem head_sign {W : List UInt8} (h1 : ¬ W = [115, 101, 108]) (h2 : ¬ W = [97, 116]) (q : List (List UInt8)) : headT W q = if signOf W = 0 then .error 1 else .ok ((3, (signOf W : Nat), []), q) := by
  unfold headT
  rw [if_neg h1, if_neg h2]
theorem wrap_up (m : Nat) (hm : m ≤ 9) : IntKind.i64.wrap (8 - (m : Int) + 1) = 9 - (m : Int) := by
  have h : IntKind.i64.wrap (8 - (m : Int) + 1) = 8 - (m : Int) + 1 := by
    rw [IntKind.wrap_i64]; omega
  omega
/-- What is known of parts that are read, one by one: those that were, and the rest. -/
structure Parts (f : List (List UInt8) → Res Ex) (n k : Nat) (e0 e : Int) (l0 l : List (List UInt8)) (us : List Ex) : Prop where
  was : ¬ e0 = 0 → e = e0
  bad : e0 = 0 → ¬ e = 0 → manyT f n l0 = .error e
  good : e0 = 0 → e = 0 → manyT f n l0 = pre us (manyT f (n - k) l)
theorem Parts.nil (f : List (List UInt8) → Res Ex) (n : Nat) (e : Int) (l : List (List UInt8)) : Parts f n 0 e e l l [] := ⟨fun _ => rfl, fun h h' => absurd h h', fun _ _ => pre_nil _⟩
theorem Parts.more {f : List (List UInt8) → Res Ex} {n k : Nat} {e0 e e2 : Int} {l0 l l2 : List (List UInt8)} {us : List Ex} {x : Ex} (h : Parts f n k e0 e l0 l us) (hk : k < n) (k1 : ¬ e = 0 → e2 = e)
    (k2 : e = 0 → (∀ y, f l = .error y → e2 = y ∧ ¬ y = 0) ∧ ∀ a r, f l = .ok (a, r) → e2 = 0 ∧ l2 = r ∧ a = x) : Parts f n (k + 1) e0 e2 l0 l2 (us ++ [x]) := by
  have hsp : n - k = (n - (k + 1)) + 1 := by omega
  refine ⟨fun he => ?_, fun he he2 => ?_, fun he he2 => ?_⟩
  · have := h.was he
    rw [k1 (by rw [this]; exact he), this]
  · by_cases he' : e = 0
    · obtain ⟨k3, k4⟩ := k2 he'
      rw [h.good he he', hsp]
      cases hfr : f l with
      | error y => rw [many_bad _ hfr, (k3 y hfr).1]; rfl
      | ok pq =>
        obtain ⟨a', q'⟩ := pq
        exact absurd (k4 a' q' hfr).1 he2
    · rw [k1 he']; exact h.bad he he'
  · have he' : e = 0 := by
      by_cases g : e = 0
      · exact g
      · exact absurd ((k1 g).symm.trans he2) g
    obtain ⟨k3, k4⟩ := k2 he'
    rw [h.good he he', hsp]
    cases hfr : f l with
    | error y => exact absurd ((k3 y hfr).1 ▸ he2) (k3 y hfr).2
    | ok pq =>
      obtain ⟨a', q'⟩ := pq
      obtain ⟨_, g2, g3⟩ := k4 a' q' hfr
      rw [many_part _ hfr, pre_pre, g2, g3]
/-- All were read. -/
theorem Parts.done {f : List (List UInt8) → Res Ex} {n : Nat} {e0 e : Int} {l0 l : List (List UInt8)} {us : List Ex} (h : Parts f n n e0 e l0 l us) (hz : NZ (manyT f n l0)) : (¬ e0 = 0 → e = e0) ∧ (e0 = 0 → (∀ y, manyT f n l0 = .error y → e = y ∧ ¬ y = 0) ∧ ∀ a r, manyT f n l0 = .ok (a, r) → e = 0 ∧ l = r ∧ a = us) := by
  refine ⟨h.was, fun he => ?_⟩
  by_cases he2 : e = 0
  · have hg := h.good he he2
    rw [Nat.sub_self] at hg
    have hg' : manyT f n l0 = .ok (us, l) := by rw [hg]; simp [manyT, pre]
    rw [hg']
    exact ⟨fun y hy => (by cases hy), fun a r hr => (by cases hr; exact ⟨he2, rfl, rfl⟩)⟩
  · have hb := h.bad he he2
    rw [hb]
    exact ⟨fun y hy => (by cases hy; exact ⟨rfl, he2⟩), fun a r hr => (by cases hr)⟩
end Go.Proofs.YtemdnmfldihalaaDoor.Lr
