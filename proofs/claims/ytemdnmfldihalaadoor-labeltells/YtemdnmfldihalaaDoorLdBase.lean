/- Facts on words and bytes that the readers' walks lean on. A region that draws its order: a condition S on the world that is shown behind those operations alone that are on a list L; what yields its value in every world of S, and is waited for by all that is not on L, may be taken first. Expressions, statements, variables, programs as they lie in memory. What has turned, and what has not: blocks, and cells of blocks. Rows of parts that the program builds: what lies in them, and that it stays. Expressions as they are built. Statements and variables as they are built. Rows that grow, and what is laid in them. -/
import Derived.Test.YtemdnmfldihalaaDoorProg
import Derived.Test.YtemdnmfldihalaaDoorLgAll
import Derived.ProofKit
import Derived.OpenShut
import Derived.Below
import Derived.Lib.Strings
import Derived.Lib.FrozenHead
import Derived.Lib.Builder
import Derived.Lib.Walk
import Derived.Lib.IndexBytes
import Derived.Deep.QuietTactic
import Derived.BigQuiet
import Derived.Deep.RegionHeld3
import Derived.Deep.DrawnRows
import Derived.Laws.EntriesVeiled
import Derived.Laws.CopyOwn
import Derived.Deep.AppendLies
import Derived.Great.BuildSlice
import Derived.OwnWalk
import Derived.Deep.MidRow
namespace Go.Proofs.YtemdnmfldihalaaDoor.Lr
set_option linter.unusedVariables false
open Go.ChangeShapes Go.WideShapes Go.ChangeAt Go.RowKit Lg

theorem keep {p : Prop} (h : p) : Hid p := h
/-- The first thing that is wrong counts. -/
def first (e x : Int) : Int := if e = 0 then x else e
theorem skip_cons_yes {c : UInt8} {r : List UInt8} (h : Lg.blank c = true) : skip (c :: r) = skip r := by
  unfold skip; rw [List.dropWhile_cons, if_pos h]
theorem skip_cons_no {c : UInt8} {r : List UInt8} (h : Lg.blank c = false) : skip (c :: r) = c :: r := by
  unfold skip; rw [List.dropWhile_cons, if_neg (by simp [h])]
theorem cons_of (s : ByteArray) (h : 0 < s.size) : s.data.toList = s[0] :: s.data.toList.drop 1 := by
  have hl : s.data.toList.length = s.size := (Lib.size_eq s).symm
  cases hs : s.data.toList with
  | nil => rw [hs] at hl; simp at hl; omega
  | cons c r =>
    have := Lib.data_getElem? s 0 h
    rw [hs] at this
    simp at this
    rw [this]; rfl

theorem tw_at {p : UInt8 → Bool} : ∀ (l : List UInt8) (k : Nat), (∀ c ∈ l.take k, p c = true) → (k = l.length ∨ ∃ y, l[k]? = some y ∧ p y = false) → l.takeWhile p = l.take k
  | [], k, _, _ => by simp
  | c :: r, 0, h, hk => by
    rcases hk with e | ⟨y, hy, hp⟩
    · simp at e
    · simp at hy
      rw [List.takeWhile_cons, hy, hp]; rfl
  | c :: r, k + 1, h, hk => by
    have hc := h c (by simp)
    rw [List.takeWhile_cons, if_pos hc, List.take_succ_cons, tw_at r k (fun x hx => h x (by simp [hx])) (by
      rcases hk with e | ⟨y, hy, hp⟩
      · left; simpa using e
      · right; exact ⟨y, by simpa using hy, hp⟩)]
theorem word_zero {l : List UInt8} {y : UInt8} (h : l[0]? = some y) (hs : stop y = true) : word l = l.take 1 := by
  unfold word
  rw [if_pos]
  rw [tw_at l 0 (by simp) (.inr ⟨y, h, by simp [hs]⟩)]; simp
theorem word_at {l : List UInt8} {k : Nat} (h1 : 1 ≤ k) (h2 : k ≤ l.length) (h : ∀ c ∈ l.take k, stop c = false) (hk : k = l.length ∨ ∃ y, l[k]? = some y ∧ stop y = true) : word l = l.take k := by
  have e : l.takeWhile (fun c => !stop c) = l.take k := tw_at l k (fun c hc => by simp [h c hc]) (by
    rcases hk with e | ⟨y, hy, hp⟩
    · exact .inl e
    · exact .inr ⟨y, hy, by simp [hp]⟩)
  unfold word
  rw [e, if_neg]
  intro hh
  have := congrArg List.length hh
  simp at this
  rcases this with e | e
  · omega
  · rw [e] at h2; simp at h2; omega
theorem stop_iff (y : UInt8) : stop y = true ↔ y = 32 ∨ y = 10 ∨ y = 40 ∨ y = 41 := by
  unfold stop Lg.blank brack
  simp only [Bool.or_eq_true, beq_iff_eq]
  constructor
  · rintro ((h | h) | (h | h)) <;> simp [h]
  · rintro (h | h | h | h) <;> simp [h]
theorem take_str (s : ByteArray) (k : Nat) : s.extract 0 k = ⟨(s.data.toList.take k).toArray⟩ := by
  rw [Lib.extract_eq]; simp

theorem first_ne {e x : Int} (h : ¬ e = 0) : first e x = e := if_neg h
theorem first_zero (x : Int) : first 0 x = x := if_pos rfl
theorem next_words (l : List UInt8) : next (words l) = if wd l = [] then .error 8 else .ok (wd l, words (rs l)) := by
  rw [words_step l]
  by_cases h : skip l = []
  · rw [if_pos h, if_pos ((wd_none l).2 h)]; rfl
  · rw [if_neg h, if_neg (fun hh => h ((wd_none l).1 hh))]; rfl
theorem size_mk (l : List UInt8) : (⟨l.toArray⟩ : ByteArray).size = l.length := by simp [ByteArray.size]
theorem rs_len (s : ByteArray) : (⟨(rs s.data.toList).toArray⟩ : ByteArray).size ≤ s.size := by
  have h1 : (rs s.data.toList).length ≤ s.data.toList.length := by
    unfold rs skip
    rw [List.length_drop]
    have := (List.dropWhile_sublist Lg.blank (l := s.data.toList)).length_le
    omega
  rw [← Lib.size_eq] at h1
  rw [size_mk]; exact h1

theorem wd_len (s : ByteArray) : (wd s.data.toList).length ≤ s.size := by
  have h1 : (wd s.data.toList).length ≤ (skip s.data.toList).length := by
    unfold wd word
    split
    · exact List.length_take_le' _ _
    · exact (List.takeWhile_sublist _).length_le
  have h2 : (skip s.data.toList).length ≤ s.data.toList.length := (List.dropWhile_sublist Lg.blank (l := s.data.toList)).length_le
  rw [← Lib.size_eq] at h2
  omega
end Go.Proofs.YtemdnmfldihalaaDoor.Lr
namespace Go.Proofs.YtemdnmfldihalaaDoor.Ord
open Go
def wpM (P : Program) (md : Region.Mode) (ops : Array Oper) (Q : Exit → Act → World → Prop) (S : World → Prop) (L : List Nat) : Nat → Array Bool → Act → World → Prop
  | 0, d, a, w => Region.ready md ops d = [] ∧ Q .normal a w
  | n + 1, d, a, w => (Region.ready md ops d = [] → Q .normal a w) ∧ ∀ i ∈ Region.ready md ops d, wpOp P ops Q i (fun a' w' => (L.contains i = true → S w') ∧ wpM P md ops Q S L n (d.setIfInBounds i true) a' w') a w

theorem wpM_any {P : Program} {md : Region.Mode} {ops : Array Oper} {Q : Exit → Act → World → Prop} {S : World → Prop} {L : List Nat} : ∀ (n : Nat) (d : Array Bool) (a : Act) (w : World), wpM P md ops Q S L n d a w → wpAny P md ops Q n d a w
  | 0, _, _, _, h => h
  | n + 1, _, _, _, h => ⟨h.1, fun i hi => wpOp_mono (fun a' w' k => wpM_any n _ a' w' k.2) (h.2 i hi)⟩

/-- Who may come ahead of number i is on the list. -/
def ahead (md : Region.Mode) (ops : Array Oper) (L : List Nat) (d : Array Bool) (i : Nat) : Bool :=
  (List.range ops.size).all fun j => j == i || d.getD j true || L.contains j || match ops[j]? with
    | some oj => oj.after.any fun e => Region.binds md e && e.on == i
    | none => true
theorem ahead_spec {md : Region.Mode} {ops : Array Oper} {L : List Nat} {i j : Nat} {oj : Oper} {d : Array Bool} (h : ahead md ops L d i = true) (hj : ops[j]? = some oj) (hne : j ≠ i) (hun : d.getD j true = false) (hno : ∀ e ∈ oj.after, Region.binds md e = true → e.on ≠ i) : L.contains j = true := by
  unfold ahead at h
  have h1 := List.all_eq_true.1 h j (List.mem_range.2 (Array.getElem?_eq_some_iff.1 hj).1)
  rw [hj, hun, Bool.or_false, Bool.or_eq_true, Bool.or_eq_true] at h1
  rcases h1 with (h1 | h1) | h1
  · exact absurd (beq_iff_eq.1 h1) hne
  · exact h1
  · obtain ⟨e, he, hb⟩ := Array.any_eq_true'.1 h1
    rw [Bool.and_eq_true] at hb
    exact absurd (beq_iff_eq.1 hb.2) (hno e he hb.1)
theorem ahead_set {md : Region.Mode} {ops : Array Oper} {L : List Nat} {i j : Nat} {d : Array Bool} (h : ahead md ops L d i = true) : ahead md ops L (d.setIfInBounds j true) i = true := by
  unfold ahead at h ⊢
  refine List.all_eq_true.2 fun k hk => ?_
  have h1 := List.all_eq_true.1 h k hk
  by_cases hjk : j = k
  · subst hjk
    have : (d.setIfInBounds j true).getD j true = true := by
      by_cases hlt : j < d.size
      · simp [Array.getD, hlt]
      · simp [Array.getD, hlt]
    rw [this]; simp
  · rw [getD_set_ne true hjk]; exact h1

theorem wpM_first {P : Program} {md : Region.Mode} {ops : Array Oper} {Q : Exit → Act → World → Prop} {S : World → Prop} {L : List Nat} {i : Nat} {oi : Oper} {v : Value} (hi : ops[i]? = some oi) (hsel : ∀ (j : Nat) (o : Oper) cs b, ops[j]? = some o → o.op ≠ .select cs b) (hQ : ∀ c a w, Q (.panic c) (a.put oi.dst v) w → Q (.panic c) a w) :
    ∀ (n : Nat) (d : Array Bool) (a : Act) (w : World), (∀ j oj, ops[j]? = some oj → j ≠ i → d.getD j true = false → (∀ e ∈ oj.after, Region.binds md e = true → e.on ≠ i) → oi.apart ops oj = true) → ahead md ops L d i = true →
      i ∈ Region.ready md ops d → YieldsIf P ops S oi v a → S w → wpM P md ops Q S L n (d.setIfInBounds i true) (a.put oi.dst v) w → wpM P md ops Q S L (n + 1) d a w
  | 0, d, a, w, _, _, hr, hy, hS, H => by
    refine ⟨fun h => (by rw [h] at hr; cases hr), fun j hj => ?_⟩
    by_cases e : j = i
    · rw [e]; exact hy.wpOp hi hS ⟨fun _ => hS, H⟩
    · have := ready_mono hj e
      rw [H.1] at this
      cases this
  | n + 1, d, a, w, hfree, hah, hr, hy, hS, H => by
    refine ⟨fun h => (by rw [h] at hr; cases hr), fun j hj => ?_⟩
    by_cases e : j = i
    · rw [e]; exact hy.wpOp hi hS ⟨fun _ => hS, H⟩
    · have h1 := H.2 j (ready_mono hj e)
      obtain ⟨hun, oj, hoj, hall⟩ := mem_ready.1 hj
      have hno : ∀ x ∈ oj.after, Region.binds md x = true → x.on ≠ i := fun x hx hb he => by
        have h2 := hall x hx hb
        have h3 := (mem_ready.1 hr).1
        rw [he] at h2
        rcases Nat.lt_or_ge i d.size with g | g
        · simp [g] at h2 h3; rw [h3] at h2; cases h2
        · simp [Array.getElem?_eq_none g] at h2
      have hL := ahead_spec hah hoj e hun hno
      have h2 := wpOp_putIf hoj (hfree j oj hoj e hun hno) (fun cs b => hsel i oi cs b hi) (fun cs b => hsel j oj cs b hoj) hQ hy h1
      refine wpOp_mono (fun a' w' k => ?_) h2
      refine ⟨k.2.1, wpM_first hi hsel hQ n (d.setIfInBounds j true) a' w' (fun q oq hq hqi hqu hqn => hfree q oq hq hqi ?_ hqn) (ahead_set hah) (ready_mono hr (Ne.symm e)) k.1 (k.2.1 hL) ?_⟩
      · by_cases hjq : j = q
        · rw [← hjq]; exact hun
        · rw [getD_set_ne true hjq] at hqu; exact hqu
      · rw [Array.setIfInBounds_comm _ _ e]; exact k.2.2
theorem wpM_take {P : Program} {md : Region.Mode} {ops : Array Oper} {Q : Exit → Act → World → Prop} {S : World → Prop} {L : List Nat} {i : Nat} {oi : Oper} {v : Value} {n : Nat} {d : Array Bool} {a : Act} {w : World} (hi : ops[i]? = some oi) (hs : Region.noSelect ops = true) (hf : Region.free md ops d i = true) (ha : ahead md ops L d i = true)
    (hr : (Region.ready md ops d).contains i = true) (hQ : ∀ c a w, Q (.panic c) (a.put oi.dst v) w → Q (.panic c) a w) (hy : YieldsIf P ops S oi v a) (hS : S w)
    (h : wpM P md ops Q S L n (d.setIfInBounds i true) (a.put oi.dst v) w) : wpM P md ops Q S L (n + 1) d a w :=
  wpM_first hi (Region.noSelect_spec hs) hQ n d a w (Region.free_spec hi hf) ha (by simpa using hr) hy hS h
/-- One alone may come up. -/
theorem wpM_one {P : Program} {md : Region.Mode} {ops : Array Oper} {Q : Exit → Act → World → Prop} {S : World → Prop} {L : List Nat} {i : Nat} {o : Oper} {n : Nat} {d : Array Bool} {a : Act} {w : World} (hr : Region.ready md ops d = [i]) (ho : ops[i]? = some o)
    (h : ∀ K : Act → World → Prop, Shut (∀ a w, (L.contains i = true → S w) → wpM P md ops Q S L n (d.setIfInBounds i true) a w → K a w) → if Region.wanted o (yielded ops a.tmps) = true then Oper.wp P o a w K Q else K (a.put o.dst undef) w) : wpM P md ops Q S L (n + 1) d a w :=
  ⟨fun h0 => (by rw [hr] at h0; cases h0), fun j hj => by
    rw [hr, List.mem_singleton] at hj
    subst hj
    exact wpOp_step ho fun K hK => h K fun a w h1 h2 => hK a w ⟨h1, h2⟩⟩
/-- One of two. -/
theorem wpM_two {P : Program} {md : Region.Mode} {ops : Array Oper} {Q : Exit → Act → World → Prop} {S : World → Prop} {L : List Nat} {i j : Nat} {oi oj : Oper} {n : Nat} {d : Array Bool} {a : Act} {w : World} (hr : Region.ready md ops d = [i, j]) (hi : ops[i]? = some oi) (hj : ops[j]? = some oj)
    (h : ∀ K : Act → World → Prop, Shut (∀ a w, (L.contains i = true → S w) → wpM P md ops Q S L n (d.setIfInBounds i true) a w → K a w) → if Region.wanted oi (yielded ops a.tmps) = true then Oper.wp P oi a w K Q else K (a.put oi.dst undef) w)
    (k : ∀ K : Act → World → Prop, Shut (∀ a w, (L.contains j = true → S w) → wpM P md ops Q S L n (d.setIfInBounds j true) a w → K a w) → if Region.wanted oj (yielded ops a.tmps) = true then Oper.wp P oj a w K Q else K (a.put oj.dst undef) w) : wpM P md ops Q S L (n + 1) d a w :=
  ⟨fun h0 => (by rw [hr] at h0; cases h0), fun x hx => by
    rw [hr, List.mem_cons, List.mem_singleton] at hx
    rcases hx with e | e
    · subst e; exact wpOp_step hi fun K hK => h K fun a w h1 h2 => hK a w ⟨h1, h2⟩
    · subst e; exact wpOp_step hj fun K hK => k K fun a w h1 h2 => hK a w ⟨h1, h2⟩⟩
theorem wpM_done {P : Program} {md : Region.Mode} {ops : Array Oper} {Q : Exit → Act → World → Prop} {S : World → Prop} {L : List Nat} {d : Array Bool} {a : Act} {w : World} (hr : Region.ready md ops d = []) (h : Q .normal a w) : ∀ n, wpM P md ops Q S L n d a w
  | 0 => ⟨hr, h⟩
  | _ + 1 => ⟨fun _ => h, by rw [hr]; simp⟩
theorem wpM_begin {P : Program} {ops : Array Oper} {Q : Exit → Act → World → Prop} {id : Nat} {a : Act} {w : World} (S : World → Prop) (L : List Nat) (hm : P.follows .mixedOrders = true) (h : wpM P .any ops Q S L ops.size (Array.replicate ops.size false) a w.drew) : (Code.region id ops true).wp P Q a w :=
  wp_region_any hm (wpM_any _ _ _ _ h)
end Go.Proofs.YtemdnmfldihalaaDoor.Ord
namespace Go.Proofs.YtemdnmfldihalaaDoor.Lr
set_option linter.unusedVariables false
set_option linter.unusedSimpArgs false
open Go.ChangeShapes Go.WideShapes Go.ChangeAt Go.RowKit Lg

/-- An expression's four cells, its arguments' slice given. -/
def exA (e : Ex) (sl : Value) : Array Value := #[.int .i64 e.kind, .int .i64 e.n, .string ⟨e.name.toArray⟩, sl]
/-- Those four, from an address on. -/
structure ExAt (w : World) (g k : Nat) (e : Ex) (sl : Value) : Prop where
  c0 : w.cell? ⟨g, k, none⟩ = some (.int .i64 e.kind)
  c1 : w.cell? ⟨g, k + 1, none⟩ = some (.int .i64 e.n)
  c2 : w.cell? ⟨g, k + 2, none⟩ = some (.string ⟨e.name.toArray⟩)
  c3 : w.cell? ⟨g, k + 3, none⟩ = some sl
/-- The slice sl holds an expression's arguments, and what hangs on them, in blocks below B. -/
def ExIs (w : World) (B : Nat) : Nat → Ex → Value → Prop
  | 0, _, _ => False
  | m + 1, e, sl => (e.args = [] ∧ sl = .slice none 0 0) ∨ ∃ (g o cap : Nat), sl = .slice (some ⟨g, o, none⟩) e.args.length cap ∧ e.args.length ≤ cap ∧ e.args.length ≤ 281474976710656 ∧ g < B ∧
      ∀ j a, e.args[j]? = some a → ∃ sl', ExAt w g (o + j * 4) a sl' ∧ ExIs w B m a sl'
theorem ExAt.below {w w' : World} {B g k : Nat} {e : Ex} {sl : Value} (h : ExAt w g k e sl) (hb : Below B w w') (hg : g < B) : ExAt w' g k e sl := by
  have key : ∀ i, w'.cell? ⟨g, i, none⟩ = w.cell? ⟨g, i, none⟩ := fun i => by
    unfold World.cell?; simp only [hb.block g hg]
  exact ⟨by rw [key]; exact h.c0, by rw [key]; exact h.c1, by rw [key]; exact h.c2, by rw [key]; exact h.c3⟩
theorem ExIs.below {w w' : World} {B : Nat} (hb : Below B w w') : ∀ {m : Nat} {e : Ex} {sl : Value}, ExIs w B m e sl → ExIs w' B m e sl
  | 0, _, _, h => h
  | m + 1, e, sl, h => by
    rcases h with h | ⟨g, o, cap, h1, h2, h5, h3, h4⟩
    · exact .inl h
    · exact .inr ⟨g, o, cap, h1, h2, h5, h3, fun j a hj => by
        obtain ⟨sl', k1, k2⟩ := h4 j a hj
        exact ⟨sl', k1.below hb h3, k2.below hb⟩⟩
/-- The same, by parts. -/
theorem ExIs.parts {w : World} {B m : Nat} {e : Ex} {sl : Value} (h : ExIs w B (m + 1) e sl) : ∃ (p : Option Addr) (n cap : Nat), sl = .slice p n cap ∧ e.args.length = n ∧ n ≤ cap ∧ n ≤ 281474976710656 ∧
    ∀ j a, e.args[j]? = some a → ∃ g o sl', p = some ⟨g, o, none⟩ ∧ g < B ∧ ExAt w g (o + j * 4) a sl' ∧ ExIs w B m a sl' := by
  rcases h with ⟨h1, h2⟩ | ⟨g, o, cap, h1, h2, h5, h3, h4⟩
  · exact ⟨none, 0, 0, h2, by rw [h1]; rfl, Nat.le_refl _, by omega, fun j a hj => by rw [h1] at hj; simp at hj⟩
  · exact ⟨some ⟨g, o, none⟩, _, cap, h1, rfl, h2, by omega, fun j a hj => by
      obtain ⟨sl', k1, k2⟩ := h4 j a hj
      exact ⟨g, o, sl', rfl, h3, k1, k2⟩⟩
theorem cell_below {w w' : World} {B g i : Nat} (hb : Below B w w') (hg : g < B) : w'.cell? ⟨g, i, none⟩ = w.cell? ⟨g, i, none⟩ := by
  unfold World.cell?; simp only [hb.block g hg]
theorem lt_of_cell {w : World} {g i : Nat} {v : Value} (h : w.cell? ⟨g, i, none⟩ = some v) : g < w.heap.size := by
  by_cases hg : g < w.heap.size
  · exact hg
  · unfold World.cell? at h
    simp only [Array.getElem?_eq_none (Nat.le_of_not_lt hg)] at h
    simp at h

theorem keep_cell {w w' : World} {g i : Nat} {v : Value} (hb : Below w.heap.size w w') (h : w.cell? ⟨g, i, none⟩ = some v) : w'.cell? ⟨g, i, none⟩ = some v := by
  rw [cell_below hb (lt_of_cell h)]; exact h
structure VrAt (w : World) (g k : Nat) (v : Vr) : Prop where
  c0 : w.cell? ⟨g, k, none⟩ = some (.string ⟨v.name.toArray⟩)
  c1 : w.cell? ⟨g, k + 1, none⟩ = some (.bool v.secret)
  c2 : w.cell? ⟨g, k + 2, none⟩ = some (.int .i64 v.size)
/-- The slice sl holds variables, in a block below B. -/
def VrIs (w : World) (B : Nat) (vs : List Vr) (sl : Value) : Prop := ∃ (p : Option Addr) (n cap : Nat), sl = .slice p n cap ∧ vs.length = n ∧ n ≤ cap ∧ n ≤ 281474976710656 ∧
    ∀ j v, vs[j]? = some v → ∃ g o, p = some ⟨g, o, none⟩ ∧ g < B ∧ VrAt w g (o + j * 3) v
theorem VrAt.below {w w' : World} {B g k : Nat} {v : Vr} (h : VrAt w g k v) (hb : Below B w w') (hg : g < B) : VrAt w' g k v :=
  ⟨by rw [cell_below hb hg]; exact h.c0, by rw [cell_below hb hg]; exact h.c1, by rw [cell_below hb hg]; exact h.c2⟩
theorem VrIs.below {w w' : World} {B : Nat} {vs : List Vr} {sl : Value} (hb : Below B w w') (h : VrIs w B vs sl) : VrIs w' B vs sl := by
  obtain ⟨p, n, cap, h1, h2, h3, h4, h5⟩ := h
  exact ⟨p, n, cap, h1, h2, h3, h4, fun j v hj => by
    obtain ⟨g, o, k1, k2, k3⟩ := h5 j v hj
    exact ⟨g, o, k1, k2, k3.below hb k2⟩⟩

/-- Nothing old has turned, draws or no. -/
def BD (w w' : World) : Prop := ∃ v : World, Below w.heap.size w v ∧ w'.heap = v.heap ∧ w'.os = v.os ∧ w'.tape = v.tape ∧ w'.output = v.output
theorem BD.out {w w' : World} (h : BD w w') : Below w.heap.size w w' := by
  obtain ⟨v, h1, e1, e2, e3, e4⟩ := h
  exact ⟨e2.trans h1.os, e3.trans h1.tape, e4.trans h1.output, by rw [e1]; exact h1.size, fun k hk => by rw [e1]; exact h1.block k hk⟩
theorem BD.of {w w' : World} (h : Below w.heap.size w w') : BD w w' := ⟨w', h, rfl, rfl, rfl, rfl⟩
structure StAt (w : World) (g k : Nat) (t : St) (s1 s2 s3 : Value) : Prop where
  c0 : w.cell? ⟨g, k, none⟩ = some (.int .i64 t.kind)
  c1 : w.cell? ⟨g, k + 1, none⟩ = some (.int .i64 t.n)
  c2 : w.cell? ⟨g, k + 2, none⟩ = some (.string ⟨t.name.toArray⟩)
  c3 : w.cell? ⟨g, k + 3, none⟩ = some (.bool t.secret)
  c4 : w.cell? ⟨g, k + 4, none⟩ = some s1
  c5 : w.cell? ⟨g, k + 5, none⟩ = some s2
  c6 : w.cell? ⟨g, k + 6, none⟩ = some s3
/-- An expression that is nothing but its arguments. -/
def ar (l : List Ex) : Ex := ⟨0, 0, [], l⟩
/-- The slice sl holds statements, and what hangs on them, in blocks below B. -/
def StIs (w : World) (B e : Nat) : Nat → List St → Value → Prop
  | 0, _, _ => False
  | m + 1, l, sl => ∃ (p : Option Addr) (n cap : Nat), sl = .slice p n cap ∧ l.length = n ∧ n ≤ cap ∧ n ≤ 281474976710656 ∧
      ∀ j t, l[j]? = some t → ∃ g o s1 s2 s3, p = some ⟨g, o, none⟩ ∧ g < B ∧ StAt w g (o + j * 7) t s1 s2 s3 ∧ ExIs w B (e + 1) (ar t.args) s1 ∧ StIs w B e m t.thn s2 ∧ StIs w B e m t.els s3
theorem StAt.below {w w' : World} {B g k : Nat} {t : St} {s1 s2 s3 : Value} (h : StAt w g k t s1 s2 s3) (hb : Below B w w') (hg : g < B) : StAt w' g k t s1 s2 s3 :=
  ⟨by rw [cell_below hb hg]; exact h.c0, by rw [cell_below hb hg]; exact h.c1, by rw [cell_below hb hg]; exact h.c2, by rw [cell_below hb hg]; exact h.c3, by rw [cell_below hb hg]; exact h.c4, by rw [cell_below hb hg]; exact h.c5, by rw [cell_below hb hg]; exact h.c6⟩
theorem StIs.below {w w' : World} {B e : Nat} (hb : Below B w w') : ∀ {m : Nat} {l : List St} {sl : Value}, StIs w B e m l sl → StIs w' B e m l sl
  | 0, _, _, h => h
  | m + 1, l, sl, h => by
    obtain ⟨p, n, cap, h1, h2, h3, h4, h5⟩ := h
    exact ⟨p, n, cap, h1, h2, h3, h4, fun j t hj => by
      obtain ⟨g, o, s1, s2, s3, k1, k2, k3, k4, k5, k6⟩ := h5 j t hj
      exact ⟨g, o, s1, s2, s3, k1, k2, k3.below hb k2, k4.below hb, k5.below hb, k6.below hb⟩⟩

theorem StIs.slice {w : World} {B e : Nat} : ∀ {m : Nat} {l : List St} {sl : Value}, StIs w B e m l sl → ∃ p n cap, sl = .slice p n cap
  | 0, _, _, h => h.elim
  | _ + 1, _, _, h => by
    obtain ⟨p, n, cap, h1, _⟩ := h
    exact ⟨p, n, cap, h1⟩
/-- The value v is a program, in blocks below B. -/
def FnIs (w : World) (B e m : Nat) (f : Lg.Fn) (v : Value) : Prop := ∃ s1 s2 s3, v = .agg #[s1, s2, s3] ∧ VrIs w B f.params s1 ∧ VrIs w B f.arrays s2 ∧ StIs w B e m f.body s3
theorem FnIs.below {w w' : World} {B e m : Nat} {f : Lg.Fn} {v : Value} (hb : Below B w w') (h : FnIs w B e m f v) : FnIs w' B e m f v := by
  obtain ⟨s1, s2, s3, h0, h1, h2, h3⟩ := h
  exact ⟨s1, s2, s3, h0, h1.below hb, h2.below hb, h3.below hb⟩
theorem VrIs.slice {w : World} {B : Nat} {l : List Vr} {sl : Value} (h : VrIs w B l sl) : ∃ p n cap, sl = .slice p n cap := by
  obtain ⟨p, n, cap, h1, _⟩ := h
  exact ⟨p, n, cap, h1⟩

end Go.Proofs.YtemdnmfldihalaaDoor.Lr
namespace Go.Proofs.YtemdnmfldihalaaDoor.Lr
set_option linter.unusedVariables false
set_option linter.unusedSimpArgs false
open Go.ChangeShapes Go.WideShapes Go.ChangeAt Go.RowKit Lg

/-- Nothing old has turned but the blocks of l. -/
structure Fs (l : List Nat) (w w' : World) : Prop where
  os : w'.os = w.os
  tape : w'.tape = w.tape
  output : w'.output = w.output
  size : w.heap.size ≤ w'.heap.size
  block : ∀ k, k < w.heap.size → k ∉ l → w'.heap[k]? = w.heap[k]?
theorem Fs.refl (l : List Nat) (w : World) : Fs l w w := ⟨rfl, rfl, rfl, Nat.le_refl _, fun _ _ _ => rfl⟩
theorem Fs.trans {l : List Nat} {u v w : World} (h : Fs l u v) (k : Fs l v w) : Fs l u w :=
  ⟨k.os.trans h.os, k.tape.trans h.tape, k.output.trans h.output, Nat.le_trans h.size k.size, fun i hi hb => (k.block i (Nat.lt_of_lt_of_le hi h.size) hb).trans (h.block i hi hb)⟩
theorem Fs.of_below {l : List Nat} {w w' : World} (h : Below w.heap.size w w') : Fs l w w' := ⟨h.os, h.tape, h.output, h.size, fun k hk _ => h.block k hk⟩
theorem Fs.mono {l m : List Nat} {w w' : World} (h : Fs l w w') (hl : ∀ k ∈ l, k ∈ m) : Fs m w w' := ⟨h.os, h.tape, h.output, h.size, fun k hk hm => h.block k hk (fun hx => hm (hl k hx))⟩
/-- Blocks that are new may turn. -/
theorem Fs.news {l m : List Nat} {w w' : World} (h : Fs m w w') (hm : ∀ k ∈ m, k < w.heap.size → k ∈ l) : Fs l w w' := ⟨h.os, h.tape, h.output, h.size, fun k hk hl => h.block k hk (fun hx => hl (hm k hx hk))⟩
theorem Fs.set {l : List Nat} {w w' : World} (h : Fs l w w') {b : Nat} (hb : b ∈ l) (k : Nat) (v : Value) : Fs l w (w'.setCell ⟨b, k, none⟩ v) :=
  ⟨h.os, h.tape, h.output, by rw [show (w'.setCell ⟨b, k, none⟩ v).heap.size = w'.heap.size by simp [World.setCell]]; exact h.size, fun i hi hl => by
    have hne : i ≠ b := fun e => hl (by rw [e]; exact hb)
    rw [Below.heap_setCell _ _ _ _ hne]; exact h.block i hi hl⟩
theorem Fs.below {l : List Nat} {B : Nat} {w w' : World} (h : Fs l w w') (hB : B ≤ w.heap.size) (hl : ∀ k ∈ l, B ≤ k) : Below B w w' :=
  ⟨h.os, h.tape, h.output, h.size, fun k hk => h.block k (by omega) (fun hx => by have := hl k hx; omega)⟩

/-- Nothing below B has turned but the blocks of l. -/
structure Fh (B : Nat) (l : List Nat) (w w' : World) : Prop where
  os : w'.os = w.os
  tape : w'.tape = w.tape
  output : w'.output = w.output
  size : w.heap.size ≤ w'.heap.size
  block : ∀ k, k < B → k ∉ l → w'.heap[k]? = w.heap[k]?
theorem Fh.refl (B : Nat) (l : List Nat) (w : World) : Fh B l w w := ⟨rfl, rfl, rfl, Nat.le_refl _, fun _ _ _ => rfl⟩
theorem Fh.trans {B : Nat} {l : List Nat} {u v w : World} (h : Fh B l u v) (k : Fh B l v w) : Fh B l u w :=
  ⟨k.os.trans h.os, k.tape.trans h.tape, k.output.trans h.output, Nat.le_trans h.size k.size, fun i hi hb => (k.block i hi hb).trans (h.block i hi hb)⟩
theorem Fs.fh {B : Nat} {l : List Nat} {w w' : World} (h : Fs l w w') (hB : B ≤ w.heap.size) : Fh B l w w' := ⟨h.os, h.tape, h.output, h.size, fun k hk hl => h.block k (by omega) hl⟩
theorem Fh.fs {l : List Nat} {w w' : World} (h : Fh w.heap.size l w w') : Fs l w w' := ⟨h.os, h.tape, h.output, h.size, h.block⟩
theorem Fh.mono {B C : Nat} {l : List Nat} {w w' : World} (h : Fh B l w w') (hC : C ≤ B) : Fh C l w w' := ⟨h.os, h.tape, h.output, h.size, fun k hk hl => h.block k (by omega) hl⟩

/-- What was read ahead of the rest. -/
def pre {α : Type} (us : List α) : Res (List α) → Res (List α)
  | .error e => .error e
  | .ok (bs, q) => .ok (us ++ bs, q)
theorem pre_nil {α : Type} (x : Res (List α)) : x = pre [] x := by cases x <;> rfl
theorem pre_pre {α : Type} (us bs : List α) (x : Res (List α)) : pre us (pre bs x) = pre (us ++ bs) x := by
  cases x with
  | error e => rfl
  | ok p => simp [pre]

theorem many_bad {α : Type} {f : List (List UInt8) → Res α} (n : Nat) {r : List (List UInt8)} {x : Int} (h : f r = .error x) : manyT f (n + 1) r = .error x := by rw [manyT, h]; rfl
theorem many_part {α : Type} {f : List (List UInt8) → Res α} (n : Nat) {r q : List (List UInt8)} {a : α} (h : f r = .ok (a, q)) : manyT f (n + 1) r = pre [a] (manyT f n q) := by
  rw [manyT, h, andT_ok]
  cases manyT f n q <;> rfl

/-- The blocks that are new. -/
def New (w w' : World) : Nat → Prop := fun i => w.heap.size ≤ i ∧ i < w'.heap.size
/-- The cells of a block that is new. -/
theorem new_cell (w : World) (l : List Value) (ty : TypeId) (j : Nat) (u : Value) (h : l[j]? = some u) : (w.alloc (.cells l.toArray ty)).cell? ((⟨w.heap.size, 0, none⟩ : Addr).add j) = some u := by
  have he : (⟨w.heap.size, 0, none⟩ : Addr).add j = ⟨w.heap.size, j, none⟩ := by
    simp [Addr.add]
    intro h; omega
  rw [he, Lib.cell_of_heap (MapKept.heap_alloc w (.cells l.toArray ty)).1]
  rw [List.getElem?_toArray]; exact h
/-- Block k holds these cells. -/
def Bk (w : World) (k : Nat) (l : List Value) (ty : TypeId) : Prop := w.heap[k]? = some (.cells l.toArray ty (0, 0))
theorem Bk.cell {w : World} {k : Nat} {l : List Value} {ty : TypeId} (h : Bk w k l ty) (i : Nat) {u : Value} (hu : l[i]? = some u) : w.cell? ⟨k, i, none⟩ = some u := by
  rw [Lib.cell_of_heap h, List.getElem?_toArray]; exact hu
theorem Bk.fr {w : World} {k : Nat} {l : List Value} {ty : TypeId} (h : Bk w k l ty) (i : Nat) : w.frozen? ⟨k, i, none⟩ = false := Lib.frozen_of_heap h i
theorem Bk.lt {w : World} {k : Nat} {l : List Value} {ty : TypeId} (h : Bk w k l ty) : k < w.heap.size := (Array.getElem?_eq_some_iff.1 h).1
theorem Bk.set {w : World} {k : Nat} {l : List Value} {ty : TypeId} (h : Bk w k l ty) (i : Nat) (v : Value) : Bk (w.setCell ⟨k, i, none⟩ v) k (l.set i v) ty := by
  unfold Bk at h ⊢
  simp [World.setCell, Array.getElem?_modify, h]
theorem Bk.far {w : World} {k j : Nat} {l : List Value} {ty : TypeId} (h : Bk w k l ty) (i : Nat) (v : Value) (hne : k ≠ j) : Bk (w.setCell ⟨j, i, none⟩ v) k l ty := by
  unfold Bk at h ⊢
  rw [Below.heap_setCell _ _ _ _ hne]; exact h
theorem Bk.fs {w w' : World} {k : Nat} {l : List Value} {ty : TypeId} {m : List Nat} (h : Bk w k l ty) (hf : Fs m w w') (hk : k ∉ m) : Bk w' k l ty := by
  unfold Bk at h ⊢
  rw [hf.block k (Array.getElem?_eq_some_iff.1 h).1 hk]; exact h
theorem Bk.new (w : World) (l : List Value) (ty : TypeId) : Bk (w.alloc (.cells l.toArray ty)) w.heap.size l ty := (MapKept.heap_alloc w (.cells l.toArray ty)).1
theorem Bk.up {w : World} {k : Nat} {l : List Value} {ty : TypeId} (h : Bk w k l ty) (o : Obj) : Bk (w.alloc o) k l ty := h.fs (Fs.of_below (l := []) ((Below.refl _ _).alloc (Nat.le_refl _) o)) (by simp)
theorem Fs.up {l : List Nat} {w w' : World} (h : Fs l w w') (o : Obj) : Fs l w (w'.alloc o) := h.trans (Fs.of_below ((Below.refl _ _).alloc (Nat.le_refl _) o))
/-- Behind the parts: the bracket; what is read is handed back. -/
theorem Fs.row {l : List Nat} {w w' : World} (h : Fs l w w') {D : Nat} (hD : w.heap.size ≤ D) (cs : Array Value) : Fs l w (w'.setRow D cs) :=
  ⟨h.os, h.tape, h.output, by simp; exact h.size, fun k hk hl => by rw [setRow_other _ _ _ _ (by omega)]; exact h.block k hk hl⟩
theorem info_E (l : List Value) (h : l.length = 4) : (Tryd.prog.info? 76).map (·.size) = some l.toArray.size := by
  rw [List.size_toArray, h]; kernel_rfl
end Go.Proofs.YtemdnmfldihalaaDoor.Lr
namespace Go.Proofs.YtemdnmfldihalaaDoor.Lr
set_option linter.unusedVariables false
open Go.ChangeShapes Go.WideShapes Go.ChangeAt Go.RowKit Lg

theorem flat_at {α : Type} (cells : α → List Value) (k : Nat) (hk : ∀ a, (cells a).length = k) : ∀ (es : List α) (j i : Nat) (p : α), es[j]? = some p → i < k → (es.flatMap cells)[j * k + i]? = (cells p)[i]?
  | [], j, i, p, h, _ => by simp at h
  | a :: es, 0, i, p, h, hi => by
    simp at h
    rw [List.flatMap_cons, Nat.zero_mul, Nat.zero_add, List.getElem?_append_left (by rw [hk]; exact hi), h]
  | a :: es, j + 1, i, p, h, hi => by
    rw [List.flatMap_cons, List.getElem?_append_right (by rw [hk, Nat.add_mul]; omega), hk, show (j + 1) * k + i - k = j * k + i by rw [Nat.add_mul]; omega]
    exact flat_at cells k hk es j i p (by simpa using h) hi
theorem flat_len7 {α : Type} (cells : α → List Value) (k : Nat) (hk : ∀ a, (cells a).length = k) : ∀ es : List α, (es.flatMap cells).length = es.length * k
  | [] => by simp
  | a :: es => by rw [List.flatMap_cons, List.length_append, hk, flat_len7 cells k hk es, List.length_cons, Nat.add_mul]; omega

/-- The blocks from lo on, that are there, but for v's own. -/
def In (lo : Nat) (v : Value) (w : World) : Nat → Prop := fun i => lo ≤ i ∧ i < w.heap.size ∧ ¬ v.ownBlock = some i
/-- A row of parts, each of so many cells; what hangs on them lies in other blocks from lo on. -/
structure RowX {α : Type} (nest : World → (Nat → Prop) → α → Prop) (cells : α → List Value) (k : Nat) (ty : TypeId) (w : World) (lo : Nat) (v : Value) (es : List α) : Prop where
  own : w.ownsRow lo ty k v es.length (es.flatMap cells)
  sub : ∀ p ∈ es, nest w (In lo v w) p
/-- What hangs on a part hangs on its blocks alone. -/
structure Nest {α : Type} (nest : World → (Nat → Prop) → α → Prop) : Prop where
  keep : ∀ (w w' : World) (X : Nat → Prop) (p : α), nest w X p → (∀ i, X i → w'.heap[i]? = w.heap[i]?) → nest w' X p
  mono : ∀ (w : World) (X Y : Nat → Prop) (p : α), nest w X p → (∀ i, X i → Y i) → nest w Y p
theorem RowX.nil {α : Type} {nest : World → (Nat → Prop) → α → Prop} {cells : α → List Value} {k : Nat} {ty : TypeId} (w : World) (lo : Nat) : RowX nest cells k ty w lo (.slice none 0 0) [] := ⟨World.ownsRow_nil _ _ _ _, by simp⟩
/-- It stays where its blocks stay. -/
theorem RowX.stay {α : Type} {nest : World → (Nat → Prop) → α → Prop} {cells : α → List Value} {k : Nat} {ty : TypeId} {w w' : World} {lo : Nat} {v : Value} {es : List α} (hN : Nest nest) (h : RowX nest cells k ty w lo v es)
    (hs : w.heap.size ≤ w'.heap.size) (hb : ∀ i, lo ≤ i → i < w.heap.size → w'.heap[i]? = w.heap[i]?) : RowX nest cells k ty w' lo v es := by
  refine ⟨?_, fun p hp => ?_⟩
  · obtain ⟨h1, h2⟩ := h.own
    refine ⟨h1, ?_⟩
    rcases h2 with h2 | ⟨g, cap, cur, a1, a2, a3, a4⟩
    · exact .inl h2
    · exact .inr ⟨g, cap, cur, a1, a2, by rw [hb g a2 (Array.getElem?_eq_some_iff.1 a3).1]; exact a3, a4⟩
  · exact hN.mono _ _ _ _ (hN.keep _ w' _ p (h.sub p hp) (fun i hi => hb i hi.1 hi.2.1)) (fun i hi => ⟨hi.1, Nat.lt_of_lt_of_le hi.2.1 hs, hi.2.2⟩)
theorem RowX.fs {α : Type} {nest : World → (Nat → Prop) → α → Prop} {cells : α → List Value} {k : Nat} {ty : TypeId} {w w' : World} {lo : Nat} {v : Value} {es : List α} {l : List Nat} (hN : Nest nest) (h : RowX nest cells k ty w lo v es)
    (hf : Fs l w w') (hl : ∀ i ∈ l, i < lo) : RowX nest cells k ty w' lo v es :=
  h.stay hN hf.size (fun i h1 h2 => hf.block i h2 (fun hx => by have := hl i hx; omega))
/-- One more. -/
theorem RowX.push {α : Type} {nest : World → (Nat → Prop) → α → Prop} {cells : α → List Value} {k : Nat} {ty : TypeId} {w w1 : World} {lo g n cap : Nat} {v : Value} {es : List α} {p : α} (hN : Nest nest) (h : RowX nest cells k ty w lo v es) (hp : nest w (In lo v w) p)
    (hown : w1.ownsRow lo ty k (.slice (some ⟨g, 0, none⟩) n cap) (es.length + 1) (es.flatMap cells ++ cells p)) (hg : w.grownBy w1 v.ownBlock) (hat : v.ownBlock = some g ∨ g = w.heap.size) :
    RowX nest cells k ty w1 lo (.slice (some ⟨g, 0, none⟩) n cap) (es ++ [p]) := by
  have key : ∀ q, nest w (In lo v w) q → nest w1 (In lo (.slice (some ⟨g, 0, none⟩) n cap) w1) q := fun q hq => by
    refine hN.mono _ _ _ _ (hN.keep _ w1 _ q hq (fun i hi => hg.block i hi.2.1 (fun e => hi.2.2 e.symm))) (fun i hi => ⟨hi.1, Nat.lt_of_lt_of_le hi.2.1 hg.size, fun e => ?_⟩)
    have e' : g = i := by simpa [Value.ownBlock] using e
    rcases hat with ha | ha
    · exact hi.2.2 (by rw [ha, e'])
    · have := hi.2.1; omega
  refine ⟨?_, fun q hq => ?_⟩
  · rw [List.length_append, List.length_singleton, List.flatMap_append, List.flatMap_singleton]; exact hown
  · rcases List.mem_append.1 hq with e | e
    · exact key q (h.sub q e)
    · rw [List.mem_singleton] at e; rw [e]; exact key p hp
/-- What lies in it. -/
theorem RowX.form {α : Type} {nest : World → (Nat → Prop) → α → Prop} {cells : α → List Value} {k : Nat} {ty : TypeId} {w : World} {lo : Nat} {v : Value} {es : List α} (hk : ∀ a, (cells a).length = k) (h : RowX nest cells k ty w lo v es) :
    (es = [] ∧ v = .slice none 0 0) ∨ ∃ g cap, v = .slice (some ⟨g, 0, none⟩) es.length cap ∧ es.length ≤ cap ∧ lo ≤ g ∧ g < w.heap.size ∧ ∀ (j : Nat) (p : α) (i : Nat) (u : Value), es[j]? = some p → (cells p)[i]? = some u → w.cell? ⟨g, j * k + i, none⟩ = some u := by
  obtain ⟨h1, h2⟩ := h.own
  rcases h2 with ⟨h2, h3⟩ | ⟨g, cap, cur, a1, a2, a3, a4, a5, a6, a7⟩
  · exact .inl ⟨List.length_eq_zero_iff.1 h3, h2⟩
  · refine .inr ⟨g, cap, a1, a4, a2, (Array.getElem?_eq_some_iff.1 a3).1, fun j p i u hj hi => ?_⟩
    have hik : i < k := by
      have := (List.getElem?_eq_some_iff.1 hi).1
      rw [hk] at this; exact this
    have hx : (es.flatMap cells)[j * k + i]? = some u := by rw [flat_at cells k hk es j i p hj hik]; exact hi
    rw [← a7] at hx
    have hlt := (List.getElem?_eq_some_iff.1 hx).1
    rw [List.getElem?_take_of_lt (by rw [List.length_take] at hlt; omega)] at hx
    rw [Lib.cell_of_heap a3]
    rw [Array.getElem?_toList] at hx
    exact hx
theorem RowX.slice {α : Type} {nest : World → (Nat → Prop) → α → Prop} {cells : α → List Value} {k : Nat} {ty : TypeId} {w : World} {lo : Nat} {v : Value} {es : List α} (h : RowX nest cells k ty w lo v es) : ∃ p n cap, v = .slice p n cap := by
  rcases h.own.2 with ⟨h2, _⟩ | ⟨g, cap, cur, a1, _⟩
  · exact ⟨_, _, _, h2⟩
  · exact ⟨_, _, _, a1⟩

/-- The slice sl holds an expression's arguments, and what hangs on them, in blocks of X. -/
def ExX (w : World) (X : Nat → Prop) : Nat → Ex → Value → Prop
  | 0, _, _ => False
  | m + 1, e, sl => (e.args = [] ∧ sl = .slice none 0 0) ∨ ∃ (g cap : Nat), sl = .slice (some ⟨g, 0, none⟩) e.args.length cap ∧ e.args.length ≤ cap ∧ e.args.length ≤ 281474976710656 ∧ X g ∧
      ∀ j a, e.args[j]? = some a → ∃ sl', ExAt w g (0 + j * 4) a sl' ∧ ExX w X m a sl'
theorem ExX.keep {w w' : World} {X : Nat → Prop} (hb : ∀ i, X i → w'.heap[i]? = w.heap[i]?) : ∀ {m : Nat} {e : Ex} {sl : Value}, ExX w X m e sl → ExX w' X m e sl
  | 0, _, _, h => h
  | m + 1, e, sl, h => by
    rcases h with h | ⟨g, cap, h1, h2, h5, h3, h4⟩
    · exact .inl h
    · refine .inr ⟨g, cap, h1, h2, h5, h3, fun j a hj => ?_⟩
      obtain ⟨sl', k1, k2⟩ := h4 j a hj
      have key : ∀ i, w'.cell? ⟨g, i, none⟩ = w.cell? ⟨g, i, none⟩ := fun i => by unfold World.cell?; simp only [hb g h3]
      exact ⟨sl', ⟨by rw [key]; exact k1.c0, by rw [key]; exact k1.c1, by rw [key]; exact k1.c2, by rw [key]; exact k1.c3⟩, k2.keep hb⟩
theorem ExX.mono {w : World} {X Y : Nat → Prop} (hb : ∀ i, X i → Y i) : ∀ {m : Nat} {e : Ex} {sl : Value}, ExX w X m e sl → ExX w Y m e sl
  | 0, _, _, h => h
  | m + 1, e, sl, h => by
    rcases h with h | ⟨g, cap, h1, h2, h5, h3, h4⟩
    · exact .inl h
    · refine .inr ⟨g, cap, h1, h2, h5, hb g h3, fun j a hj => ?_⟩
      obtain ⟨sl', k1, k2⟩ := h4 j a hj
      exact ⟨sl', k1, k2.mono hb⟩
theorem ExX.deeper {w : World} {X : Nat → Prop} : ∀ {m : Nat} {e : Ex} {sl : Value}, ExX w X m e sl → ExX w X (m + 1) e sl
  | 0, _, _, h => h.elim
  | m + 1, e, sl, h => by
    rcases h with h | ⟨g, cap, h1, h2, h5, h3, h4⟩
    · exact .inl h
    · refine .inr ⟨g, cap, h1, h2, h5, h3, fun j a hj => ?_⟩
      obtain ⟨sl', k1, k2⟩ := h4 j a hj
      exact ⟨sl', k1, k2.deeper⟩
theorem ExX.deep {w : World} {X : Nat → Prop} {m n : Nat} {e : Ex} {sl : Value} (h : ExX w X m e sl) (hn : m ≤ n) : ExX w X n e sl := by
  obtain ⟨k, rfl⟩ := Nat.le.dest hn
  clear hn
  induction k with
  | zero => exact h
  | succ k ih => exact ih.deeper
theorem ExX.exIs {w : World} {X : Nat → Prop} {B : Nat} (hb : ∀ i, X i → i < B) : ∀ {m : Nat} {e : Ex} {sl : Value}, ExX w X m e sl → ExIs w B m e sl
  | 0, _, _, h => h
  | m + 1, e, sl, h => by
    rcases h with h | ⟨g, cap, h1, h2, h5, h3, h4⟩
    · exact .inl h
    · refine .inr ⟨g, 0, cap, h1, h2, h5, hb g h3, fun j a hj => ?_⟩
      obtain ⟨sl', k1, k2⟩ := h4 j a hj
      exact ⟨sl', k1, k2.exIs hb⟩
theorem ExX.slice {w : World} {X : Nat → Prop} : ∀ {m : Nat} {e : Ex} {sl : Value}, ExX w X m e sl → ∃ p n cap, sl = .slice p n cap
  | 0, _, _, h => h.elim
  | m + 1, e, sl, h => by
    rcases h with ⟨_, h⟩ | ⟨g, cap, h1, _⟩
    · exact ⟨_, _, _, h⟩
    · exact ⟨_, _, _, h1⟩
/-- It hangs on the arguments alone. -/
theorem ExX.args {w : World} {X : Nat → Prop} {m : Nat} {e e' : Ex} {sl : Value} (h : ExX w X m e sl) (he : e'.args = e.args) : ExX w X m e' sl := by
  cases m with
  | zero => exact h
  | succ m =>
    unfold ExX at h ⊢
    rw [he]; exact h

/-- An expression's cells; rows of them. -/
def cellsE (p : Ex × Value) : List Value := [.int .i64 p.1.kind, .int .i64 p.1.n, .string ⟨p.1.name.toArray⟩, p.2]
def nestE (m : Nat) (w : World) (X : Nat → Prop) (p : Ex × Value) : Prop := ExX w X m p.1 p.2
theorem nestE_nest (m : Nat) : Nest (nestE m) := ⟨fun w w' X p h hb => ExX.keep hb h, fun w X Y p h hb => ExX.mono hb h⟩
theorem cellsE_len (p : Ex × Value) : (cellsE p).length = 4 := rfl
def RowE (m : Nat) (w : World) (lo : Nat) (v : Value) (es : List (Ex × Value)) : Prop := RowX (nestE m) cellsE 4 76 w lo v es
/-- A row of expressions is what an expression's arguments are. -/
theorem RowX.args {m : Nat} {w : World} {lo : Nat} {v : Value} {es : List (Ex × Value)} (h : RowE m w lo v es) (hl : es.length ≤ 281474976710656) : ExX w (fun i => lo ≤ i ∧ i < w.heap.size) (m + 1) (ar (es.map (·.1))) v := by
  rcases RowX.form cellsE_len h with ⟨h1, h2⟩ | ⟨g, cap, h1, h2, h3, h4, h5⟩
  · exact .inl ⟨by rw [h1]; rfl, h2⟩
  · refine .inr ⟨g, cap, by rw [h1]; show Value.slice _ es.length cap = Value.slice _ (es.map (·.1)).length cap; rw [List.length_map], by show (es.map (·.1)).length ≤ cap; rw [List.length_map]; exact h2, by show (es.map (·.1)).length ≤ _; rw [List.length_map]; exact hl, ⟨h3, h4⟩, fun j a hj => ?_⟩
    have hj' : (es.map (·.1))[j]? = some a := hj
    rw [List.getElem?_map, Option.map_eq_some_iff] at hj'
    obtain ⟨p, hp, rfl⟩ := hj'
    refine ⟨p.2, ⟨?_, ?_, ?_, ?_⟩, ExX.mono (fun i hi => ⟨hi.1, hi.2.1⟩) (h.sub p (List.mem_of_getElem? hp))⟩
    · rw [Nat.zero_add]; exact h5 j p 0 _ hp rfl
    · rw [Nat.zero_add]; exact h5 j p 1 _ hp rfl
    · rw [Nat.zero_add]; exact h5 j p 2 _ hp rfl
    · rw [Nat.zero_add]; exact h5 j p 3 _ hp rfl
theorem infoE : (Tryd.prog.info? 76).map (fun i => (i.zero, i.size, i.bytes)) = some (some (.agg #[.int .i64 0, .int .i64 0, .string ⟨#[]⟩, .slice none 0 0]), 4, 56) := by kernel_rfl
theorem infoS : (Tryd.prog.info? 67).map (fun i => (i.zero, i.size, i.bytes)) = some (some (.agg #[.int .i64 0, .int .i64 0, .string ⟨#[]⟩, .bool false, .slice none 0 0, .slice none 0 0, .slice none 0 0]), 7, 112) := by kernel_rfl
theorem infoV : (Tryd.prog.info? 35).map (fun i => (i.zero, i.size, i.bytes)) = some (some (.agg #[.string ⟨#[]⟩, .bool false, .int .i64 0]), 3, 32) := by kernel_rfl
end Go.Proofs.YtemdnmfldihalaaDoor.Lr
namespace Go.Proofs.YtemdnmfldihalaaDoor.Lr
set_option linter.unusedVariables false
open Go.ChangeShapes Go.WideShapes Go.ChangeAt Go.RowKit Lg

/-- The slice sl holds statements, and what hangs on them, in blocks of X. -/
def StX (w : World) (X : Nat → Prop) : Nat → List St → Value → Prop
  | 0, _, _ => False
  | m + 1, l, sl => (l = [] ∧ sl = .slice none 0 0) ∨ ∃ (g cap : Nat), sl = .slice (some ⟨g, 0, none⟩) l.length cap ∧ l.length ≤ cap ∧ l.length ≤ 281474976710656 ∧ X g ∧
      ∀ j t, l[j]? = some t → ∃ s1 s2 s3, StAt w g (0 + j * 7) t s1 s2 s3 ∧ ExX w X 11 (ar t.args) s1 ∧ StX w X m t.thn s2 ∧ StX w X m t.els s3
theorem StX.keep {w w' : World} {X : Nat → Prop} (hb : ∀ i, X i → w'.heap[i]? = w.heap[i]?) : ∀ {m : Nat} {l : List St} {sl : Value}, StX w X m l sl → StX w' X m l sl
  | 0, _, _, h => h
  | m + 1, e, sl, h => by
    rcases h with h | ⟨g, cap, h1, h2, h5, h3, h4⟩
    · exact .inl h
    · refine .inr ⟨g, cap, h1, h2, h5, h3, fun j a hj => ?_⟩
      obtain ⟨s1, s2, s3, k1, k2, k3, k4⟩ := h4 j a hj
      have key : ∀ i, w'.cell? ⟨g, i, none⟩ = w.cell? ⟨g, i, none⟩ := fun i => by unfold World.cell?; simp only [hb g h3]
      exact ⟨s1, s2, s3, ⟨by rw [key]; exact k1.c0, by rw [key]; exact k1.c1, by rw [key]; exact k1.c2, by rw [key]; exact k1.c3, by rw [key]; exact k1.c4, by rw [key]; exact k1.c5, by rw [key]; exact k1.c6⟩, ExX.keep hb k2, k3.keep hb, k4.keep hb⟩
theorem StX.mono {w : World} {X Y : Nat → Prop} (hb : ∀ i, X i → Y i) : ∀ {m : Nat} {l : List St} {sl : Value}, StX w X m l sl → StX w Y m l sl
  | 0, _, _, h => h
  | m + 1, e, sl, h => by
    rcases h with h | ⟨g, cap, h1, h2, h5, h3, h4⟩
    · exact .inl h
    · refine .inr ⟨g, cap, h1, h2, h5, hb g h3, fun j a hj => ?_⟩
      obtain ⟨s1, s2, s3, k1, k2, k3, k4⟩ := h4 j a hj
      exact ⟨s1, s2, s3, k1, ExX.mono hb k2, k3.mono hb, k4.mono hb⟩
theorem StX.stIs {w : World} {X : Nat → Prop} {B : Nat} (hb : ∀ i, X i → i < B) : ∀ {m : Nat} {l : List St} {sl : Value}, StX w X m l sl → StIs w B 10 m l sl
  | 0, _, _, h => h
  | m + 1, e, sl, h => by
    rcases h with ⟨h1, h2⟩ | ⟨g, cap, h1, h2, h5, h3, h4⟩
    · exact ⟨none, 0, 0, h2, by rw [h1]; rfl, Nat.le_refl _, by omega, fun j t hj => by rw [h1] at hj; simp at hj⟩
    · refine ⟨some ⟨g, 0, none⟩, _, cap, h1, rfl, h2, h5, fun j a hj => ?_⟩
      obtain ⟨s1, s2, s3, k1, k2, k3, k4⟩ := h4 j a hj
      exact ⟨g, 0, s1, s2, s3, rfl, hb g h3, k1, ExX.exIs hb k2, k3.stIs hb, k4.stIs hb⟩
theorem StX.slice {w : World} {X : Nat → Prop} : ∀ {m : Nat} {l : List St} {sl : Value}, StX w X m l sl → ∃ p n cap, sl = .slice p n cap
  | 0, _, _, h => h.elim
  | m + 1, e, sl, h => by
    rcases h with ⟨_, h⟩ | ⟨g, cap, h1, _⟩
    · exact ⟨_, _, _, h⟩
    · exact ⟨_, _, _, h1⟩
theorem StX.none {w : World} {X : Nat → Prop} (m : Nat) : StX w X (m + 1) [] (.slice none 0 0) := .inl ⟨rfl, rfl⟩

/-- A statement's cells; rows of them. -/
def stA (t : St) (s1 s2 s3 : Value) : Array Value := #[.int .i64 t.kind, .int .i64 t.n, .string ⟨t.name.toArray⟩, .bool t.secret, s1, s2, s3]
def cellsS (p : St × Value × Value × Value) : List Value := [.int .i64 p.1.kind, .int .i64 p.1.n, .string ⟨p.1.name.toArray⟩, .bool p.1.secret, p.2.1, p.2.2.1, p.2.2.2]
/-- What hangs on a statement. -/
def nestS (m : Nat) (w : World) (X : Nat → Prop) (p : St × Value × Value × Value) : Prop := ExX w X 11 (ar p.1.args) p.2.1 ∧ StX w X m p.1.thn p.2.2.1 ∧ StX w X m p.1.els p.2.2.2
theorem nestS_nest (m : Nat) : Nest (nestS m) := ⟨fun w w' X p h hb => ⟨ExX.keep hb h.1, StX.keep hb h.2.1, StX.keep hb h.2.2⟩, fun w X Y p h hb => ⟨ExX.mono hb h.1, StX.mono hb h.2.1, StX.mono hb h.2.2⟩⟩
theorem cellsS_len (p : St × Value × Value × Value) : (cellsS p).length = 7 := rfl
def RowS (m : Nat) (w : World) (lo : Nat) (v : Value) (es : List (St × Value × Value × Value)) : Prop := RowX (nestS m) cellsS 7 67 w lo v es
theorem RowX.stmts {m : Nat} {w : World} {lo : Nat} {v : Value} {es : List (St × Value × Value × Value)} (h : RowS m w lo v es) (hl : es.length ≤ 281474976710656) : StX w (fun i => lo ≤ i ∧ i < w.heap.size) (m + 1) (es.map (·.1)) v := by
  rcases RowX.form cellsS_len h with ⟨h1, h2⟩ | ⟨g, cap, h1, h2, h3, h4, h5⟩
  · exact .inl ⟨by rw [h1]; rfl, h2⟩
  · refine .inr ⟨g, cap, by rw [h1, List.length_map], by rw [List.length_map]; exact h2, by rw [List.length_map]; exact hl, ⟨h3, h4⟩, fun j a hj => ?_⟩
    rw [List.getElem?_map, Option.map_eq_some_iff] at hj
    obtain ⟨p, hp, rfl⟩ := hj
    obtain ⟨k1, k2, k3⟩ := h.sub p (List.mem_of_getElem? hp)
    refine ⟨p.2.1, p.2.2.1, p.2.2.2, ⟨?_, ?_, ?_, ?_, ?_, ?_, ?_⟩, ExX.mono (fun i hi => ⟨hi.1, hi.2.1⟩) k1, StX.mono (fun i hi => ⟨hi.1, hi.2.1⟩) k2, StX.mono (fun i hi => ⟨hi.1, hi.2.1⟩) k3⟩
    · rw [Nat.zero_add]; exact h5 j p 0 _ hp rfl
    · rw [Nat.zero_add]; exact h5 j p 1 _ hp rfl
    · rw [Nat.zero_add]; exact h5 j p 2 _ hp rfl
    · rw [Nat.zero_add]; exact h5 j p 3 _ hp rfl
    · rw [Nat.zero_add]; exact h5 j p 4 _ hp rfl
    · rw [Nat.zero_add]; exact h5 j p 5 _ hp rfl
    · rw [Nat.zero_add]; exact h5 j p 6 _ hp rfl

/-- A variable's cells; rows of them. -/
def cellsV (p : Vr) : List Value := [.string ⟨p.name.toArray⟩, .bool p.secret, .int .i64 p.size]
def nestV (w : World) (X : Nat → Prop) (p : Vr) : Prop := True
theorem nestV_nest : Nest nestV := ⟨fun w w' X p h hb => trivial, fun w X Y p h hb => trivial⟩
theorem cellsV_len (p : Vr) : (cellsV p).length = 3 := rfl
def RowV (w : World) (lo : Nat) (v : Value) (es : List Vr) : Prop := RowX nestV cellsV 3 35 w lo v es
theorem RowX.vars {w : World} {lo B : Nat} {v : Value} {es : List Vr} (h : RowV w lo v es) (hl : es.length ≤ 281474976710656) (hB : w.heap.size ≤ B) : VrIs w B es v := by
  rcases RowX.form cellsV_len h with ⟨h1, h2⟩ | ⟨g, cap, h1, h2, h3, h4, h5⟩
  · exact ⟨none, 0, 0, h2, by rw [h1]; rfl, Nat.le_refl _, by omega, fun j t hj => by rw [h1] at hj; simp at hj⟩
  · refine ⟨some ⟨g, 0, none⟩, _, cap, h1, rfl, h2, hl, fun j p hp => ⟨g, 0, rfl, by omega, ⟨?_, ?_, ?_⟩⟩⟩
    · rw [Nat.zero_add]; exact h5 j p 0 _ hp rfl
    · rw [Nat.zero_add]; exact h5 j p 1 _ hp rfl
    · rw [Nat.zero_add]; exact h5 j p 2 _ hp rfl

/-- So many cells of a row are laid anew. -/
theorem own_set {base n cap g : Nat} {ty : TypeId} {k : Nat} : ∀ (vs ys zs : List Value) (w : World), zs.length = vs.length → w.ownsRow base ty k (.slice (some ⟨g, 0, none⟩) n cap) n (ys ++ zs) →
    (w.setCells g ys.length vs).ownsRow base ty k (.slice (some ⟨g, 0, none⟩) n cap) n (ys ++ vs) ∧ w.grownBy (w.setCells g ys.length vs) (some g)
  | [], ys, zs, w, hl, h => by
    have : zs = [] := List.length_eq_zero_iff.1 hl
    subst this
    exact ⟨h, World.grownBy.refl w _⟩
  | u :: vs, ys, [], w, hl, h => by simp at hl
  | u :: vs, ys, z :: zs, w, hl, h => by
    obtain ⟨h1, h2⟩ := h.stored ys.length u
    have e1 : (ys ++ z :: zs).set ys.length u = (ys ++ [u]) ++ zs := by
      rw [List.set_append_right (h := Nat.le_refl _), Nat.sub_self]; simp
    rw [e1] at h1
    obtain ⟨h3, h4⟩ := own_set vs (ys ++ [u]) zs _ (by simpa using hl) h1
    have e2 : (ys ++ [u]).length = ys.length + 1 := by simp
    rw [e2] at h3 h4
    refine ⟨by rw [List.append_assoc] at h3; exact h3, ?_⟩
    exact ⟨h4.os.trans h2.os, h4.tape.trans h2.tape, h4.output.trans h2.output, Nat.le_trans h2.size h4.size, fun i hi hne => (h4.block i (Nat.lt_of_lt_of_le hi h2.size) hne).trans (h2.block i hi hne)⟩
theorem info_S (l : List Value) (h : l.length = 7) : (Tryd.prog.info? 67).map (·.size) = some l.toArray.size := by
  rw [List.size_toArray, h]; kernel_rfl
theorem info_V (l : List Value) (h : l.length = 3) : (Tryd.prog.info? 35).map (·.size) = some l.toArray.size := by
  rw [List.size_toArray, h]; kernel_rfl
end Go.Proofs.YtemdnmfldihalaaDoor.Lr
namespace Go.Proofs.YtemdnmfldihalaaDoor.Lr
set_option linter.unusedVariables false
set_option linter.unusedSimpArgs false
open Go.ChangeShapes Go.WideShapes Go.ChangeAt Go.RowKit Lg

theorem RowX.push2 {α : Type} {nest : World → (Nat → Prop) → α → Prop} {cells : α → List Value} {k : Nat} {ty : TypeId} {w w1 : World} {lo g n cap : Nat} {v : Value} {es : List α} {p : α} (hN : Nest nest) (h : RowX nest cells k ty w lo v es) (hp : nest w (In lo v w) p)
    (hown : w1.ownsRow lo ty k (.slice (some ⟨g, 0, none⟩) n cap) (es.length + 1) (es.flatMap cells ++ cells p)) (hs : w.heap.size ≤ w1.heap.size) (hb : ∀ i, lo ≤ i → i < w.heap.size → ¬ v.ownBlock = some i → w1.heap[i]? = w.heap[i]?) (hat : v.ownBlock = some g ∨ w.heap.size ≤ g) :
    RowX nest cells k ty w1 lo (.slice (some ⟨g, 0, none⟩) n cap) (es ++ [p]) := by
  have key : ∀ q, nest w (In lo v w) q → nest w1 (In lo (.slice (some ⟨g, 0, none⟩) n cap) w1) q := fun q hq => by
    refine hN.mono _ _ _ _ (hN.keep _ w1 _ q hq (fun i hi => hb i hi.1 hi.2.1 hi.2.2)) (fun i hi => ⟨hi.1, Nat.lt_of_lt_of_le hi.2.1 hs, fun e => ?_⟩)
    have e' : g = i := by simpa [Value.ownBlock] using e
    rcases hat with ha | ha
    · exact hi.2.2 (by rw [ha, e'])
    · have := hi.2.1; omega
  refine ⟨?_, fun q hq => ?_⟩
  · rw [List.length_append, List.length_singleton, List.flatMap_append, List.flatMap_singleton]; exact hown
  · rcases List.mem_append.1 hq with e | e
    · exact key q (h.sub q e)
    · rw [List.mem_singleton] at e; rw [e]; exact key p hp
theorem RowX.len {α : Type} {nest : World → (Nat → Prop) → α → Prop} {cells : α → List Value} {k : Nat} {ty : TypeId} {w : World} {lo : Nat} {p : Option Addr} {n cap : Nat} {es : List α} (h : RowX nest cells k ty w lo (.slice p n cap) es) : n = es.length := by
  rcases h.own.2 with ⟨h1, h2⟩ | ⟨g, cap', cur, h1, _⟩
  · injection h1 with _ h3 _; omega
  · injection h1 with _ h3 _

/-- The cells of a row that are there. -/
theorem own_there {w : World} {base n cap g k : Nat} {ty : TypeId} {xs : List Value} (h : w.ownsRow base ty k (.slice (some ⟨g, 0, none⟩) n cap) n xs) (o l : Nat) (hl : o + l ≤ n * k) : w.there g o l := fun j hj => by
  refine ⟨?_, h.frozenAt _⟩
  rw [h.cellAt _ (by omega)]
  have : o + j < xs.length := by rw [h.1]; omega
  rw [List.getElem?_eq_getElem this]; rfl

theorem own_stay {w w' : World} {base n cap g k : Nat} {ty : TypeId} {xs : List Value} (h : w.ownsRow base ty k (.slice (some ⟨g, 0, none⟩) n cap) n xs) (hb : w'.heap[g]? = w.heap[g]?) : w'.ownsRow base ty k (.slice (some ⟨g, 0, none⟩) n cap) n xs := by
  obtain ⟨h1, h2⟩ := h
  refine ⟨h1, ?_⟩
  rcases h2 with ⟨h2, _⟩ | ⟨g', cap', cur, a1, a2, a3, a4⟩
  · cases h2
  · have e : g = g' := by
      injection a1 with a1 _ _
      injection a1 with a1
      injection a1
    subst e
    exact .inr ⟨g, cap', cur, a1, a2, by rw [hb]; exact a3, a4⟩
/-- A part, and the slice that holds it, are laid, in either order. -/
structure Laid2 (w2 w3 : World) (base n cap g k L : Nat) (ty tl : TypeId) (xs : List Value) : Prop where
  own : w3.ownsRow base ty k (.slice (some ⟨g, 0, none⟩) n cap) n xs
  box : Bk w3 L [.slice (some ⟨g, 0, none⟩) n cap] tl
  size : w2.heap.size ≤ w3.heap.size
  block : ∀ i, i < w2.heap.size → i ≠ g → i ≠ L → w3.heap[i]? = w2.heap[i]?
  os : w3.os = w2.os
  tape : w3.tape = w2.tape
  output : w3.output = w2.output
theorem laid_ab {w2 : World} {base n cap g k L : Nat} {ty tl : TypeId} {ys zs vs : List Value} {l : Value} (hne : g ≠ L) (h : w2.ownsRow base ty k (.slice (some ⟨g, 0, none⟩) n cap) n (ys ++ zs)) (hl : zs.length = vs.length) (hL : Bk w2 L [l] tl) (o : Nat) (ho : o = ys.length) :
    Laid2 w2 ((w2.setCells g o vs).setCell ⟨L, 0, none⟩ (.slice (some ⟨g, 0, none⟩) n cap)) base n cap g k L ty tl (ys ++ vs) := by
  subst ho
  obtain ⟨h1, h2⟩ := own_set vs ys zs w2 hl h
  have hL2 : Bk (w2.setCells g ys.length vs) L [l] tl := by
    unfold Bk at hL ⊢
    rw [h2.block L (Array.getElem?_eq_some_iff.1 hL).1 (by simp; exact Ne.symm hne)]; exact hL
  exact ⟨own_stay h1 (Below.heap_setCell _ _ _ _ hne), hL2.set 0 _, by simp [World.setCell]; exact h2.size, fun i hi hg hl => by rw [Below.heap_setCell _ _ _ _ hl]; exact h2.block i hi (by simp; exact hg), h2.os, h2.tape, h2.output⟩
theorem laid_ba {w2 : World} {base n cap g k L : Nat} {ty tl : TypeId} {ys zs vs : List Value} {l : Value} (hne : g ≠ L) (h : w2.ownsRow base ty k (.slice (some ⟨g, 0, none⟩) n cap) n (ys ++ zs)) (hl : zs.length = vs.length) (hL : Bk w2 L [l] tl) (o : Nat) (ho : o = ys.length) :
    Laid2 w2 ((w2.setCell ⟨L, 0, none⟩ (.slice (some ⟨g, 0, none⟩) n cap)).setCells g o vs) base n cap g k L ty tl (ys ++ vs) := by
  subst ho
  have hs : (w2.setCell ⟨L, 0, none⟩ (.slice (some ⟨g, 0, none⟩) n cap)).heap.size = w2.heap.size := by simp [World.setCell]
  obtain ⟨h1, h2⟩ := own_set vs ys zs _ hl (own_stay (w' := w2.setCell ⟨L, 0, none⟩ (.slice (some ⟨g, 0, none⟩) n cap)) h (Below.heap_setCell _ _ _ _ hne))
  have hL2 := hL.set 0 (.slice (some ⟨g, 0, none⟩) n cap)
  refine ⟨h1, ?_, by have := h2.size; omega, fun i hi hg hl => by rw [h2.block i (by omega) (by simp; exact hg), Below.heap_setCell _ _ _ _ hl], h2.os, h2.tape, h2.output⟩
  unfold Bk at hL2 ⊢
  rw [h2.block L (by rw [hs]; exact hL.lt) (by simp; exact Ne.symm hne)]; exact hL2
theorem step_store_mid {P : Program} {ops : Array Oper} {o : Oper} {a : Act} {w : World} {K : Act → World → Prop} {Q : Exit → Act → World → Prop} {E : Prop} (hgd : o.guard = none) (ty : TypeId) (x y : Operand) (ho : o.op = .store ty x y)
    (b k : Nat) (cells : Array Value) (hx : a.eval x = .pointer (some ⟨b, k, none⟩)) (hy : a.eval y = .agg cells) (ht : w.there b k cells.size) (hi : (P.info? ty).map (·.size) = some cells.size) (h1 : cells.all (·.oneCell') = true)
    (h : K (a.put o.dst undef) (w.setCells b k cells.toList)) : if Region.wanted o (yielded ops a.tmps) = true then Oper.wp P o a w K Q else E := by
  rw [if_pos (by simp [Region.wanted, hgd])]
  exact wp_store_mid ty x y ho b k cells hx hy ht hi h1 h
theorem bk_add {w : World} {k : Nat} {l : List Value} {ty : TypeId} (h : Bk w k l ty) (j : Nat) (u : Value) (hj : l[j]? = some u) : w.cell? ((⟨k, 0, none⟩ : Addr).add j) = some u := by
  have he : (⟨k, 0, none⟩ : Addr).add j = ⟨k, j, none⟩ := by
    simp [Addr.add]
    intro h; omega
  rw [he]; exact h.cell j hj

end Go.Proofs.YtemdnmfldihalaaDoor.Lr
