/- A region that draws its order: a condition S on the world that is shown behind those operations alone that are on a list L; what yields its value in every world of S, and is waited for by all that is not on L, may be taken first. -/
import Derived.Deep.RegionHeld3
namespace Go.Proofs.Ytnnfefohpofipaa.Ord
open Go
def wpM (P : Program) (md : Region.Mode) (ops : Array Oper) (Q : Exit → Act → World → Prop) (S : World → Prop) (L : List Nat) : Nat → Array Bool → Act → World → Prop
  | 0, d, a, w => Region.ready md ops d = [] ∧ Q .normal a w
  | n + 1, d, a, w => (Region.ready md ops d = [] → Q .normal a w) ∧ ∀ i ∈ Region.ready md ops d, wpOp P ops Q i (fun a' w' => (L.contains i = true → S w') ∧ wpM P md ops Q S L n (d.setIfInBounds i true) a' w') a w

theorem wpM_any {P : Program} {md : Region.Mode} {ops : Array Oper} {Q : Exit → Act → World → Prop} {S : World → Prop} {L : List Nat} : ∀ (n : Nat) (d : Array Bool) (a : Act) (w : World), wpM P md ops Q S L n d a w → wpAny P md ops Q n d a w
  | 0, _, _, _, h => h
  | n + 1, _, _, _, h => ⟨h.1, fun i hi => wpOp_mono (fun a' w' k => wpM_any n _ a' w' k.2) (h.2 i hi)⟩

/-- Who may come ahead of number i is on the list. -/
def ahead (md : Region.Mode) (ops : Array Oper) (L : List Nat) (d : Array Bool) (i : Nat) : Bool :=
  (List.range ops.size).all fun j => j == i || d.getD j true || L.contains j || match ops[j]? with
    | some oj => oj.after.any fun e => Region.binds md e && e.on == i
    | none => true
theorem ahead_spec {md : Region.Mode} {ops : Array Oper} {L : List Nat} {i j : Nat} {oj : Oper} {d : Array Bool} (h : ahead md ops L d i = true) (hj : ops[j]? = some oj) (hne : j ≠ i) (hun : d.getD j true = false) (hno : ∀ e ∈ oj.after, Region.binds md e = true → e.on ≠ i) : L.contains j = true := by
  unfold ahead at h
  have h1 := List.all_eq_true.1 h j (List.mem_range.2 (Array.getElem?_eq_some_iff.1 hj).1)
  rw [hj, hun, Bool.or_false, Bool.or_eq_true, Bool.or_eq_true] at h1
  rcases h1 with (h1 | h1) | h1
  · exact absurd (beq_iff_eq.1 h1) hne
  · exact h1
  · obtain ⟨e, he, hb⟩ := Array.any_eq_true'.1 h1
    rw [Bool.and_eq_true] at hb
    exact absurd (beq_iff_eq.1 hb.2) (hno e he hb.1)
theorem ahead_set {md : Region.Mode} {ops : Array Oper} {L : List Nat} {i j : Nat} {d : Array Bool} (h : ahead md ops L d i = true) : ahead md ops L (d.setIfInBounds j true) i = true := by
  unfold ahead at h ⊢
  refine List.all_eq_true.2 fun k hk => ?_
  have h1 := List.all_eq_true.1 h k hk
  by_cases hjk : j = k
  · subst hjk
    have : (d.setIfInBounds j true).getD j true = true := by
      by_cases hlt : j < d.size
      · simp [Array.getD, hlt]
      · simp [Array.getD, hlt]
    rw [this]; simp
  · rw [getD_set_ne true hjk]; exact h1

theorem wpM_first {P : Program} {md : Region.Mode} {ops : Array Oper} {Q : Exit → Act → World → Prop} {S : World → Prop} {L : List Nat} {i : Nat} {oi : Oper} {v : Value} (hi : ops[i]? = some oi) (hsel : ∀ (j : Nat) (o : Oper) cs b, ops[j]? = some o → o.op ≠ .select cs b) (hQ : ∀ c a w, Q (.panic c) (a.put oi.dst v) w → Q (.panic c) a w) :
    ∀ (n : Nat) (d : Array Bool) (a : Act) (w : World), (∀ j oj, ops[j]? = some oj → j ≠ i → d.getD j true = false → (∀ e ∈ oj.after, Region.binds md e = true → e.on ≠ i) → oi.apart ops oj = true) → ahead md ops L d i = true →
      i ∈ Region.ready md ops d → YieldsIf P ops S oi v a → S w → wpM P md ops Q S L n (d.setIfInBounds i true) (a.put oi.dst v) w → wpM P md ops Q S L (n + 1) d a w
  | 0, d, a, w, _, _, hr, hy, hS, H => by
    refine ⟨fun h => (by rw [h] at hr; cases hr), fun j hj => ?_⟩
    by_cases e : j = i
    · rw [e]; exact hy.wpOp hi hS ⟨fun _ => hS, H⟩
    · have := ready_mono hj e
      rw [H.1] at this
      cases this
  | n + 1, d, a, w, hfree, hah, hr, hy, hS, H => by
    refine ⟨fun h => (by rw [h] at hr; cases hr), fun j hj => ?_⟩
    by_cases e : j = i
    · rw [e]; exact hy.wpOp hi hS ⟨fun _ => hS, H⟩
    · have h1 := H.2 j (ready_mono hj e)
      obtain ⟨hun, oj, hoj, hall⟩ := mem_ready.1 hj
      have hno : ∀ x ∈ oj.after, Region.binds md x = true → x.on ≠ i := fun x hx hb he => by
        have h2 := hall x hx hb
        have h3 := (mem_ready.1 hr).1
        rw [he] at h2
        rcases Nat.lt_or_ge i d.size with g | g
        · simp [g] at h2 h3; rw [h3] at h2; cases h2
        · simp [Array.getElem?_eq_none g] at h2
      have hL := ahead_spec hah hoj e hun hno
      have h2 := wpOp_putIf hoj (hfree j oj hoj e hun hno) (fun cs b => hsel i oi cs b hi) (fun cs b => hsel j oj cs b hoj) hQ hy h1
      refine wpOp_mono (fun a' w' k => ?_) h2
      refine ⟨k.2.1, wpM_first hi hsel hQ n (d.setIfInBounds j true) a' w' (fun q oq hq hqi hqu hqn => hfree q oq hq hqi ?_ hqn) (ahead_set hah) (ready_mono hr (Ne.symm e)) k.1 (k.2.1 hL) ?_⟩
      · by_cases hjq : j = q
        · rw [← hjq]; exact hun
        · rw [getD_set_ne true hjq] at hqu; exact hqu
      · rw [Array.setIfInBounds_comm _ _ e]; exact k.2.2
theorem wpM_take {P : Program} {md : Region.Mode} {ops : Array Oper} {Q : Exit → Act → World → Prop} {S : World → Prop} {L : List Nat} {i : Nat} {oi : Oper} {v : Value} {n : Nat} {d : Array Bool} {a : Act} {w : World} (hi : ops[i]? = some oi) (hs : Region.noSelect ops = true) (hf : Region.free md ops d i = true) (ha : ahead md ops L d i = true)
    (hr : (Region.ready md ops d).contains i = true) (hQ : ∀ c a w, Q (.panic c) (a.put oi.dst v) w → Q (.panic c) a w) (hy : YieldsIf P ops S oi v a) (hS : S w)
    (h : wpM P md ops Q S L n (d.setIfInBounds i true) (a.put oi.dst v) w) : wpM P md ops Q S L (n + 1) d a w :=
  wpM_first hi (Region.noSelect_spec hs) hQ n d a w (Region.free_spec hi hf) ha (by simpa using hr) hy hS h
/-- One alone may come up. -/
theorem wpM_one {P : Program} {md : Region.Mode} {ops : Array Oper} {Q : Exit → Act → World → Prop} {S : World → Prop} {L : List Nat} {i : Nat} {o : Oper} {n : Nat} {d : Array Bool} {a : Act} {w : World} (hr : Region.ready md ops d = [i]) (ho : ops[i]? = some o)
    (h : ∀ K : Act → World → Prop, Shut (∀ a w, (L.contains i = true → S w) → wpM P md ops Q S L n (d.setIfInBounds i true) a w → K a w) → if Region.wanted o (yielded ops a.tmps) = true then Oper.wp P o a w K Q else K (a.put o.dst undef) w) : wpM P md ops Q S L (n + 1) d a w :=
  ⟨fun h0 => (by rw [hr] at h0; cases h0), fun j hj => by
    rw [hr, List.mem_singleton] at hj
    subst hj
    exact wpOp_step ho fun K hK => h K fun a w h1 h2 => hK a w ⟨h1, h2⟩⟩
/-- One of two. -/
theorem wpM_two {P : Program} {md : Region.Mode} {ops : Array Oper} {Q : Exit → Act → World → Prop} {S : World → Prop} {L : List Nat} {i j : Nat} {oi oj : Oper} {n : Nat} {d : Array Bool} {a : Act} {w : World} (hr : Region.ready md ops d = [i, j]) (hi : ops[i]? = some oi) (hj : ops[j]? = some oj)
    (h : ∀ K : Act → World → Prop, Shut (∀ a w, (L.contains i = true → S w) → wpM P md ops Q S L n (d.setIfInBounds i true) a w → K a w) → if Region.wanted oi (yielded ops a.tmps) = true then Oper.wp P oi a w K Q else K (a.put oi.dst undef) w)
    (k : ∀ K : Act → World → Prop, Shut (∀ a w, (L.contains j = true → S w) → wpM P md ops Q S L n (d.setIfInBounds j true) a w → K a w) → if Region.wanted oj (yielded ops a.tmps) = true then Oper.wp P oj a w K Q else K (a.put oj.dst undef) w) : wpM P md ops Q S L (n + 1) d a w :=
  ⟨fun h0 => (by rw [hr] at h0; cases h0), fun x hx => by
    rw [hr, List.mem_cons, List.mem_singleton] at hx
    rcases hx with e | e
    · subst e; exact wpOp_step hi fun K hK => h K fun a w h1 h2 => hK a w ⟨h1, h2⟩
    · subst e; exact wpOp_step hj fun K hK => k K fun a w h1 h2 => hK a w ⟨h1, h2⟩⟩
theorem wpM_done {P : Program} {md : Region.Mode} {ops : Array Oper} {Q : Exit → Act → World → Prop} {S : World → Prop} {L : List Nat} {d : Array Bool} {a : Act} {w : World} (hr : Region.ready md ops d = []) (h : Q .normal a w) : ∀ n, wpM P md ops Q S L n d a w
  | 0 => ⟨hr, h⟩
  | _ + 1 => ⟨fun _ => h, by rw [hr]; simp⟩
theorem wpM_begin {P : Program} {ops : Array Oper} {Q : Exit → Act → World → Prop} {id : Nat} {a : Act} {w : World} (S : World → Prop) (L : List Nat) (hm : P.follows .mixedOrders = true) (h : wpM P .any ops Q S L ops.size (Array.replicate ops.size false) a w.drew) : (Code.region id ops true).wp P Q a w :=
  wp_region_any hm (wpM_any _ _ _ _ h)
end Go.Proofs.Ytnnfefohpofipaa.Ord
