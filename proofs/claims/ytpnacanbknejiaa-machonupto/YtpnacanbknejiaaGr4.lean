/- Laid together: LdStX, LiOrd. -/
import Derived.Test.YtpnacanbknejiaaLdRow
import Derived.Deep.MidRow
import Derived.Deep.RegionHeld3
namespace Go.Proofs.Ytpnacanbknejiaa.Lr
set_option linter.unusedVariables false
open Go.ChangeShapes Go.WideShapes Go.ChangeAt Go.RowKit Lg
def StX (w : World) (X : Nat → Prop) : Nat → List St → Value → Prop
 | 0,_,_ => False
 | m + 1,l,sl => (l = [] ∧ sl = .slice none 0 0) ∨ ∃ (g cap : Nat),sl = .slice (some ⟨g,0,none⟩) l.length cap ∧ l.length ≤ cap ∧ l.length ≤ 281474976710656 ∧ X g ∧
   ∀ j t,l[j]? = some t → ∃ s1 s2 s3,StAt w g (0 + j * 7) t s1 s2 s3 ∧ ExX w X 11 (ar t.args) s1 ∧ StX w X m t.thn s2 ∧ StX w X m t.els s3
theorem StX.keep {w w' : World} {X : Nat → Prop} (hb : ∀ i,X i → w'.heap[i]? = w.heap[i]?) : ∀ {m : Nat} {l : List St} {sl : Value},StX w X m l sl → StX w' X m l sl
 | 0,_,_,h => h
 | m + 1,e,sl,h => by
  rcases h with h | ⟨g,cap,h1,h2,h5,h3,h4⟩
  ·exact .inl h
  ·refine .inr ⟨g,cap,h1,h2,h5,h3,fun j a hj => ?_⟩
   obtain ⟨s1,s2,s3,k1,k2,k3,k4⟩ := h4 j a hj
   have key : ∀ i,w'.cell? ⟨g,i,none⟩ = w.cell? ⟨g,i,none⟩ := fun i => by unfold World.cell?; simp only [hb g h3]
   exact ⟨s1,s2,s3,⟨by rw [key]; exact k1.c0,by rw [key]; exact k1.c1,by rw [key]; exact k1.c2,by rw [key]; exact k1.c3,by rw [key]; exact k1.c4,by rw [key]; exact k1.c5,by rw [key]; exact k1.c6⟩,ExX.keep hb k2,k3.keep hb,k4.keep hb⟩
theorem StX.mono {w : World} {X Y : Nat → Prop} (hb : ∀ i,X i → Y i) : ∀ {m : Nat} {l : List St} {sl : Value},StX w X m l sl → StX w Y m l sl
 | 0,_,_,h => h
 | m + 1,e,sl,h => by
  rcases h with h | ⟨g,cap,h1,h2,h5,h3,h4⟩
  ·exact .inl h
  ·refine .inr ⟨g,cap,h1,h2,h5,hb g h3,fun j a hj => ?_⟩
   obtain ⟨s1,s2,s3,k1,k2,k3,k4⟩ := h4 j a hj
   exact ⟨s1,s2,s3,k1,ExX.mono hb k2,k3.mono hb,k4.mono hb⟩
theorem StX.slice {w : World} {X : Nat → Prop} : ∀ {m : Nat} {l : List St} {sl : Value},StX w X m l sl → ∃ p n cap,sl = .slice p n cap
 | 0,_,_,h => h.elim
 | m + 1,e,sl,h => by
  rcases h with ⟨_,h⟩ | ⟨g,cap,h1,_⟩
  ·exact ⟨_,_,_,h⟩
  ·exact ⟨_,_,_,h1⟩
theorem StX.none {w : World} {X : Nat → Prop} (m : Nat) : StX w X (m + 1) [] (.slice none 0 0) := .inl ⟨rfl,rfl⟩
def cellsV (p : Vr) : List Value := [.string ⟨p.name.toArray⟩,.bool p.secret,.int .i64 p.size]
def nestV (w : World) (X : Nat → Prop) (p : Vr) : Prop := True
theorem cellsV_len (p : Vr) : (cellsV p).length = 3 := rfl
def RowV (w : World) (lo : Nat) (v : Value) (es : List Vr) : Prop := RowX nestV cellsV 3 82 w lo v es
end Go.Proofs.Ytpnacanbknejiaa.Lr
namespace Go.Proofs.Ytpnacanbknejiaa.Ord
open Go
def wpM (P : Program) (md : Region.Mode) (ops : Array Oper) (Q : Exit → Act → World → Prop) (S : World → Prop) (L : List Nat) : Nat → Array Bool → Act → World → Prop
 | 0,d,a,w => Region.ready md ops d = [] ∧ Q .normal a w
 | n + 1,d,a,w => (Region.ready md ops d = [] → Q .normal a w) ∧ ∀ i ∈ Region.ready md ops d,wpOp P ops Q i (fun a' w' => (L.contains i = true → S w') ∧ wpM P md ops Q S L n (d.setIfInBounds i true) a' w') a w
theorem wpM_any {P : Program} {md : Region.Mode} {ops : Array Oper} {Q : Exit → Act → World → Prop} {S : World → Prop} {L : List Nat} : ∀ (n : Nat) (d : Array Bool) (a : Act) (w : World),wpM P md ops Q S L n d a w → wpAny P md ops Q n d a w
 | 0,_,_,_,h => h
 | n + 1,_,_,_,h => ⟨h.1,fun i hi => wpOp_mono (fun a' w' k => wpM_any n _ a' w' k.2) (h.2 i hi)⟩
def ahead (md : Region.Mode) (ops : Array Oper) (L : List Nat) (d : Array Bool) (i : Nat) : Bool :=
 (List.range ops.size).all fun j => j == i || d.getD j true || L.contains j || match ops[j]? with
  | some oj => oj.after.any fun e => Region.binds md e && e.on == i
  | none => true
theorem ahead_spec {md : Region.Mode} {ops : Array Oper} {L : List Nat} {i j : Nat} {oj : Oper} {d : Array Bool} (h : ahead md ops L d i = true) (hj : ops[j]? = some oj) (hne : j ≠ i) (hun : d.getD j true = false) (hno : ∀ e ∈ oj.after,Region.binds md e = true → e.on ≠ i) : L.contains j = true := by
 unfold ahead at h
 have h1 := List.all_eq_true.1 h j (List.mem_range.2 (Array.getElem?_eq_some_iff.1 hj).1)
 rw [hj,hun,Bool.or_false,Bool.or_eq_true,Bool.or_eq_true] at h1
 rcases h1 with (h1 | h1) | h1
 ·exact absurd (beq_iff_eq.1 h1) hne
 ·exact h1
 ·obtain ⟨e,he,hb⟩ := Array.any_eq_true'.1 h1
  rw [Bool.and_eq_true] at hb
  exact absurd (beq_iff_eq.1 hb.2) (hno e he hb.1)
theorem ahead_set {md : Region.Mode} {ops : Array Oper} {L : List Nat} {i j : Nat} {d : Array Bool} (h : ahead md ops L d i = true) : ahead md ops L (d.setIfInBounds j true) i = true := by
 unfold ahead at h ⊢
 refine List.all_eq_true.2 fun k hk => ?_
 have h1 := List.all_eq_true.1 h k hk
 by_cases hjk : j = k
 ·subst hjk
  have : (d.setIfInBounds j true).getD j true = true := by
   by_cases hlt : j < d.size
   ·simp [Array.getD,hlt]
   ·simp [Array.getD,hlt]
  rw [this]; simp
 ·rw [getD_set_ne true hjk]; exact h1
theorem wpM_first {P : Program} {md : Region.Mode} {ops : Array Oper} {Q : Exit → Act → World → Prop} {S : World → Prop} {L : List Nat} {i : Nat} {oi : Oper} {v : Value} (hi : ops[i]? = some oi) (hsel : ∀ (j : Nat) (o : Oper) cs b,ops[j]? = some o → o.op ≠ .select cs b) (hQ : ∀ c a w,Q (.panic c) (a.put oi.dst v) w → Q (.panic c) a w) :
  ∀ (n : Nat) (d : Array Bool) (a : Act) (w : World),(∀ j oj,ops[j]? = some oj → j ≠ i → d.getD j true = false → (∀ e ∈ oj.after,Region.binds md e = true → e.on ≠ i) → oi.apart ops oj = true) → ahead md ops L d i = true →
   i ∈ Region.ready md ops d → YieldsIf P ops S oi v a → S w → wpM P md ops Q S L n (d.setIfInBounds i true) (a.put oi.dst v) w → wpM P md ops Q S L (n + 1) d a w
 | 0,d,a,w,_,_,hr,hy,hS,H => by
  refine ⟨fun h => (by rw [h] at hr; cases hr),fun j hj => ?_⟩
  by_cases e : j = i
  ·rw [e]; exact hy.wpOp hi hS ⟨fun _ => hS,H⟩
  ·have := ready_mono hj e
   rw [H.1] at this
   cases this
 | n + 1,d,a,w,hfree,hah,hr,hy,hS,H => by
  refine ⟨fun h => (by rw [h] at hr; cases hr),fun j hj => ?_⟩
  by_cases e : j = i
  ·rw [e]; exact hy.wpOp hi hS ⟨fun _ => hS,H⟩
  ·have h1 := H.2 j (ready_mono hj e)
   obtain ⟨hun,oj,hoj,hall⟩ := mem_ready.1 hj
   have hno : ∀ x ∈ oj.after,Region.binds md x = true → x.on ≠ i := fun x hx hb he => by
    have h2 := hall x hx hb
    have h3 := (mem_ready.1 hr).1
    rw [he] at h2
    rcases Nat.lt_or_ge i d.size with g | g
    ·simp [g] at h2 h3; rw [h3] at h2; cases h2
    ·simp [Array.getElem?_eq_none g] at h2
   have hL := ahead_spec hah hoj e hun hno
   have h2 := wpOp_putIf hoj (hfree j oj hoj e hun hno) (fun cs b => hsel i oi cs b hi) (fun cs b => hsel j oj cs b hoj) hQ hy h1
   refine wpOp_mono (fun a' w' k => ?_) h2
   refine ⟨k.2.1,wpM_first hi hsel hQ n (d.setIfInBounds j true) a' w' (fun q oq hq hqi hqu hqn => hfree q oq hq hqi ?_ hqn) (ahead_set hah) (ready_mono hr (Ne.symm e)) k.1 (k.2.1 hL) ?_⟩
   ·by_cases hjq : j = q
    ·rw [← hjq]; exact hun
    ·rw [getD_set_ne true hjq] at hqu; exact hqu
   ·rw [Array.setIfInBounds_comm _ _ e]; exact k.2.2
theorem wpM_take {P : Program} {md : Region.Mode} {ops : Array Oper} {Q : Exit → Act → World → Prop} {S : World → Prop} {L : List Nat} {i : Nat} {oi : Oper} {v : Value} {n : Nat} {d : Array Bool} {a : Act} {w : World} (hi : ops[i]? = some oi) (hs : Region.noSelect ops = true) (hf : Region.free md ops d i = true) (ha : ahead md ops L d i = true)
  (hr : (Region.ready md ops d).contains i = true) (hQ : ∀ c a w,Q (.panic c) (a.put oi.dst v) w → Q (.panic c) a w) (hy : YieldsIf P ops S oi v a) (hS : S w)
  (h : wpM P md ops Q S L n (d.setIfInBounds i true) (a.put oi.dst v) w) : wpM P md ops Q S L (n + 1) d a w :=
 wpM_first hi (Region.noSelect_spec hs) hQ n d a w (Region.free_spec hi hf) ha (by simpa using hr) hy hS h
theorem z {α : Type _} {x : α} {xs : List α} {a : α} : (x :: xs).set 0 a = a :: xs := List.set_cons_zero
theorem s {α : Type _} {x : α} {xs : List α} {n : Nat} {a : α} : (x :: xs).set (n + 1) a = x :: xs.set n a := List.set_cons_succ
theorem t {α : Type _} {l : List α} {i : Nat} {a : α} : l.toArray.setIfInBounds i a = (l.set i a).toArray := by simp
theorem tk {P : Program} {md : Region.Mode} {ops : Array Oper} {Q : Exit → Act → World → Prop} {S : World → Prop} {L : List Nat} {i : Nat} {oi : Oper} {v : Value} {n : Nat} {d : Array Bool} {a : Act} {w : World} (hi : ops[i]? = some oi := by simp only [List.getElem?_toArray,List.getElem?_cons_zero,List.getElem?_cons_succ]; rfl) (hs : Region.noSelect ops = true := by kernel_rfl) (hf : Region.free md ops d i = true := by kernel_rfl) (ha : ahead md ops L d i = true := by kernel_rfl)
  (hr : (Region.ready md ops d).contains i = true := by kernel_rfl) (hQ : ∀ c a w,Q (.panic c) (a.put oi.dst v) w → Q (.panic c) a w := by exact fun _ _ _ h => h) (hy : YieldsIf P ops S oi v a) (hS : S w)
  (h : wpM P md ops Q S L n (d.setIfInBounds i true) (a.put oi.dst v) w) : wpM P md ops Q S L (n + 1) d a w := wpM_take hi hs hf ha hr hQ hy hS h
theorem wpM_one {P : Program} {md : Region.Mode} {ops : Array Oper} {Q : Exit → Act → World → Prop} {S : World → Prop} {L : List Nat} {i : Nat} {o : Oper} {n : Nat} {d : Array Bool} {a : Act} {w : World} (hr : Region.ready md ops d = [i]) (ho : ops[i]? = some o)
  (h : ∀ K : Act → World → Prop,Shut (∀ a w,(L.contains i = true → S w) → wpM P md ops Q S L n (d.setIfInBounds i true) a w → K a w) → if Region.wanted o (yielded ops a.tmps) = true then Oper.wp P o a w K Q else K (a.put o.dst undef) w) : wpM P md ops Q S L (n + 1) d a w :=
 ⟨fun h0 => (by rw [hr] at h0; cases h0),fun j hj => by
  rw [hr,List.mem_singleton] at hj
  subst hj
  exact wpOp_step ho fun K hK => h K fun a w h1 h2 => hK a w ⟨h1,h2⟩⟩
theorem on {P : Program} {md : Region.Mode} {ops : Array Oper} {Q : Exit → Act → World → Prop} {S : World → Prop} {L : List Nat} {i : Nat} {o : Oper} {n : Nat} {d : Array Bool} {a : Act} {w : World} (hr : Region.ready md ops d = [i] := by kernel_rfl) (ho : ops[i]? = some o := by simp only [List.getElem?_toArray,List.getElem?_cons_zero,List.getElem?_cons_succ]; rfl)
  (h : ∀ K : Act → World → Prop,Shut (∀ a w,(L.contains i = true → S w) → wpM P md ops Q S L n (d.setIfInBounds i true) a w → K a w) → if Region.wanted o (yielded ops a.tmps) = true then Oper.wp P o a w K Q else K (a.put o.dst undef) w) : wpM P md ops Q S L (n + 1) d a w := wpM_one hr ho h
theorem wpM_two {P : Program} {md : Region.Mode} {ops : Array Oper} {Q : Exit → Act → World → Prop} {S : World → Prop} {L : List Nat} {i j : Nat} {oi oj : Oper} {n : Nat} {d : Array Bool} {a : Act} {w : World} (hr : Region.ready md ops d = [i,j]) (hi : ops[i]? = some oi) (hj : ops[j]? = some oj)
  (h : ∀ K : Act → World → Prop,Shut (∀ a w,(L.contains i = true → S w) → wpM P md ops Q S L n (d.setIfInBounds i true) a w → K a w) → if Region.wanted oi (yielded ops a.tmps) = true then Oper.wp P oi a w K Q else K (a.put oi.dst undef) w)
  (k : ∀ K : Act → World → Prop,Shut (∀ a w,(L.contains j = true → S w) → wpM P md ops Q S L n (d.setIfInBounds j true) a w → K a w) → if Region.wanted oj (yielded ops a.tmps) = true then Oper.wp P oj a w K Q else K (a.put oj.dst undef) w) : wpM P md ops Q S L (n + 1) d a w :=
 ⟨fun h0 => (by rw [hr] at h0; cases h0),fun x hx => by
  rw [hr,List.mem_cons,List.mem_singleton] at hx
  rcases hx with e | e
  ·subst e; exact wpOp_step hi fun K hK => h K fun a w h1 h2 => hK a w ⟨h1,h2⟩
  ·subst e; exact wpOp_step hj fun K hK => k K fun a w h1 h2 => hK a w ⟨h1,h2⟩⟩
theorem wpM_done {P : Program} {md : Region.Mode} {ops : Array Oper} {Q : Exit → Act → World → Prop} {S : World → Prop} {L : List Nat} {d : Array Bool} {a : Act} {w : World} (hr : Region.ready md ops d = []) (h : Q .normal a w) : ∀ n,wpM P md ops Q S L n d a w
 | 0 => ⟨hr,h⟩
 | _ + 1 => ⟨fun _ => h,by rw [hr]; simp⟩
theorem wpM_begin {P : Program} {ops : Array Oper} {Q : Exit → Act → World → Prop} {id : Nat} {a : Act} {w : World} (S : World → Prop) (L : List Nat) (hm : P.follows .mixedOrders = true) (h : wpM P .any ops Q S L ops.size (Array.replicate ops.size false) a w.drew) : (Code.region id ops true).wp P Q a w :=
 wp_region_any hm (wpM_any _ _ _ _ h)
end Go.Proofs.Ytpnacanbknejiaa.Ord
