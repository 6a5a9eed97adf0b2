/- Laid together: LgShow, LgOwn, LgWrite, LgSound, LvErr, LrBase, LiOrd, LdIs, LdFs. -/
import Derived.Test.YtemdnmfldihalaaGreatDoorGr0
import Derived.Test.YtemdnmfldihalaaGreatDoorProg
import Derived.ProofKit
import Derived.OpenShut
import Derived.Below
import Derived.Lib.Strings
import Derived.Lib.FrozenHead
import Derived.Lib.Builder
import Derived.Lib.Walk
import Derived.Lib.IndexBytes
import Derived.Deep.QuietTactic
import Derived.BigQuiet
import Derived.Deep.RegionHeld3
import Derived.Deep.DrawnRows
import Derived.Laws.EntriesVeiled
import Derived.Laws.CopyOwn
namespace Go.Proofs.YtemdnmfldihalaaGreatDoor.Lg
set_option linter.unusedVariables false
set_option linter.unusedSimpArgs false
open Wd Rf
theorem next_sound {l r : List (List UInt8)} {w : List UInt8} (h : next l = .ok (w,r)) : l = w :: r := by
 cases l with
 | nil => cases h
 | cons a l => cases h; rfl
theorem want_sound {x : List UInt8} {l r : List (List UInt8)} {u : Unit} (h : want x l = .ok (u,r)) : l = x :: r := by
 obtain ⟨w,q,h1,h2⟩ := andT_inv h
 by_cases hw : w = x
 ·rw [if_pos hw] at h2; cases h2; rw [next_sound h1,hw]
 ·rw [if_neg hw] at h2; cases h2
theorem nameT_sound {l r : List (List UInt8)} {x : List UInt8} (h : nameT l = .ok (x,r)) : l = x :: r := by
 obtain ⟨w,q,h1,h2⟩ := andT_inv h
 by_cases hw : isName w = true
 ·rw [if_pos hw] at h2; cases h2; exact next_sound h1
 ·rw [if_neg hw] at h2; cases h2
theorem manyT_sound {α : Type} {f : List (List UInt8) → Res α} {g : α → List (List UInt8)} (hf : ∀ l a r,f l = .ok (a,r) → l = g a ++ r) : ∀ (n : Nat) (l : List (List UInt8)) (us : List α) (r : List (List UInt8)),manyT f n l = .ok (us,r) → l = us.flatMap g ++ r
 | 0,l,us,r,h => by cases h; simp
 | n + 1,l,us,r,h => by
  rw [manyT] at h
  obtain ⟨a,q,h1,h2⟩ := andT_inv h
  obtain ⟨as_,q',h3,h4⟩ := andT_inv h2
  cases h4
  rw [hf _ _ _ h1,manyT_sound hf n _ _ _ h3,List.flatMap_cons,List.append_assoc]
theorem sign_sound {k : List UInt8} (h : ¬ signOf k = 0) : sign (signOf k) = k := by
 unfold signOf at h ⊢
 by_cases hk : k ∈ signs
 ·simp only [signs,List.mem_cons,List.not_mem_nil,or_false] at hk
  rcases hk with rfl | rfl | rfl | rfl | rfl | rfl | rfl | rfl | rfl | rfl | rfl | rfl <;> rfl
 ·rw [if_neg hk] at h; exact absurd rfl h
theorem exprT_sound : ∀ (m : Nat) (l : List (List UInt8)) (e : Ex) (r : List (List UInt8)),exprT m l = .ok (e,r) → l = toksE m e ++ r
 | 0,l,e,r,h => by cases h
 | m + 1,l,e,r,h => by
  rw [exprT] at h
  obtain ⟨w,r1,h1,h2⟩ := andT_inv h
  rw [next_sound h1]
  clear h h1
  by_cases hw : w = [40]
  ·rw [if_pos hw] at h2
   obtain ⟨k,q1,h3,h4⟩ := andT_inv h2
   obtain ⟨hd,q2,h5,h6⟩ := andT_inv h4
   obtain ⟨as_,q3,h7,h8⟩ := andT_inv h6
   obtain ⟨_,q4,h9,h10⟩ := andT_inv h8
   cases h10
   have e1 := manyT_sound (fun l a r hh => exprT_sound m l a r hh) _ _ _ _ h7
   rw [want_sound h9] at e1
   rw [next_sound h3,hw]
   unfold headT at h5
   by_cases k1 : k = [115,101,108]
   ·rw [if_pos k1] at h5
    cases h5
    rw [toksE,if_neg (by simp),if_neg (by simp),if_neg (by simp),if_pos rfl,e1,k1]; simp
   ·rw [if_neg k1] at h5
    by_cases k2 : k = [97,116]
    ·rw [if_pos k2] at h5
     obtain ⟨x,q5,h11,h12⟩ := andT_inv h5
     cases h12
     rw [toksE,if_neg (by simp),if_neg (by simp),if_neg (by simp),if_neg (by simp),nameT_sound h11,e1,k2]; simp
    ·rw [if_neg k2] at h5
     by_cases k3 : signOf k = 0
     ·rw [if_pos k3] at h5; cases h5
     ·rw [if_neg k3] at h5
      cases h5
      rw [toksE,if_neg (by simp),if_neg (by simp),if_pos rfl,e1]
      simp only [Int.toNat_natCast,sign_sound k3]; simp
  ·rw [if_neg hw] at h2
   by_cases hn : isNum w = true
   ·rw [if_pos hn] at h2
    cases h2
    rw [toksE,if_pos rfl]
    simp only [Int.toNat_natCast,dec_of_num hn]; rfl
   ·rw [if_neg hn] at h2
    by_cases hx : isName w = true
    ·rw [if_pos hx] at h2
     cases h2
     rw [toksE,if_neg (by simp),if_pos rfl]; rfl
    ·rw [if_neg hx] at h2; cases h2
theorem flush_sum (cur : List UInt8) (r : List (List UInt8)) : ((flush cur r).map fun t => t.length + 1).sum ≤ 2 * cur.length + (r.map fun t => t.length + 1).sum := by
 unfold flush
 split
 ·omega
 ·rename_i h
  have : 1 ≤ cur.length := by
   cases cur with
   | nil => exact absurd rfl h
   | cons a c => simp
  simp only [List.map_cons,List.sum_cons]
  omega
theorem lex_sum : ∀ (l cur : List UInt8),((lex l cur).map fun t => t.length + 1).sum ≤ 2 * (l.length + cur.length)
 | [],cur => by
  have := flush_sum cur []
  rw [lex]
  simp at this ⊢
  omega
 | c :: r,cur => by
  rw [lex]
  split
  ·have h1 := flush_sum cur (lex r [])
   have h2 := lex_sum r []
   simp at h2 ⊢
   omega
  ·split
   ·have h1 := flush_sum cur ([c] :: lex r [])
    have h2 := lex_sum r []
    simp at h2 ⊢
    simp at h1
    omega
   ·have h2 := lex_sum r (cur ++ [c])
    simp at h2 ⊢
    omega
theorem words_sum (l : List UInt8) : ((words l).map fun t => t.length + 1).sum ≤ 2 * l.length := by
 have := lex_sum l []
 simpa [words] using this
end Go.Proofs.YtemdnmfldihalaaGreatDoor.Lg
namespace Go.Proofs.YtemdnmfldihalaaGreatDoor.Lg
set_option linter.unusedVariables false
def NZ {α : Type} (r : Res α) : Prop := ∀ x,r = .error x → ¬ x = 0
theorem nz_and {α β : Type} {x : Res α} {f : α → List (List UInt8) → Res β} (h : NZ x) (h2 : ∀ a r,NZ (f a r)) : NZ (andT x f) := by
 intro y hy
 cases x with
 | error e => exact h y (by cases hy; rfl)
 | ok p => exact h2 p.1 p.2 y hy
theorem nz_ok {α : Type} (p : α × List (List UInt8)) : NZ (.ok p : Res α) := fun x h => by cases h
theorem nz_err {α : Type} {k : Int} (h : ¬ k = 0) : NZ (.error k : Res α) := fun x e => by cases e; exact h
theorem nz_if {α : Type} {p : Prop} [Decidable p] {a b : Res α} (ha : NZ a) (hb : NZ b) : NZ (if p then a else b) := by
 by_cases h : p
 ·rw [if_pos h]; exact ha
 ·rw [if_neg h]; exact hb
theorem nz_next (l : List (List UInt8)) : NZ (next l) := by
 cases l with
 | nil => exact nz_err (by decide)
 | cons a r => exact nz_ok _
theorem nz_want (x : List UInt8) (l : List (List UInt8)) : NZ (want x l) := nz_and (nz_next l) fun _ _ => nz_if (nz_ok _) (nz_err (by decide))
theorem nz_name (l : List (List UInt8)) : NZ (nameT l) := nz_and (nz_next l) fun _ _ => nz_if (nz_ok _) (nz_err (by decide))
theorem nz_head (k : List UInt8) (q : List (List UInt8)) : NZ (headT k q) := by
 unfold headT
 repeat (first | exact nz_ok _ | exact nz_err (by decide) | refine nz_if ?_ ?_ | refine nz_and (nz_name _) fun _ _ => ?_)
theorem nz_many {α : Type} {f : List (List UInt8) → Res α} (h : ∀ l,NZ (f l)) : ∀ (n : Nat) (l : List (List UInt8)),NZ (manyT f n l)
 | 0,l => nz_ok _
 | n + 1,l => nz_and (h l) fun _ r => nz_and (nz_many h n r) fun _ _ => nz_ok _
theorem nz_expr : ∀ (m : Nat) (l : List (List UInt8)),NZ (exprT m l)
 | 0,l => nz_err (by decide)
 | m + 1,l => by
  refine nz_and (nz_next l) fun _ _ => nz_if ?_ (nz_if (nz_ok _) (nz_if (nz_ok _) (nz_err (by decide))))
  exact nz_and (nz_next _) fun _ _ => nz_and (nz_head _ _) fun _ _ => nz_and (nz_many (nz_expr m) _ _) fun _ _ => nz_and (nz_want _ _) fun _ _ => nz_ok _
end Go.Proofs.YtemdnmfldihalaaGreatDoor.Lg
namespace Go.Proofs.YtemdnmfldihalaaGreatDoor.Lr
set_option linter.unusedVariables false
open Go.ChangeShapes Go.WideShapes Go.ChangeAt Go.RowKit Lg
theorem keep {p : Prop} (h : p) : Hid p := h
def first (e x : Int) : Int := if e = 0 then x else e
theorem skip_cons_yes {c : UInt8} {r : List UInt8} (h : Lg.blank c = true) : skip (c :: r) = skip r := by
 unfold skip; rw [List.dropWhile_cons,if_pos h]
theorem skip_cons_no {c : UInt8} {r : List UInt8} (h : Lg.blank c = false) : skip (c :: r) = c :: r := by
 unfold skip; rw [List.dropWhile_cons,if_neg (by simp [h])]
theorem cons_of (s : ByteArray) (h : 0 < s.size) : s.data.toList = s[0] :: s.data.toList.drop 1 := by
 have hl : s.data.toList.length = s.size := (Lib.size_eq s).symm
 cases hs : s.data.toList with
 | nil => rw [hs] at hl; simp at hl; omega
 | cons c r =>
  have := Lib.data_getElem? s 0 h
  rw [hs] at this
  simp at this
  rw [this]; rfl
theorem tw_at {p : UInt8 → Bool} : ∀ (l : List UInt8) (k : Nat),(∀ c ∈ l.take k,p c = true) → (k = l.length ∨ ∃ y,l[k]? = some y ∧ p y = false) → l.takeWhile p = l.take k
 | [],k,_,_ => by simp
 | c :: r,0,h,hk => by
  rcases hk with e | ⟨y,hy,hp⟩
  ·simp at e
  ·simp at hy
   rw [List.takeWhile_cons,hy,hp]; rfl
 | c :: r,k + 1,h,hk => by
  have hc := h c (by simp)
  rw [List.takeWhile_cons,if_pos hc,List.take_succ_cons,tw_at r k (fun x hx => h x (by simp [hx])) (by
   rcases hk with e | ⟨y,hy,hp⟩
   ·left; simpa using e
   ·right; exact ⟨y,by simpa using hy,hp⟩)]
theorem word_zero {l : List UInt8} {y : UInt8} (h : l[0]? = some y) (hs : stop y = true) : word l = l.take 1 := by
 unfold word
 rw [if_pos]
 rw [tw_at l 0 (by simp) (.inr ⟨y,h,by simp [hs]⟩)]; simp
theorem word_at {l : List UInt8} {k : Nat} (h1 : 1 ≤ k) (h2 : k ≤ l.length) (h : ∀ c ∈ l.take k,stop c = false) (hk : k = l.length ∨ ∃ y,l[k]? = some y ∧ stop y = true) : word l = l.take k := by
 have e : l.takeWhile (fun c => !stop c) = l.take k := tw_at l k (fun c hc => by simp [h c hc]) (by
  rcases hk with e | ⟨y,hy,hp⟩
  ·exact .inl e
  ·exact .inr ⟨y,hy,by simp [hp]⟩)
 unfold word
 rw [e,if_neg]
 intro hh
 have := congrArg List.length hh
 simp at this
 rcases this with e | e
 ·omega
 ·rw [e] at h2; simp at h2; omega
theorem stop_iff (y : UInt8) : stop y = true ↔ y = 32 ∨ y = 10 ∨ y = 40 ∨ y = 41 := by
 unfold stop Lg.blank brack
 simp only [Bool.or_eq_true,beq_iff_eq]
 constructor
 ·rintro ((h | h) | (h | h)) <;> simp [h]
 ·rintro (h | h | h | h) <;> simp [h]
theorem take_str (s : ByteArray) (k : Nat) : s.extract 0 k = ⟨(s.data.toList.take k).toArray⟩ := by
 rw [Lib.extract_eq]; simp
theorem first_ne {e x : Int} (h : ¬ e = 0) : first e x = e := if_neg h
theorem first_zero (x : Int) : first 0 x = x := if_pos rfl
theorem next_words (l : List UInt8) : next (words l) = if wd l = [] then .error 8 else .ok (wd l,words (rs l)) := by
 rw [words_step l]
 by_cases h : skip l = []
 ·rw [if_pos h,if_pos ((wd_none l).2 h)]; rfl
 ·rw [if_neg h,if_neg (fun hh => h ((wd_none l).1 hh))]; rfl
theorem size_mk (l : List UInt8) : (⟨l.toArray⟩ : ByteArray).size = l.length := by simp [ByteArray.size]
theorem rs_len (s : ByteArray) : (⟨(rs s.data.toList).toArray⟩ : ByteArray).size ≤ s.size := by
 have h1 : (rs s.data.toList).length ≤ s.data.toList.length := by
  unfold rs skip
  rw [List.length_drop]
  have := (List.dropWhile_sublist Lg.blank (l:=s.data.toList)).length_le
  omega
 rw [← Lib.size_eq] at h1
 rw [size_mk]; exact h1
theorem wd_len (s : ByteArray) : (wd s.data.toList).length ≤ s.size := by
 have h1 : (wd s.data.toList).length ≤ (skip s.data.toList).length := by
  unfold wd word
  split
  ·exact List.length_take_le' _ _
  ·exact (List.takeWhile_sublist _).length_le
 have h2 : (skip s.data.toList).length ≤ s.data.toList.length := (List.dropWhile_sublist Lg.blank (l:=s.data.toList)).length_le
 rw [← Lib.size_eq] at h2
 omega
end Go.Proofs.YtemdnmfldihalaaGreatDoor.Lr
namespace Go.Proofs.YtemdnmfldihalaaGreatDoor.Ord
open Go
def wpM (P : Program) (md : Region.Mode) (ops : Array Oper) (Q : Exit → Act → World → Prop) (S : World → Prop) (L : List Nat) : Nat → Array Bool → Act → World → Prop
 | 0,d,a,w => Region.ready md ops d = [] ∧ Q .normal a w
 | n + 1,d,a,w => (Region.ready md ops d = [] → Q .normal a w) ∧ ∀ i ∈ Region.ready md ops d,wpOp P ops Q i (fun a' w' => (L.contains i = true → S w') ∧ wpM P md ops Q S L n (d.setIfInBounds i true) a' w') a w
theorem wpM_any {P : Program} {md : Region.Mode} {ops : Array Oper} {Q : Exit → Act → World → Prop} {S : World → Prop} {L : List Nat} : ∀ (n : Nat) (d : Array Bool) (a : Act) (w : World),wpM P md ops Q S L n d a w → wpAny P md ops Q n d a w
 | 0,_,_,_,h => h
 | n + 1,_,_,_,h => ⟨h.1,fun i hi => wpOp_mono (fun a' w' k => wpM_any n _ a' w' k.2) (h.2 i hi)⟩
def ahead (md : Region.Mode) (ops : Array Oper) (L : List Nat) (d : Array Bool) (i : Nat) : Bool :=
 (List.range ops.size).all fun j => j == i || d.getD j true || L.contains j || match ops[j]? with
  | some oj => oj.after.any fun e => Region.binds md e && e.on == i
  | none => true
theorem ahead_spec {md : Region.Mode} {ops : Array Oper} {L : List Nat} {i j : Nat} {oj : Oper} {d : Array Bool} (h : ahead md ops L d i = true) (hj : ops[j]? = some oj) (hne : j ≠ i) (hun : d.getD j true = false) (hno : ∀ e ∈ oj.after,Region.binds md e = true → e.on ≠ i) : L.contains j = true := by
 unfold ahead at h
 have h1 := List.all_eq_true.1 h j (List.mem_range.2 (Array.getElem?_eq_some_iff.1 hj).1)
 rw [hj,hun,Bool.or_false,Bool.or_eq_true,Bool.or_eq_true] at h1
 rcases h1 with (h1 | h1) | h1
 ·exact absurd (beq_iff_eq.1 h1) hne
 ·exact h1
 ·obtain ⟨e,he,hb⟩ := Array.any_eq_true'.1 h1
  rw [Bool.and_eq_true] at hb
  exact absurd (beq_iff_eq.1 hb.2) (hno e he hb.1)
theorem ahead_set {md : Region.Mode} {ops : Array Oper} {L : List Nat} {i j : Nat} {d : Array Bool} (h : ahead md ops L d i = true) : ahead md ops L (d.setIfInBounds j true) i = true := by
 unfold ahead at h ⊢
 refine List.all_eq_true.2 fun k hk => ?_
 have h1 := List.all_eq_true.1 h k hk
 by_cases hjk : j = k
 ·subst hjk
  have : (d.setIfInBounds j true).getD j true = true := by
   by_cases hlt : j < d.size
   ·simp [Array.getD,hlt]
   ·simp [Array.getD,hlt]
  rw [this]; simp
 ·rw [getD_set_ne true hjk]; exact h1
theorem wpM_first {P : Program} {md : Region.Mode} {ops : Array Oper} {Q : Exit → Act → World → Prop} {S : World → Prop} {L : List Nat} {i : Nat} {oi : Oper} {v : Value} (hi : ops[i]? = some oi) (hsel : ∀ (j : Nat) (o : Oper) cs b,ops[j]? = some o → o.op ≠ .select cs b) (hQ : ∀ c a w,Q (.panic c) (a.put oi.dst v) w → Q (.panic c) a w) :
  ∀ (n : Nat) (d : Array Bool) (a : Act) (w : World),(∀ j oj,ops[j]? = some oj → j ≠ i → d.getD j true = false → (∀ e ∈ oj.after,Region.binds md e = true → e.on ≠ i) → oi.apart ops oj = true) → ahead md ops L d i = true →
   i ∈ Region.ready md ops d → YieldsIf P ops S oi v a → S w → wpM P md ops Q S L n (d.setIfInBounds i true) (a.put oi.dst v) w → wpM P md ops Q S L (n + 1) d a w
 | 0,d,a,w,_,_,hr,hy,hS,H => by
  refine ⟨fun h => (by rw [h] at hr; cases hr),fun j hj => ?_⟩
  by_cases e : j = i
  ·rw [e]; exact hy.wpOp hi hS ⟨fun _ => hS,H⟩
  ·have := ready_mono hj e
   rw [H.1] at this
   cases this
 | n + 1,d,a,w,hfree,hah,hr,hy,hS,H => by
  refine ⟨fun h => (by rw [h] at hr; cases hr),fun j hj => ?_⟩
  by_cases e : j = i
  ·rw [e]; exact hy.wpOp hi hS ⟨fun _ => hS,H⟩
  ·have h1 := H.2 j (ready_mono hj e)
   obtain ⟨hun,oj,hoj,hall⟩ := mem_ready.1 hj
   have hno : ∀ x ∈ oj.after,Region.binds md x = true → x.on ≠ i := fun x hx hb he => by
    have h2 := hall x hx hb
    have h3 := (mem_ready.1 hr).1
    rw [he] at h2
    rcases Nat.lt_or_ge i d.size with g | g
    ·simp [g] at h2 h3; rw [h3] at h2; cases h2
    ·simp [Array.getElem?_eq_none g] at h2
   have hL := ahead_spec hah hoj e hun hno
   have h2 := wpOp_putIf hoj (hfree j oj hoj e hun hno) (fun cs b => hsel i oi cs b hi) (fun cs b => hsel j oj cs b hoj) hQ hy h1
   refine wpOp_mono (fun a' w' k => ?_) h2
   refine ⟨k.2.1,wpM_first hi hsel hQ n (d.setIfInBounds j true) a' w' (fun q oq hq hqi hqu hqn => hfree q oq hq hqi ?_ hqn) (ahead_set hah) (ready_mono hr (Ne.symm e)) k.1 (k.2.1 hL) ?_⟩
   ·by_cases hjq : j = q
    ·rw [← hjq]; exact hun
    ·rw [getD_set_ne true hjq] at hqu; exact hqu
   ·rw [Array.setIfInBounds_comm _ _ e]; exact k.2.2
theorem wpM_take {P : Program} {md : Region.Mode} {ops : Array Oper} {Q : Exit → Act → World → Prop} {S : World → Prop} {L : List Nat} {i : Nat} {oi : Oper} {v : Value} {n : Nat} {d : Array Bool} {a : Act} {w : World} (hi : ops[i]? = some oi) (hs : Region.noSelect ops = true) (hf : Region.free md ops d i = true) (ha : ahead md ops L d i = true)
  (hr : (Region.ready md ops d).contains i = true) (hQ : ∀ c a w,Q (.panic c) (a.put oi.dst v) w → Q (.panic c) a w) (hy : YieldsIf P ops S oi v a) (hS : S w)
  (h : wpM P md ops Q S L n (d.setIfInBounds i true) (a.put oi.dst v) w) : wpM P md ops Q S L (n + 1) d a w :=
 wpM_first hi (Region.noSelect_spec hs) hQ n d a w (Region.free_spec hi hf) ha (by simpa using hr) hy hS h
theorem z {α : Type _} {x : α} {xs : List α} {a : α} : (x :: xs).set 0 a = a :: xs := List.set_cons_zero
theorem s {α : Type _} {x : α} {xs : List α} {n : Nat} {a : α} : (x :: xs).set (n + 1) a = x :: xs.set n a := List.set_cons_succ
theorem t {α : Type _} {l : List α} {i : Nat} {a : α} : l.toArray.setIfInBounds i a = (l.set i a).toArray := by simp
theorem tk {P : Program} {md : Region.Mode} {ops : Array Oper} {Q : Exit → Act → World → Prop} {S : World → Prop} {L : List Nat} {i : Nat} {oi : Oper} {v : Value} {n : Nat} {d : Array Bool} {a : Act} {w : World} (hi : ops[i]? = some oi := by simp only [List.getElem?_toArray,List.getElem?_cons_zero,List.getElem?_cons_succ]; rfl) (hs : Region.noSelect ops = true := by kernel_rfl) (hf : Region.free md ops d i = true := by kernel_rfl) (ha : ahead md ops L d i = true := by kernel_rfl)
  (hr : (Region.ready md ops d).contains i = true := by kernel_rfl) (hQ : ∀ c a w,Q (.panic c) (a.put oi.dst v) w → Q (.panic c) a w := by exact fun _ _ _ h => h) (hy : YieldsIf P ops S oi v a) (hS : S w)
  (h : wpM P md ops Q S L n (d.setIfInBounds i true) (a.put oi.dst v) w) : wpM P md ops Q S L (n + 1) d a w := wpM_take hi hs hf ha hr hQ hy hS h
theorem wpM_one {P : Program} {md : Region.Mode} {ops : Array Oper} {Q : Exit → Act → World → Prop} {S : World → Prop} {L : List Nat} {i : Nat} {o : Oper} {n : Nat} {d : Array Bool} {a : Act} {w : World} (hr : Region.ready md ops d = [i]) (ho : ops[i]? = some o)
  (h : ∀ K : Act → World → Prop,Shut (∀ a w,(L.contains i = true → S w) → wpM P md ops Q S L n (d.setIfInBounds i true) a w → K a w) → if Region.wanted o (yielded ops a.tmps) = true then Oper.wp P o a w K Q else K (a.put o.dst undef) w) : wpM P md ops Q S L (n + 1) d a w :=
 ⟨fun h0 => (by rw [hr] at h0; cases h0),fun j hj => by
  rw [hr,List.mem_singleton] at hj
  subst hj
  exact wpOp_step ho fun K hK => h K fun a w h1 h2 => hK a w ⟨h1,h2⟩⟩
theorem on {P : Program} {md : Region.Mode} {ops : Array Oper} {Q : Exit → Act → World → Prop} {S : World → Prop} {L : List Nat} {i : Nat} {o : Oper} {n : Nat} {d : Array Bool} {a : Act} {w : World} (hr : Region.ready md ops d = [i] := by kernel_rfl) (ho : ops[i]? = some o := by simp only [List.getElem?_toArray,List.getElem?_cons_zero,List.getElem?_cons_succ]; rfl)
  (h : ∀ K : Act → World → Prop,Shut (∀ a w,(L.contains i = true → S w) → wpM P md ops Q S L n (d.setIfInBounds i true) a w → K a w) → if Region.wanted o (yielded ops a.tmps) = true then Oper.wp P o a w K Q else K (a.put o.dst undef) w) : wpM P md ops Q S L (n + 1) d a w := wpM_one hr ho h
theorem wpM_two {P : Program} {md : Region.Mode} {ops : Array Oper} {Q : Exit → Act → World → Prop} {S : World → Prop} {L : List Nat} {i j : Nat} {oi oj : Oper} {n : Nat} {d : Array Bool} {a : Act} {w : World} (hr : Region.ready md ops d = [i,j]) (hi : ops[i]? = some oi) (hj : ops[j]? = some oj)
  (h : ∀ K : Act → World → Prop,Shut (∀ a w,(L.contains i = true → S w) → wpM P md ops Q S L n (d.setIfInBounds i true) a w → K a w) → if Region.wanted oi (yielded ops a.tmps) = true then Oper.wp P oi a w K Q else K (a.put oi.dst undef) w)
  (k : ∀ K : Act → World → Prop,Shut (∀ a w,(L.contains j = true → S w) → wpM P md ops Q S L n (d.setIfInBounds j true) a w → K a w) → if Region.wanted oj (yielded ops a.tmps) = true then Oper.wp P oj a w K Q else K (a.put oj.dst undef) w) : wpM P md ops Q S L (n + 1) d a w :=
 ⟨fun h0 => (by rw [hr] at h0; cases h0),fun x hx => by
  rw [hr,List.mem_cons,List.mem_singleton] at hx
  rcases hx with e | e
  ·subst e; exact wpOp_step hi fun K hK => h K fun a w h1 h2 => hK a w ⟨h1,h2⟩
  ·subst e; exact wpOp_step hj fun K hK => k K fun a w h1 h2 => hK a w ⟨h1,h2⟩⟩
theorem wpM_done {P : Program} {md : Region.Mode} {ops : Array Oper} {Q : Exit → Act → World → Prop} {S : World → Prop} {L : List Nat} {d : Array Bool} {a : Act} {w : World} (hr : Region.ready md ops d = []) (h : Q .normal a w) : ∀ n,wpM P md ops Q S L n d a w
 | 0 => ⟨hr,h⟩
 | _ + 1 => ⟨fun _ => h,by rw [hr]; simp⟩
theorem wpM_begin {P : Program} {ops : Array Oper} {Q : Exit → Act → World → Prop} {id : Nat} {a : Act} {w : World} (S : World → Prop) (L : List Nat) (hm : P.follows .mixedOrders = true) (h : wpM P .any ops Q S L ops.size (Array.replicate ops.size false) a w.drew) : (Code.region id ops true).wp P Q a w :=
 wp_region_any hm (wpM_any _ _ _ _ h)
end Go.Proofs.YtemdnmfldihalaaGreatDoor.Ord
namespace Go.Proofs.YtemdnmfldihalaaGreatDoor.Lr
set_option linter.unusedVariables false
set_option linter.unusedSimpArgs false
open Go.ChangeShapes Go.WideShapes Go.ChangeAt Go.RowKit Lg
def exA (e : Ex) (sl : Value) : Array Value := #[.int .i64 e.kind,.int .i64 e.n,.string ⟨e.name.toArray⟩,sl]
structure ExAt (w : World) (g k : Nat) (e : Ex) (sl : Value) : Prop where
 c0 : w.cell? ⟨g,k,none⟩ = some (.int .i64 e.kind)
 c1 : w.cell? ⟨g,k + 1,none⟩ = some (.int .i64 e.n)
 c2 : w.cell? ⟨g,k + 2,none⟩ = some (.string ⟨e.name.toArray⟩)
 c3 : w.cell? ⟨g,k + 3,none⟩ = some sl
def ExIs (w : World) (B : Nat) : Nat → Ex → Value → Prop
 | 0,_,_ => False
 | m + 1,e,sl => (e.args = [] ∧ sl = .slice none 0 0) ∨ ∃ (g o cap : Nat),sl = .slice (some ⟨g,o,none⟩) e.args.length cap ∧ e.args.length ≤ cap ∧ e.args.length ≤ 281474976710656 ∧ g < B ∧
   ∀ j a,e.args[j]? = some a → ∃ sl',ExAt w g (o + j * 4) a sl' ∧ ExIs w B m a sl'
theorem ExAt.below {w w' : World} {B g k : Nat} {e : Ex} {sl : Value} (h : ExAt w g k e sl) (hb : Below B w w') (hg : g < B) : ExAt w' g k e sl := by
 have key : ∀ i,w'.cell? ⟨g,i,none⟩ = w.cell? ⟨g,i,none⟩ := fun i => by
  unfold World.cell?; simp only [hb.block g hg]
 exact ⟨by rw [key]; exact h.c0,by rw [key]; exact h.c1,by rw [key]; exact h.c2,by rw [key]; exact h.c3⟩
theorem ExIs.below {w w' : World} {B : Nat} (hb : Below B w w') : ∀ {m : Nat} {e : Ex} {sl : Value},ExIs w B m e sl → ExIs w' B m e sl
 | 0,_,_,h => h
 | m + 1,e,sl,h => by
  rcases h with h | ⟨g,o,cap,h1,h2,h5,h3,h4⟩
  ·exact .inl h
  ·exact .inr ⟨g,o,cap,h1,h2,h5,h3,fun j a hj => by
    obtain ⟨sl',k1,k2⟩ := h4 j a hj
    exact ⟨sl',k1.below hb h3,k2.below hb⟩⟩
theorem ExIs.parts {w : World} {B m : Nat} {e : Ex} {sl : Value} (h : ExIs w B (m + 1) e sl) : ∃ (p : Option Addr) (n cap : Nat),sl = .slice p n cap ∧ e.args.length = n ∧ n ≤ cap ∧ n ≤ 281474976710656 ∧
  ∀ j a,e.args[j]? = some a → ∃ g o sl',p = some ⟨g,o,none⟩ ∧ g < B ∧ ExAt w g (o + j * 4) a sl' ∧ ExIs w B m a sl' := by
 rcases h with ⟨h1,h2⟩ | ⟨g,o,cap,h1,h2,h5,h3,h4⟩
 ·exact ⟨none,0,0,h2,by rw [h1]; rfl,Nat.le_refl _,by omega,fun j a hj => by rw [h1] at hj; simp at hj⟩
 ·exact ⟨some ⟨g,o,none⟩,_,cap,h1,rfl,h2,by omega,fun j a hj => by
   obtain ⟨sl',k1,k2⟩ := h4 j a hj
   exact ⟨g,o,sl',rfl,h3,k1,k2⟩⟩
theorem cell_below {w w' : World} {B g i : Nat} (hb : Below B w w') (hg : g < B) : w'.cell? ⟨g,i,none⟩ = w.cell? ⟨g,i,none⟩ := by
 unfold World.cell?; simp only [hb.block g hg]
theorem lt_of_cell {w : World} {g i : Nat} {v : Value} (h : w.cell? ⟨g,i,none⟩ = some v) : g < w.heap.size := by
 by_cases hg : g < w.heap.size
 ·exact hg
 ·unfold World.cell? at h
  simp only [Array.getElem?_eq_none (Nat.le_of_not_lt hg)] at h
  simp at h
theorem keep_cell {w w' : World} {g i : Nat} {v : Value} (hb : Below w.heap.size w w') (h : w.cell? ⟨g,i,none⟩ = some v) : w'.cell? ⟨g,i,none⟩ = some v := by
 rw [cell_below hb (lt_of_cell h)]; exact h
structure VrAt (w : World) (g k : Nat) (v : Vr) : Prop where
 c0 : w.cell? ⟨g,k,none⟩ = some (.string ⟨v.name.toArray⟩)
 c1 : w.cell? ⟨g,k + 1,none⟩ = some (.bool v.secret)
 c2 : w.cell? ⟨g,k + 2,none⟩ = some (.int .i64 v.size)
def VrIs (w : World) (B : Nat) (vs : List Vr) (sl : Value) : Prop := ∃ (p : Option Addr) (n cap : Nat),sl = .slice p n cap ∧ vs.length = n ∧ n ≤ cap ∧ n ≤ 281474976710656 ∧
  ∀ j v,vs[j]? = some v → ∃ g o,p = some ⟨g,o,none⟩ ∧ g < B ∧ VrAt w g (o + j * 3) v
theorem VrAt.below {w w' : World} {B g k : Nat} {v : Vr} (h : VrAt w g k v) (hb : Below B w w') (hg : g < B) : VrAt w' g k v :=
 ⟨by rw [cell_below hb hg]; exact h.c0,by rw [cell_below hb hg]; exact h.c1,by rw [cell_below hb hg]; exact h.c2⟩
theorem VrIs.below {w w' : World} {B : Nat} {vs : List Vr} {sl : Value} (hb : Below B w w') (h : VrIs w B vs sl) : VrIs w' B vs sl := by
 obtain ⟨p,n,cap,h1,h2,h3,h4,h5⟩ := h
 exact ⟨p,n,cap,h1,h2,h3,h4,fun j v hj => by
  obtain ⟨g,o,k1,k2,k3⟩ := h5 j v hj
  exact ⟨g,o,k1,k2,k3.below hb k2⟩⟩
def BD (w w' : World) : Prop := ∃ v : World,Below w.heap.size w v ∧ w'.heap = v.heap ∧ w'.os = v.os ∧ w'.tape = v.tape ∧ w'.output = v.output
theorem BD.out {w w' : World} (h : BD w w') : Below w.heap.size w w' := by
 obtain ⟨v,h1,e1,e2,e3,e4⟩ := h
 exact ⟨e2.trans h1.os,e3.trans h1.tape,e4.trans h1.output,by rw [e1]; exact h1.size,fun k hk => by rw [e1]; exact h1.block k hk⟩
structure StAt (w : World) (g k : Nat) (t : St) (s1 s2 s3 : Value) : Prop where
 c0 : w.cell? ⟨g,k,none⟩ = some (.int .i64 t.kind)
 c1 : w.cell? ⟨g,k + 1,none⟩ = some (.int .i64 t.n)
 c2 : w.cell? ⟨g,k + 2,none⟩ = some (.string ⟨t.name.toArray⟩)
 c3 : w.cell? ⟨g,k + 3,none⟩ = some (.bool t.secret)
 c4 : w.cell? ⟨g,k + 4,none⟩ = some s1
 c5 : w.cell? ⟨g,k + 5,none⟩ = some s2
 c6 : w.cell? ⟨g,k + 6,none⟩ = some s3
def ar (l : List Ex) : Ex := ⟨0,0,[],l⟩
def StIs (w : World) (B e : Nat) : Nat → List St → Value → Prop
 | 0,_,_ => False
 | m + 1,l,sl => ∃ (p : Option Addr) (n cap : Nat),sl = .slice p n cap ∧ l.length = n ∧ n ≤ cap ∧ n ≤ 281474976710656 ∧
   ∀ j t,l[j]? = some t → ∃ g o s1 s2 s3,p = some ⟨g,o,none⟩ ∧ g < B ∧ StAt w g (o + j * 7) t s1 s2 s3 ∧ ExIs w B (e + 1) (ar t.args) s1 ∧ StIs w B e m t.thn s2 ∧ StIs w B e m t.els s3
theorem StAt.below {w w' : World} {B g k : Nat} {t : St} {s1 s2 s3 : Value} (h : StAt w g k t s1 s2 s3) (hb : Below B w w') (hg : g < B) : StAt w' g k t s1 s2 s3 :=
 ⟨by rw [cell_below hb hg]; exact h.c0,by rw [cell_below hb hg]; exact h.c1,by rw [cell_below hb hg]; exact h.c2,by rw [cell_below hb hg]; exact h.c3,by rw [cell_below hb hg]; exact h.c4,by rw [cell_below hb hg]; exact h.c5,by rw [cell_below hb hg]; exact h.c6⟩
theorem StIs.below {w w' : World} {B e : Nat} (hb : Below B w w') : ∀ {m : Nat} {l : List St} {sl : Value},StIs w B e m l sl → StIs w' B e m l sl
 | 0,_,_,h => h
 | m + 1,l,sl,h => by
  obtain ⟨p,n,cap,h1,h2,h3,h4,h5⟩ := h
  exact ⟨p,n,cap,h1,h2,h3,h4,fun j t hj => by
   obtain ⟨g,o,s1,s2,s3,k1,k2,k3,k4,k5,k6⟩ := h5 j t hj
   exact ⟨g,o,s1,s2,s3,k1,k2,k3.below hb k2,k4.below hb,k5.below hb,k6.below hb⟩⟩
theorem StIs.slice {w : World} {B e : Nat} : ∀ {m : Nat} {l : List St} {sl : Value},StIs w B e m l sl → ∃ p n cap,sl = .slice p n cap
 | 0,_,_,h => h.elim
 | _ + 1,_,_,h => by
  obtain ⟨p,n,cap,h1,_⟩ := h
  exact ⟨p,n,cap,h1⟩
def FnIs (w : World) (B e m : Nat) (f : Lg.Fn) (v : Value) : Prop := ∃ s1 s2 s3,v = .agg #[s1,s2,s3] ∧ VrIs w B f.params s1 ∧ VrIs w B f.arrays s2 ∧ StIs w B e m f.body s3
theorem FnIs.below {w w' : World} {B e m : Nat} {f : Lg.Fn} {v : Value} (hb : Below B w w') (h : FnIs w B e m f v) : FnIs w' B e m f v := by
 obtain ⟨s1,s2,s3,h0,h1,h2,h3⟩ := h
 exact ⟨s1,s2,s3,h0,h1.below hb,h2.below hb,h3.below hb⟩
theorem VrIs.slice {w : World} {B : Nat} {l : List Vr} {sl : Value} (h : VrIs w B l sl) : ∃ p n cap,sl = .slice p n cap := by
 obtain ⟨p,n,cap,h1,_⟩ := h
 exact ⟨p,n,cap,h1⟩
structure Fs (l : List Nat) (w w' : World) : Prop where
 os : w'.os = w.os
 tape : w'.tape = w.tape
 output : w'.output = w.output
 size : w.heap.size ≤ w'.heap.size
 block : ∀ k,k < w.heap.size → k ∉ l → w'.heap[k]? = w.heap[k]?
theorem Fs.refl (l : List Nat) (w : World) : Fs l w w := ⟨rfl,rfl,rfl,Nat.le_refl _,fun _ _ _ => rfl⟩
theorem Fs.trans {l : List Nat} {u v w : World} (h : Fs l u v) (k : Fs l v w) : Fs l u w :=
 ⟨k.os.trans h.os,k.tape.trans h.tape,k.output.trans h.output,Nat.le_trans h.size k.size,fun i hi hb => (k.block i (Nat.lt_of_lt_of_le hi h.size) hb).trans (h.block i hi hb)⟩
theorem Fs.of_below {l : List Nat} {w w' : World} (h : Below w.heap.size w w') : Fs l w w' := ⟨h.os,h.tape,h.output,h.size,fun k hk _ => h.block k hk⟩
theorem Fs.mono {l m : List Nat} {w w' : World} (h : Fs l w w') (hl : ∀ k ∈ l,k ∈ m) : Fs m w w' := ⟨h.os,h.tape,h.output,h.size,fun k hk hm => h.block k hk (fun hx => hm (hl k hx))⟩
theorem Fs.set {l : List Nat} {w w' : World} (h : Fs l w w') {b : Nat} (hb : b ∈ l) (k : Nat) (v : Value) : Fs l w (w'.setCell ⟨b,k,none⟩ v) :=
 ⟨h.os,h.tape,h.output,by rw [show (w'.setCell ⟨b,k,none⟩ v).heap.size = w'.heap.size by simp [World.setCell]]; exact h.size,fun i hi hl => by
  have hne : i ≠ b := fun e => hl (by rw [e]; exact hb)
  rw [Below.heap_setCell _ _ _ _ hne]; exact h.block i hi hl⟩
theorem Fs.below {l : List Nat} {B : Nat} {w w' : World} (h : Fs l w w') (hB : B ≤ w.heap.size) (hl : ∀ k ∈ l,B ≤ k) : Below B w w' :=
 ⟨h.os,h.tape,h.output,h.size,fun k hk => h.block k (by omega) (fun hx => by have := hl k hx; omega)⟩
structure Fh (B : Nat) (l : List Nat) (w w' : World) : Prop where
 os : w'.os = w.os
 tape : w'.tape = w.tape
 output : w'.output = w.output
 size : w.heap.size ≤ w'.heap.size
 block : ∀ k,k < B → k ∉ l → w'.heap[k]? = w.heap[k]?
theorem Fh.refl (B : Nat) (l : List Nat) (w : World) : Fh B l w w := ⟨rfl,rfl,rfl,Nat.le_refl _,fun _ _ _ => rfl⟩
theorem Fh.trans {B : Nat} {l : List Nat} {u v w : World} (h : Fh B l u v) (k : Fh B l v w) : Fh B l u w :=
 ⟨k.os.trans h.os,k.tape.trans h.tape,k.output.trans h.output,Nat.le_trans h.size k.size,fun i hi hb => (k.block i hi hb).trans (h.block i hi hb)⟩
theorem Fs.fh {B : Nat} {l : List Nat} {w w' : World} (h : Fs l w w') (hB : B ≤ w.heap.size) : Fh B l w w' := ⟨h.os,h.tape,h.output,h.size,fun k hk hl => h.block k (by omega) hl⟩
theorem Fh.fs {l : List Nat} {w w' : World} (h : Fh w.heap.size l w w') : Fs l w w' := ⟨h.os,h.tape,h.output,h.size,h.block⟩
theorem Fh.mono {B C : Nat} {l : List Nat} {w w' : World} (h : Fh B l w w') (hC : C ≤ B) : Fh C l w w' := ⟨h.os,h.tape,h.output,h.size,fun k hk hl => h.block k (by omega) hl⟩
def pre {α : Type} (us : List α) : Res (List α) → Res (List α)
 | .error e => .error e
 | .ok (bs,q) => .ok (us ++ bs,q)
theorem pre_nil {α : Type} (x : Res (List α)) : x = pre [] x := by cases x <;> rfl
theorem pre_pre {α : Type} (us bs : List α) (x : Res (List α)) : pre us (pre bs x) = pre (us ++ bs) x := by
 cases x with
 | error e => rfl
 | ok p => simp [pre]
theorem many_bad {α : Type} {f : List (List UInt8) → Res α} (n : Nat) {r : List (List UInt8)} {x : Int} (h : f r = .error x) : manyT f (n + 1) r = .error x := by rw [manyT,h]; rfl
theorem many_part {α : Type} {f : List (List UInt8) → Res α} (n : Nat) {r q : List (List UInt8)} {a : α} (h : f r = .ok (a,q)) : manyT f (n + 1) r = pre [a] (manyT f n q) := by
 rw [manyT,h,andT_ok]
 cases manyT f n q <;> rfl
def New (w w' : World) : Nat → Prop := fun i => w.heap.size ≤ i ∧ i < w'.heap.size
theorem new_cell (w : World) (l : List Value) (ty : TypeId) (j : Nat) (u : Value) (h : l[j]? = some u) : (w.alloc (.cells l.toArray ty)).cell? ((⟨w.heap.size,0,none⟩ : Addr).add j) = some u := by
 have he : (⟨w.heap.size,0,none⟩ : Addr).add j = ⟨w.heap.size,j,none⟩ := by
  simp [Addr.add]
  intro h; omega
 rw [he,Lib.cell_of_heap (MapKept.heap_alloc w (.cells l.toArray ty)).1]
 rw [List.getElem?_toArray]; exact h
def Bk (w : World) (k : Nat) (l : List Value) (ty : TypeId) : Prop := w.heap[k]? = some (.cells l.toArray ty (0,0))
theorem Bk.cell {w : World} {k : Nat} {l : List Value} {ty : TypeId} (h : Bk w k l ty) (i : Nat) {u : Value} (hu : l[i]? = some u) : w.cell? ⟨k,i,none⟩ = some u := by
 rw [Lib.cell_of_heap h,List.getElem?_toArray]; exact hu
theorem Bk.fr {w : World} {k : Nat} {l : List Value} {ty : TypeId} (h : Bk w k l ty) (i : Nat) : w.frozen? ⟨k,i,none⟩ = false := Lib.frozen_of_heap h i
theorem Bk.lt {w : World} {k : Nat} {l : List Value} {ty : TypeId} (h : Bk w k l ty) : k < w.heap.size := (Array.getElem?_eq_some_iff.1 h).1
theorem Bk.set {w : World} {k : Nat} {l : List Value} {ty : TypeId} (h : Bk w k l ty) (i : Nat) (v : Value) : Bk (w.setCell ⟨k,i,none⟩ v) k (l.set i v) ty := by
 unfold Bk at h ⊢
 simp [World.setCell,Array.getElem?_modify,h]
theorem Bk.far {w : World} {k j : Nat} {l : List Value} {ty : TypeId} (h : Bk w k l ty) (i : Nat) (v : Value) (hne : k ≠ j) : Bk (w.setCell ⟨j,i,none⟩ v) k l ty := by
 unfold Bk at h ⊢
 rw [Below.heap_setCell _ _ _ _ hne]; exact h
theorem Bk.fs {w w' : World} {k : Nat} {l : List Value} {ty : TypeId} {m : List Nat} (h : Bk w k l ty) (hf : Fs m w w') (hk : k ∉ m) : Bk w' k l ty := by
 unfold Bk at h ⊢
 rw [hf.block k (Array.getElem?_eq_some_iff.1 h).1 hk]; exact h
theorem Bk.new (w : World) (l : List Value) (ty : TypeId) : Bk (w.alloc (.cells l.toArray ty)) w.heap.size l ty := (MapKept.heap_alloc w (.cells l.toArray ty)).1
theorem Bk.up {w : World} {k : Nat} {l : List Value} {ty : TypeId} (h : Bk w k l ty) (o : Obj) : Bk (w.alloc o) k l ty := h.fs (Fs.of_below (l:=[]) ((Below.refl _ _).alloc (Nat.le_refl _) o)) (by simp)
theorem Fs.up {l : List Nat} {w w' : World} (h : Fs l w w') (o : Obj) : Fs l w (w'.alloc o) := h.trans (Fs.of_below ((Below.refl _ _).alloc (Nat.le_refl _) o))
theorem Fs.row {l : List Nat} {w w' : World} (h : Fs l w w') {D : Nat} (hD : w.heap.size ≤ D) (cs : Array Value) : Fs l w (w'.setRow D cs) :=
 ⟨h.os,h.tape,h.output,by simp; exact h.size,fun k hk hl => by rw [setRow_other _ _ _ _ (by omega)]; exact h.block k hk hl⟩
theorem info_E (l : List Value) (h : l.length = 4) : (Tryz.prog.info? 93).map (·.size) = some l.toArray.size := by
 rw [List.size_toArray,h]; kernel_rfl
end Go.Proofs.YtemdnmfldihalaaGreatDoor.Lr
