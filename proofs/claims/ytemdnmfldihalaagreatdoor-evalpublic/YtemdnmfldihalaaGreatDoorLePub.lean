/- What comes of a program, in plain words: it is never too much; what is public does not hang on what is secret. No Go in it. -/
import Derived.Test.YtemdnmfldihalaaGreatDoorGr4
namespace Go.Proofs.YtemdnmfldihalaaGreatDoor.Lg
set_option linter.unusedVariables false
set_option linter.unusedSimpArgs false
def LkE : List Nm → Env → Env → Prop
 | [],[],[] => True
 | v :: ns,p :: a,q :: b => p.1 = v.name ∧ q.1 = v.name ∧ (v.secret = false → p.2 = q.2) ∧ LkE ns a b
 | _,_,_ => False
def LkA : List Vr → List (List Int) → List (List Int) → Prop
 | [],[],[] => True
 | v :: rs,p :: a,q :: b => ((p.length : Int) = v.size ∧ (q.length : Int) = v.size ∧ (v.secret = false → p = q)) ∧ LkA rs a b
 | _,_,_ => False
theorem LkE.symm : ∀ {ns : List Nm} {a b : Env},LkE ns a b → LkE ns b a
 | [],[],[],_ => trivial
 | v :: ns,p :: a,q :: b,⟨h1,h2,h3,h4⟩ => ⟨h2,h1,fun h => (h3 h).symm,h4.symm⟩
theorem LkE.trans : ∀ {ns : List Nm} {a b c : Env},LkE ns a b → LkE ns b c → LkE ns a c
 | [],[],[],[],_,_ => trivial
 | v :: ns,p :: a,q :: b,r :: c,⟨h1,h2,h3,h4⟩,⟨k1,k2,k3,k4⟩ => ⟨h1,k2,fun h => (h3 h).trans (k3 h),h4.trans k4⟩
theorem LkA.symm : ∀ {rs : List Vr} {a b : List (List Int)},LkA rs a b → LkA rs b a
 | [],[],[],_ => trivial
 | v :: ns,p :: a,q :: b,⟨⟨h1,h2,h3⟩,h4⟩ => ⟨⟨h2,h1,fun h => (h3 h).symm⟩,h4.symm⟩
theorem LkA.trans : ∀ {rs : List Vr} {a b c : List (List Int)},LkA rs a b → LkA rs b c → LkA rs a c
 | [],[],[],[],_,_ => trivial
 | v :: ns,p :: a,q :: b,r :: c,⟨⟨h1,h2,h3⟩,h4⟩,⟨⟨k1,k2,k3⟩,k4⟩ => ⟨⟨h1,k2,fun h => (h3 h).trans (k3 h)⟩,h4.trans k4⟩
theorem LkE.len : ∀ {ns : List Nm} {a b : Env},LkE ns a b → a.length = ns.length ∧ b.length = ns.length
 | [],[],[],_ => ⟨rfl,rfl⟩
 | v :: ns,p :: a,q :: b,⟨_,_,_,h⟩ => ⟨congrArg (· + 1) h.len.1,congrArg (· + 1) h.len.2⟩
theorem LkE.snoc {v : Nm} {x y : Int} (hxy : v.secret = false → x = y) : ∀ {ns : List Nm} {a b : Env},LkE ns a b → LkE (ns ++ [v]) (a ++ [(v.name,x)]) (b ++ [(v.name,y)])
 | [],[],[],_ => ⟨rfl,rfl,hxy,trivial⟩
 | u :: ns,p :: a,q :: b,⟨h1,h2,h3,h4⟩ => ⟨h1,h2,h3,LkE.snoc hxy h4⟩
theorem LkE.take : ∀ {ns ex : List Nm} {a b : Env},LkE (ns ++ ex) a b → LkE ns (a.take ns.length) (b.take ns.length)
 | [],ex,a,b,_ => by simp [LkE]
 | u :: ns,ex,p :: a,q :: b,⟨h1,h2,h3,h4⟩ => ⟨h1,h2,h3,LkE.take h4⟩
theorem LkE.look {x : List UInt8} {v : Nm} : ∀ {ns : List Nm} {a b : Env},LkE ns a b → byN ns x = some v → v.secret = false → lookE a x = lookE b x
 | [],[],[],_,h,_ => by cases h
 | u :: ns,p :: a,q :: b,⟨h1,h2,h3,h4⟩,h,hs => by
  unfold byN at h
  rw [List.find?_cons] at h
  unfold lookE
  rw [List.find?_cons,List.find?_cons,h1,h2]
  cases hx : u.name == x with
  | true =>
   rw [hx] at h
   cases h
   exact h3 hs
  | false =>
   rw [hx] at h
   exact LkE.look h4 h hs
theorem LkE.set {x : List UInt8} {v : Nm} {y z : Int} (hyz : v.secret = false → y = z) : ∀ {ns : List Nm} {a b : Env},LkE ns a b → byN ns x = some v → LkE ns (setE a x y) (setE b x z)
 | [],[],[],_,h => by cases h
 | u :: ns,p :: a,q :: b,⟨h1,h2,h3,h4⟩,h => by
  unfold byN at h
  rw [List.find?_cons] at h
  rw [setE,setE,h1,h2]
  cases hx : u.name == x with
  | true =>
   rw [hx] at h
   cases h
   exact ⟨rfl,rfl,hyz,h4⟩
  | false =>
   rw [hx] at h
   exact ⟨h1,h2,h3,LkE.set hyz h4 h⟩
theorem LkE.dark {x : List UInt8} {v : Nm} {y : Int} (hv : v.secret = true) : ∀ {ns : List Nm} {a b : Env},LkE ns a b → byN ns x = some v → LkE ns (setE a x y) b
 | [],[],[],_,h => by cases h
 | u :: ns,p :: a,q :: b,⟨h1,h2,h3,h4⟩,h => by
  unfold byN at h
  rw [List.find?_cons] at h
  rw [setE,h1]
  cases hx : u.name == x with
  | true =>
   rw [hx] at h
   cases h
   exact ⟨rfl,h2,fun hs => (by rw [hv] at hs; cases hs),h4⟩
  | false =>
   rw [hx] at h
   exact ⟨h1,h2,h3,LkE.dark hv h4 h⟩
theorem atV_cons (v : Vr) (rs : List Vr) (x : List UInt8) : atV (v :: rs) x = if v.name == x then some 0 else (atV rs x).map (· + 1) := by
 unfold atV
 rw [List.findIdx?_cons]
theorem row_cons (v : Vr) (rs : List Vr) (p : List Int) (a : List (List Int)) (x : List UInt8) : rowOf (v :: rs) (p :: a) x = if v.name == x then p else rowOf rs a x := by
 unfold rowOf
 rw [atV_cons]
 cases v.name == x with
 | true => rfl
 | false =>
  cases atV rs x with
  | none => rfl
  | some i => rfl
theorem put_cons (v : Vr) (rs : List Vr) (p : List Int) (a : List (List Int)) (x : List UInt8) (i : Nat) (y : Int) : putA (v :: rs) (p :: a) x i y = if v.name == x then p.set i y :: a else p :: putA rs a x i y := by
 unfold putA
 rw [atV_cons]
 cases v.name == x with
 | true => rfl
 | false =>
  cases atV rs x with
  | none => rfl
  | some i => rfl
theorem LkA.row {x : List UInt8} {v : Vr} : ∀ {rs : List Vr} {a b : List (List Int)},LkA rs a b → byV rs x = some v → ((rowOf rs a x).length : Int) = v.size ∧ ((rowOf rs b x).length : Int) = v.size ∧ (v.secret = false → rowOf rs a x = rowOf rs b x)
 | [],[],[],_,h => by cases h
 | u :: rs,p :: a,q :: b,⟨h1,h2⟩,h => by
  unfold byV at h
  rw [List.find?_cons] at h
  rw [row_cons,row_cons]
  cases hx : u.name == x with
  | true =>
   rw [hx] at h
   cases h
   exact h1
  | false =>
   rw [hx] at h
   exact LkA.row h2 h
theorem LkA.put {x : List UInt8} {v : Vr} {i : Nat} {y z : Int} (hyz : v.secret = false → y = z) : ∀ {rs : List Vr} {a b : List (List Int)},LkA rs a b → byV rs x = some v → LkA rs (putA rs a x i y) (putA rs b x i z)
 | [],[],[],_,h => by cases h
 | u :: rs,p :: a,q :: b,⟨h1,h2⟩,h => by
  unfold byV at h
  rw [List.find?_cons] at h
  rw [put_cons,put_cons]
  cases hx : u.name == x with
  | true =>
   rw [hx] at h
   cases h
   exact ⟨⟨by rw [List.length_set]; exact h1.1,by rw [List.length_set]; exact h1.2.1,fun hs => by rw [h1.2.2 hs,hyz hs]⟩,h2⟩
  | false =>
   rw [hx] at h
   exact ⟨h1,LkA.put hyz h2 h⟩
theorem LkA.dark {x : List UInt8} {v : Vr} {i : Nat} {y : Int} (hv : v.secret = true) : ∀ {rs : List Vr} {a b : List (List Int)},LkA rs a b → byV rs x = some v → LkA rs (putA rs a x i y) b
 | [],[],[],_,h => by cases h
 | u :: rs,p :: a,q :: b,⟨h1,h2⟩,h => by
  unfold byV at h
  rw [List.find?_cons] at h
  rw [put_cons]
  cases hx : u.name == x with
  | true =>
   rw [hx] at h
   cases h
   exact ⟨⟨by rw [List.length_set]; exact h1.1,h1.2.1,fun hs => (by rw [hv] at hs; cases hs)⟩,h2⟩
  | false =>
   rw [hx] at h
   exact ⟨h1,LkA.dark hv h2 h⟩
def Both {α : Type} (x y : Option α) (p : α → α → Prop) : Prop := (x = none ∧ y = none) ∨ ∃ a b,x = some a ∧ y = some b ∧ p a b
theorem args_both {g : Ex → Except Int Bool} {f1 f2 : Ex → Option Int} : ∀ {l : List Ex} {s0 lab : Bool},(∀ e ∈ l,∀ s,g e = .ok s → Both (f1 e) (f2 e) fun a b => s = false → a = b) → argsK g l s0 = .ok lab → Both (allE f1 l) (allE f2 l) fun vs us => (lab = false → vs = us) ∧ (lab = false → s0 = false)
 | [],s0,lab,_,h => by cases h; exact .inr ⟨[],[],rfl,rfl,fun _ => rfl,fun h => h⟩
 | e :: l,s0,lab,hf,h => by
  rw [argsK] at h
  obtain ⟨s,hs,h⟩ := thenK_inv h
  rw [allE,allE]
  rcases hf e (by simp) s hs with ⟨h1,h2⟩ | ⟨a,b,h1,h2,h3⟩
  ·rw [h1,h2]; exact .inl ⟨rfl,rfl⟩
  ·rw [h1,h2]
   dsimp only
   rcases args_both (fun e he => hf e (by simp [he])) h with ⟨k1,k2⟩ | ⟨vs,us,k1,k2,k3,k4⟩
   ·rw [k1,k2]; exact .inl ⟨rfl,rfl⟩
   ·rw [k1,k2]
    refine .inr ⟨_,_,rfl,rfl,fun hl => ?_,fun hl => ?_⟩
    ·have := k4 hl
     rw [Bool.or_eq_false_iff] at this
     rw [h3 this.1,k3 hl]
    ·have := k4 hl
     rw [Bool.or_eq_false_iff] at this
     exact this.2
theorem place_inv {rs : List Vr} {dark s to : Bool} {x : List UInt8} {p : Ex} (h : placeK rs dark x p s = .ok to) : ∃ v,byV rs x = some v ∧ s = false ∧ to = v.secret ∧ (dark = true → p.kind = 1 ∧ p.n < v.size) := by
 unfold placeK at h
 cases hb : byV rs x with
 | none => rw [hb] at h; cases h
 | some v =>
  rw [hb] at h
  dsimp only at h
  split at h
  ·cases h
  ·rename_i hc
   cases h
   simp only [Bool.or_eq_true,Bool.and_eq_true,Bool.not_eq_true',not_or,not_and,Bool.not_eq_true] at hc
   refine ⟨v,rfl,hc.1,rfl,fun hd => ?_⟩
   have := hc.2 hd
   simpa using this
theorem evE_both {rs : List Vr} {ns : List Nm} {dark : Bool} {e1 e2 : Env} {a1 a2 : List (List Int)} (hE : LkE ns e1 e2) (hA : LkA rs a1 a2) : ∀ (m : Nat) (e : Ex),wfE m e → ∀ s,exprK rs ns dark m e = .ok s → Both (evE rs e1 a1 m e) (evE rs e2 a2 m e) fun a b => s = false → a = b
 | 0,e,hw,s,h => hw.elim
 | m + 1,e,hw,s,h => by
  rw [exprK] at h
  rw [evE,evE]
  by_cases k1 : e.kind = 1
  ·rw [if_pos k1,if_pos k1]; exact .inr ⟨_,_,rfl,rfl,fun _ => rfl⟩
  rw [if_neg k1] at h
  rw [if_neg k1,if_neg k1]
  by_cases k2 : e.kind = 2
  ·rw [if_pos k2] at h
   rw [if_pos k2,if_pos k2]
   cases hb : byN ns e.name with
   | none => rw [hb] at h; cases h
   | some v =>
    rw [hb] at h
    cases h
    exact .inr ⟨_,_,rfl,rfl,fun hs => hE.look hb hs⟩
  rw [if_neg k2] at h
  rw [if_neg k2,if_neg k2]
  have hrec := fun a (ha : a ∈ e.args) => evE_both (dark:=dark) hE hA m a (wfE_args hw a ha)
  by_cases k5 : e.kind = 5
  ·rw [if_pos k5] at h
   have hk4 : ¬ e.kind = 4 := by rw [k5]; decide
   rcases hw with ⟨h1,_⟩ | ⟨h1,_⟩ | ⟨h1,_⟩ | ⟨h1,_⟩ | ⟨_,_,_,hlen,_⟩
   ·exact absurd h1 k1
   ·exact absurd h1 k2
   ·rw [h1] at k5; exact absurd k5 (by decide)
   ·exact absurd h1 hk4
   obtain ⟨p,hp⟩ := List.length_eq_one_iff.1 hlen
   rw [hp] at h hrec
   rw [hp,allE,allE,allE,allE]
   dsimp only at h
   obtain ⟨s1,hs1,h⟩ := thenK_inv h
   obtain ⟨v,hv,rfl,rfl,_⟩ := place_inv h
   obtain ⟨r1,r2,r3⟩ := hA.row hv
   rcases hrec p (by simp) false hs1 with ⟨h1,h2⟩ | ⟨a,b,h1,h2,h3⟩
   ·rw [h1,h2]; exact .inl ⟨rfl,rfl⟩
   ·have hab := h3 rfl
    subst hab
    rw [h1,h2]
    dsimp only
    rw [if_neg hk4,if_neg hk4,if_pos k5,if_pos k5]
    have hn : nth [a] 0 = a := rfl
    rw [hn]
    by_cases hlt : a < v.size
    ·rw [if_pos (by rw [r1]; exact hlt),if_pos (by rw [r2]; exact hlt)]
     exact .inr ⟨_,_,rfl,rfl,fun hs => by rw [r3 hs]⟩
    ·rw [if_neg (by rw [r1]; exact hlt),if_neg (by rw [r2]; exact hlt)]
     exact .inl ⟨rfl,rfl⟩
  ·rw [if_neg k5] at h
   rcases args_both hrec h with ⟨h1,h2⟩ | ⟨vs,us,h1,h2,h3,_⟩
   ·rw [h1,h2]; exact .inl ⟨rfl,rfl⟩
   ·rw [h1,h2]
    dsimp only
    by_cases k4 : e.kind = 4
    ·rw [if_pos k4,if_pos k4]
     exact .inr ⟨_,_,rfl,rfl,fun hs => by rw [h3 hs]⟩
    ·rw [if_neg k4,if_neg k4,if_neg k5,if_neg k5]
     exact .inr ⟨_,_,rfl,rfl,fun hs => by rw [h3 hs]⟩
theorem args_some {g : Ex → Except Int Bool} {f : Ex → Option Int} : ∀ {l : List Ex} {s0 lab : Bool},(∀ e ∈ l,∀ s,g e = .ok s → ∃ a,f e = some a) → argsK g l s0 = .ok lab → ∃ vs,allE f l = some vs
 | [],s0,lab,_,h => ⟨[],rfl⟩
 | e :: l,s0,lab,hf,h => by
  rw [argsK] at h
  obtain ⟨s,hs,h⟩ := thenK_inv h
  obtain ⟨a,ha⟩ := hf e (by simp) s hs
  obtain ⟨vs,hvs⟩ := args_some (fun e he => hf e (by simp [he])) h
  exact ⟨a :: vs,by rw [allE,ha,hvs]⟩
theorem evE_dark {rs : List Vr} {ns : List Nm} {env : Env} {arr arr2 : List (List Int)} (hA : LkA rs arr arr2) : ∀ (m : Nat) (e : Ex),wfE m e → ∀ s,exprK rs ns true m e = .ok s → ∃ a,evE rs env arr m e = some a
 | 0,e,hw,s,h => hw.elim
 | m + 1,e,hw,s,h => by
  rw [exprK] at h
  rw [evE]
  by_cases k1 : e.kind = 1
  ·rw [if_pos k1]; exact ⟨_,rfl⟩
  rw [if_neg k1] at h
  rw [if_neg k1]
  by_cases k2 : e.kind = 2
  ·rw [if_pos k2]; exact ⟨_,rfl⟩
  rw [if_neg k2] at h
  rw [if_neg k2]
  have hrec := fun a (ha : a ∈ e.args) => evE_dark (ns:=ns) (env:=env) hA m a (wfE_args hw a ha)
  by_cases k5 : e.kind = 5
  ·rw [if_pos k5] at h
   have hk4 : ¬ e.kind = 4 := by rw [k5]; decide
   have hwa := wfE_args hw
   rcases hw with ⟨h1,_⟩ | ⟨h1,_⟩ | ⟨h1,_⟩ | ⟨h1,_⟩ | ⟨_,_,_,hlen,_⟩
   ·exact absurd h1 k1
   ·exact absurd h1 k2
   ·rw [h1] at k5; exact absurd k5 (by decide)
   ·exact absurd h1 hk4
   obtain ⟨p,hp⟩ := List.length_eq_one_iff.1 hlen
   rw [hp] at h hrec hwa
   rw [hp,allE,allE]
   dsimp only at h
   obtain ⟨s1,hs1,h⟩ := thenK_inv h
   obtain ⟨v,hv,_,_,hd⟩ := place_inv h
   obtain ⟨hk,hn⟩ := hd rfl
   obtain ⟨r1,_⟩ := hA.row hv
   have hpe : evE rs env arr m p = some p.n := by
    cases m with
    | zero => exact (hwa p (by simp)).elim
    | succ m => rw [evE,if_pos hk]
   rw [hpe]
   dsimp only
   rw [if_neg hk4,if_pos k5,if_pos (show nth [p.n] 0 < _ by rw [r1]; exact hn)]
   exact ⟨_,rfl⟩
  ·rw [if_neg k5] at h
   obtain ⟨vs,hvs⟩ := args_some hrec h
   rw [hvs]
   dsimp only
   by_cases k4 : e.kind = 4
   ·rw [if_pos k4]; exact ⟨_,rfl⟩
   ·rw [if_neg k4,if_neg k5]; exact ⟨_,rfl⟩
theorem wfS_args {m : Nat} {t : St} (hw : wfS (m + 1) t) : ∀ a ∈ t.args,wfE m a := by
 rcases hw with ⟨_,_,_,_,x,hx,hwx⟩ | ⟨_,_,_,_,_,_,x,y,hx,hwx,hwy⟩ | ⟨_,_,_,_,⟨x,hx,hwx⟩,_⟩ | ⟨_,_,_,_,_,hx,_⟩
 ·rw [hx]; intro a ha; rw [List.mem_singleton] at ha; rw [ha]; exact hwx
 ·rw [hx]; intro a ha
  rw [List.mem_cons,List.mem_singleton] at ha
  rcases ha with rfl | rfl
  ·exact hwx
  ·exact hwy
 ·rw [hx]; intro a ha; rw [List.mem_singleton] at ha; rw [ha]; exact hwx
 ·rw [hx]; intro a ha; cases ha
theorem stmt_cases {rs : List Vr} {m : Nat} {dark : Bool} {t : St} {ns : List Nm} {wk lt : Nat} {k' : Ks} (hw : wfS (m + 1) t) (h : stmtK rs (m + 1) dark t ⟨ns,wk,lt⟩ = .ok k') :
  (∃ x s,t.kind = 1 ∧ t.args = [x] ∧ exprK rs ns dark m x = .ok s ∧ byN ns t.name = none ∧ (t.secret = false → s = false ∧ dark = false) ∧ k' = ⟨ns ++ [⟨t.name,t.secret,false⟩],wk + 1,lt + 1⟩) ∨
  (∃ x s v,t.kind = 2 ∧ t.args = [x] ∧ exprK rs ns dark m x = .ok s ∧ byN ns t.name = some v ∧ (v.secret = false → s = false ∧ dark = false) ∧ k' = ⟨ns,wk + 1,lt⟩) ∨
  (∃ x y u v,t.kind = 3 ∧ t.args = [x,y] ∧ exprK rs ns dark m x = .ok false ∧ exprK rs ns dark m y = .ok u ∧ byV rs t.name = some v ∧ (dark = true → x.kind = 1 ∧ x.n < v.size) ∧ (v.secret = false → u = false ∧ dark = false) ∧ k' = ⟨ns,wk + 1,lt⟩) ∨
  (∃ x s k1,t.kind = 4 ∧ t.args = [x] ∧ exprK rs ns dark m x = .ok s ∧ (∀ u ∈ t.thn,wfS m u) ∧ (∀ u ∈ t.els,wfS m u) ∧ blockK (stmtK rs m (s || dark)) t.thn ⟨ns,wk + 1,lt⟩ = .ok k1 ∧ blockK (stmtK rs m (s || dark)) t.els k1 = .ok k') ∨
  (∃ k1,t.kind = 5 ∧ t.args = [] ∧ 0 ≤ t.n ∧ t.n ≤ 8 ∧ (∀ u ∈ t.thn,wfS m u) ∧ byN ns t.name = none ∧ roundsK (blockK (stmtK rs m dark) t.thn) t.n.toNat ⟨ns ++ [⟨t.name,false,true⟩],wk + 1,lt⟩ = .ok k1 ∧ k' = ⟨ns,k1.work,k1.lets⟩) ∨
  (∃ x s,t.kind = 6 ∧ t.args = [x] ∧ exprK rs ns dark m x = .ok s ∧ dark = false ∧ k' = ⟨ns,wk + 1,lt⟩) := by
 rw [stmtK] at h
 split at h
 ·cases h
 dsimp only at h
 rcases hw with ⟨hk,_,_,_,x,hx,hwx⟩ | ⟨hk,_,_,_,_,_,x,y,hx,hwx,hwy⟩ | ⟨hk,_,_,_,⟨x,hx,hwx⟩,hth,hel⟩ | ⟨hk,_,_,h0,h8,hx,_,hth⟩
 ·rcases hk with ⟨hk,_⟩ | ⟨hk,_⟩ | ⟨hk,_⟩
  ·rw [if_pos hk,hx] at h
   obtain ⟨s,hs,h⟩ := thenK_inv h
   unfold letK takenK at h
   split at h
   ·cases h
   rename_i ht
   split at h
   ·cases h
   rename_i hl
   split at h
   ·cases h
   cases h
   refine .inl ⟨x,s,hk,hx,hs,?_,fun h1 => ?_,rfl⟩
   ·cases hb : byN ns t.name with
    | none => rfl
    | some v => exfalso; apply ht; dsimp only; rw [hb]; rfl
   ·simp only [h1,Bool.not_false,Bool.true_and,Bool.or_eq_true,not_or,Bool.not_eq_true] at hl
    exact hl
  ·rw [if_neg (by rw [hk]; decide),if_pos hk,hx] at h
   obtain ⟨s,hs,h⟩ := thenK_inv h
   unfold setK at h
   dsimp only at h
   cases hb : byN ns t.name with
   | none => rw [hb] at h; cases h
   | some v =>
    rw [hb] at h
    dsimp only at h
    split at h
    ·cases h
    split at h
    ·cases h
    rename_i hl
    cases h
    refine .inr (.inl ⟨x,s,v,hk,hx,hs,rfl,fun h1 => ?_,rfl⟩)
    simp only [h1,Bool.not_false,Bool.true_and,Bool.or_eq_true,not_or,Bool.not_eq_true] at hl
    exact hl
  ·rw [if_neg (by rw [hk]; decide),if_neg (by rw [hk]; decide),if_neg (by rw [hk]; decide),if_neg (by rw [hk]; decide),if_neg (by rw [hk]; decide),if_pos hk,hx] at h
   obtain ⟨s,hs,h⟩ := thenK_inv h
   split at h
   ·cases h
   rename_i hd
   cases h
   exact .inr (.inr (.inr (.inr (.inr ⟨x,s,hk,hx,hs,by simpa using hd,rfl⟩))))
 ·rw [if_neg (by rw [hk]; decide),if_neg (by rw [hk]; decide),if_pos hk,hx] at h
  obtain ⟨s,hs,h⟩ := thenK_inv h
  obtain ⟨u,hu,h⟩ := thenK_inv h
  obtain ⟨to,hto,h⟩ := thenK_inv h
  split at h
  ·cases h
  rename_i hl
  cases h
  obtain ⟨v,hv,rfl,rfl,hd⟩ := place_inv hto
  refine .inr (.inr (.inl ⟨x,y,u,v,hk,hx,hs,hu,hv,hd,fun h1 => ?_,rfl⟩))
  simp only [h1,Bool.not_false,Bool.true_and,Bool.or_eq_true,not_or,Bool.not_eq_true] at hl
  exact hl
 ·rw [if_neg (by rw [hk]; decide),if_neg (by rw [hk]; decide),if_neg (by rw [hk]; decide),if_pos hk,hx] at h
  obtain ⟨s,hs,h⟩ := thenK_inv h
  obtain ⟨k1,hk1,h⟩ := thenK_inv h
  exact .inr (.inr (.inr (.inl ⟨x,s,k1,hk,hx,hs,hth,hel,hk1,h⟩)))
 ·rw [if_neg (by rw [hk]; decide),if_neg (by rw [hk]; decide),if_neg (by rw [hk]; decide),if_neg (by rw [hk]; decide),if_pos hk] at h
  split at h
  ·cases h
  rename_i ht
  obtain ⟨k1,hk1,h⟩ := thenK_inv h
  cases h
  refine .inr (.inr (.inr (.inr (.inl ⟨k1,hk,hx,h0,h8,hth,?_,hk1,rfl⟩))))
  unfold takenK at ht
  cases hb : byN ns t.name with
  | none => rfl
  | some v => exfalso; apply ht; rw [hb]; rfl
end Go.Proofs.YtemdnmfldihalaaGreatDoor.Lg
