/- Laid together: LcPlain, LePlain. -/
import Derived.Test.YtemdnmfldihalaaGreatDoorGr0
import Derived.Test.YtemdnmfldihalaaGreatDoorGr3
namespace Go.Proofs.YtemdnmfldihalaaGreatDoor.Lg
set_option linter.unusedVariables false
set_option linter.unusedSimpArgs false
structure Nm where
 name : List UInt8
 secret : Bool
 loop : Bool
def byN (ns : List Nm) (x : List UInt8) : Option Nm := ns.find? fun v => v.name == x
def byV (rs : List Vr) (x : List UInt8) : Option Vr := rs.find? fun v => v.name == x
def thenK {α β : Type} (x : Except Int α) (f : α → Except Int β) : Except Int β := match x with
 | .error e => .error e
 | .ok a => f a
theorem thenK_ok {α β : Type} (a : α) (f : α → Except Int β) : thenK (.ok a) f = f a := rfl
theorem thenK_inv {α β : Type} {x : Except Int α} {f : α → Except Int β} {b : β} (h : thenK x f = .ok b) : ∃ a,x = .ok a ∧ f a = .ok b := by
 cases x with
 | error e => cases h
 | ok a => exact ⟨a,rfl,h⟩
def placeK (rs : List Vr) (dark : Bool) (x : List UInt8) (p : Ex) (s : Bool) : Except Int Bool := match byV rs x with
 | none => .error 6
 | some v => if (s || (dark && !(decide (p.kind = 1) && decide (p.n < v.size)))) = true then .error 10 else .ok v.secret
def argsK (f : Ex → Except Int Bool) : List Ex → Bool → Except Int Bool
 | [],s => .ok s
 | a :: l,s => thenK (f a) fun x => argsK f l (x || s)
def exprK (rs : List Vr) (ns : List Nm) (dark : Bool) : Nat → Ex → Except Int Bool
 | 0,_ => .ok false
 | m + 1,e => if e.kind = 1 then .ok false else if e.kind = 2 then (match byN ns e.name with | none => .error 6 | some v => .ok v.secret)
  else if e.kind = 5 then (match e.args with | [] => .ok false | p :: _ => thenK (exprK rs ns dark m p) fun s => placeK rs dark e.name p s)
  else argsK (exprK rs ns dark m) e.args false
structure Ks where
 ns : List Nm
 work : Nat
 lets : Nat
def takenK (rs : List Vr) (ns : List Nm) (x : List UInt8) : Bool := (byN ns x).isSome || (byV rs x).isSome
def letK (rs : List Vr) (t : St) (dark s : Bool) (k : Ks) : Except Int Ks := if takenK rs k.ns t.name = true then .error 7 else if (!t.secret && (s || dark)) = true then .error 10 else if 24 < k.lets + 1 then .error 4 else .ok ⟨k.ns ++ [⟨t.name,t.secret,false⟩],k.work,k.lets + 1⟩
def setK (t : St) (dark s : Bool) (k : Ks) : Except Int Ks := match byN k.ns t.name with
 | none => .error 6
 | some v => if v.loop = true then .error 6 else if (!v.secret && (s || dark)) = true then .error 10 else .ok k
def stmtsK (f : St → Ks → Except Int Ks) : List St → Ks → Except Int Ks
 | [],k => .ok k
 | t :: l,k => thenK (f t k) fun k => stmtsK f l k
def blockK (f : St → Ks → Except Int Ks) (l : List St) (k : Ks) : Except Int Ks := thenK (stmtsK f l k) fun k' => .ok ⟨k.ns,k'.work,k'.lets⟩
def roundsK (f : Ks → Except Int Ks) : Nat → Ks → Except Int Ks
 | 0,k => .ok k
 | n + 1,k => thenK (f k) fun k => roundsK f n k
def head (l : List Ex) : Ex := l.headD ⟨0,0,[],[]⟩
def stmtK (rs : List Vr) : Nat → Bool → St → Ks → Except Int Ks
 | 0,_,_,k => .ok k
 | m + 1,dark,t,k0 => if 300 < k0.work + 1 then .error 4 else
  let k : Ks := ⟨k0.ns,k0.work + 1,k0.lets⟩
  if t.kind = 1 then thenK (exprK rs k.ns dark m (head t.args)) fun s => letK rs t dark s k
  else if t.kind = 2 then thenK (exprK rs k.ns dark m (head t.args)) fun s => setK t dark s k
  else if t.kind = 3 then thenK (exprK rs k.ns dark m (head t.args)) fun s => thenK (exprK rs k.ns dark m (head t.args.tail)) fun u => thenK (placeK rs dark t.name (head t.args) s) fun to => if (!to && (u || dark)) = true then .error 10 else .ok k
  else if t.kind = 4 then thenK (exprK rs k.ns dark m (head t.args)) fun s => thenK (blockK (stmtK rs m (s || dark)) t.thn k) fun k => blockK (stmtK rs m (s || dark)) t.els k
  else if t.kind = 5 then if takenK rs k.ns t.name = true then .error 7 else thenK (roundsK (blockK (stmtK rs m dark) t.thn) t.n.toNat ⟨k.ns ++ [⟨t.name,false,true⟩],k.work,k.lets⟩) fun k' => .ok ⟨k.ns,k'.work,k'.lets⟩
  else if t.kind = 6 then thenK (exprK rs k.ns dark m (head t.args)) fun s => if dark = true then .error 10 else .ok k
  else .ok k
def twiceA (pre : List Vr) : List Vr → Bool
 | [] => false
 | v :: r => (byV pre v.name).isSome || twiceA (pre ++ [v]) r
def twiceK (l : List Vr) : Bool := twiceA [] l
def nmOf (v : Vr) : Nm := ⟨v.name,v.secret,false⟩
def checkK (f : Fn) : Int := if 4 < f.params.length ∨ 3 < f.arrays.length then 5 else if twiceK (f.params ++ f.arrays) = true then 7 else match blockK (stmtK f.arrays 9 false) f.body ⟨f.params.map nmOf,0,0⟩ with
 | .error x => x
 | .ok _ => 0
def No (n : Int) {α : Type} (x : Except Int α) (p : α → Prop) : Prop := (∀ e,x = .error e → ¬ e = n) ∧ ∀ a,x = .ok a → p a
theorem No.ok {n : Int} {α : Type} {a : α} {p : α → Prop} (h : p a) : No n (.ok a) p := ⟨fun e he => (by cases he),fun b hb => (by cases hb; exact h)⟩
theorem No.err {n e : Int} {α : Type} {p : α → Prop} (h : ¬ e = n) : No n (.error e : Except Int α) p := ⟨fun x hx => (by cases hx; exact h),fun b hb => (by cases hb)⟩
theorem No.andThen {n : Int} {α β : Type} {x : Except Int α} {f : α → Except Int β} {p : α → Prop} {q : β → Prop} (h : No n x p) (hf : ∀ a,p a → No n (f a) q) : No n (thenK x f) q := by
 cases x with
 | error e => exact .err (h.1 e rfl)
 | ok a => exact hf a (h.2 a rfl)
theorem No.mono {n : Int} {α : Type} {x : Except Int α} {p q : α → Prop} (h : No n x p) (hq : ∀ a,p a → q a) : No n x q := ⟨h.1,fun a ha => hq a (h.2 a ha)⟩
theorem No.ite {n : Int} {α : Type} {c : Prop} [Decidable c] {a b : Except Int α} {p : α → Prop} (ha : c → No n a p) (hb : ¬ c → No n b p) : No n (if c then a else b) p := by
 by_cases h : c
 ·rw [if_pos h]; exact ha h
 ·rw [if_neg h]; exact hb h
theorem byN_mem {ns : List Nm} {x : List UInt8} {v : Nm} (h : byN ns x = some v) : v ∈ ns := List.mem_of_find?_eq_some h
theorem byV_mem {rs : List Vr} {x : List UInt8} {v : Vr} (h : byV rs x = some v) : v ∈ rs := List.mem_of_find?_eq_some h
def PubN (ns : List Nm) : Prop := ∀ v ∈ ns,v.secret = false
def PubV (rs : List Vr) : Prop := ∀ v ∈ rs,v.secret = false
theorem place_pub {rs : List Vr} (hr : PubV rs) (x : List UInt8) (p : Ex) : No 10 (placeK rs false x p false) (fun s => s = false) := by
 unfold placeK
 cases h : byV rs x with
 | none => exact .err (by decide)
 | some v => exact .ok (hr v (byV_mem h))
theorem args_pub {f : Ex → Except Int Bool} (hf : ∀ e,No 10 (f e) (fun s => s = false)) : ∀ l,No 10 (argsK f l false) (fun s => s = false)
 | [] => .ok rfl
 | a :: l => by
  rw [argsK]
  exact (hf a).andThen fun s hs => by subst hs; exact args_pub hf l
theorem expr_pub {rs : List Vr} {ns : List Nm} (hr : PubV rs) (hn : PubN ns) : ∀ m e,No 10 (exprK rs ns false m e) (fun s => s = false)
 | 0,e => .ok rfl
 | m + 1,e => by
  rw [exprK]
  refine .ite (fun _ => .ok rfl) fun _ => .ite (fun _ => ?_) fun _ => .ite (fun _ => ?_) fun _ => args_pub (expr_pub hr hn m) _
  ·cases h : byN ns e.name with
   | none => exact .err (by decide)
   | some v => exact .ok (hn v (byN_mem h))
  ·cases e.args with
   | nil => exact .ok rfl
   | cons p l => exact (expr_pub hr hn m p).andThen fun s hs => by subst hs; exact place_pub hr _ _
theorem stmts_no {n : Int} {f : St → Ks → Except Int Ks} {p : Ks → Prop} : ∀ (l : List St),(∀ t ∈ l,∀ k,p k → No n (f t k) p) → ∀ k,p k → No n (stmtsK f l k) p
 | [],_,k,hk => .ok hk
 | t :: l,h,k,hk => by
  rw [stmtsK]
  exact (h t (by simp) k hk).andThen fun k' hk' => stmts_no l (fun u hu => h u (by simp [hu])) k' hk'
theorem rounds_no {n : Int} {f : Ks → Except Int Ks} {p : Ks → Prop} (h : ∀ k,p k → No n (f k) p) : ∀ (i : Nat) (k : Ks),p k → No n (roundsK f i k) p
 | 0,k,hk => .ok hk
 | i + 1,k,hk => by
  rw [roundsK]
  exact (h k hk).andThen fun k' hk' => rounds_no h i k' hk'
structure Gd (k k' : Ks) : Prop where
 ns : ∃ ex,k'.ns = k.ns ++ ex
 work : k.work ≤ k'.work
 most : k'.work ≤ 300
 lets : k'.lets ≤ 24
 len : k'.ns.length + k.work ≤ k.ns.length + k'.work
theorem Gd.refl {k : Ks} (h1 : k.work ≤ 300) (h2 : k.lets ≤ 24) : Gd k k := ⟨⟨[],by simp⟩,Nat.le_refl _,h1,h2,Nat.le_refl _⟩
theorem Gd.trans {a b c : Ks} (h : Gd a b) (k : Gd b c) : Gd a c := by
 obtain ⟨x,hx⟩ := h.ns
 obtain ⟨y,hy⟩ := k.ns
 refine ⟨⟨x ++ y,by rw [hy,hx,List.append_assoc]⟩,Nat.le_trans h.work k.work,k.most,k.lets,?_⟩
 have := h.len; have := k.len; omega
theorem place_nz (rs : List Vr) (dark : Bool) (x : List UInt8) (p : Ex) (s : Bool) : No 0 (placeK rs dark x p s) (fun _ => True) := by
 unfold placeK
 cases byV rs x with
 | none => exact .err (by decide)
 | some v => exact .ite (fun _ => .err (by decide)) fun _ => .ok trivial
theorem args_nz {f : Ex → Except Int Bool} (hf : ∀ e,No 0 (f e) (fun _ => True)) : ∀ l s,No 0 (argsK f l s) (fun _ => True)
 | [],s => .ok trivial
 | a :: l,s => by
  rw [argsK]
  exact (hf a).andThen fun x _ => args_nz hf l _
theorem expr_nz (rs : List Vr) (ns : List Nm) (dark : Bool) : ∀ m e,No 0 (exprK rs ns dark m e) (fun _ => True)
 | 0,e => .ok trivial
 | m + 1,e => by
  rw [exprK]
  refine .ite (fun _ => .ok trivial) fun _ => .ite (fun _ => ?_) fun _ => .ite (fun _ => ?_) fun _ => args_nz (expr_nz rs ns dark m) _ _
  ·cases byN ns e.name with
   | none => exact .err (by decide)
   | some v => exact .ok trivial
  ·cases e.args with
   | nil => exact .ok trivial
   | cons p l => exact (expr_nz rs ns dark m p).andThen fun s _ => place_nz _ _ _ _ _
theorem stmts_gd {f : St → Ks → Except Int Ks} (l : List St) (h : ∀ t ∈ l,∀ k,k.work ≤ 300 → k.lets ≤ 24 → No 0 (f t k) (Gd k)) (k : Ks) (h1 : k.work ≤ 300) (h2 : k.lets ≤ 24) : No 0 (stmtsK f l k) (Gd k) :=
 stmts_no (p:=Gd k) l (fun t ht k' hk' => (h t ht k' hk'.most hk'.lets).mono fun a ha => hk'.trans ha) k (.refl h1 h2)
theorem block_gd {f : St → Ks → Except Int Ks} (l : List St) (h : ∀ t ∈ l,∀ k,k.work ≤ 300 → k.lets ≤ 24 → No 0 (f t k) (Gd k)) (k : Ks) (h1 : k.work ≤ 300) (h2 : k.lets ≤ 24) : No 0 (blockK f l k) (fun k' => Gd k k' ∧ k'.ns = k.ns) := by
 refine (stmts_gd l h k h1 h2).andThen fun k' hk' => .ok ⟨⟨⟨[],by simp⟩,hk'.work,hk'.most,hk'.lets,?_⟩,rfl⟩
 have := hk'.work
 show k.ns.length + k.work ≤ k.ns.length + k'.work
 omega
theorem rounds_gd {f : Ks → Except Int Ks} (h : ∀ k,k.work ≤ 300 → k.lets ≤ 24 → No 0 (f k) (fun k' => Gd k k' ∧ k'.ns = k.ns)) (i : Nat) (k : Ks) (h1 : k.work ≤ 300) (h2 : k.lets ≤ 24) : No 0 (roundsK f i k) (fun k' => Gd k k' ∧ k'.ns = k.ns) :=
 rounds_no (p:=fun k' => Gd k k' ∧ k'.ns = k.ns) (fun k' hk' => (h k' hk'.1.most hk'.1.lets).mono fun a ha => ⟨hk'.1.trans ha.1,ha.2.trans hk'.2⟩) i k ⟨.refl h1 h2,rfl⟩
theorem let_gd (rs : List Vr) (t : St) (dark s : Bool) (k0 : Ks) (h1 : k0.work + 1 ≤ 300) (h2 : k0.lets ≤ 24) : No 0 (letK rs t dark s ⟨k0.ns,k0.work + 1,k0.lets⟩) (Gd k0) := by
 unfold letK
 refine .ite (fun _ => .err (by decide)) fun _ => .ite (fun _ => .err (by decide)) fun _ => .ite (fun _ => .err (by decide)) fun h => .ok ⟨⟨_,rfl⟩,by simp,by simpa using h1,by dsimp only at h ⊢; omega,by simp; omega⟩
theorem set_gd (t : St) (dark s : Bool) (k0 : Ks) (h1 : k0.work + 1 ≤ 300) (h2 : k0.lets ≤ 24) : No 0 (setK t dark s ⟨k0.ns,k0.work + 1,k0.lets⟩) (Gd k0) := by
 unfold setK
 cases byN k0.ns t.name with
 | none => exact .err (by decide)
 | some v => exact .ite (fun _ => .err (by decide)) fun _ => .ite (fun _ => .err (by decide)) fun _ => .ok ⟨⟨[],by simp⟩,by simp,by simpa using h1,h2,by simp⟩
theorem stmt_gd (rs : List Vr) : ∀ (m : Nat) (dark : Bool) (t : St) (k : Ks),k.work ≤ 300 → k.lets ≤ 24 → No 0 (stmtK rs m dark t k) (Gd k)
 | 0,dark,t,k,h1,h2 => .ok (.refl h1 h2)
 | m + 1,dark,t,k,h1,h2 => by
  rw [stmtK]
  refine .ite (fun _ => .err (by decide)) fun hw => ?_
  have hx := fun e => expr_nz rs k.ns dark m e
  have hk : Gd k ⟨k.ns,k.work + 1,k.lets⟩ := ⟨⟨[],by simp⟩,by simp,by simp; omega,h2,by simp⟩
  refine .ite (fun _ => (hx _).andThen fun s hs => ?_) fun _ => .ite (fun _ => (hx _).andThen fun s hs => ?_) fun _ => .ite (fun _ => (hx _).andThen fun s hs => (hx _).andThen fun u hu => ?_) fun _ => .ite (fun _ => (hx _).andThen fun s hs => ?_) fun _ => .ite (fun _ => ?_) fun _ => .ite (fun _ => (hx _).andThen fun s hs => ?_) fun _ => .ok hk
  ·exact let_gd rs t dark s k (by omega) h2
  ·exact set_gd t dark s k (by omega) h2
  ·exact (place_nz _ _ _ _ _).andThen fun to _ => .ite (fun _ => .err (by decide)) fun _ => .ok hk
  ·exact (block_gd _ (fun u _ k a b => stmt_gd rs m _ u k a b) _ hk.most hk.lets).andThen fun k' hk' => (block_gd _ (fun u _ k a b => stmt_gd rs m _ u k a b) _ hk'.1.most hk'.1.lets).mono fun a ha => (hk.trans hk'.1).trans ha.1
  ·refine .ite (fun _ => .err (by decide)) fun _ => (rounds_gd (fun k a b => block_gd _ (fun u _ k a b => stmt_gd rs m _ u k a b) k a b) _ ⟨k.ns ++ [⟨t.name,false,true⟩],k.work + 1,k.lets⟩ hk.most hk.lets).andThen fun k' hk' => .ok ⟨⟨[],by simp⟩,?_,hk'.1.most,hk'.1.lets,?_⟩
   ·have := hk'.1.work
    dsimp only at this ⊢; omega
   ·have := hk'.1.work
    dsimp only at this ⊢; omega
  ·exact .ite (fun _ => .err (by decide)) fun _ => .ok hk
abbrev Env := List (List UInt8 × Int)
structure Mm where
 env : Env
 arr : List (List Int)
 work : Nat
inductive Rs where
 | go (k : Mm)
 | over (trap : Bool) (word : Int) (arr : List (List Int)) (work : Nat)
def lookE (env : Env) (x : List UInt8) : Int := match env.find? (fun p => p.1 == x) with
 | some p => p.2
 | none => 0
def setE : Env → List UInt8 → Int → Env
 | [],_,_ => []
 | p :: l,x,v => if p.1 == x then (p.1,v) :: l else p :: setE l x v
def atV (rs : List Vr) (x : List UInt8) : Option Nat := rs.findIdx? fun v => v.name == x
def rowOf (rs : List Vr) (arr : List (List Int)) (x : List UInt8) : List Int := match atV rs x with
 | some i => arr.getD i []
 | none => []
def putA (rs : List Vr) (arr : List (List Int)) (x : List UInt8) (i : Nat) (v : Int) : List (List Int) := match atV rs x with
 | some a => arr.set a ((arr.getD a []).set i v)
 | none => arr
def allE (f : Ex → Option Int) : List Ex → Option (List Int)
 | [] => some []
 | a :: l => match f a with
  | none => none
  | some v => match allE f l with
   | none => none
   | some vs => some (v :: vs)
def nth (vs : List Int) (i : Nat) : Int := vs.getD i 0
def selP (a b c : Int) : Int := if a % 4294967296 = 0 then c % 4294967296 else b % 4294967296
def evE (rs : List Vr) (env : Env) (arr : List (List Int)) : Nat → Ex → Option Int
 | 0,_ => some 0
 | m + 1,e => if e.kind = 1 then some e.n else if e.kind = 2 then some (lookE env e.name) else match allE (evE rs env arr m) e.args with
  | none => none
  | some vs => if e.kind = 4 then some (selP (nth vs 0) (nth vs 1) (nth vs 2)) else if e.kind = 5 then (if nth vs 0 < (rowOf rs arr e.name).length then some ((rowOf rs arr e.name).getD (nth vs 0).toNat 0) else none) else some (Wd.two e.n (nth vs 0) (nth vs 1))
def andR (r : Rs) (f : Mm → Rs) : Rs := match r with
 | .go k => f k
 | .over t w a n => .over t w a n
def evL (f : St → Mm → Rs) : List St → Mm → Rs
 | [],k => .go k
 | t :: l,k => andR (f t k) (evL f l)
def cutR (n : Nat) (r : Rs) : Rs := andR r fun k => .go ⟨k.env.take n,k.arr,k.work⟩
def evB (f : St → Mm → Rs) (l : List St) (k : Mm) : Rs := cutR k.env.length (evL f l k)
def evR (f : Int → Mm → Rs) : Nat → Int → Mm → Rs
 | 0,_,k => .go k
 | n + 1,i,k => andR (f i k) (evR f n (i + 1))
def evS (rs : List Vr) : Nat → St → Mm → Rs
 | 0,_,k => .go k
 | m + 1,t,k => match allE (evE rs k.env k.arr m) t.args with
  | none => .over true 0 k.arr (k.work + 1)
  | some vs =>
   if t.kind = 1 then .go ⟨k.env ++ [(t.name,nth vs 0)],k.arr,k.work + 1⟩
   else if t.kind = 2 then .go ⟨setE k.env t.name (nth vs 0),k.arr,k.work + 1⟩
   else if t.kind = 3 then (if nth vs 0 < (rowOf rs k.arr t.name).length then .go ⟨k.env,putA rs k.arr t.name (nth vs 0).toNat (nth vs 1),k.work + 1⟩ else .over true 0 k.arr (k.work + 1))
   else if t.kind = 4 then evB (evS rs m) (if nth vs 0 = 0 then t.els else t.thn) ⟨k.env,k.arr,k.work + 1⟩
   else if t.kind = 5 then evR (fun i k => cutR k.env.length (evB (evS rs m) t.thn ⟨k.env ++ [(t.name,i)],k.arr,k.work⟩)) t.n.toNat 0 ⟨k.env,k.arr,k.work + 1⟩
   else if t.kind = 6 then .over false (nth vs 0) k.arr (k.work + 1)
   else .go ⟨k.env,k.arr,k.work + 1⟩
def AllR (p : Mm → Prop) (q : Bool → Int → List (List Int) → Nat → Prop) : Rs → Prop
 | .go k => p k
 | .over t w a n => q t w a n
theorem AllR.andThen {p p' : Mm → Prop} {q : Bool → Int → List (List Int) → Nat → Prop} {r : Rs} {f : Mm → Rs} (h : AllR p q r) (hf : ∀ k,p k → AllR p' q (f k)) : AllR p' q (andR r f) := by
 cases r with
 | go k => exact hf k h
 | over t w a n => exact h
theorem AllR.mono {p p' : Mm → Prop} {q q' : Bool → Int → List (List Int) → Nat → Prop} {r : Rs} (h : AllR p q r) (hp : ∀ k,p k → p' k) (hq : ∀ t w a n,q t w a n → q' t w a n) : AllR p' q' r := by
 cases r with
 | go k => exact hp k h
 | over t w a n => exact hq _ _ _ _ h
def isW (n : Int) : Prop := 0 ≤ n ∧ n ≤ 4294967295
structure GA (rs : List Vr) (arr : List (List Int)) : Prop where
 len : arr.length = rs.length
 size : ∀ (i : Nat) (row : List Int) (v : Vr),arr[i]? = some row → rs[i]? = some v → (row.length : Int) = v.size
 word : ∀ row ∈ arr,∀ x ∈ row,isW x
def GE (env : Env) : Prop := ∀ p ∈ env,isW p.2
theorem isW_zero : isW 0 := ⟨by decide,by decide⟩
theorem selP_word (a b c : Int) : isW (selP a b c) := by
 unfold selP isW
 split <;> omega
theorem look_word {env : Env} (h : GE env) (x : List UInt8) : isW (lookE env x) := by
 unfold lookE
 cases hf : env.find? (fun p => p.1 == x) with
 | none => exact isW_zero
 | some p => exact h p (List.mem_of_find?_eq_some hf)
theorem nth_word {vs : List Int} (h : ∀ v ∈ vs,isW v) (i : Nat) : isW (nth vs i) := by
 unfold nth
 rw [List.getD_eq_getElem?_getD]
 cases hv : vs[i]? with
 | none => exact isW_zero
 | some v => exact h v (List.mem_of_getElem? hv)
theorem row_word {rs : List Vr} {arr : List (List Int)} (h : GA rs arr) (x : List UInt8) : ∀ v ∈ rowOf rs arr x,isW v := by
 unfold rowOf
 cases atV rs x with
 | none => intro v hv; cases hv
 | some i =>
  dsimp only
  rw [List.getD_eq_getElem?_getD]
  cases hr : arr[i]? with
  | none => intro v hv; cases hv
  | some row => exact h.word row (List.mem_of_getElem? hr)
theorem allE_word {f : Ex → Option Int} : ∀ {l : List Ex} {vs : List Int},(∀ e ∈ l,∀ v,f e = some v → isW v) → allE f l = some vs → ∀ v ∈ vs,isW v
 | [],vs,_,h => by cases h; intro v hv; cases hv
 | a :: l,vs,hf,h => by
  rw [allE] at h
  cases ha : f a with
  | none => rw [ha] at h; cases h
  | some u =>
   rw [ha] at h
   dsimp only at h
   cases hl : allE f l with
   | none => rw [hl] at h; cases h
   | some us =>
    rw [hl] at h
    cases h
    intro v hv
    rcases List.mem_cons.1 hv with rfl | hv
    ·exact hf a (by simp) v ha
    ·exact allE_word (fun e he => hf e (by simp [he])) hl v hv
theorem wfE_args {m : Nat} {e : Ex} (h : wfE (m + 1) e) : ∀ a ∈ e.args,wfE m a := by
 rcases h with ⟨h1,h2,h3,h4,h5⟩ | ⟨h1,h2,h3,h4⟩ | ⟨h1,h2,h3,h4,h5,h6⟩ | ⟨h1,h2,h3,h4,h5⟩ | ⟨h1,h2,h3,h4,h5⟩
 ·rw [h5]; intro a ha; cases ha
 ·rw [h4]; intro a ha; cases ha
 ·exact h6
 ·exact h5
 ·exact h5
theorem evE_word {rs : List Vr} {env : Env} {arr : List (List Int)} (he : GE env) (ha : GA rs arr) : ∀ (m : Nat) (e : Ex),wfE m e → ∀ v,evE rs env arr m e = some v → isW v
 | 0,e,hw,v,h => hw.elim
 | m + 1,e,hw,v,h => by
  rw [evE] at h
  split at h
  ·rename_i hk
   cases h
   rcases hw with ⟨h1,h2,h3,h4,h5⟩ | ⟨h1,_⟩ | ⟨h1,_⟩ | ⟨h1,_⟩ | ⟨h1,_⟩
   ·exact ⟨by omega,by omega⟩
   all_goals (rw [h1] at hk; exact absurd hk (by decide))
  split at h
  ·cases h; exact look_word he _
  cases hl : allE (evE rs env arr m) e.args with
  | none => rw [hl] at h; cases h
  | some vs =>
   rw [hl] at h
   dsimp only at h
   have hvs := allE_word (fun a hm => evE_word he ha m a (wfE_args hw a hm)) hl
   split at h
   ·cases h
    exact selP_word _ _ _
   split at h
   ·split at h
    ·cases h
     rw [List.getD_eq_getElem?_getD]
     cases hr : (rowOf rs arr e.name)[(nth vs 0).toNat]? with
     | none => exact isW_zero
     | some u => exact row_word ha _ u (List.mem_of_getElem? hr)
    ·cases h
   ·cases h
    exact Wd.two_word _ _ _
theorem set_word {env : Env} {v : Int} (hv : isW v) (x : List UInt8) : ∀ (env : Env),GE env → GE (setE env x v)
 | [],h => h
 | p :: l,h => by
  rw [setE]
  split
  ·intro q hq
   rcases List.mem_cons.1 hq with rfl | hq
   ·exact hv
   ·exact h q (by simp [hq])
  ·intro q hq
   rcases List.mem_cons.1 hq with rfl | hq
   ·exact h _ (by simp)
   ·exact set_word (env:=env) hv x l (fun r hr => h r (by simp [hr])) q hq
theorem set_length (x : List UInt8) (v : Int) : ∀ (env : Env),(setE env x v).length = env.length
 | [] => rfl
 | p :: l => by
  rw [setE]
  split
  ·rfl
  ·simp [set_length x v l]
theorem set_names (x : List UInt8) (v : Int) : ∀ (env : Env),(setE env x v).map Prod.fst = env.map Prod.fst
 | [] => rfl
 | p :: l => by
  rw [setE]
  split
  ·rfl
  ·simp [set_names x v l]
theorem put_good {rs : List Vr} {arr : List (List Int)} (h : GA rs arr) (x : List UInt8) (i : Nat) {v : Int} (hv : isW v) : GA rs (putA rs arr x i v) := by
 unfold putA
 cases ha : atV rs x with
 | none => exact h
 | some a =>
  dsimp only
  refine ⟨by simp [h.len],fun j row u hr hu => ?_,fun row hr y hy => ?_⟩
  ·rw [List.getElem?_set] at hr
   split at hr
   ·rename_i e
    subst e
    split at hr
    ·rename_i hl
     cases hr
     rw [List.length_set,List.getD_eq_getElem?_getD,List.getElem?_eq_getElem hl]
     exact h.size a _ u (List.getElem?_eq_getElem hl) hu
    ·cases hr
   ·exact h.size j row u hr hu
  ·rcases List.mem_or_eq_of_mem_set hr with hr | rfl
   ·exact h.word row hr y hy
   ·rcases List.mem_or_eq_of_mem_set hy with hy | rfl
    ·rw [List.getD_eq_getElem?_getD] at hy
     cases hg : arr[a]? with
     | none => rw [hg] at hy; cases hy
     | some r => rw [hg] at hy; exact h.word r (List.mem_of_getElem? hg) y hy
    ·exact hv
structure GM (rs : List Vr) (k : Mm) : Prop where
 env : GE k.env
 arr : GA rs k.arr
def GO (rs : List Vr) (t : Bool) (w : Int) (a : List (List Int)) (n : Nat) : Prop := GA rs a ∧ isW w ∧ (t = true → w = 0)
theorem evL_good {rs : List Vr} {f : St → Mm → Rs} : ∀ (l : List St),(∀ t ∈ l,∀ k,GM rs k → AllR (GM rs) (GO rs) (f t k)) → ∀ k,GM rs k → AllR (GM rs) (GO rs) (evL f l k)
 | [],_,k,hk => hk
 | t :: l,h,k,hk => by
  rw [evL]
  exact (h t (by simp) k hk).andThen fun k' hk' => evL_good l (fun u hu => h u (by simp [hu])) k' hk'
theorem cut_good {rs : List Vr} {r : Rs} (n : Nat) (h : AllR (GM rs) (GO rs) r) : AllR (GM rs) (GO rs) (cutR n r) :=
 h.andThen fun k hk => ⟨fun p hp => hk.env p (List.mem_of_mem_take hp),hk.arr⟩
theorem evR_good {rs : List Vr} {f : Int → Mm → Rs} {N : Nat} (hN : N ≤ 8) (hf : ∀ i k,0 ≤ i → i ≤ 8 → GM rs k → AllR (GM rs) (GO rs) (f i k)) : ∀ (n : Nat) (i : Int) (k : Mm),0 ≤ i → i + n ≤ 8 → GM rs k → AllR (GM rs) (GO rs) (evR f n i k)
 | 0,_,k,_,_,hk => hk
 | n + 1,i,k,h0,h8,hk => by
  rw [evR]
  exact (hf i k h0 (by omega) hk).andThen fun k' hk' => evR_good hN hf n (i + 1) k' (by omega) (by omega) hk'
theorem evS_good {rs : List Vr} : ∀ (m : Nat) (t : St),wfS m t → ∀ k,GM rs k → AllR (GM rs) (GO rs) (evS rs m t k)
 | 0,t,hw,k,hk => hw.elim
 | m + 1,t,hw,k,hk => by
  have hargs : ∀ a ∈ t.args,wfE m a := by
   rcases hw with ⟨_,_,_,_,x,hx,hwx⟩ | ⟨_,_,_,_,_,_,x,y,hx,hwx,hwy⟩ | ⟨_,_,_,_,⟨x,hx,hwx⟩,_⟩ | ⟨_,_,_,_,_,hx,_⟩
   ·rw [hx]; intro a ha; rw [List.mem_singleton] at ha; rw [ha]; exact hwx
   ·rw [hx]; intro a ha
    rw [List.mem_cons,List.mem_singleton] at ha
    rcases ha with rfl | rfl
    ·exact hwx
    ·exact hwy
   ·rw [hx]; intro a ha; rw [List.mem_singleton] at ha; rw [ha]; exact hwx
   ·rw [hx]; intro a ha; cases ha
  have hth : t.kind = 4 ∨ t.kind = 5 → (∀ u ∈ t.thn,wfS m u) ∧ ∀ u ∈ t.els,wfS m u := by
   intro h45
   rcases hw with ⟨h1,_,h2,h3,_⟩ | ⟨_,_,_,_,h2,h3,_⟩ | ⟨_,_,_,_,_,h2,h3⟩ | ⟨_,_,_,_,_,_,h3,h2⟩
   ·rw [h2,h3]; exact ⟨fun u hu => (by cases hu),fun u hu => (by cases hu)⟩
   ·rw [h2,h3]; exact ⟨fun u hu => (by cases hu),fun u hu => (by cases hu)⟩
   ·exact ⟨h2,h3⟩
   ·rw [h3]; exact ⟨h2,fun u hu => (by cases hu)⟩
  have hn8 : t.kind = 5 → t.n.toNat ≤ 8 := by
   intro h5
   rcases hw with ⟨h1,_⟩ | ⟨h1,_⟩ | ⟨h1,_⟩ | ⟨_,_,_,h1,h2,_⟩
   ·rcases h1 with ⟨h1,_⟩ | ⟨h1,_⟩ | ⟨h1,_⟩ <;> (rw [h1] at h5; exact absurd h5 (by decide))
   ·rw [h1] at h5; exact absurd h5 (by decide)
   ·rw [h1] at h5; exact absurd h5 (by decide)
   ·omega
  rw [evS]
  cases hl : allE (evE rs k.env k.arr m) t.args with
  | none => exact ⟨hk.arr,isW_zero,fun _ => rfl⟩
  | some vs =>
   have hvs := allE_word (fun a ha => evE_word hk.env hk.arr m a (hargs a ha)) hl
   dsimp only
   split
   ·refine ⟨fun p hp => ?_,hk.arr⟩
    rcases List.mem_append.1 hp with hp | hp
    ·exact hk.env p hp
    ·rw [List.mem_singleton] at hp; rw [hp]; exact nth_word hvs 0
   split
   ·exact ⟨set_word (env:=k.env) (nth_word hvs 0) _ _ hk.env,hk.arr⟩
   split
   ·split
    ·exact ⟨hk.env,put_good hk.arr _ _ (nth_word hvs 1)⟩
    ·exact ⟨hk.arr,isW_zero,fun _ => rfl⟩
   split
   ·rename_i h4
    have h45 := hth (.inl h4)
    refine cut_good _ (evL_good _ (fun u hu k hk => evS_good m u ?_ k hk) _ ⟨hk.env,hk.arr⟩)
    split at hu
    ·exact h45.2 u hu
    ·exact h45.1 u hu
   split
   ·rename_i h5
    have h45 := hth (.inr h5)
    refine evR_good (hn8 h5) ?_ t.n.toNat 0 _ (by decide) (by have := hn8 h5; omega) ⟨hk.env,hk.arr⟩
    intro i k h0 h8 hk
    refine cut_good _ ?_
    unfold evB
    refine cut_good _ (evL_good _ (fun u hu k hk => evS_good m u (h45.1 u hu) k hk) _ ⟨fun p hp => ?_,hk.arr⟩)
    rcases List.mem_append.1 hp with hp | hp
    ·exact hk.env p hp
    ·rw [List.mem_singleton] at hp; rw [hp]; exact ⟨h0,by omega⟩
   split
   ·exact ⟨hk.arr,nth_word hvs 0,fun h => by cases h⟩
   ·exact ⟨hk.env,hk.arr⟩
end Go.Proofs.YtemdnmfldihalaaGreatDoor.Lg
