/- Laid together: LcSmall, LkNone, LkAt, LkExpr, LkTwice, LkBlock, LkLet, LkCheck, LmMap, LmExpr, LmKexpr, LmSpec. -/
import Derived.Test.YtemdnmfldihalaaGreatDoorGr33
import Derived.Test.YtemdnmfldihalaaGreatDoorLdParse
import Derived.Test.YtemdnmfldihalaaGreatDoorGr2
import Derived.Test.YtemdnmfldihalaaGreatDoorGr4
import Derived.Maps.Own
import Derived.Maps.OwnSet
import Derived.Maps.Keyed
import Derived.Maps.Views
import Derived.Maps.Ext
import Derived.Maps.RangeWalk
import Derived.StringKeys
namespace Go.Proofs.YtemdnmfldihalaaGreatDoor.Lg
set_option linter.unusedVariables false
end Go.Proofs.YtemdnmfldihalaaGreatDoor.Lg
namespace Go.Proofs.YtemdnmfldihalaaGreatDoor.Lr
open Lg
end Go.Proofs.YtemdnmfldihalaaGreatDoor.Lr
namespace Go.Proofs.YtemdnmfldihalaaGreatDoor.Lr
set_option linter.unusedVariables false
set_option linter.unusedSimpArgs false
open Go.ChangeShapes Go.WideShapes Go.ChangeAt Go.RowKit Lg
def nmO (o : Option Nm) : Nm := o.getD ⟨[],false,false⟩
def vrO (o : Option Vr) : Vr := o.getD ⟨[],false,0⟩
theorem args_step {f : Ex → Except Int Bool} {l : List Ex} {k : Nat} {a : Ex} (h : l[k]? = some a) (s : Bool) : argsK f (l.drop k) s = thenK (f a) fun x => argsK f (l.drop (k + 1)) (x || s) := by
 obtain ⟨hk,rfl⟩ := List.getElem?_eq_some_iff.1 h
 rw [List.drop_eq_getElem_cons hk,argsK]
theorem ExIs.slice {w : World} {B M : Nat} {ex : Ex} {sl : Value} (h : ExIs w B M ex sl) : ∃ p n cap,sl = .slice p n cap := by
 cases M with
 | zero => exact h.elim
 | succ M =>
  obtain ⟨p,n,cap,e,_⟩ := h.parts
  exact ⟨p,n,cap,e⟩
theorem wrap_one (k : Nat) (h : k ≤ 1000000) : IntKind.i64.wrap ((k : Int) + 1) = (k : Int) + 1 := by
 rw [IntKind.wrap_i64]; omega
def Few (ns : List Nm) (wk lt : Nat) : Prop := ns.length ≤ 4 + wk ∧ wk ≤ 300 ∧ lt ≤ 24
theorem stmts_step {f : St → Ks → Except Int Ks} {l : List St} {k : Nat} {a : St} (h : l[k]? = some a) (s : Ks) : stmtsK f (l.drop k) s = thenK (f a s) fun x => stmtsK f (l.drop (k + 1)) x := by
 obtain ⟨hk,rfl⟩ := List.getElem?_eq_some_iff.1 h
 rw [List.drop_eq_getElem_cons hk,stmtsK]
theorem VrIs.cells {w : World} {B : Nat} {vs : List Vr} {g o n cap : Nat} (h : VrIs w B vs (.slice (some ⟨g,o,none⟩) n cap)) (j : Nat) (u : Value) (hj : (vs.flatMap cellsV)[j]? = some u) : w.cell? ((⟨g,o,none⟩ : Addr).add j) = some u := by
 obtain ⟨p,n',cap',h1,h2,h3,h4,h5⟩ := h
 injection h1 with e1 e2 e3
 subst e1
 have hlt := (List.getElem?_eq_some_iff.1 hj).1
 rw [flat_len7 cellsV 3 cellsV_len] at hlt
 obtain ⟨v,hv⟩ : ∃ v,vs[j / 3]? = some v := ⟨_,List.getElem?_eq_getElem (by omega)⟩
 have hd : j = j / 3 * 3 + j % 3 := by omega
 rw [hd,flat_at cellsV 3 cellsV_len vs (j / 3) (j % 3) v hv (by omega)] at hj
 obtain ⟨g',o',k1,k2,k3⟩ := h5 _ v hv
 injection k1 with k1
 injection k1 with k1 k4
 subst k1 k4
 have ha : (⟨g,o,none⟩ : Addr).add j = ⟨g,o + j,none⟩ := by
  simp [Addr.add]
 rw [ha,hd]
 have h3 : j % 3 = 0 ∨ j % 3 = 1 ∨ j % 3 = 2 := by omega
 rcases h3 with e | e | e
 ·rw [e] at hj ⊢; cases hj; exact k3.c0
 ·rw [e] at hj ⊢; cases hj; exact k3.c1
 ·rw [e] at hj ⊢; cases hj; exact k3.c2
theorem VrIs.take {w : World} {B : Nat} {vs : List Vr} {p : Option Addr} {n cap : Nat} (h : VrIs w B vs (.slice p n cap)) (k : Nat) (hk : k ≤ n) : VrIs w B (vs.take k) (.slice p k cap) := by
 obtain ⟨p',n',cap',h1,h2,h3,h4,h5⟩ := h
 injection h1 with e1 e2 e3
 subst e1 e2 e3
 refine ⟨p,k,cap,rfl,by rw [List.length_take]; omega,by omega,by omega,fun j v hj => ?_⟩
 rw [List.getElem?_take] at hj
 by_cases hjk : j < k
 ·rw [if_pos hjk] at hj; exact h5 j v hj
 ·rw [if_neg hjk] at hj; cases hj
theorem take_map {l : List Vr} {k : Nat} {v : Vr} (h : l[k]? = some v) : (l.take (k + 1)).map nmOf = (l.take k).map nmOf ++ [nmOf v] := by
 obtain ⟨hk,rfl⟩ := List.getElem?_eq_some_iff.1 h
 rw [List.take_succ_eq_append_getElem hk,List.map_append]; rfl
theorem check_many {f : Lg.Fn} (h : 4 < f.params.length ∨ 3 < f.arrays.length) : checkK f = 5 := by unfold checkK; rw [if_pos h]
theorem check_twice {f : Lg.Fn} (h : ¬ (4 < f.params.length ∨ 3 < f.arrays.length)) (h2 : twiceK (f.params ++ f.arrays) = true) : checkK f = 7 := by unfold checkK; rw [if_neg h,if_pos h2]
end Go.Proofs.YtemdnmfldihalaaGreatDoor.Lr
namespace Go.Proofs.YtemdnmfldihalaaGreatDoor.Lr
set_option linter.unusedVariables false
set_option linter.unusedSimpArgs false
open Go.ChangeShapes Go.WideShapes Go.ChangeAt Go.RowKit Go.Maps Go.WideMaps Lg
theorem str_keyed : Keyed Tryz.prog 9 := string_keyed Tryz.underlying9
theorem key_str {x : List UInt8} (h : x.length ≤ maxLen) : keyOf Tryz.prog 9 (.string ⟨x.toArray⟩) = some (.string x) := by
 have := keyOf_string_mk (P:=Tryz.prog) Tryz.underlying9 (s:=⟨x.toArray⟩) (by rw [Lib.size_eq]; simpa using h)
 simpa using this
theorem lit_ne {a b : List UInt8} (h : ¬ a = b) : (Lit.string a) ≠ (.string b) := fun e => h (by injection e)
def rdN (v : Value) : Option (DataW Unit × List MemPlace) := match v with
 | .agg ⟨[.bool a,.bool b]⟩ => some (.agg [.lit (.bool a),.lit (.bool b)],[])
 | _ => none
def datN (v : Nm) : DataW Unit := .agg [.lit (.bool v.secret),.lit (.bool v.loop)]
def valN (v : Nm) : Value := .agg #[.bool v.secret,.bool v.loop]
theorem rdN_val (v : Nm) : rdN (valN v) = some (datN v,[]) := rfl
theorem rdN_inv {u : Value} {v : Nm} {ps : List MemPlace} (h : rdN u = some (datN v,ps)) : u = valN v := by
 unfold rdN at h
 split at h
 ·simp only [Option.some.injEq,Prod.mk.injEq,datN,DataW.agg.injEq,List.cons.injEq,DataW.lit.injEq,Lit.bool.injEq,and_true] at h
  obtain ⟨⟨h1,h2⟩,_⟩ := h
  rw [h1,h2]; rfl
 ·cases h
def MapN (w : World) (b n : Nat) (ns : List Nm) : Prop := ∃ D : DataW Unit,w.ownsMap Tryz.prog 9 rdN b n D ∧ ∀ x,(byN ns x = none → Maps.has D (.string x) = false) ∧ ∀ v,byN ns x = some v → Maps.has D (.string x) = true ∧ ∀ z,D.atKey (.string x) z = datN v
theorem zeroN (w : World) : (zeroValue 64).run Tryz.prog w = .ok (valN ⟨[],false,false⟩) w := by kernel_rfl
theorem MapN.look {w : World} {b n : Nat} {ns : List Nm} (h : MapN w b n ns) (x : List UInt8) (hx : x.length ≤ maxLen) :
  (Instr.lookup 62 (.map (some b)) (.string ⟨x.toArray⟩) true).run Tryz.prog w = .ok (.tuple #[valN (nmO (byN ns x)),.bool (byN ns x).isSome]) w := by
 obtain ⟨D,h1,h2⟩ := h
 obtain ⟨u,ps,hrun,hr⟩ := h1.look_ok str_keyed Tryz.underlying62 (zeroN w) (rdN_val _) (key_str hx)
 rw [hrun]
 cases hb : byN ns x with
 | none =>
  have h3 := (h2 x).1 hb
  rw [atKey_of_not_has h3] at hr
  rw [h3,rdN_inv hr]; rfl
 | some v =>
  obtain ⟨h3,h4⟩ := (h2 x).2 v hb
  rw [h4] at hr
  rw [h3,rdN_inv hr]; rfl
theorem MapN.nil (w : World) : MapN (w.alloc (.map #[] 0)) w.heap.size 0 [] := ⟨_,World.ownsMap_made (H:=Unit) w Tryz.prog 9 rdN,fun x => ⟨fun _ => rfl,fun v hv => by cases hv⟩⟩
theorem byN_snoc (ns : List Nm) (v : Nm) (x : List UInt8) : byN (ns ++ [v]) x = (byN ns x).or (if v.name == x then some v else none) := by
 unfold byN
 rw [List.find?_append]
 cases List.find? (fun u => u.name == x) ns with
 | some u => rfl
 | none =>
  rw [List.find?_cons]
  cases v.name == x <;> rfl
theorem MapN.put {w : World} {b n : Nat} {ns : List Nm} (h : MapN w b n ns) (v : Nm) (hx : v.name.length ≤ maxLen) (hn : n < maxLen) (hno : byN ns v.name = none) :
  ∃ w',(Instr.mapUpdate 62 (.map (some b)) (.string ⟨v.name.toArray⟩) (valN v)).run Tryz.prog w = .ok () w' ∧ MapN w' b (n + 1) (ns ++ [v]) ∧ w.grownBy w' (some b) := by
 obtain ⟨D,h1,h2⟩ := h
 obtain ⟨w',hrun,ho,hg⟩ := h1.update str_keyed Tryz.underlying62 hn (key_str hx) (rdN_val v)
 refine ⟨w',hrun,⟨_,ho,fun x => ?_⟩,hg⟩
 have hm := h1.isMap
 by_cases hxv : x = v.name
 ·subst hxv
  refine ⟨fun hb => ?_,fun u hu => ?_⟩
  ·rw [byN_snoc,hno] at hb
   simp at hb
  ·rw [byN_snoc,hno] at hu
   simp at hu
   subst hu
   exact ⟨has_put_same hm (show WideAt.IsKeyLit (.string v.name) from trivial) _,fun z => atKey_put_same hm (show WideAt.IsKeyLit (.string v.name) from trivial) _ z⟩
 ·have hne := lit_ne hxv
  have hb : byN (ns ++ [v]) x = byN ns x := by
   rw [byN_snoc,show (v.name == x) = false by simpa using fun e => hxv e.symm]
   simp
  rw [hb,has_put_other hne]
  refine ⟨(h2 x).1,fun u hu => ⟨((h2 x).2 u hu).1,fun z => ?_⟩⟩
  rw [atKey_put_other hne]; exact ((h2 x).2 u hu).2 z
theorem MapN.cut {w : World} {b n : Nat} {ns : List Nm} {v : Nm} (h : MapN w b n (ns ++ [v])) (hx : v.name.length ≤ maxLen) (hno : byN ns v.name = none) (ty : TypeId) :
  ∃ w',(Builtin.delete_ #[62,9] ty #[.map (some b),.string ⟨v.name.toArray⟩]).run Tryz.prog w = .ok (.tuple #[]) w' ∧ MapN w' b n ns ∧ w.grownBy w' (some b) := by
 obtain ⟨D,h1,h2⟩ := h
 obtain ⟨w',hrun,ho,hg⟩ := h1.drop str_keyed Tryz.underlying62 (key_str hx) ty
 refine ⟨w',hrun,⟨_,ho,fun x => ?_⟩,hg.grown⟩
 by_cases hxv : x = v.name
 ·subst hxv
  exact ⟨fun _ => has_del_same,fun u hu => by rw [hno] at hu; cases hu⟩
 ·have hne := lit_ne hxv
  have hb : byN (ns ++ [v]) x = byN ns x := by
   rw [byN_snoc,show (v.name == x) = false by simpa using fun e => hxv e.symm]
   simp
  rw [has_del_other hne,← hb]
  refine ⟨(h2 x).1,fun u hu => ⟨((h2 x).2 u hu).1,fun z => ?_⟩⟩
  rw [atKey_del_other hne]; exact ((h2 x).2 u hu).2 z
theorem MapN.kept {w w' : World} {b n : Nat} {ns : List Nm} {row : Option Nat} (h : MapN w b n ns) (hg : w.grownBy w' row) (hne : some b ≠ row) : MapN w' b n ns := by
 obtain ⟨D,h1,h2⟩ := h
 exact ⟨D,h1.kept hg hne,h2⟩
theorem MapN.stay {w w' : World} {b n : Nat} {ns : List Nm} (h : MapN w b n ns) (hb : w'.heap[b]? = w.heap[b]?) : MapN w' b n ns := by
 obtain ⟨D,⟨es,clock,k1,k2⟩,h2⟩ := h
 exact ⟨D,⟨es,clock,by rw [hb]; exact k1,k2⟩,h2⟩
def rdA (v : Value) : Option (DataW Unit × List MemPlace) := match v with
 | .agg ⟨[.string s,.bool a,.int .i64 n]⟩ => some (.agg [.lit (.string s.data.toList),.lit (.bool a),.lit (.int .i64 n)],[])
 | _ => none
def datA (v : Vr) : DataW Unit := .agg [.lit (.string v.name),.lit (.bool v.secret),.lit (.int .i64 v.size)]
def valA (v : Vr) : Value := .agg #[.string ⟨v.name.toArray⟩,.bool v.secret,.int .i64 v.size]
theorem rdA_val (v : Vr) : rdA (valA v) = some (datA v,[]) := rfl
theorem rdA_inv {u : Value} {v : Vr} {ps : List MemPlace} (h : rdA u = some (datA v,ps)) : u = valA v := by
 unfold rdA at h
 split at h
 ·rename_i s a n
  simp only [Option.some.injEq,Prod.mk.injEq,datA,DataW.agg.injEq,List.cons.injEq,DataW.lit.injEq,Lit.bool.injEq,Lit.string.injEq,Lit.int.injEq,and_true,true_and] at h
  obtain ⟨⟨h1,h2,h3⟩,_⟩ := h
  unfold valA
  rw [← h1,h2,h3]
 ·cases h
def MapA (w : World) (b n : Nat) (rs : List Vr) : Prop := ∃ D : DataW Unit,w.ownsMap Tryz.prog 9 rdA b n D ∧ ∀ x,(byV rs x = none → Maps.has D (.string x) = false) ∧ ∀ v,byV rs x = some v → Maps.has D (.string x) = true ∧ ∀ z,D.atKey (.string x) z = datA v
theorem zeroA (w : World) : (zeroValue 46).run Tryz.prog w = .ok (valA ⟨[],false,0⟩) w := by kernel_rfl
theorem MapA.look {w : World} {b n : Nat} {rs : List Vr} (h : MapA w b n rs) (x : List UInt8) (hx : x.length ≤ maxLen) :
  (Instr.lookup 59 (.map (some b)) (.string ⟨x.toArray⟩) true).run Tryz.prog w = .ok (.tuple #[valA (vrO (byV rs x)),.bool (byV rs x).isSome]) w := by
 obtain ⟨D,h1,h2⟩ := h
 obtain ⟨u,ps,hrun,hr⟩ := h1.look_ok str_keyed Tryz.underlying59 (zeroA w) (rdA_val _) (key_str hx)
 rw [hrun]
 cases hb : byV rs x with
 | none =>
  have h3 := (h2 x).1 hb
  rw [atKey_of_not_has h3] at hr
  rw [h3,rdA_inv hr]; rfl
 | some v =>
  obtain ⟨h3,h4⟩ := (h2 x).2 v hb
  rw [h4] at hr
  rw [h3,rdA_inv hr]; rfl
theorem MapA.nil (w : World) : MapA (w.alloc (.map #[] 0)) w.heap.size 0 [] := ⟨_,World.ownsMap_made (H:=Unit) w Tryz.prog 9 rdA,fun x => ⟨fun _ => rfl,fun v hv => by cases hv⟩⟩
theorem byV_snoc (ns : List Vr) (v : Vr) (x : List UInt8) : byV (ns ++ [v]) x = (byV ns x).or (if v.name == x then some v else none) := by
 unfold byV
 rw [List.find?_append]
 cases List.find? (fun u => u.name == x) ns with
 | some u => rfl
 | none =>
  rw [List.find?_cons]
  cases v.name == x <;> rfl
theorem MapA.put {w : World} {b n : Nat} {rs : List Vr} (h : MapA w b n rs) (v : Vr) (hx : v.name.length ≤ maxLen) (hn : n < maxLen) (hno : byV rs v.name = none) :
  ∃ w',(Instr.mapUpdate 59 (.map (some b)) (.string ⟨v.name.toArray⟩) (valA v)).run Tryz.prog w = .ok () w' ∧ MapA w' b (n + 1) (rs ++ [v]) ∧ w.grownBy w' (some b) := by
 obtain ⟨D,h1,h2⟩ := h
 obtain ⟨w',hrun,ho,hg⟩ := h1.update str_keyed Tryz.underlying59 hn (key_str hx) (rdA_val v)
 refine ⟨w',hrun,⟨_,ho,fun x => ?_⟩,hg⟩
 have hm := h1.isMap
 by_cases hxv : x = v.name
 ·subst hxv
  refine ⟨fun hb => ?_,fun u hu => ?_⟩
  ·rw [byV_snoc,hno] at hb
   simp at hb
  ·rw [byV_snoc,hno] at hu
   simp at hu
   subst hu
   exact ⟨has_put_same hm (show WideAt.IsKeyLit (.string v.name) from trivial) _,fun z => atKey_put_same hm (show WideAt.IsKeyLit (.string v.name) from trivial) _ z⟩
 ·have hne := lit_ne hxv
  have hb : byV (rs ++ [v]) x = byV rs x := by
   rw [byV_snoc,show (v.name == x) = false by simpa using fun e => hxv e.symm]
   simp
  rw [hb,has_put_other hne]
  refine ⟨(h2 x).1,fun u hu => ⟨((h2 x).2 u hu).1,fun z => ?_⟩⟩
  rw [atKey_put_other hne]; exact ((h2 x).2 u hu).2 z
theorem MapA.stay {w w' : World} {b n : Nat} {rs : List Vr} (h : MapA w b n rs) (hb : w'.heap[b]? = w.heap[b]?) : MapA w' b n rs := by
 obtain ⟨D,⟨es,clock,k1,k2⟩,h2⟩ := h
 exact ⟨D,⟨es,clock,by rw [hb]; exact k1,k2⟩,h2⟩
set_option maxHeartbeats 32000000
set_option maxRecDepth 100000
def resB (r : Except Int Bool) : Bool := match r with
 | .ok b => b
 | .error _ => false
def resE (r : Except Int Bool) : Int := match r with
 | .ok _ => 0
 | .error e => e
def two (r : Except Int Bool) : Value := .tuple #[.bool (resB r),.int .i64 (resE r)]
structure KK (w : World) (k bA nA : Nat) (rs : List Vr) (wk lt : Nat) : Prop where
 box : Bk w k [.map (some bA),.int .i64 (wk : Int),.int .i64 (lt : Int)] 61
 arr : MapA w bA nA rs
 lt : bA < k
theorem KK.below {w w' : World} {k bA nA : Nat} {rs : List Vr} {wk lt : Nat} (h : KK w k bA nA rs wk lt) (hb : Below w.heap.size w w') : KK w' k bA nA rs wk lt :=
 ⟨h.box.fs (Fs.of_below (l:=[]) hb) (by simp),h.arr.stay (hb.block bA (Nat.lt_trans h.lt h.box.lt)),h.lt⟩
theorem MapN.lt {w : World} {b n : Nat} {ns : List Nm} (h : MapN w b n ns) : b < w.heap.size := by
 obtain ⟨D,h1,_⟩ := h
 exact h1.lt
theorem MapN.below {w w' : World} {b n : Nat} {ns : List Nm} (h : MapN w b n ns) (hb : Below w.heap.size w w') : MapN w' b n ns := h.stay (hb.block b h.lt)
theorem name_short {x : List UInt8} (h : isName x = true) : x.length ≤ maxLen := by
 have := (of_decide_eq_true h).2.1
 unfold maxLen; omega
theorem place_any (k bA nA : Nat) (rs : List Vr) (wk lt : Nat) (x : List UInt8) (hx : x.length ≤ maxLen) (p : Ex) (slp : Value) (hsl : ∃ q n c,slp = .slice q n c) (s dark : Bool) (w : World) (h : KK w k bA nA rs wk lt) :
  Calls Tryz.prog 42 #[.pointer (some ⟨k,0,none⟩),.string ⟨x.toArray⟩,.agg (exA p slp),.bool s,.bool dark] w fun r w' => r = .returned (two (placeK rs dark x p s)) ∧ Below w.heap.size w w' := by
 obtain ⟨q,qn,qc,rfl⟩ := hsl
 obtain ⟨pk,pn,px,ps⟩ := p
 obtain ⟨w1,hw1⟩ : ∃ w1,w.alloc (.cells #[.int .i64 pk,.int .i64 pn,.string ⟨px.toArray⟩,.slice q qn qc] 93) = w1 := ⟨_,rfl⟩
 have hb1 : Below w.heap.size w w1 := by rw [← hw1]; exact (Below.refl _ _).alloc (Nat.le_refl _) _
 have HB1 := keep hb1
 have HE1 : Hid (Bk w1 w.heap.size [.int .i64 pk,.int .i64 pn,.string ⟨px.toArray⟩,.slice q qn qc] 93) := by
  show Bk _ _ _ _
  rw [← hw1]; exact Bk.new _ _ _
 have hk1 := h.below hb1
 have c0 := hk1.box.cell 0 rfl
 have hlook := hk1.arr.look x hx
 have HW1 := keep hw1
 obtain ⟨o,ho⟩ : ∃ o,byV rs x = o := ⟨_,rfl⟩
 rw [ho] at hlook
 have HO := keep ho
 have hz1 : w.heap.size < w1.heap.size := HE1.out.lt
 clear h hb1 hw1 hk1 ho
 unfold exA
 cases o with
 | none =>
  have HR : Hid (placeK rs dark x ⟨pk,pn,px,ps⟩ s = .error 6) := by
   show placeK _ _ _ _ _ = _
   unfold placeK
   rw [HO.out]
  unfold vrO valA at hlook
  dsimp only [Option.getD,Option.isSome] at hlook
  go_enter Tryz.func42,Tryz.ntmps42
  go_wp2_with (first | rw [HW1.out])
  go_ret2
  refine ⟨by rw [HR.out]; rfl,?_⟩
  exact HB1.out.trans (((Below.refl _ _).alloc (Nat.le_refl _) _).mono (Nat.le_of_lt hz1))
 | some v =>
  obtain ⟨vn,vs,vz⟩ := v
  unfold vrO valA at hlook
  dsimp only [Option.getD,Option.isSome] at hlook
  obtain ⟨w2,hw2⟩ : ∃ w2,w1.alloc (.cells #[.string ⟨vn.toArray⟩,.bool vs,.int .i64 vz] 46) = w2 := ⟨_,rfl⟩
  have hb2 : Below w1.heap.size w1 w2 := by rw [← hw2]; exact (Below.refl _ _).alloc (Nat.le_refl _) _
  have HB2 := keep (HB1.out.trans (hb2.mono HB1.out.size))
  have HV2 : Hid (Bk w2 w1.heap.size [.string ⟨vn.toArray⟩,.bool vs,.int .i64 vz] 46) := by
   show Bk _ _ _ _
   rw [← hw2]; exact Bk.new _ _ _
  have HE2 := keep (HE1.out.fs (Fs.of_below (l:=[]) hb2) (by simp))
  have e0 := HE2.out.cell 0 rfl
  have e1 := HE2.out.cell 1 rfl
  have v1 := HV2.out.cell 1 rfl
  have v2 := HV2.out.cell 2 rfl
  have HW2 := keep hw2
  obtain ⟨b1,hb1⟩ : ∃ b,(pk == 1) = b := ⟨_,rfl⟩
  obtain ⟨b2,hb2'⟩ : ∃ b,decide (pn < vz) = b := ⟨_,rfl⟩
  have HR : Hid (placeK rs dark x ⟨pk,pn,px,ps⟩ s = if (s || (dark && !(b1 && b2))) = true then .error 10 else .ok vs) := by
   have hb3 : decide (pk = 1) = b1 := by rw [← hb1]; simp [BEq.beq]
   show placeK _ _ _ _ _ = _
   unfold placeK
   rw [HO.out]
   dsimp only
   rw [hb3,hb2']
  clear hb2 hw2
  cases s <;> cases dark <;> cases b1 <;> cases b2
  all_goals (
   go_enter Tryz.func42,Tryz.ntmps42
   go_wp2_with (first | rw [HW1.out] | rw [HW2.out])
   go_ret2
   exact ⟨by rw [HR.out]; rfl,HB2.out⟩)
set_option maxHeartbeats 32000000
set_option maxRecDepth 100000
def KExpr (m : Nat) : Prop := ∀ (M B k bA nA bN nN : Nat) (rs : List Vr) (ns : List Nm) (wk lt : Nat) (dark : Bool) (ex : Ex) (sl : Value) (w : World),m ≤ M → wfE m ex → KK w k bA nA rs wk lt → MapN w bN nN ns → B ≤ w.heap.size → ExIs w B M ex sl →
 Calls Tryz.prog 41 #[.pointer (some ⟨k,0,none⟩),.agg (exA ex sl),.map (some bN),.bool dark] w fun r w' => r = .returned (two (exprK rs ns dark m ex)) ∧ Below w.heap.size w w'
theorem two_ok (b : Bool) : two (.ok b) = .tuple #[.bool b,.int .i64 0] := rfl
theorem two_err (e : Int) : two (.error e) = .tuple #[.bool false,.int .i64 e] := rfl
theorem expr_kinds {rs : List Vr} {ns : List Nm} {dark : Bool} {m : Nat} {ek en : Int} {x : List UInt8} {l : List Ex} (h : wfE (m + 1) ⟨ek,en,x,l⟩) :
  (ek = 1 ∧ l = [] ∧ exprK rs ns dark (m + 1) ⟨ek,en,x,l⟩ = .ok false) ∨ (ek = 2 ∧ l = [] ∧ isName x = true ∧ (byN ns x = none → exprK rs ns dark (m + 1) ⟨ek,en,x,l⟩ = .error 6) ∧ ∀ v,byN ns x = some v → exprK rs ns dark (m + 1) ⟨ek,en,x,l⟩ = .ok v.secret) ∨
  (¬ ek = 1 ∧ ¬ ek = 2 ∧ ¬ ek = 5 ∧ (∀ a ∈ l,wfE m a) ∧ exprK rs ns dark (m + 1) ⟨ek,en,x,l⟩ = argsK (exprK rs ns dark m) l false) ∨
  (ek = 5 ∧ isName x = true ∧ ∃ p,l = [p] ∧ wfE m p ∧ exprK rs ns dark (m + 1) ⟨ek,en,x,l⟩ = thenK (argsK (exprK rs ns dark m) l false) fun s => placeK rs dark x p s) := by
 rcases h with ⟨h1,h2,h3,h4,h5⟩ | ⟨h1,h2,h3,h4⟩ | ⟨h1,h2,h3,h4,h5,h6⟩ | ⟨h1,h2,h3,h4,h5⟩ | ⟨h1,h2,h3,h4,h5⟩
 ·dsimp only at h1 h5; subst h1 h5
  exact .inl ⟨rfl,rfl,by rw [exprK,if_pos rfl]⟩
 ·dsimp only at h1 h3 h4; subst h1 h4
  refine .inr (.inl ⟨rfl,rfl,h3,fun hb => ?_,fun v hb => ?_⟩)
  ·rw [exprK,if_neg (show ¬ (2 : Int) = 1 by decide),if_pos rfl,hb]
  ·rw [exprK,if_neg (show ¬ (2 : Int) = 1 by decide),if_pos rfl,hb]
 ·dsimp only at h1; subst h1
  exact .inr (.inr (.inl ⟨by decide,by decide,by decide,h6,by rw [exprK,if_neg (show ¬ (3 : Int) = 1 by decide),if_neg (show ¬ (3 : Int) = 2 by decide),if_neg (show ¬ (3 : Int) = 5 by decide)]⟩))
 ·dsimp only at h1; subst h1
  exact .inr (.inr (.inl ⟨by decide,by decide,by decide,h5,by rw [exprK,if_neg (show ¬ (4 : Int) = 1 by decide),if_neg (show ¬ (4 : Int) = 2 by decide),if_neg (show ¬ (4 : Int) = 5 by decide)]⟩))
 ·dsimp only at h1 h3 h4; subst h1
  obtain ⟨p,rfl⟩ := List.length_eq_one_iff.1 h4
  refine .inr (.inr (.inr ⟨rfl,h3,p,rfl,h5 p (by simp),?_⟩))
  rw [exprK,if_neg (show ¬ (5 : Int) = 1 by decide),if_neg (show ¬ (5 : Int) = 2 by decide),if_pos rfl,argsK]
  show thenK (exprK rs ns dark m p) (fun s => placeK rs dark x p s) = _
  cases hh : exprK rs ns dark m p with
  | error e => rfl
  | ok s => rw [thenK_ok,thenK_ok,argsK,thenK_ok,Bool.or_false]
theorem kexpr_succ (m : Nat) (ih : KExpr m) : KExpr (m + 1) := by
 intro M B k bA nA bN nN rs ns wk lt dark ex sl w hM hwf hk hn hB hi
 obtain ⟨M,rfl⟩ : ∃ M',M = M' + 1 := ⟨M - 1,by omega⟩
 obtain ⟨ek,en,x,l⟩ := ex
 have hkinds := expr_kinds (rs:=rs) (ns:=ns) (dark:=dark) hwf
 have hwa : ∀ a ∈ l,wfE m a := by
  rcases hkinds with ⟨_,h,_⟩ | ⟨_,h,_⟩ | ⟨_,_,_,h,_⟩ | ⟨_,_,p,h,h2,_⟩
  ·rw [h]; intro a ha; cases ha
  ·rw [h]; intro a ha; cases ha
  ·exact h
  ·rw [h]; intro a ha; rw [List.mem_singleton] at ha; rw [ha]; exact h2
 obtain ⟨qp,qn,qc,rfl,hql,hqc,hqm,hqa⟩ := hi.parts
 have HQL : Hid (l.length = qn) := hql
 have HQA := keep hqa
 have HKi := keep hkinds
 have Hwa := keep hwa
 have Hih := keep ih
 have HK := keep hk
 have HN := keep hn
 obtain ⟨w1,hw1⟩ : ∃ w1,w.alloc (.cells #[.int .i64 ek,.int .i64 en,.string ⟨x.toArray⟩,.slice qp qn qc] 93) = w1 := ⟨_,rfl⟩
 have hb1 : Below w.heap.size w w1 := by rw [← hw1]; exact (Below.refl _ _).alloc (Nat.le_refl _) _
 have HB1 := keep hb1
 have HE1 : Hid (Bk w1 w.heap.size [.int .i64 ek,.int .i64 en,.string ⟨x.toArray⟩,.slice qp qn qc] 93) := by
  show Bk _ _ _ _
  rw [← hw1]; exact Bk.new _ _ _
 have x3 := HE1.out.cell 3 rfl
 have HW1 := keep hw1
 clear hwf hkinds hwa hk hn hi hql hqa ih hb1 hw1
 unfold exA
 go_enter Tryz.func41,Tryz.ntmps41
 go_wp2_with (first | rw [HW1.out])
 go_loopw [20,10] (fun i sv wx => ∃ (j : Nat) (s1 : Bool),j ≤ qn ∧ i = .int .i64 (j : Int) ∧ sv = .bool s1 ∧ argsK (exprK rs ns dark m) l false = argsK (exprK rs ns dark m) (l.drop j) s1 ∧ Bk wx w.heap.size [.int .i64 ek,.int .i64 en,.string ⟨x.toArray⟩,.slice qp qn qc] 93 ∧ Below w.heap.size w wx) (fun i _ _ => qn - (intOf i).toNat)
 case atStart => exact ⟨0,false,by omega,rfl,rfl,rfl,HE1.out,HB1.out⟩
 case round =>
  obtain ⟨j,s1,hjn,rfl,rfl,hargs,hbk,hbx⟩ := hrel
  have HA := keep hargs
  have HE := keep hbk
  have HX := keep hbx
  clear hargs hbk hbx HE1 HB1 x3 HW1
  by_cases hjl : j < qn
  ·have d1 : decide ((j : Int) < (qn : Int)) = true := decide_eq_true (by omega)
   have hjz : (j : Int) < (qn : Int) := by omega
   have hj0 : (0 : Int) ≤ (j : Int) := by omega
   obtain ⟨a,ha⟩ : ∃ a,l[j]? = some a := ⟨_,List.getElem?_eq_getElem (by rw [HQL.out]; exact hjl)⟩
   obtain ⟨g,o,sa,rfl,hg,hat,hsub⟩ := HQA.out j a ha
   have hbo := HX.out.mono hB
   have hat := hat.below hbo hg
   have hsub := hsub.below hbo
   obtain ⟨tp,tn,tc,rfl⟩ := hsub.slice
   have a0 := hat.c0
   have a1 := hat.c1
   have a2 := hat.c2
   have a3 := hat.c3
   have HSt := keep (args_step (f:=exprK rs ns dark m) ha s1)
   have HWa := keep (Hwa.out a (List.mem_of_getElem? ha))
   obtain ⟨ak,an,ax,aa⟩ := a
   simp only at a0 a1 a2 a3
   obtain ⟨w2,hw2⟩ : ∃ w2,wr.alloc (.cells #[.int .i64 ak,.int .i64 an,.string ⟨ax.toArray⟩,.slice tp tn tc] 93) = w2 := ⟨_,rfl⟩
   have hb2 : Below wr.heap.size wr w2 := by rw [← hw2]; exact (Below.refl _ _).alloc (Nat.le_refl _) _
   have hbw := HX.out.trans (hb2.mono HX.out.size)
   have hBr : B ≤ wr.heap.size := Nat.le_trans hB HX.out.size
   have HC := keep (Hih.out M B k bA nA bN nN rs ns wk lt dark ⟨ak,an,ax,aa⟩ (.slice tp tn tc) w2 (by omega) HWa.out (HK.out.below hbw) (HN.out.below hbw) (Nat.le_trans hBr hb2.size) (hsub.below (hb2.mono hBr)))
   have HY2 : Hid (Bk w2 wr.heap.size [.int .i64 ak,.int .i64 an,.string ⟨ax.toArray⟩,.slice tp tn tc] 93) := by
    show Bk _ _ _ _
    rw [← hw2]; exact Bk.new _ _ _
   have HE2 := keep (HE.out.fs (Fs.of_below (l:=[]) hb2) (by simp))
   have HB2 := keep hbw
   have HW2 := keep hw2
   unfold exA at HC
   clear ha hat hsub hbo hb2 hbw hw2 HQA
   go_wp2_with (first
    | rw [HW2.out]
    | refine wpList_load_row rfl 93 (.tmp 12) rfl wr.heap.size rfl 93 #[.int .i64 ak,.int .i64 an,.string ⟨ax.toArray⟩,.slice tp tn tc] (0,0) _ HY2.out Tryz.underlying93 rfl (info_E [.int .i64 ak,.int .i64 an,.string ⟨ax.toArray⟩,.slice tp tn tc] rfl) ?_)
   refine HC.out.mono ?_
   rintro r w3 ⟨rfl,hb3⟩
   have HE3 := keep (HE2.out.fs (Fs.of_below (l:=[]) hb3) (by simp))
   have HB3 := keep (HB2.out.trans (hb3.mono HB2.out.size))
   have HNz := keep (expr_nz rs ns dark m ⟨ak,an,ax,aa⟩)
   clear hb3 HC HY2 HE2 HW2
   cases hres : exprK rs ns dark m ⟨ak,an,ax,aa⟩ with
   | error e =>
    have hne := HNz.out.1 e hres
    have d2 : (e != 0) = true := by simpa using hne
    have HEnd : Hid (exprK rs ns dark (m + 1) ⟨ek,en,x,l⟩ = .error e) := by
     have h0 : argsK (exprK rs ns dark m) l false = .error e := by rw [HA.out,HSt.out,hres]; rfl
     show exprK _ _ _ _ _ = _
     rcases HKi.out with ⟨_,h,_⟩ | ⟨_,h,_⟩ | ⟨_,_,_,_,h⟩ | ⟨_,_,p,_,_,h⟩
     ·rw [h] at h0; cases h0
     ·rw [h] at h0; cases h0
     ·rw [h,h0]
     ·rw [h,h0]; rfl
    rw [two_err]
    clear hne hres HNz
    go_wp2
    go_ret2
    exact ⟨by rw [HEnd.out]; rfl,HB3.out⟩
   | ok s2 =>
    have HArg : Hid (argsK (exprK rs ns dark m) l false = argsK (exprK rs ns dark m) (l.drop (j + 1)) (s2 || s1)) := by
     show argsK _ _ _ = _
     rw [HA.out,HSt.out,hres,thenK_ok]
    rw [two_ok]
    clear hres HNz
    cases s1 with
    | true =>
     go_wp2
     go_roundw
     case rel => exact ⟨j + 1,true,by omega,by go_num,rfl,by rw [HArg.out,Bool.or_true],HE3.out,HB3.out⟩
     case measure => simp [intOf]; omega
    | false =>
     go_wp2
     go_roundw
     case rel => exact ⟨j + 1,s2,by omega,by go_num,rfl,by rw [HArg.out,Bool.or_false],HE3.out,HB3.out⟩
     case measure => simp [intOf]; omega
  ·have hje : j = qn := by omega
   subst hje
   have dl : decide ((j : Int) < (j : Int)) = false := decide_eq_false (by omega)
   have HArg : Hid (argsK (exprK rs ns dark m) l false = .ok s1) := by
    show argsK _ _ _ = _
    rw [HA.out,List.drop_of_length_le (by rw [HQL.out]; exact Nat.le_refl _)]; rfl
   have x0 := HE.out.cell 0 rfl
   clear hjl
   rcases HKi.out with ⟨rfl,hl,hR⟩ | ⟨rfl,hl,hname,hR1,hR2⟩ | ⟨n1,n2,n5,_,hR⟩ | ⟨rfl,hname,p,hl,hwp,hR⟩
   ·have hs1 : s1 = false := by
     have := HArg.out
     rw [hl] at this
     cases this; rfl
    subst hs1
    have HR := keep hR
    clear hl hR
    go_wp2
    go_ret2
    exact ⟨by rw [HR.out]; rfl,HX.out⟩
   ·have hlook := (HN.out.below HX.out).look x (name_short hname)
    have HR1 := keep hR1
    have HR2 := keep hR2
    have x2 := HE.out.cell 2 rfl
    obtain ⟨on,ho⟩ : ∃ o,byN ns x = o := ⟨_,rfl⟩
    rw [ho] at hlook HR1 HR2
    have hbn : ∀ o,Below wr.heap.size wr (wr.alloc o) := fun o => (Below.refl _ _).alloc (Nat.le_refl _) _
    have HBn := keep hbn
    clear hl hR1 hR2 ho hbn
    cases on with
    | none =>
     unfold nmO valN at hlook
     dsimp only [Option.getD,Option.isSome] at hlook
     go_wp2
     go_ret2
     exact ⟨by rw [HR1.out (by trivial)]; rfl,HX.out.trans ((HBn.out _).mono HX.out.size)⟩
    | some v =>
     unfold nmO valN at hlook
     dsimp only [Option.getD,Option.isSome] at hlook
     go_wp2
     go_ret2
     exact ⟨by rw [HR2.out v (by first | rfl | trivial)]; rfl,HX.out.trans ((HBn.out _).mono HX.out.size)⟩
   ·have d2 : (ek == 2) = false := by simpa using n2
    have d5 : (ek == 5) = false := by simpa using n5
    have HR := keep (hR.trans HArg.out)
    clear n1 n2 n5 hR
    go_wp2
    go_ret2
    exact ⟨by rw [HR.out]; rfl,HX.out⟩
   ·subst hl
    obtain ⟨g,o,sp,rfl,hg,hat,hsub⟩ := HQA.out 0 p rfl
    obtain ⟨tp,tn,tc,rfl⟩ := hsub.slice
    have HR : Hid (exprK rs ns dark (m + 1) ⟨5,en,x,[p]⟩ = placeK rs dark x p s1) := by
     show exprK _ _ _ _ _ = _
     rw [hR,HArg.out,thenK_ok]
    obtain ⟨pk,pn,px,pa⟩ := p
    have hj1 : j = 1 := HQL.out.symm
    subst hj1
    have HSS : Hid (∀ W' : World,Bk W' w.heap.size [.int .i64 5,.int .i64 en,.string ⟨x.toArray⟩,.slice (some ⟨g,o,none⟩) 1 qc] 93 → Below w.heap.size w W' → (W'.cell? ⟨w.heap.size,2,none⟩ = some (.string ⟨x.toArray⟩) ∧ W'.cell? ⟨w.heap.size,3,none⟩ = some (.slice (some ⟨g,o,none⟩) 1 qc) ∧ W'.cell? ⟨g,o,none⟩ = some (.int .i64 pk) ∧ W'.cell? ⟨g,o + 1,none⟩ = some (.int .i64 pn) ∧ W'.cell? ⟨g,o + 2,none⟩ = some (.string ⟨px.toArray⟩) ∧ W'.cell? ⟨g,o + 3,none⟩ = some (.slice tp tn tc))) := fun W' h1 h2 => by
     have h := hat.below (h2.mono hB) hg
     simp only [Nat.zero_mul,Nat.add_zero] at h
     exact ⟨h1.cell 2 rfl,h1.cell 3 rfl,h.c0,h.c1,h.c2,h.c3⟩
    have HPl := keep (fun W hW => place_any k bA nA rs wk lt x (name_short hname) ⟨pk,pn,px,pa⟩ (.slice tp tn tc) ⟨_,_,_,rfl⟩ s1 dark W (HK.out.below hW))
    unfold exA at HPl
    have HE4 : Hid (Bk wr.drew w.heap.size [.int .i64 5,.int .i64 en,.string ⟨x.toArray⟩,.slice (some ⟨g,o,none⟩) 1 qc] 93) := HE.out
    have HB4 : Hid (Below w.heap.size w wr.drew) := Below.drew HX.out
    clear hat hsub hR HQA
    go_wp2_with fail
    refine wp_region_noPanic ?_
    refine Ord.wpM_begin (fun W' : World => W'.cell? ⟨w.heap.size,2,none⟩ = some (.string ⟨x.toArray⟩) ∧ W'.cell? ⟨w.heap.size,3,none⟩ = some (.slice (some ⟨g,o,none⟩) 1 qc) ∧ W'.cell? ⟨g,o,none⟩ = some (.int .i64 pk) ∧ W'.cell? ⟨g,o + 1,none⟩ = some (.int .i64 pn) ∧ W'.cell? ⟨g,o + 2,none⟩ = some (.string ⟨px.toArray⟩) ∧ W'.cell? ⟨g,o + 3,none⟩ = some (.slice tp tn tc)) [0,1,2,3,4,5,6,7,8,9,10,11,12,13] (by kernel_rfl) ?_
    generalize wr.drew = w4 at *
    have hS := HSS.out w4 HE4.out HB4.out
    refine Ord.tk (i:=0) (v:=.pointer (some ⟨k,0,none⟩)) (hy:=Or.inl ⟨by rfl,by rintro W' ⟨q0,q1,q2,q3,q4,q5⟩; go_simp⟩) (hS:=hS) (h:=?_)
    try simp only [Act.put,Ord.t,Ord.z,Ord.s]
    refine Ord.tk (i:=1) (v:=.pointer (some ⟨w.heap.size,2,none⟩)) (hy:=Or.inl ⟨by rfl,by rintro W' ⟨q0,q1,q2,q3,q4,q5⟩; go_simp⟩) (hS:=hS) (h:=?_)
    try simp only [Act.put,Ord.t,Ord.z,Ord.s]
    refine Ord.tk (i:=2) (v:=.string ⟨x.toArray⟩) (hy:=Or.inl ⟨by rfl,by rintro W' ⟨q0,q1,q2,q3,q4,q5⟩; go_simp⟩) (hS:=hS) (h:=?_)
    try simp only [Act.put,Ord.t,Ord.z,Ord.s]
    refine Ord.tk (i:=3) (v:=.pointer (some ⟨w.heap.size,3,none⟩)) (hy:=Or.inl ⟨by rfl,by rintro W' ⟨q0,q1,q2,q3,q4,q5⟩; go_simp⟩) (hS:=hS) (h:=?_)
    try simp only [Act.put,Ord.t,Ord.z,Ord.s]
    refine Ord.tk (i:=4) (v:=.slice (some ⟨g,o,none⟩) 1 qc) (hy:=Or.inl ⟨by rfl,by rintro W' ⟨q0,q1,q2,q3,q4,q5⟩; go_simp⟩) (hS:=hS) (h:=?_)
    try simp only [Act.put,Ord.t,Ord.z,Ord.s]
    refine Ord.tk (i:=5) (v:=.pointer (some ⟨g,o,none⟩)) (hy:=Or.inl ⟨by rfl,by rintro W' ⟨q0,q1,q2,q3,q4,q5⟩; go_simp⟩) (hS:=hS) (h:=?_)
    try simp only [Act.put,Ord.t,Ord.z,Ord.s]
    refine Ord.tk (i:=6) (v:=.agg #[.int .i64 pk,.int .i64 pn,.string ⟨px.toArray⟩,.slice tp tn tc]) (hy:=Or.inl ⟨by rfl,by rintro W' ⟨q0,q1,q2,q3,q4,q5⟩; go_simp⟩) (hS:=hS) (h:=?_)
    try simp only [Act.put,Ord.t,Ord.z,Ord.s]
    refine Ord.tk (i:=7) (v:=.bool s1) (hy:=Or.inl ⟨by rfl,by rintro W' ⟨q0,q1,q2,q3,q4,q5⟩; go_simp⟩) (hS:=hS) (h:=?_)
    try simp only [Act.put,Ord.t,Ord.z,Ord.s]
    refine Ord.tk (i:=8) (v:=.bool dark) (hy:=Or.inl ⟨by rfl,by rintro W' ⟨q0,q1,q2,q3,q4,q5⟩; go_simp⟩) (hS:=hS) (h:=?_)
    try simp only [Act.put,Ord.t,Ord.z,Ord.s]
    refine Ord.on (i:=9) (h:=fun K hK => ?_)
    go_simp
    refine (HPl.out w4 HB4.out).mono ?_
    rintro r w5 ⟨rfl,hb5⟩
    have HE5 := keep (HE4.out.fs (Fs.of_below (l:=[]) hb5) (by simp))
    have HB5 := keep (HB4.out.trans (hb5.mono HB4.out.size))
    rw [← HR.out]
    obtain ⟨res,hres⟩ : ∃ r,exprK rs ns dark (m + 1) ⟨5,en,x,[⟨pk,pn,px,pa⟩]⟩ = r := ⟨_,rfl⟩
    rw [hres]
    have HRes := keep hres
    clear hres
    obtain ⟨rb,hrb⟩ : ∃ b,resB res = b := ⟨_,rfl⟩
    obtain ⟨re,hre⟩ : ∃ b,resE res = b := ⟨_,rfl⟩
    have htw : two res = .tuple #[.bool rb,.int .i64 re] := by unfold two; rw [hrb,hre]
    have HTw := keep htw
    rw [htw]
    clear hrb hre htw
    clear hb5 hS HPl HE4 HB4
    go_simp
    refine hK.out _ _ (fun _ => HSS.out _ HE5.out HB5.out) ?_
    clear hK K
    try simp only [Act.put,Ord.t,Ord.z,Ord.s]
    have hS := HSS.out w5 HE5.out HB5.out
    refine Ord.tk (i:=10) (v:=.bool rb) (hy:=Or.inl ⟨by rfl,by rintro W' ⟨q0,q1,q2,q3,q4,q5⟩; go_simp⟩) (hS:=hS) (h:=?_)
    try simp only [Act.put,Ord.t,Ord.z,Ord.s]
    refine Ord.tk (i:=11) (v:=.int .i64 re) (hy:=Or.inl ⟨by rfl,by rintro W' ⟨q0,q1,q2,q3,q4,q5⟩; go_simp⟩) (hS:=hS) (h:=?_)
    try simp only [Act.put,Ord.t,Ord.z,Ord.s]
    refine Ord.on (i:=12) (h:=fun K hK => ?_)
    go_simp
    refine hK.out _ _ (fun _ => HSS.out _ HE5.out HB5.out) ?_
    clear hK K
    try simp only [Act.put,Ord.t,Ord.z,Ord.s]
    refine Ord.on (i:=13) (h:=fun K hK => ?_)
    go_simp
    refine hK.out _ _ (fun _ => HSS.out _ HE5.out HB5.out) ?_
    clear hK K
    try simp only [Act.put,Ord.t,Ord.z,Ord.s]
    refine Ord.wpM_done (by kernel_rfl) ?_ _
    refine NoPanic.normal ?_
    go_wp2
    go_ret2
    exact ⟨by rw [HRes.out,HTw.out]; rfl,HB5.out⟩
theorem kexpr_ok : ∀ m,KExpr m
 | 0 => fun M B k bA nA bN nN rs ns wk lt dark ex sl w hM hwf => hwf.elim
 | m + 1 => kexpr_succ m (kexpr_ok m)
def resK (r : Except Int Ks) : Int := match r with
 | .ok _ => 0
 | .error e => e
def KBlock (m : Nat) : Prop := ∀ (K B k bA nA bN nN : Nat) (rs : List Vr) (ns : List Nm) (wk lt : Nat) (dark : Bool) (l : List St) (sl : Value) (w : World),m ≤ K → m ≤ 10 → (∀ t ∈ l,wfS m t) → KK w k bA nA rs wk lt → MapN w bN nN ns → bN ≠ k → nN ≤ 1000 + wk → Few ns wk lt → B ≤ k → StIs w B 10 (K + 1) l sl →
 Calls Tryz.prog 28 #[.pointer (some ⟨k,0,none⟩),sl,.map (some bN),.bool dark] w fun r w' => r = .returned (.int .i64 (resK (blockK (stmtK rs m dark) l ⟨ns,wk,lt⟩))) ∧ Fs [k] w w' ∧ ∀ k',blockK (stmtK rs m dark) l ⟨ns,wk,lt⟩ = .ok k' → KK w' k bA nA rs k'.work k'.lets
theorem byN_nm (l : List Vr) (x : List UInt8) : byN (l.map nmOf) x = (byV l x).map nmOf := by
 unfold byN byV
 rw [List.find?_map]; rfl
theorem byN_nm_some (l : List Vr) (x : List UInt8) : (byN (l.map nmOf) x).isSome = (byV l x).isSome := by
 rw [byN_nm]; simp
theorem byV_app (l r : List Vr) (x : List UInt8) : (byV (l ++ r) x).isSome = ((byV l x).isSome || (byV r x).isSome) := by
 unfold byV
 rw [List.find?_append]
 cases List.find? (fun v => v.name == x) l <;> simp
theorem twice_par {ps rs : List Vr} {j : Nat} {v : Vr} (h : ps[j]? = some v) : twiceA (ps.take j) (ps.drop j ++ rs) = ((byV (ps.take j) v.name).isSome || twiceA (ps.take (j + 1)) (ps.drop (j + 1) ++ rs)) := by
 obtain ⟨hj,rfl⟩ := List.getElem?_eq_some_iff.1 h
 rw [List.drop_eq_getElem_cons hj,List.cons_append,twiceA,List.take_succ_eq_append_getElem hj]
theorem twice_arr {ps rs : List Vr} {j : Nat} {v : Vr} (h : rs[j]? = some v) : twiceA (ps ++ rs.take j) (rs.drop j) = ((byV ps v.name).isSome || (byV (rs.take j) v.name).isSome || twiceA (ps ++ rs.take (j + 1)) (rs.drop (j + 1))) := by
 obtain ⟨hj,rfl⟩ := List.getElem?_eq_some_iff.1 h
 rw [List.drop_eq_getElem_cons hj,twiceA,byV_app,List.take_succ_eq_append_getElem hj,List.append_assoc]
end Go.Proofs.YtemdnmfldihalaaGreatDoor.Lr
