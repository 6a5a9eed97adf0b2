/- Laid together: LfCat, LfFits, FlBase, FlReads. -/
import Derived.Test.YtpnacanbknejiaaLfGiv
import Derived.Test.YtpnacanbknejiaaGr5
import Derived.Lib.AppendZerosOnto
import Derived.Laws.AppendOwnNone
import Derived.Deep.Upon
import Derived.Deep.AppendLies
import Derived.Test.YtpnacanbknejiaaGr1
namespace Go.Proofs.Ytpnacanbknejiaa.Lr
set_option linter.unusedVariables false
set_option linter.unusedSimpArgs false
open Go.ChangeShapes Go.WideShapes Go.ChangeAt Go.RowKit Lg
def cellsI (x : Int) : List Value := [.int .i64 x]
def nestI (w : World) (X : Nat → Prop) (p : Int) : Prop := True
theorem nestI_nest : Nest nestI := ⟨fun w w' X p h hb => trivial,fun w X Y p h hb => trivial⟩
theorem cellsI_len (p : Int) : (cellsI p).length = 1 := rfl
def RowI (w : World) (lo : Nat) (v : Value) (es : List Int) : Prop := RowX nestI cellsI 1 3 w lo v es
theorem cellsI_one (vs : List Int) (u : Value) (h : u ∈ vs.flatMap cellsI) : u.oneCell' = true := by
 obtain ⟨v,_,hv⟩ := List.mem_flatMap.1 h
 simp only [cellsI,List.mem_cons,List.not_mem_nil,or_false] at hv
 rw [hv]; rfl
theorem cellsI_map (l : List Int) : l.flatMap cellsI = l.map (Value.int .i64) := by
 induction l with
 | nil => rfl
 | cons a l ih => rw [List.flatMap_cons,ih]; rfl
theorem RowI.ints {w : World} {lo : Nat} {v : Value} {es : List Int} (h : RowI w lo v es) (hl : es.length ≤ 17592186044416) : IntsIs w w.heap.size es v := by
 rcases RowX.form cellsI_len h with ⟨h1,h2⟩ | ⟨g,cap,h1,h2,h3,h4,h5⟩
 ·exact ⟨none,0,0,h2,by rw [h1]; rfl,Nat.le_refl _,by omega,fun j t hj => by rw [h1] at hj; simp at hj⟩
 ·refine ⟨some ⟨g,0,none⟩,_,cap,h1,rfl,h2,hl,fun j p hp => ⟨g,0,rfl,by omega,?_⟩⟩
  have := h5 j p 0 _ hp rfl
  rw [Nat.zero_add]
  simpa using this
theorem IntsIs.form {w : World} {B : Nat} {vs : List Int} {p : Option Addr} {n cap : Nat} (h : IntsIs w B vs (.slice p n cap)) : (vs = [] ∧ n = 0) ∨ ∃ g o,p = some ⟨g,o,none⟩ ∧ 0 < vs.length ∧ n = vs.length ∧ ∀ j u,(vs.flatMap cellsI)[j]? = some u → w.cell? ((⟨g,o,none⟩ : Addr).add j) = some u := by
 obtain ⟨p',n',cap',h1,h2,h3,h4,h5⟩ := h
 injection h1 with e1 e2 e3
 subst e1 e2 e3
 cases hv : vs with
 | nil => rw [hv] at h2; exact .inl ⟨rfl,h2.symm⟩
 | cons v r =>
  obtain ⟨g,o,k1,_⟩ := h5 0 v (by rw [hv]; rfl)
  refine .inr ⟨g,o,k1,by simp,by rw [← h2,hv],fun j u hj => ?_⟩
  rw [cellsI_map,List.getElem?_map,Option.map_eq_some_iff,← hv] at hj
  obtain ⟨x,hx,rfl⟩ := hj
  obtain ⟨g',o',q1,q2,q3⟩ := h5 j x hx
  rw [k1] at q1
  cases q1
  rw [show (⟨g,o,none⟩ : Addr).add j = ⟨g,o + j,none⟩ from by simp [Addr.add]]
  exact q3
def sumL (ll : List (List Int)) : Nat := (ll.map List.length).sum
theorem sumL_take (ll : List (List Int)) (j : Nat) (l : List Int) (h : ll[j]? = some l) : sumL (ll.take (j + 1)) = sumL (ll.take j) + l.length := by
 unfold sumL
 rw [List.take_add_one,h,Option.toList_some,List.map_append,List.sum_append]
 simp
theorem sumL_le : ∀ (ll : List (List Int)) (j : Nat),sumL (ll.take j) ≤ sumL ll
 | [],j => by simp [sumL]
 | l :: ll,0 => by simp [sumL]
 | l :: ll,j + 1 => by
  have := sumL_le ll j
  unfold sumL at this ⊢
  simp only [List.take_succ_cons,List.map_cons,List.sum_cons]
  omega
structure Shape (ps rs : List Vr) (ws : List Int) (aa : List (List Int)) : Prop where
 w : ws.length = ps.length
 a : aa.length = rs.length
 s : ∀ (i : Nat) (v : Vr) (a : List Int),rs[i]? = some v → aa[i]? = some a → (a.length : Int) = v.size
def AllW (ws : List Int) (aa : List (List Int)) : Prop := (∀ x ∈ ws,isW x) ∧ ∀ a ∈ aa,∀ x ∈ a,isW x
inductive FitR (ps rs : List Vr) (ws : List Int) (aa : List (List Int)) : Int → Prop
 | many : ¬ Shape ps rs ws aa → FitR ps rs ws aa 5
 | range : Shape ps rs ws aa → ¬ AllW ws aa → FitR ps rs ws aa 3
 | ok : Shape ps rs ws aa → AllW ws aa → FitR ps rs ws aa 0
theorem FitR.same {ps rs : List Vr} {ws : List Int} {aa : List (List Int)} {c d : Int} (h : FitR ps rs ws aa c) (k : FitR ps rs ws aa d) : c = d := by
 cases h <;> cases k <;> first | rfl | contradiction
def GvIs (w : World) (B : Nat) (ws : List Int) (aa : List (List Int)) (v : Value) : Prop := ∃ s1 s2,v = .agg #[s1,s2] ∧ IntsIs w B ws s1 ∧ ArrsIs w B aa s2
theorem GvIs.below {w w' : World} {B : Nat} {ws : List Int} {aa : List (List Int)} {v : Value} (h : GvIs w B ws aa v) (hb : Below B w w') : GvIs w' B ws aa v := by
 obtain ⟨s1,s2,h1,h2,h3⟩ := h
 exact ⟨s1,s2,h1,h2.below hb,h3.below hb⟩
end Go.Proofs.Ytpnacanbknejiaa.Lr
namespace Go.Proofs.Ytpnacanbknejiaa.Fl
set_option linter.unusedVariables false
set_option linter.unusedSimpArgs false
open Go.ChangeShapes Go.WideShapes Go.ChangeAt Go.RowKit Lg Lr
def ixA (i : Ix) : Array Value := #[.int .i64 i.op,.int .i64 i.d,.int .i64 i.a,.int .i64 i.b,.int .i64 i.c,.int .i64 i.imm]
structure IxAt (w : World) (g k : Nat) (i : Ix) : Prop where
 c0 : w.cell? ⟨g,k,none⟩ = some (.int .i64 i.op)
 c1 : w.cell? ⟨g,k + 1,none⟩ = some (.int .i64 i.d)
 c2 : w.cell? ⟨g,k + 2,none⟩ = some (.int .i64 i.a)
 c3 : w.cell? ⟨g,k + 3,none⟩ = some (.int .i64 i.b)
 c4 : w.cell? ⟨g,k + 4,none⟩ = some (.int .i64 i.c)
 c5 : w.cell? ⟨g,k + 5,none⟩ = some (.int .i64 i.imm)
theorem IxAt.below {w w' : World} {B g k : Nat} {i : Ix} (h : IxAt w g k i) (hb : Below B w w') (hg : g < B) : IxAt w' g k i :=
 ⟨by rw [cell_below hb hg]; exact h.c0,by rw [cell_below hb hg]; exact h.c1,by rw [cell_below hb hg]; exact h.c2,by rw [cell_below hb hg]; exact h.c3,by rw [cell_below hb hg]; exact h.c4,by rw [cell_below hb hg]; exact h.c5⟩
def CodeIs (w : World) (B : Nat) (l : List Ix) (v : Value) : Prop := ∃ (p : Option Addr) (n cap : Nat),v = .slice p n cap ∧ l.length = n ∧ n ≤ cap ∧ n ≤ 17592186044416 ∧ ∀ j i,l[j]? = some i → ∃ g o,p = some ⟨g,o,none⟩ ∧ g < B ∧ IxAt w g (o + j * 6) i
def BoolsIs (w : World) (B : Nat) (l : List Bool) (v : Value) : Prop := ∃ (p : Option Addr) (n cap : Nat),v = .slice p n cap ∧ l.length = n ∧ n ≤ cap ∧ n ≤ 281474976710656 ∧ ∀ j x,l[j]? = some x → ∃ g o,p = some ⟨g,o,none⟩ ∧ g < B ∧ w.cell? ⟨g,o + j,none⟩ = some (.bool x)
theorem CodeIs.below {w w' : World} {B : Nat} {l : List Ix} {v : Value} (h : CodeIs w B l v) (hb : Below B w w') : CodeIs w' B l v := by
 obtain ⟨p,n,cap,h1,h2,h3,h4,h5⟩ := h
 refine ⟨p,n,cap,h1,h2,h3,h4,fun j x hj => ?_⟩
 obtain ⟨g,o,k1,k2,k3⟩ := h5 j x hj
 exact ⟨g,o,k1,k2,k3.below hb k2⟩
theorem CodeIs.mono {w : World} {B B' : Nat} {l : List Ix} {v : Value} (h : CodeIs w B l v) (hB : B ≤ B') : CodeIs w B' l v := by
 obtain ⟨p,n,cap,h1,h2,h3,h4,h5⟩ := h
 refine ⟨p,n,cap,h1,h2,h3,h4,fun j x hj => ?_⟩
 obtain ⟨g,o,k1,k2,k3⟩ := h5 j x hj
 exact ⟨g,o,k1,by omega,k3⟩
theorem BoolsIs.below {w w' : World} {B : Nat} {l : List Bool} {v : Value} (h : BoolsIs w B l v) (hb : Below B w w') : BoolsIs w' B l v := by
 obtain ⟨p,n,cap,h1,h2,h3,h4,h5⟩ := h
 refine ⟨p,n,cap,h1,h2,h3,h4,fun j x hj => ?_⟩
 obtain ⟨g,o,k1,k2,k3⟩ := h5 j x hj
 exact ⟨g,o,k1,k2,by rw [cell_below hb k2]; exact k3⟩
theorem BoolsIs.mono {w : World} {B B' : Nat} {l : List Bool} {v : Value} (h : BoolsIs w B l v) (hB : B ≤ B') : BoolsIs w B' l v := by
 obtain ⟨p,n,cap,h1,h2,h3,h4,h5⟩ := h
 refine ⟨p,n,cap,h1,h2,h3,h4,fun j x hj => ?_⟩
 obtain ⟨g,o,k1,k2,k3⟩ := h5 j x hj
 exact ⟨g,o,k1,by omega,k3⟩
theorem VrIs_mono {w : World} {B B' : Nat} {l : List Vr} {v : Value} (h : VrIs w B l v) (hB : B ≤ B') : VrIs w B' l v := by
 obtain ⟨p,n,c,h1,h2,h3,h4,h5⟩ := h
 refine ⟨p,n,c,h1,h2,h3,h4,fun j x hj => ?_⟩
 obtain ⟨g,o,k1,k2,k3⟩ := h5 j x hj
 exact ⟨g,o,k1,by omega,k3⟩
structure FxIs (w : World) (B : Nat) (f : Fx) (s1 s2 s3 : Value) : Prop where
 code : CodeIs w B f.code s1
 sec : BoolsIs w B f.sec s2
 arrs : VrIs w B f.arrs s3
theorem FxIs.below {w w' : World} {B : Nat} {f : Fx} {s1 s2 s3 : Value} (h : FxIs w B f s1 s2 s3) (hb : Below B w w') : FxIs w' B f s1 s2 s3 := ⟨h.code.below hb,h.sec.below hb,h.arrs.below hb⟩
theorem FxIs.mono {w : World} {B B' : Nat} {f : Fx} {s1 s2 s3 : Value} (h : FxIs w B f s1 s2 s3) (hB : B ≤ B') : FxIs w B' f s1 s2 s3 := ⟨h.code.mono hB,h.sec.mono hB,VrIs_mono h.arrs hB⟩
theorem within_any (n size : Int) (w : World) : Calls Try.prog 42 #[.int .i64 n,.int .i64 size] w fun r w' => r = .returned (.bool (wi n size)) ∧ w' = w := by
 unfold wi
 by_cases h0 : 0 ≤ n
 ·have d0 : decide (0 ≤ n) = true := decide_eq_true h0
  rw [d0]
  go_enter Try.func42,Try.ntmps42
  go_wp2
  go_ret
  exact ⟨by simp,rfl⟩
 ·have d0 : decide (0 ≤ n) = false := decide_eq_false h0
  rw [d0]
  go_enter Try.func42,Try.ntmps42
  go_wp2
  go_ret
  exact ⟨by simp,rfl⟩
set_option maxHeartbeats 32000000
set_option maxRecDepth 100000
theorem ints_new (w : World) (l : List Int) (hl : l.length ≤ 100) : IntsIs (w.alloc (.cells (l.map (Value.int .i64)).toArray 3)) (w.alloc (.cells (l.map (Value.int .i64)).toArray 3)).heap.size l (.slice (some ⟨w.heap.size,0,none⟩) l.length l.length) := by
 have hk := Bk.new w (l.map (Value.int .i64)) 3
 refine ⟨_,_,_,rfl,rfl,Nat.le_refl _,by omega,fun j x hj => ⟨_,0,rfl,hk.lt,?_⟩⟩
 rw [Nat.zero_add]
 exact hk.cell j (by rw [List.getElem?_map,hj]; rfl)
theorem ints_nil (w : World) (B : Nat) : IntsIs w B [] (.slice none 0 0) := ⟨none,0,0,rfl,rfl,Nat.le_refl _,by omega,fun j x hj => by cases hj⟩
def RdP (i : Ix) (w : World) (r : Ending) (w' : World) : Prop := ∃ v,r = .returned v ∧ IntsIs w' w'.heap.size (rds i) v ∧ Below w.heap.size w w'
theorem RdP.mk {i : Ix} {w : World} {o : Obj} (l : List Int) (hl : l.length ≤ 100) (he : rds i = l) : RdP i w (.returned (.slice (some ⟨w.heap.size + 1,0,none⟩) l.length l.length)) ((w.alloc o).alloc (.cells (l.map (Value.int .i64)).toArray 3)) := by
 have h := ints_new (w.alloc o) l hl
 rw [show (w.alloc o).heap.size = w.heap.size + 1 by simp] at h
 exact ⟨_,rfl,by rw [he]; exact h,((Below.refl _ _).alloc (Nat.le_refl _) _).alloc (by simp) _⟩
theorem reads_any (i : Ix) (w : World) : Calls Try.prog 12 #[.agg (ixA i)] w fun r w' => RdP i w r w' := by
 obtain ⟨op,d,a,b,c,imm⟩ := i
 by_cases h0 : 1 ≤ op ∧ op ≤ 12
 ·have d0 : decide (1 ≤ op) = true := decide_eq_true h0.1
  have d1 : decide (op ≤ 12) = true := decide_eq_true h0.2
  have HE : Hid (rds ⟨op,d,a,b,c,imm⟩ = [a,b]) := by show _ = _; unfold rds; rw [if_pos h0]
  clear h0
  unfold ixA
  dsimp only
  go_enter Try.func12,Try.ntmps12
  go_wp2
  go_ret
  exact RdP.mk [a,b] (by simp) HE.out
 ·have HN := keep h0
  have e0 : (decide (1 ≤ op) && decide (op ≤ 12)) = false := by rw [Bool.and_eq_false_iff,decide_eq_false_iff_not,decide_eq_false_iff_not]; omega
  by_cases h3 : op = 13
  ·subst h3
   unfold ixA
   dsimp only
   clear h0 e0
   go_enter Try.func12,Try.ntmps12
   go_wp2
   go_ret
   exact RdP.mk [a,b,c] (by simp) (by unfold rds; rw [if_neg HN.out,if_pos rfl])
  ·by_cases h7 : op = 17
   ·subst h7
    unfold ixA
    dsimp only
    clear h0 e0 h3
    go_enter Try.func12,Try.ntmps12
    go_wp2
    go_ret
    exact RdP.mk [a,d] (by simp) rfl
   ·by_cases h5 : op = 15
    ·subst h5
     unfold ixA
     dsimp only
     clear h0 e0 h3 h7
     go_enter Try.func12,Try.ntmps12
     go_wp2
     go_ret
     exact RdP.mk [a] (by simp) rfl
    ·by_cases h6 : op = 16
     ·subst h6
      unfold ixA
      dsimp only
      clear h0 e0 h3 h7 h5
      go_enter Try.func12,Try.ntmps12
      go_wp2
      go_ret
      exact RdP.mk [a] (by simp) rfl
     ·by_cases h9 : op = 19
      ·subst h9
       unfold ixA
       dsimp only
       clear h0 e0 h3 h7 h5 h6
       go_enter Try.func12,Try.ntmps12
       go_wp2
       go_ret
       exact RdP.mk [a] (by simp) rfl
      ·by_cases h2 : op = 20
       ·subst h2
        unfold ixA
        dsimp only
        clear h0 e0 h3 h7 h5 h6 h9
        go_enter Try.func12,Try.ntmps12
        go_wp2
        go_ret
        exact RdP.mk [a] (by simp) rfl
       ·have HE : Hid (rds ⟨op,d,a,b,c,imm⟩ = []) := by
         show _ = _
         unfold rds
         rw [if_neg HN.out,if_neg h3,if_neg h7,if_neg (by dsimp only; omega)]
        have k3 : (op == 13) = false := by simpa using h3
        have k7 : (op == 17) = false := by simpa using h7
        have k5 : (op == 15) = false := by simpa using h5
        have k6 : (op == 16) = false := by simpa using h6
        have k9 : (op == 19) = false := by simpa using h9
        have k2 : (op == 20) = false := by simpa using h2
        have HF : Hid (∀ o : Obj,RdP ⟨op,d,a,b,c,imm⟩ w (.returned (.slice none 0 0)) (w.alloc o)) := fun o => ⟨_,rfl,by rw [HE.out]; exact ints_nil _ _,(Below.refl _ _).alloc (Nat.le_refl _) _⟩
        clear HE
        unfold ixA
        dsimp only
        by_cases q1 : 1 ≤ op
        ·have d0 : decide (1 ≤ op) = true := decide_eq_true q1
         have d1 : decide (op ≤ 12) = false := decide_eq_false (by omega)
         clear h0 e0
         go_enter Try.func12,Try.ntmps12
         go_wp2
         go_ret
         exact HF.out _
        ·have d0 : decide (1 ≤ op) = false := decide_eq_false q1
         clear h0 e0
         go_enter Try.func12,Try.ntmps12
         go_wp2
         go_ret
         exact HF.out _
end Go.Proofs.Ytpnacanbknejiaa.Fl
