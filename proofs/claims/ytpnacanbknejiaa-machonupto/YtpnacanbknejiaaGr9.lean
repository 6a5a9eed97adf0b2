/- Laid together: FlBase, FlReads. -/
import Derived.Test.YtpnacanbknejiaaFlPlain
import Derived.Test.YtpnacanbknejiaaLfFits
namespace Go.Proofs.Ytpnacanbknejiaa.Fl
set_option maxHeartbeats 32000000
set_option maxRecDepth 100000
set_option linter.unusedVariables false
set_option linter.unusedSimpArgs false
open Go.ChangeShapes Go.WideShapes Go.ChangeAt Go.RowKit Lg Lr
def ixA (i : Ix) : Array Value := #[.int .i64 i.op,.int .i64 i.d,.int .i64 i.a,.int .i64 i.b,.int .i64 i.c,.int .i64 i.imm]
structure IxAt (w : World) (g k : Nat) (i : Ix) : Prop where
 c0 : w.cell? ⟨g,k,none⟩ = some (.int .i64 i.op)
 c1 : w.cell? ⟨g,k + 1,none⟩ = some (.int .i64 i.d)
 c2 : w.cell? ⟨g,k + 2,none⟩ = some (.int .i64 i.a)
 c3 : w.cell? ⟨g,k + 3,none⟩ = some (.int .i64 i.b)
 c4 : w.cell? ⟨g,k + 4,none⟩ = some (.int .i64 i.c)
 c5 : w.cell? ⟨g,k + 5,none⟩ = some (.int .i64 i.imm)
theorem IxAt.below {w w' : World} {B g k : Nat} {i : Ix} (h : IxAt w g k i) (hb : Below B w w') (hg : g < B) : IxAt w' g k i :=
 ⟨by rw [cell_below hb hg]; exact h.c0,by rw [cell_below hb hg]; exact h.c1,by rw [cell_below hb hg]; exact h.c2,by rw [cell_below hb hg]; exact h.c3,by rw [cell_below hb hg]; exact h.c4,by rw [cell_below hb hg]; exact h.c5⟩
def CodeIs (w : World) (B : Nat) (l : List Ix) (v : Value) : Prop := ∃ (p : Option Addr) (n cap : Nat),v = .slice p n cap ∧ l.length = n ∧ n ≤ cap ∧ n ≤ 17592186044416 ∧ ∀ j i,l[j]? = some i → ∃ g o,p = some ⟨g,o,none⟩ ∧ g < B ∧ IxAt w g (o + j * 6) i
def BoolsIs (w : World) (B : Nat) (l : List Bool) (v : Value) : Prop := ∃ (p : Option Addr) (n cap : Nat),v = .slice p n cap ∧ l.length = n ∧ n ≤ cap ∧ n ≤ 281474976710656 ∧ ∀ j x,l[j]? = some x → ∃ g o,p = some ⟨g,o,none⟩ ∧ g < B ∧ w.cell? ⟨g,o + j,none⟩ = some (.bool x)
theorem CodeIs.below {w w' : World} {B : Nat} {l : List Ix} {v : Value} (h : CodeIs w B l v) (hb : Below B w w') : CodeIs w' B l v := by
 obtain ⟨p,n,cap,h1,h2,h3,h4,h5⟩ := h
 refine ⟨p,n,cap,h1,h2,h3,h4,fun j x hj => ?_⟩
 obtain ⟨g,o,k1,k2,k3⟩ := h5 j x hj
 exact ⟨g,o,k1,k2,k3.below hb k2⟩
theorem CodeIs.mono {w : World} {B B' : Nat} {l : List Ix} {v : Value} (h : CodeIs w B l v) (hB : B ≤ B') : CodeIs w B' l v := by
 obtain ⟨p,n,cap,h1,h2,h3,h4,h5⟩ := h
 refine ⟨p,n,cap,h1,h2,h3,h4,fun j x hj => ?_⟩
 obtain ⟨g,o,k1,k2,k3⟩ := h5 j x hj
 exact ⟨g,o,k1,by omega,k3⟩
theorem BoolsIs.below {w w' : World} {B : Nat} {l : List Bool} {v : Value} (h : BoolsIs w B l v) (hb : Below B w w') : BoolsIs w' B l v := by
 obtain ⟨p,n,cap,h1,h2,h3,h4,h5⟩ := h
 refine ⟨p,n,cap,h1,h2,h3,h4,fun j x hj => ?_⟩
 obtain ⟨g,o,k1,k2,k3⟩ := h5 j x hj
 exact ⟨g,o,k1,k2,by rw [cell_below hb k2]; exact k3⟩
theorem BoolsIs.mono {w : World} {B B' : Nat} {l : List Bool} {v : Value} (h : BoolsIs w B l v) (hB : B ≤ B') : BoolsIs w B' l v := by
 obtain ⟨p,n,cap,h1,h2,h3,h4,h5⟩ := h
 refine ⟨p,n,cap,h1,h2,h3,h4,fun j x hj => ?_⟩
 obtain ⟨g,o,k1,k2,k3⟩ := h5 j x hj
 exact ⟨g,o,k1,by omega,k3⟩
theorem VrIs_mono {w : World} {B B' : Nat} {l : List Vr} {v : Value} (h : VrIs w B l v) (hB : B ≤ B') : VrIs w B' l v := by
 obtain ⟨p,n,c,h1,h2,h3,h4,h5⟩ := h
 refine ⟨p,n,c,h1,h2,h3,h4,fun j x hj => ?_⟩
 obtain ⟨g,o,k1,k2,k3⟩ := h5 j x hj
 exact ⟨g,o,k1,by omega,k3⟩
theorem ArrsIs_mono {w : World} {B B' : Nat} {l : List (List Int)} {v : Value} (h : ArrsIs w B l v) (hB : B ≤ B') : ArrsIs w B' l v := by
 obtain ⟨p,n,c,h1,h2,h3,h4,h5⟩ := h
 refine ⟨p,n,c,h1,h2,h3,h4,fun j x hj => ?_⟩
 obtain ⟨g,o,s,k1,k2,k3,k4⟩ := h5 j x hj
 exact ⟨g,o,s,k1,by omega,k3,k4.mono hB⟩
structure FxIs (w : World) (B : Nat) (f : Fx) (s1 s2 s3 : Value) : Prop where
 code : CodeIs w B f.code s1
 sec : BoolsIs w B f.sec s2
 arrs : VrIs w B f.arrs s3
theorem FxIs.below {w w' : World} {B : Nat} {f : Fx} {s1 s2 s3 : Value} (h : FxIs w B f s1 s2 s3) (hb : Below B w w') : FxIs w' B f s1 s2 s3 := ⟨h.code.below hb,h.sec.below hb,h.arrs.below hb⟩
theorem FxIs.mono {w : World} {B B' : Nat} {f : Fx} {s1 s2 s3 : Value} (h : FxIs w B f s1 s2 s3) (hB : B ≤ B') : FxIs w B' f s1 s2 s3 := ⟨h.code.mono hB,h.sec.mono hB,VrIs_mono h.arrs hB⟩
def fxA (f : Fx) (s1 s2 s3 : Value) : Array Value := #[s1,s2,.int .i64 f.params,s3]
theorem within_any (n size : Int) (w : World) : Calls Try.prog 42 #[.int .i64 n,.int .i64 size] w fun r w' => r = .returned (.bool (wi n size)) ∧ w' = w := by
 unfold wi
 by_cases h0 : 0 ≤ n
 ·have d0 : decide (0 ≤ n) = true := decide_eq_true h0
  rw [d0]
  go_enter Try.func42,Try.ntmps42
  go_wp2
  go_ret
  exact ⟨by simp,rfl⟩
 ·have d0 : decide (0 ≤ n) = false := decide_eq_false h0
  rw [d0]
  go_enter Try.func42,Try.ntmps42
  go_wp2
  go_ret
  exact ⟨by simp,rfl⟩
theorem makes_any (i : Ix) (w : World) : Calls Try.prog 14 #[.agg (ixA i)] w fun r w' => r = .returned (.bool (mks i)) ∧ Below w.heap.size w w' := by
 obtain ⟨op,d,a,b,c,imm⟩ := i
 unfold mks ixA
 dsimp only
 have HB : Hid (Below w.heap.size w (w.alloc (.cells #[.int .i64 op,.int .i64 d,.int .i64 a,.int .i64 b,.int .i64 c,.int .i64 imm] 35))) := (Below.refl _ _).alloc (Nat.le_refl _) _
 by_cases h0 : 1 ≤ op
 ·have d0 : decide (1 ≤ op) = true := decide_eq_true h0
  rw [d0]
  go_enter Try.func14,Try.ntmps14
  go_wp2
  go_ret
  exact ⟨by simp,HB.out⟩
 ·have d0 : decide (1 ≤ op) = false := decide_eq_false h0
  rw [d0]
  go_enter Try.func14,Try.ntmps14
  go_wp2
  go_ret
  exact ⟨by simp,HB.out⟩
theorem ints_new (w : World) (l : List Int) (hl : l.length ≤ 100) : IntsIs (w.alloc (.cells (l.map (Value.int .i64)).toArray 3)) (w.alloc (.cells (l.map (Value.int .i64)).toArray 3)).heap.size l (.slice (some ⟨w.heap.size,0,none⟩) l.length l.length) := by
 have hk := Bk.new w (l.map (Value.int .i64)) 3
 refine ⟨_,_,_,rfl,rfl,Nat.le_refl _,by omega,fun j x hj => ⟨_,0,rfl,hk.lt,?_⟩⟩
 rw [Nat.zero_add]
 exact hk.cell j (by rw [List.getElem?_map,hj]; rfl)
theorem ints_nil (w : World) (B : Nat) : IntsIs w B [] (.slice none 0 0) := ⟨none,0,0,rfl,rfl,Nat.le_refl _,by omega,fun j x hj => by cases hj⟩
def RdP (i : Ix) (w : World) (r : Ending) (w' : World) : Prop := ∃ v,r = .returned v ∧ IntsIs w' w'.heap.size (rds i) v ∧ Below w.heap.size w w'
theorem RdP.mk {i : Ix} {w : World} {o : Obj} (l : List Int) (hl : l.length ≤ 100) (he : rds i = l) : RdP i w (.returned (.slice (some ⟨w.heap.size + 1,0,none⟩) l.length l.length)) ((w.alloc o).alloc (.cells (l.map (Value.int .i64)).toArray 3)) := by
 have h := ints_new (w.alloc o) l hl
 rw [show (w.alloc o).heap.size = w.heap.size + 1 by simp] at h
 exact ⟨_,rfl,by rw [he]; exact h,((Below.refl _ _).alloc (Nat.le_refl _) _).alloc (by simp) _⟩
theorem reads_any (i : Ix) (w : World) : Calls Try.prog 12 #[.agg (ixA i)] w fun r w' => RdP i w r w' := by
 obtain ⟨op,d,a,b,c,imm⟩ := i
 by_cases h0 : 1 ≤ op ∧ op ≤ 12
 ·have d0 : decide (1 ≤ op) = true := decide_eq_true h0.1
  have d1 : decide (op ≤ 12) = true := decide_eq_true h0.2
  have HE : Hid (rds ⟨op,d,a,b,c,imm⟩ = [a,b]) := by show _ = _; unfold rds; rw [if_pos h0]
  clear h0
  unfold ixA
  dsimp only
  go_enter Try.func12,Try.ntmps12
  go_wp2
  go_ret
  exact RdP.mk [a,b] (by simp) HE.out
 ·have HN := keep h0
  have e0 : (decide (1 ≤ op) && decide (op ≤ 12)) = false := by rw [Bool.and_eq_false_iff,decide_eq_false_iff_not,decide_eq_false_iff_not]; omega
  by_cases h3 : op = 13
  ·subst h3
   unfold ixA
   dsimp only
   clear h0 e0
   go_enter Try.func12,Try.ntmps12
   go_wp2
   go_ret
   exact RdP.mk [a,b,c] (by simp) (by unfold rds; rw [if_neg HN.out,if_pos rfl])
  ·by_cases h7 : op = 17
   ·subst h7
    unfold ixA
    dsimp only
    clear h0 e0 h3
    go_enter Try.func12,Try.ntmps12
    go_wp2
    go_ret
    exact RdP.mk [a,d] (by simp) rfl
   ·by_cases h5 : op = 15
    ·subst h5
     unfold ixA
     dsimp only
     clear h0 e0 h3 h7
     go_enter Try.func12,Try.ntmps12
     go_wp2
     go_ret
     exact RdP.mk [a] (by simp) rfl
    ·by_cases h6 : op = 16
     ·subst h6
      unfold ixA
      dsimp only
      clear h0 e0 h3 h7 h5
      go_enter Try.func12,Try.ntmps12
      go_wp2
      go_ret
      exact RdP.mk [a] (by simp) rfl
     ·by_cases h9 : op = 19
      ·subst h9
       unfold ixA
       dsimp only
       clear h0 e0 h3 h7 h5 h6
       go_enter Try.func12,Try.ntmps12
       go_wp2
       go_ret
       exact RdP.mk [a] (by simp) rfl
      ·by_cases h2 : op = 20
       ·subst h2
        unfold ixA
        dsimp only
        clear h0 e0 h3 h7 h5 h6 h9
        go_enter Try.func12,Try.ntmps12
        go_wp2
        go_ret
        exact RdP.mk [a] (by simp) rfl
       ·have HE : Hid (rds ⟨op,d,a,b,c,imm⟩ = []) := by
         show _ = _
         unfold rds
         rw [if_neg HN.out,if_neg h3,if_neg h7,if_neg (by dsimp only; omega)]
        have k3 : (op == 13) = false := by simpa using h3
        have k7 : (op == 17) = false := by simpa using h7
        have k5 : (op == 15) = false := by simpa using h5
        have k6 : (op == 16) = false := by simpa using h6
        have k9 : (op == 19) = false := by simpa using h9
        have k2 : (op == 20) = false := by simpa using h2
        have HF : Hid (∀ o : Obj,RdP ⟨op,d,a,b,c,imm⟩ w (.returned (.slice none 0 0)) (w.alloc o)) := fun o => ⟨_,rfl,by rw [HE.out]; exact ints_nil _ _,(Below.refl _ _).alloc (Nat.le_refl _) _⟩
        clear HE
        unfold ixA
        dsimp only
        by_cases q1 : 1 ≤ op
        ·have d0 : decide (1 ≤ op) = true := decide_eq_true q1
         have d1 : decide (op ≤ 12) = false := decide_eq_false (by omega)
         clear h0 e0
         go_enter Try.func12,Try.ntmps12
         go_wp2
         go_ret
         exact HF.out _
        ·have d0 : decide (1 ≤ op) = false := decide_eq_false q1
         clear h0 e0
         go_enter Try.func12,Try.ntmps12
         go_wp2
         go_ret
         exact HF.out _
end Go.Proofs.Ytpnacanbknejiaa.Fl
