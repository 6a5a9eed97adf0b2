/- The maker of what is done otherwise, as it lies: a map of numbers, rows, a block; what turns; slices.Contains. -/
import Derived.Test.YtfbmkcogkiejnaaHgPlain
import Derived.Test.YtfbmkcogkiejnaaFlRun
import Derived.Test.YtfbmkcogkiejnaaGr19
import Derived.Maps.Own
import Derived.Maps.OwnSet
import Derived.Maps.Keyed
import Derived.Maps.Views
import Derived.Maps.Ext
import Derived.Deep.MidRow
namespace Go.Proofs.Ytfbmkcogkiejnaa.Hg
set_option maxHeartbeats 32000000
set_option maxRecDepth 100000
set_option linter.unusedVariables false
set_option linter.unusedSimpArgs false
open Go.ChangeShapes Go.WideShapes Go.ChangeAt Go.RowKit Go.Maps Go.WideMaps Lg Lr Fl
theorem intK : Keyed Try.prog 3 := int_keyed Try.underlying3
def isN (n : Int) : Prop := 0 ≤ n ∧ n ≤ 9000000000000000000
theorem wf_n {n : Int} (h : isN n) : (Lit.int .i64 n).wf = true := by
 unfold isN at h
 have h1 : IntKind.i64.min = -9223372036854775808 := by decide
 have h2 : IntKind.i64.max = 9223372036854775807 := by decide
 show (decide (IntKind.i64.min ≤ n) && decide (n ≤ IntKind.i64.max)) = true
 rw [h1,h2,Bool.and_eq_true]
 exact ⟨decide_eq_true (by omega),decide_eq_true (by omega)⟩
theorem key_n {n : Int} (h : isN n) : keyOf Try.prog 3 (.int .i64 n) = some (.int .i64 n) := keyOf_int_mk Try.underlying3 (wf_n h)
theorem lit_ne {a b : Int} (h : ¬ a = b) : (Lit.int .i64 a) ≠ (.int .i64 b) := fun e => h (by injection e)
def MapZ (w : World) (b n : Nat) (l : List (Int × Int)) : Prop := ∃ D : DataW Unit,w.ownsMap Try.prog 3 (plainElem Try.prog 3) b n D ∧ ∀ x,(l.lookup x = none → Maps.has D (.int .i64 x) = false) ∧ ∀ v,l.lookup x = some v → Maps.has D (.int .i64 x) = true ∧ ∀ z,D.atKey (.int .i64 x) z = .lit (.int .i64 v)
theorem zeroI (w : World) : (zeroValue 3).run Try.prog w = .ok (.int .i64 0) w := by kernel_rfl
theorem MapZ.nil (w : World) : MapZ (w.alloc (.map #[] 0)) w.heap.size 0 [] := ⟨_,World.ownsMap_made (H:=Unit) w Try.prog 3 (plainElem Try.prog 3),fun x => ⟨fun _ => rfl,fun v hv => by cases hv⟩⟩
theorem MapZ.look {w : World} {b n : Nat} {l : List (Int × Int)} (h : MapZ w b n l) (x : Int) (hx : isN x) :
  (Instr.lookup 96 (.map (some b)) (.int .i64 x) true).run Try.prog w = .ok (.tuple #[.int .i64 ((l.lookup x).getD 0),.bool (l.lookup x).isSome]) w := by
 obtain ⟨D,h1,h2⟩ := h
 obtain ⟨u,ps,hrun,hr⟩ := h1.look_ok intK Try.underlying96 (zeroI w) (plainElem_int Try.underlying3 (a:=0) (by decide)) (key_n hx)
 rw [hrun]
 obtain ⟨a,rfl,ha,_⟩ := plainElem_int_inv Try.underlying3 hr
 simp only [Prod.mk.injEq] at ha
 cases hb : l.lookup x with
 | none =>
  have h3 := (h2 x).1 hb
  rw [atKey_of_not_has h3] at ha
  have e := ha.1
  simp only [DataW.lit.injEq,Lit.int.injEq,true_and] at e
  rw [h3,← e]; rfl
 | some v =>
  obtain ⟨h3,h4⟩ := (h2 x).2 v hb
  rw [h4] at ha
  have e := ha.1
  simp only [DataW.lit.injEq,Lit.int.injEq,true_and] at e
  rw [h3,← e]; rfl
theorem MapZ.put {w : World} {b n : Nat} {l : List (Int × Int)} (h : MapZ w b n l) (x v : Int) (hx : isN x) (hv : isN v) (hn : n < maxLen) :
  ∃ w',(Instr.mapUpdate 96 (.map (some b)) (.int .i64 x) (.int .i64 v)).run Try.prog w = .ok () w' ∧ MapZ w' b (n + 1) ((x,v) :: l) ∧ w.grownBy w' (some b) := by
 obtain ⟨D,h1,h2⟩ := h
 obtain ⟨w',hrun,ho,hg⟩ := h1.update intK Try.underlying96 hn (key_n hx) (plainElem_int Try.underlying3 (wf_n hv))
 refine ⟨w',hrun,⟨_,ho,fun y => ?_⟩,hg⟩
 have hm := h1.isMap
 rw [List.lookup_cons]
 by_cases hy : y = x
 ·subst hy
  rw [show (y == y) = true by simp]
  refine ⟨fun hb => (by cases hb),fun u hu => ?_⟩
  cases hu
  exact ⟨has_put_same hm (show WideAt.IsKeyLit (.int .i64 y) from trivial) _,fun z => atKey_put_same hm (show WideAt.IsKeyLit (.int .i64 y) from trivial) _ z⟩
 ·have hne := lit_ne hy
  rw [show (y == x) = false by simpa using hy,has_put_other hne]
  refine ⟨(h2 y).1,fun u hu => ⟨((h2 y).2 u hu).1,fun z => ?_⟩⟩
  rw [atKey_put_other hne]; exact ((h2 y).2 u hu).2 z
theorem MapZ.stay {w w' : World} {b n : Nat} {l : List (Int × Int)} (h : MapZ w b n l) (hb : w'.heap[b]? = w.heap[b]?) : MapZ w' b n l := by
 obtain ⟨D,⟨es,clock,k1,k2⟩,h2⟩ := h
 exact ⟨D,⟨es,clock,by rw [hb]; exact k1,k2⟩,h2⟩
theorem MapZ.lt {w : World} {b n : Nat} {l : List (Int × Int)} (h : MapZ w b n l) : b < w.heap.size := by
 obtain ⟨D,h1,_⟩ := h
 exact h1.lt
theorem MapZ.clear {w : World} {b n : Nat} {l : List (Int × Int)} (h : MapZ w b n l) :
  ∃ w',(∀ ty,(Builtin.clear_ #[96] ty #[.map (some b)]).run Try.prog w = .ok (.tuple #[]) w') ∧ MapZ w' b 0 [] ∧ w.grownBy w' (some b) := by
 obtain ⟨D,⟨es,clock,hb,F,hs,_⟩,_⟩ := h
 refine ⟨ChangeMaps.setBlock w b (.map #[] clock),fun ty => ?_,⟨_,⟨#[],clock,ChangeMaps.heap_setBlock_same hb _,⟨by simp,MapKept.stamped_empty clock,by simp⟩,Nat.le_refl _,rfl⟩,fun x => ⟨fun _ => rfl,fun v hv => by cases hv⟩⟩,⟨rfl,rfl,rfl,by simp [ChangeMaps.setBlock],fun i _ hi => ChangeMaps.heap_setBlock_other hb _ (fun e => hi (by rw [e]))⟩⟩
 unfold Builtin.clear_
 simp [Try.underlying96,MapKept.run_getObj_map hb,MapKept.run_setObj_map _ hb,Result.andThen,ChangeMaps.setBlock]
structure MF (MB NB : Nat) (cv sv : Value) (w : World) (cv' sv' : Value) (w' : World) : Prop where
 os : w'.os = w.os
 tape : w'.tape = w.tape
 output : w'.output = w.output
 size : w.heap.size ≤ w'.heap.size
 block : ∀ k,k < w.heap.size → k ≠ MB → k ≠ NB → cv.ownBlock ≠ some k → sv.ownBlock ≠ some k → w'.heap[k]? = w.heap[k]?
 cn : ∀ k,cv'.ownBlock = some k → cv.ownBlock = some k ∨ w.heap.size ≤ k
 sn : ∀ k,sv'.ownBlock = some k → sv.ownBlock = some k ∨ w.heap.size ≤ k
theorem MF.refl (MB NB : Nat) (cv sv : Value) (w : World) : MF MB NB cv sv w cv sv w := ⟨rfl,rfl,rfl,Nat.le_refl _,fun _ _ _ _ _ _ => rfl,fun _ h => .inl h,fun _ h => .inl h⟩
theorem MF.of_below {MB NB : Nat} {cv sv : Value} {w w' : World} (h : Below w.heap.size w w') : MF MB NB cv sv w cv sv w' := ⟨h.os,h.tape,h.output,h.size,fun k hk _ _ _ _ => h.block k hk,fun _ h => .inl h,fun _ h => .inl h⟩
theorem MF.trans {MB NB : Nat} {cv sv cv' sv' cv2 sv2 : Value} {w w' w2 : World} (h : MF MB NB cv sv w cv' sv' w') (h' : MF MB NB cv' sv' w' cv2 sv2 w2) : MF MB NB cv sv w cv2 sv2 w2 := by
 refine ⟨h'.os.trans h.os,h'.tape.trans h.tape,h'.output.trans h.output,Nat.le_trans h.size h'.size,fun k hk h1 h2 h3 h4 => ?_,fun k hk => ?_,fun k hk => ?_⟩
 ·rw [h'.block k (Nat.lt_of_lt_of_le hk h.size) h1 h2 (fun e => ?_) (fun e => ?_)]
  ·exact h.block k hk h1 h2 h3 h4
  ·rcases h.cn k e with e | e
   ·exact h3 e
   ·omega
  ·rcases h.sn k e with e | e
   ·exact h4 e
   ·omega
 ·rcases h'.cn k hk with e | e
  ·exact h.cn k e
  ·exact .inr (Nat.le_trans h.size e)
 ·rcases h'.sn k hk with e | e
  ·exact h.sn k e
  ·exact .inr (Nat.le_trans h.size e)
def RowC (w : World) (lo : Nat) (v : Value) (es : List Ix) : Prop := RowX nest0 cellsX 6 35 w lo v es
def tabL (T : Nat → Int) : List Value := (Tb.tabA T).toList
structure MkIs (w : World) (lo MB NB : Nat) (T : Nat → Int) (cv sv : Value) (m : Mk) : Prop where
 bk : Bk w MB (tabL T ++ [cv,sv,.map (some NB),.bool m.shown]) 98
 code : RowC w lo cv m.code
 sec : RowI w lo sv m.sec
 num : MapZ w NB m.nums.length m.nums
 lo1 : lo ≤ MB
 lo2 : lo ≤ NB
 ne : MB ≠ NB
 c1 : cv.ownBlock ≠ some MB
 c2 : cv.ownBlock ≠ some NB
 s1 : sv.ownBlock ≠ some MB
 s2 : sv.ownBlock ≠ some NB
 cs : ∀ k,cv.ownBlock = some k → sv.ownBlock ≠ some k
theorem tabL_len (T : Nat → Int) : (tabL T).length = 18 := by unfold tabL; rfl
theorem MkIs.c18 {w : World} {lo MB NB : Nat} {T : Nat → Int} {cv sv : Value} {m : Mk} (h : MkIs w lo MB NB T cv sv m) : w.cell? ⟨MB,18,none⟩ = some cv ∧ w.cell? ⟨MB,19,none⟩ = some sv ∧ w.cell? ⟨MB,20,none⟩ = some (.map (some NB)) ∧ w.cell? ⟨MB,21,none⟩ = some (.bool m.shown) := by
 have hl := tabL_len T
 refine ⟨h.bk.cell 18 ?_,h.bk.cell 19 ?_,h.bk.cell 20 ?_,h.bk.cell 21 ?_⟩ <;> rw [List.getElem?_append_right (by omega),hl] <;> rfl
theorem MkIs.table {w : World} {lo MB NB : Nat} {T : Nat → Int} {cv sv : Value} {m : Mk} (h : MkIs w lo MB NB T cv sv m) : w.rangeAt MB 0 (tabL T) := fun j v hj => by
 rw [Nat.zero_add]
 exact h.bk.cell j (by rw [List.getElem?_append_left (List.getElem?_eq_some_iff.1 hj).1]; exact hj)
theorem MkIs.below {w w' : World} {lo MB NB : Nat} {T : Nat → Int} {cv sv : Value} {m : Mk} (h : MkIs w lo MB NB T cv sv m) (hb : Below w.heap.size w w') : MkIs w' lo MB NB T cv sv m :=
 have hf := Fs.of_below (l:=[]) hb
 ⟨h.bk.fs hf (by simp),RowX.fs nest0_nest h.code hf (by simp),RowX.fs nestI_nest h.sec hf (by simp),h.num.stay (hb.block NB h.num.lt),h.lo1,h.lo2,h.ne,h.c1,h.c2,h.s1,h.s2,h.cs⟩
theorem RowX.own_keep {α : Type} {nest : World → (Nat → Prop) → α → Prop} {cells : α → List Value} {k : Nat} {ty : TypeId} {w w' : World} {lo : Nat} {v : Value} {es : List α} (hN : ∀ W X p,nest W X p) (h : RowX nest cells k ty w lo v es) (hb : ∀ i,v.ownBlock = some i → w'.heap[i]? = w.heap[i]?) : RowX nest cells k ty w' lo v es := by
 refine ⟨?_,fun p _ => hN _ _ p⟩
 obtain ⟨h1,h2⟩ := h.own
 refine ⟨h1,?_⟩
 rcases h2 with h2 | ⟨g,cap,cur,a1,a2,a3,a4⟩
 ·exact .inl h2
 ·exact .inr ⟨g,cap,cur,a1,a2,by rw [hb g (by rw [a1]; rfl)]; exact a3,a4⟩
theorem n0 (α : Type) (W : World) (X : Nat → Prop) (p : α) : nest0 W X p := trivial
theorem nI (W : World) (X : Nat → Prop) (p : Int) : nestI W X p := trivial
theorem sec_ints {w : World} {lo : Nat} {v : Value} {l : List Int} (h : RowI w lo v l) (hl : l.length ≤ 17592186044416) : IntsIs w w.heap.size l v := by
 obtain ⟨p,n,cap,h1,h2,h3,h4,h5⟩ := Fl.RowI.intsX h hl (fun i => i < w.heap.size) (fun i _ hi => hi)
 exact ⟨p,n,cap,h1,h2,h3,h4,h5⟩
theorem index_any (B : Nat) (xs : List Int) (sx : Value) (w : World) (hx : IntsIs w B xs sx) :
  Calls Try.prog 93 #[sx,.int .i64 1] w fun r w' => ∃ z : Int,r = .returned (.int .i64 z) ∧ decide (0 ≤ z) = xs.contains 1 ∧ w' = w := by
 obtain ⟨px,nx,cx,rfl,hlx,_,hmx,hqx⟩ := hx
 have HL := keep hlx
 have HQ := keep hqx
 clear hlx hqx
 go_enter Try.func93,Try.ntmps93
 go_wp2
 go_loopw [8] (fun i wx => ∃ j : Nat,j ≤ nx ∧ i = .int .i64 (j : Int) ∧ (xs.take j).contains 1 = false ∧ wx = w) (fun i _ => nx - (intOf i).toNat)
 case atStart => exact ⟨0,by omega,rfl,by simp,rfl⟩
 case round =>
  obtain ⟨j,hjn,rfl,hno,rfl⟩ := hrel
  have HNo := keep hno
  clear hno
  by_cases hjl : j < nx
  ·have d1 : decide ((j : Int) < (nx : Int)) = true := decide_eq_true (by omega)
   have hjz : (j : Int) < (nx : Int) := by omega
   have hj0 : (0 : Int) ≤ (j : Int) := by omega
   have hwr : IntKind.i64.wrap ((j : Int) + 1) = (j : Int) + 1 := by rw [IntKind.wrap_i64]; omega
   obtain ⟨x,hx⟩ : ∃ x,xs[j]? = some x := ⟨_,List.getElem?_eq_getElem (by rw [HL.out]; exact hjl)⟩
   obtain ⟨g,o,rfl,hgB,hc⟩ := HQ.out j x hx
   have HTk : Hid (xs.take (j + 1) = xs.take j ++ [x]) := by
    show _ = _
    rw [List.take_add_one,hx]; rfl
   have HMm : Hid (x ∈ xs) := List.mem_of_getElem? hx
   clear hx hgB
   by_cases h1 : 1 = x
   ·subst h1
    have HE : Hid (xs.contains 1 = true) := by show _ = _; rw [List.contains_iff_mem]; exact HMm.out
    clear HQ
    go_wp2
    go_ret
    exact ⟨_,rfl,by rw [HE.out]; exact decide_eq_true hj0,rfl⟩
   ·have hne : ((1 : Int) == x) = false := by simpa using h1
    go_wp2
    go_roundw
    case rel => exact ⟨j + 1,by omega,by go_num,by rw [HTk.out,List.contains_append,HNo.out,Bool.false_or]; simp; omega,by first | rfl | trivial⟩
    case measure => simp [intOf]; omega
  ·have hje : j = nx := by omega
   subst hje
   have dl : decide ((j : Int) < (j : Int)) = false := decide_eq_false (by omega)
   have HE : Hid (xs.contains 1 = false) := by have := HNo.out; rw [← HL.out,List.take_length] at this; exact this
   clear hjl
   go_wp2
   go_ret
   exact ⟨_,rfl,by rw [HE.out]; rfl,rfl⟩
theorem contains_any (B : Nat) (xs : List Int) (sx : Value) (w : World) (hx : IntsIs w B xs sx) :
  Calls Try.prog 75 #[sx,.int .i64 1] w fun r w' => r = .returned (.bool (xs.contains 1)) ∧ w' = w := by
 have HI := keep (index_any B xs sx w hx)
 obtain ⟨px,nx,cx,rfl⟩ := hx.slice
 obtain ⟨q,hq⟩ : ∃ q,xs.contains 1 = q := ⟨_,rfl⟩
 rw [hq] at HI ⊢
 clear hq hx
 go_enter Try.func75,Try.ntmps75
 go_wp2_with fail
 refine HI.out.mono ?_
 rintro r w' ⟨z,rfl,hz,rfl⟩
 clear HI
 cases q with
 | true =>
  go_wp2
  go_ret
  exact ⟨by first | rfl | (rw [← hz]; rfl) | simp [hz],rfl⟩
 | false =>
  go_wp2
  go_ret
  exact ⟨by first | rfl | (rw [← hz]; rfl) | simp [hz],rfl⟩
end Go.Proofs.Ytfbmkcogkiejnaa.Hg
