/- The maker lays down an instruction, makes a place, a number: shows, emit, made, two, number. Written by tools/gen_hgemit.py. -/
import Derived.Test.YtfbmkcogkiejnaaHgBase
import Derived.Test.YtfbmkcogkiejnaaGr28
import Derived.Deep.AppendLies
namespace Go.Proofs.Ytfbmkcogkiejnaa.Hg
set_option maxHeartbeats 32000000
set_option maxRecDepth 100000
set_option linter.unusedVariables false
set_option linter.unusedSimpArgs false
open Go.ChangeShapes Go.WideShapes Go.ChangeAt Go.RowKit Go.Maps Lg Lr Fl
theorem tab_yieldsM {ops : Array Oper} {o : Oper} {a : Act} {S : World → Prop} (hgd : Region.wanted o (yielded ops a.tmps) = true) (x : Operand) (ho : o.op = .load 29 x) (g : Nat) (hx : a.eval x = .pointer (some ⟨g,0,none⟩)) (T : Nat → Int) (hS : ∀ w,S w → w.rangeAt g 0 (tabL T)) : YieldsIf Try.prog ops S o (.agg (Tb.tabA T)) a := by
 have h := yieldsIf_load_mid (P:=Try.prog) (ops:=ops) (S:=S) hgd 29 x ho g 0 hx (tabL T) _ hS Try.underlying29 rfl (Tb.tab_info T)
 exact h
theorem set_mk (T : Nat → Int) (a b c d v : Value) : (tabL T ++ [a,b,c,d]).set 18 v = tabL T ++ [v,b,c,d] ∧ (tabL T ++ [a,b,c,d]).set 19 v = tabL T ++ [a,v,c,d] ∧ (tabL T ++ [a,b,c,d]).set 21 v = tabL T ++ [a,b,c,v] := by
 have hl := tabL_len T
 refine ⟨?_,?_,?_⟩ <;> rw [List.set_append_right _ _ (by omega),hl] <;> rfl
theorem MkIs.pushC {w w9 : World} {lo MB NB gz cap : Nat} {T : Nat → Int} {cv sv : Value} {m : Mk} (h : MkIs w lo MB NB T cv sv m) (i : Ix) (hown : w9.ownsRow lo 35 6 (.slice (some ⟨gz,0,none⟩) (m.code.length + 1) cap) (m.code.length + 1) (m.code.flatMap cellsX ++ cellsX i)) (hg : w.grownBy w9 cv.ownBlock) (hat : cv.ownBlock = some gz ∨ gz = w.heap.size) :
  MkIs (w9.setCell ⟨MB,18,none⟩ (.slice (some ⟨gz,0,none⟩) (m.code.length + 1) cap)) lo MB NB T (.slice (some ⟨gz,0,none⟩) (m.code.length + 1) cap) sv ⟨m.code ++ [i],m.sec,m.nums,m.shown⟩ ∧ MF MB NB cv sv w (.slice (some ⟨gz,0,none⟩) (m.code.length + 1) cap) sv (w9.setCell ⟨MB,18,none⟩ (.slice (some ⟨gz,0,none⟩) (m.code.length + 1) cap)) := by
 have hMB := h.bk.lt
 have hNB := h.num.lt
 have hgM : gz ≠ MB := by
  rcases hat with e | e
  ·intro x; rw [x] at e; exact h.c1 e
  ·omega
 have hgN : gz ≠ NB := by
  rcases hat with e | e
  ·intro x; rw [x] at e; exact h.c2 e
  ·omega
 have hk : ∀ k,k < w.heap.size → cv.ownBlock ≠ some k → w9.heap[k]? = w.heap[k]? := fun k h1 h2 => hg.block k h1 (fun e => h2 e.symm)
 have hks : ∀ k,k ≠ MB → (w9.setCell ⟨MB,18,none⟩ (.slice (some ⟨gz,0,none⟩) (m.code.length + 1) cap)).heap[k]? = w9.heap[k]? := fun k h1 => Below.heap_setCell _ _ _ _ h1
 have hsz : (w9.setCell ⟨MB,18,none⟩ (.slice (some ⟨gz,0,none⟩) (m.code.length + 1) cap)).heap.size = w9.heap.size := by simp [World.setCell]
 have hb9 : Bk w9 MB (tabL T ++ [cv,sv,.map (some NB),.bool m.shown]) 98 := by
  have := h.bk
  unfold Bk at this ⊢
  rw [hk MB hMB h.c1]; exact this
 refine ⟨⟨?_,?_,?_,?_,h.lo1,h.lo2,h.ne,fun e => hgM (by injection e),fun e => hgN (by injection e),h.s1,h.s2,fun k e => ?_⟩,⟨hg.os,hg.tape,hg.output,by rw [hsz]; exact hg.size,fun k h1 h2 h3 h4 h5 => by rw [hks k h2]; exact hk k h1 h4,fun k e => ?_,fun k e => .inl e⟩⟩
 ·have := hb9.set 18 (.slice (some ⟨gz,0,none⟩) (m.code.length + 1) cap)
  rw [(set_mk T _ _ _ _ _).1] at this
  exact this
 ·refine RowX.own_keep (n0 _) (RowX.push nest0_nest h.code trivial hown hg hat) (fun k e => ?_)
  injection e with e
  exact hks k (by rw [← e]; exact hgM)
 ·refine RowX.own_keep nI h.sec (fun k e => ?_)
  have hlt := ((RowX.own h.sec).lt k e).2
  rw [hks k (fun x => h.s1 (by rw [← x]; exact e))]
  exact hk k hlt (fun x => h.cs k x e)
 ·exact h.num.stay (by rw [hks NB (Ne.symm h.ne)]; exact hk NB hNB h.c2)
 ·injection e with e
  subst e
  rcases hat with x | x
  ·exact h.cs _ x
  ·intro y
   have := ((RowX.own h.sec).lt gz y).2
   omega
 ·have e' : gz = k := by injection e
  subst e'
  rcases hat with x | x
  ·exact .inl x
  ·exact .inr (by omega)
theorem MkIs.pushS {w w9 : World} {lo MB NB gz cap : Nat} {T : Nat → Int} {cv sv : Value} {m : Mk} (h : MkIs w lo MB NB T cv sv m) (s : Int) (hown : w9.ownsRow lo 3 1 (.slice (some ⟨gz,0,none⟩) (m.sec.length + 1) cap) (m.sec.length + 1) (m.sec.flatMap cellsI ++ cellsI s)) (hg : w.grownBy w9 sv.ownBlock) (hat : sv.ownBlock = some gz ∨ gz = w.heap.size) :
  MkIs (w9.setCell ⟨MB,19,none⟩ (.slice (some ⟨gz,0,none⟩) (m.sec.length + 1) cap)) lo MB NB T cv (.slice (some ⟨gz,0,none⟩) (m.sec.length + 1) cap) ⟨m.code,m.sec ++ [s],m.nums,m.shown⟩ ∧ MF MB NB cv sv w cv (.slice (some ⟨gz,0,none⟩) (m.sec.length + 1) cap) (w9.setCell ⟨MB,19,none⟩ (.slice (some ⟨gz,0,none⟩) (m.sec.length + 1) cap)) := by
 have hMB := h.bk.lt
 have hNB := h.num.lt
 have hgM : gz ≠ MB := by
  rcases hat with e | e
  ·intro x; rw [x] at e; exact h.s1 e
  ·omega
 have hgN : gz ≠ NB := by
  rcases hat with e | e
  ·intro x; rw [x] at e; exact h.s2 e
  ·omega
 have hk : ∀ k,k < w.heap.size → sv.ownBlock ≠ some k → w9.heap[k]? = w.heap[k]? := fun k h1 h2 => hg.block k h1 (fun e => h2 e.symm)
 have hks : ∀ k,k ≠ MB → (w9.setCell ⟨MB,19,none⟩ (.slice (some ⟨gz,0,none⟩) (m.sec.length + 1) cap)).heap[k]? = w9.heap[k]? := fun k h1 => Below.heap_setCell _ _ _ _ h1
 have hsz : (w9.setCell ⟨MB,19,none⟩ (.slice (some ⟨gz,0,none⟩) (m.sec.length + 1) cap)).heap.size = w9.heap.size := by simp [World.setCell]
 have hb9 : Bk w9 MB (tabL T ++ [cv,sv,.map (some NB),.bool m.shown]) 98 := by
  have := h.bk
  unfold Bk at this ⊢
  rw [hk MB hMB h.s1]; exact this
 refine ⟨⟨?_,?_,?_,?_,h.lo1,h.lo2,h.ne,h.c1,h.c2,fun e => hgM (by injection e),fun e => hgN (by injection e),fun k e x => ?_⟩,⟨hg.os,hg.tape,hg.output,by rw [hsz]; exact hg.size,fun k h1 h2 h3 h4 h5 => by rw [hks k h2]; exact hk k h1 h5,fun k e => .inl e,fun k e => ?_⟩⟩
 ·have := hb9.set 19 (.slice (some ⟨gz,0,none⟩) (m.sec.length + 1) cap)
  rw [(set_mk T _ _ _ _ _).2.1] at this
  exact this
 ·refine RowX.own_keep (n0 _) h.code (fun k e => ?_)
  have hlt := ((RowX.own h.code).lt k e).2
  rw [hks k (fun x => h.c1 (by rw [← x]; exact e))]
  exact hk k hlt (h.cs k e)
 ·refine RowX.own_keep nI (RowX.push nestI_nest h.sec trivial hown hg hat) (fun k e => ?_)
  injection e with e
  exact hks k (by rw [← e]; exact hgM)
 ·exact h.num.stay (by rw [hks NB (Ne.symm h.ne)]; exact hk NB hNB h.s2)
 ·injection x with x
  subst x
  rcases hat with y | y
  ·exact h.cs _ e y
  ·have := ((RowX.own h.code).lt gz e).2
   omega
 ·have e' : gz = k := by injection e
  subst e'
  rcases hat with x | x
  ·exact .inl x
  ·exact .inr (by omega)
theorem MkIs.setShown {w : World} {lo MB NB : Nat} {T : Nat → Int} {cv sv : Value} {m : Mk} (h : MkIs w lo MB NB T cv sv m) (q : Bool) : MkIs (w.setCell ⟨MB,21,none⟩ (.bool q)) lo MB NB T cv sv ⟨m.code,m.sec,m.nums,q⟩ ∧ MF MB NB cv sv w cv sv (w.setCell ⟨MB,21,none⟩ (.bool q)) := by
 have hks : ∀ k,k ≠ MB → (w.setCell ⟨MB,21,none⟩ (.bool q)).heap[k]? = w.heap[k]? := fun k h1 => Below.heap_setCell _ _ _ _ h1
 have hsz : (w.setCell ⟨MB,21,none⟩ (.bool q)).heap.size = w.heap.size := by simp [World.setCell]
 refine ⟨⟨?_,RowX.own_keep (n0 _) h.code (fun k e => hks k (fun x => h.c1 (by rw [← x]; exact e))),RowX.own_keep nI h.sec (fun k e => hks k (fun x => h.s1 (by rw [← x]; exact e))),h.num.stay (hks NB (Ne.symm h.ne)),h.lo1,h.lo2,h.ne,h.c1,h.c2,h.s1,h.s2,h.cs⟩,⟨rfl,rfl,rfl,by rw [hsz]; exact Nat.le_refl _,fun k _ h2 _ _ _ => hks k h2,fun k e => .inl e,fun k e => .inl e⟩⟩
 have := h.bk.set 21 (.bool q)
 rw [(set_mk T _ _ _ _ _).2.2] at this
 exact this
theorem MkIs.setNum {w w' : World} {lo MB NB : Nat} {T : Nat → Int} {cv sv : Value} {m : Mk} {l : List (Int × Int)} (h : MkIs w lo MB NB T cv sv m) (hm : MapZ w' NB l.length l) (hg : w.grownBy w' (some NB)) : MkIs w' lo MB NB T cv sv ⟨m.code,m.sec,l,m.shown⟩ ∧ MF MB NB cv sv w cv sv w' := by
 have hk : ∀ k,k < w.heap.size → k ≠ NB → w'.heap[k]? = w.heap[k]? := fun k h1 h2 => hg.block k h1 (fun e => h2 (by injection e))
 refine ⟨⟨?_,RowX.own_keep (n0 _) h.code (fun k e => hk k ((RowX.own h.code).lt k e).2 (fun x => h.c2 (by rw [← x]; exact e))),RowX.own_keep nI h.sec (fun k e => hk k ((RowX.own h.sec).lt k e).2 (fun x => h.s2 (by rw [← x]; exact e))),hm,h.lo1,h.lo2,h.ne,h.c1,h.c2,h.s1,h.s2,h.cs⟩,⟨hg.os,hg.tape,hg.output,hg.size,fun k h1 _ h3 _ _ => hk k h1 h3,fun k e => .inl e,fun k e => .inl e⟩⟩
 have := h.bk
 unfold Bk at this ⊢
 rw [hk MB h.bk.lt h.ne]; exact this
theorem MF.fs {MB NB : Nat} {cv sv cv' sv' : Value} {w w' : World} (h : MF MB NB cv sv w cv' sv' w') {k : Nat} {l : List Value} {ty : TypeId} (hk : Bk w k l ty) (h1 : k ≠ MB) (h2 : k ≠ NB) (h3 : cv.ownBlock ≠ some k) (h4 : sv.ownBlock ≠ some k) : Bk w' k l ty := by
 have hlt := hk.lt
 unfold Bk at hk ⊢
 rw [h.block k hlt h1 h2 h3 h4]; exact hk
structure Far (lo MB NB : Nat) (cv sv : Value) (k : Nat) : Prop where
 m : k ≠ MB
 n : k ≠ NB
 c : cv.ownBlock ≠ some k
 s : sv.ownBlock ≠ some k
theorem Far.step {lo MB NB : Nat} {cv sv cv' sv' : Value} {w w' : World} {k : Nat} (h : Far lo MB NB cv sv k) (hf : MF MB NB cv sv w cv' sv' w') (hk : k < w.heap.size) : Far lo MB NB cv' sv' k := ⟨h.m,h.n,fun e => by
 rcases hf.cn k e with x | x
 ·exact h.c x
 ·omega,fun e => by
 rcases hf.sn k e with x | x
 ·exact h.s x
 ·omega⟩
theorem MkIs.far {w : World} {lo MB NB : Nat} {T : Nat → Int} {cv sv : Value} {m : Mk} (h : MkIs w lo MB NB T cv sv m) {k : Nat} (hk : w.heap.size ≤ k) : Far lo MB NB cv sv k :=
 ⟨fun e => by have := h.bk.lt; omega,fun e => by have := h.num.lt; omega,fun e => by have := ((RowX.own h.code).lt k e).2; omega,fun e => by have := ((RowX.own h.sec).lt k e).2; omega⟩
theorem MkIs.old {w : World} {lo MB NB : Nat} {T : Nat → Int} {cv sv : Value} {m : Mk} (h : MkIs w lo MB NB T cv sv m) {k : Nat} (hk : k < lo) : Far lo MB NB cv sv k :=
 ⟨fun e => by have := h.lo1; omega,fun e => by have := h.lo2; omega,fun e => by have := ((RowX.own h.code).lt k e).1; omega,fun e => by have := ((RowX.own h.sec).lt k e).1; omega⟩
theorem MF.far {MB NB lo : Nat} {cv sv cv' sv' : Value} {w w' : World} (h : MF MB NB cv sv w cv' sv' w') {k : Nat} {l : List Value} {ty : TypeId} (hk : Bk w k l ty) (hf : Far lo MB NB cv sv k) : Bk w' k l ty := h.fs hk hf.m hf.n hf.c hf.s
theorem shows_any (lo MB NB : Nat) (T : Nat → Int) (cv sv : Value) (m : Mk) (i : Ix) (w : World) (h : MkIs w lo MB NB T cv sv m) (hT : TabR T) (hs : m.sec.length ≤ 200000000) :
  Calls Try.prog 64 #[.pointer (some ⟨MB,0,none⟩),.agg (ixA i)] w fun r w' => r = .returned (.bool (shwM T m.sec i)) ∧ Below w.heap.size w w' := by
 obtain ⟨p,n,cap,rfl⟩ := RowX.slice h.sec
 obtain ⟨op,d,a,b,c,imm⟩ := i
 obtain ⟨w1,hw1⟩ : ∃ y,w.alloc (.cells #[.int .i64 op,.int .i64 d,.int .i64 a,.int .i64 b,.int .i64 c,.int .i64 imm] 35) = y := ⟨_,rfl⟩
 obtain ⟨IB,hIB⟩ : ∃ y,w.heap.size = y := ⟨_,rfl⟩
 have b1 : Below w.heap.size w w1 := by rw [← hw1]; exact (Below.refl _ _).alloc (Nat.le_refl _) _
 have kI : Bk w1 IB [.int .i64 op,.int .i64 d,.int .i64 a,.int .i64 b,.int .i64 c,.int .i64 imm] 35 := by rw [← hw1,← hIB]; exact Bk.new _ _ _
 have h1 := h.below b1
 have HFar := keep (h.far (k:=IB) (by omega))
 have HkI := keep kI
 have HM1 := keep h1
 have HB1 := keep b1
 have HW1 := keep hw1
 have HIB := keep hIB
 have HSS : Hid (∀ W',Below w1.heap.size w1 W' → W'.rangeAt MB 0 (tabL T) ∧ W'.cell? ⟨MB,19,none⟩ = some (.slice p n cap) ∧ W'.cell? ⟨IB,0,none⟩ = some (.int .i64 op) ∧ W'.cell? ⟨IB,1,none⟩ = some (.int .i64 d) ∧ W'.cell? ⟨IB,2,none⟩ = some (.int .i64 a) ∧ W'.cell? ⟨IB,3,none⟩ = some (.int .i64 b) ∧ W'.cell? ⟨IB,4,none⟩ = some (.int .i64 c) ∧ W'.cell? ⟨IB,5,none⟩ = some (.int .i64 imm)) := fun W' hW => by
  have u1 := HM1.out.below hW
  have u2 := HkI.out.fs (Fs.of_below (l:=[]) hW) (by simp)
  exact ⟨u1.table,u1.c18.2.1,u2.cell 0 rfl,u2.cell 1 rfl,u2.cell 2 rfl,u2.cell 3 rfl,u2.cell 4 rfl,u2.cell 5 rfl⟩
 have HSn : Hid (∀ W,Below w1.heap.size w1 W → Calls Try.prog 19 #[.agg (Tb.tabA T),.agg (ixA ⟨op,d,a,b,c,imm⟩),.slice p n cap,.bool false] W fun r w' => SeenP T ⟨op,d,a,b,c,imm⟩ false m.sec W r w') := fun W hW => seen_any W.heap.size T _ m.sec _ false W (Nat.le_refl _) (sec_ints (HM1.out.below hW).sec (by omega)) (by unfold bitsG; split; omega; split; (unfold Tb.allV; split; omega; split; omega; split <;> omega); (rename_i h9 hx; have h1 : ¬ op < 1 := fun x => hx (.inr (.inl x)); have h2 : ¬ 17 < op := fun x => hx (.inr (.inr x)); exact hT.t7 op.toNat (by omega) (by omega)))
 unfold ixA at HSn ⊢
 dsimp only at HSn ⊢
 unfold shwM
 obtain ⟨vs,hvs⟩ : ∃ y,valsW (bitsG T op false) m.sec 0 (rds ⟨op,d,a,b,c,imm⟩) = y := ⟨_,rfl⟩
 have HVs := keep hvs
 have hvl := valsW_len (bitsG T op false) m.sec (rds ⟨op,d,a,b,c,imm⟩) 0
 have hrl := rds_len ⟨op,d,a,b,c,imm⟩
 have HVl : Hid (vs.length ≤ 10) := by show _ ≤ _; rw [← hvs]; omega
 dsimp only
 rw [hvs]
 obtain ⟨q,hq⟩ : ∃ q,vs.contains 1 = q := ⟨_,rfl⟩
 have HQ := keep hq
 rw [hq]
 clear hw1 hIB kI b1 h1 h hT hs hvs hvl hrl hq
 go_enter Try.func64,Try.ntmps64
 go_wp2_with (first | rw [HW1.out] | rw [HIB.out] | fail)
 refine wp_region_noPanic ?_
 refine Ord.wpM_begin (fun W' : World => W'.rangeAt MB 0 (tabL T) ∧ W'.cell? ⟨MB,19,none⟩ = some (.slice p n cap) ∧ W'.cell? ⟨IB,0,none⟩ = some (.int .i64 op) ∧ W'.cell? ⟨IB,1,none⟩ = some (.int .i64 d) ∧ W'.cell? ⟨IB,2,none⟩ = some (.int .i64 a) ∧ W'.cell? ⟨IB,3,none⟩ = some (.int .i64 b) ∧ W'.cell? ⟨IB,4,none⟩ = some (.int .i64 c) ∧ W'.cell? ⟨IB,5,none⟩ = some (.int .i64 imm)) [0,1,2,3,4,5,6,7,8,9,10,11] (by kernel_rfl) ?_
 have HD : Hid (Below w1.heap.size w1 w1.drew) := Below.drew (Below.refl _ _)
 generalize w1.drew = wd at *
 have hS := HSS.out wd HD.out
 refine Ord.tk (i:=0) (v:=.pointer (some ⟨MB,0,none⟩)) (hy:=Or.inl ⟨by rfl,by rintro W' ⟨q0,q1,q2,q3,q4,q5,q6,q7⟩; go_simp⟩) (hS:=hS) (h:=?_)
 try simp only [Act.put,Ord.t,Ord.z,Ord.s]
 refine Ord.tk (i:=1) (v:=.pointer (some ⟨MB,0,none⟩)) (hy:=Or.inl ⟨by rfl,by rintro W' ⟨q0,q1,q2,q3,q4,q5,q6,q7⟩; go_simp⟩) (hS:=hS) (h:=?_)
 try simp only [Act.put,Ord.t,Ord.z,Ord.s]
 refine Ord.tk (i:=2) (v:=.pointer (some ⟨MB,0,none⟩)) (hy:=Or.inl ⟨by rfl,by rintro W' ⟨q0,q1,q2,q3,q4,q5,q6,q7⟩; go_simp⟩) (hS:=hS) (h:=?_)
 try simp only [Act.put,Ord.t,Ord.z,Ord.s]
 refine Ord.wpM_take (i:=3) (v:=.agg (Tb.tabA T)) (by simp only [List.getElem?_toArray,List.getElem?_cons_zero,List.getElem?_cons_succ]; rfl) (by kernel_rfl) (by kernel_rfl) (by kernel_rfl) (by kernel_rfl) (fun _ _ _ h => h) (tab_yieldsM (by rfl) (.tmp 7) rfl MB rfl T (fun W hW => hW.1)) hS ?_
 try simp only [Act.put,Ord.t,Ord.z,Ord.s]
 refine Ord.tk (i:=4) (v:=.agg #[.int .i64 op,.int .i64 d,.int .i64 a,.int .i64 b,.int .i64 c,.int .i64 imm]) (hy:=Or.inl ⟨by rfl,by rintro W' ⟨q0,q1,q2,q3,q4,q5,q6,q7⟩; go_simp⟩) (hS:=hS) (h:=?_)
 try simp only [Act.put,Ord.t,Ord.z,Ord.s]
 refine Ord.tk (i:=5) (v:=.pointer (some ⟨MB,0,none⟩)) (hy:=Or.inl ⟨by rfl,by rintro W' ⟨q0,q1,q2,q3,q4,q5,q6,q7⟩; go_simp⟩) (hS:=hS) (h:=?_)
 try simp only [Act.put,Ord.t,Ord.z,Ord.s]
 refine Ord.tk (i:=6) (v:=.pointer (some ⟨MB,0,none⟩)) (hy:=Or.inl ⟨by rfl,by rintro W' ⟨q0,q1,q2,q3,q4,q5,q6,q7⟩; go_simp⟩) (hS:=hS) (h:=?_)
 try simp only [Act.put,Ord.t,Ord.z,Ord.s]
 refine Ord.tk (i:=7) (v:=.pointer (some ⟨MB,19,none⟩)) (hy:=Or.inl ⟨by rfl,by rintro W' ⟨q0,q1,q2,q3,q4,q5,q6,q7⟩; go_simp⟩) (hS:=hS) (h:=?_)
 try simp only [Act.put,Ord.t,Ord.z,Ord.s]
 refine Ord.tk (i:=8) (v:=.slice p n cap) (hy:=Or.inl ⟨by rfl,by rintro W' ⟨q0,q1,q2,q3,q4,q5,q6,q7⟩; go_simp⟩) (hS:=hS) (h:=?_)
 try simp only [Act.put,Ord.t,Ord.z,Ord.s]
 refine Ord.on (i:=9) (h:=fun K hK => ?_)
 go_simp
 refine (HSn.out wd HD.out).mono ?_
 rintro r we ⟨vv,rfl,hvv,hbe⟩
 have HBe := keep (HD.out.trans (hbe.mono HD.out.size))
 dsimp only at hvv
 rw [HVs.out] at hvv
 obtain ⟨pq,nq,cq,rfl⟩ := RowX.slice hvv
 have HCt := keep (contains_any we.heap.size vs _ we (sec_ints hvv (by have := HVl.out; omega)))
 rw [HQ.out] at HCt
 clear hbe hvv HSn
 go_simp
 refine hK.out _ _ (fun _ => HSS.out we HBe.out) ?_
 clear hK K
 try simp only [Act.put,Ord.t,Ord.z,Ord.s]
 refine Ord.on (i:=10) (h:=fun K hK => ?_)
 go_simp
 refine HCt.out.mono ?_
 rintro r wf ⟨rfl,rfl⟩
 go_simp
 refine hK.out _ _ (fun _ => HSS.out wf HBe.out) ?_
 clear hK K
 try simp only [Act.put,Ord.t,Ord.z,Ord.s]
 refine Ord.on (i:=11) (h:=fun K hK => ?_)
 go_simp
 refine hK.out _ _ (fun _ => HSS.out wf HBe.out) ?_
 clear hK K
 try simp only [Act.put,Ord.t,Ord.z,Ord.s]
 refine Ord.wpM_done (by kernel_rfl) ?_ _
 refine NoPanic.normal ?_
 clear HSS hS HCt
 go_wp2
 go_ret
 exact ⟨rfl,HB1.out.trans (HBe.out.mono HB1.out.size)⟩
theorem emit_any (lo MB NB : Nat) (T : Nat → Int) (cv sv : Value) (m : Mk) (i : Ix) (w : World) (hlo : lo ≤ w.heap.size) (h : MkIs w lo MB NB T cv sv m) (hT : TabR T) (hs : m.sec.length ≤ 200000000) (hc : m.code.length ≤ 200000000) :
  Calls Try.prog 66 #[.pointer (some ⟨MB,0,none⟩),.agg (ixA i)] w fun r w' => r = .returned (.tuple #[]) ∧ ∃ cv',MkIs w' lo MB NB T cv' sv (emitM T i m) ∧ MF MB NB cv sv w cv' sv w' := by
 have HSh := keep (shows_any lo MB NB T cv sv m i)
 obtain ⟨p,n,cap,rfl⟩ := RowX.slice h.code
 obtain ⟨op,d,a,b,c,imm⟩ := i
 obtain ⟨w1,hw1⟩ : ∃ y,w.alloc (.cells #[.int .i64 op,.int .i64 d,.int .i64 a,.int .i64 b,.int .i64 c,.int .i64 imm] 35) = y := ⟨_,rfl⟩
 obtain ⟨IB,hIB⟩ : ∃ y,w.heap.size = y := ⟨_,rfl⟩
 have b1 : Below w.heap.size w w1 := by rw [← hw1]; exact (Below.refl _ _).alloc (Nat.le_refl _) _
 have kI : Bk w1 IB [.int .i64 op,.int .i64 d,.int .i64 a,.int .i64 b,.int .i64 c,.int .i64 imm] 35 := by rw [← hw1,← hIB]; exact Bk.new _ _ _
 have h1 := h.below b1
 have HFar := keep (h.far (k:=IB) (by omega))
 have HkI := keep kI
 have HM1 := keep h1
 have HB1 := keep b1
 have HW1 := keep hw1
 have HIB := keep hIB
 have HCl := keep hc
 have HSz : Hid (lo ≤ w1.heap.size) := Nat.le_trans hlo b1.size
 have HShw := keep (fun W (hW : Below w1.heap.size w1 W) => HSh.out W (h1.below hW) hT hs)
 unfold ixA at HShw ⊢
 dsimp only at HShw ⊢
 have x0 := kI.cell 0 rfl
 have x1 := kI.cell 1 rfl
 have x2 := kI.cell 2 rfl
 have x3 := kI.cell 3 rfl
 have x4 := kI.cell 4 rfl
 have x5 := kI.cell 5 rfl
 have m0 := h1.c18.2.2.2
 have m1 : w1.frozen? ⟨MB,21,none⟩ = false := h1.bk.fr 21
 have HF1 : Hid (MF MB NB (.slice p n cap) sv w (.slice p n cap) sv w1) := MF.of_below b1
 obtain ⟨q,hq⟩ : ∃ q,m.shown = q := ⟨_,rfl⟩
 rw [hq] at m0
 obtain ⟨s,hs'⟩ : ∃ s,shwM T m.sec ⟨op,d,a,b,c,imm⟩ = s := ⟨_,rfl⟩
 rw [hs'] at HShw
 have HEq : Hid (emitM T ⟨op,d,a,b,c,imm⟩ m = ⟨m.code ++ [⟨op,d,a,b,c,imm⟩],m.sec,m.nums,q || s⟩) := by show _ = _; unfold emitM; rw [hq,hs']
 have HQ := keep hq
 clear hw1 hIB kI b1 h1 h hT hs hc hlo hq hs' HSh
 cases q with
 | true =>
  have HMx := HM1
  have HFx := HF1
  have HkIx := HkI
  have HSzx := HSz
  go_enter Try.func66,Try.ntmps66
  go_wp2_with (first | rw [HW1.out] | rw [HIB.out] | fail)
  obtain ⟨hM2,hF2⟩ := HMx.out.setShown true
  have HM2 : Hid (MkIs (w1.setCell ⟨MB,21,none⟩ (.bool true)) lo MB NB T (.slice p n cap) sv ⟨m.code,m.sec,m.nums,true⟩) := hM2
  have HF2 := keep (HFx.out.trans hF2)
  have HkIq : Hid (Bk (w1.setCell ⟨MB,21,none⟩ (.bool true)) IB [.int .i64 op,.int .i64 d,.int .i64 a,.int .i64 b,.int .i64 c,.int .i64 imm] 35) := hF2.far (lo:=lo) HkIx.out HFar.out
  have HSz2 : Hid (lo ≤ (w1.setCell ⟨MB,21,none⟩ (.bool true)).heap.size) := Nat.le_trans HSzx.out hF2.size
  clear hM2 hF2
  generalize w1.setCell ⟨MB,21,none⟩ (.bool true) = w2 at *
  have HFarq := HFar
  obtain ⟨i0,hi0,j0,j1,j2⟩ := info_parts info_X
  have HSS : Hid (∀ W',Below w2.heap.size w2 W' → W'.cell? ⟨MB,18,none⟩ = some (.slice p n cap) ∧ W'.cell? ⟨IB,0,none⟩ = some (.int .i64 op) ∧ W'.cell? ⟨IB,1,none⟩ = some (.int .i64 d) ∧ W'.cell? ⟨IB,2,none⟩ = some (.int .i64 a) ∧ W'.cell? ⟨IB,3,none⟩ = some (.int .i64 b) ∧ W'.cell? ⟨IB,4,none⟩ = some (.int .i64 c) ∧ W'.cell? ⟨IB,5,none⟩ = some (.int .i64 imm)) := fun W' hW => by
   have u1 := HM2.out.below hW
   have u2 := HkIq.out.fs (Fs.of_below (l:=[]) hW) (by simp)
   exact ⟨u1.c18.1,u2.cell 0 rfl,u2.cell 1 rfl,u2.cell 2 rfl,u2.cell 3 rfl,u2.cell 4 rfl,u2.cell 5 rfl⟩
  refine wp_region_noPanic ?_
  refine Ord.wpM_begin (fun W' : World => W'.cell? ⟨MB,18,none⟩ = some (.slice p n cap) ∧ W'.cell? ⟨IB,0,none⟩ = some (.int .i64 op) ∧ W'.cell? ⟨IB,1,none⟩ = some (.int .i64 d) ∧ W'.cell? ⟨IB,2,none⟩ = some (.int .i64 a) ∧ W'.cell? ⟨IB,3,none⟩ = some (.int .i64 b) ∧ W'.cell? ⟨IB,4,none⟩ = some (.int .i64 c) ∧ W'.cell? ⟨IB,5,none⟩ = some (.int .i64 imm)) [0,1,2,3,4,5,6,7,8,9] (by kernel_rfl) ?_
  have HD : Hid (Below w2.heap.size w2 w2.drew) := Below.drew (Below.refl _ _)
  generalize w2.drew = wd at *
  have hS := HSS.out wd HD.out
  refine Ord.tk (i:=0) (v:=.pointer (some ⟨MB,0,none⟩)) (hy:=Or.inl ⟨by rfl,by rintro W' ⟨q0,q1,q2,q3,q4,q5,q6⟩; go_simp⟩) (hS:=hS) (h:=?_)
  try simp only [Act.put,Ord.t,Ord.z,Ord.s]
  refine Ord.tk (i:=1) (v:=.pointer (some ⟨MB,0,none⟩)) (hy:=Or.inl ⟨by rfl,by rintro W' ⟨q0,q1,q2,q3,q4,q5,q6⟩; go_simp⟩) (hS:=hS) (h:=?_)
  try simp only [Act.put,Ord.t,Ord.z,Ord.s]
  refine Ord.tk (i:=2) (v:=.pointer (some ⟨MB,0,none⟩)) (hy:=Or.inl ⟨by rfl,by rintro W' ⟨q0,q1,q2,q3,q4,q5,q6⟩; go_simp⟩) (hS:=hS) (h:=?_)
  try simp only [Act.put,Ord.t,Ord.z,Ord.s]
  refine Ord.tk (i:=3) (v:=.pointer (some ⟨MB,18,none⟩)) (hy:=Or.inl ⟨by rfl,by rintro W' ⟨q0,q1,q2,q3,q4,q5,q6⟩; go_simp⟩) (hS:=hS) (h:=?_)
  try simp only [Act.put,Ord.t,Ord.z,Ord.s]
  refine Ord.tk (i:=4) (v:=.slice p n cap) (hy:=Or.inl ⟨by rfl,by rintro W' ⟨q0,q1,q2,q3,q4,q5,q6⟩; go_simp⟩) (hS:=hS) (h:=?_)
  try simp only [Act.put,Ord.t,Ord.z,Ord.s]
  refine Ord.tk (i:=5) (v:=.agg #[.int .i64 op,.int .i64 d,.int .i64 a,.int .i64 b,.int .i64 c,.int .i64 imm]) (hy:=Or.inl ⟨by rfl,by rintro W' ⟨q0,q1,q2,q3,q4,q5,q6⟩; go_simp⟩) (hS:=hS) (h:=?_)
  try simp only [Act.put,Ord.t,Ord.z,Ord.s]
  refine Ord.on (i:=6) (h:=fun K hK => ?_)
  go_simp
  have HB6 : Hid (Below wd.heap.size wd (wd.alloc (.cells #[.int .i64 op,.int .i64 d,.int .i64 a,.int .i64 b,.int .i64 c,.int .i64 imm] 35))) := (Below.refl _ _).alloc (Nat.le_refl _) _
  have HBa : Hid (Below w2.heap.size w2 (wd.alloc (.cells #[.int .i64 op,.int .i64 d,.int .i64 a,.int .i64 b,.int .i64 c,.int .i64 imm] 35))) := HD.out.trans (HB6.out.mono HD.out.size)
  refine hK.out _ _ (fun _ => HSS.out _ HBa.out) ?_
  clear hK K
  try simp only [Act.put,Ord.t,Ord.z,Ord.s]
  have HMa := keep (HM2.out.below HBa.out)
  have hnl : n = m.code.length := RowX.len HMa.out.code
  subst hnl
  have HLo : Hid (lo ≤ (wd.alloc (.cells #[.int .i64 op,.int .i64 d,.int .i64 a,.int .i64 b,.int .i64 c,.int .i64 imm] 35)).heap.size) := by have h1 := HBa.out.size; have h2 := HSz2.out; show _ ≤ _; omega
  refine Ord.on (i:=7) (h:=fun K hK => ?_)
  refine step_append_lies _ rfl (.tmp 20) (.tmp 22) 22 rfl lo 35 i0 _ 6 48 Try.underlying22 hi0 j0 j1 j2 rfl (by decide) (.slice p m.code.length cap) m.code.length (m.code.flatMap cellsX) rfl (RowX.own HMa.out.code) ⟨wd.heap.size,0,none⟩ 1 1 (cellsX ⟨op,d,a,b,c,imm⟩) rfl rfl (fun j u hj => new_cell wd _ _ j u hj) ?c2 (by decide) ?c3 ?c4 HLo.out (wd.heap.size + 1) (by simp) ?_
  case c2 =>
   intro u hu
   simp only [cellsX,List.mem_cons,List.not_mem_nil,or_false] at hu
   rcases hu with rfl | rfl | rfl | rfl | rfl | rfl <;> rfl
  case c3 => have := HCl.out; unfold maxLen; omega
  case c4 => have := HCl.out; omega
  intro gz cp w9 hown2 hgrow hat hlt
  obtain ⟨hN,hF⟩ := HMa.out.pushC ⟨op,d,a,b,c,imm⟩ hown2 hgrow (by simpa using hat)
  have HN := keep hN
  have HF9 := keep (HF2.out.trans ((MF.of_below HBa.out).trans hF))
  have hlM : MB < (wd.alloc (.cells #[.int .i64 op,.int .i64 d,.int .i64 a,.int .i64 b,.int .i64 c,.int .i64 imm] 35)).heap.size := HMa.out.bk.lt
  have hbM := hgrow.block MB hlM (fun e => HMa.out.c1 e.symm)
  have hM1 : w9.cell? ⟨MB,18,none⟩ = some (.slice p m.code.length cap) := by rw [World.cell?_of_block hbM]; exact HMa.out.c18.1
  have hMf : w9.frozen? ⟨MB,18,none⟩ = false := by have h9 := HMa.out.bk; unfold Bk at h9; rw [← hbM] at h9; exact Lib.frozen_of_heap h9 18
  have hkI9 : Bk w9 IB [.int .i64 op,.int .i64 d,.int .i64 a,.int .i64 b,.int .i64 c,.int .i64 imm] 35 := by
   have u2 := HkIq.out.fs (Fs.of_below (l:=[]) HBa.out) (by simp)
   have hl := u2.lt
   unfold Bk at u2 ⊢
   rw [hgrow.block IB hl (fun e => HFarq.out.c e.symm)]; exact u2
  have hS : (fun W' : World => W'.cell? ⟨MB,18,none⟩ = some (.slice p m.code.length cap) ∧ W'.cell? ⟨IB,0,none⟩ = some (.int .i64 op) ∧ W'.cell? ⟨IB,1,none⟩ = some (.int .i64 d) ∧ W'.cell? ⟨IB,2,none⟩ = some (.int .i64 a) ∧ W'.cell? ⟨IB,3,none⟩ = some (.int .i64 b) ∧ W'.cell? ⟨IB,4,none⟩ = some (.int .i64 c) ∧ W'.cell? ⟨IB,5,none⟩ = some (.int .i64 imm)) w9 := ⟨hM1,hkI9.cell 0 rfl,hkI9.cell 1 rfl,hkI9.cell 2 rfl,hkI9.cell 3 rfl,hkI9.cell 4 rfl,hkI9.cell 5 rfl⟩
  clear hown2 hgrow hat hlt hN hF hlM hbM hkI9
  refine hK.out _ _ (fun _ => hS) ?_
  clear hK K
  try simp only [Act.put,Ord.t,Ord.z,Ord.s]
  refine Ord.on (i:=8) (h:=fun K hK => ?_)
  go_simp
  refine hK.out _ _ (fun _ => hS) ?_
  clear hK K
  try simp only [Act.put,Ord.t,Ord.z,Ord.s]
  refine Ord.on (i:=9) (h:=fun K hK => ?_)
  go_simp
  refine hK.out _ _ (fun _ => hS) ?_
  clear hK K
  try simp only [Act.put,Ord.t,Ord.z,Ord.s]
  refine Ord.on (i:=10) (h:=fun K hK => ?_)
  go_simp
  refine hK.out _ _ (fun h => absurd h (by decide)) ?_
  clear hK K
  try simp only [Act.put,Ord.t,Ord.z,Ord.s]
  refine Ord.wpM_done (by kernel_rfl) ?_ _
  refine NoPanic.normal ?_
  clear HSS hS hM1 hMf
  generalize w9.setCell ⟨MB,18,none⟩ (.slice (some ⟨gz,0,none⟩) (m.code.length + 1) cp) = wf at *
  go_wp2
  refine bodyPost_end (results_none rfl _ _ _) rfl ?_
  exact ⟨rfl,_,by rw [HEq.out]; exact HN.out,HF9.out⟩
 | false =>
  have HSw := keep (HShw.out w1 (Below.refl _ _))
  go_enter Try.func66,Try.ntmps66
  go_wp2_with (first | rw [HW1.out] | rw [HIB.out] | fail)
  refine HSw.out.mono ?_
  rintro r w3 ⟨rfl,hb3⟩
  have HMx := keep (HM1.out.below hb3)
  have HFx := keep (HF1.out.trans (MF.of_below hb3))
  have HkIx := keep (HkI.out.fs (Fs.of_below (l:=[]) hb3) (by simp))
  have HSzx : Hid (lo ≤ w3.heap.size) := Nat.le_trans HSz.out hb3.size
  clear x0 x1 x2 x3 x4 x5 m0 m1 HSw HShw
  have m0 := HMx.out.c18.2.2.2
  have m1 : w3.frozen? ⟨MB,21,none⟩ = false := HMx.out.bk.fr 21
  rw [HQ.out] at m0
  clear hb3
  go_wp2_with fail
  obtain ⟨hM2,hF2⟩ := HMx.out.setShown s
  have HM2 : Hid (MkIs (w3.setCell ⟨MB,21,none⟩ (.bool s)) lo MB NB T (.slice p n cap) sv ⟨m.code,m.sec,m.nums,s⟩) := hM2
  have HF2 := keep (HFx.out.trans hF2)
  have HkIq : Hid (Bk (w3.setCell ⟨MB,21,none⟩ (.bool s)) IB [.int .i64 op,.int .i64 d,.int .i64 a,.int .i64 b,.int .i64 c,.int .i64 imm] 35) := hF2.far (lo:=lo) HkIx.out HFar.out
  have HSz2 : Hid (lo ≤ (w3.setCell ⟨MB,21,none⟩ (.bool s)).heap.size) := Nat.le_trans HSzx.out hF2.size
  clear hM2 hF2
  generalize w3.setCell ⟨MB,21,none⟩ (.bool s) = w2 at *
  have HFarq := HFar
  clear m0 m1
  obtain ⟨i0,hi0,j0,j1,j2⟩ := info_parts info_X
  have HSS : Hid (∀ W',Below w2.heap.size w2 W' → W'.cell? ⟨MB,18,none⟩ = some (.slice p n cap) ∧ W'.cell? ⟨IB,0,none⟩ = some (.int .i64 op) ∧ W'.cell? ⟨IB,1,none⟩ = some (.int .i64 d) ∧ W'.cell? ⟨IB,2,none⟩ = some (.int .i64 a) ∧ W'.cell? ⟨IB,3,none⟩ = some (.int .i64 b) ∧ W'.cell? ⟨IB,4,none⟩ = some (.int .i64 c) ∧ W'.cell? ⟨IB,5,none⟩ = some (.int .i64 imm)) := fun W' hW => by
   have u1 := HM2.out.below hW
   have u2 := HkIq.out.fs (Fs.of_below (l:=[]) hW) (by simp)
   exact ⟨u1.c18.1,u2.cell 0 rfl,u2.cell 1 rfl,u2.cell 2 rfl,u2.cell 3 rfl,u2.cell 4 rfl,u2.cell 5 rfl⟩
  refine wp_region_noPanic ?_
  refine Ord.wpM_begin (fun W' : World => W'.cell? ⟨MB,18,none⟩ = some (.slice p n cap) ∧ W'.cell? ⟨IB,0,none⟩ = some (.int .i64 op) ∧ W'.cell? ⟨IB,1,none⟩ = some (.int .i64 d) ∧ W'.cell? ⟨IB,2,none⟩ = some (.int .i64 a) ∧ W'.cell? ⟨IB,3,none⟩ = some (.int .i64 b) ∧ W'.cell? ⟨IB,4,none⟩ = some (.int .i64 c) ∧ W'.cell? ⟨IB,5,none⟩ = some (.int .i64 imm)) [0,1,2,3,4,5,6,7,8,9] (by kernel_rfl) ?_
  have HD : Hid (Below w2.heap.size w2 w2.drew) := Below.drew (Below.refl _ _)
  generalize w2.drew = wd at *
  have hS := HSS.out wd HD.out
  refine Ord.tk (i:=0) (v:=.pointer (some ⟨MB,0,none⟩)) (hy:=Or.inl ⟨by rfl,by rintro W' ⟨q0,q1,q2,q3,q4,q5,q6⟩; go_simp⟩) (hS:=hS) (h:=?_)
  try simp only [Act.put,Ord.t,Ord.z,Ord.s]
  refine Ord.tk (i:=1) (v:=.pointer (some ⟨MB,0,none⟩)) (hy:=Or.inl ⟨by rfl,by rintro W' ⟨q0,q1,q2,q3,q4,q5,q6⟩; go_simp⟩) (hS:=hS) (h:=?_)
  try simp only [Act.put,Ord.t,Ord.z,Ord.s]
  refine Ord.tk (i:=2) (v:=.pointer (some ⟨MB,0,none⟩)) (hy:=Or.inl ⟨by rfl,by rintro W' ⟨q0,q1,q2,q3,q4,q5,q6⟩; go_simp⟩) (hS:=hS) (h:=?_)
  try simp only [Act.put,Ord.t,Ord.z,Ord.s]
  refine Ord.tk (i:=3) (v:=.pointer (some ⟨MB,18,none⟩)) (hy:=Or.inl ⟨by rfl,by rintro W' ⟨q0,q1,q2,q3,q4,q5,q6⟩; go_simp⟩) (hS:=hS) (h:=?_)
  try simp only [Act.put,Ord.t,Ord.z,Ord.s]
  refine Ord.tk (i:=4) (v:=.slice p n cap) (hy:=Or.inl ⟨by rfl,by rintro W' ⟨q0,q1,q2,q3,q4,q5,q6⟩; go_simp⟩) (hS:=hS) (h:=?_)
  try simp only [Act.put,Ord.t,Ord.z,Ord.s]
  refine Ord.tk (i:=5) (v:=.agg #[.int .i64 op,.int .i64 d,.int .i64 a,.int .i64 b,.int .i64 c,.int .i64 imm]) (hy:=Or.inl ⟨by rfl,by rintro W' ⟨q0,q1,q2,q3,q4,q5,q6⟩; go_simp⟩) (hS:=hS) (h:=?_)
  try simp only [Act.put,Ord.t,Ord.z,Ord.s]
  refine Ord.on (i:=6) (h:=fun K hK => ?_)
  go_simp
  have HB6 : Hid (Below wd.heap.size wd (wd.alloc (.cells #[.int .i64 op,.int .i64 d,.int .i64 a,.int .i64 b,.int .i64 c,.int .i64 imm] 35))) := (Below.refl _ _).alloc (Nat.le_refl _) _
  have HBa : Hid (Below w2.heap.size w2 (wd.alloc (.cells #[.int .i64 op,.int .i64 d,.int .i64 a,.int .i64 b,.int .i64 c,.int .i64 imm] 35))) := HD.out.trans (HB6.out.mono HD.out.size)
  refine hK.out _ _ (fun _ => HSS.out _ HBa.out) ?_
  clear hK K
  try simp only [Act.put,Ord.t,Ord.z,Ord.s]
  have HMa := keep (HM2.out.below HBa.out)
  have hnl : n = m.code.length := RowX.len HMa.out.code
  subst hnl
  have HLo : Hid (lo ≤ (wd.alloc (.cells #[.int .i64 op,.int .i64 d,.int .i64 a,.int .i64 b,.int .i64 c,.int .i64 imm] 35)).heap.size) := by have h1 := HBa.out.size; have h2 := HSz2.out; show _ ≤ _; omega
  refine Ord.on (i:=7) (h:=fun K hK => ?_)
  refine step_append_lies _ rfl (.tmp 20) (.tmp 22) 22 rfl lo 35 i0 _ 6 48 Try.underlying22 hi0 j0 j1 j2 rfl (by decide) (.slice p m.code.length cap) m.code.length (m.code.flatMap cellsX) rfl (RowX.own HMa.out.code) ⟨wd.heap.size,0,none⟩ 1 1 (cellsX ⟨op,d,a,b,c,imm⟩) rfl rfl (fun j u hj => new_cell wd _ _ j u hj) ?c2 (by decide) ?c3 ?c4 HLo.out (wd.heap.size + 1) (by simp) ?_
  case c2 =>
   intro u hu
   simp only [cellsX,List.mem_cons,List.not_mem_nil,or_false] at hu
   rcases hu with rfl | rfl | rfl | rfl | rfl | rfl <;> rfl
  case c3 => have := HCl.out; unfold maxLen; omega
  case c4 => have := HCl.out; omega
  intro gz cp w9 hown2 hgrow hat hlt
  obtain ⟨hN,hF⟩ := HMa.out.pushC ⟨op,d,a,b,c,imm⟩ hown2 hgrow (by simpa using hat)
  have HN := keep hN
  have HF9 := keep (HF2.out.trans ((MF.of_below HBa.out).trans hF))
  have hlM : MB < (wd.alloc (.cells #[.int .i64 op,.int .i64 d,.int .i64 a,.int .i64 b,.int .i64 c,.int .i64 imm] 35)).heap.size := HMa.out.bk.lt
  have hbM := hgrow.block MB hlM (fun e => HMa.out.c1 e.symm)
  have hM1 : w9.cell? ⟨MB,18,none⟩ = some (.slice p m.code.length cap) := by rw [World.cell?_of_block hbM]; exact HMa.out.c18.1
  have hMf : w9.frozen? ⟨MB,18,none⟩ = false := by have h9 := HMa.out.bk; unfold Bk at h9; rw [← hbM] at h9; exact Lib.frozen_of_heap h9 18
  have hkI9 : Bk w9 IB [.int .i64 op,.int .i64 d,.int .i64 a,.int .i64 b,.int .i64 c,.int .i64 imm] 35 := by
   have u2 := HkIq.out.fs (Fs.of_below (l:=[]) HBa.out) (by simp)
   have hl := u2.lt
   unfold Bk at u2 ⊢
   rw [hgrow.block IB hl (fun e => HFarq.out.c e.symm)]; exact u2
  have hS : (fun W' : World => W'.cell? ⟨MB,18,none⟩ = some (.slice p m.code.length cap) ∧ W'.cell? ⟨IB,0,none⟩ = some (.int .i64 op) ∧ W'.cell? ⟨IB,1,none⟩ = some (.int .i64 d) ∧ W'.cell? ⟨IB,2,none⟩ = some (.int .i64 a) ∧ W'.cell? ⟨IB,3,none⟩ = some (.int .i64 b) ∧ W'.cell? ⟨IB,4,none⟩ = some (.int .i64 c) ∧ W'.cell? ⟨IB,5,none⟩ = some (.int .i64 imm)) w9 := ⟨hM1,hkI9.cell 0 rfl,hkI9.cell 1 rfl,hkI9.cell 2 rfl,hkI9.cell 3 rfl,hkI9.cell 4 rfl,hkI9.cell 5 rfl⟩
  clear hown2 hgrow hat hlt hN hF hlM hbM hkI9
  refine hK.out _ _ (fun _ => hS) ?_
  clear hK K
  try simp only [Act.put,Ord.t,Ord.z,Ord.s]
  refine Ord.on (i:=8) (h:=fun K hK => ?_)
  go_simp
  refine hK.out _ _ (fun _ => hS) ?_
  clear hK K
  try simp only [Act.put,Ord.t,Ord.z,Ord.s]
  refine Ord.on (i:=9) (h:=fun K hK => ?_)
  go_simp
  refine hK.out _ _ (fun _ => hS) ?_
  clear hK K
  try simp only [Act.put,Ord.t,Ord.z,Ord.s]
  refine Ord.on (i:=10) (h:=fun K hK => ?_)
  go_simp
  refine hK.out _ _ (fun h => absurd h (by decide)) ?_
  clear hK K
  try simp only [Act.put,Ord.t,Ord.z,Ord.s]
  refine Ord.wpM_done (by kernel_rfl) ?_ _
  refine NoPanic.normal ?_
  clear HSS hS hM1 hMf
  generalize w9.setCell ⟨MB,18,none⟩ (.slice (some ⟨gz,0,none⟩) (m.code.length + 1) cp) = wf at *
  go_wp2
  refine bodyPost_end (results_none rfl _ _ _) rfl ?_
  exact ⟨rfl,_,by rw [HEq.out]; exact HN.out,HF9.out⟩
end Go.Proofs.Ytfbmkcogkiejnaa.Hg
