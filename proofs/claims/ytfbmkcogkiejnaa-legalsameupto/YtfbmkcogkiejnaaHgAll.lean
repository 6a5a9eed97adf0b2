/- Legal, as a whole. Written by tools/gen_hgall.py. -/
import Derived.Test.YtfbmkcogkiejnaaGr37
import Derived.Test.YtfbmkcogkiejnaaGr28
namespace Go.Proofs.Ytfbmkcogkiejnaa.Hg
set_option maxHeartbeats 32000000
set_option maxRecDepth 100000
set_option linter.unusedVariables false
set_option linter.unusedSimpArgs false
open Go.ChangeShapes Go.WideShapes Go.ChangeAt Go.RowKit Go.Maps Lg Lr Fl
structure S8 where
 m : Mk
 st : List Int
 much : Bool
def stp8 (T : Nat → Int) (k : Nat) (i : Ix) (s : S8) : S8 :=
 if 12000 < (legalM T i s.m).code.length then ⟨⟨[],(legalM T i s.m).sec.take k,(legalM T i s.m).nums,(legalM T i s.m).shown⟩,s.st ++ [(s.m.code.length : Int)],true⟩
 else ⟨legalM T i s.m,s.st ++ [(s.m.code.length : Int)],s.much⟩
def go8 (T : Nat → Int) (k : Nat) : List Ix → S8 → Option S8
 | [],s => some s
 | i :: l,s => if (legalM T i s.m).shown = true then none else go8 T k l (stp8 T k i s)
def st0 (f : Fx) : S8 := ⟨mk0 f.sec,[],false⟩
def run8 (f : Fx) (T : Nat → Int) : Option S8 := go8 T f.sec.length f.code (st0 f)
def err8 (f : Fx) (T : Nat → Int) : Int := if (checkF f).1 ≠ 0 then (checkF f).1 else if Tb.wrongT T ≠ 0 then Tb.wrongT T else match run8 f T with
 | none => 11
 | some s => if s.much = true then 4 else 0
structure Ok8 (f : Fx) (T : Nat → Int) (j : Nat) (s : S8) : Prop where
 go : go8 T f.sec.length (f.code.drop j) s = run8 f T
 code : s.m.code.length ≤ 12000
 sec : ∃ S,s.m.sec = f.sec.map s01 ++ S ∧ S.length ≤ 1000 * j
 g : ∀ x ∈ s.m.sec,x = 0 ∨ x = 1
 sh : s.m.shown = false
 len : s.st.length = j
 jmp : ∀ x ∈ s.m.code,x.op = 18 ∨ x.op = 19 → 0 ≤ x.imm ∧ x.imm < f.code.length
theorem s01_01 (l : List Bool) : ∀ x ∈ l.map s01,x = 0 ∨ x = 1 := fun x hx => by
 obtain ⟨b,_,rfl⟩ := List.mem_map.1 hx
 cases b <;> simp [s01]
theorem Ok8.zero (f : Fx) (T : Nat → Int) : Ok8 f T 0 (st0 f) := ⟨rfl,by show 0 ≤ _; omega,⟨[],by show f.sec.map s01 = _; simp,by simp⟩,s01_01 f.sec,rfl,rfl,fun x hx => by cases hx⟩
theorem Ok8.fits {f : Fx} {T : Nat → Int} {j : Nat} {s : S8} (h : Ok8 f T j s) {i : Ix} (hf : Fine f j i) : ∀ p ∈ rds i,0 ≤ p ∧ p < s.m.sec.length := fun p hp => by
 obtain ⟨S,h1,_⟩ := h.sec
 have := hf.r p hp
 rw [h1,List.length_append,List.length_map]; omega
theorem Ok8.adds {f : Fx} {T : Nat → Int} {j : Nat} {s : S8} (h : Ok8 f T j s) {i : Ix} (hf : Fine f j i) : Adds s.m (legalM T i s.m) := legal_adds T i h.g (h.fits hf)
theorem Ok8.none {f : Fx} {T : Nat → Int} {j : Nat} {s : S8} (h : Ok8 f T j s) {i : Ix} (hi : f.code[j]? = some i) (hs : (legalM T i s.m).shown = true) : run8 f T = none := by
 rw [← h.go]
 have hd := List.drop_eq_getElem_cons (List.getElem?_eq_some_iff.1 hi).1
 rw [(List.getElem?_eq_some_iff.1 hi).2] at hd
 rw [hd,go8,if_pos hs]
theorem Ok8.step {f : Fx} {T : Nat → Int} {j : Nat} {s : S8} (h : Ok8 f T j s) {i : Ix} (hi : f.code[j]? = some i) (hf : Fine f j i) (hs : (legalM T i s.m).shown = false) : Ok8 f T (j + 1) (stp8 T f.sec.length i s) := by
 have ha := h.adds hf
 obtain ⟨S,h1,h2⟩ := h.sec
 obtain ⟨S2,h3,h4⟩ := ha.s
 obtain ⟨C,h5,h6,h7⟩ := ha.c
 have hc := h.code
 have h' := h.jmp
 have hd := List.drop_eq_getElem_cons (List.getElem?_eq_some_iff.1 hi).1
 rw [(List.getElem?_eq_some_iff.1 hi).2] at hd
 have hgo : go8 T f.sec.length (f.code.drop (j + 1)) (stp8 T f.sec.length i s) = run8 f T := by
  rw [← h.go,hd,go8,if_neg (by rw [hs]; decide)]
 have hjm : ∀ x ∈ (legalM T i s.m).code,x.op = 18 ∨ x.op = 19 → 0 ≤ x.imm ∧ x.imm < f.code.length := fun x hx ho => by
  rcases legal_code T i s.m x hx with ⟨y,hy | hy,e1,e2⟩ | h
  ·have := h' y hy (by omega); rw [e2]; exact this
  ·subst hy; have := hf.j (by omega); omega
  ·omega
 refine ⟨hgo,?_,?_,?_,?_,?_,?_⟩ <;> unfold stp8 <;> split <;> dsimp only
 ·simp
 ·omega
 ·refine ⟨[],?_,by simp⟩
  rw [h3,h1,List.append_assoc,List.append_nil,List.take_left' (by simp)]
 ·exact ⟨S ++ S2,by rw [h3,h1,List.append_assoc],by rw [List.length_append]; omega⟩
 ·exact fun x hx => ha.g x (List.mem_of_mem_take hx)
 ·exact ha.g
 ·exact hs
 ·exact hs
 ·rw [List.length_append,h.len]; rfl
 ·rw [List.length_append,h.len]; rfl
 ·exact fun x hx => by cases hx
 ·exact hjm
def Wg (f : Fx) (T : Nat → Int) (w : World) (r : Ending) (w' : World) : Prop := Below w.heap.size w w' ∧
 ((err8 f T ≠ 0 ∧ r = .returned (.tuple #[.agg #[.slice none 0 0,.slice none 0 0,.int .i64 0,.slice none 0 0],.int .i64 (err8 f T)])) ∨
  (err8 f T = 0 ∧ ∃ s,run8 f T = some s ∧ s.much = false ∧ ∃ v1 LB v3 lo1 lo3,r = .returned (.tuple #[.agg #[v1,.slice (some ⟨LB,0,none⟩) s.m.sec.length s.m.sec.length,.int .i64 f.params,v3],.int .i64 0]) ∧ w.heap.size ≤ lo1 ∧ w.heap.size ≤ LB ∧ w.heap.size ≤ lo3 ∧ RowC w' lo1 v1 (leadM s.st s.m.code) ∧ Bk w' LB ((is1 s.m.sec).map Value.bool) 4 ∧ RowX nest0 cellsW 3 75 w' lo3 v3 f.arrs))
theorem MkIs.turn {w w' w0 : World} {lo MB NB B0 : Nat} {T : Nat → Int} {cv sv cv' sv' : Value} {m : Mk} (h : MkIs w lo MB NB T cv sv m) (hf : MF MB NB cv sv w cv' sv' w') (hB : B0 ≤ lo) (hl : lo ≤ w.heap.size) (hb : Below B0 w0 w) : Below B0 w0 w' :=
 hb.trans ⟨hf.os,hf.tape,hf.output,hf.size,fun k hk => hf.block k (by omega) (by have := h.lo1; omega) (by have := h.lo2; omega) (fun e => by have := ((RowX.own h.code).lt k e).1; omega) (fun e => by have := ((RowX.own h.sec).lt k e).1; omega)⟩
theorem MkIs.led {w w' : World} {lo MB NB : Nat} {T : Nat → Int} {cv sv : Value} {m : Mk} (h : MkIs w lo MB NB T cv sv m) {l : List Ix} (hr : RowC w' lo cv l) (hf : RF cv w w') : MkIs w' lo MB NB T cv sv ⟨l,m.sec,m.nums,m.shown⟩ := by
 refine ⟨?_,hr,RowX.own_keep nI h.sec (fun k e => hf.block k ((RowX.own h.sec).lt k e).2 (fun x => h.cs k x e)),h.num.stay (hf.block NB h.num.lt h.c2),h.lo1,h.lo2,h.ne,h.c1,h.c2,h.s1,h.s2,h.cs⟩
 have hb := h.bk
 have hl := hb.lt
 unfold Bk at hb ⊢
 rw [hf.block MB hl h.c1]; exact hb
theorem RF.bk {cv : Value} {w w' : World} (h : RF cv w w') {k : Nat} {l : List Value} {ty : TypeId} (hk : Bk w k l ty) (hn : cv.ownBlock ≠ some k) : Bk w' k l ty := by
 have hl := hk.lt
 unfold Bk at hk ⊢
 rw [h.block k hl hn]; exact hk
def starts (st : List Int) (n : Nat) : List Value := st.map (Value.int .i64) ++ List.replicate (n - st.length) (Value.int .i64 0)
theorem starts_all (st : List Int) : starts st st.length = st.map (Value.int .i64) := by unfold starts; rw [Nat.sub_self]; simp
theorem starts_at (st : List Int) (n : Nat) (x : Int) (h : st.length < n) : (starts st n)[st.length]? = some (.int .i64 0) ∧ (starts st n).set st.length (.int .i64 x) = starts (st ++ [x]) n := by
 unfold starts
 rw [show n - st.length = (n - (st.length + 1)) + 1 by omega,List.replicate_succ,List.length_append,List.length_singleton]
 refine ⟨?_,?_⟩
 ·rw [List.getElem?_append_right (by rw [List.length_map]; exact Nat.le_refl _),List.length_map,Nat.sub_self]; rfl
 ·rw [List.set_append_right _ _ (by rw [List.length_map]; exact Nat.le_refl _),List.length_map,Nat.sub_self,List.set_cons_zero,List.map_append,List.append_assoc]; rfl
theorem results_flat {fn : Func} {p u : Tmp} (hf : fn.results = #[.cell p 26,.tmp u]) (tmps : Array Value) (w : World) (g : Nat) (cs : Array Value) (e : Int) (h2 : tmps.getD p undef = .pointer (some ⟨g,0,none⟩)) (h3 : tmps.getD u undef = .int .i64 e) (hg : w.heap[g]? = some (.cells cs 26 (0,0))) (hi : (Try.prog.info? 26).map (·.size) = some cs.size) :
  (results fn tmps).run Try.prog w = .ok (.tuple #[.agg cs,.int .i64 e]) w := by
 rw [results_cell_tmp hf,h2,h3]
 have := run_loadVar_row (P:=Try.prog) w g _ 26 cs _ _ hg Try.underlying26 rfl hi
 simp [asAddr,Result.andThen,this]
theorem info_flat (cs : Array Value) (h : cs.size = 4) : (Try.prog.info? 26).map (·.size) = some cs.size := by rw [h]; kernel_rfl
theorem store_flat {ops : Array Oper} {rest : List Oper} {o : Oper} {a : Act} {w : World} {Q : Exit → Act → World → Prop} (hgd : o.guard = none) (x y : Operand) (ho : o.op = .store 26 x y)
  (g : Nat) (v1 v2 v3 : Value) (n : Int) (h1 : v1.oneCell' = true) (h2 : v2.oneCell' = true) (h3 : v3.oneCell' = true) (hx : a.eval x = .pointer (some ⟨g,0,none⟩)) (hy : a.eval y = .agg #[v1,v2,.int .i64 n,v3]) (old : Array Value) (hs : old.size = 4) (hg : w.heap[g]? = some (.cells old 26 (0,0))) (h : wpList Try.prog ops Q rest (a.put o.dst undef) (w.setRow g #[v1,v2,.int .i64 n,v3])) : wpList Try.prog ops Q (o :: rest) a w :=
 wpList_store_row hgd 26 x y ho g #[v1,v2,.int .i64 n,v3] hx hy 26 old hg (info_flat _ rfl) (by rw [hs]; rfl) (by simp [h1,h2,h3] <;> rfl) h
theorem load_flat {ops : Array Oper} {rest : List Oper} {o : Oper} {a : Act} {w : World} {Q : Exit → Act → World → Prop} (hgd : o.guard = none) (x : Operand) (ho : o.op = .load 26 x)
  (g : Nat) (hx : a.eval x = .pointer (some ⟨g,0,none⟩)) (cs : Array Value) (hs : cs.size = 4) (hg : w.heap[g]? = some (.cells cs 26 (0,0))) (h : wpList Try.prog ops Q rest (a.put o.dst (.agg cs)) w) : wpList Try.prog ops Q (o :: rest) a w :=
 wpList_load_row hgd 26 x ho g hx 26 cs (0,0) _ hg Try.underlying26 rfl (info_flat _ hs) h
theorem legal_whole (B : Nat) (f : Fx) (s1 s2 s3 : Value) (T : Nat → Int) (w : World) (hB : B ≤ w.heap.size) (h : FxIs w B f s1 s2 s3) (hN2 : f.sec.length ≤ 1048576) (hN3 : f.arrs.length ≤ 1048576) (hT : Tb.I64 T) :
  Calls Try.prog 30 #[.agg (fxA f s1 s2 s3),.agg (Tb.tabA T)] w fun r w' => Wg f T w r w' := by
 obtain ⟨p1,n1,c1,hs1,hx1⟩ := id h.code
 obtain ⟨p2,n2,c2,hs2,hx2⟩ := id h.sec
 obtain ⟨p3,n3,c3,hs3,hx3⟩ := id h.arrs
 subst hs1 hs2 hs3
 obtain ⟨pr,hpr⟩ : ∃ k : Int,f.params = k := ⟨f.params,rfl⟩
 obtain ⟨w1,hw1⟩ : ∃ y,w.alloc (.cells #[.slice p1 n1 c1,.slice p2 n2 c2,.int .i64 pr,.slice p3 n3 c3] 26) = y := ⟨_,rfl⟩
 obtain ⟨w2,hw2⟩ : ∃ y,w1.alloc (.cells (Tb.tabA T) 29) = y := ⟨_,rfl⟩
 obtain ⟨w3,hw3⟩ : ∃ y,w2.alloc (.cells #[.slice none 0 0,.slice none 0 0,.int .i64 0,.slice none 0 0] 26) = y := ⟨_,rfl⟩
 obtain ⟨FB,hFB⟩ : ∃ y,w.heap.size = y := ⟨_,rfl⟩
 obtain ⟨TB,hTB⟩ : ∃ y,w1.heap.size = y := ⟨_,rfl⟩
 obtain ⟨RB,hRB⟩ : ∃ y,w2.heap.size = y := ⟨_,rfl⟩
 have b1 : Below w.heap.size w w1 := by rw [← hw1]; exact (Below.refl _ _).alloc (Nat.le_refl _) _
 have b2 : Below w1.heap.size w1 w2 := by rw [← hw2]; exact (Below.refl _ _).alloc (Nat.le_refl _) _
 have b3 : Below w2.heap.size w2 w3 := by rw [← hw3]; exact (Below.refl _ _).alloc (Nat.le_refl _) _
 have b23 := b2.trans (b3.mono b2.size)
 have b13 := b1.trans (b23.mono b1.size)
 have z1 : w1.heap.size = w.heap.size + 1 := by rw [← hw1]; simp
 have z2 : w2.heap.size = w1.heap.size + 1 := by rw [← hw2]; simp
 have z3 : w3.heap.size = w2.heap.size + 1 := by rw [← hw3]; simp
 have kF1 : Bk w1 FB [.slice p1 n1 c1,.slice p2 n2 c2,.int .i64 pr,.slice p3 n3 c3] 26 := by rw [← hw1,← hFB]; exact Bk.new _ _ _
 have kF := kF1.fs (Fs.of_below (l:=[]) b23) (by simp)
 have kT2 : Bk w2 TB (tabL T) 29 := by rw [← hw2,← hTB]; exact Bk.new _ _ _
 have kT := kT2.fs (Fs.of_below (l:=[]) b3) (by simp)
 have kR : Bk w3 RB [.slice none 0 0,.slice none 0 0,.int .i64 0,.slice none 0 0] 26 := by rw [← hw3,← hRB]; exact Bk.new _ _ _
 have HBx : Hid (∀ W,Below w3.heap.size w3 W → Bk W FB [.slice p1 n1 c1,.slice p2 n2 c2,.int .i64 pr,.slice p3 n3 c3] 26 ∧ Bk W TB (tabL T) 29 ∧ Bk W RB [.slice none 0 0,.slice none 0 0,.int .i64 0,.slice none 0 0] 26) := fun W hW => ⟨kF.fs (Fs.of_below (l:=[]) hW) (by simp),kT.fs (Fs.of_below (l:=[]) hW) (by simp),kR.fs (Fs.of_below (l:=[]) hW) (by simp)⟩
 have HBl : Hid (B ≤ w.heap.size) := hB
 have HIn : Hid (∀ W,Below w3.heap.size w3 W → B ≤ W.heap.size ∧ FxIs W B f (.slice p1 n1 c1) (.slice p2 n2 c2) (.slice p3 n3 c3)) := fun W hW => by
  have hb := b13.trans (hW.mono b13.size)
  exact ⟨Nat.le_trans hB hb.size,h.below (hb.mono hB)⟩
 have HBw : Hid (∀ W,Below w3.heap.size w3 W → Below w.heap.size w W) := fun W hW => b13.trans (hW.mono b13.size)
 have HNb : Hid (w.heap.size = FB ∧ TB = FB + 1 ∧ RB = FB + 2 ∧ w3.heap.size = FB + 3) := ⟨hFB,by omega,by omega,by omega⟩
 have HW1 := keep hw1
 have HW2 := keep hw2
 have HW3 := keep hw3
 have HFB := keep hFB
 have HTB := keep hTB
 have HRB := keep hRB
 have HI := keep hT
 have HN := keep (And.intro hN2 hN3)
 have HPr := keep hpr
 have HLn : Hid (f.code.length = n1 ∧ f.sec.length = n2) := ⟨hx1.1,hx2.1⟩
 have HCq := keep hx1.2.2.2
 have HCk := keep (fun W (hW : Below w3.heap.size w3 W) => check_any B f (.slice p1 n1 c1) (.slice p2 n2 c2) (.slice p3 n3 c3) W (HIn.out W hW).1 (HIn.out W hW).2)
 have HBg := keep (fun W (hW : Below w3.heap.size w3 W) => begin_any B f (.slice p1 n1 c1) (.slice p2 n2 c2) (.slice p3 n3 c3) T W (HIn.out W hW).1 (HIn.out W hW).2 HN.out.1)
 have HOw := keep (fun W (hW : Below w3.heap.size w3 W) (hc : f.code.length ≤ 12000) => own_any B f (.slice p1 n1 c1) (.slice p2 n2 c2) (.slice p3 n3 c3) W (HIn.out W hW).1 (HIn.out W hW).2 (by omega) HN.out.1 HN.out.2)
 unfold fxA at HCk HBg HOw
 rw [hpr] at HCk HBg HOw
 unfold fxA
 rw [hpr]
 clear hx1 hx2 hx3 h hB hN2 hN3 hT hpr hw1 hw2 hw3 hFB hTB hRB b1 b2 b3 b23 b13 z1 z2 z3 kF1 kF kT2 kT kR
 have HB3 : Hid (Below w3.heap.size w3 w3) := Below.refl _ _
 have x0 := (HBx.out _ HB3.out).1.cell 0 rfl
 have x1 := (HBx.out _ HB3.out).1.cell 1 rfl
 have x2 := (HBx.out _ HB3.out).1.cell 2 rfl
 have x3 := (HBx.out _ HB3.out).1.cell 3 rfl
 go_enter Try.func30,Try.ntmps30
 go_wp2_with (first | rw [HW1.out] | rw [HW2.out] | rw [HW3.out] | rw [HFB.out] | rw [HTB.out] | rw [HRB.out] | fail)
 have hcc := HCk.out w3 HB3.out
 refine hcc.mono ?_
 rintro r w4 ⟨rfl,hb4⟩
 have HB4 := keep hb4
 clear hb4 hcc x0 x1 x2 x3
 obtain ⟨e,he⟩ : ∃ e,(checkF f).1 = e := ⟨_,rfl⟩
 obtain ⟨e',he'⟩ : ∃ e,(checkF f).2 = e := ⟨_,rfl⟩
 rw [he,he']
 have HE := keep he
 clear he he'
 by_cases h0 : e = 0
 ·subst h0
  have t0 : Bk w4 TB (tabL T) 29 := (HBx.out _ HB4.out).2.1
  have HTt : Hid (w4.heap[TB]? = some (.cells (Tb.tabA T) 29)) := t0
  clear t0
  go_wp2_with (first | (refine Tb.load_tab rfl _ rfl TB rfl T HTt.out ?_) | fail)
  refine (Tb.wrong_any T HI.out w4).mono ?_
  rintro r w5 ⟨rfl,hb5⟩
  have HB5 := keep (HB4.out.trans (hb5.mono HB4.out.size))
  clear hb5 HTt
  obtain ⟨u,hu⟩ : ∃ u,Tb.wrongT T = u := ⟨_,rfl⟩
  rw [hu]
  have HU := keep hu
  clear hu
  by_cases h1 : u = 0
  ·subst h1
   have HTr : Hid (TabR T) := tabR_of HU.out
   have HRt : Hid (Right f) := right_of HE.out
   have HEe : Hid (err8 f T = match run8 f T with | none => 11 | some s => if s.much = true then 4 else 0) := by show _ = _; unfold err8; rw [HE.out,if_neg (by decide),HU.out,if_neg (by decide)]
   have HTt : Hid (w5.heap[TB]? = some (.cells (Tb.tabA T) 29)) := (HBx.out _ HB5.out).2.1
   have HFt : Hid (w5.heap[FB]? = some (.cells #[.slice p1 n1 c1,.slice p2 n2 c2,.int .i64 pr,.slice p3 n3 c3] 26)) := (HBx.out _ HB5.out).1
   go_wp2_with (first | (refine Tb.load_tab rfl _ rfl TB rfl T HTt.out ?_) | (refine load_flat rfl _ rfl FB rfl _ rfl HFt.out ?_) | fail)
   have hcc := HBg.out w5 HB5.out
   refine hcc.mono ?_
   rintro r w6 ⟨lo,MB,NB,sv,rfl,hl1,hl2,hm6,hb6⟩
   have HM6 := keep hm6
   have HB6 := keep (HB5.out.trans (hb6.mono HB5.out.size))
   have HLo : Hid (w3.heap.size ≤ lo ∧ lo ≤ w6.heap.size) := ⟨Nat.le_trans HB5.out.size hl1,hl2⟩
   clear hcc hl1 hl2 hm6 hb6 HTt HFt
   obtain ⟨SB,hSB⟩ : ∃ y,w6.heap.size = y := ⟨_,rfl⟩
   obtain ⟨w7,hw7⟩ : ∃ y,w6.alloc (.cells (Array.replicate n1 (Value.int .i64 0)) 3) = y := ⟨_,rfl⟩
   have b7 : Below w6.heap.size w6 w7 := by rw [← hw7]; exact (Below.refl _ _).alloc (Nat.le_refl _) _
   have k7 : Bk w7 SB (starts [] n1) 3 := by rw [← hw7,← hSB]; exact Bk.rep _ _ _ _
   have hmk := make_ints n1 (by have := HLn.out.1; have := HRt.out.len2; omega)
   have HFa : Hid (Far lo MB NB (.slice none 0 0) sv SB) := HM6.out.far (by omega)
   have HM7 := keep (HM6.out.below b7)
   have HB7 := keep (HB6.out.trans (b7.mono HB6.out.size))
   have HK7 := keep k7
   have HW7 := keep hw7
   have HSB := keep hSB
   have HL7 : Hid (lo ≤ w7.heap.size) := Nat.le_trans HLo.out.2 b7.size
   have HNn : Hid (n1 ≤ 12000 ∧ n2 ≤ 1048576) := by have := HLn.out; have := HRt.out.len2; have := HN.out.1; constructor <;> omega
   have x0 := (HBx.out _ HB6.out).1.cell 0 rfl
   have x0' := (HBx.out _ HB7.out).1.cell 0 rfl
   have hn0 : (0 : Int) ≤ (n1 : Int) := by omega
   have HSg : Hid (w3.heap.size ≤ SB) := by have := HB6.out.size; show _ ≤ _; omega
   clear hSB hw7 b7 k7
   go_wp2_with (first | rw [hmk] | rw [HW7.out,HSB.out] | fail)
   go_loopw [11,40] (fun b i wx => ∃ (j : Nat) (s : S8) (cv' sv' : Value),j ≤ n1 ∧ i = .int .i64 (j : Int) ∧ b = .bool s.much ∧ Ok8 f T j s ∧ MkIs wx lo MB NB T cv' sv' s.m ∧ Bk wx SB (starts s.st n1) 3 ∧ Below w3.heap.size w3 wx ∧ lo ≤ wx.heap.size ∧ Far lo MB NB cv' sv' SB) (fun _ i _ => n1 - (intOf i).toNat)
   case atStart => exact ⟨0,st0 f,_,_,by omega,rfl,rfl,Ok8.zero f T,HM7.out,HK7.out,HB7.out,HL7.out,HFa.out⟩
   case round =>
    obtain ⟨j,s,cv',sv',hjn,rfl,rfl,hok,hm,hk,hb,hl,hfa⟩ := hrel
    by_cases hjl : j < n1
    ·have d1 : decide ((j : Int) < (n1 : Int)) = true := decide_eq_true (by omega)
     have hjz : (j : Int) < (n1 : Int) := by omega
     have hj0 : (0 : Int) ≤ (j : Int) := by omega
     have hwr : IntKind.i64.wrap ((j : Int) + 1) = (j : Int) + 1 := by have := HNn.out; rw [IntKind.wrap_i64]; omega
     obtain ⟨x,hx⟩ : ∃ x,f.code[j]? = some x := ⟨_,List.getElem?_eq_getElem (by rw [HLn.out.1]; exact hjl)⟩
     have hfi := fine_of (HRt.out.each j x hx)
     obtain ⟨g,o,hp,hgB,hix⟩ := HCq.out j x hx
     subst hp
     obtain ⟨y0,y1,y2,y3,y4,y5⟩ := hix.below ((HBw.out wr hb).mono HBl.out) hgB
     obtain ⟨op,d,a,b,c,imm⟩ := x
     dsimp only at y0 y1 y2 y3 y4 y5
     obtain ⟨pc,nc,cap,rfl⟩ := RowX.slice hm.code
     have hnc : nc = s.m.code.length := RowX.len hm.code
     subst hnc
     obtain ⟨cn,hcn⟩ : ∃ y,s.m.code.length = y := ⟨_,rfl⟩
     obtain ⟨M,hM⟩ : ∃ y,legalM T ⟨op,d,a,b,c,imm⟩ s.m = y := ⟨_,rfl⟩
     obtain ⟨wb,hwb⟩ : ∃ y,wr.alloc (.cells #[.int .i64 op,.int .i64 d,.int .i64 a,.int .i64 b,.int .i64 c,.int .i64 imm] 35) = y := ⟨_,rfl⟩
     obtain ⟨IB,hIB⟩ : ∃ y,wr.heap.size = y := ⟨_,rfl⟩
     have bb : Below wr.heap.size wr wb := by rw [← hwb]; exact (Below.refl _ _).alloc (Nat.le_refl _) _
     have kI : Bk wb IB [.int .i64 op,.int .i64 d,.int .i64 a,.int .i64 b,.int .i64 c,.int .i64 imm] 35 := by rw [← hwb,← hIB]; exact Bk.new _ _ _
     have kS := hk.fs (Fs.of_below (l:=[]) bb) (by simp)
     obtain ⟨q1,q2⟩ := starts_at s.st n1 (cn : Int) (by rw [hok.len]; exact hjl)
     rw [hok.len] at q1 q2
     have s0 := kS.cell j q1
     have s1 := kS.fr j
     have mb := hm.below bb
     have m0 := mb.c18.1
     rw [hcn] at m0
     obtain ⟨wc,hwc⟩ : ∃ y,wb.setCell ⟨SB,j,none⟩ (.int .i64 (cn : Int)) = y := ⟨_,rfl⟩
     have mc := mb.aside hfa j (.int .i64 (cn : Int))
     have kS2 := kS.set j (.int .i64 (cn : Int))
     rw [q2] at kS2
     have kI2 : Bk (wb.setCell ⟨SB,j,none⟩ (.int .i64 (cn : Int))) IB [.int .i64 op,.int .i64 d,.int .i64 a,.int .i64 b,.int .i64 c,.int .i64 imm] 35 := by have h5 := hk.lt; unfold Bk at kI ⊢; rw [Below.heap_setCell _ _ _ _ (show IB ≠ SB by omega)]; exact kI
     have hbc : Below w3.heap.size w3 (wb.setCell ⟨SB,j,none⟩ (.int .i64 (cn : Int))) := (hb.trans (bb.mono hb.size)).setCell (p:=⟨SB,j,none⟩) HSg.out _
     have hlc : lo ≤ (wb.setCell ⟨SB,j,none⟩ (.int .i64 (cn : Int))).heap.size := by have h6 := bb.size; simp [World.setCell]; omega
     rw [hwc] at mc kS2 kI2 hbc hlc
     have hrd : Rd0 lo MB NB T (.slice pc s.m.code.length cap) sv' s.m wc 1000 := ⟨hlc,mc,HTr.out,hok.g,by obtain ⟨S,e1,e2⟩ := hok.sec; rw [e1,List.length_append,List.length_map]; have := HNn.out; have := HLn.out; omega,by have := hok.code; omega,by decide⟩
     have HLg := keep (legal_any ⟨op,d,a,b,c,imm⟩ hrd (hok.fits hfi))
     unfold ixA at HLg
     dsimp only at HLg
     rw [hM] at HLg
     have HWb := keep hwb
     have HIb := keep hIB
     have HWc := keep hwc
     have HMc := keep mc
     have HSc := keep kS2
     have HIc := keep kI2
     have HBc := keep hbc
     have HLc := keep hlc
     have HFc := keep hfa
     have HOk := keep hok
     have HFi := keep hfi
     have HX := keep hx
     have HM := keep hM
     have HCn := keep hcn
     have x0 := HIc.out.cell 0 rfl
     have x1 := HIc.out.cell 1 rfl
     have x2 := HIc.out.cell 2 rfl
     have x3 := HIc.out.cell 3 rfl
     have x4 := HIc.out.cell 4 rfl
     have x5 := HIc.out.cell 5 rfl
     rw [hcn] at hm
     clear hok hm hk hb hl hfa hfi hx hM hwb hIB bb kI kS q1 q2 mb hwc mc kS2 kI2 hbc hlc hrd hix hgB hjl hcn
     go_wp2_with (first | rw [HWb.out,HIb.out] | rw [HWc.out] | fail)
     refine HLg.out.mono ?_
     rintro r wd ⟨cv2,sv2,rfl,hmd,hfd⟩
     have HMd := keep hmd
     have HBd := keep (HMc.out.turn hfd HLo.out.1 HLc.out HBc.out)
     have HLd : Hid (lo ≤ wd.heap.size) := Nat.le_trans HLc.out hfd.size
     have HSd := keep (hfd.far HSc.out HFc.out)
     have HFd := keep (HFc.out.step hfd HSc.out.lt)
     clear hmd hfd HLg x0 x1 x2 x3 x4 x5 y0 y1 y2 y3 y4 y5 s0 s1 m0
     obtain ⟨q,hq⟩ : ∃ q,M.shown = q := ⟨_,rfl⟩
     have HQ := keep hq
     have m3 := HMd.out.c18.2.2.2
     rw [hq] at m3
     clear hq
     cases q with
     | true =>
      have HEr : Hid (err8 f T = 11) := by show _ = _; rw [HEe.out,HOk.out.none HX.out (by rw [HM.out]; exact HQ.out)]
      go_wp2_with (first | (refine store_flat rfl (.tmp 4) (.tmp 60) rfl RB _ _ _ _ rfl rfl rfl rfl rfl #[.slice none 0 0,.slice none 0 0,.int .i64 0,.slice none 0 0] rfl (HBx.out _ HBd.out).2.2 ?_) | rw [setRow_self _ _ _ _ _ (HBx.out _ HBd.out).2.2] | fail)
      refine bodyPost_ret (results_flat rfl _ _ RB #[.slice none 0 0,.slice none 0 0,.int .i64 0,.slice none 0 0] (11) rfl rfl (HBx.out _ HBd.out).2.2 (info_flat _ rfl)) rfl ?_
      exact ⟨HBw.out _ HBd.out,.inl ⟨by rw [HEr.out]; decide,by rw [HEr.out]⟩⟩
     | false =>
      obtain ⟨pd,nd,cd,rfl⟩ := RowX.slice HMd.out.code
      have hnd : nd = M.code.length := RowX.len HMd.out.code
      subst hnd
      have m4 := HMd.out.c18.1
      obtain ⟨cm,hcm⟩ : ∃ y,M.code.length = y := ⟨_,rfl⟩
      rw [hcm] at m4
      have HCm := keep hcm
      clear hcm
      have HStp := keep (HOk.out.step HX.out HFi.out (by rw [HM.out]; exact HQ.out))
      have HAd := keep (HOk.out.adds HFi.out)
      rw [HM.out] at HAd
      have f1 := (HBx.out _ HBd.out).1.cell 1 rfl
      by_cases hbig : 12000 < cm
      ·have hbz : (12000 : Int) < (cm : Int) := by omega
       have db : decide ((12000 : Int) < (cm : Int)) = true := decide_eq_true hbz
       have HSt : Hid (stp8 T f.sec.length ⟨op,d,a,b,c,imm⟩ s = ⟨⟨[],M.sec.take n2,M.nums,M.shown⟩,s.st ++ [(cn : Int)],true⟩) := by show _ = _; unfold stp8; rw [HM.out,HCm.out,if_pos hbig,HLn.out.2,HCn.out]
       have HFg := keep (forget_any n2 HMd.out (by obtain ⟨C,e1,_,e3⟩ := HAd.out.c; rw [e1]; intro e; have := congrArg List.length e; simp at this; rw [this.2] at e3; simp at e3) (by obtain ⟨S,e1,_⟩ := HAd.out.s; obtain ⟨S2,e2,_⟩ := HOk.out.sec; rw [e1,e2,List.length_append,List.length_append,List.length_map,HLn.out.2]; omega) (by obtain ⟨S,e1,e3⟩ := HAd.out.s; obtain ⟨S2,e2,e4⟩ := HOk.out.sec; rw [e1,e2,List.length_append,List.length_append,List.length_map,HLn.out.2]; have := HNn.out; omega))
       clear hbig
       go_wp2_with fail
       refine HFg.out.mono ?_
       rintro r we ⟨cv3,sv3,rfl,hme,hfe⟩
       have HMe := keep hme
       have HBe := keep (HMd.out.turn hfe HLo.out.1 HLd.out HBd.out)
       have HLe : Hid (lo ≤ we.heap.size) := Nat.le_trans HLd.out hfe.size
       have HSe := keep (hfe.far HSd.out HFd.out)
       have HFe := keep (HFd.out.step hfe HSd.out.lt)
       clear hme hfe HFg m3 m4 f1
       go_wp2_with fail
       go_roundw
       case rel =>
        have h1 := HStp.out
        rw [HSt.out] at h1
        exact ⟨j + 1,_,cv3,sv3,by omega,by go_num,rfl,h1,HMe.out,HSe.out,HBe.out,HLe.out,HFe.out⟩
       case measure => simp [intOf]; omega
      ·have hbz : ¬ (12000 : Int) < (cm : Int) := by omega
       have db : decide ((12000 : Int) < (cm : Int)) = false := decide_eq_false hbz
       have HSt : Hid (stp8 T f.sec.length ⟨op,d,a,b,c,imm⟩ s = ⟨M,s.st ++ [(cn : Int)],s.much⟩) := by show _ = _; unfold stp8; rw [HM.out,HCm.out,if_neg hbig,HCn.out]
       clear hbig
       go_wp2_with fail
       go_roundw
       case rel =>
        have h1 := HStp.out
        rw [HSt.out] at h1
        exact ⟨j + 1,⟨M,s.st ++ [(cn : Int)],s.much⟩,_,_,by omega,by go_num,rfl,h1,HMd.out,HSd.out,HBd.out,HLd.out,HFd.out⟩
       case measure => simp [intOf]; omega
    ·have hje : j = n1 := by omega
     subst hje
     have dl : decide ((j : Int) < (j : Int)) = false := decide_eq_false (by omega)
     have HRun : Hid (run8 f T = some s) := by show _ = _; rw [← hok.go,← HLn.out.1,List.drop_length]; rfl
     obtain ⟨q,hq⟩ : ∃ q,s.much = q := ⟨_,rfl⟩
     have HQ := keep hq
     rw [hq]
     have HOk := keep hok
     have HMz := keep hm
     have HBz := keep hb
     have HLz := keep hl
     have HFz := keep hfa
     have HKz := keep hk
     clear hok hm hk hb hl hfa hq hjl
     cases q with
     | true =>
      have HEr : Hid (err8 f T = 4) := by show _ = _; rw [HEe.out,HRun.out]; dsimp only; rw [HQ.out]; rfl
      go_wp2_with (first | (refine store_flat rfl (.tmp 4) (.tmp 74) rfl RB _ _ _ _ rfl rfl rfl rfl rfl #[.slice none 0 0,.slice none 0 0,.int .i64 0,.slice none 0 0] rfl (HBx.out _ HBz.out).2.2 ?_) | rw [setRow_self _ _ _ _ _ (HBx.out _ HBz.out).2.2] | fail)
      refine bodyPost_ret (results_flat rfl _ _ RB #[.slice none 0 0,.slice none 0 0,.int .i64 0,.slice none 0 0] (4) rfl rfl (HBx.out _ HBz.out).2.2 (info_flat _ rfl)) rfl ?_
      exact ⟨HBw.out _ HBz.out,.inl ⟨by rw [HEr.out]; decide,by rw [HEr.out]⟩⟩
     | false =>
      have HE0 : Hid (err8 f T = 0) := by show _ = _; rw [HEe.out,HRun.out]; dsimp only; rw [HQ.out]; rfl
      have HFt : Hid (wr.heap[FB]? = some (.cells #[.slice p1 j c1,.slice p2 n2 c2,.int .i64 pr,.slice p3 n3 c3] 26)) := (HBx.out _ HBz.out).1
      have hcc := HOw.out wr HBz.out HRt.out.len2
      go_wp2_with (first | (refine load_flat rfl _ rfl FB rfl _ rfl HFt.out ?_) | fail)
      refine hcc.mono ?_
      rintro r wo ⟨v1,v2,v3,lo1,lo2,lo3,hr,a1,a2,a3,a4,a5,R1,R2,R3,hbo⟩
      rw [HPr.out] at hr
      subst hr
      obtain ⟨pa,na,ca,rfl⟩ := RowX.slice R1
      obtain ⟨pb,nb,cb,rfl⟩ := RowX.slice R2
      obtain ⟨pe,ne,ce,rfl⟩ := RowX.slice R3
      obtain ⟨pc,nc,cap,rfl⟩ := RowX.slice HMz.out.code
      obtain ⟨OB,hOB⟩ : ∃ y,wo.heap.size = y := ⟨_,rfl⟩
      obtain ⟨wp,hwp⟩ : ∃ y,wo.alloc (.cells #[.slice pa na ca,.slice pb nb cb,.int .i64 pr,.slice pe ne ce] 26) = y := ⟨_,rfl⟩
      have bp : Below wo.heap.size wo wp := by rw [← hwp]; exact (Below.refl _ _).alloc (Nat.le_refl _) _
      have kO : Bk wp OB [.slice pa na ca,.slice pb nb cb,.int .i64 pr,.slice pe ne ce] 26 := by rw [← hwp,← hOB]; exact Bk.new _ _ _
      have brp := hbo.trans (bp.mono hbo.size)
      have hro := hbo.size
      have HMp := keep (HMz.out.below brp)
      have HKp : Hid (Bk wp SB (s.st.map (Value.int .i64)) 3) := by
       have h8 := HKz.out
       rw [show j = s.st.length from HOk.out.len.symm,starts_all] at h8
       exact h8.fs (Fs.of_below (l:=[]) brp) (by simp)
      have HBp := keep (HBz.out.trans (brp.mono HBz.out.size))
      have HFo : Hid (Far lo MB NB (.slice pc nc cap) sv' OB) := HMz.out.far (by omega)
      have HLd := keep (lead_any (S:=s.st) HMp.out.code HKp.out HFz.out.c (fun x hx ho => by have := HOk.out.jmp x hx ho; have h1 := HLn.out.1; have h2 := HOk.out.len; omega) (by have := HOk.out.code; omega) (by have h2 := HOk.out.len; have := HNn.out; omega))
      rw [show s.st.length = j from HOk.out.len] at HLd
      have HkO := keep kO
      have HWp := keep hwp
      have HOB := keep hOB
      have HbP := keep brp
      have HR3 := keep R3
      have HL3 : Hid (wr.heap.size ≤ lo3 ∧ wr.heap.size ≤ OB) := ⟨by omega,by omega⟩
      have HBp2 : Hid (Below wo.heap.size wo wp) := bp
      have m0 := HMp.out.c18.1
      clear hcc hOB hwp bp kO brp hro R1 R2 R3 a1 a2 a3 a4 a5 hbo HFt
      go_wp2_with (first | rw [HWp.out,HOB.out] | fail)
      refine HLd.out.mono ?_
      rintro r wl ⟨rfl,hrl,hfl⟩
      have HMl := keep (HMp.out.led hrl hfl)
      have HRl := keep hrl
      have HFl := keep hfl
      have HkOl := keep (hfl.bk HkO.out HFo.out.c)
      have HSs : Hid (s.m.sec.length ≤ 200000000) := by obtain ⟨S,e1,e2⟩ := HOk.out.sec; show _ ≤ _; rw [e1,List.length_append,List.length_map]; have := HNn.out; have := HLn.out; omega
      have HLb := keep (labels_any HMl.out HSs.out)
      obtain ⟨LB,hLB⟩ : ∃ y,wl.heap.size = y := ⟨_,rfl⟩
      have HLB := keep hLB
      have HBl2 : Hid (Below w3.heap.size w3 wl) := HBp.out.trans ⟨hfl.os,hfl.tape,hfl.output,hfl.size,fun k hk => hfl.block k (Nat.lt_of_lt_of_le hk HBp.out.size) (fun e => by have h4 := ((RowX.own HMz.out.code).lt k e).1; have h5 := HLo.out.1; omega)⟩
      clear hrl hfl HLd m0 hLB
      go_wp2_with fail
      refine HLb.out.mono ?_
      rintro r wm ⟨rfl,kL,bm⟩
      have HkOm := keep (HkOl.out.fs (Fs.of_below (l:=[]) bm) (by simp))
      have HkL := keep kL
      have HBm := keep bm
      rw [HLB.out] at HkL ⊢
      dsimp only at HkL ⊢
      clear kL bm HLb
      have o0 := HkOm.out.cell 0 rfl
      have o1 := HkOm.out.cell 1 rfl
      have g0 := HkOm.out.fr 0
      have g1 := HkOm.out.fr 1
      have kq1 := HkOm.out.set 0 (.slice pc nc cap)
      have p1' := kq1.cell 1 rfl
      have p1f := kq1.fr 1
      have kq2 := kq1.set 1 (.slice (some ⟨LB,0,none⟩) s.m.sec.length s.m.sec.length)
      have HkQ : Hid (((wm.setCell ⟨OB,0,none⟩ (.slice pc nc cap)).setCell ⟨OB,1,none⟩ (.slice (some ⟨LB,0,none⟩) s.m.sec.length s.m.sec.length)).heap[OB]? = some (.cells #[.slice pc nc cap,.slice (some ⟨LB,0,none⟩) s.m.sec.length s.m.sec.length,.int .i64 pr,.slice pe ne ce] 26)) := kq2
      clear kq1 kq2
      have HBq : Hid (Below w3.heap.size w3 ((wm.setCell ⟨OB,0,none⟩ (.slice pc nc cap)).setCell ⟨OB,1,none⟩ (.slice (some ⟨LB,0,none⟩) s.m.sec.length s.m.sec.length))) := by
       have h4 := HL3.out.2
       have h5 := HBz.out.size
       exact ((HBl2.out.trans (HBm.out.mono HBl2.out.size)).setCell (p:=⟨OB,0,none⟩) (show _ ≤ OB by omega) _).setCell (p:=⟨OB,1,none⟩) (show _ ≤ OB by omega) _
      have HkRq : Hid (((wm.setCell ⟨OB,0,none⟩ (.slice pc nc cap)).setCell ⟨OB,1,none⟩ (.slice (some ⟨LB,0,none⟩) s.m.sec.length s.m.sec.length)).heap[RB]? = some (.cells #[.slice none 0 0,.slice none 0 0,.int .i64 0,.slice none 0 0] 26)) := (HBx.out _ HBq.out).2.2
      have HFin : Hid (Wg f T w (.returned (.tuple #[.agg #[.slice pc nc cap,.slice (some ⟨LB,0,none⟩) s.m.sec.length s.m.sec.length,.int .i64 pr,.slice pe ne ce],.int .i64 0])) (((wm.setCell ⟨OB,0,none⟩ (.slice pc nc cap)).setCell ⟨OB,1,none⟩ (.slice (some ⟨LB,0,none⟩) s.m.sec.length s.m.sec.length)).setRow RB #[.slice pc nc cap,.slice (some ⟨LB,0,none⟩) s.m.sec.length s.m.sec.length,.int .i64 pr,.slice pe ne ce])) := by
       have hnb := HNb.out
       have hob := HOB.out
       have hlb := HLB.out
       have hlo := HLo.out
       have hl3 := HL3.out
       have hbz := HBz.out.size
       have hol := HkOl.out.lt
       have hbl := HBl2.out.size
       have KZ : ∀ k,k ≠ OB → k ≠ RB → (((wm.setCell ⟨OB,0,none⟩ (.slice pc nc cap)).setCell ⟨OB,1,none⟩ (.slice (some ⟨LB,0,none⟩) s.m.sec.length s.m.sec.length)).setRow RB #[.slice pc nc cap,.slice (some ⟨LB,0,none⟩) s.m.sec.length s.m.sec.length,.int .i64 pr,.slice pe ne ce]).heap[k]? = wm.heap[k]? := fun k h1 h2 => (setRow_other _ _ _ _ h2).trans ((Below.heap_setCell _ _ _ _ h1).trans (Below.heap_setCell _ _ _ _ h1))
       refine ⟨below_setRow (HBw.out _ HBq.out) (by omega) _,.inr ⟨HE0.out,s,HRun.out,HQ.out,_,LB,_,lo,lo3,by rw [HPr.out],by omega,by omega,by omega,?_,?_,?_⟩⟩
       ·refine RowX.own_keep (n0 _) HRl.out (fun k e => ?_)
        have h6 := (RowX.own HRl.out).lt k e
        exact (KZ k (fun x => HFo.out.c (by rw [← x]; exact e)) (by omega)).trans (HBm.out.block k h6.2)
       ·have h6 := HkL.out
        unfold Bk at h6 ⊢
        rw [KZ LB (by omega) (by omega)]; exact h6
       ·refine RowX.own_keep (n0 _) HR3.out (fun k e => ?_)
        have h6 := (RowX.own HR3.out).lt k e
        have h7 : k < wp.heap.size := Nat.lt_of_lt_of_le h6.2 HBp2.out.size
        exact (KZ k (by omega) (by omega)).trans ((HBm.out.block k (Nat.lt_of_lt_of_le h7 HFl.out.size)).trans ((HFl.out.block k h7 (fun x => by have h8 := ((RowX.own HMz.out.code).lt k x).2; omega)).trans (HBp2.out.block k h6.2)))
      go_wp2_with (first | (refine load_flat rfl _ rfl OB rfl _ rfl HkQ.out ?_) | (refine store_flat rfl (.tmp 4) (.tmp 87) rfl RB _ _ _ _ rfl rfl rfl rfl rfl #[.slice none 0 0,.slice none 0 0,.int .i64 0,.slice none 0 0] rfl HkRq.out ?_) | fail)
      refine bodyPost_ret (results_flat rfl _ _ RB #[.slice pc nc cap,.slice (some ⟨LB,0,none⟩) s.m.sec.length s.m.sec.length,.int .i64 pr,.slice pe ne ce] 0 rfl rfl (setRow_heap _ _ _ _ _ _ HkRq.out) (info_flat _ rfl)) rfl ?_
      exact HFin.out
  ·have ne : (u != 0) = true := by simpa using h1
   have HEr : Hid (err8 f T = u) := by show _ = _; unfold err8; rw [HE.out,if_neg (by decide),HU.out,if_pos h1]
   have HNz := keep h1
   clear h1
   go_wp2_with (first | (refine store_flat rfl (.tmp 4) (.tmp 28) rfl RB _ _ _ _ rfl rfl rfl rfl rfl #[.slice none 0 0,.slice none 0 0,.int .i64 0,.slice none 0 0] rfl (HBx.out _ HB5.out).2.2 ?_) | rw [setRow_self _ _ _ _ _ (HBx.out _ HB5.out).2.2] | fail)
   refine bodyPost_ret (results_flat rfl _ _ RB #[.slice none 0 0,.slice none 0 0,.int .i64 0,.slice none 0 0] (u) rfl rfl (HBx.out _ HB5.out).2.2 (info_flat _ rfl)) rfl ?_
   exact ⟨HBw.out _ HB5.out,.inl ⟨by rw [HEr.out]; exact HNz.out,by rw [HEr.out]⟩⟩
 ·have ne : (e != 0) = true := by simpa using h0
  have HEr : Hid (err8 f T = e) := by show _ = _; unfold err8; rw [HE.out,if_pos h0]
  have HNz := keep h0
  clear h0
  go_wp2_with (first | (refine store_flat rfl (.tmp 4) (.tmp 22) rfl RB _ _ _ _ rfl rfl rfl rfl rfl #[.slice none 0 0,.slice none 0 0,.int .i64 0,.slice none 0 0] rfl (HBx.out _ HB4.out).2.2 ?_) | rw [setRow_self _ _ _ _ _ (HBx.out _ HB4.out).2.2] | fail)
  refine bodyPost_ret (results_flat rfl _ _ RB #[.slice none 0 0,.slice none 0 0,.int .i64 0,.slice none 0 0] (e) rfl rfl (HBx.out _ HB4.out).2.2 (info_flat _ rfl)) rfl ?_
  exact ⟨HBw.out _ HB4.out,.inl ⟨by rw [HEr.out]; exact HNz.out,by rw [HEr.out]⟩⟩
end Go.Proofs.Ytfbmkcogkiejnaa.Hg
