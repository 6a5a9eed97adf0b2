/- Are all of them words: the law's words. Written by tools/gen_mhwords.py. -/
import Derived.Test.YtpnacanbknejiaaGr40
namespace Go.Proofs.Ytpnacanbknejiaa.Mh
set_option maxHeartbeats 32000000
set_option maxRecDepth 100000
set_option linter.unusedVariables false
set_option linter.unusedSimpArgs false
open Go.ChangeShapes Go.WideShapes Go.ChangeAt Go.RowKit Lg Lr Fl
def wB (x : Int) : Bool := !(decide (x < 0) || decide (4294967295 < x))
def wordsB (ws : List Int) (aa : List (List Int)) : Bool := (aa ++ [ws]).all (fun l => l.all wB)
theorem wordsB_all {ws : List Int} {aa : List (List Int)} (h : wordsB ws aa = true) : AllW ws aa := by
 unfold wordsB at h
 rw [List.all_eq_true] at h
 have key : ∀ l ∈ aa ++ [ws],∀ x ∈ l,isW x := fun l hl x hx => by
  have h1 := h l hl
  rw [List.all_eq_true] at h1
  have h2 := h1 x hx
  unfold wB at h2
  unfold isW
  simp only [Bool.not_eq_true',Bool.or_eq_false_iff,decide_eq_false_iff_not] at h2
  omega
 exact ⟨fun x hx => key ws (by simp) x hx,fun l hl x hx => key l (List.mem_append_left _ hl) x hx⟩
def cellsV (x : Value) : List Value := [x]
theorem cellsV_len (x : Value) : (cellsV x).length = 1 := rfl
theorem cellsV_map (l : List Value) : l.flatMap cellsV = l := by
 induction l with
 | nil => rfl
 | cons a l ih => rw [List.flatMap_cons,ih]; rfl
def RowV (w : World) (lo : Nat) (v : Value) (es : List Value) : Prop := RowX nest0 cellsV 1 30 w lo v es
theorem infoV : (Try.prog.info? 30).map (fun i => (i.zero,i.size,i.bytes)) = some (some (.slice none 0 0),1,24) := by kernel_rfl
theorem rowV_none (w : World) : RowV (w.alloc (.cells #[] 30)) w.heap.size (.slice (some ⟨w.heap.size,0,none⟩) 0 0) [] :=
 ⟨World.ownsRow_made w #[] 0 (Nat.le_refl _) (by unfold maxLen; omega) rfl,fun p hp => by cases hp⟩
theorem step_append_vals {ops : Array Oper} {o : Oper} {a : Act} {w : World} {K : Act → World → Prop} {Q : Exit → Act → World → Prop} {E : Prop} (hgd : o.guard = none) (s x : Operand) (ho : o.op = .call { callee := .builtin .append,args := #[s,x],argTypes := #[31,31] }) (lo : Nat) (sv : Value) (es : List Value) (hs : a.eval s = sv) (hrow : RowV w lo sv es) (p : Option Addr) (n c : Nat) (vs : List Value) (hx : a.eval x = .slice p n c) (hn : vs.length = n)
  (hsrc : ∀ j u,vs[j]? = some u → ∃ g o,p = some ⟨g,o,none⟩ ∧ w.cell? ⟨g,o + j,none⟩ = some u) (h1 : ∀ u ∈ vs,u.oneCell' = true) (hlen : es.length + n ≤ 5000000) (hlo : lo ≤ w.heap.size)
  (h : ∀ v' w',RowV w' lo v' (es ++ vs) → Below lo w w' → (∀ i,i < w.heap.size → sv.ownBlock ≠ some i → w'.heap[i]? = w.heap[i]?) → K (a.put o.dst v') w') : if Region.wanted o (yielded ops a.tmps) = true then Oper.wp Try.prog o a w K Q else E := by
 obtain ⟨i0,hi0,j0,j1,j2⟩ := info_parts infoV
 obtain ⟨ps,ns',cs,rfl⟩ := RowX.slice hrow
 have hns : ns' = es.length := RowX.len hrow
 subst hns
 by_cases h0 : n = 0
 ·subst h0
  have hv : vs = [] := List.eq_nil_of_length_eq_zero hn
  subst hv
  have hsr : Src Try.prog i0.size 31 (.slice p 0 c) 0 [] w := by
   cases p with
   | none => exact Src.ofNil w Try.underlying31 c
   | some a => exact Src.ofSlice w Try.underlying31 a 0 c [] (by simp) (by simp) (by simp)
  have hcap : es.length ≤ cs := by
   rcases RowX.form cellsV_len hrow with ⟨q1,q2⟩ | ⟨g,cap,q1,q2,q3,q4,q5⟩
   ·injection q2 with e1 e2 e3; omega
   ·injection q1 with e1 e2 e3; omega
  rw [if_pos (by simp [Region.wanted,hgd])]
  refine Lib.wp_append_run w s x _ _ ho _ _ hs hx _ _ (run_append_nothing (P:=Try.prog) w 31 31 _ 30 i0 Try.underlying31 hi0 _ _ _ hcap (.slice p 0 c) hsr) ?_
  refine h _ w ?_ (Below.refl _ _) (fun _ _ _ => rfl)
  rw [List.append_nil]; exact hrow
 ·obtain ⟨u0,hu0⟩ : ∃ u,vs[0]? = some u := ⟨_,List.getElem?_eq_getElem (by omega)⟩
  obtain ⟨g,off,rfl,_⟩ := hsrc 0 u0 hu0
  have hown := RowX.own hrow
  refine step_append_lies w hgd s x 31 ho lo 30 i0 _ 1 24 Try.underlying31 hi0 j0 j1 j2 rfl (by decide) (.slice ps es.length cs) es.length (es.flatMap cellsV) hs hown ⟨g,off,none⟩ n c vs hx (by omega) (fun j u hj => ?_) h1 (by omega) (by unfold maxLen; omega) (by omega) hlo _ rfl ?_
  ·obtain ⟨g2,o2,e,hc⟩ := hsrc j u hj
   cases e
   rw [show (⟨g,off,none⟩ : Addr).add j = ⟨g,off + j,none⟩ from by simp [Addr.add]]
   exact hc
  ·intro g2 cap w8 hown2 hgrow hat hlt
   refine h _ w8 ⟨?_,fun p hp => trivial⟩ ?_ (fun i h1 h2 => hgrow.block i h1 (fun e => h2 e.symm))
   ·rw [cellsV_map] at hown2 ⊢
    rw [List.length_append,hn]
    exact hown2
   ·exact ⟨hgrow.os,hgrow.tape,hgrow.output,hgrow.size,fun i hi => hgrow.block i (by omega) (fun e => by have := (hown.lt i e.symm).1; omega)⟩
theorem arrs_vals {w : World} {B : Nat} {aa : List (List Int)} {p : Option Addr} {n c : Nat} (h : ArrsIs w B aa (.slice p n c)) : ∃ vs : List Value,vs.length = n ∧ (∀ (j : Nat) (u : Value),vs[j]? = some u → ∃ g o,p = some ⟨g,o,none⟩ ∧ g < B ∧ w.cell? ⟨g,o + j,none⟩ = some u) ∧ (∀ u ∈ vs,u.oneCell' = true) ∧ ∀ (j : Nat) (l : List Int) (u : Value),aa[j]? = some l → vs[j]? = some u → IntsIs w B l u := by
 obtain ⟨_,_,_,e,hl,hc,hb,hq⟩ := h
 cases e
 have hex : ∀ j : Nat,j < n → ∃ s,∃ g o,p = some ⟨g,o,none⟩ ∧ g < B ∧ w.cell? ⟨g,o + j,none⟩ = some s ∧ ∀ l,aa[j]? = some l → IntsIs w B l s := fun j hj => by
  obtain ⟨l,hlj⟩ : ∃ l,aa[j]? = some l := ⟨_,List.getElem?_eq_getElem (by omega)⟩
  obtain ⟨g,o,s,h1,h2,h3,h4⟩ := hq j l hlj
  exact ⟨s,g,o,h1,h2,h3,fun l' hl' => by rw [hlj] at hl'; cases hl'; exact h4⟩
 have key : ∀ k,k ≤ n → ∃ vs : List Value,vs.length = k ∧ ∀ (j : Nat) (u : Value),vs[j]? = some u → (∃ g o,p = some ⟨g,o,none⟩ ∧ g < B ∧ w.cell? ⟨g,o + j,none⟩ = some u) ∧ ∀ l,aa[j]? = some l → IntsIs w B l u := by
  intro k
  induction k with
  | zero => intro _; exact ⟨[],rfl,fun j u hj => by cases hj⟩
  | succ k ih =>
   intro hk
   obtain ⟨vs,h1,h2⟩ := ih (by omega)
   obtain ⟨s,g,o,q1,q2,q3,q4⟩ := hex k (by omega)
   refine ⟨vs ++ [s],by rw [List.length_append,h1]; rfl,fun j u hj => ?_⟩
   by_cases hjk : j < k
   ·rw [List.getElem?_append_left (by omega)] at hj
    exact h2 j u hj
   ·rw [List.getElem?_append_right (by omega),h1] at hj
    have hjk' : j = k := by
     have := (List.getElem?_eq_some_iff.1 hj).1
     simp at this
     omega
    subst hjk'
    rw [Nat.sub_self] at hj
    cases hj
    exact ⟨⟨g,o,q1,q2,q3⟩,q4⟩
 obtain ⟨vs,h1,h2⟩ := key n (Nat.le_refl _)
 refine ⟨vs,h1,fun j u hj => (h2 j u hj).1,fun u hu => ?_,fun j l u hj hu => (h2 j u hu).2 l hj⟩
 obtain ⟨j,hj⟩ := List.getElem?_of_mem hu
 obtain ⟨l,hlj⟩ : ∃ l,aa[j]? = some l := ⟨_,List.getElem?_eq_getElem (by have := (List.getElem?_eq_some_iff.1 hj).1; omega)⟩
 obtain ⟨q,m,d,rfl⟩ := ((h2 j u hj).2 l hlj).slice
 rfl
def RegW (gv : Value) (p4 p5 : Option Addr) (n4 c4 n5 c5 G : Nat) (vs : List Value) (w1 : World) (e : Exit) (a' : Act) (w' : World) : Prop := e = .normal ∧ ∃ (u7 u10 u13 : Value) (pv : Option Addr) (cv lo : Nat),a' = ⟨#[gv,.pointer (some ⟨G,0,none⟩),.bool false,undef,undef,undef,undef,u7,.pointer (some ⟨G,1,none⟩),.slice p5 n5 c5,u10,.pointer (some ⟨G,0,none⟩),.slice p4 n4 c4,u13,.slice pv (n5 + 1) cv,.int .i64 ((n5 + 1 : Nat) : Int),.int .i64 0,undef,undef,undef,undef,undef,undef,undef,undef,undef,undef,undef,undef,undef,undef,undef,undef,undef],[]⟩ ∧
 RowV w' lo (.slice pv (n5 + 1) cv) (vs ++ [.slice p4 n4 c4]) ∧ Below w1.heap.size w1 w'
theorem words_any (B : Nat) (ws : List Int) (aa : List (List Int)) (gv : Value) (w : World) (hB : B ≤ w.heap.size) (hg : GvIs w B ws aa gv) (haa : aa.length ≤ 1048576) :
  Calls Try.prog 31 #[gv] w fun r w' => r = .returned (.bool (wordsB ws aa)) ∧ Below w.heap.size w w' := by
 obtain ⟨g1,g2,rfl,hgi,hga⟩ := id hg
 obtain ⟨p4,n4,c4,rfl⟩ := hgi.slice
 obtain ⟨p5,n5,c5,rfl⟩ := hga.slice
 obtain ⟨vs,hv1,hv2,hv3,hv4⟩ := arrs_vals hga
 have hn5 : aa.length = n5 := by obtain ⟨_,_,_,e,h1,_⟩ := hga; cases e; exact h1
 obtain ⟨w1,hw1⟩ : ∃ y,w.alloc (.cells #[.slice p4 n4 c4,.slice p5 n5 c5] 33) = y := ⟨_,rfl⟩
 obtain ⟨G,hG⟩ : ∃ y,w.heap.size = y := ⟨_,rfl⟩
 have b1 : Below w.heap.size w w1 := by rw [← hw1]; exact (Below.refl _ _).alloc (Nat.le_refl _) _
 have kG : Bk w1 G [.slice p4 n4 c4,.slice p5 n5 c5] 33 := by rw [← hw1,← hG]; exact Bk.new _ _ _
 have HSS : Hid (∀ W',Below w1.heap.size w1 W' → W'.cell? ⟨G,0,none⟩ = some (.slice p4 n4 c4) ∧ W'.cell? ⟨G,1,none⟩ = some (.slice p5 n5 c5)) := fun W' hW => ⟨(kG.fs (Fs.of_below (l:=[]) hW) (by simp)).cell 0 rfl,(kG.fs (Fs.of_below (l:=[]) hW) (by simp)).cell 1 rfl⟩
 have HB1 := keep b1
 have HW1 := keep hw1
 have HG := keep hG
 have HV1 := keep hv1
 have HV3 := keep hv3
 have HBw : Hid (∀ W,Below w1.heap.size w1 W → Below B w W) := fun W hW => (b1.trans (hW.mono b1.size)).mono hB
 have HV2 : Hid (∀ W,Below w1.heap.size w1 W → ∀ (j : Nat) (u : Value),vs[j]? = some u → ∃ g o,p5 = some ⟨g,o,none⟩ ∧ W.cell? ⟨g,o + j,none⟩ = some u) := fun W hW j u hj => by
  obtain ⟨g,o,q1,q2,q3⟩ := hv2 j u hj
  exact ⟨g,o,q1,by rw [cell_below (HBw.out W hW) q2]; exact q3⟩
 have HAll : Hid (∀ W,Below w1.heap.size w1 W → ∀ (j : Nat) (l : List Int) (u : Value),(aa ++ [ws])[j]? = some l → (vs ++ [Value.slice p4 n4 c4])[j]? = some u → IntsIs W B l u) := fun W hW j l u hl hu => by
  by_cases hj : j < n5
  ·rw [List.getElem?_append_left (by omega)] at hl hu
   exact (hv4 j l u hl hu).below (HBw.out W hW)
  ·rw [List.getElem?_append_right (by omega)] at hl hu
   rw [hv1] at hu
   rw [hn5] at hl
   obtain ⟨k,hk⟩ : ∃ k,j - n5 = k := ⟨_,rfl⟩
   rw [hk] at hl hu
   cases k with
   | zero => cases hl; cases hu; exact hgi.below (HBw.out W hW)
   | succ k => simp at hl
 have HLn : Hid (aa.length = n5 ∧ n5 ≤ 1048576) := ⟨hn5,by omega⟩
 clear hw1 hG b1 kG hv1 hv2 hv3 hv4 hn5 hgi hga hg hB haa
 go_enter Try.func31,Try.ntmps31
 go_wp2_with (first | rw [HW1.out] | rw [HG.out] | fail)
 refine wp_mono (Q:=RegW (.agg #[.slice p4 n4 c4,.slice p5 n5 c5]) p4 p5 n4 c4 n5 c5 G vs w1) ?_ ?_
 ·refine wp_region_noPanic ?_
  refine Ord.wpM_begin (fun W' : World => W'.cell? ⟨G,0,none⟩ = some (.slice p4 n4 c4) ∧ W'.cell? ⟨G,1,none⟩ = some (.slice p5 n5 c5)) [0,1,2,3,4,5,6,7,8,9] (by kernel_rfl) ?_
  have HD : Hid (Below w1.heap.size w1 w1.drew) := Below.drew (Below.refl _ _)
  generalize w1.drew = wd at *
  have hS := HSS.out wd HD.out
  refine Ord.tk (i:=1) (v:=.pointer (some ⟨G,1,none⟩)) (hy:=Or.inl ⟨by rfl,by rintro W' ⟨q0,q1⟩; go_simp⟩) (hS:=hS) (h:=?_)
  try simp only [Act.put,Ord.t,Ord.z,Ord.s]
  refine Ord.tk (i:=2) (v:=.slice p5 n5 c5) (hy:=Or.inl ⟨by rfl,by rintro W' ⟨q0,q1⟩; go_simp⟩) (hS:=hS) (h:=?_)
  try simp only [Act.put,Ord.t,Ord.z,Ord.s]
  refine Ord.tk (i:=4) (v:=.pointer (some ⟨G,0,none⟩)) (hy:=Or.inl ⟨by rfl,by rintro W' ⟨q0,q1⟩; go_simp⟩) (hS:=hS) (h:=?_)
  try simp only [Act.put,Ord.t,Ord.z,Ord.s]
  refine Ord.tk (i:=5) (v:=.slice p4 n4 c4) (hy:=Or.inl ⟨by rfl,by rintro W' ⟨q0,q1⟩; go_simp⟩) (hS:=hS) (h:=?_)
  try simp only [Act.put,Ord.t,Ord.z,Ord.s]
  refine Ord.tk (i:=9) (v:=.int .i64 0) (hy:=Or.inl ⟨by rfl,by rintro W' ⟨q0,q1⟩; go_simp⟩) (hS:=hS) (h:=?_)
  try simp only [Act.put,Ord.t,Ord.z,Ord.s]
  have hsz1 := HD.out.size
  refine Ord.wpM_two (i:=0) (j:=6) (by kernel_rfl) (by simp only [List.getElem?_toArray,List.getElem?_cons_zero,List.getElem?_cons_succ]; rfl) (by simp only [List.getElem?_toArray,List.getElem?_cons_zero,List.getElem?_cons_succ]; rfl) (fun K hK => ?_) (fun K hK => ?_)
  ·obtain ⟨v1,hv1⟩ : ∃ y,wd.alloc (.cells #[] 30) = y := ⟨_,rfl⟩
   obtain ⟨A0,hA0⟩ : ∃ y,wd.heap.size = y := ⟨_,rfl⟩
   have hb : Below wd.heap.size wd v1 := by rw [← hv1]; exact (Below.refl _ _).alloc (Nat.le_refl _) _
   have R0_1 : Hid (RowV v1 A0 (.slice (some ⟨A0,0,none⟩) 0 0) []) := by have h := rowV_none wd; rw [hv1,hA0] at h; exact h
   have A9_1 : Hid (A0 < v1.heap.size) := by show _ < _; rw [← hv1,← hA0]; simp
   have HA0 : Hid (w1.heap.size ≤ A0 ∧ A0 ≤ v1.heap.size) := ⟨by have := HD.out.size; omega,by have := hb.size; omega⟩
   have HB_1 := keep (HD.out.trans (hb.mono HD.out.size))
   go_simp
   try rw [hv1]
   try rw [hA0]
   clear hv1 hA0 hb
   refine hK.out _ _ (fun _ => HSS.out v1 HB_1.out) ?_
   clear hK K
   try simp only [Act.put,Ord.t,Ord.z,Ord.s]
   have hS := HSS.out v1 HB_1.out
   refine Ord.wpM_two (i:=3) (j:=6) (by kernel_rfl) (by simp only [List.getElem?_toArray,List.getElem?_cons_zero,List.getElem?_cons_succ]; rfl) (by simp only [List.getElem?_toArray,List.getElem?_cons_zero,List.getElem?_cons_succ]; rfl) (fun K hK => ?_) (fun K hK => ?_)
   ·refine step_append_vals rfl (.tmp 7) (.tmp 9) rfl A0 (.slice (some ⟨A0,0,none⟩) 0 0) [] rfl R0_1.out p5 n5 c5 vs rfl HV1.out (HV2.out v1 HB_1.out) HV3.out (by have := HLn.out; simp; omega) (Nat.le_of_lt A9_1.out) ?_
    intro v10 v2 hr10 hb10 hg10
    rw [List.nil_append] at hr10
    have hb : Below w1.heap.size v1 v2 := hb10.mono HA0.out.1
    have R3_2 := keep hr10
    have A93_2 : Hid (A0 < v2.heap.size) := Nat.lt_of_lt_of_le A9_1.out hb10.size
    have HB_2 : Hid (Below w1.heap.size w1 v2) := HB_1.out.trans hb
    clear hr10 hb10 hb hg10
    refine hK.out _ _ (fun _ => HSS.out v2 HB_2.out) ?_
    clear hK K
    try simp only [Act.put,Ord.t,Ord.z,Ord.s]
    have hS := HSS.out v2 HB_2.out
    refine Ord.on (i:=6) (h:=fun K hK => ?_)
    obtain ⟨v3,hv3⟩ : ∃ y,v2.alloc (.cells #[.slice p4 n4 c4] 30) = y := ⟨_,rfl⟩
    obtain ⟨ZB,hZB⟩ : ∃ y,v2.heap.size = y := ⟨_,rfl⟩
    have hb : Below v2.heap.size v2 v3 := by rw [← hv3]; exact (Below.refl _ _).alloc (Nat.le_refl _) _
    have Z_3 : Hid (Bk v3 ZB [.slice p4 n4 c4] 30) := by show Bk _ _ _ _; rw [← hv3,← hZB]; exact Bk.new _ _ _
    have HB_3 := keep (HB_2.out.trans (hb.mono HB_2.out.size))
    have R_4 := keep (RowX.fs (l:=[]) nest0_nest R3_2.out (Fs.of_below hb) (by simp))
    have A9_5 : Hid (A0 < v3.heap.size) := Nat.lt_of_lt_of_le A93_2.out hb.size
    have HZA : Hid (A0 ≠ ZB) := by have := A93_2.out; show _ ≠ _; omega
    go_simp
    try rw [hv3]
    try rw [hZB]
    clear hv3 hZB hb
    refine hK.out _ _ (fun _ => HSS.out v3 HB_3.out) ?_
    clear hK K
    try simp only [Act.put,Ord.t,Ord.z,Ord.s]
    have hS := HSS.out v3 HB_3.out
    refine Ord.on (i:=7) (h:=fun K hK => ?_)
    refine step_append_vals rfl (.tmp 10) (.tmp 13) rfl A0 v10 vs rfl R_4.out (some ⟨ZB,0,none⟩) 1 1 [.slice p4 n4 c4] rfl rfl (fun j u hj => ⟨ZB,0,rfl,by rw [Nat.zero_add]; exact Z_3.out.cell j hj⟩) (fun u hu => by rw [List.mem_singleton] at hu; rw [hu]; rfl) (by have := HLn.out; have := HV1.out; omega) (Nat.le_of_lt A9_5.out) ?_
    intro v14 wf hr14 hb14 hg14
    have HR14 := keep hr14
    have HB14 : Hid (Below w1.heap.size w1 wf) := HB_3.out.trans (hb14.mono HA0.out.1)
    obtain ⟨pv,nv,cv,rfl⟩ := RowX.slice hr14
    have hnv := RowX.len hr14
    rw [List.length_append,HV1.out,List.length_singleton] at hnv
    subst hnv
    clear hr14 hb14 hg14
    refine hK.out _ _ (fun _ => HSS.out wf HB14.out) ?_
    clear hK K
    try simp only [Act.put,Ord.t,Ord.z,Ord.s]
    have hS := HSS.out wf HB14.out
    refine Ord.tk (i:=8) (v:=.int .i64 ((n5 + 1 : Nat) : Int)) (hy:=Or.inl ⟨by rfl,by rintro W' ⟨q0,q1⟩; go_simp⟩) (hS:=hS) (h:=?_)
    try simp only [Act.put,Ord.t,Ord.z,Ord.s]
    refine Ord.wpM_done (by kernel_rfl) ?_ _
    refine NoPanic.normal ?_
    exact ⟨rfl,_,_,_,_,_,A0,rfl,HR14.out,HB14.out⟩
   ·obtain ⟨v6,hv6⟩ : ∃ y,v1.alloc (.cells #[.slice p4 n4 c4] 30) = y := ⟨_,rfl⟩
    obtain ⟨ZB,hZB⟩ : ∃ y,v1.heap.size = y := ⟨_,rfl⟩
    have hb : Below v1.heap.size v1 v6 := by rw [← hv6]; exact (Below.refl _ _).alloc (Nat.le_refl _) _
    have Z_6 : Hid (Bk v6 ZB [.slice p4 n4 c4] 30) := by show Bk _ _ _ _; rw [← hv6,← hZB]; exact Bk.new _ _ _
    have HB_6 := keep (HB_1.out.trans (hb.mono HB_1.out.size))
    have R_7 := keep (RowX.fs (l:=[]) nest0_nest R0_1.out (Fs.of_below hb) (by simp))
    have A9_8 : Hid (A0 < v6.heap.size) := Nat.lt_of_lt_of_le A9_1.out hb.size
    have HZA : Hid (A0 ≠ ZB) := by have := A9_1.out; show _ ≠ _; omega
    go_simp
    try rw [hv6]
    try rw [hZB]
    clear hv6 hZB hb
    refine hK.out _ _ (fun _ => HSS.out v6 HB_6.out) ?_
    clear hK K
    try simp only [Act.put,Ord.t,Ord.z,Ord.s]
    have hS := HSS.out v6 HB_6.out
    refine Ord.on (i:=3) (h:=fun K hK => ?_)
    refine step_append_vals rfl (.tmp 7) (.tmp 9) rfl A0 (.slice (some ⟨A0,0,none⟩) 0 0) [] rfl R_7.out p5 n5 c5 vs rfl HV1.out (HV2.out v6 HB_6.out) HV3.out (by have := HLn.out; simp; omega) (Nat.le_of_lt A9_8.out) ?_
    intro v10 v9 hr10 hb10 hg10
    rw [List.nil_append] at hr10
    have hb : Below w1.heap.size v6 v9 := hb10.mono HA0.out.1
    have R3_9 := keep hr10
    have A93_9 : Hid (A0 < v9.heap.size) := Nat.lt_of_lt_of_le A9_8.out hb10.size
    have HB_9 : Hid (Below w1.heap.size w1 v9) := HB_6.out.trans hb
    have Z_9 : Hid (Bk v9 ZB [.slice p4 n4 c4] 30) := by
     have u := Z_6.out
     show Bk _ _ _ _
     unfold Bk at u ⊢
     rw [hg10 ZB Z_6.out.lt (by have := HZA.out; simp [Value.ownBlock]; omega)]; exact u
    clear hr10 hb10 hb hg10
    refine hK.out _ _ (fun _ => HSS.out v9 HB_9.out) ?_
    clear hK K
    try simp only [Act.put,Ord.t,Ord.z,Ord.s]
    have hS := HSS.out v9 HB_9.out
    refine Ord.on (i:=7) (h:=fun K hK => ?_)
    refine step_append_vals rfl (.tmp 10) (.tmp 13) rfl A0 v10 vs rfl R3_9.out (some ⟨ZB,0,none⟩) 1 1 [.slice p4 n4 c4] rfl rfl (fun j u hj => ⟨ZB,0,rfl,by rw [Nat.zero_add]; exact Z_9.out.cell j hj⟩) (fun u hu => by rw [List.mem_singleton] at hu; rw [hu]; rfl) (by have := HLn.out; have := HV1.out; omega) (Nat.le_of_lt A93_9.out) ?_
    intro v14 wf hr14 hb14 hg14
    have HR14 := keep hr14
    have HB14 : Hid (Below w1.heap.size w1 wf) := HB_9.out.trans (hb14.mono HA0.out.1)
    obtain ⟨pv,nv,cv,rfl⟩ := RowX.slice hr14
    have hnv := RowX.len hr14
    rw [List.length_append,HV1.out,List.length_singleton] at hnv
    subst hnv
    clear hr14 hb14 hg14
    refine hK.out _ _ (fun _ => HSS.out wf HB14.out) ?_
    clear hK K
    try simp only [Act.put,Ord.t,Ord.z,Ord.s]
    have hS := HSS.out wf HB14.out
    refine Ord.tk (i:=8) (v:=.int .i64 ((n5 + 1 : Nat) : Int)) (hy:=Or.inl ⟨by rfl,by rintro W' ⟨q0,q1⟩; go_simp⟩) (hS:=hS) (h:=?_)
    try simp only [Act.put,Ord.t,Ord.z,Ord.s]
    refine Ord.wpM_done (by kernel_rfl) ?_ _
    refine NoPanic.normal ?_
    exact ⟨rfl,_,_,_,_,_,A0,rfl,HR14.out,HB14.out⟩
  ·obtain ⟨v10,hv10⟩ : ∃ y,wd.alloc (.cells #[.slice p4 n4 c4] 30) = y := ⟨_,rfl⟩
   obtain ⟨ZB,hZB⟩ : ∃ y,wd.heap.size = y := ⟨_,rfl⟩
   have hb : Below wd.heap.size wd v10 := by rw [← hv10]; exact (Below.refl _ _).alloc (Nat.le_refl _) _
   have Z_10 : Hid (Bk v10 ZB [.slice p4 n4 c4] 30) := by show Bk _ _ _ _; rw [← hv10,← hZB]; exact Bk.new _ _ _
   have HB_10 := keep (HD.out.trans (hb.mono HD.out.size))
   go_simp
   try rw [hv10]
   try rw [hZB]
   clear hv10 hZB hb
   refine hK.out _ _ (fun _ => HSS.out v10 HB_10.out) ?_
   clear hK K
   try simp only [Act.put,Ord.t,Ord.z,Ord.s]
   have hS := HSS.out v10 HB_10.out
   refine Ord.on (i:=0) (h:=fun K hK => ?_)
   obtain ⟨v11,hv11⟩ : ∃ y,v10.alloc (.cells #[] 30) = y := ⟨_,rfl⟩
   obtain ⟨A0,hA0⟩ : ∃ y,v10.heap.size = y := ⟨_,rfl⟩
   have hb : Below v10.heap.size v10 v11 := by rw [← hv11]; exact (Below.refl _ _).alloc (Nat.le_refl _) _
   have R0_11 : Hid (RowV v11 A0 (.slice (some ⟨A0,0,none⟩) 0 0) []) := by have h := rowV_none v10; rw [hv11,hA0] at h; exact h
   have A9_11 : Hid (A0 < v11.heap.size) := by show _ < _; rw [← hv11,← hA0]; simp
   have HZA : Hid (A0 ≠ ZB) := by have := Z_10.out.lt; show _ ≠ _; omega
   have HA0 : Hid (w1.heap.size ≤ A0 ∧ A0 ≤ v11.heap.size) := ⟨by have := HB_10.out.size; omega,by have := hb.size; omega⟩
   have HB_11 := keep (HB_10.out.trans (hb.mono HB_10.out.size))
   have Z_12 := keep (Z_10.out.fs (Fs.of_below (l:=[]) hb) (by simp))
   go_simp
   try rw [hv11]
   try rw [hA0]
   clear hv11 hA0 hb
   refine hK.out _ _ (fun _ => HSS.out v11 HB_11.out) ?_
   clear hK K
   try simp only [Act.put,Ord.t,Ord.z,Ord.s]
   have hS := HSS.out v11 HB_11.out
   refine Ord.on (i:=3) (h:=fun K hK => ?_)
   refine step_append_vals rfl (.tmp 7) (.tmp 9) rfl A0 (.slice (some ⟨A0,0,none⟩) 0 0) [] rfl R0_11.out p5 n5 c5 vs rfl HV1.out (HV2.out v11 HB_11.out) HV3.out (by have := HLn.out; simp; omega) (Nat.le_of_lt A9_11.out) ?_
   intro v10 v13 hr10 hb10 hg10
   rw [List.nil_append] at hr10
   have hb : Below w1.heap.size v11 v13 := hb10.mono HA0.out.1
   have R3_13 := keep hr10
   have A93_13 : Hid (A0 < v13.heap.size) := Nat.lt_of_lt_of_le A9_11.out hb10.size
   have HB_13 : Hid (Below w1.heap.size w1 v13) := HB_11.out.trans hb
   have Z_13 : Hid (Bk v13 ZB [.slice p4 n4 c4] 30) := by
    have u := Z_12.out
    show Bk _ _ _ _
    unfold Bk at u ⊢
    rw [hg10 ZB Z_12.out.lt (by have := HZA.out; simp [Value.ownBlock]; omega)]; exact u
   clear hr10 hb10 hb hg10
   refine hK.out _ _ (fun _ => HSS.out v13 HB_13.out) ?_
   clear hK K
   try simp only [Act.put,Ord.t,Ord.z,Ord.s]
   have hS := HSS.out v13 HB_13.out
   refine Ord.on (i:=7) (h:=fun K hK => ?_)
   refine step_append_vals rfl (.tmp 10) (.tmp 13) rfl A0 v10 vs rfl R3_13.out (some ⟨ZB,0,none⟩) 1 1 [.slice p4 n4 c4] rfl rfl (fun j u hj => ⟨ZB,0,rfl,by rw [Nat.zero_add]; exact Z_13.out.cell j hj⟩) (fun u hu => by rw [List.mem_singleton] at hu; rw [hu]; rfl) (by have := HLn.out; have := HV1.out; omega) (Nat.le_of_lt A93_13.out) ?_
   intro v14 wf hr14 hb14 hg14
   have HR14 := keep hr14
   have HB14 : Hid (Below w1.heap.size w1 wf) := HB_13.out.trans (hb14.mono HA0.out.1)
   obtain ⟨pv,nv,cv,rfl⟩ := RowX.slice hr14
   have hnv := RowX.len hr14
   rw [List.length_append,HV1.out,List.length_singleton] at hnv
   subst hnv
   clear hr14 hb14 hg14
   refine hK.out _ _ (fun _ => HSS.out wf HB14.out) ?_
   clear hK K
   try simp only [Act.put,Ord.t,Ord.z,Ord.s]
   have hS := HSS.out wf HB14.out
   refine Ord.tk (i:=8) (v:=.int .i64 ((n5 + 1 : Nat) : Int)) (hy:=Or.inl ⟨by rfl,by rintro W' ⟨q0,q1⟩; go_simp⟩) (hS:=hS) (h:=?_)
   try simp only [Act.put,Ord.t,Ord.z,Ord.s]
   refine Ord.wpM_done (by kernel_rfl) ?_ _
   refine NoPanic.normal ?_
   exact ⟨rfl,_,_,_,_,_,A0,rfl,HR14.out,HB14.out⟩
 ·rintro e a' v ⟨rfl,u7,u10,u13,pv,cv,lo,rfl,hr,hb⟩
  have HBv : Hid (Below w.heap.size w v) := HB1.out.trans (hb.mono HB1.out.size)
  have HAv := keep (HAll.out v hb)
  rcases RowX.form cellsV_len hr with ⟨q1,q2⟩ | ⟨g,cap,q1,q2,q3,q4,q5⟩
  ·simp at q1
  ·obtain ⟨rfl,_⟩ : pv = some ⟨g,0,none⟩ ∧ True := ⟨by injection q1,trivial⟩
   have HCl : Hid (∀ (j : Nat) (u : Value),(vs ++ [Value.slice p4 n4 c4])[j]? = some u → v.cell? ⟨g,j,none⟩ = some u) := fun j u hj => by
    have := q5 j u 0 u hj rfl
    simpa using this
   have HLa : Hid ((aa ++ [ws]).length = n5 + 1 ∧ (vs ++ [Value.slice p4 n4 c4]).length = n5 + 1) := ⟨by rw [List.length_append,HLn.out.1]; rfl,by rw [List.length_append,HV1.out]; rfl⟩
   obtain ⟨N,hN⟩ : ∃ y,n5 + 1 = y := ⟨_,rfl⟩
   have HN1 : Hid (N ≤ 1048577) := by have := HLn.out; show _ ≤ _; omega
   rw [hN] at HLa ⊢
   clear q1 q2 q3 q4 q5 hr hb HSS HV1 HV3 HV2 hN
   dsimp only
   go_wp2
   go_loopw [16] (fun i wx => ∃ j : Nat,j ≤ N ∧ i = .int .i64 (j : Int) ∧ (∀ (k : Nat) (l : List Int),k < j → (aa ++ [ws])[k]? = some l → l.all wB = true) ∧ wx = v) (fun i _ => N - (intOf i).toNat)
   case atStart => exact ⟨0,by omega,rfl,fun k l hk => by omega,rfl⟩
   case round =>
    obtain ⟨j,hjn,rfl,hno,rfl⟩ := hrel
    have HNo := keep hno
    have hN1 := HN1.out
    clear hno
    by_cases hjl : j < N
    ·have d1 : decide ((j : Int) < (N : Int)) = true := decide_eq_true (by omega)
     have hjz : (j : Int) < (N : Int) := by omega
     have hj0 : (0 : Int) ≤ (j : Int) := by omega
     obtain ⟨l,hl⟩ : ∃ l,(aa ++ [ws])[j]? = some l := ⟨_,List.getElem?_eq_getElem (by rw [HLa.out.1]; exact hjl)⟩
     obtain ⟨u,hu⟩ : ∃ u,(vs ++ [Value.slice p4 n4 c4])[j]? = some u := ⟨_,List.getElem?_eq_getElem (by rw [HLa.out.2]; exact hjl)⟩
     have hc := HCl.out j u hu
     obtain ⟨pu,nu,cu,rfl,hnu,_,hnb,hq⟩ := HAv.out j l u hl hu
     have HQ := keep hq
     have HNu := keep hnu
     have HL := keep hl
     clear hq hnu hl hu
     go_wp2
     go_loopw [22] (fun i wx => ∃ m : Nat,m ≤ nu ∧ i = .int .i64 (m : Int) ∧ (∀ (k : Nat) (x : Int),k < m → l[k]? = some x → wB x = true) ∧ wx = wr) (fun i _ => nu - (intOf i).toNat)
     case atStart => exact ⟨0,by omega,rfl,fun k l hk => by omega,rfl⟩
     case round =>
      obtain ⟨k,hkn,rfl,hno,rfl⟩ := hrel
      have HNk := keep hno
      clear hno
      by_cases hkl : k < nu
      ·have e1 : decide ((k : Int) < (nu : Int)) = true := decide_eq_true (by omega)
       have hkz : (k : Int) < (nu : Int) := by omega
       have hk0 : (0 : Int) ≤ (k : Int) := by omega
       obtain ⟨x,hx⟩ : ∃ x,l[k]? = some x := ⟨_,List.getElem?_eq_getElem (by rw [HNu.out]; exact hkl)⟩
       obtain ⟨gx,ox,rfl,_,hcx⟩ := HQ.out k x hx
       obtain ⟨p1,hp1⟩ : ∃ y,decide (x < 0) = y := ⟨_,rfl⟩
       obtain ⟨p2,hp2⟩ : ∃ y,decide (4294967295 < x) = y := ⟨_,rfl⟩
       have HW : Hid (wB x = !(p1 || p2)) := by show _ = _; unfold wB; rw [hp1,hp2]
       have HX := keep hx
       have HFalse : Hid (wB x = false → wordsB ws aa = false) := fun h => by
        unfold wordsB
        rw [List.all_eq_false]
        refine ⟨l,List.mem_of_getElem? HL.out,?_⟩
        rw [Bool.not_eq_true,List.all_eq_false]
        exact ⟨x,List.mem_of_getElem? HX.out,by rw [h]; simp⟩
       clear hx
       cases p1 with
       | true =>
        have HE := keep (HFalse.out (by rw [HW.out]; rfl))
        go_wp2
        go_ret
        exact ⟨by rw [HE.out]; rfl,HBv.out⟩
       | false =>
        cases p2 with
        | true =>
         have HE := keep (HFalse.out (by rw [HW.out]; rfl))
         go_wp2
         go_ret
         exact ⟨by rw [HE.out]; rfl,HBv.out⟩
        | false =>
         have HNk2 : Hid (∀ (m : Nat) (y : Int),m < k + 1 → l[m]? = some y → wB y = true) := fun m y hm hy => by
          by_cases e : m = k
          ·rw [e,HX.out] at hy; cases hy; rw [HW.out]; rfl
          ·exact HNk.out m y (by omega) hy
         go_wp2
         go_roundw
         case rel => exact ⟨k + 1,by omega,by go_num,HNk2.out,by first | rfl | trivial⟩
         case measure => simp [intOf]; omega
      ·have hke : k = nu := by omega
       subst hke
       have dl : decide ((k : Int) < (k : Int)) = false := decide_eq_false (by omega)
       have HNj : Hid (∀ (m : Nat) (y : List Int),m < j + 1 → (aa ++ [ws])[m]? = some y → y.all wB = true) := fun m y hm hy => by
        by_cases e : m = j
        ·rw [e,HL.out] at hy
         cases hy
         rw [List.all_eq_true]
         intro x hx
         obtain ⟨t,ht⟩ := List.getElem?_of_mem hx
         exact HNk.out t x (by have := (List.getElem?_eq_some_iff.1 ht).1; rw [HNu.out] at this; exact this) ht
        ·exact HNo.out m y (by omega) hy
       clear hkl
       go_wp2
       go_roundw
       case rel => exact ⟨j + 1,by omega,by go_num,HNj.out,by first | rfl | trivial⟩
       case measure => simp [intOf]; omega
    ·have hje : j = N := by omega
     subst hje
     have dl : decide ((j : Int) < (j : Int)) = false := decide_eq_false (by omega)
     have HE : Hid (wordsB ws aa = true) := by
      show _ = _
      unfold wordsB
      rw [List.all_eq_true]
      intro l hl
      obtain ⟨t,ht⟩ := List.getElem?_of_mem hl
      exact HNo.out t l (by have := (List.getElem?_eq_some_iff.1 ht).1; rw [HLa.out.1] at this; exact this) ht
     clear hjl
     go_wp2
     go_ret
     exact ⟨by rw [HE.out]; rfl,HBv.out⟩
end Go.Proofs.Ytpnacanbknejiaa.Mh
