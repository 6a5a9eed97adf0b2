/- Laid together: LmKind, LmSwHalf. -/
import Derived.Test.YtemdnmfldihalaaGreatDoorLmCut
namespace Go.Proofs.YtemdnmfldihalaaGreatDoor.Lr
set_option maxHeartbeats 32000000
set_option maxRecDepth 100000
set_option linter.unusedVariables false
set_option linter.unusedSimpArgs false
open Go.ChangeShapes Go.WideShapes Go.ChangeAt Go.RowKit Go.Maps Go.WideMaps Lg
theorem eval_slot (a : Act) (i : Nat) : a.eval (.tmp i) = slot a i := by
 obtain ⟨⟨l⟩,d⟩ := a
 show (Array.mk l).getD i undef = l.getD i undef
 rw [List.getD_eq_getElem?_getD,Array.getD_eq_getD_getElem?,List.getElem?_toArray]
theorem no_let {Q : Exit → Act → World → Prop} {w : World} {a : Act} {k bI j : Nat} {dark : Bool} {p : Option Addr} {n c bT : Nat} {sv : Value} {had arr : Bool} {kd : Int} (hF : FT a k bI j dark p n c bT sv had arr kd) (hk : ¬ kd = 1) (hq : ∀ a',FT a' k bI j dark p n c bT sv had arr kd → bSet.wp Tryz.prog Q a' w) : bKind.wp Tryz.prog Q a w := by
 show (Code.seq (fstC bKind) (Code.cond (.tmp 99) (yesC (sndC bKind)) bSet)).wp Tryz.prog Q a w
 have h : (fstC bKind).wp Tryz.prog (fun e a' w' => e = .normal ∧ w' = w ∧ FT a' k bI j dark p n c bT sv had arr kd ∧ slot a' 99 = .bool false) a w := by
  obtain ⟨g,rfl⟩ := hF.opens
  have d1 : (kd == 1) = false := by simpa using hk
  clear hF hq hk
  conv => arg 2; whnf
  go_wp2
  exact ⟨⟨⟨⟨⟨rfl,rfl⟩,rfl,rfl,rfl,rfl,rfl,rfl⟩,rfl,rfl⟩,rfl,rfl,rfl⟩,rfl⟩
 refine wp_seq (wp_mono h ?_)
 rintro e a' w' ⟨rfl,rfl,hF',hs⟩
 exact wp_cond_false (by rw [eval_slot]; exact hs) (hq a' hF')
theorem no_set {Q : Exit → Act → World → Prop} {w : World} {a : Act} {k bI j : Nat} {dark : Bool} {p : Option Addr} {n c bT : Nat} {sv : Value} {had arr : Bool} {kd : Int} (hF : FT a k bI j dark p n c bT sv had arr kd) (hk : ¬ kd = 2) (hq : ∀ a',FT a' k bI j dark p n c bT sv had arr kd → bPut.wp Tryz.prog Q a' w) : bSet.wp Tryz.prog Q a w := by
 show (Code.seq (fstC bSet) (Code.cond (.tmp 134) (yesC (sndC bSet)) bPut)).wp Tryz.prog Q a w
 have h : (fstC bSet).wp Tryz.prog (fun e a' w' => e = .normal ∧ w' = w ∧ FT a' k bI j dark p n c bT sv had arr kd ∧ slot a' 134 = .bool false) a w := by
  obtain ⟨g,rfl⟩ := hF.opens
  have d1 : (kd == 2) = false := by simpa using hk
  clear hF hq hk
  conv => arg 2; whnf
  go_wp2
  exact ⟨⟨⟨⟨⟨rfl,rfl⟩,rfl,rfl,rfl,rfl,rfl,rfl⟩,rfl,rfl⟩,rfl,rfl,rfl⟩,rfl⟩
 refine wp_seq (wp_mono h ?_)
 rintro e a' w' ⟨rfl,rfl,hF',hs⟩
 exact wp_cond_false (by rw [eval_slot]; exact hs) (hq a' hF')
theorem no_put {Q : Exit → Act → World → Prop} {w : World} {a : Act} {k bI j : Nat} {dark : Bool} {p : Option Addr} {n c bT : Nat} {sv : Value} {had arr : Bool} {kd : Int} (hF : FT a k bI j dark p n c bT sv had arr kd) (hk : ¬ kd = 3) (hq : ∀ a',FT a' k bI j dark p n c bT sv had arr kd → bIf.wp Tryz.prog Q a' w) : bPut.wp Tryz.prog Q a w := by
 show (Code.seq (fstC bPut) (Code.cond (.tmp 159) (yesC (sndC bPut)) bIf)).wp Tryz.prog Q a w
 have h : (fstC bPut).wp Tryz.prog (fun e a' w' => e = .normal ∧ w' = w ∧ FT a' k bI j dark p n c bT sv had arr kd ∧ slot a' 159 = .bool false) a w := by
  obtain ⟨g,rfl⟩ := hF.opens
  have d1 : (kd == 3) = false := by simpa using hk
  clear hF hq hk
  conv => arg 2; whnf
  go_wp2
  exact ⟨⟨⟨⟨⟨rfl,rfl⟩,rfl,rfl,rfl,rfl,rfl,rfl⟩,rfl,rfl⟩,rfl,rfl,rfl⟩,rfl⟩
 refine wp_seq (wp_mono h ?_)
 rintro e a' w' ⟨rfl,rfl,hF',hs⟩
 exact wp_cond_false (by rw [eval_slot]; exact hs) (hq a' hF')
theorem no_if {Q : Exit → Act → World → Prop} {w : World} {a : Act} {k bI j : Nat} {dark : Bool} {p : Option Addr} {n c bT : Nat} {sv : Value} {had arr : Bool} {kd : Int} (hF : FT a k bI j dark p n c bT sv had arr kd) (hk : ¬ kd = 4) (hq : ∀ a',FT a' k bI j dark p n c bT sv had arr kd → bFor.wp Tryz.prog Q a' w) : bIf.wp Tryz.prog Q a w := by
 show (Code.seq (fstC bIf) (Code.cond (.tmp 189) (yesC (sndC bIf)) bFor)).wp Tryz.prog Q a w
 have h : (fstC bIf).wp Tryz.prog (fun e a' w' => e = .normal ∧ w' = w ∧ FT a' k bI j dark p n c bT sv had arr kd ∧ slot a' 189 = .bool false) a w := by
  obtain ⟨g,rfl⟩ := hF.opens
  have d1 : (kd == 4) = false := by simpa using hk
  clear hF hq hk
  conv => arg 2; whnf
  go_wp2
  exact ⟨⟨⟨⟨⟨rfl,rfl⟩,rfl,rfl,rfl,rfl,rfl,rfl⟩,rfl,rfl⟩,rfl,rfl,rfl⟩,rfl⟩
 refine wp_seq (wp_mono h ?_)
 rintro e a' w' ⟨rfl,rfl,hF',hs⟩
 exact wp_cond_false (by rw [eval_slot]; exact hs) (hq a' hF')
theorem yes_if {Q : Exit → Act → World → Prop} {w : World} {a : Act} {k bI j : Nat} {dark : Bool} {p : Option Addr} {n c bT : Nat} {sv : Value} {had arr : Bool} (hF : FT a k bI j dark p n c bT sv had arr 4) (hq : ∀ a',FT a' k bI j dark p n c bT sv had arr 4 → (yesC (sndC bIf)).wp Tryz.prog Q a' w) : bIf.wp Tryz.prog Q a w := by
 show (Code.seq (fstC bIf) (Code.cond (.tmp 189) (yesC (sndC bIf)) (noC (sndC bIf)))).wp Tryz.prog Q a w
 have h : (fstC bIf).wp Tryz.prog (fun e a' w' => e = .normal ∧ w' = w ∧ FT a' k bI j dark p n c bT sv had arr 4 ∧ slot a' 189 = .bool true) a w := by
  obtain ⟨g,rfl⟩ := hF.opens
  clear hF hq
  conv => arg 2; whnf
  go_wp2
  exact ⟨⟨⟨⟨⟨rfl,rfl⟩,rfl,rfl,rfl,rfl,rfl,rfl⟩,rfl,rfl⟩,rfl,rfl,rfl⟩,rfl⟩
 refine wp_seq (wp_mono h ?_)
 rintro e a' w' ⟨rfl,rfl,hF',hs⟩
 exact wp_cond_true (by rw [eval_slot]; exact hs) (hq a' hF')
theorem yes_for {Q : Exit → Act → World → Prop} {w : World} {a : Act} {k bI j : Nat} {dark : Bool} {p : Option Addr} {n c bT : Nat} {sv : Value} {had arr : Bool} (hF : FT a k bI j dark p n c bT sv had arr 5) (hq : ∀ a',FT a' k bI j dark p n c bT sv had arr 5 → (yesC (sndC bFor)).wp Tryz.prog Q a' w) : bFor.wp Tryz.prog Q a w := by
 show (Code.seq (fstC bFor) (Code.cond (.tmp 219) (yesC (sndC bFor)) (noC (sndC bFor)))).wp Tryz.prog Q a w
 have h : (fstC bFor).wp Tryz.prog (fun e a' w' => e = .normal ∧ w' = w ∧ FT a' k bI j dark p n c bT sv had arr 5 ∧ slot a' 219 = .bool true) a w := by
  obtain ⟨g,rfl⟩ := hF.opens
  clear hF hq
  conv => arg 2; whnf
  go_wp2
  exact ⟨⟨⟨⟨⟨rfl,rfl⟩,rfl,rfl,rfl,rfl,rfl,rfl⟩,rfl,rfl⟩,rfl,rfl,rfl⟩,rfl⟩
 refine wp_seq (wp_mono h ?_)
 rintro e a' w' ⟨rfl,rfl,hF',hs⟩
 exact wp_cond_true (by rw [eval_slot]; exact hs) (hq a' hF')
theorem sw_then (m K B : Nat) (hKB : KBlock m) (w : World) (k bA nA bI nI j : Nat) (dark s : Bool) (p : Option Addr) (n c bT gS cS : Nat) (p2 : Option Addr) (n2 c2 : Nat) (rs : List Vr) (ns : List Nm) (wk lt : Nat) (l : List St) (a : Act)
  (hF : FA a k bI j dark p n c bT (.slice (some ⟨gS,0,none⟩) 1 cS)) (hT : w.cell? ⟨bT,5,none⟩ = some (.slice p2 n2 c2)) (hTl : bT < w.heap.size) (hTk : bT ≠ k) (hS : w.cell? ⟨gS,0,none⟩ = some (.bool s)) (hSl : gS < w.heap.size) (hSk : gS ≠ k)
  (hmK : m ≤ K) (hm : m ≤ 10) (hwf : ∀ t ∈ l,wfS m t) (hkk : KK w k bA nA rs wk lt) (hmp : MapN w bI nI ns) (hIk : bI ≠ k) (hnn : nI ≤ 1000 + wk) (hfew : Few ns wk lt) (hBk : B ≤ k) (hi : StIs w B 10 (K + 1) l (.slice p2 n2 c2)) :
  bThen.wp Tryz.prog (HfP w k bA nA bI j dark p n c bT (.slice (some ⟨gS,0,none⟩) 1 cS) rs (blockK (stmtK rs m (s || dark)) l ⟨ns,wk,lt⟩)) a w := by
 obtain ⟨g,rfl⟩ := hF.opens
 have HSS : Hid (∀ W' : World,Fs [k] w W' → (W'.cell? ⟨bT,5,none⟩ = some (.slice p2 n2 c2) ∧ W'.cell? ⟨gS,0,none⟩ = some (.bool s))) := fun W' hb => ⟨cell_fs hb hT hTl hTk,cell_fs hb hS hSl hSk⟩
 have HC := keep (fun W' (hb : Below w.heap.size w W') => hKB K B k bA nA bI nI rs ns wk lt (s || dark) l (.slice p2 n2 c2) W' hmK hm hwf (hkk.below hb) (hmp.below hb) hIk hnn hfew hBk (hi.below (hb.mono (by have := hkk.box.lt; omega))))
 have HNz := keep (fun (e : Int) (h : blockK (stmtK rs m (s || dark)) l ⟨ns,wk,lt⟩ = .error e) => block_nz rs m (s || dark) l ⟨ns,wk,lt⟩ hfew h)
 clear hF hT hTl hTk hS hSl hSk hkk hmp hfew hi hKB hwf
 conv => arg 2; whnf
 cases dark with
 | true =>
  rw [Bool.or_true] at HC HNz ⊢
  go_wp2_with fail
  refine wp_region_noPanic ?_
  refine Ord.wpM_begin (fun W' : World => W'.cell? ⟨bT,5,none⟩ = some (.slice p2 n2 c2) ∧ W'.cell? ⟨gS,0,none⟩ = some (.bool s)) [0,1,2,3,4,5,6,7,8,9,10,11] (by kernel_rfl) ?_
  have HB4 : Hid (Fs [k] w w.drew) := Fs.of_below (Below.drew (Below.refl _ _))
  have HC4 : Hid (Below w.heap.size w w.drew) := Below.drew (Below.refl _ _)
  generalize w.drew = w4 at *
  have hS := HSS.out w4 HB4.out
  refine Ord.tk (i:=0) (v:=.pointer (some ⟨k,0,none⟩)) (hy:=Or.inl ⟨by rfl,by rintro W' ⟨q0,q1⟩; go_simp⟩) (hS:=hS) (h:=?_)
  try simp only [Act.put,Ord.t,Ord.z,Ord.s]
  refine Ord.tk (i:=1) (v:=.pointer (some ⟨bT,5,none⟩)) (hy:=Or.inl ⟨by rfl,by rintro W' ⟨q0,q1⟩; go_simp⟩) (hS:=hS) (h:=?_)
  try simp only [Act.put,Ord.t,Ord.z,Ord.s]
  refine Ord.tk (i:=2) (v:=.slice p2 n2 c2) (hy:=Or.inl ⟨by rfl,by rintro W' ⟨q0,q1⟩; go_simp⟩) (hS:=hS) (h:=?_)
  try simp only [Act.put,Ord.t,Ord.z,Ord.s]
  refine Ord.tk (i:=3) (v:=.map (some bI)) (hy:=Or.inl ⟨by rfl,by rintro W' ⟨q0,q1⟩; go_simp⟩) (hS:=hS) (h:=?_)
  try simp only [Act.put,Ord.t,Ord.z,Ord.s]
  refine Ord.tk (i:=4) (v:=.bool true) (hy:=Or.inl ⟨by rfl,by rintro W' ⟨q0,q1⟩; go_simp⟩) (hS:=hS) (h:=?_)
  try simp only [Act.put,Ord.t,Ord.z,Ord.s]
  refine Ord.tk (i:=5) (v:=.bool true) (hy:=Or.inl ⟨by rfl,by rintro W' ⟨q0,q1⟩; go_simp⟩) (hS:=hS) (h:=?_)
  try simp only [Act.put,Ord.t,Ord.z,Ord.s]
  refine Ord.tk (i:=6) (v:=undef) (hy:=Or.inr ⟨by rfl,rfl⟩) (hS:=hS) (h:=?_)
  try simp only [Act.put,Ord.t,Ord.z,Ord.s]
  refine Ord.tk (i:=7) (v:=undef) (hy:=Or.inr ⟨by rfl,rfl⟩) (hS:=hS) (h:=?_)
  try simp only [Act.put,Ord.t,Ord.z,Ord.s]
  refine Ord.tk (i:=8) (v:=undef) (hy:=Or.inr ⟨by rfl,rfl⟩) (hS:=hS) (h:=?_)
  try simp only [Act.put,Ord.t,Ord.z,Ord.s]
  refine Ord.tk (i:=9) (v:=.bool true) (hy:=Or.inl ⟨by rfl,by rintro W' ⟨q0,q1⟩; go_simp⟩) (hS:=hS) (h:=?_)
  try simp only [Act.put,Ord.t,Ord.z,Ord.s]
  refine Ord.on (i:=10) (h:=fun K hK => ?_)
  go_simp
  refine (HC.out w4 HC4.out).mono ?_
  rintro r w5 ⟨rfl,hf5,hk5⟩
  have HF5 := keep (HB4.out.trans hf5)
  have HK5 := keep hk5
  obtain ⟨res,hres⟩ : ∃ r,blockK (stmtK rs m true) l ⟨ns,wk,lt⟩ = r := ⟨_,rfl⟩
  rw [hres] at HNz HK5 ⊢
  have HRes := keep hres
  clear hf5 hk5 HC hS HB4 HC4 hres
  obtain ⟨re,hre⟩ : ∃ b,resK res = b := ⟨_,rfl⟩
  rw [hre]
  have HRe := keep hre
  clear hre
  go_simp
  refine hK.out _ _ (fun _ => HSS.out _ HF5.out) ?_
  clear hK K
  try simp only [Act.put,Ord.t,Ord.z,Ord.s]
  refine Ord.on (i:=11) (h:=fun K hK => ?_)
  go_simp
  refine hK.out _ _ (fun _ => HSS.out _ HF5.out) ?_
  clear hK K
  try simp only [Act.put,Ord.t,Ord.z,Ord.s]
  refine Ord.wpM_done (by kernel_rfl) ?_ _
  refine NoPanic.normal ?_
  clear HSS
  cases res with
  | error e =>
   have e1 : re = e := HRe.out.symm
   subst e1
   have d2 : (re != 0) = true := by simpa using HNz.out re rfl
   go_wp2
   exact .err ⟨rfl,rfl⟩ rfl HRes.out HF5.out
  | ok k1 =>
   have e1 : re = 0 := HRe.out.symm
   subst e1
   go_wp2
   exact .ok ⟨⟨⟨rfl,rfl⟩,rfl,rfl,rfl,rfl,rfl,rfl⟩,rfl,rfl⟩ HRes.out (HK5.out k1 rfl) HF5.out
 | false =>
  rw [Bool.or_false] at HC HNz ⊢
  go_wp2_with fail
  refine wp_region_noPanic ?_
  refine Ord.wpM_begin (fun W' : World => W'.cell? ⟨bT,5,none⟩ = some (.slice p2 n2 c2) ∧ W'.cell? ⟨gS,0,none⟩ = some (.bool s)) [0,1,2,3,4,5,6,7,8,9,10,11] (by kernel_rfl) ?_
  have HB4 : Hid (Fs [k] w w.drew) := Fs.of_below (Below.drew (Below.refl _ _))
  have HC4 : Hid (Below w.heap.size w w.drew) := Below.drew (Below.refl _ _)
  generalize w.drew = w4 at *
  have hS := HSS.out w4 HB4.out
  refine Ord.tk (i:=0) (v:=.pointer (some ⟨k,0,none⟩)) (hy:=Or.inl ⟨by rfl,by rintro W' ⟨q0,q1⟩; go_simp⟩) (hS:=hS) (h:=?_)
  try simp only [Act.put,Ord.t,Ord.z,Ord.s]
  refine Ord.tk (i:=1) (v:=.pointer (some ⟨bT,5,none⟩)) (hy:=Or.inl ⟨by rfl,by rintro W' ⟨q0,q1⟩; go_simp⟩) (hS:=hS) (h:=?_)
  try simp only [Act.put,Ord.t,Ord.z,Ord.s]
  refine Ord.tk (i:=2) (v:=.slice p2 n2 c2) (hy:=Or.inl ⟨by rfl,by rintro W' ⟨q0,q1⟩; go_simp⟩) (hS:=hS) (h:=?_)
  try simp only [Act.put,Ord.t,Ord.z,Ord.s]
  refine Ord.tk (i:=3) (v:=.map (some bI)) (hy:=Or.inl ⟨by rfl,by rintro W' ⟨q0,q1⟩; go_simp⟩) (hS:=hS) (h:=?_)
  try simp only [Act.put,Ord.t,Ord.z,Ord.s]
  refine Ord.tk (i:=4) (v:=.bool false) (hy:=Or.inl ⟨by rfl,by rintro W' ⟨q0,q1⟩; go_simp⟩) (hS:=hS) (h:=?_)
  try simp only [Act.put,Ord.t,Ord.z,Ord.s]
  refine Ord.tk (i:=5) (v:=.bool false) (hy:=Or.inl ⟨by rfl,by rintro W' ⟨q0,q1⟩; go_simp⟩) (hS:=hS) (h:=?_)
  try simp only [Act.put,Ord.t,Ord.z,Ord.s]
  refine Ord.tk (i:=6) (v:=.slice (some ⟨gS,0,none⟩) 1 cS) (hy:=Or.inl ⟨by rfl,by rintro W' ⟨q0,q1⟩; go_simp⟩) (hS:=hS) (h:=?_)
  try simp only [Act.put,Ord.t,Ord.z,Ord.s]
  refine Ord.tk (i:=7) (v:=.pointer (some ⟨gS,0,none⟩)) (hy:=Or.inl ⟨by rfl,by rintro W' ⟨q0,q1⟩; go_simp⟩) (hS:=hS) (h:=?_)
  try simp only [Act.put,Ord.t,Ord.z,Ord.s]
  refine Ord.tk (i:=8) (v:=.bool s) (hy:=Or.inl ⟨by rfl,by rintro W' ⟨q0,q1⟩; go_simp⟩) (hS:=hS) (h:=?_)
  try simp only [Act.put,Ord.t,Ord.z,Ord.s]
  refine Ord.tk (i:=9) (v:=.bool s) (hy:=Or.inl ⟨by rfl,by rintro W' ⟨q0,q1⟩; go_simp⟩) (hS:=hS) (h:=?_)
  try simp only [Act.put,Ord.t,Ord.z,Ord.s]
  refine Ord.on (i:=10) (h:=fun K hK => ?_)
  go_simp
  refine (HC.out w4 HC4.out).mono ?_
  rintro r w5 ⟨rfl,hf5,hk5⟩
  have HF5 := keep (HB4.out.trans hf5)
  have HK5 := keep hk5
  obtain ⟨res,hres⟩ : ∃ r,blockK (stmtK rs m s) l ⟨ns,wk,lt⟩ = r := ⟨_,rfl⟩
  rw [hres] at HNz HK5 ⊢
  have HRes := keep hres
  clear hf5 hk5 HC hS HB4 HC4 hres
  obtain ⟨re,hre⟩ : ∃ b,resK res = b := ⟨_,rfl⟩
  rw [hre]
  have HRe := keep hre
  clear hre
  go_simp
  refine hK.out _ _ (fun _ => HSS.out _ HF5.out) ?_
  clear hK K
  try simp only [Act.put,Ord.t,Ord.z,Ord.s]
  refine Ord.on (i:=11) (h:=fun K hK => ?_)
  go_simp
  refine hK.out _ _ (fun _ => HSS.out _ HF5.out) ?_
  clear hK K
  try simp only [Act.put,Ord.t,Ord.z,Ord.s]
  refine Ord.wpM_done (by kernel_rfl) ?_ _
  refine NoPanic.normal ?_
  clear HSS
  cases res with
  | error e =>
   have e1 : re = e := HRe.out.symm
   subst e1
   have d2 : (re != 0) = true := by simpa using HNz.out re rfl
   go_wp2
   exact .err ⟨rfl,rfl⟩ rfl HRes.out HF5.out
  | ok k1 =>
   have e1 : re = 0 := HRe.out.symm
   subst e1
   go_wp2
   exact .ok ⟨⟨⟨rfl,rfl⟩,rfl,rfl,rfl,rfl,rfl,rfl⟩,rfl,rfl⟩ HRes.out (HK5.out k1 rfl) HF5.out
theorem sw_else (m K B : Nat) (hKB : KBlock m) (w : World) (k bA nA bI nI j : Nat) (dark s : Bool) (p : Option Addr) (n c bT gS cS : Nat) (p2 : Option Addr) (n2 c2 : Nat) (rs : List Vr) (ns : List Nm) (wk lt : Nat) (l : List St) (a : Act)
  (hF : FA a k bI j dark p n c bT (.slice (some ⟨gS,0,none⟩) 1 cS)) (hT : w.cell? ⟨bT,6,none⟩ = some (.slice p2 n2 c2)) (hTl : bT < w.heap.size) (hTk : bT ≠ k) (hS : w.cell? ⟨gS,0,none⟩ = some (.bool s)) (hSl : gS < w.heap.size) (hSk : gS ≠ k)
  (hmK : m ≤ K) (hm : m ≤ 10) (hwf : ∀ t ∈ l,wfS m t) (hkk : KK w k bA nA rs wk lt) (hmp : MapN w bI nI ns) (hIk : bI ≠ k) (hnn : nI ≤ 1000 + wk) (hfew : Few ns wk lt) (hBk : B ≤ k) (hi : StIs w B 10 (K + 1) l (.slice p2 n2 c2)) :
  bElse.wp Tryz.prog (HfP w k bA nA bI j dark p n c bT (.slice (some ⟨gS,0,none⟩) 1 cS) rs (blockK (stmtK rs m (s || dark)) l ⟨ns,wk,lt⟩)) a w := by
 obtain ⟨g,rfl⟩ := hF.opens
 have HSS : Hid (∀ W' : World,Fs [k] w W' → (W'.cell? ⟨bT,6,none⟩ = some (.slice p2 n2 c2) ∧ W'.cell? ⟨gS,0,none⟩ = some (.bool s))) := fun W' hb => ⟨cell_fs hb hT hTl hTk,cell_fs hb hS hSl hSk⟩
 have HC := keep (fun W' (hb : Below w.heap.size w W') => hKB K B k bA nA bI nI rs ns wk lt (s || dark) l (.slice p2 n2 c2) W' hmK hm hwf (hkk.below hb) (hmp.below hb) hIk hnn hfew hBk (hi.below (hb.mono (by have := hkk.box.lt; omega))))
 have HNz := keep (fun (e : Int) (h : blockK (stmtK rs m (s || dark)) l ⟨ns,wk,lt⟩ = .error e) => block_nz rs m (s || dark) l ⟨ns,wk,lt⟩ hfew h)
 clear hF hT hTl hTk hS hSl hSk hkk hmp hfew hi hKB hwf
 conv => arg 2; whnf
 cases dark with
 | true =>
  rw [Bool.or_true] at HC HNz ⊢
  go_wp2_with fail
  refine wp_region_noPanic ?_
  refine Ord.wpM_begin (fun W' : World => W'.cell? ⟨bT,6,none⟩ = some (.slice p2 n2 c2) ∧ W'.cell? ⟨gS,0,none⟩ = some (.bool s)) [0,1,2,3,4,5,6,7,8,9,10,11] (by kernel_rfl) ?_
  have HB4 : Hid (Fs [k] w w.drew) := Fs.of_below (Below.drew (Below.refl _ _))
  have HC4 : Hid (Below w.heap.size w w.drew) := Below.drew (Below.refl _ _)
  generalize w.drew = w4 at *
  have hS := HSS.out w4 HB4.out
  refine Ord.tk (i:=0) (v:=.pointer (some ⟨k,0,none⟩)) (hy:=Or.inl ⟨by rfl,by rintro W' ⟨q0,q1⟩; go_simp⟩) (hS:=hS) (h:=?_)
  try simp only [Act.put,Ord.t,Ord.z,Ord.s]
  refine Ord.tk (i:=1) (v:=.pointer (some ⟨bT,6,none⟩)) (hy:=Or.inl ⟨by rfl,by rintro W' ⟨q0,q1⟩; go_simp⟩) (hS:=hS) (h:=?_)
  try simp only [Act.put,Ord.t,Ord.z,Ord.s]
  refine Ord.tk (i:=2) (v:=.slice p2 n2 c2) (hy:=Or.inl ⟨by rfl,by rintro W' ⟨q0,q1⟩; go_simp⟩) (hS:=hS) (h:=?_)
  try simp only [Act.put,Ord.t,Ord.z,Ord.s]
  refine Ord.tk (i:=3) (v:=.map (some bI)) (hy:=Or.inl ⟨by rfl,by rintro W' ⟨q0,q1⟩; go_simp⟩) (hS:=hS) (h:=?_)
  try simp only [Act.put,Ord.t,Ord.z,Ord.s]
  refine Ord.tk (i:=4) (v:=.bool true) (hy:=Or.inl ⟨by rfl,by rintro W' ⟨q0,q1⟩; go_simp⟩) (hS:=hS) (h:=?_)
  try simp only [Act.put,Ord.t,Ord.z,Ord.s]
  refine Ord.tk (i:=5) (v:=.bool true) (hy:=Or.inl ⟨by rfl,by rintro W' ⟨q0,q1⟩; go_simp⟩) (hS:=hS) (h:=?_)
  try simp only [Act.put,Ord.t,Ord.z,Ord.s]
  refine Ord.tk (i:=6) (v:=undef) (hy:=Or.inr ⟨by rfl,rfl⟩) (hS:=hS) (h:=?_)
  try simp only [Act.put,Ord.t,Ord.z,Ord.s]
  refine Ord.tk (i:=7) (v:=undef) (hy:=Or.inr ⟨by rfl,rfl⟩) (hS:=hS) (h:=?_)
  try simp only [Act.put,Ord.t,Ord.z,Ord.s]
  refine Ord.tk (i:=8) (v:=undef) (hy:=Or.inr ⟨by rfl,rfl⟩) (hS:=hS) (h:=?_)
  try simp only [Act.put,Ord.t,Ord.z,Ord.s]
  refine Ord.tk (i:=9) (v:=.bool true) (hy:=Or.inl ⟨by rfl,by rintro W' ⟨q0,q1⟩; go_simp⟩) (hS:=hS) (h:=?_)
  try simp only [Act.put,Ord.t,Ord.z,Ord.s]
  refine Ord.on (i:=10) (h:=fun K hK => ?_)
  go_simp
  refine (HC.out w4 HC4.out).mono ?_
  rintro r w5 ⟨rfl,hf5,hk5⟩
  have HF5 := keep (HB4.out.trans hf5)
  have HK5 := keep hk5
  obtain ⟨res,hres⟩ : ∃ r,blockK (stmtK rs m true) l ⟨ns,wk,lt⟩ = r := ⟨_,rfl⟩
  rw [hres] at HNz HK5 ⊢
  have HRes := keep hres
  clear hf5 hk5 HC hS HB4 HC4 hres
  obtain ⟨re,hre⟩ : ∃ b,resK res = b := ⟨_,rfl⟩
  rw [hre]
  have HRe := keep hre
  clear hre
  go_simp
  refine hK.out _ _ (fun _ => HSS.out _ HF5.out) ?_
  clear hK K
  try simp only [Act.put,Ord.t,Ord.z,Ord.s]
  refine Ord.on (i:=11) (h:=fun K hK => ?_)
  go_simp
  refine hK.out _ _ (fun _ => HSS.out _ HF5.out) ?_
  clear hK K
  try simp only [Act.put,Ord.t,Ord.z,Ord.s]
  refine Ord.wpM_done (by kernel_rfl) ?_ _
  refine NoPanic.normal ?_
  clear HSS
  cases res with
  | error e =>
   have e1 : re = e := HRe.out.symm
   subst e1
   have d2 : (re != 0) = true := by simpa using HNz.out re rfl
   go_wp2
   exact .err ⟨rfl,rfl⟩ rfl HRes.out HF5.out
  | ok k1 =>
   have e1 : re = 0 := HRe.out.symm
   subst e1
   go_wp2
   exact .ok ⟨⟨⟨rfl,rfl⟩,rfl,rfl,rfl,rfl,rfl,rfl⟩,rfl,rfl⟩ HRes.out (HK5.out k1 rfl) HF5.out
 | false =>
  rw [Bool.or_false] at HC HNz ⊢
  go_wp2_with fail
  refine wp_region_noPanic ?_
  refine Ord.wpM_begin (fun W' : World => W'.cell? ⟨bT,6,none⟩ = some (.slice p2 n2 c2) ∧ W'.cell? ⟨gS,0,none⟩ = some (.bool s)) [0,1,2,3,4,5,6,7,8,9,10,11] (by kernel_rfl) ?_
  have HB4 : Hid (Fs [k] w w.drew) := Fs.of_below (Below.drew (Below.refl _ _))
  have HC4 : Hid (Below w.heap.size w w.drew) := Below.drew (Below.refl _ _)
  generalize w.drew = w4 at *
  have hS := HSS.out w4 HB4.out
  refine Ord.tk (i:=0) (v:=.pointer (some ⟨k,0,none⟩)) (hy:=Or.inl ⟨by rfl,by rintro W' ⟨q0,q1⟩; go_simp⟩) (hS:=hS) (h:=?_)
  try simp only [Act.put,Ord.t,Ord.z,Ord.s]
  refine Ord.tk (i:=1) (v:=.pointer (some ⟨bT,6,none⟩)) (hy:=Or.inl ⟨by rfl,by rintro W' ⟨q0,q1⟩; go_simp⟩) (hS:=hS) (h:=?_)
  try simp only [Act.put,Ord.t,Ord.z,Ord.s]
  refine Ord.tk (i:=2) (v:=.slice p2 n2 c2) (hy:=Or.inl ⟨by rfl,by rintro W' ⟨q0,q1⟩; go_simp⟩) (hS:=hS) (h:=?_)
  try simp only [Act.put,Ord.t,Ord.z,Ord.s]
  refine Ord.tk (i:=3) (v:=.map (some bI)) (hy:=Or.inl ⟨by rfl,by rintro W' ⟨q0,q1⟩; go_simp⟩) (hS:=hS) (h:=?_)
  try simp only [Act.put,Ord.t,Ord.z,Ord.s]
  refine Ord.tk (i:=4) (v:=.bool false) (hy:=Or.inl ⟨by rfl,by rintro W' ⟨q0,q1⟩; go_simp⟩) (hS:=hS) (h:=?_)
  try simp only [Act.put,Ord.t,Ord.z,Ord.s]
  refine Ord.tk (i:=5) (v:=.bool false) (hy:=Or.inl ⟨by rfl,by rintro W' ⟨q0,q1⟩; go_simp⟩) (hS:=hS) (h:=?_)
  try simp only [Act.put,Ord.t,Ord.z,Ord.s]
  refine Ord.tk (i:=6) (v:=.slice (some ⟨gS,0,none⟩) 1 cS) (hy:=Or.inl ⟨by rfl,by rintro W' ⟨q0,q1⟩; go_simp⟩) (hS:=hS) (h:=?_)
  try simp only [Act.put,Ord.t,Ord.z,Ord.s]
  refine Ord.tk (i:=7) (v:=.pointer (some ⟨gS,0,none⟩)) (hy:=Or.inl ⟨by rfl,by rintro W' ⟨q0,q1⟩; go_simp⟩) (hS:=hS) (h:=?_)
  try simp only [Act.put,Ord.t,Ord.z,Ord.s]
  refine Ord.tk (i:=8) (v:=.bool s) (hy:=Or.inl ⟨by rfl,by rintro W' ⟨q0,q1⟩; go_simp⟩) (hS:=hS) (h:=?_)
  try simp only [Act.put,Ord.t,Ord.z,Ord.s]
  refine Ord.tk (i:=9) (v:=.bool s) (hy:=Or.inl ⟨by rfl,by rintro W' ⟨q0,q1⟩; go_simp⟩) (hS:=hS) (h:=?_)
  try simp only [Act.put,Ord.t,Ord.z,Ord.s]
  refine Ord.on (i:=10) (h:=fun K hK => ?_)
  go_simp
  refine (HC.out w4 HC4.out).mono ?_
  rintro r w5 ⟨rfl,hf5,hk5⟩
  have HF5 := keep (HB4.out.trans hf5)
  have HK5 := keep hk5
  obtain ⟨res,hres⟩ : ∃ r,blockK (stmtK rs m s) l ⟨ns,wk,lt⟩ = r := ⟨_,rfl⟩
  rw [hres] at HNz HK5 ⊢
  have HRes := keep hres
  clear hf5 hk5 HC hS HB4 HC4 hres
  obtain ⟨re,hre⟩ : ∃ b,resK res = b := ⟨_,rfl⟩
  rw [hre]
  have HRe := keep hre
  clear hre
  go_simp
  refine hK.out _ _ (fun _ => HSS.out _ HF5.out) ?_
  clear hK K
  try simp only [Act.put,Ord.t,Ord.z,Ord.s]
  refine Ord.on (i:=11) (h:=fun K hK => ?_)
  go_simp
  refine hK.out _ _ (fun _ => HSS.out _ HF5.out) ?_
  clear hK K
  try simp only [Act.put,Ord.t,Ord.z,Ord.s]
  refine Ord.wpM_done (by kernel_rfl) ?_ _
  refine NoPanic.normal ?_
  clear HSS
  cases res with
  | error e =>
   have e1 : re = e := HRe.out.symm
   subst e1
   have d2 : (re != 0) = true := by simpa using HNz.out re rfl
   go_wp2
   exact .err ⟨rfl,rfl⟩ rfl HRes.out HF5.out
  | ok k1 =>
   have e1 : re = 0 := HRe.out.symm
   subst e1
   go_wp2
   exact .ok ⟨⟨⟨rfl,rfl⟩,rfl,rfl,rfl,rfl,rfl,rfl⟩,rfl,rfl⟩ HRes.out (HK5.out k1 rfl) HF5.out
end Go.Proofs.YtemdnmfldihalaaGreatDoor.Lr
