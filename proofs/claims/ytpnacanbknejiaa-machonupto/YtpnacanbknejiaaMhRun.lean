/- The program's machine runs, with whatever looks at each step: run. Written by tools/gen_mhrun.py. -/
import Derived.Test.YtpnacanbknejiaaMhDo
namespace Go.Proofs.Ytpnacanbknejiaa.Mh
set_option maxHeartbeats 32000000
set_option maxRecDepth 100000
set_option linter.unusedVariables false
set_option linter.unusedSimpArgs false
open Go.ChangeShapes Go.WideShapes Go.ChangeAt Go.RowKit Lg Lr Fl
theorem six_there {w : World} {b : Nat} {u v x y z t : Value} {ty : TypeId} (h : Bk w b [u,v,x,y,z,t] ty) : w.there b 0 6 := fun j hj => by
 refine ⟨?_,h.fr _⟩
 rw [Nat.zero_add]
 have : j = 0 ∨ j = 1 ∨ j = 2 ∨ j = 3 ∨ j = 4 ∨ j = 5 := by omega
 rcases this with rfl | rfl | rfl | rfl | rfl | rfl
 ·rw [h.cell 0 rfl]; rfl
 ·rw [h.cell 1 rfl]; rfl
 ·rw [h.cell 2 rfl]; rfl
 ·rw [h.cell 3 rfl]; rfl
 ·rw [h.cell 4 rfl]; rfl
 ·rw [h.cell 5 rfl]; rfl
theorem set_six {w : World} {b : Nat} {u v x y z t : Value} {ty : TypeId} (h : Bk w b [u,v,x,y,z,t] ty) (i : Ix) : Bk (w.setCells b 0 [.int .i64 i.op,.int .i64 i.d,.int .i64 i.a,.int .i64 i.b,.int .i64 i.c,.int .i64 i.imm]) b [.int .i64 i.op,.int .i64 i.d,.int .i64 i.a,.int .i64 i.b,.int .i64 i.c,.int .i64 i.imm] ty ∧ Fs [b] w (w.setCells b 0 [.int .i64 i.op,.int .i64 i.d,.int .i64 i.a,.int .i64 i.b,.int .i64 i.c,.int .i64 i.imm]) :=
 ⟨((((((h.set 0 _).set 1 _).set 2 _).set 3 _).set 4 _).set 5 _ : _),((((((Fs.refl [b] w).set (by simp) 0 _).set (by simp) 1 _).set (by simp) 2 _).set (by simp) 3 _).set (by simp) 4 _).set (by simp) 5 _⟩
structure LookIs (code : List Ix) (MB PB AO : Nat) (cv : Value) (bl : List Nat) (k : FuncId) (binds : Array Value) (J : List (Nat × Ix × Ms) → Nat → World → Prop) : Prop where
 enter : ∀ args w,(callFunc k args).run Try.prog w = .ok (.enter k args) w
 keep : ∀ hs B w w',J hs B w → Fs (MB :: PB :: bl) w w' → J hs B w'
 lies : ∀ hs B w,J hs B w → CodeIs w w.heap.size code cv
 look : ∀ hs B w at' i s ps,J hs B w → B ≤ w.heap.size → MaIs w MB PB AO cv s ps at' → ps.map Prod.fst = bl → code[at']? = some i → hs.length ≤ 36000 →
  Calls Try.prog k (#[.agg (ixA i)] ++ binds) w fun r w' => r = .returned (.tuple #[]) ∧ J (hs ++ [(at',i,s)]) w'.heap.size w' ∧ MaIs w' MB PB AO cv s ps at' ∧ w.heap.size ≤ w'.heap.size ∧ ∀ b,B ≤ b → b < w.heap.size → w'.heap[b]? = w.heap[b]?
def MRun (code : List Ix) (n : Nat) (at0 : Nat) (s0 : Ms) (MB PB AO : Nat) (cv : Value) (bl : List Nat) (J : List (Nat × Ix × Ms) → Nat → World → Prop) (w : World) (r : Ending) (w' : World) : Prop :=
 r = .returned (.int .i64 (trM code n at0 s0).e) ∧ (∃ B,J (trM code n at0 s0).l B w') ∧ w.heap.size ≤ w'.heap.size ∧ ∃ ps,MaIs w' MB PB AO cv (trM code n at0 s0).s ps (trM code n at0 s0).at' ∧ ps.map Prod.fst = bl
structure MLoop (code : List Ix) (n : Nat) (at0 : Nat) (s0 : Ms) (MB PB AO : Nat) (cv : Value) (bl : List Nat) (J : List (Nat × Ix × Ms) → Nat → World → Prop) (w : World) (j at' : Nat) (s : Ms) (ps : List (Nat × List Int)) (hs : List (Nat × Ix × Ms)) (W : World) : Prop where
 tr : trM code n at0 s0 = ⟨hs ++ (trM code (n - j) at' s).l,(trM code (n - j) at' s).e,(trM code (n - j) at' s).at',(trM code (n - j) at' s).s⟩
 len : hs.length = j
 J : ∃ B,J hs B W ∧ B ≤ W.heap.size
 ma : MaIs W MB PB AO cv s ps at'
 gd : GoodM 120 bl.length s
 bl : ps.map Prod.fst = bl
 le : w.heap.size ≤ W.heap.size
 at5 : at' ≤ 4294967295 + 1000001
theorem mrun_any (code : List Ix) (most : Int) (at0 : Nat) (s0 : Ms) (MB PB AO : Nat) (cv : Value) (ps0 : List (Nat × List Int)) (k : FuncId) (binds : Array Value) (J : List (Nat × Ix × Ms) → Nat → World → Prop) (w : World) (hL : LookIs code MB PB AO cv (ps0.map Prod.fst) k binds J) (hJ : J [] w.heap.size w) (h : MaIs w MB PB AO cv s0 ps0 at0) (hG : GoodM 120 ps0.length s0) (hF : ∀ i ∈ code,FitI 120 ps0.length i) (hm : most ≤ 36000) (hcl : code.length ≤ 1000000) (ha0 : at0 ≤ 4294967295) :
  Calls Try.prog 57 #[.pointer (some ⟨MB,0,none⟩),.int .i64 most,.func (.func k) #[] binds] w fun r w' => MRun code most.toNat at0 s0 MB PB AO cv (ps0.map Prod.fst) J w r w' := by
 obtain ⟨bl,hbl⟩ : ∃ y,ps0.map Prod.fst = y := ⟨_,rfl⟩
 have hbn : bl.length = ps0.length := by rw [← hbl,List.length_map]
 rw [hbl] at hL ⊢
 rw [← hbn] at hG hF
 have HL := keep hL
 have HF := keep hF
 have HCl := keep hcl
 have HEn := keep hL.enter
 obtain ⟨N,hN⟩ : ∃ y,most.toNat = y := ⟨_,rfl⟩
 rw [hN]
 have HSt : Hid (MLoop code N at0 s0 MB PB AO cv bl J w 0 at0 s0 ps0 [] w) := ⟨by rw [List.nil_append]; rfl,rfl,⟨_,hJ,Nat.le_refl _⟩,h,hG,hbl,Nat.le_refl _,by omega⟩
 have HM := keep hm
 have HNm : Hid ((N : Int) = most ∨ (N = 0 ∧ most < 0)) := by show _ ∨ _; omega
 clear hL hF hJ h hG hbl hN hcl hbn
 go_enter Try.func57,Try.ntmps57
 go_wp2
 go_loopw [9] (fun i wx => ∃ (j at' : Nat) (s : Ms) (ps : List (Nat × List Int)) (hs : List (Nat × Ix × Ms)),j ≤ N ∧ i = .int .i64 (j : Int) ∧ MLoop code N at0 s0 MB PB AO cv bl J w j at' s ps hs wx) (fun i _ => N - (intOf i).toNat)
 case atStart => exact ⟨0,at0,s0,ps0,[],by omega,rfl,HSt.out⟩
 case round =>
  obtain ⟨j,at',s,ps,hs,hjN,rfl,hI⟩ := hrel
  obtain ⟨BJ,hJ,hBJ⟩ := hI.J
  have HJ := keep hJ
  have HBJ := keep hBJ
  clear hJ hBJ
  have HI := keep hI
  by_cases hjl : (j : Int) < most
  ·have d1 : decide ((j : Int) < most) = true := decide_eq_true hjl
   have HJl : Hid (j < N ∧ N ≤ 36000) := by
    have := HNm.out
    have := HM.out
    exact ⟨by omega,by omega⟩
   obtain ⟨pc,nc,cc,rfl,hcn,hcc,hcb,hcq⟩ := HL.out.lies _ _ _ HJ.out
   have HCn := keep hcn
   have HCq := keep hcq
   have HCb : Hid (nc ≤ 1000000) := by show _ ≤ _; rw [← hcn]; exact HCl.out
   obtain ⟨c1,c2,c3,c4⟩ := five_at hI.ma.m
   have c0 := hI.ma.m.cell 0 rfl
   have HSS : Hid (∀ W',Below wr.heap.size wr W' → W'.cell? ⟨MB,0,none⟩ = some (.slice pc nc cc) ∧ W'.cell? ⟨MB,4,none⟩ = some (.int .i64 (at' : Int))) := fun W' hW => by
    have u1 := (HI.out.ma.below hW).m
    exact ⟨u1.cell 0 rfl,u1.cell 4 rfl⟩
   obtain ⟨qg,hqg⟩ : ∃ y,decide (nc ≤ at') = y := ⟨_,rfl⟩
   have HQg := keep hqg
   have hnc0 : (nc : Int) ≤ 1000000 := by have := HCb.out; omega
   clear hcn hcc hcb hcq hI c0 c1 c2 c3 c4 hqg
   go_wp2_with fail
   refine wp_region_noPanic ?_
   refine Ord.wpM_begin (fun W' : World => W'.cell? ⟨MB,0,none⟩ = some (.slice pc nc cc) ∧ W'.cell? ⟨MB,4,none⟩ = some (.int .i64 (at' : Int))) [0,1,2,3,4,5,6,7,8,9] (by kernel_rfl) ?_
   have HD : Hid (Below wr.heap.size wr wr.drew) := Below.drew (Below.refl _ _)
   generalize wr.drew = wd at *
   have hS := HSS.out wd HD.out
   refine Ord.tk (i:=0) (v:=.pointer (some ⟨MB,0,none⟩)) (hy:=Or.inl ⟨by rfl,by rintro W' ⟨q0,q1⟩; go_simp⟩) (hS:=hS) (h:=?_)
   try simp only [Act.put,Ord.t,Ord.z,Ord.s]
   refine Ord.tk (i:=1) (v:=.pointer (some ⟨MB,0,none⟩)) (hy:=Or.inl ⟨by rfl,by rintro W' ⟨q0,q1⟩; go_simp⟩) (hS:=hS) (h:=?_)
   try simp only [Act.put,Ord.t,Ord.z,Ord.s]
   refine Ord.tk (i:=2) (v:=.pointer (some ⟨MB,4,none⟩)) (hy:=Or.inl ⟨by rfl,by rintro W' ⟨q0,q1⟩; go_simp⟩) (hS:=hS) (h:=?_)
   try simp only [Act.put,Ord.t,Ord.z,Ord.s]
   refine Ord.tk (i:=3) (v:=.int .i64 (at' : Int)) (hy:=Or.inl ⟨by rfl,by rintro W' ⟨q0,q1⟩; go_simp⟩) (hS:=hS) (h:=?_)
   try simp only [Act.put,Ord.t,Ord.z,Ord.s]
   refine Ord.tk (i:=4) (v:=.pointer (some ⟨MB,0,none⟩)) (hy:=Or.inl ⟨by rfl,by rintro W' ⟨q0,q1⟩; go_simp⟩) (hS:=hS) (h:=?_)
   try simp only [Act.put,Ord.t,Ord.z,Ord.s]
   refine Ord.tk (i:=5) (v:=.pointer (some ⟨MB,0,none⟩)) (hy:=Or.inl ⟨by rfl,by rintro W' ⟨q0,q1⟩; go_simp⟩) (hS:=hS) (h:=?_)
   try simp only [Act.put,Ord.t,Ord.z,Ord.s]
   refine Ord.tk (i:=6) (v:=.pointer (some ⟨MB,0,none⟩)) (hy:=Or.inl ⟨by rfl,by rintro W' ⟨q0,q1⟩; go_simp⟩) (hS:=hS) (h:=?_)
   try simp only [Act.put,Ord.t,Ord.z,Ord.s]
   refine Ord.tk (i:=7) (v:=.slice pc nc cc) (hy:=Or.inl ⟨by rfl,by rintro W' ⟨q0,q1⟩; go_simp⟩) (hS:=hS) (h:=?_)
   try simp only [Act.put,Ord.t,Ord.z,Ord.s]
   refine Ord.tk (i:=8) (v:=.int .i64 (nc : Int)) (hy:=Or.inl ⟨by rfl,by rintro W' ⟨q0,q1⟩; go_simp⟩) (hS:=hS) (h:=?_)
   try simp only [Act.put,Ord.t,Ord.z,Ord.s]
   refine Ord.tk (i:=9) (v:=.bool qg) (hy:=Or.inl ⟨by rfl,by rintro W' ⟨q0,q1⟩; go_simp <;> exact HQg.out⟩) (hS:=hS) (h:=?_)
   try simp only [Act.put,Ord.t,Ord.z,Ord.s]
   refine Ord.wpM_done (by kernel_rfl) ?_ _
   refine NoPanic.normal ?_
   cases qg with
   | true =>
    have hge : nc ≤ at' := by have := of_decide_eq_true HQg.out; omega
    have hno : code[at']? = none := by rw [List.getElem?_eq_none_iff,HCn.out]; exact hge
    have HE : Hid (MRun code N at0 s0 MB PB AO (.slice pc nc cc) bl J w (.returned (.int .i64 8)) wd) := by
     have hI := HI.out
     have e : N - j = (N - j - 1) + 1 := by have := HJl.out.1; omega
     have ht := hI.tr
     rw [e,trM_none hno,List.append_nil] at ht
     dsimp only at ht
     refine ⟨by rw [ht],?_,Nat.le_trans hI.le HD.out.size,ps,?_,hI.bl⟩
     ·rw [ht]; exact ⟨BJ,HL.out.keep _ _ _ _ HJ.out (Fs.of_below HD.out)⟩
     ·rw [ht]; exact hI.ma.below HD.out
    clear hge hno HSS hS
    go_wp2
    go_ret
    exact HE.out
   | false =>
    have hlt : at' < nc := by have := of_decide_eq_false HQg.out; omega
    obtain ⟨i,hi⟩ : ∃ i,code[at']? = some i := ⟨_,List.getElem?_eq_getElem (by rw [HCn.out]; exact hlt)⟩
    have HIx := keep hi
    obtain ⟨g,o,rfl,hg,hat⟩ := HCq.out at' i hi
    have HGl := keep hg
    have HAt := keep hat
    have HFi := keep (HF.out i (List.mem_of_getElem? hi))
    have HLt : Hid (at' < nc ∧ nc ≤ 1000000) := ⟨hlt,HCb.out⟩
    obtain ⟨op,d,a,b,c,imm⟩ := i
    have a1 : (0 : Int) ≤ (at' : Int) := by omega
    have a2 : (at' : Int) < (nc : Int) := by omega
    have HS2 : Hid (∀ W',Below wd.heap.size wd W' → W'.cell? ⟨MB,0,none⟩ = some (.slice (some ⟨g,o,none⟩) nc cc) ∧ W'.cell? ⟨MB,4,none⟩ = some (.int .i64 (at' : Int)) ∧ W'.cell? ⟨g,o + at' * 6,none⟩ = some (.int .i64 op) ∧ W'.cell? ⟨g,o + at' * 6 + 1,none⟩ = some (.int .i64 d) ∧ W'.cell? ⟨g,o + at' * 6 + 2,none⟩ = some (.int .i64 a) ∧ W'.cell? ⟨g,o + at' * 6 + 3,none⟩ = some (.int .i64 b) ∧ W'.cell? ⟨g,o + at' * 6 + 4,none⟩ = some (.int .i64 c) ∧ W'.cell? ⟨g,o + at' * 6 + 5,none⟩ = some (.int .i64 imm)) := fun W' hW => by
     have hb := HD.out.trans (hW.mono HD.out.size)
     have u1 := (HI.out.ma.below hb).m
     have u2 := HAt.out.below hb HGl.out
     exact ⟨u1.cell 0 rfl,u1.cell 4 rfl,u2.c0,u2.c1,u2.c2,u2.c3,u2.c4,u2.c5⟩
    clear hi hg hat hlt HSS hS
    go_wp2_with fail
    refine wp_region_noPanic ?_
    refine Ord.wpM_begin (fun W' : World => W'.cell? ⟨MB,0,none⟩ = some (.slice (some ⟨g,o,none⟩) nc cc) ∧ W'.cell? ⟨MB,4,none⟩ = some (.int .i64 (at' : Int)) ∧ W'.cell? ⟨g,o + at' * 6,none⟩ = some (.int .i64 op) ∧ W'.cell? ⟨g,o + at' * 6 + 1,none⟩ = some (.int .i64 d) ∧ W'.cell? ⟨g,o + at' * 6 + 2,none⟩ = some (.int .i64 a) ∧ W'.cell? ⟨g,o + at' * 6 + 3,none⟩ = some (.int .i64 b) ∧ W'.cell? ⟨g,o + at' * 6 + 4,none⟩ = some (.int .i64 c) ∧ W'.cell? ⟨g,o + at' * 6 + 5,none⟩ = some (.int .i64 imm)) [0,1,2,3,4,5,6,7,8,9,10] (by kernel_rfl) ?_
    have HD2 : Hid (Below wd.heap.size wd wd.drew) := Below.drew (Below.refl _ _)
    generalize wd.drew = wd2 at *
    have hS := HS2.out wd2 HD2.out
    refine Ord.tk (i:=0) (v:=.pointer (some ⟨MB,0,none⟩)) (hy:=Or.inl ⟨by rfl,by rintro W' ⟨q0,q1,q2,q3,q4,q5,q6,q7⟩; go_simp⟩) (hS:=hS) (h:=?_)
    try simp only [Act.put,Ord.t,Ord.z,Ord.s]
    refine Ord.tk (i:=1) (v:=.pointer (some ⟨MB,0,none⟩)) (hy:=Or.inl ⟨by rfl,by rintro W' ⟨q0,q1,q2,q3,q4,q5,q6,q7⟩; go_simp⟩) (hS:=hS) (h:=?_)
    try simp only [Act.put,Ord.t,Ord.z,Ord.s]
    refine Ord.tk (i:=2) (v:=.pointer (some ⟨MB,0,none⟩)) (hy:=Or.inl ⟨by rfl,by rintro W' ⟨q0,q1,q2,q3,q4,q5,q6,q7⟩; go_simp⟩) (hS:=hS) (h:=?_)
    try simp only [Act.put,Ord.t,Ord.z,Ord.s]
    refine Ord.tk (i:=3) (v:=.slice (some ⟨g,o,none⟩) nc cc) (hy:=Or.inl ⟨by rfl,by rintro W' ⟨q0,q1,q2,q3,q4,q5,q6,q7⟩; go_simp⟩) (hS:=hS) (h:=?_)
    try simp only [Act.put,Ord.t,Ord.z,Ord.s]
    refine Ord.tk (i:=4) (v:=.pointer (some ⟨MB,0,none⟩)) (hy:=Or.inl ⟨by rfl,by rintro W' ⟨q0,q1,q2,q3,q4,q5,q6,q7⟩; go_simp⟩) (hS:=hS) (h:=?_)
    try simp only [Act.put,Ord.t,Ord.z,Ord.s]
    refine Ord.tk (i:=5) (v:=.pointer (some ⟨MB,0,none⟩)) (hy:=Or.inl ⟨by rfl,by rintro W' ⟨q0,q1,q2,q3,q4,q5,q6,q7⟩; go_simp⟩) (hS:=hS) (h:=?_)
    try simp only [Act.put,Ord.t,Ord.z,Ord.s]
    refine Ord.tk (i:=6) (v:=.pointer (some ⟨MB,4,none⟩)) (hy:=Or.inl ⟨by rfl,by rintro W' ⟨q0,q1,q2,q3,q4,q5,q6,q7⟩; go_simp⟩) (hS:=hS) (h:=?_)
    try simp only [Act.put,Ord.t,Ord.z,Ord.s]
    refine Ord.tk (i:=7) (v:=.int .i64 (at' : Int)) (hy:=Or.inl ⟨by rfl,by rintro W' ⟨q0,q1,q2,q3,q4,q5,q6,q7⟩; go_simp⟩) (hS:=hS) (h:=?_)
    try simp only [Act.put,Ord.t,Ord.z,Ord.s]
    refine Ord.tk (i:=8) (v:=.pointer (some ⟨g,o + at' * 6,none⟩)) (hy:=Or.inl ⟨by rfl,by rintro W' ⟨q0,q1,q2,q3,q4,q5,q6,q7⟩; go_simp⟩) (hS:=hS) (h:=?_)
    try simp only [Act.put,Ord.t,Ord.z,Ord.s]
    refine Ord.tk (i:=9) (v:=.agg #[.int .i64 op,.int .i64 d,.int .i64 a,.int .i64 b,.int .i64 c,.int .i64 imm]) (hy:=Or.inl ⟨by rfl,by rintro W' ⟨q0,q1,q2,q3,q4,q5,q6,q7⟩; go_simp⟩) (hS:=hS) (h:=?_)
    try simp only [Act.put,Ord.t,Ord.z,Ord.s]
    refine Ord.on (i:=10) (h:=fun K hK => ?_)
    go_simp
    obtain ⟨w3,hw3⟩ : ∃ y,wd2.alloc (.cells #[.int .i64 0,.int .i64 0,.int .i64 0,.int .i64 0,.int .i64 0,.int .i64 0] 35) = y := ⟨_,rfl⟩
    obtain ⟨IB,hIB⟩ : ∃ y,wd2.heap.size = y := ⟨_,rfl⟩
    have b3 : Below wd2.heap.size wd2 w3 := by rw [← hw3]; exact (Below.refl _ _).alloc (Nat.le_refl _) _
    have k3 : Bk w3 IB [.int .i64 0,.int .i64 0,.int .i64 0,.int .i64 0,.int .i64 0,.int .i64 0] 35 := by rw [← hw3,← hIB]; exact Bk.new _ _ _
    have HK3 := keep k3
    have HB3 := keep (HD2.out.trans (b3.mono HD2.out.size))
    have HIl : Hid (wd2.heap.size = IB) := hIB
    rw [hw3,hIB]
    clear hw3 hIB b3 k3
    refine hK.out _ _ (fun _ => HS2.out w3 HB3.out) ?_
    clear hK K
    try simp only [Act.put,Ord.t,Ord.z,Ord.s]
    obtain ⟨k4,k5⟩ := set_six HK3.out ⟨op,d,a,b,c,imm⟩
    have HK4 := keep k4
    have HF4 := keep k5
    clear k4 k5
    refine Ord.on (i:=11) (h:=fun K hK => ?_)
    refine step_store_mid rfl 35 (.tmp 7) (.tmp 30) rfl IB 0 #[.int .i64 op,.int .i64 d,.int .i64 a,.int .i64 b,.int .i64 c,.int .i64 imm] rfl rfl (six_there HK3.out) (by kernel_rfl) (by simp [Value.oneCell']) ?_
    refine hK.out _ _ (fun h => absurd h (by decide)) ?_
    clear hK K
    try simp only [Act.put,Ord.t,Ord.z,Ord.s]
    refine Ord.wpM_done (by kernel_rfl) ?_ _
    refine NoPanic.normal ?_
    obtain ⟨w5,hw5⟩ : ∃ y,w3.setCells IB 0 [.int .i64 op,.int .i64 d,.int .i64 a,.int .i64 b,.int .i64 c,.int .i64 imm] = y := ⟨_,rfl⟩
    have HK5 : Hid (Bk w5 IB [.int .i64 op,.int .i64 d,.int .i64 a,.int .i64 b,.int .i64 c,.int .i64 imm] 35) := by show Bk _ _ _ _; rw [← hw5]; exact HK4.out
    have HB5 : Hid (Below wr.heap.size wr w5) := by
     have h1 := HD.out.trans (HB3.out.mono HD.out.size)
     have h2 : Fs [IB] w3 w5 := by rw [← hw5]; exact HF4.out
     exact h1.trans (h2.below h1.size (fun k hk => by simp at hk; have := HIl.out; have := HD.out.size; have := HD2.out.size; omega))
    rw [hw5]
    have HIb : Hid (wr.heap.size ≤ IB) := by have h1 := HIl.out; have h2 := HD.out.size; have h3 := HD2.out.size; show _ ≤ _; omega
    clear hw5 hS HS2
    have HLk := keep (HL.out.look hs BJ w5 at' ⟨op,d,a,b,c,imm⟩ s ps (HL.out.keep _ _ _ _ HJ.out (Fs.of_below HB5.out)) (Nat.le_trans HBJ.out HB5.out.size) (HI.out.ma.below HB5.out) HI.out.bl HIx.out (by have h1 := HI.out.len; have h2 := HJl.out; omega))
    unfold ixA at HLk
    dsimp only at HLk
    have hEn := HEn.out
    have z0 := HK5.out.cell 0 rfl
    have z1 := HK5.out.cell 1 rfl
    have z2 := HK5.out.cell 2 rfl
    have z3 := HK5.out.cell 3 rfl
    have z4 := HK5.out.cell 4 rfl
    have z5 := HK5.out.cell 5 rfl
    go_wp2_with fail
    refine HLk.out.mono ?_
    rintro r w6 ⟨rfl,hj6,hm6,hs6,hf6⟩
    have HJ6 := keep hj6
    have HM6 := keep hm6
    have HS6 := keep hs6
    have HK6 : Hid (Bk w6 IB [.int .i64 op,.int .i64 d,.int .i64 a,.int .i64 b,.int .i64 c,.int .i64 imm] 35) := by
     have h1 := HK5.out
     have h2 := HIb.out
     have h3 := HBJ.out
     show Bk _ _ _ _
     unfold Bk at h1 ⊢
     rw [hf6 IB (by omega) HK5.out.lt]; exact h1
    clear hj6 hm6 hs6 hf6 z0 z1 z2 z3 z4 z5 HLk hEn
    have z0 := HK6.out.cell 0 rfl
    have z1 := HK6.out.cell 1 rfl
    have z2 := HK6.out.cell 2 rfl
    have z3 := HK6.out.cell 3 rfl
    have z4 := HK6.out.cell 4 rfl
    have z5 := HK6.out.cell 5 rfl
    have HTr : Hid (trM code N at0 s0 = ⟨hs ++ (trM code (N - j - 1 + 1) at' s).l,(trM code (N - j - 1 + 1) at' s).e,(trM code (N - j - 1 + 1) at' s).at',(trM code (N - j - 1 + 1) at' s).s⟩) := by
     have h1 := HI.out.tr
     have h2 := HJl.out.1
     rw [show N - j = N - j - 1 + 1 by omega] at h1
     exact h1
    by_cases ho : op = 20 ∨ op = 21
    ·have HE : Hid (∀ W,Below w6.heap.size w6 W → MRun code N at0 s0 MB PB AO (.slice (some ⟨g,o,none⟩) nc cc) bl J w (.returned (.int .i64 0)) W) := fun W hW => by
      have ht := HTr.out
      rw [trM_end HIx.out ho] at ht
      dsimp only at ht
      refine ⟨by rw [ht],?_,?_,ps,?_,HI.out.bl⟩
      ·rw [ht]; exact ⟨_,HL.out.keep _ _ _ _ HJ6.out (Fs.of_below hW)⟩
      ·have h1 := HI.out.le; have h2 := HB5.out.size; have h3 := HS6.out; have h4 := hW.size; omega
      ·rw [ht]; exact HM6.out.below hW
     rcases ho with rfl | rfl
     ·go_wp2
      go_ret
      exact HE.out _ (Below.refl _ _)
     ·go_wp2
      go_ret
      exact HE.out _ (Below.refl _ _)
    ·have k20 : (op == 20) = false := by have : op ≠ 20 := fun e => ho (.inl e); simpa using this
     have k21 : (op == 21) = false := by have : op ≠ 21 := fun e => ho (.inr e); simpa using this
     have hpl : ps.length = bl.length := by rw [← HI.out.bl,List.length_map]
     have HDo := keep (do_any MB PB AO (.slice (some ⟨g,o,none⟩) nc cc) s ps ⟨op,d,a,b,c,imm⟩ at' w6 HM6.out (by rw [hpl]; exact HI.out.gd) (by rw [hpl]; exact HFi.out) (fun e => ho (.inl e)) (fun e => ho (.inr e)) (by have := HLt.out; omega))
     have HOn := keep ho
     unfold ixA at HDo
     dsimp only at HDo
     clear hpl ho
     go_wp2_with fail
     refine HDo.out.mono ?_
     rintro r w7 ⟨rfl,ps',hma,hfst,hfs⟩
     have HInv : Hid (MLoop code N at0 s0 MB PB AO (.slice (some ⟨g,o,none⟩) nc cc) bl J w (j + 1) (nx ⟨op,d,a,b,c,imm⟩ at' s.P) (doM ⟨op,d,a,b,c,imm⟩ s) ps' (hs ++ [(at',⟨op,d,a,b,c,imm⟩,s)]) w7) := by
      have ht := HTr.out
      rw [trM_on HIx.out HOn.out] at ht
      dsimp only at ht
      have e1 : N - (j + 1) = N - j - 1 := by omega
      refine ⟨?_,by rw [List.length_append,HI.out.len]; rfl,⟨_,HL.out.keep _ _ _ _ HJ6.out (by rw [HI.out.bl] at hfs; exact hfs),hfs.size⟩,hma,doM_good HFi.out HI.out.gd,by rw [hfst]; exact HI.out.bl,?_,?_⟩
      ·rw [e1,ht,List.append_assoc]; rfl
      ·have h1 := HI.out.le; have h2 := HB5.out.size; have h3 := HS6.out; have h4 := hfs.size; omega
      ·have h1 := HLt.out
       have h2 := HFi.out.imm0.1
       have h3 := HFi.out.imm0.2
       dsimp only at h2 h3
       unfold nx
       dsimp only
       split
       ·omega
       ·split <;> omega
     clear hma hfst hfs HDo
     have hN36 := HJl.out.2
     go_wp2
     go_roundw
     case rel => exact ⟨j + 1,_,_,_,_,by have := HJl.out.1; omega,by go_num,HInv.out⟩
     case measure => simp [intOf]; have := HJl.out.1; omega
  ·have d1 : decide ((j : Int) < most) = false := decide_eq_false hjl
   have HE : Hid (MRun code N at0 s0 MB PB AO cv bl J w (.returned (.int .i64 12)) wr) := by
    have hI := HI.out
    have e : N - j = 0 := by have := HNm.out; omega
    have ht := hI.tr
    rw [e,trM,List.append_nil] at ht
    dsimp only at ht
    exact ⟨by rw [ht],by rw [ht]; exact ⟨BJ,HJ.out⟩,hI.le,ps,by rw [ht]; exact hI.ma,hI.bl⟩
   clear hI hjl
   go_wp2
   go_ret
   exact HE.out
end Go.Proofs.Ytpnacanbknejiaa.Mh
