/- Laid together: LfBlock, LfChoice, LfLoop. -/
import Derived.Test.YtemdnmfldihalaaGreatDoorGr11
namespace Go.Proofs.YtemdnmfldihalaaGreatDoor.Lr
set_option maxHeartbeats 32000000
set_option maxRecDepth 100000
set_option linter.unusedVariables false
set_option linter.unusedSimpArgs false
open Go.ChangeShapes Go.WideShapes Go.ChangeAt Go.RowKit Lg
def actS (rs : List Vr) (m : Nat) (s : St) (mm : Mm) : Rs := evS rs m s ⟨mm.env,mm.arr,mm.work - 1⟩
theorem evS_act (rs : List Vr) (m : Nat) (s : St) (k : Mm) : evS rs m s k = actS rs m s ⟨k.env,k.arr,k.work + 1⟩ := rfl
def CkS (rs : List Vr) (m : Nat) (dark : Bool) (ns : List Nm) (s : St) (mm : Mm) : Prop := 1 ≤ mm.work ∧ ∃ ks ks',ks.ns = ns ∧ ks.work ≤ 300 ∧ ks.lets ≤ 24 ∧ stmtK rs m dark s ks = .ok ks' ∧ Sy ks ⟨mm.env,mm.arr,mm.work - 1⟩
def CkB (rs : List Vr) (m : Nat) (dark : Bool) (ns : List Nm) (l : List St) (mm : Mm) : Prop := ∃ ks ks',ks.ns = ns ∧ ks.work ≤ 300 ∧ ks.lets ≤ 24 ∧ stmtsK (stmtK rs m dark) l ks = .ok ks' ∧ Sy ks mm
def GoodL (t : Rt) (rs : List Vr) (m : Nat) (dark : Bool) (Ex : List Nat) (w1 : World) : Nat → List (List UInt8 × Nat) → List Nm → List St → List Value → List Nat → Nat → List (List UInt8 × Nat) → Prop
 | B,sc,ns,[],[],LL,hi,sc' => LL = [] ∧ sc' = sc ∧ B ≤ hi
 | B,sc,ns,s :: l,v :: vs,LL,hi,sc' => ∃ lo h Ls Lr sc1 ns1,(∀ ks ks1,ks.ns = ns → stmtK rs m dark s ks = .ok ks1 → ks1.ns = ns1) ∧ B ≤ lo ∧ lo ≤ h ∧ (∀ c ∈ Chg t sc [],c < lo) ∧ Apart t sc1 ∧ (∀ c ∈ sc1.map Prod.snd,c ∈ sc.map Prod.snd ∨ c ∈ Ls) ∧ (∃ ex,sc1 = sc ++ ex) ∧ GoodA t sc sc1 rs w1 lo h Ls Ex v (CkS rs m dark ns s) (actS rs m s) ∧ LL = Ls ++ Lr ∧ GoodL t rs m dark Ex w1 h sc1 ns1 l vs Lr hi sc'
 | _,_,_,_,_,_,_,_ => False
theorem GoodL.hi {t : Rt} {rs : List Vr} {m : Nat} {dark : Bool} {Ex : List Nat} {w1 : World} : ∀ {l : List St} {vs : List Value} {B : Nat} {sc : List (List UInt8 × Nat)} {ns : List Nm} {LL : List Nat} {hi : Nat} {sc' : List (List UInt8 × Nat)},GoodL t rs m dark Ex w1 B sc ns l vs LL hi sc' → B ≤ hi ∧ (∀ b ∈ LL,B ≤ b ∧ b < hi) ∧ vs.length = l.length
 | [],[],B,sc,ns,LL,hi,sc',h => by
  obtain ⟨rfl,rfl,h⟩ := h
  exact ⟨h,fun b hb => (by cases hb),rfl⟩
 | s :: l,v :: vs,B,sc,ns,LL,hi,sc',h => by
  obtain ⟨lo,k,Ls,Lr,sc1,ns1,hns1,h1,h2,h3,h4,h5,_,h6,rfl,h7⟩ := h
  obtain ⟨k1,k2,k3⟩ := h7.hi
  refine ⟨by omega,fun b hb => ?_,by simp [k3]⟩
  rcases List.mem_append.1 hb with hb | hb
  ·have := h6.1 b hb; omega
  ·have := k2 b hb; omega
theorem keep_rest {lo hi : Nat} {Ls Ex : List Nat} {w W W' : World} {C : List Nat} (h : KeepX lo hi Ls Ex w W) (hf : Fs C W W') (hC : ∀ c ∈ C,c < lo) (hhi : hi ≤ W.heap.size) (hL : ∀ b ∈ Ls,lo ≤ b ∧ b < hi) : KeepX lo hi Ls Ex w W' :=
 ⟨fun i h1 h2 h3 h4 => (hf.block i (by omega) (fun hc => by have := hC i hc; omega)).trans (h.1 i h1 h2 h3 h4),fun b hb => by
  obtain ⟨n,hn⟩ := h.2 b hb
  exact ⟨n,hn.fs hf (fun hc => by have := hC b hc; have := hL b hb; omega)⟩⟩
theorem KeepX.sub {lo hi lo' hi' : Nat} {Ls Lr Ex : List Nat} {w W : World} (h : KeepX lo hi Ls Ex w W) (h1 : lo ≤ lo') (h2 : hi' ≤ hi) (hL : ∀ b ∈ Lr,b ∈ Ls) (hx : ∀ b ∈ Ls,lo' ≤ b → b < hi' → b ∈ Lr) : KeepX lo' hi' Lr Ex w W :=
 ⟨fun i a b c d => h.1 i (by omega) (by omega) (fun hi => c (hx i hi a b)) d,fun b hb => h.2 b (hL b hb)⟩
theorem EnvM.take {W : World} : ∀ {sc ex : List (List UInt8 × Nat)} {env : Env},EnvM W (sc ++ ex) env → EnvM W sc (env.take sc.length)
 | [],ex,env,_ => by simp [EnvM]
 | p :: sc,ex,q :: env,⟨h1,h2,h3⟩ => ⟨h1,h2,EnvM.take h3⟩
theorem chg_more {t : Rt} {sc : List (List UInt8 × Nat)} {L L' : List Nat} (h : ∀ b ∈ L,b ∈ L') : ∀ c ∈ Chg t sc L,c ∈ Chg t sc L' := by
 intro c hc
 simp only [Chg,List.mem_cons,List.mem_append] at hc ⊢
 rcases hc with hc | (hc | hc) | hc
 ·exact .inl hc
 ·exact .inr (.inl (.inl hc))
 ·exact .inr (.inl (.inr hc))
 ·exact .inr (.inr (h c hc))
theorem GoodL.ext {t : Rt} {rs : List Vr} {m : Nat} {dark : Bool} {Ex : List Nat} {w1 : World} : ∀ {l : List St} {vs : List Value} {B : Nat} {sc : List (List UInt8 × Nat)} {ns : List Nm} {LL : List Nat} {hi : Nat} {sc' : List (List UInt8 × Nat)},GoodL t rs m dark Ex w1 B sc ns l vs LL hi sc' → ∃ ex,sc' = sc ++ ex
 | [],[],B,sc,ns,LL,hi,sc',h => by
  obtain ⟨_,rfl,_⟩ := h
  exact ⟨[],by simp⟩
 | s :: l,v :: vs,B,sc,ns,LL,hi,sc',h => by
  obtain ⟨lo,k,Ls,Lr,sc1,ns1,hns1,h1,h2,h3,h4,h5,⟨ex,rfl⟩,h6,rfl,h7⟩ := h
  obtain ⟨ex2,e⟩ := h7.ext
  exact ⟨ex ++ ex2,by rw [e,List.append_assoc]⟩
theorem EnvM.len {W : World} : ∀ {sc : List (List UInt8 × Nat)} {env : Env},EnvM W sc env → env.length = sc.length
 | [],[],_ => rfl
 | p :: sc,q :: env,⟨_,_,h⟩ => congrArg (· + 1) h.len
structure Go1 (t : Rt) (rs : List Vr) (m : Nat) (dark : Bool) (Ex : List Nat) (w1 : World) (sc sc' : List (List UInt8 × Nat)) (LL : List Nat) (hi B : Nat) (ks' : Ks) (tot : Rs) (l : List St) (vs : List Value) (wr : World) (scj : List (List UInt8 × Nat)) (mmj : Mm) (ksj : Ks) (LLj : List Nat) (Bj : Nat) (nsj : List Nm) : Prop where
 hns : ksj.ns = nsj
 ev : tot = evL (evS rs m) l mmj
 rm : RM t scj wr mmj.env mmj.arr (on mmj.work)
 gm : GM rs mmj
 sy : Sy ksj mmj
 k1 : ksj.work ≤ 300
 k2 : ksj.lets ≤ 24
 ck : stmtsK (stmtK rs m dark) l ksj = .ok ks'
 good : GoodL t rs m dark Ex w1 Bj scj nsj l vs LLj hi sc'
 ap : Apart t scj
 hB : B ≤ Bj
 kx : KeepX Bj hi LLj Ex w1 wr
 sub : ∀ b ∈ LLj,b ∈ LL
 chg : ∀ c ∈ Chg t scj [],c ∈ Chg t sc LL
 pre : ∀ b ∈ sc.map Prod.snd,b ∈ scj.map Prod.snd
def Now (t : Rt) (rs : List Vr) (m : Nat) (dark : Bool) (Ex : List Nat) (w1 : World) (sc sc' : List (List UInt8 × Nat)) (LL : List Nat) (hi B : Nat) (ks' : Ks) (tot : Rs) (l : List St) (vs : List Value) (wr : World) : Prop :=
 (∃ scj mmj ksj LLj Bj nsj,Go1 t rs m dark Ex w1 sc sc' LL hi B ks' tot l vs wr scj mmj ksj LLj Bj nsj) ∨ ∃ tr wd a n,tot = .over tr wd a n ∧ RunIs t wr a ⟨wd,tr,true,(n : Int),0⟩
theorem Go1.step {t : Rt} {rs : List Vr} {m : Nat} {dark : Bool} {Ex : List Nat} {w1 : World} {sc sc' : List (List UInt8 × Nat)} {LL : List Nat} {hi B : Nat} {ks' : Ks} {tot : Rs} {s : St} {l : List St} {v : Value} {vs : List Value} {wr : World} {scj : List (List UInt8 × Nat)} {mmj : Mm} {ksj : Ks} {LLj : List Nat} {Bj : Nat} {nsj : List Nm} (h : Go1 t rs m dark Ex w1 sc sc' LL hi B ks' tot (s :: l) (v :: vs) wr scj mmj ksj LLj Bj nsj) (hwf : wfS m s) (hhi : hi ≤ wr.heap.size) (hLL : ∀ b ∈ LL,IntAt wr b) (hlow : ∀ c ∈ t.R :: t.ab,c < B) (hup : ∀ b ∈ LL,B ≤ b) :
  mmj.work + 1 ≤ 300 ∧ ∃ k d,Fv v k d ∧ ∀ w2,Fs [t.R] wr w2 → Bk w2 t.R [.int .i64 0,.bool false,.slice (some ⟨t.AO,0,none⟩) mmj.arr.length mmj.arr.length,.bool false,.int .i64 ((mmj.work + 1 : Nat) : Int),.int .i64 0] 74 → Calls Tryz.prog k d w2 fun r w3 => r = .returned (.tuple #[]) ∧ Fs (Chg t sc LL) wr w3 ∧ (∀ b ∈ sc.map Prod.snd ++ LL,IntAt w3 b) ∧ Now t rs m dark Ex w1 sc sc' LL hi B ks' tot l vs w3 := by
 obtain ⟨lo,k,Ls,Lr,sc1,ns1,hns1,g1,g2,g3,g4,g5,gex,g6,rfl,g7⟩ := h.good
 obtain ⟨gl,k0,d0,hv,hc⟩ := g6
 have hck := h.ck
 rw [stmtsK] at hck
 obtain ⟨ks1,hk1,hck⟩ := thenK_inv hck
 obtain ⟨hgd,hsy⟩ := evS_sync m s hwf dark ksj ks1 h.k1 h.k2 hk1
 have hwk : mmj.work + 1 ≤ 300 := by
  cases m with
  | zero => exact hwf.elim
  | succ m =>
   rw [stmtK] at hk1
   split at hk1
   ·cases hk1
   ·have := h.sy.2; omega
 have hR : t.R < lo := g3 t.R (by simp [Chg])
 obtain ⟨q1,q2,q3⟩ := g7.hi
 refine ⟨hwk,k0,d0,hv,fun w2 hf hb => ?_⟩
 have hkx : KeepX lo k Ls Ex w1 w2 := keep_rest (h.kx.sub g1 (by omega) (fun b hb => by simp [hb]) (fun b hb h1 h2 => by
  rcases List.mem_append.1 hb with hb | hb
  ·exact hb
  ·have := q2 b hb; omega)) hf (by simp; omega) (by omega) gl
 have hrm : RM t scj w2 mmj.env mmj.arr (on (mmj.work + 1)) := h.rm.turn (s' := on (mmj.work + 1)) h.ap hf hb
 refine (hc w2 hkx (by have := hf.size; omega) ⟨mmj.env,mmj.arr,mmj.work + 1⟩ hrm h.gm.env h.gm.arr ⟨Nat.succ_le_succ (Nat.zero_le _),ksj,ks1,h.hns,h.k1,h.k2,hk1,h.sy⟩).mono ?_
 rintro r w3 ⟨rfl,hf3,hi3,hr3⟩
 have hsub : ∀ c ∈ Chg t scj Ls,c ∈ Chg t sc LL := by
  intro c hc
  simp only [Chg,List.mem_cons,List.mem_append] at hc
  rcases hc with hc | (hc | hc) | hc
  ·exact h.chg c (by simp [Chg,hc])
  ·exact h.chg c (by simp [Chg,hc])
  ·exact h.chg c (by simp only [Chg,List.mem_cons,List.mem_append]; exact .inr (.inl (.inr hc)))
  ·have := h.sub c (by simp [hc])
   simp [Chg,this]
 have hff : Fs (Chg t sc LL) wr w3 := (hf.mono (by simp [Chg])).trans (hf3.mono hsub)
 refine ⟨rfl,hff,fun b hb => (List.mem_append.1 hb).elim (fun hb => hi3 b (List.mem_append.2 (.inl (h.pre b hb)))) (fun hb => ?_),?_⟩
 ·by_cases hin : b ∈ scj.map Prod.snd ++ Ls
  ·exact hi3 b hin
  ·obtain ⟨n,hn⟩ := hLL b hb
   have hb1 := hup b hb
   refine ⟨n,(hn.fs hf ?_).fs hf3 ?_⟩
   ·have := hlow t.R (by simp)
    simp; omega
   ·intro hc
    simp only [Chg,List.mem_cons,List.mem_append] at hc
    rcases hc with hc | (hc | hc) | hc
    ·have := hlow t.R (by simp); omega
    ·have := hlow b (by simp [hc]); omega
    ·exact hin (List.mem_append.2 (.inl hc))
    ·exact hin (List.mem_append.2 (.inr hc))
 ·have hev := h.ev
  rw [evL,evS_act] at hev
  have hsy1 := hsy mmj h.sy
  have hgm1 := evS_good m s hwf mmj h.gm
  rw [evS_act] at hsy1 hgm1
  cases hres : actS rs m s ⟨mmj.env,mmj.arr,mmj.work + 1⟩ with
  | over tr wd a n =>
   rw [hres] at hev hr3
   exact .inr ⟨tr,wd,a,n,hev,hr3⟩
  | go k1 =>
   rw [hres] at hev hr3 hsy1 hgm1
   refine .inl ⟨sc1,k1,ks1,Lr,k,ns1,hns1 ksj ks1 h.hns hk1,hev,hr3,hgm1,hsy1,hgd.most,hgd.lets,hck,g7,g4,by have := h.hB; omega,?_,fun b hb => h.sub b (by simp [hb]),fun c hc => ?_,?_⟩
   ·have hkr : KeepX k hi Lr Ex w1 wr := h.kx.sub (by omega) (Nat.le_refl _) (fun b hb => by simp [hb]) (fun b hb h1 h2 => by
     rcases List.mem_append.1 hb with hb | hb
     ·have := gl b hb; omega
     ·exact hb)
    have hkr2 := keep_rest hkr hf (by simp; omega) hhi q2
    refine keep_rest hkr2 hf3 (fun c hc => ?_) (by have := hf.size; omega) q2
    simp only [Chg,List.mem_cons,List.mem_append] at hc
    rcases hc with hc | (hc | hc) | hc
    ·omega
    ·have := g3 c (by simp [Chg,hc]); omega
    ·have := g3 c (by simp only [Chg,List.mem_cons,List.mem_append]; exact .inr (.inl (.inr hc))); omega
    ·have := gl c hc; omega
   ·simp only [Chg,List.mem_cons,List.mem_append] at hc
    rcases hc with hc | (hc | hc) | hc
    ·exact h.chg c (by simp [Chg,hc])
    ·exact h.chg c (by simp [Chg,hc])
    ·rcases g5 c hc with hc | hc
     ·exact h.chg c (by simp only [Chg,List.mem_cons,List.mem_append]; exact .inr (.inl (.inr hc)))
     ·have := h.sub c (by simp [hc])
      simp [Chg,this]
    ·cases hc
   ·obtain ⟨ex,rfl⟩ := gex
    rw [List.map_append]
    exact fun b hb => List.mem_append.2 (.inl (h.pre b hb))
theorem GoodL.funcs {t : Rt} {rs : List Vr} {m : Nat} {dark : Bool} {Ex : List Nat} {w1 : World} : ∀ {l : List St} {vs : List Value} {B : Nat} {sc : List (List UInt8 × Nat)} {ns : List Nm} {LL : List Nat} {hi : Nat} {sc' : List (List UInt8 × Nat)},GoodL t rs m dark Ex w1 B sc ns l vs LL hi sc' → ∀ v ∈ vs,∃ k d,v = .func (.func k) #[] d
 | [],[],B,sc,ns,LL,hi,sc',h,v,hv => by cases hv
 | s :: l,v :: vs,B,sc,ns,LL,hi,sc',h,u,hu => by
  obtain ⟨lo,k,Ls,Lr,sc1,ns1,hns1,h1,h2,h3,h4,h5,_,h6,rfl,h7⟩ := h
  rcases List.mem_cons.1 hu with rfl | hu
  ·obtain ⟨_,k,d,hv,_⟩ := h6
   exact ⟨k,d,hv.1⟩
  ·exact h7.funcs u hu
theorem drop_cons {α : Type} {l : List α} {j : Nat} {a : α} (h : l[j]? = some a) : l.drop j = a :: l.drop (j + 1) := by
 obtain ⟨hj,rfl⟩ := List.getElem?_eq_some_iff.1 h
 exact List.drop_eq_getElem_cons hj
theorem block_val (t : Rt) (rs : List Vr) (m : Nat) (dark : Bool) (l : List St) (vs : List Value) (LL Ex : List Nat) (sc sc' : List (List UInt8 × Nat)) (w1 : World) (lo hi B bA bM gA : Nat) (hwf : ∀ s ∈ l,wfS m s) (hA : Apart t sc) (hlow : ∀ c ∈ Chg t sc [],c < lo) (hloB : lo ≤ B) (hbA : lo ≤ bA ∧ bA < B ∧ bA ∉ Ex) (hbM : lo ≤ bM ∧ bM < B ∧ bM ∉ Ex) (hgA : lo ≤ gA ∧ gA < B ∧ gA ∉ Ex) (ns : List Nm) (hG : GoodL t rs m dark Ex w1 B sc ns l vs LL hi sc')
  (hcA : w1.cell? ⟨bA,0,none⟩ = some (.slice (some ⟨gA,0,none⟩) l.length l.length)) (hrow : ∀ j v,vs[j]? = some v → w1.cell? ⟨gA,j,none⟩ = some v) (hcM : w1.cell? ⟨bM,0,none⟩ = some (.pointer (some ⟨t.M,0,none⟩))) (hlen : l.length ≤ 1000000)
  (W : World) (hKp : KeepX lo hi LL Ex w1 W) (hWh : hi ≤ W.heap.size) (mm : Mm) (hM : RM t sc W mm.env mm.arr (on mm.work)) (hGM : GM rs mm) (hCk : CkB rs m dark ns l mm) :
  Calls Tryz.prog 53 #[.pointer (some ⟨bA,0,none⟩),.pointer (some ⟨bM,0,none⟩)] W fun r W' => StP t sc sc LL W (evB (evS rs m) l mm) r W' := by
 obtain ⟨ks,ks',hns0,hk1,hk2,hck,hSy⟩ := hCk
 obtain ⟨q1,q2,q3⟩ := hG.hi
 have hnot : ∀ b,lo ≤ b → b < B → b ∉ Chg t sc LL := fun b h1 h2 hc => by
  simp only [Chg,List.mem_cons,List.mem_append] at hc
  rcases hc with hc | (hc | hc) | hc
  ·have := hlow b (by simp [Chg,hc]); omega
  ·have := hlow b (by simp [Chg,hc]); omega
  ·have := hlow b (by simp only [Chg,List.mem_cons,List.mem_append]; exact .inr (.inl (.inr hc))); omega
  ·have := q2 b hc; omega
 have hcell : ∀ b o v,lo ≤ b ∧ b < B ∧ b ∉ Ex → w1.cell? ⟨b,o,none⟩ = some v → ∀ W',Fs (Chg t sc LL) W W' → W'.cell? ⟨b,o,none⟩ = some v := fun b o v ⟨h1,h2,hx⟩ h3 W' hf => cell_fsl hf (by rw [World.cell?_of_block (hKp.1 b h1 (by omega) (fun hc => by have := q2 b hc; omega) hx)]; exact h3) (hnot b h1 h2)
 have HCA := keep (hcell bA 0 _ hbA hcA)
 have HCM := keep (hcell bM 0 _ hbM hcM)
 have HRow : Hid (∀ j v,vs[j]? = some v → ∀ W',Fs (Chg t sc LL) W W' → W'.cell? ⟨gA,j,none⟩ = some v) := fun j v hj => hcell gA j v hgA (hrow j v hj)
 have cA := HCA.out W (Fs.refl _ _)
 obtain ⟨tot,htot⟩ : ∃ r,evL (evS rs m) l mm = r := ⟨_,rfl⟩
 have HTot := keep htot
 have HNow : Hid (Now t rs m dark Ex w1 sc sc' LL hi B ks' tot (l.drop 0) (vs.drop 0) W) := .inl ⟨sc,mm,ks,LL,B,ns,hns0,by rw [List.drop_zero]; exact htot.symm,hM,hGM,hSy,hk1,hk2,by rw [List.drop_zero]; exact hck,by rw [List.drop_zero,List.drop_zero]; exact hG,hA,Nat.le_refl _,hKp.sub hloB (Nat.le_refl _) (fun b h => h) (fun b h _ _ => h),fun b h => h,chg_more (fun b h => by cases h),fun b h => h⟩
 have HInts : Hid (∀ b ∈ sc.map Prod.snd ++ LL,IntAt W b) := fun b hb => (List.mem_append.1 hb).elim (fun hb => hM.env.ints b hb) (fun hb => hKp.2 b hb)
 have HWf := keep hwf
 have HVl := keep q3
 have HExt := keep hG.ext
 have HFun := keep hG.funcs
 have HUp : Hid (∀ b ∈ LL,B ≤ b) := fun b hb => (q2 b hb).1
 have HLow : Hid (∀ c ∈ t.R :: t.ab,c < B) := fun c hc => by
  have : c ∈ Chg t sc [] := by
   simp only [Chg,List.mem_cons,List.mem_append] at hc ⊢
   rcases hc with hc | hc
   ·exact .inl hc
   ·exact .inr (.inl (.inl hc))
  have := hlow c this; omega
 have HLen := keep hM.env.len
 clear hnot hcell hcA hrow hcM hKp hM hGM hSy hck hG hwf hlow htot hA q2 q3
 obtain ⟨n,hn⟩ : ∃ n,l.length = n := ⟨_,rfl⟩
 have HN := keep hn
 rw [hn] at cA hlen
 go_enter Tryz.func53,Tryz.ntmps53
 go_wp2
 go_loopw [6] (fun i wx => ∃ j : Nat,j ≤ n ∧ i = .int .i64 (j : Int) ∧ Fs (Chg t sc LL) W wx ∧ (∀ b ∈ sc.map Prod.snd ++ LL,IntAt wx b) ∧ Now t rs m dark Ex w1 sc sc' LL hi B ks' tot (l.drop j) (vs.drop j) wx) (fun i _ => n - (intOf i).toNat)
 case atStart => exact ⟨0,by omega,rfl,Fs.refl _ _,HInts.out,HNow.out⟩
 case round =>
  obtain ⟨j,hjn,rfl,hfs,hints,hnow⟩ := hrel
  have HF := keep hfs
  have HI := keep hints
  have HNw := keep hnow
  clear hfs hints hnow HNow HInts cA
  by_cases hjl : j < n
  ·have d1 : decide ((j : Int) < (n : Int)) = true := decide_eq_true (by omega)
   have hjz : (j : Int) < (n : Int) := by omega
   have hj0 : (0 : Int) ≤ (j : Int) := by omega
   have hwr : IntKind.i64.wrap ((j : Int) + 1) = (j : Int) + 1 := by rw [IntKind.wrap_i64]; omega
   obtain ⟨s,hs⟩ : ∃ s,l[j]? = some s := ⟨_,List.getElem?_eq_getElem (by rw [HN.out]; exact hjl)⟩
   obtain ⟨v,hv⟩ : ∃ v,vs[j]? = some v := ⟨_,List.getElem?_eq_getElem (by rw [HVl.out,HN.out]; exact hjl)⟩
   have zM := HCM.out wr HF.out
   have zv := HRow.out j v hv wr HF.out
   have HS := keep hs
   have HV := keep hv
   clear hs hv
   rcases HNw.out with ⟨scj,mmj,ksj,LLj,Bj,nsj,hgo⟩ | ⟨tr,wd,a,n0,htot,hrun⟩
   ·rw [drop_cons HS.out,drop_cons HV.out] at hgo
    obtain ⟨hw,k,d,⟨rfl,eg⟩,hc⟩ := hgo.step (HWf.out s (List.mem_of_getElem? HS.out)) (by have := HF.out.size; omega) (fun b hb => HI.out b (List.mem_append.2 (.inr hb))) HLow.out HUp.out
    have zR := hgo.rm.mkr
    have HMay := keep (mayDo_yes t.R _ _ _ mmj.work hw _ wr hgo.rm.run)
    have HC := keep hc
    clear hgo hc HNw
    go_wp2_with fail
    refine HMay.out.mono ?_
    rintro r w2 ⟨rfl,hb2,hf2⟩
    have HC2 := keep (HC.out w2 hf2 hb2)
    clear HC HMay hb2 hf2
    go_wp2_with fail
    refine HC2.out.mono ?_
    rintro r w3 ⟨rfl,hf3,hi3,hn3⟩
    have HF3 := keep (HF.out.trans hf3)
    have HI3 := keep hi3
    have HN3 := keep hn3
    clear HC2 hf3 hi3 hn3
    go_wp2
    go_roundw
    case rel => exact ⟨j + 1,by omega,by go_num,HF3.out,HI3.out,HN3.out⟩
    case measure => simp [intOf]; omega
   ·have zR := hrun.mkr
    have HMay := keep (mayDo_no t.R _ _ _ _ _ wr hrun.run)
    have HE : Hid (StP t sc sc LL W (evB (evS rs m) l mm) (.returned (.tuple #[])) wr) := by
     refine ⟨rfl,HF.out,HI.out,?_⟩
     unfold evB
     rw [HTot.out,htot]
     exact hrun
    obtain ⟨k,d,rfl⟩ := HFun.out v (List.mem_of_getElem? HV.out)
    clear hrun htot HNw
    go_wp2_with fail
    refine HMay.out.mono ?_
    rintro r w2 ⟨rfl,rfl⟩
    clear HMay
    go_wp2
    go_end0
    exact HE.out
  ·have hje : j = n := by omega
   subst hje
   have dl : decide ((j : Int) < (j : Int)) = false := decide_eq_false (by omega)
   have HE : Hid (StP t sc sc LL W (evB (evS rs m) l mm) (.returned (.tuple #[])) wr) := by
    refine ⟨rfl,HF.out,HI.out,?_⟩
    unfold evB
    rw [HTot.out]
    rcases HNw.out with ⟨scj,mmj,ksj,LLj,Bj,nsj,hgo⟩ | ⟨tr,wd,a,n0,htot,hrun⟩
    ·have he := hgo.ev
     rw [List.drop_of_length_le (by rw [HN.out]; exact Nat.le_refl _)] at he
     have hg := hgo.good
     rw [List.drop_of_length_le (by rw [HN.out]; exact Nat.le_refl _),List.drop_of_length_le (by rw [HVl.out,HN.out]; exact Nat.le_refl _)] at hg
     obtain ⟨_,e2,_⟩ := hg
     obtain ⟨ex,e3⟩ := HExt.out
     rw [he]
     have hrm := hgo.rm
     rw [← e2,e3] at hrm
     have hl := HLen.out
     show RM t sc wr (mmj.env.take mm.env.length) mmj.arr (on mmj.work)
     rw [hl]
     exact ⟨hrm.mkr,hrm.run,hrm.arr,hrm.env.take⟩
    ·rw [htot]; exact hrun
   clear hjl HNw
   go_wp2
   go_end0
   exact HE.out
theorem StP.wide {t : Rt} {sc sc' : List (List UInt8 × Nat)} {L L2 : List Nat} {W : World} {res : Rs} {r : Ending} {W' : World} (h : StP t sc sc' L W res r W') (h1 : ∀ b ∈ L,b ∈ L2) (h2 : ∀ b ∈ L2,b ∈ L ∨ (IntAt W b ∧ b ∉ Chg t sc L)) : StP t sc sc' L2 W res r W' := by
 obtain ⟨e,hf,hi,hr⟩ := h
 refine ⟨e,hf.mono (chg_more h1),fun b hb => ?_,hr⟩
 rcases List.mem_append.1 hb with hb | hb
 ·exact hi b (List.mem_append.2 (.inl hb))
 ·rcases h2 b hb with h3 | ⟨⟨n,h3⟩,h4⟩
  ·exact hi b (List.mem_append.2 (.inr h3))
  ·exact ⟨n,h3.fs hf h4⟩
theorem choice_then (t : Rt) (rs : List Vr) (sc : List (List UInt8 × Nat)) (w1 : World) (ly hy ln hn : Nat) (Ly Ln Ex : List Nat) (vy vn : Value) (Cy Cn : Mm → Prop) (fy fn : Mm → Rs) (by' bn : Nat) (Gy : GoodA t sc sc rs w1 ly hy Ly Ex vy Cy fy) (Gn : GoodA t sc sc rs w1 ln hn Ln Ex vn Cn fn) (hyn : hy ≤ ln) (hlow : ∀ c ∈ Chg t sc [],c < ly)
  (mm : Mm) (n : Int) (W : World) (hM : RM t sc W mm.env mm.arr (on mm.work)) (hGM : GM rs mm) (hCy : Cy mm) (hCn : Cn mm) (hKy : KeepX ly hy Ly Ex w1 W) (hKn : KeepX ln hn Ln Ex w1 W) (hW : hy ≤ W.heap.size) (hW2 : hn ≤ W.heap.size) (hly : ly ≤ hy) (hcy : W.cell? ⟨by',0,none⟩ = some vy) (hcn : W.cell? ⟨bn,0,none⟩ = some vn) :
  Calls Tryz.prog 83 (#[] ++ #[.int .i64 n] ++ #[.pointer (some ⟨by',0,none⟩),.pointer (some ⟨bn,0,none⟩)]) W fun r W' => StP t sc sc (Ly ++ Ln) W (if n = 0 then fn mm else fy mm) r W' := by
 obtain ⟨gy,ky,dy,⟨rfl,egy⟩,cy⟩ := Gy
 obtain ⟨gn,kn,dn,⟨rfl,egn⟩,cn⟩ := Gn
 have hsc : ∀ c ∈ Chg t sc [],∀ L : List Nat,c ∈ L → ly ≤ c → False := fun c hc L _ h => by have := hlow c hc; omega
 have hchg : ∀ L b,ly ≤ b → b ∉ L → b ∉ Chg t sc L := fun L b h1 h2 hc => by
  simp only [Chg,List.mem_cons,List.mem_append] at hc
  rcases hc with hc | (hc | hc) | hc
  ·have := hlow b (by simp [Chg,hc]); omega
  ·have := hlow b (by simp [Chg,hc]); omega
  ·have := hlow b (by simp only [Chg,List.mem_cons,List.mem_append]; exact .inr (.inl (.inr hc))); omega
  ·exact h2 hc
 have HY := keep (cy W hKy hW mm hM hGM.env hGM.arr hCy)
 have HN := keep (cn W hKn hW2 mm hM hGM.env hGM.arr hCn)
 have HWy : Hid (∀ res r W',StP t sc sc Ly W res r W' → StP t sc sc (Ly ++ Ln) W res r W') := fun res r W' h => h.wide (fun b hb => by simp [hb]) (fun b hb => by
  rcases List.mem_append.1 hb with hb | hb
  ·exact .inl hb
  ·exact .inr ⟨hKn.2 b hb,hchg Ly b (by have := gn b hb; omega) (fun hc => by have := gn b hb; have := gy b hc; omega)⟩)
 have HWn : Hid (∀ res r W',StP t sc sc Ln W res r W' → StP t sc sc (Ly ++ Ln) W res r W') := fun res r W' h => h.wide (fun b hb => by simp [hb]) (fun b hb => by
  rcases List.mem_append.1 hb with hb | hb
  ·exact .inr ⟨hKy.2 b hb,hchg Ln b (by have := gy b hb; omega) (fun hc => by have := gy b hb; have := gn b hc; omega)⟩
  ·exact .inl hb)
 clear cy cn hM hGM hKy hKn hsc hchg hCy hCn
 show Calls Tryz.prog _ #[.int .i64 n,.pointer (some ⟨by',0,none⟩),.pointer (some ⟨bn,0,none⟩)] W _
 by_cases hz : n = 0
 ·have HZ := keep hz
  subst hz
  go_enter Tryz.func83,Tryz.ntmps83
  go_wp2_with fail
  refine HN.out.mono ?_
  intro r W' h
  have HE := keep (HWn.out _ r W' h)
  obtain ⟨rfl,_⟩ := h
  clear HN HY
  go_wp2
  go_end0
  first | exact HE.out | (rw [if_pos rfl]; exact HE.out)
 ·have d1 : (n != 0) = true := by simpa using hz
  have HZ := keep hz
  clear hz
  go_enter Tryz.func83,Tryz.ntmps83
  go_wp2_with fail
  refine HY.out.mono ?_
  intro r W' h
  have HE := keep (HWy.out _ r W' h)
  obtain ⟨rfl,_⟩ := h
  clear HN HY
  go_wp2
  go_end0
  all_goals first | exact HE.out | (rw [if_neg HZ.out]; exact HE.out) | exact absurd (by assumption) HZ.out
def roundR (rs : List Vr) (m : Nat) (x : List UInt8) (l : List St) (i : Int) (k : Mm) : Rs := cutR k.env.length (evB (evS rs m) l ⟨k.env ++ [(x,i)],k.arr,k.work⟩)
structure Go2 (t : Rt) (rs : List Vr) (m : Nat) (dark : Bool) (x : List UInt8) (l : List St) (w1 : World) (sc : List (List UInt8 × Nat)) (g lr hr : Nat) (Lr Ex : List Nat) (ns : List Nm) (tot : Rs) (n j : Nat) (wr : World) (mmj : Mm) (ksj ks' : Ks) : Prop where
 ev : tot = evR (roundR rs m x l) (n - j) (j : Int) mmj
 rm : RM t sc wr mmj.env mmj.arr (on mmj.work)
 gm : GM rs mmj
 nm : mmj.env.map Prod.fst = ns.map Nm.name
 wk : mmj.work ≤ ksj.work
 kn : ksj.ns = ns ++ [⟨x,false,true⟩]
 k1 : ksj.work ≤ 300
 k2 : ksj.lets ≤ 24
 ck : roundsK (blockK (stmtK rs m dark) l) (n - j) ksj = .ok ks'
 kx : KeepX lr hr Lr Ex w1 wr
 gi : IntAt wr g
def Now2 (t : Rt) (rs : List Vr) (m : Nat) (dark : Bool) (x : List UInt8) (l : List St) (w1 : World) (sc : List (List UInt8 × Nat)) (g lr hr : Nat) (Lr Ex : List Nat) (ns : List Nm) (tot : Rs) (n j : Nat) (wr : World) : Prop :=
 (∃ mmj ksj ks',Go2 t rs m dark x l w1 sc g lr hr Lr Ex ns tot n j wr mmj ksj ks') ∨ ∃ tr wd a k,tot = .over tr wd a k ∧ RunIs t wr a ⟨wd,tr,true,(k : Int),0⟩
theorem sep_low {t : Rt} {sc : List (List UInt8 × Nat)} {x : List UInt8} {g lr : Nat} (h : ∀ c ∈ Chg t (sc ++ [(x,g)]) [],c < lr) : g < lr ∧ t.R < lr ∧ ∀ c ∈ Chg t sc [],c < lr := by
 refine ⟨h g (by simp [Chg]),h t.R (by simp [Chg]),fun c hc => h c ?_⟩
 simp only [Chg,List.mem_cons,List.mem_append,List.map_append] at hc ⊢
 rcases hc with hc | (hc | hc) | hc
 ·exact .inl hc
 ·exact .inr (.inl (.inl hc))
 ·exact .inr (.inl (.inr (.inl hc)))
 ·exact .inr (.inr hc)
theorem keep_own {lo hi : Nat} {Ls Ex : List Nat} {w W W' : World} {C : List Nat} (h : KeepX lo hi Ls Ex w W) (hf : Fs C W W') (hC : ∀ c ∈ C,c < lo ∨ c ∈ Ls) (hhi : hi ≤ W.heap.size) (hL : ∀ b ∈ Ls,IntAt W' b) : KeepX lo hi Ls Ex w W' :=
 ⟨fun i h1 h2 h3 h4 => (hf.block i (by omega) (fun hc => by rcases hC i hc with h | h; omega; exact h3 h)).trans (h.1 i h1 h2 h3 h4),hL⟩
theorem Go2.step {t : Rt} {rs : List Vr} {m : Nat} {dark : Bool} {x : List UInt8} {l : List St} {w1 : World} {sc : List (List UInt8 × Nat)} {g lr hr : Nat} {Lr Ex : List Nat} {ns : List Nm} {tot : Rs} {n j : Nat} {wr : World} {mmj : Mm} {ksj ks' : Ks} {vr : Value} (h : Go2 t rs m dark x l w1 sc g lr hr Lr Ex ns tot n j wr mmj ksj ks') (hj : j < n) (hn : n ≤ 8) (hwf : ∀ s ∈ l,wfS m s) (hS : Sep t (sc ++ [(x,g)])) (hlow : ∀ c ∈ Chg t (sc ++ [(x,g)]) [],c < lr) (hhi : hr ≤ wr.heap.size)
  (G : GoodA t (sc ++ [(x,g)]) (sc ++ [(x,g)]) rs w1 lr hr Lr Ex vr (CkB rs m dark (ns ++ [⟨x,false,true⟩]) l) (evB (evS rs m) l)) :
  ∃ k d,Fv vr k d ∧ ∀ w2,Fs [g] wr w2 → Bk w2 g [.int .i64 (j : Int)] 3 → Calls Tryz.prog k d w2 fun r w3 => r = .returned (.tuple #[]) ∧ Fs (Chg t sc (g :: Lr)) wr w3 ∧ (∀ b ∈ sc.map Prod.snd ++ g :: Lr,IntAt w3 b) ∧ Now2 t rs m dark x l w1 sc g lr hr Lr Ex ns tot n (j + 1) w3 := by
 obtain ⟨gl,k0,d0,hv,hc⟩ := G
 obtain ⟨g1,g2,g3⟩ := sep_low hlow
 obtain ⟨o1,o2,o3,o4,o5⟩ := hS.out
 have hck := h.ck
 obtain ⟨q,hq⟩ : ∃ q,n - j = q + 1 := ⟨n - j - 1,by omega⟩
 have hq' : n - (j + 1) = q := by omega
 rw [hq,roundsK] at hck
 obtain ⟨ks1,hk1,hck⟩ := thenK_inv hck
 obtain ⟨⟨hgd,hn1⟩,hsy⟩ := evB_sync l (fun u hu ks ks' a b c => evS_sync m u (hwf u hu) dark ks ks' a b c) h.k1 h.k2 hk1
 have hsy0 : Sy ksj ⟨mmj.env ++ [(x,(j : Int))],mmj.arr,mmj.work⟩ := ⟨by rw [h.kn]; simp [h.nm],h.wk⟩
 have hgm0 : GM rs ⟨mmj.env ++ [(x,(j : Int))],mmj.arr,mmj.work⟩ := ⟨fun p hp => by
  rcases List.mem_append.1 hp with hp | hp
  ·exact h.gm.env p hp
  ·rw [List.mem_singleton] at hp; rw [hp]; exact ⟨by omega,by omega⟩,h.gm.arr⟩
 refine ⟨k0,d0,hv,fun w2 hf hb => ?_⟩
 have hrm0 := h.rm.fsl hf (by simpa using o1) (by simpa using o2) (by simpa using o3) (fun b hb => by simpa using o4 b hb) (fun p hp => by simpa using o5 p hp)
 have hrm : RM t (sc ++ [(x,g)]) w2 (mmj.env ++ [(x,(j : Int))]) mmj.arr (on mmj.work) := ⟨hrm0.mkr,hrm0.run,hrm0.arr,hrm0.env.snoc hb⟩
 have hkx : KeepX lr hr Lr Ex w1 w2 := keep_rest h.kx hf (by simp; omega) hhi gl
 have hckb : CkB rs m dark (ns ++ [⟨x,false,true⟩]) l ⟨mmj.env ++ [(x,(j : Int))],mmj.arr,mmj.work⟩ := by
  unfold blockK at hk1
  obtain ⟨k2,hk2,_⟩ := thenK_inv hk1
  exact ⟨ksj,k2,h.kn,h.k1,h.k2,hk2,hsy0⟩
 refine (hc w2 hkx (by have := hf.size; omega) _ hrm hgm0.env hgm0.arr hckb).mono ?_
 rintro r w3 ⟨rfl,hf3,hi3,hr3⟩
 have hchg : ∀ c ∈ Chg t (sc ++ [(x,g)]) Lr,c ∈ Chg t sc (g :: Lr) := by
  intro c hc
  simp only [Chg,List.mem_cons,List.mem_append,List.map_append,List.map_cons,List.map_nil,List.not_mem_nil,or_false] at hc ⊢
  rcases hc with hc | (hc | hc | hc) | hc
  ·exact .inl hc
  ·exact .inr (.inl (.inl hc))
  ·exact .inr (.inl (.inr hc))
  ·exact .inr (.inr (.inl hc))
  ·exact .inr (.inr (.inr hc))
 have hff : Fs (Chg t sc (g :: Lr)) wr w3 := (hf.mono (by simp [Chg])).trans (hf3.mono hchg)
 refine ⟨rfl,hff,fun b hb => hi3 b (by
  simp only [List.mem_append,List.mem_cons,List.map_append,List.map_cons,List.map_nil,List.not_mem_nil,or_false] at hb ⊢
  rcases hb with hb | hb | hb
  ·exact .inl (.inl hb)
  ·exact .inl (.inr hb)
  ·exact .inr hb),?_⟩
 have hev := h.ev
 rw [hq,evR] at hev
 have hgm1 : AllR (GM rs) (GO rs) (evB (evS rs m) l ⟨mmj.env ++ [(x,(j : Int))],mmj.arr,mmj.work⟩) := cut_good _ (evL_good l (fun u hu k hk => evS_good m u (hwf u hu) k hk) _ hgm0)
 have hsy1 := hsy _ hsy0
 cases hres : evB (evS rs m) l ⟨mmj.env ++ [(x,(j : Int))],mmj.arr,mmj.work⟩ with
 | over tr wd a k =>
  rw [hres] at hr3
  unfold roundR at hev
  rw [hres] at hev
  exact .inr ⟨tr,wd,a,k,hev,hr3⟩
 | go k1 =>
  rw [hres] at hr3 hgm1 hsy1
  have hl0 : mmj.env.length = sc.length := h.rm.env.len
  have hrd : roundR rs m x l (j : Int) mmj = .go ⟨k1.env.take sc.length,k1.arr,k1.work⟩ := by
   unfold roundR
   rw [hres,hl0]; rfl
  rw [hrd] at hev
  have hr3' : RM t (sc ++ [(x,g)]) w3 k1.env k1.arr (on k1.work) := hr3
  refine .inl ⟨⟨k1.env.take sc.length,k1.arr,k1.work⟩,ks1,ks',?_,⟨hr3'.mkr,hr3'.run,hr3'.arr,hr3'.env.take⟩,⟨fun p hp => hgm1.env p (List.mem_of_mem_take hp),hgm1.arr⟩,?_,hsy1.2,hn1.trans h.kn,hgd.most,hgd.lets,by rw [hq']; exact hck,keep_own hkx hf3 (fun c hc => ?_) (by have := hf.size; omega) (fun b hb => hi3 b (List.mem_append.2 (.inr hb))),hi3 g (by simp)⟩
  ·rw [hq']
   have : ((j + 1 : Nat) : Int) = (j : Int) + 1 := by omega
   rw [this]; exact hev
  ·have h1 := hsy1.1
   rw [hn1,h.kn] at h1
   have hnl : ns.length = sc.length := by
    have := congrArg List.length h.nm
    simp at this; omega
   show (k1.env.take sc.length).map Prod.fst = ns.map Nm.name
   rw [List.map_take,h1,List.map_append,List.take_left' (by simp [hnl])]
  ·simp only [Chg,List.mem_cons,List.mem_append] at hc
   rcases hc with hc | (hc | hc) | hc
   ·exact .inl (hlow c (by simp [Chg,hc]))
   ·exact .inl (hlow c (by simp [Chg,hc]))
   ·exact .inl (hlow c (by simp only [Chg,List.mem_cons,List.mem_append]; exact .inr (.inl (.inr hc))))
   ·exact .inr hc
theorem loop_val (t : Rt) (rs : List Vr) (m : Nat) (dark : Bool) (x : List UInt8) (l : List St) (w1 : World) (sc : List (List UInt8 × Nat)) (g lo hi lr hr : Nat) (Lr Ex : List Nat) (ns : List Nm) (n : Nat) (hn : n ≤ 8) (vr : Value) (bT bM bw br : Nat) (hwf : ∀ s ∈ l,wfS m s) (hS : Sep t (sc ++ [(x,g)])) (hlow0 : ∀ c ∈ Chg t sc [],c < lo) (hlow : ∀ c ∈ Chg t (sc ++ [(x,g)]) [],c < lr) (hlr : lo ≤ lr) (hlh : lr ≤ hr) (hhr : hr ≤ hi) (hg : lo ≤ g)
  (G : GoodA t (sc ++ [(x,g)]) (sc ++ [(x,g)]) rs w1 lr hr Lr Ex vr (CkB rs m dark (ns ++ [⟨x,false,true⟩]) l) (evB (evS rs m) l))
  (hbT : lo ≤ bT ∧ bT < hi ∧ bT ∉ g :: Lr ∧ bT ∉ Ex) (hbM : lo ≤ bM ∧ bM < hi ∧ bM ∉ g :: Lr ∧ bM ∉ Ex) (hbw : lo ≤ bw ∧ bw < hi ∧ bw ∉ g :: Lr ∧ bw ∉ Ex) (hbr : lo ≤ br ∧ br < hi ∧ br ∉ g :: Lr ∧ br ∉ Ex)
  (hcT : w1.cell? ⟨bT,1,none⟩ = some (.int .i64 (n : Int))) (hcM : w1.cell? ⟨bM,0,none⟩ = some (.pointer (some ⟨t.M,0,none⟩))) (hcw : w1.cell? ⟨bw,0,none⟩ = some (.pointer (some ⟨g,0,none⟩))) (hcr : w1.cell? ⟨br,0,none⟩ = some vr)
  (W : World) (hKp : KeepX lo hi (g :: Lr) Ex w1 W) (hWh : hi ≤ W.heap.size) (mm : Mm) (hM : RM t sc W mm.env mm.arr (on mm.work)) (hGM : GM rs mm) (ks ks' : Ks) (hnm : mm.env.map Prod.fst = ns.map Nm.name) (hwk : mm.work ≤ ks.work) (hkn : ks.ns = ns ++ [⟨x,false,true⟩]) (hk1 : ks.work ≤ 300) (hk2 : ks.lets ≤ 24) (hck : roundsK (blockK (stmtK rs m dark) l) n ks = .ok ks') :
  Calls Tryz.prog 85 #[.pointer (some ⟨bT,0,none⟩),.pointer (some ⟨bM,0,none⟩),.pointer (some ⟨bw,0,none⟩),.pointer (some ⟨br,0,none⟩)] W fun r W' => StP t sc sc (g :: Lr) W (evR (roundR rs m x l) n 0 mm) r W' := by
 have hcell : ∀ b o v,lo ≤ b ∧ b < hi ∧ b ∉ g :: Lr ∧ b ∉ Ex → w1.cell? ⟨b,o,none⟩ = some v → ∀ W',Fs (Chg t sc (g :: Lr)) W W' → W'.cell? ⟨b,o,none⟩ = some v := fun b o v h1 h3 W' hf => cell_fsl hf (by rw [World.cell?_of_block (hKp.1 b h1.1 h1.2.1 h1.2.2.1 h1.2.2.2)]; exact h3) (fun hc => by
  simp only [Chg,List.mem_cons,List.mem_append] at hc
  rcases hc with hc | (hc | hc) | hc
  ·have := hlow0 b (by simp [Chg,hc]); omega
  ·have := hlow0 b (by simp [Chg,hc]); omega
  ·have := hlow0 b (by simp only [Chg,List.mem_cons,List.mem_append]; exact .inr (.inl (.inr hc))); omega
  ·exact h1.2.2.1 (by simp only [List.mem_cons]; exact hc))
 have HCT := keep (hcell bT 1 _ hbT hcT)
 have HCM := keep (hcell bM 0 _ hbM hcM)
 have HCw := keep (hcell bw 0 _ hbw hcw)
 have HCr := keep (hcell br 0 _ hbr hcr)
 obtain ⟨tot,htot⟩ : ∃ r,evR (roundR rs m x l) n 0 mm = r := ⟨_,rfl⟩
 have hgl := G.1
 have HNow : Hid (Now2 t rs m dark x l w1 sc g lr hr Lr Ex ns tot n 0 W) := .inl ⟨mm,ks,ks',htot.symm,hM,hGM,hnm,hwk,hkn,hk1,hk2,hck,hKp.sub hlr hhr (fun b hb => by simp [hb]) (fun b hb h1 h2 => by
  rcases List.mem_cons.1 hb with rfl | hb
  ·have := (sep_low hlow).1; omega
  ·exact hb),hKp.2 g (by simp)⟩
 have HInts : Hid (∀ b ∈ sc.map Prod.snd ++ g :: Lr,IntAt W b) := fun b hb => (List.mem_append.1 hb).elim (fun hb => hM.env.ints b hb) (fun hb => hKp.2 b hb)
 have HStep := keep (fun (j : Nat) (wr : World) (mmj : Mm) (ksj ks' : Ks) (h : Go2 t rs m dark x l w1 sc g lr hr Lr Ex ns tot n j wr mmj ksj ks') (hj : j < n) (hh : hr ≤ wr.heap.size) => h.step hj hn hwf hS hlow hh G)
 obtain ⟨kf,df,⟨rfl,egf⟩,_⟩ := G.2
 rw [htot]
 clear hcell hcT hcM hcw hcr hKp hM hGM hck htot hwf hlow hlow0 hS G
 go_enter Tryz.func85,Tryz.ntmps85
 go_wp2
 go_loopw [4] (fun i wx => ∃ j : Nat,j ≤ n ∧ i = .int .i64 (j : Int) ∧ Fs (Chg t sc (g :: Lr)) W wx ∧ (∀ b ∈ sc.map Prod.snd ++ g :: Lr,IntAt wx b) ∧ Now2 t rs m dark x l w1 sc g lr hr Lr Ex ns tot n j wx) (fun i _ => n - (intOf i).toNat)
 case atStart => exact ⟨0,by omega,rfl,Fs.refl _ _,HInts.out,HNow.out⟩
 case round =>
  obtain ⟨j,hjn,rfl,hfs,hints,hnow⟩ := hrel
  have HF := keep hfs
  have HI := keep hints
  have HNw := keep hnow
  have zT := HCT.out wr hfs
  have zM := HCM.out wr hfs
  have zw := HCw.out wr hfs
  have zr := HCr.out wr hfs
  clear hfs hints hnow HNow HInts
  by_cases hjl : j < n
  ·have d1 : decide ((j : Int) < (n : Int)) = true := decide_eq_true (by omega)
   have hwr : IntKind.i64.wrap ((j : Int) + 1) = (j : Int) + 1 := by rw [IntKind.wrap_i64]; omega
   rcases HNw.out with ⟨mmj,ksj,ks2,hgo⟩ | ⟨tr,wd,a,n0,htot,hrun⟩
   ·have zR := hgo.rm.mkr
    have zO := hgo.rm.run.cell 3 rfl
    unfold on at zO
    dsimp only at zO
    obtain ⟨o,ho⟩ := hgo.gi
    have c0 := ho.cell 0 rfl
    have f0 := ho.fr 0
    obtain ⟨k,d,⟨he,eg⟩,hc⟩ := HStep.out j wr mmj ksj ks2 hgo hjl (by have := HF.out.size; omega)
    obtain ⟨rfl,rfl⟩ : kf = k ∧ df = d := by
     injection he with h1 _ h2
     injection h1 with h1
     exact ⟨h1,h2⟩
    obtain ⟨w2,hw2⟩ : ∃ y,wr.setCell ⟨g,0,none⟩ (.int .i64 (j : Int)) = y := ⟨_,rfl⟩
    have HC := keep (hc w2 (by rw [← hw2]; exact (Fs.refl _ _).set (by simp) _ _) (by rw [← hw2]; exact ho.set 0 _))
    have hgn : ∀ b,b ≠ g → ∀ v,wr.cell? ⟨b,0,none⟩ = some v → w2.cell? ⟨b,0,none⟩ = some v := fun b hb v hv => by
     rw [← hw2,World.cell?_of_block (Below.heap_setCell _ _ _ _ hb)]; exact hv
    have zr2 := hgn br (fun e => hbr.2.2.1 (by simp [e])) _ zr
    have HW2 := keep hw2
    clear hgo hc HNw ho hw2 hgn he
    go_wp2_with (first | rw [HW2.out])
    refine HC.out.mono ?_
    rintro r w3 ⟨rfl,hf3,hi3,hn3⟩
    have HF3 := keep (HF.out.trans hf3)
    have HI3 := keep hi3
    have HN3 := keep hn3
    clear HC hf3 hi3 hn3
    go_wp2
    go_roundw
    case rel => exact ⟨j + 1,by omega,by go_num,HF3.out,HI3.out,HN3.out⟩
    case measure => simp [intOf]; omega
   ·have zR := hrun.mkr
    have zO := hrun.run.cell 3 rfl
    dsimp only at zO
    have HE : Hid (StP t sc sc (g :: Lr) W tot (.returned (.tuple #[])) wr) := by
     refine ⟨rfl,HF.out,HI.out,?_⟩
     rw [htot]; exact hrun
    clear hrun htot HNw
    go_wp2
    go_end0
    exact HE.out
  ·have hje : j = n := by omega
   subst hje
   have dl : decide ((j : Int) < (j : Int)) = false := decide_eq_false (by omega)
   have HE : Hid (StP t sc sc (g :: Lr) W tot (.returned (.tuple #[])) wr) := by
    refine ⟨rfl,HF.out,HI.out,?_⟩
    rcases HNw.out with ⟨mmj,ksj,ks2,hgo⟩ | ⟨tr,wd,a,n0,htot,hrun⟩
    ·have he := hgo.ev
     rw [Nat.sub_self] at he
     rw [he]; exact hgo.rm
    ·rw [htot]; exact hrun
   clear hjl HNw
   go_wp2
   go_end0
   exact HE.out
end Go.Proofs.YtemdnmfldihalaaGreatDoor.Lr
