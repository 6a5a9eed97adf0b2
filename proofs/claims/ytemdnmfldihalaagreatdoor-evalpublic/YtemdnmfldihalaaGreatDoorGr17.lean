/- Laid together: LfMSpec, LfMBlk. -/
import Derived.Test.YtemdnmfldihalaaGreatDoorGr16
import Derived.Test.YtemdnmfldihalaaGreatDoorGr12
namespace Go.Proofs.YtemdnmfldihalaaGreatDoor.Lr
set_option linter.unusedVariables false
set_option linter.unusedSimpArgs false
open Go.ChangeShapes Go.WideShapes Go.ChangeAt Go.RowKit Lg
def szS : Nat → St → Nat
 | 0,_ => 1
 | m + 1,s => 1 + (s.thn.map (szS m)).sum + (s.els.map (szS m)).sum
def szL (m : Nat) (l : List St) : Nat := (l.map (szS m)).sum
theorem szS_pos : ∀ (m : Nat) (s : St),1 ≤ szS m s
 | 0,_ => Nat.le_refl _
 | m + 1,s => by rw [szS]; omega
theorem szS_succ (m : Nat) (s : St) : szS (m + 1) s = 1 + szL m s.thn + szL m s.els := rfl
theorem szL_cons (m : Nat) (s : St) (l : List St) : szL m (s :: l) = szS m s + szL m l := by simp [szL]
theorem szL_len (m : Nat) : ∀ l : List St,l.length ≤ szL m l
 | [] => Nat.zero_le _
 | s :: l => by
  have := szL_len m l
  have := szS_pos m s
  rw [szL_cons,List.length_cons]; omega
def aft (ns : List Nm) (s : St) : List Nm := if s.kind = 1 then ns ++ [⟨s.name,s.secret,false⟩] else ns
theorem aft_one {ns : List Nm} {s : St} (h : s.kind = 1) : aft ns s = ns ++ [⟨s.name,s.secret,false⟩] := if_pos h
theorem aft_same {ns : List Nm} {s : St} (h : ¬ s.kind = 1) : aft ns s = ns := if_neg h
theorem blockK_ns {f : St → Ks → Except Int Ks} {l : List St} {k k' : Ks} (h : blockK f l k = .ok k') : k'.ns = k.ns := by
 unfold blockK at h
 obtain ⟨k1,_,h⟩ := thenK_inv h
 cases h; rfl
theorem stmtK_aft {rs : List Vr} {m : Nat} {dark : Bool} {s : St} {ks ks1 : Ks} (hw : wfS m s) (h : stmtK rs m dark s ks = .ok ks1) : ks1.ns = aft ks.ns s := by
 cases m with
 | zero => exact hw.elim
 | succ m =>
  obtain ⟨ns,wk,lt⟩ := ks
  rcases stmt_cases hw h with ⟨x,s,hk,hx,hs,hno,hl,rfl⟩ | ⟨x,s,v,hk,hx,hs,hv,hl,rfl⟩ | ⟨x,y,u,v,hk,hx,hs,hu,hv,hd,hl,rfl⟩ | ⟨x,s,k1,hk,hx,hs,hth,hel,hb1,hb2⟩ | ⟨k1,hk,hx,h0,h8,hth,hno,hr,rfl⟩ | ⟨x,s,hk,hx,hs,hd,rfl⟩
  ·exact (aft_one hk).symm
  ·exact (aft_same (by rw [hk]; decide)).symm
  ·exact (aft_same (by rw [hk]; decide)).symm
  ·rw [aft_same (by rw [hk]; decide),blockK_ns hb2,blockK_ns hb1]
  ·exact (aft_same (by rw [hk]; decide)).symm
  ·exact (aft_same (by rw [hk]; decide)).symm
theorem GoodA.cong {t : Rt} {sc sc' : List (List UInt8 × Nat)} {rs : List Vr} {w : World} {lo hi : Nat} {Ls Ex : List Nat} {v : Value} {C C' : Mm → Prop} {f f' : Mm → Rs} (h : GoodA t sc sc' rs w lo hi Ls Ex v C f) (hC : ∀ mm,C' mm → C mm) (hf : ∀ mm,C' mm → f mm = f' mm) : GoodA t sc sc' rs w lo hi Ls Ex v C' f' := by
 obtain ⟨hl,k,d,hv,hc⟩ := h
 refine ⟨hl,k,d,hv,fun W a b mm r e g c => ?_⟩
 rw [← hf mm c]
 exact hc W a b mm r e g (hC mm c)
theorem MdsP.cong {t : Rt} {B : Nat} {rs : List Vr} {A : Value} {sc : List (List UInt8 × Nat)} {nv : Value} {C C' : Mm → Prop} {f f' : Mm → Rs} {w w' : World} {r : Ending} {v nv' : Value} {sc' : List (List UInt8 × Nat)} {Ls : List Nat} (h : MdsP t B rs A sc nv C f w r w' v nv' sc' Ls) (hC : ∀ mm,C' mm → C mm) (hf : ∀ mm,C' mm → f mm = f' mm) : MdsP t B rs A sc nv C' f' w r w' v nv' sc' Ls :=
 ⟨h.r,h.ms,h.fc,h.more,h.new,h.ints,h.good.cong hC hf⟩
theorem IntAt.ms {w : World} {t : Rt} {B : Nat} {rs : List Vr} {A : Value} {sc : List (List UInt8 × Nat)} {nv : Value} {b : Nat} (h : IntAt w b) (hM : MSt w t B rs A sc nv) : b ≠ t.M ∧ ¬ nv.ownBlock = some b := by
 obtain ⟨n,hn⟩ := h
 refine ⟨fun e => ?_,fun e => ?_⟩
 ·subst e
  have h2 := hM.box
  unfold Bk at hn h2
  rw [hn] at h2
  cases h2
 ·rcases (RowX.own hM.row).2 with ⟨e1,_⟩ | ⟨g,cap,cur,a1,a2,a3,a4⟩
  ·rw [e1] at e; cases e
  ·rw [a1] at e
   injection e with e
   subst e
   unfold Bk at hn
   rw [hn] at a3
   cases a3
theorem IntAt.fc {w w' : World} {t : Rt} {B : Nat} {rs : List Vr} {A : Value} {sc : List (List UInt8 × Nat)} {nv nv' : Value} {b : Nat} (h : IntAt w b) (hM : MSt w t B rs A sc nv) (hf : Fc t.M nv nv' w w') : IntAt w' b := by
 obtain ⟨h1,h2⟩ := h.ms hM
 obtain ⟨n,hn⟩ := h
 exact ⟨n,hn.fc hf h1 h2⟩
theorem IntAt.set {w : World} {b c i : Nat} {v : Value} (h : IntAt w b) (hc : b ≠ c) : IntAt (w.setCell ⟨c,i,none⟩ v) b := by
 obtain ⟨n,hn⟩ := h
 exact ⟨n,hn.far i v hc⟩
def MdN (m : Nat) (t : Rt) (B : Nat) (rs : List Vr) (A : Value) (sc : List (List UInt8 × Nat)) (nv : Value) (ns : List Nm) (dark : Bool) (s : St) (w : World) (r : Ending) (w' : World) : Prop :=
 ∃ v nv' sc' Ls,MdsP t B rs A sc nv (CkS rs m dark ns s) (actS rs m s) w r w' v nv' sc' Ls ∧ sc'.map Prod.fst = (aft ns s).map Nm.name
def MdB (m : Nat) (t : Rt) (B : Nat) (rs : List Vr) (A : Value) (sc : List (List UInt8 × Nat)) (nv : Value) (ns : List Nm) (dark : Bool) (l : List St) (w : World) (r : Ending) (w' : World) : Prop :=
 ∃ v nv' Ls,MdsP t B rs A sc nv (CkB rs m dark ns l) (evB (evS rs m) l) w r w' v nv' sc Ls
def MakeS (m : Nat) : Prop := ∀ (K B : Nat) (t : Rt) (rs : List Vr) (A : Value) (sc : List (List UInt8 × Nat)) (nv : Value) (ns : List Nm) (dark : Bool) (s : St) (s1 s2 s3 : Value) (w : World),m ≤ K → K ≤ 10 → wfS m s → MSt w t B rs A sc nv → sc.map Prod.fst = ns.map Nm.name → sc.length + szS m s ≤ 900 → ExIs w B 11 (ar s.args) s1 → StIs w B 10 K s.thn s2 → StIs w B 10 K s.els s3 →
 Calls Tryz.prog 52 #[.pointer (some ⟨t.M,0,none⟩),.agg (stA s s1 s2 s3)] w fun r w' => MdN m t B rs A sc nv ns dark s w r w'
def MakeB (m : Nat) : Prop := ∀ (K B : Nat) (t : Rt) (rs : List Vr) (A : Value) (sc : List (List UInt8 × Nat)) (nv : Value) (ns : List Nm) (dark : Bool) (l : List St) (sl : Value) (w : World),m ≤ K → K ≤ 10 → (∀ s ∈ l,wfS m s) → MSt w t B rs A sc nv → sc.map Prod.fst = ns.map Nm.name → sc.length + szL m l ≤ 900 → StIs w B 10 (K + 1) l sl →
 Calls Tryz.prog 47 #[.pointer (some ⟨t.M,0,none⟩),sl] w fun r w' => MdB m t B rs A sc nv ns dark l w r w'
theorem wk_back {mm : Mm} (h : 1 ≤ mm.work) : mm.work - 1 + 1 = mm.work := by omega
theorem act_let {rs : List Vr} {m : Nat} {dark : Bool} {ns : List Nm} {s : St} {e : Ex} (hk : s.kind = 1) (ha : s.args = [e]) (mm : Mm) (h : CkS rs (m + 1) dark ns s mm) : withR (evE rs mm.env mm.arr m e) mm.arr mm.work (fun n => .go ⟨mm.env ++ [(s.name,n)],mm.arr,mm.work⟩) = actS rs (m + 1) s mm := by
 unfold actS
 rw [evS,ha]
 dsimp only [allE]
 rw [wk_back h.1]
 cases evE rs mm.env mm.arr m e with
 | none => rfl
 | some n =>
  dsimp only
  rw [if_pos hk]
  rfl
theorem act_set {rs : List Vr} {m : Nat} {dark : Bool} {ns : List Nm} {s : St} {e : Ex} (hk : s.kind = 2) (ha : s.args = [e]) (mm : Mm) (h : CkS rs (m + 1) dark ns s mm) : withR (evE rs mm.env mm.arr m e) mm.arr mm.work (fun n => .go ⟨setE mm.env s.name n,mm.arr,mm.work⟩) = actS rs (m + 1) s mm := by
 unfold actS
 rw [evS,ha]
 dsimp only [allE]
 rw [wk_back h.1]
 cases evE rs mm.env mm.arr m e with
 | none => rfl
 | some n =>
  dsimp only
  rw [if_neg (show ¬ s.kind = 1 by rw [hk]; decide),if_pos hk]
  rfl
theorem act_ret {rs : List Vr} {m : Nat} {dark : Bool} {ns : List Nm} {s : St} {e : Ex} (hk : s.kind = 6) (ha : s.args = [e]) (mm : Mm) (h : CkS rs (m + 1) dark ns s mm) : withR (evE rs mm.env mm.arr m e) mm.arr mm.work (fun n => .over false n mm.arr mm.work) = actS rs (m + 1) s mm := by
 unfold actS
 rw [evS,ha]
 dsimp only [allE]
 rw [wk_back h.1]
 cases evE rs mm.env mm.arr m e with
 | none => rfl
 | some n =>
  dsimp only
  rw [if_neg (show ¬ s.kind = 1 by rw [hk]; decide),if_neg (show ¬ s.kind = 2 by rw [hk]; decide),if_neg (show ¬ s.kind = 3 by rw [hk]; decide),if_neg (show ¬ s.kind = 4 by rw [hk]; decide),if_neg (show ¬ s.kind = 5 by rw [hk]; decide),if_pos hk]
  rfl
theorem act_put {rs : List Vr} {m : Nat} {dark : Bool} {ns : List Nm} {s : St} {e u : Ex} (hk : s.kind = 3) (ha : s.args = [e,u]) (mm : Mm) (h : CkS rs (m + 1) dark ns s mm) : putR rs s.name (evE rs mm.env mm.arr m e) (evE rs mm.env mm.arr m u) mm = actS rs (m + 1) s mm := by
 unfold actS putR
 rw [evS,ha]
 dsimp only [allE]
 rw [wk_back h.1]
 cases evE rs mm.env mm.arr m e with
 | none => rfl
 | some i =>
  cases evE rs mm.env mm.arr m u with
  | none => rfl
  | some n =>
   dsimp only
   rw [if_neg (show ¬ s.kind = 1 by rw [hk]; decide),if_neg (show ¬ s.kind = 2 by rw [hk]; decide),if_pos hk]
   rfl
theorem act_if {rs : List Vr} {m : Nat} {dark : Bool} {ns : List Nm} {s : St} {e : Ex} (hk : s.kind = 4) (ha : s.args = [e]) (mm : Mm) (h : CkS rs (m + 1) dark ns s mm) : withR (evE rs mm.env mm.arr m e) mm.arr mm.work (fun n => if n = 0 then evB (evS rs m) s.els mm else evB (evS rs m) s.thn mm) = actS rs (m + 1) s mm := by
 unfold actS
 rw [evS,ha]
 dsimp only [allE]
 rw [wk_back h.1]
 cases evE rs mm.env mm.arr m e with
 | none => rfl
 | some n =>
  dsimp only
  rw [if_neg (show ¬ s.kind = 1 by rw [hk]; decide),if_neg (show ¬ s.kind = 2 by rw [hk]; decide),if_neg (show ¬ s.kind = 3 by rw [hk]; decide),if_pos hk]
  show (if n = 0 then _ else _) = evB (evS rs m) (if n = 0 then s.els else s.thn) mm
  split <;> rfl
theorem act_for {rs : List Vr} {m : Nat} {dark : Bool} {ns : List Nm} {s : St} (hk : s.kind = 5) (ha : s.args = []) (mm : Mm) (h : CkS rs (m + 1) dark ns s mm) : evR (roundR rs m s.name s.thn) s.n.toNat 0 mm = actS rs (m + 1) s mm := by
 unfold actS
 rw [evS,ha]
 dsimp only [allE]
 rw [wk_back h.1,if_neg (show ¬ s.kind = 1 by rw [hk]; decide),if_neg (show ¬ s.kind = 2 by rw [hk]; decide),if_neg (show ¬ s.kind = 3 by rw [hk]; decide),if_neg (show ¬ s.kind = 4 by rw [hk]; decide),if_pos hk]
 rfl
theorem round_none (rs : List Vr) (m : Nat) (x : List UInt8) : ∀ (n : Nat) (i : Int) (mm : Mm),evR (roundR rs m x []) n i mm = .go mm
 | 0,i,mm => rfl
 | n + 1,i,mm => by
  have h : roundR rs m x [] i mm = .go mm := by
   unfold roundR evB evL cutR andR
   simp
   rw [List.take_take,Nat.min_eq_left (Nat.le_succ _),List.take_left' rfl]
  rw [evR,h]
  exact round_none rs m x n (i + 1) mm
theorem CkS.ok {rs : List Vr} {m : Nat} {dark : Bool} {ns : List Nm} {s : St} {mm : Mm} (h : CkS rs m dark ns s mm) : ∃ wk lt ks',wk ≤ 300 ∧ lt ≤ 24 ∧ stmtK rs m dark s ⟨ns,wk,lt⟩ = .ok ks' ∧ mm.env.map Prod.fst = ns.map Nm.name ∧ mm.work ≤ wk + 1 := by
 obtain ⟨h1,⟨ns',wk,lt⟩,ks',rfl,h2,h3,h4,h5⟩ := h
 exact ⟨wk,lt,ks',h2,h3,h4,h5.1,by have := h5.2; dsimp only at this; omega⟩
set_option maxHeartbeats 32000000
set_option maxRecDepth 100000
noncomputable def mBlkRnd : Code := rndC (inC (sndC (fstC (sndC (sndC (sndC mBlkCode))))))
structure WdB (a : Act) : Prop where
 len : a.tmps.toList.length = 41
 dfr : a.defers = []
theorem WdB.opens {a : Act} (h : WdB a) : a = ⟨#[slot a 0,slot a 1,slot a 2,slot a 3,slot a 4,slot a 5,slot a 6,slot a 7,slot a 8,slot a 9,slot a 10,slot a 11,slot a 12,slot a 13,slot a 14,slot a 15,slot a 16,slot a 17,slot a 18,slot a 19,slot a 20,slot a 21,slot a 22,slot a 23,slot a 24,slot a 25,slot a 26,slot a 27,slot a 28,slot a 29,slot a 30,slot a 31,slot a 32,slot a 33,slot a 34,slot a 35,slot a 36,slot a 37,slot a 38,slot a 39,slot a 40],[]⟩ := by
 obtain ⟨⟨l⟩,d⟩ := a
 obtain ⟨h1,h2⟩ := h
 dsimp only at h1 h2
 subst h2
 have e0 : l = (List.range 41).map (fun i => l.getD i undef) := by
  refine List.ext_getElem (by simp [h1]) fun i h1 h2 => ?_
  rw [List.getElem_map,List.getElem_range,List.getD_eq_getElem?_getD,List.getElem?_eq_getElem h1,Option.getD_some]
 have e : (List.range 41).map (fun i => l.getD i undef) = [l.getD 0 undef,l.getD 1 undef,l.getD 2 undef,l.getD 3 undef,l.getD 4 undef,l.getD 5 undef,l.getD 6 undef,l.getD 7 undef,l.getD 8 undef,l.getD 9 undef,l.getD 10 undef,l.getD 11 undef,l.getD 12 undef,l.getD 13 undef,l.getD 14 undef,l.getD 15 undef,l.getD 16 undef,l.getD 17 undef,l.getD 18 undef,l.getD 19 undef,l.getD 20 undef,l.getD 21 undef,l.getD 22 undef,l.getD 23 undef,l.getD 24 undef,l.getD 25 undef,l.getD 26 undef,l.getD 27 undef,l.getD 28 undef,l.getD 29 undef,l.getD 30 undef,l.getD 31 undef,l.getD 32 undef,l.getD 33 undef,l.getD 34 undef,l.getD 35 undef,l.getD 36 undef,l.getD 37 undef,l.getD 38 undef,l.getD 39 undef,l.getD 40 undef] := by kernel_rfl
 exact congrArg (fun x : List Value => (⟨⟨x⟩,[]⟩ : Act)) (e0.trans e)
structure Fm1 (a : Act) (M bM : Nat) (sl : Value) : Prop where
 wide : WdB a
 s0 : slot a 0 = .pointer (some ⟨M,0,none⟩)
 s1 : slot a 1 = sl
 s2 : slot a 2 = .pointer (some ⟨bM,0,none⟩)
 s4 : slot a 4 = .nilFunc
theorem Fm1.opens {a : Act} {M bM : Nat} {sl : Value} (h : Fm1 a M bM sl) : ∃ g : Nat → Value,a = ⟨#[.pointer (some ⟨M,0,none⟩),sl,.pointer (some ⟨bM,0,none⟩),g 3,.nilFunc,g 5,g 6,g 7,g 8,g 9,g 10,g 11,g 12,g 13,g 14,g 15,g 16,g 17,g 18,g 19,g 20,g 21,g 22,g 23,g 24,g 25,g 26,g 27,g 28,g 29,g 30,g 31,g 32,g 33,g 34,g 35,g 36,g 37,g 38,g 39,g 40],[]⟩ := by
 refine ⟨slot a,?_⟩
 have e := h.wide.opens
 rw [h.s0,h.s1,h.s2,h.s4] at e
 exact e
structure Fm2 (a : Act) (M bM : Nat) (sl : Value) (q : Nat) : Prop where
 wide : WdB a
 s0 : slot a 0 = .pointer (some ⟨M,0,none⟩)
 s1 : slot a 1 = sl
 s2 : slot a 2 = .pointer (some ⟨bM,0,none⟩)
 s4 : slot a 4 = .nilFunc
 s5 : slot a 5 = .int .i64 (q : Int)
theorem Fm2.opens {a : Act} {M bM : Nat} {sl : Value} {q : Nat} (h : Fm2 a M bM sl q) : ∃ g : Nat → Value,a = ⟨#[.pointer (some ⟨M,0,none⟩),sl,.pointer (some ⟨bM,0,none⟩),g 3,.nilFunc,.int .i64 (q : Int),g 6,g 7,g 8,g 9,g 10,g 11,g 12,g 13,g 14,g 15,g 16,g 17,g 18,g 19,g 20,g 21,g 22,g 23,g 24,g 25,g 26,g 27,g 28,g 29,g 30,g 31,g 32,g 33,g 34,g 35,g 36,g 37,g 38,g 39,g 40],[]⟩ := by
 refine ⟨slot a,?_⟩
 have e := h.wide.opens
 rw [h.s0,h.s1,h.s2,h.s4,h.s5] at e
 exact e
structure Fm3 (a : Act) (M bM bA : Nat) (sl : Value) (q : Nat) : Prop where
 wide : WdB a
 s0 : slot a 0 = .pointer (some ⟨M,0,none⟩)
 s1 : slot a 1 = sl
 s2 : slot a 2 = .pointer (some ⟨bM,0,none⟩)
 s4 : slot a 4 = .nilFunc
 s5 : slot a 5 = .int .i64 (q : Int)
 s6 : slot a 6 = .pointer (some ⟨bA,0,none⟩)
theorem Fm3.opens {a : Act} {M bM bA : Nat} {sl : Value} {q : Nat} (h : Fm3 a M bM bA sl q) : ∃ g : Nat → Value,a = ⟨#[.pointer (some ⟨M,0,none⟩),sl,.pointer (some ⟨bM,0,none⟩),g 3,.nilFunc,.int .i64 (q : Int),.pointer (some ⟨bA,0,none⟩),g 7,g 8,g 9,g 10,g 11,g 12,g 13,g 14,g 15,g 16,g 17,g 18,g 19,g 20,g 21,g 22,g 23,g 24,g 25,g 26,g 27,g 28,g 29,g 30,g 31,g 32,g 33,g 34,g 35,g 36,g 37,g 38,g 39,g 40],[]⟩ := by
 refine ⟨slot a,?_⟩
 have e := h.wide.opens
 rw [h.s0,h.s1,h.s2,h.s4,h.s5,h.s6] at e
 exact e
structure Fm4 (a : Act) (M bM bA : Nat) (sl : Value) (q n j : Nat) : Prop where
 wide : WdB a
 s0 : slot a 0 = .pointer (some ⟨M,0,none⟩)
 s1 : slot a 1 = sl
 s2 : slot a 2 = .pointer (some ⟨bM,0,none⟩)
 s4 : slot a 4 = .nilFunc
 s5 : slot a 5 = .int .i64 (q : Int)
 s6 : slot a 6 = .pointer (some ⟨bA,0,none⟩)
 s17 : slot a 17 = sl
 s18 : slot a 18 = .int .i64 (n : Int)
 s19 : slot a 19 = .int .i64 (j : Int)
theorem Fm4.opens {a : Act} {M bM bA : Nat} {sl : Value} {q n j : Nat} (h : Fm4 a M bM bA sl q n j) : ∃ g : Nat → Value,a = ⟨#[.pointer (some ⟨M,0,none⟩),sl,.pointer (some ⟨bM,0,none⟩),g 3,.nilFunc,.int .i64 (q : Int),.pointer (some ⟨bA,0,none⟩),g 7,g 8,g 9,g 10,g 11,g 12,g 13,g 14,g 15,g 16,sl,.int .i64 (n : Int),.int .i64 (j : Int),g 20,g 21,g 22,g 23,g 24,g 25,g 26,g 27,g 28,g 29,g 30,g 31,g 32,g 33,g 34,g 35,g 36,g 37,g 38,g 39,g 40],[]⟩ := by
 refine ⟨slot a,?_⟩
 have e := h.wide.opens
 rw [h.s0,h.s1,h.s2,h.s4,h.s5,h.s6,h.s17,h.s18,h.s19] at e
 exact e
structure Fm5 (a : Act) (M bM bA : Nat) (sl : Value) (q n j bT : Nat) : Prop where
 wide : WdB a
 s0 : slot a 0 = .pointer (some ⟨M,0,none⟩)
 s1 : slot a 1 = sl
 s2 : slot a 2 = .pointer (some ⟨bM,0,none⟩)
 s4 : slot a 4 = .nilFunc
 s5 : slot a 5 = .int .i64 (q : Int)
 s6 : slot a 6 = .pointer (some ⟨bA,0,none⟩)
 s7 : slot a 7 = .int .i64 (j : Int)
 s8 : slot a 8 = .pointer (some ⟨bT,0,none⟩)
 s17 : slot a 17 = sl
 s18 : slot a 18 = .int .i64 (n : Int)
 s19 : slot a 19 = .int .i64 (j : Int)
theorem Fm5.rnd {a : Act} {M bM bA : Nat} {sl : Value} {q n j bT : Nat} (h : Fm5 a M bM bA sl q n j bT) : a = ⟨#[slot a 0,slot a 1,.pointer (some ⟨bM,0,none⟩),slot a 3,slot a 4,slot a 5,.pointer (some ⟨bA,0,none⟩),.int .i64 (j : Int),.pointer (some ⟨bT,0,none⟩),slot a 9,slot a 10,slot a 11,slot a 12,slot a 13,slot a 14,slot a 15,slot a 16,slot a 17,slot a 18,slot a 19,slot a 20,slot a 21,slot a 22,slot a 23,slot a 24,slot a 25,slot a 26,slot a 27,slot a 28,slot a 29,slot a 30,slot a 31,slot a 32,slot a 33,slot a 34,slot a 35,slot a 36,slot a 37,slot a 38,slot a 39,slot a 40],[]⟩ := by
 have e := h.wide.opens
 rw [h.s2,h.s6,h.s7,h.s8] at e
 exact e
def OnB (Q : Act → World → Prop) (e : Exit) (a : Act) (w : World) : Prop := e = .normal ∧ Q a w
theorem OnB.go {P : Program} {c1 c2 : Code} {Q : Act → World → Prop} {R : Exit → Act → World → Prop} {a : Act} {w : World} (h : c1.wp P (OnB Q) a w) (k : ∀ a' w',Q a' w' → c2.wp P R a' w') : (Code.seq c1 c2).wp P R a w := by
 refine wp_seq (wp_mono h ?_)
 rintro e a' w' ⟨rfl,hq⟩
 exact k a' w' hq
theorem OnB.mono {P : Program} {c : Code} {Q Q' : Act → World → Prop} {a : Act} {w : World} (h : c.wp P (OnB Q) a w) (k : ∀ a' w',Q a' w' → Q' a' w') : c.wp P (OnB Q') a w := wp_mono h fun e a' w' hq => ⟨hq.1,k a' w' hq.2⟩
theorem evalB (a : Act) (i : Nat) : a.eval (.tmp i) = slot a i := by
 obtain ⟨⟨l⟩,d⟩ := a
 show (Array.mk l).getD i undef = l.getD i undef
 rw [List.getD_eq_getElem?_getD,Array.getD_eq_getD_getElem?,List.getElem?_toArray]
theorem inB {id : Nat} {Q : Exit → Act → World → Prop} {a : Act} {w : World} (h : Q .normal a w) : Exit.inBlock id Q (.exit id) a w := by
 show (if id = id then Q .normal a w else Q (.exit id) a w)
 rw [if_pos rfl]; exact h
theorem mBlk_r0 (M : Nat) (sl : Value) (w : World) (g : Nat → Value) : (fstC mBlkCode).wp Tryz.prog (OnB fun a' w' => Fm1 a' M w.heap.size sl ∧ w' = w.alloc (.cells #[.pointer (some ⟨M,0,none⟩)] 100)) ⟨#[.pointer (some ⟨M,0,none⟩),sl,g 2,g 3,g 4,g 5,g 6,g 7,g 8,g 9,g 10,g 11,g 12,g 13,g 14,g 15,g 16,g 17,g 18,g 19,g 20,g 21,g 22,g 23,g 24,g 25,g 26,g 27,g 28,g 29,g 30,g 31,g 32,g 33,g 34,g 35,g 36,g 37,g 38,g 39,g 40],[]⟩ w := by
 conv => arg 2; whnf
 go_wp2
 exact ⟨rfl,⟨⟨rfl,rfl⟩,rfl,rfl,rfl,rfl⟩,rfl⟩
theorem mBlk_r1 {a : Act} {M bM : Nat} {sl : Value} (hF : Fm1 a M bM sl) (w : World) (pn : Option Addr) (q cn : Nat) (hb : w.cell? ⟨bM,0,none⟩ = some (.pointer (some ⟨M,0,none⟩))) (hM : w.cell? ⟨M,2,none⟩ = some (.slice pn q cn)) : (fstC (sndC mBlkCode)).wp Tryz.prog (OnB fun a' w' => Fm2 a' M bM sl q ∧ w' = w) a w := by
 obtain ⟨gg,rfl⟩ := hF.opens
 clear hF
 conv => arg 2; whnf
 go_wp2
 exact ⟨rfl,⟨⟨rfl,rfl⟩,rfl,rfl,rfl,rfl,rfl⟩,rfl⟩
theorem act_info : (Tryz.prog.info? 75).map (fun i => (i.zero,i.size,i.bytes)) = some (some .nilFunc,1,8) := by kernel_rfl
theorem make_acts (n : Nat) (hn : n ≤ 1000) (w : World) : (Instr.makeSlice 117 (.int .i64 (n : Int)) (.int .i64 (n : Int))).run Tryz.prog w = .ok (.slice (some ⟨w.heap.size,0,none⟩) n n) (w.alloc (.cells (List.replicate n Value.nilFunc).toArray 75)) := by
 obtain ⟨i,hi,hz0,hz1,hz2⟩ := info_parts act_info
 have h := run_make (P:=Tryz.prog) w 117 75 i .nilFunc (by kernel_rfl) hi hz0 .i64 .i64 (n : Int) (n : Int) (by omega) (Int.le_refl _) (by rw [hz2]; omega) (by omega)
 rw [h,hz1,Int.toNat_natCast,Nat.mul_one]
 have e : madeCells (Value.nilFunc).cells n = (List.replicate n Value.nilFunc).toArray := by
  apply Array.toList_inj.1
  exact toList_madeCells_one _ n
 rw [e]
theorem mBlk_r2 {a : Act} {M bM : Nat} {p : Option Addr} {n c q : Nat} (hF : Fm2 a M bM (.slice p n c) q) (hn : n ≤ 1000) (w : World) : (fstC (sndC (sndC mBlkCode))).wp Tryz.prog (OnB fun a' w' => Fm3 a' M bM (w.heap.size + 1) (.slice p n c) q ∧ w' = (w.alloc (.cells (List.replicate n Value.nilFunc).toArray 75)).alloc (.cells #[.slice (some ⟨w.heap.size,0,none⟩) n n] 117)) a w := by
 obtain ⟨gg,rfl⟩ := hF.opens
 have hmk := make_acts n hn
 clear hF
 conv => arg 2; whnf
 go_wp2_with (first | rw [hmk])
 first | exact ⟨rfl,⟨⟨rfl,rfl⟩,rfl,rfl,rfl,rfl,rfl,rfl⟩,rfl⟩ | exact ⟨⟨⟨rfl,rfl⟩,rfl,rfl,rfl,rfl,rfl,rfl⟩,rfl⟩
theorem mBlk_r3 {a : Act} {M bM bA : Nat} {p : Option Addr} {n c q : Nat} (hF : Fm3 a M bM bA (.slice p n c) q) (w : World) : (fstC (fstC (sndC (sndC (sndC mBlkCode))))).wp Tryz.prog (OnB fun a' w' => Fm4 a' M bM bA (.slice p n c) q n 0 ∧ w' = w) a w := by
 obtain ⟨gg,rfl⟩ := hF.opens
 clear hF
 conv => arg 2; whnf
 go_wp2
 exact ⟨rfl,⟨⟨rfl,rfl⟩,rfl,rfl,rfl,rfl,rfl,rfl,rfl,rfl,rfl⟩,rfl⟩
theorem mBlk_test {a : Act} {M bM bA : Nat} {p : Option Addr} {n c q j : Nat} {b : Bool} (hF : Fm4 a M bM bA (.slice p n c) q n j) (w : World) (hb : decide (j < n) = b) : (fstC mBlkRnd).wp Tryz.prog (OnB fun a' w' => Fm4 a' M bM bA (.slice p n c) q n j ∧ slot a' 20 = .bool b ∧ w' = w) a w := by
 obtain ⟨gg,rfl⟩ := hF.opens
 clear hF
 conv => arg 2; whnf
 go_wp2
 exact ⟨rfl,⟨⟨rfl,rfl⟩,rfl,rfl,rfl,rfl,rfl,rfl,rfl,rfl,rfl⟩,rfl,rfl⟩
theorem mBlk_next {a : Act} {M bM bA : Nat} {p : Option Addr} {n c q j : Nat} (hF : Fm4 a M bM bA (.slice p n c) q n j) (hj : j < n) (hn : n ≤ 1000) (w : World) : (sndC (sndC (sndC mBlkRnd))).wp Tryz.prog (OnB fun a' w' => Fm4 a' M bM bA (.slice p n c) q n (j + 1) ∧ w' = w) a w := by
 obtain ⟨gg,rfl⟩ := hF.opens
 have hwr : IntKind.i64.wrap ((j : Int) + 1) = (j : Int) + 1 := by rw [IntKind.wrap_i64]; omega
 clear hF
 conv => arg 2; whnf
 go_wp2
 exact ⟨rfl,⟨⟨rfl,rfl⟩,rfl,rfl,rfl,rfl,rfl,rfl,rfl,rfl,rfl⟩,rfl⟩
theorem mBlk_take {a : Act} {M bM bA : Nat} {gl o n c q j : Nat} (hF : Fm4 a M bM bA (.slice (some ⟨gl,o,none⟩) n c) q n j) (hj : j < n) (w : World) (tk tn : Int) (tx : List UInt8) (ts : Bool) (p1 : Option Addr) (n1 k1 : Nat) (p2 : Option Addr) (n2 k2 : Nat) (p3 : Option Addr) (n3 k3 : Nat)
  (a0 : w.cell? ⟨gl,o + j * 7,none⟩ = some (.int .i64 tk)) (a1 : w.cell? ⟨gl,o + j * 7 + 1,none⟩ = some (.int .i64 tn)) (a2 : w.cell? ⟨gl,o + j * 7 + 2,none⟩ = some (.string ⟨tx.toArray⟩)) (a3 : w.cell? ⟨gl,o + j * 7 + 3,none⟩ = some (.bool ts)) (a4 : w.cell? ⟨gl,o + j * 7 + 4,none⟩ = some (.slice p1 n1 k1)) (a5 : w.cell? ⟨gl,o + j * 7 + 5,none⟩ = some (.slice p2 n2 k2)) (a6 : w.cell? ⟨gl,o + j * 7 + 6,none⟩ = some (.slice p3 n3 k3)) :
  (fstC (inC (fstC (sndC (sndC mBlkRnd))))).wp Tryz.prog (OnB fun a' w' => Fm5 a' M bM bA (.slice (some ⟨gl,o,none⟩) n c) q n j w.heap.size ∧ w' = w.alloc (.cells #[.int .i64 tk,.int .i64 tn,.string ⟨tx.toArray⟩,.bool ts,.slice p1 n1 k1,.slice p2 n2 k2,.slice p3 n3 k3] 89)) a w := by
 obtain ⟨gg,rfl⟩ := hF.opens
 have hjz : (j : Int) < (n : Int) := by omega
 have hj0 : (0 : Int) ≤ (j : Int) := by omega
 clear hF
 conv => arg 2; whnf
 go_wp2
 exact ⟨rfl,⟨⟨rfl,rfl⟩,rfl,rfl,rfl,rfl,rfl,rfl,rfl,rfl,rfl,rfl,rfl⟩,rfl⟩
theorem mBlk_end {a : Act} {M bM bA : Nat} {sl : Value} {q n j : Nat} (hF : Fm4 a M bM bA sl q n j) (w : World) : (sndC (sndC (sndC (sndC (sndC mBlkCode))))).wp Tryz.prog (fun e a' w' => Hid (e = .ret ∧ WdB a' ∧ slot a' 4 = .func (.func 53) #[] #[.pointer (some ⟨bA,0,none⟩),.pointer (some ⟨bM,0,none⟩)] ∧ w' = w)) a w := by
 obtain ⟨gg,rfl⟩ := hF.opens
 clear hF
 conv => arg 2; whnf
 go_wp2
 first | exact ⟨⟨rfl,rfl⟩,rfl⟩ | exact ⟨⟨rfl,rfl⟩,rfl,rfl⟩ | exact ⟨rfl,⟨rfl,rfl⟩,rfl,rfl⟩
end Go.Proofs.YtemdnmfldihalaaGreatDoor.Lr
