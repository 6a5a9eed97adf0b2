/- Laid together: LfMBlkI, LfMBlkA. -/
import Derived.Test.YtemdnmfldihalaaGreatDoorGr17
namespace Go.Proofs.YtemdnmfldihalaaGreatDoor.Lr
set_option linter.unusedVariables false
set_option linter.unusedSimpArgs false
open Go.ChangeShapes Go.WideShapes Go.ChangeAt Go.RowKit Lg
structure BlkI (m : Nat) (t : Rt) (B : Nat) (rs : List Vr) (A : Value) (sc : List (List UInt8 × Nat)) (nv : Value) (ns : List Nm) (dark : Bool) (l : List St) (w3 : World) (gA n j : Nat) (scj : List (List UInt8 × Nat)) (nvj : Value) (nsj : List Nm) (vs : List Value) (LL : List Nat) (w' : World) : Prop where
 ms : MSt w' t B rs A scj nvj
 nm : scj.map Prod.fst = nsj.map Nm.name
 os : w'.os = w3.os
 tape : w'.tape = w3.tape
 output : w'.output = w3.output
 size : w3.heap.size ≤ w'.heap.size
 blk : ∀ k,k < w3.heap.size → k ≠ t.M → ¬ nv.ownBlock = some k → k ≠ gA → w'.heap[k]? = w3.heap[k]?
 own : ∀ k,nvj.ownBlock = some k → nv.ownBlock = some k ∨ w3.heap.size ≤ k
 row : Bk w' gA (vs ++ List.replicate (n - j) Value.nilFunc) 75
 len : vs.length = j
 good : GoodM t rs m dark (rowX nvj) w' w3.heap.size sc ns (l.take j) vs LL w'.heap.size scj nsj
 room : scj.length + szL m (l.drop j) ≤ 900
 ints : ∀ b ∈ LL,IntAt w' b
theorem aft_len {sc sc' : List (List UInt8 × Nat)} {ns : List Nm} {s : St} (h1 : sc.map Prod.fst = ns.map Nm.name) (h2 : sc'.map Prod.fst = (aft ns s).map Nm.name) : sc'.length ≤ sc.length + 1 := by
 have e1 := congrArg List.length h1
 have e2 := congrArg List.length h2
 simp only [List.length_map] at e1 e2
 unfold aft at e2
 split at e2
 ·rw [List.length_append,List.length_singleton] at e2; omega
 ·omega
theorem BlkI.step {m : Nat} {t : Rt} {B : Nat} {rs : List Vr} {A : Value} {sc : List (List UInt8 × Nat)} {nv : Value} {ns : List Nm} {dark : Bool} {l : List St} {w3 : World} {gA n j : Nat} {scj : List (List UInt8 × Nat)} {nvj : Value} {nsj : List Nm} {vs : List Value} {LL : List Nat} {w' W W' : World} {s : St} {v nv1 : Value} {sc1 : List (List UInt8 × Nat)} {Ls : List Nat} {r : Ending}
  (h : BlkI m t B rs A sc nv ns dark l w3 gA n j scj nvj nsj vs LL w') (hs : l[j]? = some s) (hjn : j < n) (hwf : wfS m s) (hMg : t.M < gA) (hg3 : gA < w3.heap.size) (hgn : ¬ nv.ownBlock = some gA) (hbW : Below w'.heap.size w' W)
  (hd : MdsP t B rs A scj nvj (CkS rs m dark nsj s) (actS rs m s) W r W' v nv1 sc1 Ls) (hnm1 : sc1.map Prod.fst = (aft nsj s).map Nm.name) :
  BlkI m t B rs A sc nv ns dark l w3 gA n (j + 1) sc1 nv1 (aft nsj s) (vs ++ [v]) (LL ++ Ls) (W'.setCell ⟨gA,j,none⟩ v) := by
 have hMB := h.ms.hB
 have hM3 : t.M < w3.heap.size := by omega
 have hsW := hbW.size
 have hsF := hd.fc.size
 have hs3 := h.size
 have hsz : (W'.setCell ⟨gA,j,none⟩ v).heap.size = W'.heap.size := by simp [World.setCell]
 have hset : ∀ i,i ≠ gA → (W'.setCell ⟨gA,j,none⟩ v).heap[i]? = W'.heap[i]? := fun i hi => Below.heap_setCell _ _ _ _ hi
 have hgj : ¬ nvj.ownBlock = some gA := fun e => by
  rcases h.own gA e with h1 | h1
  ·exact hgn h1
  ·omega
 have hg1 : ¬ nv1.ownBlock = some gA := fun e => by
  rcases hd.fc.own gA e with h1 | h1
  ·exact hgj h1
  ·omega
 have hroom := h.room
 have hdrop : l.drop j = s :: l.drop (j + 1) := drop_cons hs
 rw [hdrop,szL_cons] at hroom
 have hp := szS_pos m s
 have hle := aft_len h.nm hnm1
 have hjl : j < l.length := (List.getElem?_eq_some_iff.1 hs).1
 have htake : l.take (j + 1) = l.take j ++ [s] := by
  rw [List.take_add_one,hs]; rfl
 refine ⟨hd.ms.stay (by rw [hsz]; exact Nat.le_refl _) (hset _ (by omega)) (fun i hi => hset i (by omega)) (fun i hi => hset i (fun e => hg1 (e ▸ hi))),hnm1,hd.fc.os.trans (hbW.os.trans h.os),hd.fc.tape.trans (hbW.tape.trans h.tape),hd.fc.output.trans (hbW.output.trans h.output),by rw [hsz]; omega,fun k h1 h2 h3 h4 => ?_,fun k hk => ?_,?_,by rw [List.length_append,h.len]; rfl,?_,by omega,fun b hb => ?_⟩
 ·rw [hset k h4,hd.fc.block k (by omega) h2 (fun e => by
   rcases h.own k e with q | q
   ·exact h3 q
   ·omega),hbW.block k (by omega)]
  exact h.blk k h1 h2 h3 h4
 ·rcases hd.fc.own k hk with q | q
  ·exact h.own k q
  ·exact .inr (by omega)
 ·have hr : Bk W' gA (vs ++ List.replicate (n - j) Value.nilFunc) 75 := by
   have h0 := h.row
   unfold Bk at h0 ⊢
   rw [hd.fc.block gA (by omega) (by omega) hgj,hbW.block gA (by omega)]; exact h0
  have h1 := hr.set j v
  have e : (vs ++ List.replicate (n - j) Value.nilFunc).set j v = (vs ++ [v]) ++ List.replicate (n - (j + 1)) Value.nilFunc := by
   rw [List.set_append_right _ _ (by rw [h.len]; exact Nat.le_refl _),h.len,Nat.sub_self,show n - j = (n - (j + 1)) + 1 by omega,List.replicate_succ,List.set_cons_zero,List.append_assoc]
   rfl
  rw [e] at h1
  exact h1
 ·rw [htake,hsz]
  have hk : GoodM t rs m dark (rowX nv1) (W'.setCell ⟨gA,j,none⟩ v) w3.heap.size sc ns (l.take j) vs LL w'.heap.size scj nsj := by
   refine h.good.keep (fun i a b c => ?_) (fun b hb a c => ?_)
   ·rw [hset i (by omega),hd.fc.block i (by omega) (by omega) (fun e => c (rowX_mem.2 e)),hbW.block i b]
   ·rcases hd.fc.own b (rowX_mem.1 hb) with q | q
    ·exact rowX_mem.2 q
    ·omega
  refine GoodM.snoc (Nat.le_refl _) hk (lo:=W.heap.size) (h:=W'.heap.size) ⟨fun ks ks1 e hk => by rw [stmtK_aft hwf hk,e],hsW,hsF,fun c hc => ?_,hd.ms.sep.apart,hd.new,hd.more,?_⟩
  ·refine Nat.lt_of_lt_of_le (h.ms.old c ?_) hsW
   simp only [Chg,Own,List.mem_cons,List.mem_append] at hc ⊢
   rcases hc with hc | (hc | hc) | hc
   ·exact .inl hc
   ·exact .inr (.inr (.inr (.inl hc)))
   ·exact .inr (.inr (.inr (.inr hc)))
   ·cases hc
  ·exact hd.good.more (Nat.le_refl _) (Nat.le_refl _) (fun i a b _ _ _ _ => hset i (by omega)) (fun b hb => hb) hd.good.1 (fun b hb _ _ => hb) (fun b hb _ _ => hb) (fun _ _ _ _ _ hs _ => hs)
 ·have hi : IntAt W' b := by
   rcases List.mem_append.1 hb with hb | hb
   ·exact IntAt.fc ((h.ints b hb).below hbW) (h.ms.below hbW) hd.fc
   ·exact hd.ints b hb
  refine hi.set fun e => ?_
  subst e
  obtain ⟨x,hx⟩ := hi
  have hr : Bk W' b (vs ++ List.replicate (n - j) Value.nilFunc) 75 := by
   have h0 := h.row
   unfold Bk at h0 ⊢
   rw [hd.fc.block b (by omega) (by omega) hgj,hbW.block b (by omega)]; exact h0
  unfold Bk at hx hr
  rw [hx] at hr
  injection hr with hr
  injection hr with _ h2 _
  exact absurd h2 (by decide)
theorem BlkI.fin {m : Nat} {t : Rt} {B : Nat} {rs : List Vr} {A : Value} {sc : List (List UInt8 × Nat)} {nv : Value} {ns : List Nm} {dark : Bool} {l : List St} {w w3 : World} {bM bA gA n : Nat} {scj : List (List UInt8 × Nat)} {p : Option Addr} {q cap : Nat} {nsj : List Nm} {vs : List Value} {LL : List Nat} {w' wd : World}
  (h : BlkI m t B rs A sc nv ns dark l w3 gA n n scj (.slice p q cap) nsj vs LL w') (hn : l.length = n) (hn4 : n ≤ 1000) (hwf : ∀ s ∈ l,wfS m s) (hM : MSt w t B rs A sc nv) (h3 : Below w.heap.size w w3) (hbM : w.heap.size ≤ bM ∧ bM < w3.heap.size) (hbA : w.heap.size ≤ bA ∧ bA < w3.heap.size) (hgA : w.heap.size ≤ gA ∧ gA < w3.heap.size) (hne : bM ≠ gA ∧ bA ≠ gA)
  (hcM : w3.cell? ⟨bM,0,none⟩ = some (.pointer (some ⟨t.M,0,none⟩))) (hcA : w3.cell? ⟨bA,0,none⟩ = some (.slice (some ⟨gA,0,none⟩) n n)) (hb : Below w'.heap.size w' wd) :
  MdB m t B rs A sc nv ns dark l w (.returned (.func (.func 53) #[] #[.pointer (some ⟨bA,0,none⟩),.pointer (some ⟨bM,0,none⟩)])) (wd.setCell ⟨t.M,2,none⟩ (.slice p sc.length cap)) := by
 subst hn
 obtain ⟨ex,hex⟩ := h.good.goodL.ext
 subst hex
 have hMw := hM.lt
 have hsd := hb.size
 have hs3 := h.size
 have hs0 := h3.size
 obtain ⟨hms,hfc⟩ := ms_cut (h.ms.below hb)
 have hsz : (wd.setCell ⟨t.M,2,none⟩ (.slice p sc.length cap)).heap.size = wd.heap.size := by simp [World.setCell]
 have hO : (Value.slice p sc.length cap).ownBlock = (Value.slice p q cap).ownBlock := by cases p <;> rfl
 have hownW : ∀ k,(Value.slice p sc.length cap).ownBlock = some k → nv.ownBlock = some k ∨ w3.heap.size ≤ k := fun k hk => h.own k (by rw [← hO]; exact hk)
 have hnew : ∀ b,w.heap.size ≤ b → b < w3.heap.size → b ∉ rowX (.slice p sc.length cap) := fun b h1 h2 hb => by
  rcases hownW b (rowX_mem.1 hb) with e | e
  ·have := (hM.own b e).2; omega
  ·omega
 have hblk : ∀ k,k < w'.heap.size → k ≠ t.M → (wd.setCell ⟨t.M,2,none⟩ (.slice p sc.length cap)).heap[k]? = w'.heap[k]? := fun k h1 h2 => by
  rw [Below.heap_setCell _ _ _ _ h2]; exact hb.block k h1
 have hcell : ∀ b,w.heap.size ≤ b → b < w3.heap.size → b ≠ gA → ∀ v,w3.cell? ⟨b,0,none⟩ = some v → (wd.setCell ⟨t.M,2,none⟩ (.slice p sc.length cap)).cell? ⟨b,0,none⟩ = some v := fun b h1 h2 h3 v hv => by
  rw [World.cell?_of_block (hblk b (by omega) (by omega)),World.cell?_of_block (h.blk b h2 (by omega) (fun e => by have := (hM.own b e).2; omega) h3)]
  exact hv
 have hg := h.good.keep (Ex' := rowX (.slice p sc.length cap)) (w2:=wd.setCell ⟨t.M,2,none⟩ (.slice p sc.length cap)) (fun i a b c => hblk i b (by omega)) (fun b hb _ _ => by rw [rowX_mem] at hb ⊢; rw [← hO]; exact hb)
 rw [List.take_length] at hg
 obtain ⟨g1,g2,g3⟩ := hg.goodL.hi
 refine ⟨_,_,LL,rfl,hms,⟨?_,?_,?_,by rw [hsz]; omega,fun k h1 h2 hh => ?_,fun k hk => ?_⟩,⟨[],by simp⟩,fun c hc => .inl hc,fun b hx => (((h.ints b hx).below hb).set (((h.ints b hx).below hb).ms (h.ms.below hb)).1),fun b hb => ?_,_,_,⟨rfl,enters_of Tryz.func53 (by kernel_rfl) rfl⟩,?_⟩
 ·exact hb.os.trans (h.os.trans h3.os)
 ·exact hb.tape.trans (h.tape.trans h3.tape)
 ·exact hb.output.trans (h.output.trans h3.output)
 ·rw [hblk k (by omega) h2,h.blk k (by omega) h2 hh (by omega),h3.block k h1]
 ·rcases hownW k hk with e | e
  ·exact .inl e
  ·exact .inr (by omega)
 ·have := g2 b hb; rw [hsz]; omega
 ·intro W hK hW mm hR hE hG hc
  rw [hsz] at hW
  have hK2 : KeepX w.heap.size w'.heap.size LL (rowX (.slice p sc.length cap)) (wd.setCell ⟨t.M,2,none⟩ (.slice p sc.length cap)) W := ⟨fun i a b => hK.1 i a (by rw [hsz]; omega),hK.2⟩
  refine block_val t rs m dark l vs LL (rowX (.slice p sc.length cap)) sc _ _ w.heap.size w'.heap.size w3.heap.size bA bM gA hwf hM.sep.apart (fun c hc => ?_) hs0 ⟨hbA.1,hbA.2,hnew bA hbA.1 hbA.2⟩ ⟨hbM.1,hbM.2,hnew bM hbM.1 hbM.2⟩ ⟨hgA.1,hgA.2,hnew gA hgA.1 hgA.2⟩ ns hg.goodL (hcell bA hbA.1 hbA.2 hne.2 _ hcA) (fun j v hv => ?_) (hcell bM hbM.1 hbM.2 hne.1 _ hcM) (by omega) W hK2 (by omega) mm hR ⟨hE,hG⟩ hc
  ·refine hM.old c ?_
   simp only [Chg,Own,List.mem_cons,List.mem_append] at hc ⊢
   rcases hc with hc | (hc | hc) | hc
   ·exact .inl hc
   ·exact .inr (.inr (.inr (.inl hc)))
   ·exact .inr (.inr (.inr (.inr hc)))
   ·cases hc
  ·rw [World.cell?_of_block (hblk gA (by omega) (by omega))]
   exact h.row.cell j (by rw [List.getElem?_append_left (List.getElem?_eq_some_iff.1 hv).1]; exact hv)
set_option maxHeartbeats 32000000
set_option maxRecDepth 100000
theorem BlkI.low {m : Nat} {t : Rt} {B : Nat} {rs : List Vr} {A : Value} {sc : List (List UInt8 × Nat)} {nv : Value} {ns : List Nm} {dark : Bool} {l : List St} {w3 : World} {gA n j : Nat} {scj : List (List UInt8 × Nat)} {nvj : Value} {nsj : List Nm} {vs : List Value} {LL : List Nat} {w' : World}
  (h : BlkI m t B rs A sc nv ns dark l w3 gA n j scj nvj nsj vs LL w') (hMg : t.M < gA) (hg3 : gA < w3.heap.size) (hnv : ∀ i,nv.ownBlock = some i → t.M + 1 ≤ i) : Below B w3 w' :=
 ⟨h.os,h.tape,h.output,h.size,fun k hk => h.blk k (by have := h.ms.hB; omega) (by have := h.ms.hB; omega) (fun e => by have := hnv k e; have := h.ms.hB; omega) (by have := h.ms.hB; omega)⟩
def BlkQ (m : Nat) (t : Rt) (B : Nat) (rs : List Vr) (A : Value) (sc : List (List UInt8 × Nat)) (nv : Value) (ns : List Nm) (dark : Bool) (l : List St) (w3 : World) (bM bA gA : Nat) (sl : Value) (q n j : Nat) (a' : Act) (w' : World) : Prop :=
 Fm4 a' t.M bM bA sl q n j ∧ ∃ scj nvj nsj vs LL,BlkI m t B rs A sc nv ns dark l w3 gA n j scj nvj nsj vs LL w'
def BlkR (m : Nat) (t : Rt) (B : Nat) (rs : List Vr) (A : Value) (sc : List (List UInt8 × Nat)) (nv : Value) (ns : List Nm) (dark : Bool) (l : List St) (w3 : World) (bM bA gA : Nat) (sl : Value) (q n j : Nat) (e : Exit) (a' : Act) (w' : World) : Prop :=
 (e = .normal ∧ j < n ∧ BlkQ m t B rs A sc nv ns dark l w3 bM bA gA sl q n (j + 1) a' w') ∨ (e = .exit 0 ∧ j = n ∧ BlkQ m t B rs A sc nv ns dark l w3 bM bA gA sl q n n a' w')
theorem exitB {next : Act → World → Prop} {Q : Exit → Act → World → Prop} {id : Nat} {a : Act} {w : World} (h : Q (.exit id) a w) : Exit.then next Q (.exit id) a w := h
theorem blk_round (m K : Nat) (ih : MakeS m) (hmK : m ≤ K) (hK10 : K ≤ 10) (t : Rt) (B : Nat) (rs : List Vr) (A : Value) (sc : List (List UInt8 × Nat)) (nv : Value) (ns : List Nm) (dark : Bool) (l : List St) (w3 : World) (bM bA gA q n c j : Nat) (p : Option Addr) (hwf : ∀ s ∈ l,wfS m s) (hln : l.length = n) (hn : n ≤ 1000)
  (hMg : t.M < gA) (hg3 : gA < w3.heap.size) (hnv : ∀ i,nv.ownBlock = some i → t.M + 1 ≤ i) (hgn : ¬ nv.ownBlock = some gA) (hbM : t.M < bM ∧ bM < w3.heap.size ∧ bM ≠ gA ∧ ¬ nv.ownBlock = some bM) (hbA : t.M < bA ∧ bA < w3.heap.size ∧ bA ≠ gA ∧ ¬ nv.ownBlock = some bA)
  (hcM : w3.cell? ⟨bM,0,none⟩ = some (.pointer (some ⟨t.M,0,none⟩))) (hcA : w3.cell? ⟨bA,0,none⟩ = some (.slice (some ⟨gA,0,none⟩) n n))
  (hqa : ∀ j s,l[j]? = some s → ∃ g o s1 s2 s3,p = some ⟨g,o,none⟩ ∧ g < B ∧ StAt w3 g (o + j * 7) s s1 s2 s3 ∧ ExIs w3 B 11 (ar s.args) s1 ∧ StIs w3 B 10 K s.thn s2 ∧ StIs w3 B 10 K s.els s3)
  (a : Act) (w : World) (hjn : j ≤ n) (h : BlkQ m t B rs A sc nv ns dark l w3 bM bA gA (.slice p n c) q n j a w) :
  mBlkRnd.wp Tryz.prog (BlkR m t B rs A sc nv ns dark l w3 bM bA gA (.slice p n c) q n j) a w := by
 obtain ⟨hF,scj,nvj,nsj,vs,LL,hI⟩ := h
 show (Code.seq (fstC mBlkRnd) (Code.seq (Code.cond (.tmp 20) Code.skip (Code.exit 0)) (Code.seq (Code.block 1 (Code.seq (fstC (inC (fstC (sndC (sndC mBlkRnd))))) (sndC (inC (fstC (sndC (sndC mBlkRnd))))))) (sndC (sndC (sndC mBlkRnd)))))).wp Tryz.prog _ a w
 by_cases hj : j < n
 ·refine OnB.go (mBlk_test hF w (b:=true) (decide_eq_true hj)) ?_
  rintro a2 w2 ⟨hF2,hs2,rfl⟩
  refine wp_seq (wp_cond_true (by rw [evalB]; exact hs2) (wp_skip ?_))
  refine wp_seq (wp_block ?_)
  obtain ⟨s,hs⟩ : ∃ s,l[j]? = some s := ⟨_,List.getElem?_eq_getElem (by omega)⟩
  obtain ⟨g,o,s1,s2,s3,rfl,hg,hat,h1,h2,h3⟩ := hqa j s hs
  have hb3 := hI.low hMg hg3 hnv
  have hat := hat.below hb3 hg
  have h1 := h1.below hb3
  have h2 := h2.below hb3
  have h3 := h3.below hb3
  obtain ⟨p1,n1,k1,rfl⟩ := ex_slice h1
  obtain ⟨p2,n2,k2,rfl⟩ := h2.slice
  obtain ⟨p3,n3,k3,rfl⟩ := h3.slice
  refine OnB.go (mBlk_take hF2 hj w2 s.kind s.n s.name s.secret p1 n1 k1 p2 n2 k2 p3 n3 k3 hat.c0 hat.c1 hat.c2 hat.c3 hat.c4 hat.c5 hat.c6) ?_
  rintro a3 wT ⟨hF3,hwT⟩
  have hbT : Below w2.heap.size w2 wT := by rw [hwT]; exact (Below.refl _ _).alloc (Nat.le_refl _) _
  have hkT : Bk wT w2.heap.size [.int .i64 s.kind,.int .i64 s.n,.string ⟨s.name.toArray⟩,.bool s.secret,.slice p1 n1 k1,.slice p2 n2 k2,.slice p3 n3 k3] 89 := by rw [hwT]; exact Bk.new _ _ _
  have hs3 := hI.size
  have hsT := hbT.size
  have hMB := hI.ms.hB
  have hkeep : ∀ b,t.M < b → b < w3.heap.size → b ≠ gA → ¬ nv.ownBlock = some b → w2.heap[b]? = w3.heap[b]? := fun b q1 q2 q3 q4 => hI.blk b q2 (by omega) q4 q3
  have cA : wT.cell? ⟨bA,0,none⟩ = some (.slice (some ⟨gA,0,none⟩) n n) := by
   rw [World.cell?_of_block (hbT.block bA (by omega)),World.cell?_of_block (hkeep bA hbA.1 hbA.2.1 hbA.2.2.1 hbA.2.2.2)]; exact hcA
  have cM : wT.cell? ⟨bM,0,none⟩ = some (.pointer (some ⟨t.M,0,none⟩)) := by
   rw [World.cell?_of_block (hbT.block bM (by omega)),World.cell?_of_block (hkeep bM hbM.1 hbM.2.1 hbM.2.2.1 hbM.2.2.2)]; exact hcM
  have hroom := hI.room
  rw [drop_cons hs,szL_cons] at hroom
  have hnj : ∀ b,nvj.ownBlock = some b → b ≠ gA ∧ b ≠ bM ∧ b ≠ bA ∧ b < w2.heap.size := fun b e => by
   have := (hI.ms.own b e).2
   refine ⟨fun x => ?_,fun x => ?_,fun x => ?_,this⟩
   all_goals
    subst x
    rcases hI.own _ e with y | y
    ·first | exact hgn y | exact hbM.2.2.2 y | exact hbA.2.2.2 y
    ·omega
  have HC : Hid (∀ W,Below wT.heap.size wT W → Calls Tryz.prog 52 #[.pointer (some ⟨t.M,0,none⟩),.agg #[.int .i64 s.kind,.int .i64 s.n,.string ⟨s.name.toArray⟩,.bool s.secret,.slice p1 n1 k1,.slice p2 n2 k2,.slice p3 n3 k3]] W fun r W' => ∃ f d,r = .returned (.func (.func f) #[] d) ∧ (∃ nv1 sc1 Ls,MdsP t B rs A scj nvj (CkS rs m dark nsj s) (actS rs m s) W (.returned (.func (.func f) #[] d)) W' (.func (.func f) #[] d) nv1 sc1 Ls ∧ sc1.map Prod.fst = (aft nsj s).map Nm.name) ∧ (W'.cell? ⟨bA,0,none⟩ = some (.slice (some ⟨gA,0,none⟩) n n) ∧ W'.cell? ⟨bM,0,none⟩ = some (.pointer (some ⟨t.M,0,none⟩)) ∧ Bk W' w2.heap.size [.int .i64 s.kind,.int .i64 s.n,.string ⟨s.name.toArray⟩,.bool s.secret,.slice p1 n1 k1,.slice p2 n2 k2,.slice p3 n3 k3] 89) ∧ ∃ row u,Bk W' gA row 75 ∧ row[j]? = some u) := by
   intro W hW
   have hb2 : Below w2.heap.size w2 W := hbT.trans (hW.mono hbT.size)
   have hBB : Below B w2 W := hb2.mono (by have := hI.ms.lt; omega)
   have hsW := hW.size
   refine (ih K B t rs A scj nvj nsj dark s (.slice p1 n1 k1) (.slice p2 n2 k2) (.slice p3 n3 k3) W hmK hK10 (hwf s (List.mem_of_getElem? hs)) (hI.ms.below hb2) hI.nm (by omega) (h1.below hBB) (h2.below hBB) (h3.below hBB)).mono ?_
   rintro r W' ⟨v,nv1,sc1,Ls,hd,hnm⟩
   obtain ⟨_,k,d,⟨hv,_⟩,_⟩ := id hd.good
   have hr := hd.r
   subst hv
   subst hr
   have hM2 := hI.ms.lt
   have hkp : ∀ b,b < w2.heap.size + 1 → b ≠ t.M → (∀ k,nvj.ownBlock = some k → k ≠ b) → W'.heap[b]? = wT.heap[b]? := fun b q1 q2 q3 => by
    have hst : wT.heap.size = w2.heap.size + 1 := by rw [hwT]; exact Array.size_push ..
    rw [hd.fc.block b (by omega) q2 (fun e => q3 b e rfl),hW.block b (by omega)]
   refine ⟨k,d,rfl,⟨nv1,sc1,Ls,hd,hnm⟩,⟨?_,?_,?_⟩,vs ++ List.replicate (n - j) Value.nilFunc,Value.nilFunc,?_,?_⟩
   ·rw [World.cell?_of_block (hkp bA (by omega) (by omega) (fun k e => (hnj k e).2.2.1))]; exact cA
   ·rw [World.cell?_of_block (hkp bM (by omega) (by omega) (fun k e => (hnj k e).2.1))]; exact cM
   ·have h0 := hkT
    unfold Bk at h0 ⊢
    rw [hkp w2.heap.size (by omega) (by omega) (fun k e x => by have := (hnj k e).2.2.2; omega)]; exact h0
   ·have h0 := hI.row
    unfold Bk at h0 ⊢
    rw [hkp gA (by omega) (by omega) (fun k e => (hnj k e).1),hbT.block gA (by omega)]; exact h0
   ·rw [List.getElem?_append_right (by rw [hI.len]; exact Nat.le_refl _),hI.len,Nat.sub_self,List.getElem?_replicate]
    rw [if_pos (by omega)]
  have hreg := mRnd_reg t bM bA w2.heap.size gA n j s.kind s.n s.name s.secret p1 n1 k1 p2 n2 k2 p3 n3 k3 (fun W W' v => ∃ nv1 sc1 Ls,MdsP t B rs A scj nvj (CkS rs m dark nsj s) (actS rs m s) W (.returned v) W' v nv1 sc1 Ls ∧ sc1.map Prod.fst = (aft nsj s).map Nm.name) (slot a3) wT hj cA cM hkT HC
  rw [← hF3.rnd] at hreg
  refine wp_mono hreg ?_
  rintro e a4 w4 ⟨rfl,W,W',v,hbW,⟨nv1,sc1,Ls,hd,hnm⟩,rfl,rfl⟩
  have hst := hI.step hs hj (hwf s (List.mem_of_getElem? hs)) hMg hg3 hgn (hbT.trans (hbW.mono hbT.size)) hd hnm
  refine wp_mono (mBlk_next (M:=t.M) (bM:=bM) (bA:=bA) (p:=some ⟨g,o,none⟩) (n:=n) (c:=c) (q:=q) (j:=j) ?_ hj hn _) ?_
  ·exact ⟨⟨rfl,rfl⟩,hF3.s0,hF3.s1,rfl,hF3.s4,hF3.s5,rfl,hF3.s17,hF3.s18,hF3.s19⟩
  rintro e a5 w5 ⟨rfl,hF5,rfl⟩
  exact .inl ⟨rfl,hj,hF5,_,_,_,_,_,hst⟩
 ·have hje : j = n := by omega
  subst hje
  refine OnB.go (mBlk_test hF w (b:=false) (decide_eq_false (by omega))) ?_
  rintro a2 w2 ⟨hF2,hs2,rfl⟩
  refine wp_seq (wp_cond_false (by rw [evalB]; exact hs2) (wp_exit ?_))
  exact .inr ⟨rfl,rfl,hF2,_,_,_,_,_,hI⟩
theorem block_make (m : Nat) (ih : MakeS m) : MakeB m := by
 intro K B t rs A sc nv ns dark l sl w hmK hK10 hwf hM hns hroom hsl
 obtain ⟨p,n,c,rfl,hln,hc1,hc2,hqa⟩ := hsl
 have hn : n ≤ 1000 := by have := szL_len m l; omega
 obtain ⟨pn,q,cn,rfl⟩ : ∃ pn q cn,nv = .slice pn q cn := by
  rcases RowX.form cellsM_len hM.row with ⟨_,h⟩ | ⟨g,cap,h,_⟩
  ·exact ⟨_,_,_,h⟩
  ·exact ⟨_,_,_,h⟩
 have hq : q = sc.length := (RowM.cap hM.row).1
 obtain ⟨w1,hw1⟩ : ∃ x,w.alloc (.cells #[.pointer (some ⟨t.M,0,none⟩)] 100) = x := ⟨_,rfl⟩
 obtain ⟨w2,hw2⟩ : ∃ x,w1.alloc (.cells (List.replicate n Value.nilFunc).toArray 75) = x := ⟨_,rfl⟩
 obtain ⟨w3,hw3⟩ : ∃ x,w2.alloc (.cells #[.slice (some ⟨w1.heap.size,0,none⟩) n n] 117) = x := ⟨_,rfl⟩
 have z1 : w1.heap.size = w.heap.size + 1 := by rw [← hw1]; exact Array.size_push ..
 have z2 : w2.heap.size = w.heap.size + 2 := by rw [← hw2]; exact (Array.size_push ..).trans (by omega)
 have z3 : w3.heap.size = w.heap.size + 3 := by rw [← hw3]; exact (Array.size_push ..).trans (by omega)
 have b1 : Below w.heap.size w w1 := by rw [← hw1]; exact (Below.refl _ _).alloc (Nat.le_refl _) _
 have b2 : Below w1.heap.size w1 w2 := by rw [← hw2]; exact (Below.refl _ _).alloc (Nat.le_refl _) _
 have b3 : Below w2.heap.size w2 w3 := by rw [← hw3]; exact (Below.refl _ _).alloc (Nat.le_refl _) _
 have k1 : Bk w1 w.heap.size [.pointer (some ⟨t.M,0,none⟩)] 100 := by rw [← hw1]; exact Bk.new _ _ _
 have k2 : Bk w2 w1.heap.size (List.replicate n Value.nilFunc) 75 := by rw [← hw2]; exact Bk.new _ _ _
 have k3 : Bk w3 w2.heap.size [.slice (some ⟨w1.heap.size,0,none⟩) n n] 117 := by rw [← hw3]; exact Bk.new _ _ _
 have b23 := b2.trans (b3.mono b2.size)
 have b03 : Below w.heap.size w w3 := b1.trans (b23.mono b1.size)
 have k13 := k1.fs (Fs.of_below (l:=[]) b23) (by simp)
 have k23 := k2.fs (Fs.of_below (l:=[]) b3) (by simp)
 have hMl := hM.lt
 have hMB := hM.hB
 have hnv : ∀ i,(Value.slice pn q cn).ownBlock = some i → t.M + 1 ≤ i := fun i e => (hM.own i e).1
 have hno : ∀ b,w.heap.size ≤ b → ¬ (Value.slice pn q cn).ownBlock = some b := fun b hb e => by have := (hM.own b e).2; omega
 have hqa3 : ∀ j s,l[j]? = some s → ∃ g o s1 s2 s3,p = some ⟨g,o,none⟩ ∧ g < B ∧ StAt w3 g (o + j * 7) s s1 s2 s3 ∧ ExIs w3 B 11 (ar s.args) s1 ∧ StIs w3 B 10 K s.thn s2 ∧ StIs w3 B 10 K s.els s3 := fun j s hj => by
  obtain ⟨g,o,s1,s2,s3,q1,q2,q3,q4,q5,q6⟩ := hqa j s hj
  have hb := b03.mono (show B ≤ w.heap.size by omega)
  exact ⟨g,o,s1,s2,s3,q1,q2,q3.below hb q2,q4.below hb,q5.below hb,q6.below hb⟩
 have hI0 : BlkI m t B rs A sc (.slice pn q cn) ns dark l w3 w1.heap.size n 0 sc (.slice pn q cn) ns [] [] w3 :=
  ⟨hM.below b03,hns,rfl,rfl,rfl,Nat.le_refl _,fun _ _ _ _ _ => rfl,fun k hk => .inl hk,by rw [List.nil_append]; exact k23,rfl,⟨rfl,rfl,rfl,Nat.le_refl _⟩,by rw [List.drop_zero]; exact hroom,fun b hb => by cases hb⟩
 go_enter Tryz.func47,Tryz.ntmps47
 show (Code.seq (fstC mBlkCode) (Code.seq (fstC (sndC mBlkCode)) (Code.seq (fstC (sndC (sndC mBlkCode))) (Code.seq (Code.seq (fstC (fstC (sndC (sndC (sndC mBlkCode))))) (Code.block 0 (Code.loop mBlkRnd))) (Code.seq (fstC (sndC (sndC (sndC (sndC mBlkCode))))) (sndC (sndC (sndC (sndC (sndC mBlkCode)))))))))).wp Tryz.prog _ _ w
 refine OnB.go (mBlk_r0 t.M (.slice p n c) w (fun _ => undef)) ?_
 rintro a1 w1' ⟨hF1,hx1⟩
 rw [hw1] at hx1
 subst hx1
 refine OnB.go (mBlk_r1 hF1 w1' pn q cn (k1.cell 0 rfl) ((hM.below b1).box.cell 2 rfl)) ?_
 rintro a2 w1'' ⟨hF2,rfl⟩
 refine OnB.go (mBlk_r2 hF2 hn w1'') ?_
 rintro a3 w3' ⟨hF3,hx3⟩
 rw [hw2,hw3] at hx3
 subst hx3
 rw [show w1''.heap.size + 1 = w2.heap.size by omega] at hF3
 refine OnB.go (c1:=Code.seq (fstC (fstC (sndC (sndC (sndC mBlkCode))))) (Code.block 0 (Code.loop mBlkRnd))) (Q:=BlkQ m t B rs A sc (.slice pn q cn) ns dark l w3' w.heap.size w2.heap.size w1''.heap.size (.slice p n c) q n n) ?_ ?_
 ·refine OnB.go (mBlk_r3 hF3 w3') ?_
  rintro a4 w4 ⟨hF4,rfl⟩
  refine wp_block (wp_loop (fun a' w' => ∃ j,j ≤ n ∧ BlkQ m t B rs A sc (.slice pn q cn) ns dark l w4 w.heap.size w2.heap.size w1''.heap.size (.slice p n c) q n j a' w') (fun a' _ => n - (intOf (slot a' 19)).toNat) ⟨0,Nat.zero_le _,hF4,_,_,_,_,_,hI0⟩ ?_)
  rintro a5 w5 ⟨j,hj,hq5⟩
  have h19 := hq5.1.s19
  refine wp_mono (blk_round m K ih hmK hK10 t B rs A sc (.slice pn q cn) ns dark l w4 w.heap.size w2.heap.size w1''.heap.size q n c j p hwf hln hn (by omega) (by omega) hnv (hno _ (by omega)) ⟨hMl,by omega,by omega,hno _ (Nat.le_refl _)⟩ ⟨by omega,by omega,by omega,hno _ (by omega)⟩ (k13.cell 0 rfl) (k3.cell 0 rfl) hqa3 a5 w5 hj hq5) ?_
  rintro e a6 w6 (⟨rfl,hjn,hq6⟩ | ⟨rfl,hjn,hq6⟩)
  ·refine ⟨⟨j + 1,hjn,hq6⟩,?_⟩
   show n - (intOf (slot a6 19)).toNat < n - (intOf (slot a5 19)).toNat
   rw [h19,hq6.1.s19]
   simp only [intOf]
   omega
  ·refine exitB (inB ?_)
   exact ⟨rfl,hq6⟩
 rintro a6 w6 ⟨hF6,scj,nvj,nsj,vs,LL,hI⟩
 obtain ⟨pj,qj,cj,rfl⟩ : ∃ pj qj cj,nvj = .slice pj qj cj := by
  rcases RowX.form cellsM_len hI.ms.row with ⟨_,h⟩ | ⟨g,cap,h,_⟩
  ·exact ⟨_,_,_,h⟩
  ·exact ⟨_,_,_,h⟩
 obtain ⟨ex,hex⟩ := hI.good.goodL.ext
 have hMS := hI.ms
 rw [hex] at hMS
 have cM : w6.cell? ⟨w.heap.size,0,none⟩ = some (.pointer (some ⟨t.M,0,none⟩)) := by
  rw [World.cell?_of_block (hI.blk w.heap.size (by omega) (by omega) (hno _ (Nat.le_refl _)) (by omega))]; exact k13.cell 0 rfl
 have hreg := mBlk_reg t B rs A sc ex pj qj cj w.heap.size (slot a6) w6 hMS cM
 have hop := hF6.wide.opens
 have e2 := hF6.s2
 have e5 := hF6.s5
 rw [hq] at e5
 rw [e2,e5] at hop
 rw [← hop] at hreg
 refine wp_seq (wp_mono hreg ?_)
 rintro e a7 w7 ⟨rfl,rfl,wd,hbd,rfl⟩
 have hfin := hI.fin (w:=w) (bM:=w.heap.size) (bA:=w2.heap.size) hln hn hwf hM b03 ⟨Nat.le_refl _,by omega⟩ ⟨by omega,by omega⟩ ⟨by omega,by omega⟩ ⟨by omega,by omega⟩ (k13.cell 0 rfl) (k3.cell 0 rfl) hbd
 refine wp_mono (mBlk_end (M:=t.M) (bM:=w.heap.size) (bA:=w2.heap.size) (sl:=.slice p n c) (q:=sc.length) (n:=n) (j:=n) ?_ _) ?_
 ·exact ⟨⟨rfl,rfl⟩,hF6.s0,hF6.s1,rfl,hF6.s4,rfl,hF6.s6,hF6.s17,hF6.s18,hF6.s19⟩
 rintro e a8 w8 h8
 obtain ⟨rfl,hW8,hs8,rfl⟩ := h8.out
 have HE := keep hfin
 have hop8 := hW8.opens
 rw [hs8] at hop8
 generalize slot a8 = gg at hop8
 subst hop8
 clear hfin h8 hW8 hs8 hreg hop e2 e5 cM hMS hI hI0 hqa3 hqa hF6 hF3 hF2 hF1 k13 k23 k1 k2 k3 b1 b2 b3 b23 b03 hM hw1 hw2 hw3
 go_ret
 exact HE.out
end Go.Proofs.YtemdnmfldihalaaGreatDoor.Lr
