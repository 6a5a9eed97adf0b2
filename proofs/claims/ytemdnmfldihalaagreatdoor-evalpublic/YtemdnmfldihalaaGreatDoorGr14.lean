/- Laid together: LfFrame, LfName. -/
import Derived.Test.YtemdnmfldihalaaGreatDoorGr13
namespace Go.Proofs.YtemdnmfldihalaaGreatDoor.Lr
set_option linter.unusedVariables false
set_option linter.unusedSimpArgs false
open Go.ChangeShapes Go.WideShapes Go.ChangeAt Go.RowKit Lg
def cellsM (p : List UInt8 × Nat) : List Value := [.string ⟨p.1.toArray⟩,.pointer (some ⟨p.2,0,none⟩)]
def nestM (w : World) (X : Nat → Prop) (p : List UInt8 × Nat) : Prop := True
theorem cellsM_len (p : List UInt8 × Nat) : (cellsM p).length = 2 := rfl
def RowM (w : World) (lo : Nat) (v : Value) (es : List (List UInt8 × Nat)) : Prop := RowX nestM cellsM 2 116 w lo v es
theorem RowM.scIs {w : World} {lo B : Nat} {v : Value} {es : List (List UInt8 × Nat)} (h : RowM w lo v es) (hl : es.length ≤ 281474976710656) (hB : w.heap.size ≤ B) : ScIs w B es v := by
 rcases RowX.form cellsM_len h with ⟨h1,h2⟩ | ⟨g,cap,h1,h2,h3,h4,h5⟩
 ·exact ⟨none,0,0,h2,by rw [h1]; rfl,Nat.le_refl _,by omega,fun j t hj => by rw [h1] at hj; simp at hj⟩
 ·refine ⟨some ⟨g,0,none⟩,_,cap,h1,rfl,h2,hl,fun j p hp => ⟨g,0,rfl,by omega,⟨?_,?_⟩⟩⟩
  ·rw [Nat.zero_add]; exact h5 j p 0 _ hp rfl
  ·rw [Nat.zero_add]; exact h5 j p 1 _ hp rfl
theorem RowM.own {w w' : World} {lo : Nat} {v : Value} {es : List (List UInt8 × Nat)} (h : RowM w lo v es) (hb : ∀ i,v.ownBlock = some i → w'.heap[i]? = w.heap[i]?) : RowM w' lo v es := by
 refine ⟨?_,fun p hp => trivial⟩
 obtain ⟨h1,h2⟩ := RowX.own h
 refine ⟨h1,?_⟩
 rcases h2 with h2 | ⟨g,cap,cur,a1,a2,a3,a4⟩
 ·exact .inl h2
 ·exact .inr ⟨g,cap,cur,a1,a2,by rw [hb g (by rw [a1]; rfl)]; exact a3,a4⟩
theorem VrIs.keepB {w w' : World} {B : Nat} {vs : List Vr} {sl : Value} (h : VrIs w B vs sl) (hb : ∀ i,i < B → w'.heap[i]? = w.heap[i]?) : VrIs w' B vs sl := by
 obtain ⟨p,n,cap,h1,h2,h3,h4,h5⟩ := h
 refine ⟨p,n,cap,h1,h2,h3,h4,fun j v hj => ?_⟩
 obtain ⟨g,o,k1,k2,k3⟩ := h5 j v hj
 have key : ∀ i,w'.cell? ⟨g,i,none⟩ = w.cell? ⟨g,i,none⟩ := fun i => by unfold World.cell?; simp only [hb g k2]
 exact ⟨g,o,k1,k2,⟨by rw [key]; exact k3.c0,by rw [key]; exact k3.c1,by rw [key]; exact k3.c2⟩⟩
def Own (t : Rt) (sc : List (List UInt8 × Nat)) : List Nat := t.R :: t.M :: t.AO :: (t.ab ++ sc.map Prod.snd)
structure MSt (w : World) (t : Rt) (B : Nat) (rs : List Vr) (A : Value) (sc : List (List UInt8 × Nat)) (nv : Value) : Prop where
 box : Bk w t.M [.pointer (some ⟨t.R,0,none⟩),A,nv] 103
 row : RowM w (t.M + 1) nv sc
 arr : VrIs w B rs A
 hB : B ≤ t.M
 len : sc.length ≤ 900
 sep : Sep t sc
 old : ∀ b ∈ Own t sc,b < w.heap.size
 no : ∀ b,nv.ownBlock = some b → b ∉ Own t sc
 few : rs.length ≤ 1000
 small : ∀ v ∈ rs,v.size ≤ 8
theorem MSt.mkd {w : World} {t : Rt} {B : Nat} {rs : List Vr} {A : Value} {sc : List (List UInt8 × Nat)} {nv : Value} {ns : List Nm} (h : MSt w t B rs A sc nv) (hn : sc.map Prod.fst = ns.map Nm.name) : Mkd w t B rs A sc nv ns :=
 ⟨⟨h.box,h.arr,RowM.scIs h.row (by have := h.len; omega) (Nat.le_refl _),h.hB⟩,h.sep.apart,h.old _ (by simp [Own]),h.few,h.small,hn⟩
theorem MSt.lt {w : World} {t : Rt} {B : Nat} {rs : List Vr} {A : Value} {sc : List (List UInt8 × Nat)} {nv : Value} (h : MSt w t B rs A sc nv) : t.M < w.heap.size := h.box.lt
theorem MSt.own {w : World} {t : Rt} {B : Nat} {rs : List Vr} {A : Value} {sc : List (List UInt8 × Nat)} {nv : Value} (h : MSt w t B rs A sc nv) (i : Nat) (hi : nv.ownBlock = some i) : t.M + 1 ≤ i ∧ i < w.heap.size := (RowX.own h.row).lt i hi
theorem MSt.stay {w w' : World} {t : Rt} {B : Nat} {rs : List Vr} {A : Value} {sc : List (List UInt8 × Nat)} {nv : Value} (h : MSt w t B rs A sc nv) (hs : w.heap.size ≤ w'.heap.size) (hC : w'.heap[t.M]? = w.heap[t.M]?) (hb : ∀ i,i < B → w'.heap[i]? = w.heap[i]?) (hN : ∀ i,nv.ownBlock = some i → w'.heap[i]? = w.heap[i]?) : MSt w' t B rs A sc nv :=
 ⟨by have hx := h.box; unfold Bk at hx ⊢; rw [hC]; exact hx,RowM.own h.row hN,h.arr.keepB hb,h.hB,h.len,h.sep,fun b hb => Nat.lt_of_lt_of_le (h.old b hb) hs,h.no,h.few,h.small⟩
theorem MSt.below {w w' : World} {t : Rt} {B : Nat} {rs : List Vr} {A : Value} {sc : List (List UInt8 × Nat)} {nv : Value} (h : MSt w t B rs A sc nv) (k : Below w.heap.size w w') : MSt w' t B rs A sc nv :=
 h.stay k.size (k.block _ h.lt) (fun i hi => k.block i (by have := h.hB; have := h.lt; omega)) (fun i hi => k.block i (h.own i hi).2)
structure Fc (C : Nat) (nv nv' : Value) (w w' : World) : Prop where
 os : w'.os = w.os
 tape : w'.tape = w.tape
 output : w'.output = w.output
 size : w.heap.size ≤ w'.heap.size
 block : ∀ k,k < w.heap.size → k ≠ C → ¬ nv.ownBlock = some k → w'.heap[k]? = w.heap[k]?
 own : ∀ k,nv'.ownBlock = some k → nv.ownBlock = some k ∨ w.heap.size ≤ k
theorem Fs.fc {C : Nat} {w w' : World} (h : Fs [C] w w') (nv : Value) : Fc C nv nv w w' := ⟨h.os,h.tape,h.output,h.size,fun k hk hc _ => h.block k hk (by simpa using hc),fun k hk => .inl hk⟩
theorem Fc.of_below {C : Nat} {w w' : World} (h : Below w.heap.size w w') (nv : Value) : Fc C nv nv w w' := (Fs.of_below h).fc nv
theorem Fc.trans {C : Nat} {a b c : Value} {u v w : World} (h : Fc C a b u v) (k : Fc C b c v w) : Fc C a c u w := by
 refine ⟨k.os.trans h.os,k.tape.trans h.tape,k.output.trans h.output,Nat.le_trans h.size k.size,fun i hi hc ha => ?_,fun i hi => ?_⟩
 ·refine (k.block i (Nat.lt_of_lt_of_le hi h.size) hc fun hb => ?_).trans (h.block i hi hc ha)
  rcases h.own i hb with e | e
  ·exact ha e
  ·omega
 ·rcases k.own i hi with e | e
  ·exact h.own i e
  ·exact .inr (Nat.le_trans h.size e)
theorem Fc.below {C B : Nat} {nv nv' : Value} {w w' : World} (h : Fc C nv nv' w w') (hB : B ≤ C) (hC : C < w.heap.size) (hn : ∀ i,nv.ownBlock = some i → C + 1 ≤ i) : Below B w w' :=
 ⟨h.os,h.tape,h.output,h.size,fun k hk => h.block k (by omega) (by omega) (fun e => by have := hn k e; omega)⟩
theorem Bk.fc {w w' : World} {C k : Nat} {nv nv' : Value} {l : List Value} {ty : TypeId} (h : Bk w k l ty) (hf : Fc C nv nv' w w') (hk : k ≠ C) (hn : ¬ nv.ownBlock = some k) : Bk w' k l ty := by
 have hl := h.lt
 unfold Bk at h ⊢
 rw [hf.block k hl hk hn]; exact h
theorem Own.snoc {t : Rt} {sc : List (List UInt8 × Nat)} {p : List UInt8 × Nat} {b : Nat} : b ∈ Own t (sc ++ [p]) ↔ b ∈ Own t sc ∨ b = p.2 := by
 simp only [Own,List.map_append,List.map_cons,List.map_nil,List.mem_cons,List.mem_append,List.not_mem_nil,or_false]
 constructor
 ·rintro (h | h | h | h | h | h)
  ·exact .inl (.inl h)
  ·exact .inl (.inr (.inl h))
  ·exact .inl (.inr (.inr (.inl h)))
  ·exact .inl (.inr (.inr (.inr (.inl h))))
  ·exact .inl (.inr (.inr (.inr (.inr h))))
  ·exact .inr h
 ·rintro ((h | h | h | h | h) | h)
  ·exact .inl h
  ·exact .inr (.inl h)
  ·exact .inr (.inr (.inl h))
  ·exact .inr (.inr (.inr (.inl h)))
  ·exact .inr (.inr (.inr (.inr (.inl h))))
  ·exact .inr (.inr (.inr (.inr (.inr h))))
theorem Sep.snoc {t : Rt} {sc : List (List UInt8 × Nat)} {p : List UInt8 × Nat} (h : Sep t sc) (hp : p.2 ∉ Own t sc) : Sep t (sc ++ [p]) := by
 unfold Sep
 unfold Sep at h
 have e : t.R :: t.M :: t.AO :: (t.ab ++ (sc ++ [p]).map Prod.snd) = Own t sc ++ [p.2] := by simp [Own]
 rw [e,List.nodup_append]
 exact ⟨h,by simp,fun a ha b hb => by
  rw [List.mem_singleton] at hb
  rw [hb]
  exact fun e => hp (e ▸ ha)⟩
theorem ms_push {w y2 : World} {t : Rt} {B : Nat} {rs : List Vr} {A : Value} {sc : List (List UInt8 × Nat)} {nv : Value} {g cap : Nat} {nm : List UInt8 × Nat} {ty : TypeId} (h : MSt w t B rs A sc nv) (hnm : nm.2 < w.heap.size) (hnO : nm.2 ∉ Own t sc) (hnv : ¬ nv.ownBlock = some nm.2)
  (hown : y2.ownsRow (t.M + 1) 116 2 (.slice (some ⟨g,0,none⟩) (sc.length + 1) cap) (sc.length + 1) (sc.flatMap cellsM ++ cellsM nm))
  (hgrow : (w.alloc (.cells (cellsM nm).toArray ty)).grownBy y2 nv.ownBlock) (hat : nv.ownBlock = some g ∨ g = w.heap.size + 1) (hlen : sc.length + 1 ≤ 900) :
  MSt (y2.setCell ⟨t.M,2,none⟩ (.slice (some ⟨g,0,none⟩) (sc.length + 1) cap)) t B rs A (sc ++ [nm]) (.slice (some ⟨g,0,none⟩) (sc.length + 1) cap) ∧ Fc t.M nv (.slice (some ⟨g,0,none⟩) (sc.length + 1) cap) w (y2.setCell ⟨t.M,2,none⟩ (.slice (some ⟨g,0,none⟩) (sc.length + 1) cap)) := by
 have hC := h.lt
 have ho := h.own
 have hgC : t.M < g := by
  rcases hat with e | e
  ·have := (ho g e).1; omega
  ·omega
 have hk2 : ∀ i,i < w.heap.size → ¬ nv.ownBlock = some i → y2.heap[i]? = w.heap[i]? := fun i hi hn =>
  (hgrow.block i (by simp; omega) (fun e => hn e.symm)).trans (((Below.refl w.heap.size w).alloc (Nat.le_refl _) _).block i hi)
 have hnC : ¬ nv.ownBlock = some t.M := fun e => by have := (ho t.M e).1; omega
 have hsz : w.heap.size ≤ y2.heap.size := by have := hgrow.size; simp at this; omega
 have hs3 : (y2.setCell ⟨t.M,2,none⟩ (.slice (some ⟨g,0,none⟩) (sc.length + 1) cap)).heap.size = y2.heap.size := by simp [World.setCell]
 have hCb : Bk y2 t.M [.pointer (some ⟨t.R,0,none⟩),A,nv] 103 := by
  have hb := h.box
  unfold Bk at hb ⊢
  rw [hk2 t.M hC hnC]; exact hb
 refine ⟨⟨hCb.set 2 _,?_,?_,h.hB,by simpa using hlen,h.sep.snoc hnO,fun b hb => ?_,fun b hb hm => ?_,h.few,h.small⟩,?_⟩
 ·refine RowM.own (w:=y2) ⟨by rw [List.length_append,List.length_singleton,List.flatMap_append,List.flatMap_singleton]; exact hown,fun p hp => trivial⟩ fun i hi => Below.heap_setCell _ _ _ _ ?_
  have e : g = i := by simpa [Value.ownBlock] using hi
  show i ≠ t.M
  omega
 ·refine h.arr.keepB fun i hi => ?_
  have := h.hB
  rw [Below.heap_setCell _ _ _ _ (by show i ≠ t.M; omega)]
  exact hk2 i (by omega) (fun e => by have := (ho i e).1; omega)
 ·rw [hs3]
  rcases Own.snoc.1 hb with hb | hb
  ·have := h.old b hb; omega
  ·omega
 ·have e : g = b := by simpa [Value.ownBlock] using hb
  subst e
  rcases Own.snoc.1 hm with hm | hm
  ·rcases hat with e | e
   ·exact h.no g e hm
   ·have := h.old g hm; omega
  ·rcases hat with e | e
   ·exact hnv (by rw [← hm]; exact e)
   ·omega
 ·refine ⟨hgrow.os,hgrow.tape,hgrow.output,by rw [hs3]; exact hsz,fun k hk hc hn => ?_,fun k hk => ?_⟩
  ·rw [Below.heap_setCell _ _ _ _ (by show k ≠ t.M; exact hc)]; exact hk2 k hk hn
  ·have e : g = k := by simpa [Value.ownBlock] using hk
   subst e
   rcases hat with e | e
   ·exact .inl e
   ·exact .inr (by omega)
theorem RowM.cut {w : World} {lo : Nat} {p : Option Addr} {n cap : Nat} {ns ex : List (List UInt8 × Nat)} (h : RowM w lo (.slice p n cap) (ns ++ ex)) : RowM w lo (.slice p ns.length cap) ns := by
 refine ⟨?_,fun q hq => trivial⟩
 obtain ⟨h1,h2⟩ := RowX.own h
 have hl : (ns.flatMap cellsM).length = ns.length * 2 := flat_len7 cellsM 2 cellsM_len ns
 refine ⟨hl,?_⟩
 rcases h2 with ⟨e1,e2⟩ | ⟨g,cap',cur,a1,a2,a3,a4,a5,a6,a7⟩
 ·rw [List.length_append] at e2
  injection e1 with e3 e4 e5
  exact .inl ⟨by rw [e3,e5,show ns.length = 0 by omega],by omega⟩
 ·injection a1 with b1 b2 b3
  rw [List.length_append] at a4 a7
  refine .inr ⟨g,cap',cur,by rw [b1,b3],a2,a3,by omega,a5,a6,?_⟩
  have h9 : List.take (ns.length * 2) (List.take ((ns.length + ex.length) * 2) cur.toList) = List.take (ns.length * 2) ((ns ++ ex).flatMap cellsM) := by rw [a7]
  rw [List.take_take,Nat.min_eq_left (by omega),List.flatMap_append,List.take_append_of_le_length (by omega),List.take_of_length_le (l:=ns.flatMap cellsM) (by omega)] at h9
  exact h9
theorem RowM.cap {w : World} {lo : Nat} {p : Option Addr} {n cap : Nat} {ns : List (List UInt8 × Nat)} (h : RowM w lo (.slice p n cap) ns) : n = ns.length ∧ n ≤ cap ∧ cap ≤ maxLen ∧ (p = none → cap = 0 ∧ n = 0) ∧ (∀ a,p = some a → ∃ g,a = ⟨g,0,none⟩) := by
 rcases (RowX.own h).2 with ⟨e1,e2⟩ | ⟨g,cap',cur,a1,a2,a3,a4,a5,a6,a7⟩
 ·injection e1 with e3 e4 e5
  subst e3 e4 e5
  exact ⟨e2.symm,Nat.le_refl _,by decide,fun _ => ⟨rfl,rfl⟩,fun a ha => by cases ha⟩
 ·injection a1 with b1 b2 b3
  subst b1 b2 b3
  exact ⟨rfl,a4,a5,(fun e => by cases e),(fun a ha => by cases ha; exact ⟨g,rfl⟩)⟩
theorem Sep.cut {t : Rt} {sc ex : List (List UInt8 × Nat)} (h : Sep t (sc ++ ex)) : Sep t sc := by
 unfold Sep at h ⊢
 have e : t.R :: t.M :: t.AO :: (t.ab ++ (sc ++ ex).map Prod.snd) = (t.R :: t.M :: t.AO :: (t.ab ++ sc.map Prod.snd)) ++ ex.map Prod.snd := by simp
 rw [e] at h
 exact (List.nodup_append.1 h).1
theorem Own.cut {t : Rt} {sc ex : List (List UInt8 × Nat)} {b : Nat} (h : b ∈ Own t sc) : b ∈ Own t (sc ++ ex) := by
 have e : Own t (sc ++ ex) = Own t sc ++ ex.map Prod.snd := by simp [Own]
 rw [e]; exact List.mem_append.2 (.inl h)
theorem ms_cut {w : World} {t : Rt} {B : Nat} {rs : List Vr} {A : Value} {sc ex : List (List UInt8 × Nat)} {p : Option Addr} {n cap : Nat} (h : MSt w t B rs A (sc ++ ex) (.slice p n cap)) :
  MSt (w.setCell ⟨t.M,2,none⟩ (.slice p sc.length cap)) t B rs A sc (.slice p sc.length cap) ∧ Fc t.M (.slice p n cap) (.slice p sc.length cap) w (w.setCell ⟨t.M,2,none⟩ (.slice p sc.length cap)) := by
 have ho := h.own
 have hs3 : (w.setCell ⟨t.M,2,none⟩ (.slice p sc.length cap)).heap.size = w.heap.size := by simp [World.setCell]
 have hO : (Value.slice p sc.length cap).ownBlock = (Value.slice p n cap).ownBlock := by cases p <;> rfl
 refine ⟨⟨h.box.set 2 _,?_,?_,h.hB,by have := h.len; rw [List.length_append] at this; omega,h.sep.cut,fun b hb => by rw [hs3]; exact h.old b (Own.cut hb),fun b hb hm => h.no b (by rw [← hO]; exact hb) (Own.cut hm),h.few,h.small⟩,?_⟩
 ·refine RowM.own (w:=w) h.row.cut fun i hi => Below.heap_setCell _ _ _ _ ?_
  show i ≠ t.M
  have := (ho i (by rw [← hO]; exact hi)).1
  omega
 ·exact h.arr.keepB fun i hi => Below.heap_setCell _ _ _ _ (by show i ≠ t.M; have := h.hB; omega)
 ·exact ⟨rfl,rfl,rfl,by rw [hs3]; exact Nat.le_refl _,fun k hk hc hn => Below.heap_setCell _ _ _ _ (by show k ≠ t.M; exact hc),fun k hk => .inl (by rw [← hO]; exact hk)⟩
set_option maxHeartbeats 32000000
set_option maxRecDepth 100000
theorem infoM : (Tryz.prog.info? 116).map (fun i => (i.zero,i.size,i.bytes)) = some (some (.agg #[.string ⟨#[]⟩,.pointer none]),2,24) := by kernel_rfl
structure NameP (w : World) (t : Rt) (B : Nat) (rs : List Vr) (A : Value) (sc : List (List UInt8 × Nat)) (nv : Value) (x : List UInt8) (r : Ending) (w' : World) (g : Nat) (nv' : Value) : Prop where
 r : r = .returned (.pointer (some ⟨g,0,none⟩))
 ms : MSt w' t B rs A (sc ++ [(x,g)]) nv'
 fc : Fc t.M nv nv' w w'
 new : w.heap.size ≤ g ∧ g < w'.heap.size
 int : Bk w' g [.int .i64 0] 3
def NameE (w : World) (t : Rt) (B : Nat) (rs : List Vr) (A : Value) (sc : List (List UInt8 × Nat)) (nv : Value) (x : List UInt8) (r : Ending) (w' : World) : Prop := ∃ g nv',NameP w t B rs A sc nv x r w' g nv'
theorem name_lay (t : Rt) (B : Nat) (rs : List Vr) (A : Value) (sc : List (List UInt8 × Nat)) (nv : Value) (x : List UInt8) (w : World) (h : MSt w t B rs A sc nv) (hlen : sc.length + 1 ≤ 900) :
  Calls Tryz.prog 46 #[.pointer (some ⟨t.M,0,none⟩),.string ⟨x.toArray⟩] w fun r w' => NameE w t B rs A sc nv x r w' := by
 obtain ⟨pv,nv',cv,rfl⟩ := RowX.slice h.row
 have hnl := RowX.len h.row
 subst hnl
 obtain ⟨g0,hg0⟩ : ∃ y,w.heap.size = y := ⟨_,rfl⟩
 obtain ⟨w1,hw1⟩ : ∃ y,w.alloc (.cells #[.int .i64 0] 3) = y := ⟨_,rfl⟩
 have hb1 : Below w.heap.size w w1 := by rw [← hw1]; exact (Below.refl _ _).alloc (Nat.le_refl _) _
 have k1 : Bk w1 w.heap.size [.int .i64 0] 3 := by rw [← hw1]; exact Bk.new _ _ _
 rw [hg0] at k1
 obtain ⟨T,hT⟩ : ∃ y,w1.heap.size = y := ⟨_,rfl⟩
 obtain ⟨w2,hw2⟩ : ∃ y,w1.alloc (.cells #[.string ⟨x.toArray⟩,.pointer (some ⟨w.heap.size,0,none⟩)] 116) = y := ⟨_,rfl⟩
 have hb2 : Below w1.heap.size w1 w2 := by rw [← hw2]; exact (Below.refl _ _).alloc (Nat.le_refl _) _
 have k2 : Bk w2 w1.heap.size [.string ⟨x.toArray⟩,.pointer (some ⟨w.heap.size,0,none⟩)] 116 := by rw [← hw2]; exact Bk.new _ _ _
 have hb12 := hb1.trans (hb2.mono hb1.size)
 have hgT : g0 < T := by rw [← hT]; exact k1.lt
 rw [hT,hg0] at k2
 have HKp := keep (h.below hb12)
 have HTp := keep k2
 have HGp := keep (k1.fs (Fs.of_below (l:=[]) hb2) (by simp))
 have HFp := keep (Fc.of_below (C:=t.M) hb12 (.slice pv sc.length cv))
 have HOw := keep h.own
 have HOld := keep h.old
 have HG0 := keep hg0
 have hMg : t.M < g0 := by rw [← hg0]; exact h.lt
 have HNoT : Hid (¬ (Value.slice pv sc.length cv).ownBlock = some T) := fun e => by have := (HOw.out _ e).2; have := HG0.out; omega
 have HNoG : Hid (¬ (Value.slice pv sc.length cv).ownBlock = some g0) := fun e => by have := (HOw.out _ e).2; have := HG0.out; omega
 have HGO : Hid (g0 ∉ Own t sc) := fun e => by have := HOld.out _ e; have := HG0.out; omega
 have HW1 := keep hw1
 have HW2 := keep hw2
 have HT := keep hT
 clear h hw1 hw2 hb1 hb2 hb12 k1 k2 hT hg0
 go_enter Tryz.func46,Tryz.ntmps46
 go_wp2_with (first | rw [HW1.out] | rw [HW2.out])
 rw [HG0.out,HT.out]
 obtain ⟨i0,hi0,j0,j1,j2⟩ := info_parts infoM
 refine wp_region_noPanic ?_
 refine Ord.wpM_begin (fun W' : World => W'.cell? ⟨t.M,2,none⟩ = some (.slice pv sc.length cv) ∧ W'.cell? ⟨T,0,none⟩ = some (.string ⟨x.toArray⟩) ∧ W'.cell? ⟨T,1,none⟩ = some (.pointer (some ⟨g0,0,none⟩))) [0,1,2,3,4,5,6,7] (by kernel_rfl) ?_
 have HKd := keep (HKp.out.below (Below.drew (Below.refl _ _)))
 have HTd : Hid (Bk w2.drew T [.string ⟨x.toArray⟩,.pointer (some ⟨g0,0,none⟩)] 116) := HTp.out
 have HGd : Hid (Bk w2.drew g0 [.int .i64 0] 3) := HGp.out
 have HFd : Hid (Fc t.M (.slice pv sc.length cv) (.slice pv sc.length cv) w w2.drew) := HFp.out.trans ((Fs.of_below (Below.drew (Below.refl _ _))).fc _)
 generalize w2.drew = wd at *
 have HSS : Hid (∀ W' : World,Bk W' t.M [.pointer (some ⟨t.R,0,none⟩),A,.slice pv sc.length cv] 103 → Bk W' T [.string ⟨x.toArray⟩,.pointer (some ⟨g0,0,none⟩)] 116 → (W'.cell? ⟨t.M,2,none⟩ = some (.slice pv sc.length cv) ∧ W'.cell? ⟨T,0,none⟩ = some (.string ⟨x.toArray⟩) ∧ W'.cell? ⟨T,1,none⟩ = some (.pointer (some ⟨g0,0,none⟩)))) := fun W' h1 h2 => ⟨h1.cell 2 rfl,h2.cell 0 rfl,h2.cell 1 rfl⟩
 have hS := HSS.out wd HKd.out.box HTd.out
 have hown := (RowX.own HKd.out.row).alloc (.cells #[.string ⟨x.toArray⟩,.pointer (some ⟨g0,0,none⟩)] 116)
 have HOwd := keep HKd.out.own
 have hCd := HKd.out.lt
 have hTd := HTd.out.lt
 have hGd := HGd.out.lt
 refine Ord.tk (i:=0) (v:=.pointer (some ⟨t.M,0,none⟩)) (hy:=Or.inl ⟨by rfl,by rintro W' ⟨q0,q1,q2⟩; go_simp⟩) (hS:=hS) (h:=?_)
 try simp only [Act.put,Ord.t,Ord.z,Ord.s]
 refine Ord.tk (i:=1) (v:=.pointer (some ⟨t.M,0,none⟩)) (hy:=Or.inl ⟨by rfl,by rintro W' ⟨q0,q1,q2⟩; go_simp⟩) (hS:=hS) (h:=?_)
 try simp only [Act.put,Ord.t,Ord.z,Ord.s]
 refine Ord.tk (i:=2) (v:=.pointer (some ⟨t.M,0,none⟩)) (hy:=Or.inl ⟨by rfl,by rintro W' ⟨q0,q1,q2⟩; go_simp⟩) (hS:=hS) (h:=?_)
 try simp only [Act.put,Ord.t,Ord.z,Ord.s]
 refine Ord.tk (i:=3) (v:=.pointer (some ⟨t.M,2,none⟩)) (hy:=Or.inl ⟨by rfl,by rintro W' ⟨q0,q1,q2⟩; go_simp⟩) (hS:=hS) (h:=?_)
 try simp only [Act.put,Ord.t,Ord.z,Ord.s]
 refine Ord.tk (i:=4) (v:=.slice pv sc.length cv) (hy:=Or.inl ⟨by rfl,by rintro W' ⟨q0,q1,q2⟩; go_simp⟩) (hS:=hS) (h:=?_)
 try simp only [Act.put,Ord.t,Ord.z,Ord.s]
 refine Ord.tk (i:=5) (v:=.agg #[.string ⟨x.toArray⟩,.pointer (some ⟨g0,0,none⟩)]) (hy:=Or.inl ⟨by rfl,by rintro W' ⟨q0,q1,q2⟩; go_simp⟩) (hS:=hS) (h:=?_)
 try simp only [Act.put,Ord.t,Ord.z,Ord.s]
 refine Ord.on (i:=6) (h:=fun K hK => ?_)
 go_simp
 have hb1 : Below wd.heap.size wd (wd.alloc (.cells #[.string ⟨x.toArray⟩,.pointer (some ⟨g0,0,none⟩)] 116)) := (Below.refl _ _).alloc (Nat.le_refl _) _
 refine hK.out _ _ (fun _ => HSS.out _ (HKd.out.below hb1).box (HTd.out.fs (Fs.of_below (l:=[]) hb1) (by simp))) ?_
 clear hK K
 try simp only [Act.put,Ord.t,Ord.z,Ord.s]
 refine Ord.on (i:=7) (h:=fun K hK => ?_)
 refine step_append_lies _ rfl (.tmp 13) (.tmp 15) 101 rfl (t.M + 1) 116 i0 _ 2 24 Tryz.underlying101 hi0 j0 j1 j2 rfl (by decide) (.slice pv sc.length cv) sc.length (sc.flatMap cellsM) rfl hown ⟨wd.heap.size,0,none⟩ 1 1 (cellsM (x,g0)) rfl rfl (fun j u hj => new_cell wd _ _ j u hj) ?c2 (by decide) ?c3 ?c4 ?c5 (wd.heap.size + 1) (by simp) ?_
 case c2 =>
  intro u hu
  simp only [cellsM,List.mem_cons,List.not_mem_nil,or_false] at hu
  rcases hu with rfl | rfl <;> rfl
 case c3 => unfold maxLen; omega
 case c4 => omega
 case c5 => simp; omega
 ·intro g cap y2 hown2 hgrow hat hlt
  have HPush := keep (ms_push (nm:=(x,g0)) (ty:=116) HKd.out hGd HGO.out HNoG.out hown2 hgrow hat (by omega))
  have hk : ∀ i,i < wd.heap.size → ¬ (Value.slice pv sc.length cv).ownBlock = some i → y2.heap[i]? = wd.heap[i]? := fun i hi hn => (hgrow.block i (by simp; omega) (fun e => hn e.symm)).trans (hb1.block i hi)
  have HCb : Hid (Bk y2 t.M [.pointer (some ⟨t.R,0,none⟩),A,.slice pv sc.length cv] 103) := by
   have hb := HKd.out.box
   show Bk _ _ _ _
   unfold Bk at hb ⊢
   rw [hk t.M hCd (fun e => by have := (HOwd.out t.M e).1; omega)]; exact hb
  have HTb : Hid (Bk y2 T [.string ⟨x.toArray⟩,.pointer (some ⟨g0,0,none⟩)] 116) := by
   have hb := HTd.out
   show Bk _ _ _ _
   unfold Bk at hb ⊢
   rw [hk T hTd HNoT.out]; exact hb
  have HGb : Hid (Bk y2 g0 [.int .i64 0] 3) := by
   have hb := HGd.out
   show Bk _ _ _ _
   unfold Bk at hb ⊢
   rw [hk g0 hGd HNoG.out]; exact hb
  refine hK.out _ _ (fun _ => HSS.out _ HCb.out HTb.out) ?_
  clear hK K hown2 hgrow hat hk hS hown
  have cC1 := HCb.out.cell 2 rfl
  have fC1 := HCb.out.fr 2
  try simp only [Act.put,Ord.t,Ord.z,Ord.s]
  refine Ord.on (i:=8) (h:=fun K hK => ?_)
  go_simp
  refine hK.out _ _ (fun h => absurd h (by decide)) ?_
  clear hK K
  try simp only [Act.put,Ord.t,Ord.z,Ord.s]
  refine Ord.on (i:=9) (h:=fun K hK => ?_)
  go_simp
  refine hK.out _ _ (fun h => absurd h (by decide)) ?_
  clear hK K
  try simp only [Act.put,Ord.t,Ord.z,Ord.s]
  refine Ord.on (i:=10) (h:=fun K hK => ?_)
  go_simp
  refine hK.out _ _ (fun h => absurd h (by decide)) ?_
  clear hK K
  try simp only [Act.put,Ord.t,Ord.z,Ord.s]
  refine Ord.wpM_done (by kernel_rfl) ?_ _
  refine NoPanic.normal ?_
  obtain ⟨w5,hw5⟩ : ∃ y,y2.setCell ⟨t.M,2,none⟩ (.slice (some ⟨g,0,none⟩) (sc.length + 1) cap) = y := ⟨_,rfl⟩
  have hf5 : Fs [t.M] y2 w5 := by rw [← hw5]; exact (Fs.refl _ _).set (by simp) _ _
  have hG5 := HGb.out.fs hf5 (by simp; omega)
  have hT5 := HTb.out.fs hf5 (by simp; omega)
  rw [hw5] at HPush
  try rw [hw5]
  have HE : Hid (NameE w t B rs A sc (.slice pv sc.length cv) x (.returned (.pointer (some ⟨g0,0,none⟩))) w5) := ⟨g0,_,rfl,HPush.out.1,HFd.out.trans HPush.out.2,⟨by have := HG0.out; omega,hG5.lt⟩,hG5⟩
  have cT1 := hT5.cell 1 rfl
  clear hf5 hG5 hT5 hw5 HPush HCb HTb HGb cC1 fC1
  go_wp2
  go_ret
  exact HE.out
end Go.Proofs.YtemdnmfldihalaaGreatDoor.Lr
