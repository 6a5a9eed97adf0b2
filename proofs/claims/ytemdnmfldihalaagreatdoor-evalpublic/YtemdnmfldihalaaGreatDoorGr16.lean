/- Laid together: LfMSet, LfMLet, LfMList, LfMCut, LfMRnd, LfMVia. -/
import Derived.Test.YtemdnmfldihalaaGreatDoorLfMPut
namespace Go.Proofs.YtemdnmfldihalaaGreatDoor.Lr
set_option maxHeartbeats 32000000
set_option maxRecDepth 100000
set_option linter.unusedVariables false
set_option linter.unusedSimpArgs false
open Go.ChangeShapes Go.WideShapes Go.ChangeAt Go.RowKit Lg
theorem set_make (m : Nat) (ih : MakeE m) (K B : Nat) (t : Rt) (rs : List Vr) (A : Value) (sc : List (List UInt8 × Nat)) (nv : Value) (ns : List Nm) (tn : Int) (x : List UInt8) (tsec : Bool) (C : Mm → Prop) (hCx : ∀ mm,C mm → ∃ q,sc.find? (fun v => v.1 == x) = some q) (e : Ex) (s1 s2 s3 : Value) (w : World) (hK : m ≤ K) (hM : Mkd w t B rs A sc nv ns) (hSep : Sep t sc) (hi : ExIs w B (K + 1) (ar [e]) s1) (hs2 : ∃ p n c,s2 = .slice p n c) (hs3 : ∃ p n c,s3 = .slice p n c) (hwf : ∀ a ∈ [e],wfE m a) :
  Calls Tryz.prog 52 #[.pointer (some ⟨t.M,0,none⟩),.agg #[.int .i64 2,.int .i64 tn,.string ⟨x.toArray⟩,.bool tsec,s1,s2,s3]] w fun r w' => MdA t sc rs C (fun mm => withR (evE rs mm.env mm.arr m e) mm.arr mm.work fun n => .go ⟨setE mm.env x n,mm.arr,mm.work⟩) w r w' := by
 obtain ⟨p,n,c,rfl⟩ := ex_slice hi
 obtain ⟨p2,n2,c2,rfl⟩ := hs2
 obtain ⟨p3,n3,c3,rfl⟩ := hs3
 obtain ⟨w1,hw1⟩ : ∃ y,w.alloc (.cells #[.int .i64 2,.int .i64 tn,.string ⟨x.toArray⟩,.bool tsec,.slice p n c,.slice p2 n2 c2,.slice p3 n3 c3] 89) = y := ⟨_,rfl⟩
 have hb1 : Below w.heap.size w w1 := by rw [← hw1]; exact (Below.refl _ _).alloc (Nat.le_refl _) _
 have hbE : Bk w1 w.heap.size [.int .i64 2,.int .i64 tn,.string ⟨x.toArray⟩,.bool tsec,.slice p n c,.slice p2 n2 c2,.slice p3 n3 c3] 89 := by rw [← hw1]; exact Bk.new _ _ _
 have hn : n ≤ 1000 := by have := (ex_args hi).1; dsimp [ar] at this; omega
 have HP := keep (fun w3 (hb : Below w.heap.size w w3) => part_call m ih hK hM hi hn hwf hb 0 e rfl w3 (Below.refl _ _))
 have HW1 := keep hw1
 have HB1 := keep hb1
 have HbE := keep hbE
 have HM := keep hM
 have HS := keep hSep
 have x0 := hbE.cell 0 rfl
 clear hw1 hb1 hbE hi hM hwf ih hSep
 go_enter Tryz.func52,Tryz.ntmps52
 go_wp2_with (first | rw [HW1.out])
 refine wp_region_noPanic ?_
 refine Ord.wpM_begin (fun W' : World => W'.cell? ⟨w.heap.size,2,none⟩ = some (.string ⟨x.toArray⟩) ∧ W'.cell? ⟨w.heap.size,4,none⟩ = some (.slice p n c)) [0,1,2,3,4,5,6,7,8,9,10] (by kernel_rfl) ?_
 have HSS : Hid (∀ W' : World,Below w1.heap.size w1 W' → (W'.cell? ⟨w.heap.size,2,none⟩ = some (.string ⟨x.toArray⟩) ∧ W'.cell? ⟨w.heap.size,4,none⟩ = some (.slice p n c))) := fun W' hW => ⟨keep_cell hW (HbE.out.cell 2 rfl),keep_cell hW (HbE.out.cell 4 rfl)⟩
 have HD : Hid (Below w1.heap.size w1 w1.drew) := Below.drew (Below.refl _ _)
 generalize w1.drew = w2 at *
 have hS := HSS.out w2 HD.out
 refine Ord.tk (i:=0) (v:=.pointer (some ⟨t.M,0,none⟩)) (hy:=Or.inl ⟨by rfl,by rintro W' ⟨q0,q1⟩; go_simp⟩) (hS:=hS) (h:=?_)
 try simp only [Act.put,Ord.t,Ord.z,Ord.s]
 refine Ord.tk (i:=1) (v:=.pointer (some ⟨t.M,0,none⟩)) (hy:=Or.inl ⟨by rfl,by rintro W' ⟨q0,q1⟩; go_simp⟩) (hS:=hS) (h:=?_)
 try simp only [Act.put,Ord.t,Ord.z,Ord.s]
 refine Ord.tk (i:=2) (v:=.pointer (some ⟨w.heap.size,2,none⟩)) (hy:=Or.inl ⟨by rfl,by rintro W' ⟨q0,q1⟩; go_simp⟩) (hS:=hS) (h:=?_)
 try simp only [Act.put,Ord.t,Ord.z,Ord.s]
 refine Ord.tk (i:=3) (v:=.string ⟨x.toArray⟩) (hy:=Or.inl ⟨by rfl,by rintro W' ⟨q0,q1⟩; go_simp⟩) (hS:=hS) (h:=?_)
 try simp only [Act.put,Ord.t,Ord.z,Ord.s]
 refine Ord.tk (i:=5) (v:=.pointer (some ⟨t.M,0,none⟩)) (hy:=Or.inl ⟨by rfl,by rintro W' ⟨q0,q1⟩; go_simp⟩) (hS:=hS) (h:=?_)
 try simp only [Act.put,Ord.t,Ord.z,Ord.s]
 refine Ord.tk (i:=6) (v:=.pointer (some ⟨w.heap.size,4,none⟩)) (hy:=Or.inl ⟨by rfl,by rintro W' ⟨q0,q1⟩; go_simp⟩) (hS:=hS) (h:=?_)
 try simp only [Act.put,Ord.t,Ord.z,Ord.s]
 refine Ord.tk (i:=7) (v:=.slice p n c) (hy:=Or.inl ⟨by rfl,by rintro W' ⟨q0,q1⟩; go_simp⟩) (hS:=hS) (h:=?_)
 try simp only [Act.put,Ord.t,Ord.z,Ord.s]
 refine Ord.on (i:=4) (h:=fun K hK => ?_)
 go_simp
 refine (byName_all t B rs A sc nv x w2 (HM.out.below (HB1.out.trans (HD.out.mono HB1.out.size))).mkr).mono ?_
 rintro r w3 ⟨gq,rfl,hb3,hq⟩
 have HQ := keep hq
 have HB3 := keep (HD.out.trans (hb3.mono HD.out.size))
 clear hb3 hq
 go_simp
 refine hK.out _ _ (fun _ => HSS.out _ HB3.out) ?_
 clear hK K
 try simp only [Act.put,Ord.t,Ord.z,Ord.s]
 refine Ord.on (i:=8) (h:=fun K hK => ?_)
 go_simp
 refine (HP.out w3 (HB1.out.trans (HB3.out.mono HB1.out.size))).mono ?_
 rintro r w4 ⟨v,rfl,hb4,hg4⟩
 obtain ⟨k,d,rfl⟩ := goodE_func _ _ _ _ hg4
 have HG4 := keep hg4
 have HB34 := keep hb4
 have HB4 := keep (HB3.out.trans (hb4.mono HB3.out.size))
 clear hb4 hg4
 go_simp
 refine hK.out _ _ (fun _ => HSS.out _ HB4.out) ?_
 clear hK K
 try simp only [Act.put,Ord.t,Ord.z,Ord.s]
 refine Ord.on (i:=9) (h:=fun K hK => ?_)
 go_simp
 refine (become_make t.M gq k #[] d w4).mono ?_
 intro r w5 hx
 have hb04 := HB1.out.trans (HB4.out.mono HB1.out.size)
 have hz := HB3.out.size
 have hz1 := HB1.out.size
 obtain ⟨v,hr,hb5,hga⟩ : ∃ v,r = .returned v ∧ Below w4.heap.size w4 w5 ∧ GoodA t sc sc rs w5 w.heap.size w5.heap.size [] [] v C (fun mm => withR (evE rs mm.env mm.arr m e) mm.arr mm.work fun n => .go ⟨setE mm.env x n,mm.arr,mm.work⟩) := by
  rcases HQ.out with ⟨q,hq,rfl⟩ | ⟨hq,_⟩
  ·exact hx.set_good (lo:=w.heap.size) (le:=w3.heap.size) (he:=w4.heap.size) (Ex:=[]) (C:=C) hq HS.out HM.out.run hb04.size (by simp) (by omega) (Nat.le_refl _) (by simp) HG4.out
  ·exact hx.no_good (fun mm hc => by obtain ⟨q,h⟩ := hCx mm hc; rw [hq] at h; cases h)
 have HE : Hid (MdA t sc rs C (fun mm => withR (evE rs mm.env mm.arr m e) mm.arr mm.work fun n => .go ⟨setE mm.env x n,mm.arr,mm.work⟩) w r w5) := ⟨v,hr,hb04.trans (hb5.mono hb04.size),hga⟩
 have HB5 := keep (HB4.out.trans (hb5.mono HB4.out.size))
 obtain ⟨_,k2,d2,⟨rfl,_⟩,_⟩ := hga
 subst hr
 clear hx hb5 hb04 hz hz1 HG4 HB34 HB3
 go_simp
 refine hK.out _ _ (fun _ => HSS.out _ HB5.out) ?_
 clear hK K
 try simp only [Act.put,Ord.t,Ord.z,Ord.s]
 refine Ord.on (i:=10) (h:=fun K hK => ?_)
 go_simp
 refine hK.out _ _ (fun _ => HSS.out _ HB5.out) ?_
 clear hK K HB4 HB5
 try simp only [Act.put,Ord.t,Ord.z,Ord.s]
 refine Ord.wpM_done (by kernel_rfl) ?_ _
 refine NoPanic.normal ?_
 clear hS HSS HD HP HM HS HbE HB1
 go_wp2
 go_ret
 exact HE.out
theorem ret_make (m : Nat) (ih : MakeE m) (K B : Nat) (t : Rt) (rs : List Vr) (A : Value) (sc : List (List UInt8 × Nat)) (nv : Value) (ns : List Nm) (C : Mm → Prop) (tn : Int) (x : List UInt8) (tsec : Bool) (e : Ex) (s1 s2 s3 : Value) (w : World) (hK : m ≤ K) (hM : Mkd w t B rs A sc nv ns) (hSep : Sep t sc) (hi : ExIs w B (K + 1) (ar [e]) s1) (hs2 : ∃ p n c,s2 = .slice p n c) (hs3 : ∃ p n c,s3 = .slice p n c) (hwf : ∀ a ∈ [e],wfE m a) :
  Calls Tryz.prog 52 #[.pointer (some ⟨t.M,0,none⟩),.agg #[.int .i64 6,.int .i64 tn,.string ⟨x.toArray⟩,.bool tsec,s1,s2,s3]] w fun r w' => MdA t sc rs C (fun mm => withR (evE rs mm.env mm.arr m e) mm.arr mm.work fun n => .over false n mm.arr mm.work) w r w' := by
 obtain ⟨p,n,c,rfl⟩ := ex_slice hi
 obtain ⟨p2,n2,c2,rfl⟩ := hs2
 obtain ⟨p3,n3,c3,rfl⟩ := hs3
 obtain ⟨w1,hw1⟩ : ∃ y,w.alloc (.cells #[.int .i64 6,.int .i64 tn,.string ⟨x.toArray⟩,.bool tsec,.slice p n c,.slice p2 n2 c2,.slice p3 n3 c3] 89) = y := ⟨_,rfl⟩
 have hb1 : Below w.heap.size w w1 := by rw [← hw1]; exact (Below.refl _ _).alloc (Nat.le_refl _) _
 have hbE : Bk w1 w.heap.size [.int .i64 6,.int .i64 tn,.string ⟨x.toArray⟩,.bool tsec,.slice p n c,.slice p2 n2 c2,.slice p3 n3 c3] 89 := by rw [← hw1]; exact Bk.new _ _ _
 have hn : n ≤ 1000 := by have := (ex_args hi).1; dsimp [ar] at this; omega
 have HP := keep (fun w3 (hb : Below w.heap.size w w3) => part_call m ih hK hM hi hn hwf hb 0 e rfl w3 (Below.refl _ _))
 have HW1 := keep hw1
 have HB1 := keep hb1
 have HbE := keep hbE
 have HM := keep hM
 have HS := keep hSep
 have x0 := hbE.cell 0 rfl
 clear hw1 hb1 hbE hi hM hwf ih hSep
 go_enter Tryz.func52,Tryz.ntmps52
 go_wp2_with (first | rw [HW1.out])
 refine wp_region_noPanic ?_
 refine Ord.wpM_begin (fun W' : World => W'.cell? ⟨w.heap.size,4,none⟩ = some (.slice p n c) ∧ W'.cell? ⟨t.M,0,none⟩ = some (.pointer (some ⟨t.R,0,none⟩))) [0,1,2,3,4,5,6,7,8,9,10,11] (by kernel_rfl) ?_
 have HSS : Hid (∀ W' : World,Below w1.heap.size w1 W' → (W'.cell? ⟨w.heap.size,4,none⟩ = some (.slice p n c) ∧ W'.cell? ⟨t.M,0,none⟩ = some (.pointer (some ⟨t.R,0,none⟩)))) := fun W' hW => ⟨keep_cell hW (HbE.out.cell 4 rfl),keep_cell hW ((HM.out.below HB1.out).mkr.box.cell 0 rfl)⟩
 have HD : Hid (Below w1.heap.size w1 w1.drew) := Below.drew (Below.refl _ _)
 generalize w1.drew = w2 at *
 have hS := HSS.out w2 HD.out
 refine Ord.tk (i:=0) (v:=.pointer (some ⟨t.M,0,none⟩)) (hy:=Or.inl ⟨by rfl,by rintro W' ⟨q0,q1⟩; go_simp⟩) (hS:=hS) (h:=?_)
 try simp only [Act.put,Ord.t,Ord.z,Ord.s]
 refine Ord.tk (i:=1) (v:=.pointer (some ⟨t.M,0,none⟩)) (hy:=Or.inl ⟨by rfl,by rintro W' ⟨q0,q1⟩; go_simp⟩) (hS:=hS) (h:=?_)
 try simp only [Act.put,Ord.t,Ord.z,Ord.s]
 refine Ord.tk (i:=2) (v:=.pointer (some ⟨w.heap.size,4,none⟩)) (hy:=Or.inl ⟨by rfl,by rintro W' ⟨q0,q1⟩; go_simp⟩) (hS:=hS) (h:=?_)
 try simp only [Act.put,Ord.t,Ord.z,Ord.s]
 refine Ord.tk (i:=3) (v:=.slice p n c) (hy:=Or.inl ⟨by rfl,by rintro W' ⟨q0,q1⟩; go_simp⟩) (hS:=hS) (h:=?_)
 try simp only [Act.put,Ord.t,Ord.z,Ord.s]
 refine Ord.tk (i:=5) (v:=.pointer (some ⟨t.M,0,none⟩)) (hy:=Or.inl ⟨by rfl,by rintro W' ⟨q0,q1⟩; go_simp⟩) (hS:=hS) (h:=?_)
 try simp only [Act.put,Ord.t,Ord.z,Ord.s]
 refine Ord.tk (i:=6) (v:=.pointer (some ⟨t.M,0,none⟩)) (hy:=Or.inl ⟨by rfl,by rintro W' ⟨q0,q1⟩; go_simp⟩) (hS:=hS) (h:=?_)
 try simp only [Act.put,Ord.t,Ord.z,Ord.s]
 refine Ord.tk (i:=7) (v:=.pointer (some ⟨t.M,0,none⟩)) (hy:=Or.inl ⟨by rfl,by rintro W' ⟨q0,q1⟩; go_simp⟩) (hS:=hS) (h:=?_)
 try simp only [Act.put,Ord.t,Ord.z,Ord.s]
 refine Ord.tk (i:=8) (v:=.pointer (some ⟨t.R,0,none⟩)) (hy:=Or.inl ⟨by rfl,by rintro W' ⟨q0,q1⟩; go_simp⟩) (hS:=hS) (h:=?_)
 try simp only [Act.put,Ord.t,Ord.z,Ord.s]
 refine Ord.tk (i:=9) (v:=.func (.func 68) #[.pointer (some ⟨t.R,0,none⟩)] #[]) (hy:=Or.inl ⟨by rfl,by rintro W' ⟨q0,q1⟩; go_simp⟩) (hS:=hS) (h:=?_)
 try simp only [Act.put,Ord.t,Ord.z,Ord.s]
 refine Ord.on (i:=4) (h:=fun K hK => ?_)
 go_simp
 refine (HP.out w2 (HB1.out.trans (HD.out.mono HB1.out.size))).mono ?_
 rintro r w4 ⟨v,rfl,hb4,hg4⟩
 obtain ⟨k,d,rfl⟩ := goodE_func _ _ _ _ hg4
 have HG4 := keep hg4
 have HB4 := keep (HD.out.trans (hb4.mono HD.out.size))
 clear hb4 hg4
 go_simp
 refine hK.out _ _ (fun _ => HSS.out _ HB4.out) ?_
 clear hK K
 try simp only [Act.put,Ord.t,Ord.z,Ord.s]
 refine Ord.on (i:=10) (h:=fun K hK => ?_)
 go_simp
 refine (with_make t.M k 68 #[] d #[.pointer (some ⟨t.R,0,none⟩)] #[] w4).mono ?_
 intro r w5 hx
 have hb04 := HB1.out.trans (HB4.out.mono HB1.out.size)
 have hz := HD.out.size
 have hz1 := HB1.out.size
 obtain ⟨v,hr,hb5,hga⟩ := hx.ret_good (lo:=w.heap.size) (le:=w2.heap.size) (he:=w4.heap.size) (Ex:=[]) (C:=C) HS.out HM.out.run hb04.size (by simp) (by omega) (Nat.le_refl _) (by simp) HG4.out
 have HE : Hid (MdA t sc rs C (fun mm => withR (evE rs mm.env mm.arr m e) mm.arr mm.work fun n => .over false n mm.arr mm.work) w r w5) := ⟨v,hr,hb04.trans (hb5.mono hb04.size),hga⟩
 have HB5 := keep (HB4.out.trans (hb5.mono HB4.out.size))
 obtain ⟨_,k2,d2,⟨rfl,_⟩,_⟩ := hga
 subst hr
 clear hx hb5 hb04 hz hz1 HG4
 go_simp
 refine hK.out _ _ (fun _ => HSS.out _ HB5.out) ?_
 clear hK K
 try simp only [Act.put,Ord.t,Ord.z,Ord.s]
 refine Ord.on (i:=11) (h:=fun K hK => ?_)
 go_simp
 refine hK.out _ _ (fun _ => HSS.out _ HB5.out) ?_
 clear hK K HB4 HB5
 try simp only [Act.put,Ord.t,Ord.z,Ord.s]
 refine Ord.wpM_done (by kernel_rfl) ?_ _
 refine NoPanic.normal ?_
 clear hS HSS HD HP HM HS HbE HB1
 go_wp2
 go_ret
 exact HE.out
def rowX (nv : Value) : List Nat := nv.ownBlock.toList
theorem rowX_mem {nv : Value} {b : Nat} : b ∈ rowX nv ↔ nv.ownBlock = some b := by
 unfold rowX
 rw [Option.mem_toList]
structure MdsP (t : Rt) (B : Nat) (rs : List Vr) (A : Value) (sc : List (List UInt8 × Nat)) (nv : Value) (C : Mm → Prop) (f : Mm → Rs) (w : World) (r : Ending) (w' : World) (v nv' : Value) (sc' : List (List UInt8 × Nat)) (Ls : List Nat) : Prop where
 r : r = .returned v
 ms : MSt w' t B rs A sc' nv'
 fc : Fc t.M nv nv' w w'
 more : ∃ ex,sc' = sc ++ ex
 new : ∀ c ∈ sc'.map Prod.snd,c ∈ sc.map Prod.snd ∨ c ∈ Ls
 ints : ∀ b ∈ Ls,IntAt w' b
 good : GoodA t sc sc' rs w' w.heap.size w'.heap.size Ls (rowX nv') v C f
def MdL (t : Rt) (B : Nat) (rs : List Vr) (A : Value) (sc : List (List UInt8 × Nat)) (nv : Value) (x : List UInt8) (C : Mm → Prop) (f : Mm → Rs) (w : World) (r : Ending) (w' : World) : Prop := ∃ v nv' g Ls,MdsP t B rs A sc nv C f w r w' v nv' (sc ++ [(x,g)]) Ls
theorem MdA.mds {t : Rt} {B : Nat} {rs : List Vr} {A : Value} {sc : List (List UInt8 × Nat)} {nv : Value} {C : Mm → Prop} {f : Mm → Rs} {w w' : World} {r : Ending} (h : MdA t sc rs C f w r w') (hM : MSt w t B rs A sc nv) : ∃ v,MdsP t B rs A sc nv C f w r w' v nv sc [] := by
 obtain ⟨v,hr,hb,hl,k,d,hv,hC⟩ := h
 refine ⟨v,hr,hM.below hb,Fc.of_below hb nv,⟨[],by simp⟩,fun c hc => .inl hc,by simp,by simp,k,d,hv,fun W hK hW mm hR hE hG hc => ?_⟩
 exact hC W ⟨fun i h1 h2 _ _ => hK.1 i h1 h2 (by simp) (fun hx => by have := (hM.own i (rowX_mem.1 hx)).2; omega),by simp⟩ hW mm hR hE hG hc
theorem let_make (m : Nat) (ih : MakeE m) (K B : Nat) (t : Rt) (rs : List Vr) (A : Value) (sc : List (List UInt8 × Nat)) (nv : Value) (ns : List Nm) (hns : sc.map Prod.fst = ns.map Nm.name) (tn : Int) (x : List UInt8) (tsec : Bool) (e : Ex) (s1 s2 s3 : Value) (w : World) (hK : m ≤ K) (hM : MSt w t B rs A sc nv) (hlen : sc.length + 1 ≤ 900) (hi : ExIs w B (K + 1) (ar [e]) s1) (hs2 : ∃ p n c,s2 = .slice p n c) (hs3 : ∃ p n c,s3 = .slice p n c) (hwf : ∀ a ∈ [e],wfE m a) (C : Mm → Prop) :
  Calls Tryz.prog 52 #[.pointer (some ⟨t.M,0,none⟩),.agg #[.int .i64 1,.int .i64 tn,.string ⟨x.toArray⟩,.bool tsec,s1,s2,s3]] w fun r w' => MdL t B rs A sc nv x C (fun mm => withR (evE rs mm.env mm.arr m e) mm.arr mm.work fun n => .go ⟨mm.env ++ [(x,n)],mm.arr,mm.work⟩) w r w' := by
 obtain ⟨p,n,c,rfl⟩ := ex_slice hi
 obtain ⟨p2,n2,c2,rfl⟩ := hs2
 obtain ⟨p3,n3,c3,rfl⟩ := hs3
 obtain ⟨w1,hw1⟩ : ∃ y,w.alloc (.cells #[.int .i64 1,.int .i64 tn,.string ⟨x.toArray⟩,.bool tsec,.slice p n c,.slice p2 n2 c2,.slice p3 n3 c3] 89) = y := ⟨_,rfl⟩
 have hb1 : Below w.heap.size w w1 := by rw [← hw1]; exact (Below.refl _ _).alloc (Nat.le_refl _) _
 have hbE : Bk w1 w.heap.size [.int .i64 1,.int .i64 tn,.string ⟨x.toArray⟩,.bool tsec,.slice p n c,.slice p2 n2 c2,.slice p3 n3 c3] 89 := by rw [← hw1]; exact Bk.new _ _ _
 have hn : n ≤ 1000 := by have := (ex_args hi).1; dsimp [ar] at this; omega
 have HP := keep (part_call m ih hK (hM.mkd hns) hi hn hwf hb1 0 e rfl w1 (Below.refl _ _))
 have HW1 := keep hw1
 have HB1 := keep hb1
 have HbE := keep hbE
 have HM := keep hM
 have x0 := hbE.cell 0 rfl
 have x4 := hbE.cell 4 rfl
 clear hw1 hb1 hbE hi hM hwf ih
 go_enter Tryz.func52,Tryz.ntmps52
 go_wp2_with (first | rw [HW1.out])
 refine HP.out.mono ?_
 rintro r w2 ⟨v,rfl,hb2,hg2⟩
 obtain ⟨k,d,rfl⟩ := goodE_func _ _ _ _ hg2
 have HG2 := keep hg2
 have HB2 := keep (HB1.out.trans (hb2.mono HB1.out.size))
 have HB12 := keep hb2
 have x2 := (HbE.out.fs (Fs.of_below (l:=[]) hb2) (by simp)).cell 2 rfl
 clear hb2 hg2 HP x0 x4 HbE
 go_wp2_with fail
 refine (name_lay t B rs A sc nv x w2 (HM.out.below HB2.out) hlen).mono ?_
 rintro r w3 ⟨g,nv',hN⟩
 have hr := hN.r
 subst hr
 have HN := keep hN
 clear hN x2
 go_wp2_with fail
 refine (become_make t.M g k #[] d w3).mono ?_
 intro r w4 hx
 have hs2 := HB2.out.size
 have hs12 := HB12.out.size
 have hs1 := HB1.out.size
 have hs3 := HN.out.fc.size
 have hgn := HN.out.new
 have hOld : ∀ b,nv'.ownBlock = some b → b < w.heap.size ∨ w2.heap.size ≤ b := fun b hb => by
  rcases HN.out.fc.own b hb with h | h
  ·exact .inl (HM.out.own b h).2
  ·exact .inr h
 have G3 : GoodE t sc rs m w3 w1.heap.size w2.heap.size (.func (.func k) #[] d) e := HG2.out.more (Nat.le_refl _) (Nat.le_refl _) (fun i a b => HN.out.fc.block i b (by have := HM.out.lt; omega) (fun hb => by have := (HM.out.own i hb).2; omega))
 obtain ⟨v,hr,hb4,hga⟩ := hx.let_good (x:=x) (lo:=w.heap.size) (le:=w1.heap.size) (he:=w2.heap.size) (Ex:=rowX nv') (C:=C) HN.out.ms.sep (HM.out.old _ (by simp [Own])) (by omega) ⟨by omega,hgn.2⟩ (fun b hb => (HN.out.ms.own b (rowX_mem.1 hb)).2) hs1 (by omega) (.inr hgn.1) (fun b hb => by have := hOld b (rowX_mem.1 hb); omega) G3
 have HE : Hid (MdL t B rs A sc nv x C (fun mm => withR (evE rs mm.env mm.arr m e) mm.arr mm.work fun n => .go ⟨mm.env ++ [(x,n)],mm.arr,mm.work⟩) w r w4) := by
  refine ⟨v,nv',g,[g],hr,HN.out.ms.below hb4,((Fc.of_below HB2.out nv).trans HN.out.fc).trans (Fc.of_below hb4 nv'),⟨_,rfl⟩,fun c hc => ?_,fun b hb => ?_,hga⟩
  ·simp only [List.map_append,List.map_cons,List.map_nil,List.mem_append,List.mem_singleton] at hc ⊢
   exact hc
  ·rw [List.mem_singleton] at hb
   rw [hb]
   exact IntAt.below ⟨0,HN.out.int⟩ hb4
 obtain ⟨_,k2,d2,⟨rfl,_⟩,_⟩ := hga
 subst hr
 clear hx hb4 G3 hOld hgn hs1 hs2 hs3 hs12 HN HG2 HB2 HB12 HB1 HM
 go_wp2
 go_ret
 exact HE.out
structure OneM (t : Rt) (rs : List Vr) (m : Nat) (dark : Bool) (Ex : List Nat) (w1 : World) (B : Nat) (sc : List (List UInt8 × Nat)) (ns : List Nm) (s : St) (v : Value) (lo h : Nat) (Ls : List Nat) (sc1 : List (List UInt8 × Nat)) (ns1 : List Nm) : Prop where
 nms : ∀ ks ks1,ks.ns = ns → stmtK rs m dark s ks = .ok ks1 → ks1.ns = ns1
 bot : B ≤ lo
 top : lo ≤ h
 low : ∀ c ∈ Chg t sc [],c < lo
 ap : Apart t sc1
 new : ∀ c ∈ sc1.map Prod.snd,c ∈ sc.map Prod.snd ∨ c ∈ Ls
 more : ∃ ex,sc1 = sc ++ ex
 good : GoodA t sc sc1 rs w1 lo h Ls Ex v (CkS rs m dark ns s) (actS rs m s)
def GoodM (t : Rt) (rs : List Vr) (m : Nat) (dark : Bool) (Ex : List Nat) (w1 : World) : Nat → List (List UInt8 × Nat) → List Nm → List St → List Value → List Nat → Nat → List (List UInt8 × Nat) → List Nm → Prop
 | B,sc,ns,[],[],LL,hi,sc',ns' => LL = [] ∧ sc' = sc ∧ ns' = ns ∧ B ≤ hi
 | B,sc,ns,s :: l,v :: vs,LL,hi,sc',ns' => ∃ lo h Ls Lr sc1 ns1,OneM t rs m dark Ex w1 B sc ns s v lo h Ls sc1 ns1 ∧ LL = Ls ++ Lr ∧ GoodM t rs m dark Ex w1 h sc1 ns1 l vs Lr hi sc' ns'
 | _,_,_,_,_,_,_,_,_ => False
theorem GoodM.goodL {t : Rt} {rs : List Vr} {m : Nat} {dark : Bool} {Ex : List Nat} {w1 : World} : ∀ {l : List St} {vs : List Value} {B : Nat} {sc : List (List UInt8 × Nat)} {ns : List Nm} {LL : List Nat} {hi : Nat} {sc' : List (List UInt8 × Nat)} {ns' : List Nm},GoodM t rs m dark Ex w1 B sc ns l vs LL hi sc' ns' → GoodL t rs m dark Ex w1 B sc ns l vs LL hi sc'
 | [],[],_,_,_,_,_,_,_,h => ⟨h.1,h.2.1,h.2.2.2⟩
 | [],_ :: _,_,_,_,_,_,_,_,h => h.elim
 | _ :: _,[],_,_,_,_,_,_,_,h => h.elim
 | s :: l,v :: vs,B,sc,ns,LL,hi,sc',ns',h => by
  obtain ⟨lo,h',Ls,Lr,sc1,ns1,ho,hl,hr⟩ := h
  exact ⟨lo,h',Ls,Lr,sc1,ns1,ho.nms,ho.bot,ho.top,ho.low,ho.ap,ho.new,ho.more,ho.good,hl,hr.goodL⟩
theorem GoodM.snoc {t : Rt} {rs : List Vr} {m : Nat} {dark : Bool} {Ex : List Nat} {w1 : World} {s : St} {v : Value} {lo h hi' : Nat} {Ls : List Nat} {sc2 : List (List UInt8 × Nat)} {ns2 : List Nm} (hh : h ≤ hi') : ∀ {l : List St} {vs : List Value} {B : Nat} {sc : List (List UInt8 × Nat)} {ns : List Nm} {LL : List Nat} {hi : Nat} {sc' : List (List UInt8 × Nat)} {ns' : List Nm},GoodM t rs m dark Ex w1 B sc ns l vs LL hi sc' ns' → OneM t rs m dark Ex w1 hi sc' ns' s v lo h Ls sc2 ns2 → GoodM t rs m dark Ex w1 B sc ns (l ++ [s]) (vs ++ [v]) (LL ++ Ls) hi' sc2 ns2
 | [],[],B,sc,ns,LL,hi,sc',ns',h1,h2 => by
  obtain ⟨rfl,rfl,rfl,hB⟩ := h1
  exact ⟨lo,h,Ls,[],sc2,ns2,⟨h2.nms,Nat.le_trans hB h2.bot,h2.top,h2.low,h2.ap,h2.new,h2.more,h2.good⟩,by simp,rfl,rfl,rfl,hh⟩
 | [],_ :: _,_,_,_,_,_,_,_,h1,_ => h1.elim
 | _ :: _,[],_,_,_,_,_,_,_,h1,_ => h1.elim
 | s0 :: l,v0 :: vs,B,sc,ns,LL,hi,sc',ns',h1,h2 => by
  obtain ⟨lo0,h0,Ls0,Lr0,sc1,ns1,ho,hl,hr⟩ := h1
  exact ⟨lo0,h0,Ls0,Lr0 ++ Ls,sc1,ns1,ho,by rw [hl,List.append_assoc],GoodM.snoc hh hr h2⟩
theorem GoodM.keep {t : Rt} {rs : List Vr} {m : Nat} {dark : Bool} {Ex Ex' : List Nat} {w1 w2 : World} : ∀ {l : List St} {vs : List Value} {B : Nat} {sc : List (List UInt8 × Nat)} {ns : List Nm} {LL : List Nat} {hi : Nat} {sc' : List (List UInt8 × Nat)} {ns' : List Nm},GoodM t rs m dark Ex w1 B sc ns l vs LL hi sc' ns' → (∀ i,B ≤ i → i < hi → i ∉ Ex → w2.heap[i]? = w1.heap[i]?) → (∀ b ∈ Ex',B ≤ b → b < hi → b ∈ Ex) → GoodM t rs m dark Ex' w2 B sc ns l vs LL hi sc' ns'
 | [],[],_,_,_,_,_,_,_,h,_,_ => ⟨h.1,h.2.1,h.2.2.1,h.2.2.2⟩
 | [],_ :: _,_,_,_,_,_,_,_,h,_,_ => h.elim
 | _ :: _,[],_,_,_,_,_,_,_,h,_,_ => h.elim
 | s :: l,v :: vs,B,sc,ns,LL,hi,sc',ns',h,hk,hx => by
  obtain ⟨lo,h',Ls,Lr,sc1,ns1,ho,hl,hr⟩ := h
  have hB := ho.bot
  have hlh := ho.top
  have hhi := (hr.goodL).hi.1
  refine ⟨lo,h',Ls,Lr,sc1,ns1,⟨ho.nms,ho.bot,ho.top,ho.low,ho.ap,ho.new,ho.more,?_⟩,hl,hr.keep (fun i a b c => hk i (by omega) b c) (fun b hb a c => hx b hb (by omega) c)⟩
  exact ho.good.more (Nat.le_refl _) (Nat.le_refl _) (fun i a b _ d _ _ => hk i (by omega) (by omega) d) (fun b hb => hb) ho.good.1 (fun b hb _ _ => hb) (fun b hb a c => hx b hb (by omega) (by omega)) (fun _ _ _ _ _ hs _ => hs)
noncomputable def mBlkCode : Code := Tryz.f47.body.getD .skip
def mBlkP (t : Rt) (bM : Nat) (sc : List (List UInt8 × Nat)) (p : Option Addr) (q cap : Nat) (g : Nat → Value) (w : World) (e : Exit) (a' : Act) (w' : World) : Prop := e = .normal ∧ a' = ⟨#[g 0,g 1,.pointer (some ⟨bM,0,none⟩),g 3,g 4,.int .i64 (sc.length : Int),g 6,g 7,g 8,g 9,g 10,g 11,g 12,g 13,g 14,g 15,g 16,g 17,g 18,g 19,g 20,g 21,g 22,g 23,g 24,g 25,g 26,g 27,g 28,g 29,g 30,.pointer (some ⟨t.M,0,none⟩),.pointer (some ⟨t.M,0,none⟩),.pointer (some ⟨t.M,0,none⟩),.pointer (some ⟨t.M,2,none⟩),.slice p q cap,.int .i64 (sc.length : Int),.slice p sc.length cap,.pointer (some ⟨t.M,0,none⟩),.pointer (some ⟨t.M,2,none⟩),g 40],[]⟩ ∧ ∃ wd,Below w.heap.size w wd ∧ w' = wd.setCell ⟨t.M,2,none⟩ (.slice p sc.length cap)
theorem mBlk_reg (t : Rt) (B : Nat) (rs : List Vr) (A : Value) (sc ex : List (List UInt8 × Nat)) (p : Option Addr) (q cap : Nat) (bM : Nat) (g : Nat → Value) (w : World) (hM : MSt w t B rs A (sc ++ ex) (.slice p q cap)) (hb : w.cell? ⟨bM,0,none⟩ = some (.pointer (some ⟨t.M,0,none⟩))) : (fstC (sndC (sndC (sndC (sndC mBlkCode))))).wp Tryz.prog (mBlkP t bM sc p q cap g w) ⟨#[g 0,g 1,.pointer (some ⟨bM,0,none⟩),g 3,g 4,.int .i64 (sc.length : Int),g 6,g 7,g 8,g 9,g 10,g 11,g 12,g 13,g 14,g 15,g 16,g 17,g 18,g 19,g 20,g 21,g 22,g 23,g 24,g 25,g 26,g 27,g 28,g 29,g 30,g 31,g 32,g 33,g 34,g 35,g 36,g 37,g 38,g 39,g 40],[]⟩ w := by
 have hcap := RowM.cap hM.row
 have hl1 : sc.length ≤ cap := by have := hcap.2.1; have := hcap.1; rw [List.length_append] at this; omega
 have hlm : sc.length ≤ 900 := by have := hM.len; rw [List.length_append] at this; omega
 conv => arg 2; whnf
 refine wp_region_noPanic ?_
 refine Ord.wpM_begin (fun W' : World => W'.cell? ⟨bM,0,none⟩ = some (.pointer (some ⟨t.M,0,none⟩)) ∧ W'.cell? ⟨t.M,2,none⟩ = some (.slice p q cap)) [0,1,2,3,4,5,6] (by kernel_rfl) ?_
 have HD : Hid (Below w.heap.size w w.drew) := Below.drew (Below.refl _ _)
 generalize w.drew = wd at *
 have hbx := (hM.below HD.out).box
 have hS : wd.cell? ⟨bM,0,none⟩ = some (.pointer (some ⟨t.M,0,none⟩)) ∧ wd.cell? ⟨t.M,2,none⟩ = some (.slice p q cap) := ⟨keep_cell HD.out hb,hbx.cell 2 rfl⟩
 have f2 := hbx.fr 2
 have c2 := hbx.cell 2 rfl
 clear hM hb hbx hcap
 refine Ord.tk (i:=0) (v:=.pointer (some ⟨t.M,0,none⟩)) (hy:=Or.inl ⟨by rfl,by rintro W' ⟨q0,q1⟩; go_simp⟩) (hS:=hS) (h:=?_)
 try simp only [Act.put,Ord.t,Ord.z,Ord.s]
 refine Ord.tk (i:=1) (v:=.pointer (some ⟨t.M,0,none⟩)) (hy:=Or.inl ⟨by rfl,by rintro W' ⟨q0,q1⟩; go_simp⟩) (hS:=hS) (h:=?_)
 try simp only [Act.put,Ord.t,Ord.z,Ord.s]
 refine Ord.tk (i:=2) (v:=.pointer (some ⟨t.M,0,none⟩)) (hy:=Or.inl ⟨by rfl,by rintro W' ⟨q0,q1⟩; go_simp⟩) (hS:=hS) (h:=?_)
 try simp only [Act.put,Ord.t,Ord.z,Ord.s]
 refine Ord.tk (i:=3) (v:=.pointer (some ⟨t.M,2,none⟩)) (hy:=Or.inl ⟨by rfl,by rintro W' ⟨q0,q1⟩; go_simp⟩) (hS:=hS) (h:=?_)
 try simp only [Act.put,Ord.t,Ord.z,Ord.s]
 refine Ord.tk (i:=4) (v:=.slice p q cap) (hy:=Or.inl ⟨by rfl,by rintro W' ⟨q0,q1⟩; go_simp⟩) (hS:=hS) (h:=?_)
 try simp only [Act.put,Ord.t,Ord.z,Ord.s]
 refine Ord.tk (i:=5) (v:=.int .i64 (sc.length : Int)) (hy:=Or.inl ⟨by rfl,by rintro W' ⟨q0,q1⟩; go_simp⟩) (hS:=hS) (h:=?_)
 try simp only [Act.put,Ord.t,Ord.z,Ord.s]
 refine Ord.tk (i:=6) (v:=.slice p sc.length cap) (hy:=Or.inl ⟨by rfl,by rintro W' ⟨q0,q1⟩; go_simp⟩) (hS:=hS) (h:=?_)
 try simp only [Act.put,Ord.t,Ord.z,Ord.s]
 refine Ord.on (i:=7) (h:=fun K hK => ?_)
 go_simp
 refine hK.out _ _ (fun h => absurd h (by decide)) ?_
 clear hK K
 try simp only [Act.put,Ord.t,Ord.z,Ord.s]
 refine Ord.on (i:=8) (h:=fun K hK => ?_)
 go_simp
 refine hK.out _ _ (fun h => absurd h (by decide)) ?_
 clear hK K
 try simp only [Act.put,Ord.t,Ord.z,Ord.s]
 refine Ord.on (i:=9) (h:=fun K hK => ?_)
 go_simp
 refine hK.out _ _ (fun h => absurd h (by decide)) ?_
 clear hK K
 try simp only [Act.put,Ord.t,Ord.z,Ord.s]
 refine Ord.wpM_done (by kernel_rfl) ?_ _
 refine NoPanic.normal ?_
 exact ⟨rfl,rfl,wd,HD.out,rfl⟩
noncomputable def mLoopCode : Code := Tryz.f66.body.getD .skip
def mLoopP (t : Rt) (bM : Nat) (sc : List (List UInt8 × Nat)) (p : Option Addr) (q cap : Nat) (g : Nat → Value) (w : World) (e : Exit) (a' : Act) (w' : World) : Prop := e = .normal ∧ a' = ⟨#[g 0,g 1,.pointer (some ⟨bM,0,none⟩),g 3,g 4,.int .i64 (sc.length : Int),g 6,g 7,g 8,g 9,g 10,g 11,g 12,g 13,g 14,g 15,g 16,g 17,g 18,g 19,g 20,g 21,g 22,g 23,g 24,.pointer (some ⟨t.M,0,none⟩),.pointer (some ⟨t.M,0,none⟩),.pointer (some ⟨t.M,0,none⟩),.pointer (some ⟨t.M,2,none⟩),.slice p q cap,.int .i64 (sc.length : Int),.slice p sc.length cap,.pointer (some ⟨t.M,0,none⟩),.pointer (some ⟨t.M,2,none⟩),g 34],[]⟩ ∧ ∃ wd,Below w.heap.size w wd ∧ w' = wd.setCell ⟨t.M,2,none⟩ (.slice p sc.length cap)
theorem mLoop_reg (t : Rt) (B : Nat) (rs : List Vr) (A : Value) (sc ex : List (List UInt8 × Nat)) (p : Option Addr) (q cap : Nat) (bM : Nat) (g : Nat → Value) (w : World) (hM : MSt w t B rs A (sc ++ ex) (.slice p q cap)) (hb : w.cell? ⟨bM,0,none⟩ = some (.pointer (some ⟨t.M,0,none⟩))) : (fstC (sndC (sndC (sndC (sndC (sndC mLoopCode)))))).wp Tryz.prog (mLoopP t bM sc p q cap g w) ⟨#[g 0,g 1,.pointer (some ⟨bM,0,none⟩),g 3,g 4,.int .i64 (sc.length : Int),g 6,g 7,g 8,g 9,g 10,g 11,g 12,g 13,g 14,g 15,g 16,g 17,g 18,g 19,g 20,g 21,g 22,g 23,g 24,g 25,g 26,g 27,g 28,g 29,g 30,g 31,g 32,g 33,g 34],[]⟩ w := by
 have hcap := RowM.cap hM.row
 have hl1 : sc.length ≤ cap := by have := hcap.2.1; have := hcap.1; rw [List.length_append] at this; omega
 have hlm : sc.length ≤ 900 := by have := hM.len; rw [List.length_append] at this; omega
 conv => arg 2; whnf
 refine wp_region_noPanic ?_
 refine Ord.wpM_begin (fun W' : World => W'.cell? ⟨bM,0,none⟩ = some (.pointer (some ⟨t.M,0,none⟩)) ∧ W'.cell? ⟨t.M,2,none⟩ = some (.slice p q cap)) [0,1,2,3,4,5,6] (by kernel_rfl) ?_
 have HD : Hid (Below w.heap.size w w.drew) := Below.drew (Below.refl _ _)
 generalize w.drew = wd at *
 have hbx := (hM.below HD.out).box
 have hS : wd.cell? ⟨bM,0,none⟩ = some (.pointer (some ⟨t.M,0,none⟩)) ∧ wd.cell? ⟨t.M,2,none⟩ = some (.slice p q cap) := ⟨keep_cell HD.out hb,hbx.cell 2 rfl⟩
 have f2 := hbx.fr 2
 have c2 := hbx.cell 2 rfl
 clear hM hb hbx hcap
 refine Ord.tk (i:=0) (v:=.pointer (some ⟨t.M,0,none⟩)) (hy:=Or.inl ⟨by rfl,by rintro W' ⟨q0,q1⟩; go_simp⟩) (hS:=hS) (h:=?_)
 try simp only [Act.put,Ord.t,Ord.z,Ord.s]
 refine Ord.tk (i:=1) (v:=.pointer (some ⟨t.M,0,none⟩)) (hy:=Or.inl ⟨by rfl,by rintro W' ⟨q0,q1⟩; go_simp⟩) (hS:=hS) (h:=?_)
 try simp only [Act.put,Ord.t,Ord.z,Ord.s]
 refine Ord.tk (i:=2) (v:=.pointer (some ⟨t.M,0,none⟩)) (hy:=Or.inl ⟨by rfl,by rintro W' ⟨q0,q1⟩; go_simp⟩) (hS:=hS) (h:=?_)
 try simp only [Act.put,Ord.t,Ord.z,Ord.s]
 refine Ord.tk (i:=3) (v:=.pointer (some ⟨t.M,2,none⟩)) (hy:=Or.inl ⟨by rfl,by rintro W' ⟨q0,q1⟩; go_simp⟩) (hS:=hS) (h:=?_)
 try simp only [Act.put,Ord.t,Ord.z,Ord.s]
 refine Ord.tk (i:=4) (v:=.slice p q cap) (hy:=Or.inl ⟨by rfl,by rintro W' ⟨q0,q1⟩; go_simp⟩) (hS:=hS) (h:=?_)
 try simp only [Act.put,Ord.t,Ord.z,Ord.s]
 refine Ord.tk (i:=5) (v:=.int .i64 (sc.length : Int)) (hy:=Or.inl ⟨by rfl,by rintro W' ⟨q0,q1⟩; go_simp⟩) (hS:=hS) (h:=?_)
 try simp only [Act.put,Ord.t,Ord.z,Ord.s]
 refine Ord.tk (i:=6) (v:=.slice p sc.length cap) (hy:=Or.inl ⟨by rfl,by rintro W' ⟨q0,q1⟩; go_simp⟩) (hS:=hS) (h:=?_)
 try simp only [Act.put,Ord.t,Ord.z,Ord.s]
 refine Ord.on (i:=7) (h:=fun K hK => ?_)
 go_simp
 refine hK.out _ _ (fun h => absurd h (by decide)) ?_
 clear hK K
 try simp only [Act.put,Ord.t,Ord.z,Ord.s]
 refine Ord.on (i:=8) (h:=fun K hK => ?_)
 go_simp
 refine hK.out _ _ (fun h => absurd h (by decide)) ?_
 clear hK K
 try simp only [Act.put,Ord.t,Ord.z,Ord.s]
 refine Ord.on (i:=9) (h:=fun K hK => ?_)
 go_simp
 refine hK.out _ _ (fun h => absurd h (by decide)) ?_
 clear hK K
 try simp only [Act.put,Ord.t,Ord.z,Ord.s]
 refine Ord.wpM_done (by kernel_rfl) ?_ _
 refine NoPanic.normal ?_
 exact ⟨rfl,rfl,wd,HD.out,rfl⟩
def mRndP (t : Rt) (bM bA bT gA n k : Nat) (tk tn : Int) (tx : List UInt8) (ts : Bool) (p1 : Option Addr) (n1 k1 : Nat) (p2 : Option Addr) (n2 k2 : Nat) (p3 : Option Addr) (n3 k3 : Nat) (R : World → World → Value → Prop) (g : Nat → Value) (w : World) (e : Exit) (a' : Act) (w' : World) : Prop := e = .normal ∧ ∃ (W W' : World) (v : Value),Below w.heap.size w W ∧ R W W' v ∧ a' = ⟨#[g 0,g 1,.pointer (some ⟨bM,0,none⟩),g 3,g 4,g 5,.pointer (some ⟨bA,0,none⟩),.int .i64 (k : Int),.pointer (some ⟨bT,0,none⟩),g 9,g 10,g 11,g 12,g 13,g 14,g 15,g 16,g 17,g 18,g 19,g 20,g 21,g 22,g 23,.slice (some ⟨gA,0,none⟩) n n,.int .i64 (k : Int),.pointer (some ⟨t.M,0,none⟩),.agg #[.int .i64 tk,.int .i64 tn,.string ⟨tx.toArray⟩,.bool ts,.slice p1 n1 k1,.slice p2 n2 k2,.slice p3 n3 k3],v,.pointer (some ⟨gA,k,none⟩),g 30,g 31,g 32,g 33,g 34,g 35,g 36,g 37,g 38,g 39,g 40],[]⟩ ∧ w' = W'.setCell ⟨gA,k,none⟩ v
theorem mRnd_reg (t : Rt) (bM bA bT gA n k : Nat) (tk tn : Int) (tx : List UInt8) (ts : Bool) (p1 : Option Addr) (n1 k1 : Nat) (p2 : Option Addr) (n2 k2 : Nat) (p3 : Option Addr) (n3 k3 : Nat) (R : World → World → Value → Prop) (g : Nat → Value) (w : World) (hk : k < n) (hA : w.cell? ⟨bA,0,none⟩ = some (.slice (some ⟨gA,0,none⟩) n n)) (hb : w.cell? ⟨bM,0,none⟩ = some (.pointer (some ⟨t.M,0,none⟩))) (hT : Bk w bT [.int .i64 tk,.int .i64 tn,.string ⟨tx.toArray⟩,.bool ts,.slice p1 n1 k1,.slice p2 n2 k2,.slice p3 n3 k3] 89) (HC : Hid (∀ W,Below w.heap.size w W → Calls Tryz.prog 52 #[.pointer (some ⟨t.M,0,none⟩),.agg #[.int .i64 tk,.int .i64 tn,.string ⟨tx.toArray⟩,.bool ts,.slice p1 n1 k1,.slice p2 n2 k2,.slice p3 n3 k3]] W fun r W' => ∃ f d,r = .returned (.func (.func f) #[] d) ∧ R W W' (.func (.func f) #[] d) ∧ (W'.cell? ⟨bA,0,none⟩ = some (.slice (some ⟨gA,0,none⟩) n n) ∧ W'.cell? ⟨bM,0,none⟩ = some (.pointer (some ⟨t.M,0,none⟩)) ∧ Bk W' bT [.int .i64 tk,.int .i64 tn,.string ⟨tx.toArray⟩,.bool ts,.slice p1 n1 k1,.slice p2 n2 k2,.slice p3 n3 k3] 89) ∧ ∃ row u,Bk W' gA row 75 ∧ row[k]? = some u)) : (sndC (inC (fstC (sndC (sndC (rndC (inC (sndC (fstC (sndC (sndC (sndC mBlkCode)))))))))))).wp Tryz.prog (mRndP t bM bA bT gA n k tk tn tx ts p1 n1 k1 p2 n2 k2 p3 n3 k3 R g w) ⟨#[g 0,g 1,.pointer (some ⟨bM,0,none⟩),g 3,g 4,g 5,.pointer (some ⟨bA,0,none⟩),.int .i64 (k : Int),.pointer (some ⟨bT,0,none⟩),g 9,g 10,g 11,g 12,g 13,g 14,g 15,g 16,g 17,g 18,g 19,g 20,g 21,g 22,g 23,g 24,g 25,g 26,g 27,g 28,g 29,g 30,g 31,g 32,g 33,g 34,g 35,g 36,g 37,g 38,g 39,g 40],[]⟩ w := by
 have hkz : (k : Int) < (n : Int) := by omega
 have hk0 : (0 : Int) ≤ (k : Int) := by omega
 conv => arg 2; whnf
 refine wp_region_noPanic ?_
 refine Ord.wpM_begin (fun W' : World => W'.cell? ⟨bA,0,none⟩ = some (.slice (some ⟨gA,0,none⟩) n n) ∧ W'.cell? ⟨bM,0,none⟩ = some (.pointer (some ⟨t.M,0,none⟩)) ∧ W'.cell? ⟨bT,0,none⟩ = some (.int .i64 tk) ∧ W'.cell? ⟨bT,1,none⟩ = some (.int .i64 tn) ∧ W'.cell? ⟨bT,2,none⟩ = some (.string ⟨tx.toArray⟩) ∧ W'.cell? ⟨bT,3,none⟩ = some (.bool ts) ∧ W'.cell? ⟨bT,4,none⟩ = some (.slice p1 n1 k1) ∧ W'.cell? ⟨bT,5,none⟩ = some (.slice p2 n2 k2) ∧ W'.cell? ⟨bT,6,none⟩ = some (.slice p3 n3 k3)) [0,1,2,3,4] (by kernel_rfl) ?_
 have HD : Hid (Below w.heap.size w w.drew) := Below.drew (Below.refl _ _)
 generalize w.drew = wd at *
 have hT2 := hT.fs (Fs.of_below (l:=[]) HD.out) (by simp)
 have hS : wd.cell? ⟨bA,0,none⟩ = some (.slice (some ⟨gA,0,none⟩) n n) ∧ wd.cell? ⟨bM,0,none⟩ = some (.pointer (some ⟨t.M,0,none⟩)) ∧ wd.cell? ⟨bT,0,none⟩ = some (.int .i64 tk) ∧ wd.cell? ⟨bT,1,none⟩ = some (.int .i64 tn) ∧ wd.cell? ⟨bT,2,none⟩ = some (.string ⟨tx.toArray⟩) ∧ wd.cell? ⟨bT,3,none⟩ = some (.bool ts) ∧ wd.cell? ⟨bT,4,none⟩ = some (.slice p1 n1 k1) ∧ wd.cell? ⟨bT,5,none⟩ = some (.slice p2 n2 k2) ∧ wd.cell? ⟨bT,6,none⟩ = some (.slice p3 n3 k3) := ⟨keep_cell HD.out hA,keep_cell HD.out hb,hT2.cell 0 rfl,hT2.cell 1 rfl,hT2.cell 2 rfl,hT2.cell 3 rfl,hT2.cell 4 rfl,hT2.cell 5 rfl,hT2.cell 6 rfl⟩
 clear hT hT2 hA hb
 refine Ord.tk (i:=0) (v:=.slice (some ⟨gA,0,none⟩) n n) (hy:=Or.inl ⟨by rfl,by rintro W' ⟨q0,q1,q2,q3,q4,q5,q6,q7,q8⟩; go_simp⟩) (hS:=hS) (h:=?_)
 try simp only [Act.put,Ord.t,Ord.z,Ord.s]
 refine Ord.tk (i:=1) (v:=.int .i64 (k : Int)) (hy:=Or.inl ⟨by rfl,by rintro W' ⟨q0,q1,q2,q3,q4,q5,q6,q7,q8⟩; go_simp⟩) (hS:=hS) (h:=?_)
 try simp only [Act.put,Ord.t,Ord.z,Ord.s]
 refine Ord.tk (i:=2) (v:=.pointer (some ⟨t.M,0,none⟩)) (hy:=Or.inl ⟨by rfl,by rintro W' ⟨q0,q1,q2,q3,q4,q5,q6,q7,q8⟩; go_simp⟩) (hS:=hS) (h:=?_)
 try simp only [Act.put,Ord.t,Ord.z,Ord.s]
 refine Ord.tk (i:=3) (v:=.agg #[.int .i64 tk,.int .i64 tn,.string ⟨tx.toArray⟩,.bool ts,.slice p1 n1 k1,.slice p2 n2 k2,.slice p3 n3 k3]) (hy:=Or.inl ⟨by rfl,by rintro W' ⟨q0,q1,q2,q3,q4,q5,q6,q7,q8⟩; go_simp⟩) (hS:=hS) (h:=?_)
 try simp only [Act.put,Ord.t,Ord.z,Ord.s]
 refine Ord.on (i:=4) (h:=fun K hK => ?_)
 go_simp
 refine (HC.out wd HD.out).mono ?_
 rintro r w2 ⟨f,d,rfl,hR,⟨z0,z1,z2⟩,row,u,hrow,hu⟩
 have HR := keep hR
 have cu := hrow.cell k hu
 have fu := hrow.fr k
 have HZ := keep (And.intro z0 (And.intro z1 z2))
 clear hR hrow hu hS HC z0 z1 z2
 go_simp
 refine hK.out _ _ (fun _ => ⟨HZ.out.1,HZ.out.2.1,HZ.out.2.2.cell 0 rfl,HZ.out.2.2.cell 1 rfl,HZ.out.2.2.cell 2 rfl,HZ.out.2.2.cell 3 rfl,HZ.out.2.2.cell 4 rfl,HZ.out.2.2.cell 5 rfl,HZ.out.2.2.cell 6 rfl⟩) ?_
 clear hK K
 try simp only [Act.put,Ord.t,Ord.z,Ord.s]
 refine Ord.on (i:=5) (h:=fun K hK => ?_)
 go_simp
 refine hK.out _ _ (fun h => absurd h (by decide)) ?_
 clear hK K
 try simp only [Act.put,Ord.t,Ord.z,Ord.s]
 refine Ord.on (i:=6) (h:=fun K hK => ?_)
 go_simp
 refine hK.out _ _ (fun h => absurd h (by decide)) ?_
 clear hK K
 try simp only [Act.put,Ord.t,Ord.z,Ord.s]
 refine Ord.wpM_done (by kernel_rfl) ?_ _
 refine NoPanic.normal ?_
 exact ⟨rfl,wd,w2,_,HD.out,HR.out,rfl,rfl⟩
theorem stmt_via (M : Nat) (tk tn : Int) (x : List UInt8) (ts : Bool) (p1 : Option Addr) (n1 k1 : Nat) (p2 : Option Addr) (n2 k2 : Nat) (p3 : Option Addr) (n3 k3 : Nat) (w : World) (f : Nat) (hk : (tk = 3 ∧ f = 64) ∨ (tk = 4 ∧ f = 65) ∨ (tk = 5 ∧ f = 66)) (Q : World → Ending → World → Prop)
  (hF : ∀ W r W',Q W r W' → ∃ kf d,r = .returned (.func (.func kf) #[] d)) (hQ : ∀ W r W',Below w.heap.size w W → Q W r W' → Q w r W')
  (HC : Hid (∀ W,Below w.heap.size w W → Calls Tryz.prog f #[.pointer (some ⟨M,0,none⟩),.agg #[.int .i64 tk,.int .i64 tn,.string ⟨x.toArray⟩,.bool ts,.slice p1 n1 k1,.slice p2 n2 k2,.slice p3 n3 k3]] W fun r W' => Q W r W')) :
  Calls Tryz.prog 52 #[.pointer (some ⟨M,0,none⟩),.agg #[.int .i64 tk,.int .i64 tn,.string ⟨x.toArray⟩,.bool ts,.slice p1 n1 k1,.slice p2 n2 k2,.slice p3 n3 k3]] w fun r w' => Hid (Q w r w') := by
 obtain ⟨w1,hw1⟩ : ∃ y,w.alloc (.cells #[.int .i64 tk,.int .i64 tn,.string ⟨x.toArray⟩,.bool ts,.slice p1 n1 k1,.slice p2 n2 k2,.slice p3 n3 k3] 89) = y := ⟨_,rfl⟩
 have hb1 : Below w.heap.size w w1 := by rw [← hw1]; exact (Below.refl _ _).alloc (Nat.le_refl _) _
 have hbE : Bk w1 w.heap.size [.int .i64 tk,.int .i64 tn,.string ⟨x.toArray⟩,.bool ts,.slice p1 n1 k1,.slice p2 n2 k2,.slice p3 n3 k3] 89 := by rw [← hw1]; exact Bk.new _ _ _
 have c0 := hbE.cell 0 rfl
 have HX1 := keep hbE
 have HC1 := keep (HC.out w1 hb1)
 have HEnd := keep (fun r w2 (h : Q w1 r w2) => And.intro (hF w1 r w2 h) (hQ w1 r w2 hb1 h))
 have HW1 := keep hw1
 clear hw1 hb1 hbE HC hF hQ
 rcases hk with ⟨rfl,rfl⟩ | ⟨rfl,rfl⟩ | ⟨rfl,rfl⟩
 all_goals
  have c1 := HX1.out.cell 1 rfl
  have c2 := HX1.out.cell 2 rfl
  have c3 := HX1.out.cell 3 rfl
  have c4 := HX1.out.cell 4 rfl
  have c5 := HX1.out.cell 5 rfl
  have c6 := HX1.out.cell 6 rfl
  go_enter Tryz.func52,Tryz.ntmps52
  go_wp2_with (first | rw [HW1.out])
  refine HC1.out.mono ?_
  intro r w2 h2
  obtain ⟨⟨kf,d,rfl⟩,hq⟩ := HEnd.out r w2 h2
  have HE := keep hq
  clear HC1 HEnd hq h2
  go_wp2
  go_ret
  exact HE
end Go.Proofs.YtemdnmfldihalaaGreatDoor.Lr
