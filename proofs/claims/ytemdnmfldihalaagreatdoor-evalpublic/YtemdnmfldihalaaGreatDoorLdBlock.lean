/- The document's own reader: statements, one behind the other. Written by tools/gen_dblock.py. -/
import Derived.Test.YtemdnmfldihalaaGreatDoorGr31
namespace Go.Proofs.YtemdnmfldihalaaGreatDoor.Lr
set_option maxHeartbeats 32000000
set_option maxRecDepth 100000
set_option linter.unusedVariables false
set_option linter.unusedSimpArgs false
open Go.ChangeShapes Go.WideShapes Go.ChangeAt Go.RowKit Lg Rf
def StmtOK (m : Nat) : Prop := ∀ (b : Nat) (s : ByteArray) (e : Int) (w : World),s.size ≤ 1200 → PB w b s e → Tabs w → GL b →
 Calls Tryz.prog 40 #[.pointer (some ⟨b,0,none⟩),.int .i64 (9 - (m : Int))] w fun r w' => ∃ p : St × Value × Value × Value,r = .returned (.agg (stA p.1 p.2.1 p.2.2.1 p.2.2.2)) ∧ nestS (m + 1) w' (New w w') p ∧ Rd w' b s.size e (stmtT m (words s.data.toList)) (fun a => a = p.1) ∧ Fs [b] w w'
structure BS (w W : World) (b : Nat) (a : Int) (m : Nat) (v : Value) (es : List (St × Value × Value × Value)) : Prop where
 R : Bk W w.heap.size [.pointer (some ⟨b,0,none⟩)] 49
 A : Bk W (w.heap.size + 1) [.int .i64 a] 3
 L : Bk W (w.heap.size + 1 + 1) [v] 27
 row : RowS m W (w.heap.size + 3) v es
theorem BS.step {w W W' : World} {b : Nat} {a : Int} {m : Nat} {v : Value} {es : List (St × Value × Value × Value)} (h : BS w W b a m v es) (hb : b < w.heap.size) (k : Fs [b] W W') : BS w W' b a m v es :=
 ⟨h.R.fs k (by simp; omega),h.A.fs k (by simp; omega),h.L.fs k (by simp; omega),RowX.fs (nestS_nest m) h.row k (by simp; omega)⟩
theorem BS.up {w W : World} {b : Nat} {a : Int} {m : Nat} {v : Value} {es : List (St × Value × Value × Value)} (h : BS w W b a m v es) (o : Obj) : BS w (W.alloc o) b a m v es :=
 ⟨h.R.up o,h.A.up o,h.L.up o,RowX.fs (l:=[]) (nestS_nest m) h.row (Fs.of_below ((Below.refl _ _).alloc (Nat.le_refl _) o)) (by simp)⟩
theorem BS.push {w wa w3 : World} {b : Nat} {a : Int} {m : Nat} {v : Value} {es : List (St × Value × Value × Value)} {p : St × Value × Value × Value} {g n cap : Nat} (h : BS w wa b a m v es) (hp : nestS m wa (In (w.heap.size + 3) v wa) p)
  (hown : w3.ownsRow (w.heap.size + 3) 89 7 (.slice (some ⟨g,0,none⟩) n cap) (es.length + 1) (es.flatMap cellsS ++ cellsS p)) (hL : Bk w3 (w.heap.size + 1 + 1) [.slice (some ⟨g,0,none⟩) n cap] 27)
  (hs : wa.heap.size ≤ w3.heap.size) (hb : ∀ i,i < wa.heap.size → ¬ v.ownBlock = some i → i ≠ w.heap.size + 1 + 1 → w3.heap[i]? = wa.heap[i]?) (hat : v.ownBlock = some g ∨ wa.heap.size ≤ g) : BS w w3 b a m (.slice (some ⟨g,0,none⟩) n cap) (es ++ [p]) := by
 have hv : ∀ i,v.ownBlock = some i → w.heap.size + 3 ≤ i := fun i hi => (h.row.own.lt i hi).1
 have key : ∀ i,i < w.heap.size + 1 + 1 → w3.heap[i]? = wa.heap[i]? := fun i hi => by
  have := h.L.lt
  exact hb i (by omega) (fun e => by have := hv i e; omega) (by omega)
 refine ⟨?_,?_,hL,RowX.push2 (nestS_nest m) h.row hp hown hs (fun i h1 h2 h3 => hb i h2 h3 (by omega)) hat⟩
 ·have := h.R; unfold Bk at this ⊢; rw [key _ (by omega)]; exact this
 ·have := h.A; unfold Bk at this ⊢; rw [key _ (by omega)]; exact this
theorem stmts1_rd (m : Nat) (ih : StmtOK m) (b : Nat) (w W : World) (hbl : b < w.heap.size) (v0 : Value) (es : List (St × Value × Value × Value)) (s : ByteArray) (hs : s.size ≤ 1200) (hes : es.length ≤ 2400) (h : PB W b s 0) (hB : BS w W b (9 - (m : Int)) (m + 1) v0 es) (ht : Tabs W) (hg : GL b) :
  Calls Tryz.prog 39 #[.pointer (some ⟨w.heap.size + 1 + 1,0,none⟩),.pointer (some ⟨w.heap.size,0,none⟩),.pointer (some ⟨w.heap.size + 1,0,none⟩)] W fun r w' => r = .returned (.tuple #[]) ∧ ∃ (p : St × Value × Value × Value) (v' : Value),
   BS w w' b (9 - (m : Int)) (m + 1) v' (es ++ [p]) ∧ Rd w' b s.size 0 (stmtT m (words s.data.toList)) (fun a => a = p.1) ∧ Fh w.heap.size [b] W w' := by
 obtain ⟨pv,nv,cv,rfl⟩ := hB.row.slice
 have hnv := hB.row.len
 subst hnv
 have hsz := hB.L.lt
 have IH : Hid (∀ v,PB v b s 0 → Tabs v → Calls Tryz.prog 40 #[.pointer (some ⟨b,0,none⟩),.int .i64 (9 - (m : Int))] v fun r w' => ∃ p : St × Value × Value × Value,r = .returned (.agg (stA p.1 p.2.1 p.2.2.1 p.2.2.2)) ∧ nestS (m + 1) w' (New v w') p ∧ Rd w' b s.size 0 (stmtT m (words s.data.toList)) (fun a => a = p.1) ∧ Fs [b] v w') :=
  fun v hp hv => ih b s 0 v (by omega) hp hv hg
 have HP : Hid (PB W.drew b s 0) := h
 have HB : Hid (BS w W.drew b (9 - (m : Int)) (m + 1) (.slice pv es.length cv) es) := ⟨hB.R,hB.A,hB.L,RowX.fs (l:=[]) (nestS_nest _) hB.row ⟨rfl,rfl,rfl,Nat.le_refl _,fun _ _ _ => rfl⟩ (by simp)⟩
 have HT : Hid (Tabs W.drew) := ht
 have HW : Hid (Fh w.heap.size [b] W W.drew) := ⟨rfl,rfl,rfl,Nat.le_refl _,fun _ _ _ => rfl⟩
 have hS : (fun W' : World => W'.cell? ⟨w.heap.size + 1 + 1,0,none⟩ = some (.slice pv es.length cv) ∧ W'.cell? ⟨w.heap.size,0,none⟩ = some (.pointer (some ⟨b,0,none⟩)) ∧ W'.cell? ⟨w.heap.size + 1,0,none⟩ = some (.int .i64 (9 - (m : Int)))) W.drew := ⟨HB.out.L.cell 0 rfl,HB.out.R.cell 0 rfl,HB.out.A.cell 0 rfl⟩
 have hW : w.heap.size + 3 ≤ W.drew.heap.size := by show _ ≤ W.heap.size; omega
 generalize 9 - (m : Int) = a9 at *
 obtain ⟨i0,hi0,hz0,hz1,hz2⟩ := info_parts infoS
 clear ih h hB ht hg
 go_enter Tryz.func39,Tryz.ntmps39
 go_wp2_with fail
 refine wp_region_noPanic ?_
 refine Ord.wpM_begin (fun W' : World => W'.cell? ⟨w.heap.size + 1 + 1,0,none⟩ = some (.slice pv es.length cv) ∧ W'.cell? ⟨w.heap.size,0,none⟩ = some (.pointer (some ⟨b,0,none⟩)) ∧ W'.cell? ⟨w.heap.size + 1,0,none⟩ = some (.int .i64 a9)) [0,1,2,3,4,5] (by kernel_rfl) ?_
 generalize W.drew = Wd at *
 refine Ord.tk (i:=0) (v:=.slice pv es.length cv) (hy:=Or.inl ⟨by rfl,by rintro W' ⟨q0,q1,q2⟩; go_simp⟩) (hS:=hS) (h:=?_)
 try simp only [Act.put,Ord.t,Ord.z,Ord.s]
 refine Ord.tk (i:=1) (v:=.pointer (some ⟨b,0,none⟩)) (hy:=Or.inl ⟨by rfl,by rintro W' ⟨q0,q1,q2⟩; go_simp⟩) (hS:=hS) (h:=?_)
 try simp only [Act.put,Ord.t,Ord.z,Ord.s]
 refine Ord.tk (i:=2) (v:=.int .i64 a9) (hy:=Or.inl ⟨by rfl,by rintro W' ⟨q0,q1,q2⟩; go_simp⟩) (hS:=hS) (h:=?_)
 try simp only [Act.put,Ord.t,Ord.z,Ord.s]
 refine Ord.tk (i:=4) (v:=.int .i64 (es.length : Int)) (hy:=Or.inl ⟨by rfl,by rintro W' ⟨q0,q1,q2⟩; go_simp⟩) (hS:=hS) (h:=?_)
 try simp only [Act.put,Ord.t,Ord.z,Ord.s]
 refine Ord.wpM_two (i:=3) (j:=5) (by kernel_rfl) (by simp only [List.getElem?_toArray,List.getElem?_cons_zero,List.getElem?_cons_succ]; rfl) (by simp only [List.getElem?_toArray,List.getElem?_cons_zero,List.getElem?_cons_succ]; rfl) (fun K hK => ?_) (fun K hK => ?_)
 ·have HPc := HP
  have HTc := HT
  go_simp
  refine (IH.out _ HPc.out HTc.out).mono ?_
  rintro r w1 ⟨⟨t,s1,s2,s3⟩,rfl,hnest,hrd,hf⟩
  obtain ⟨x1,y1,z1,e1⟩ := hnest.1.slice
  obtain ⟨x2,y2,z2,e2⟩ := hnest.2.1.slice
  obtain ⟨x3,y3,z3,e3⟩ := hnest.2.2.slice
  simp only at e1 e2 e3
  subst e1 e2 e3
  have HB1 := keep (HB.out.step hbl hf)
  have HV := keep (fun i => HB.out.row.own.lt i)
  have HNs := keep hnest
  obtain ⟨s5,e5,hp5,hn5,h51,h52⟩ := hrd
  have HP5 := keep (hp5.up (.cells #[.int .i64 0,.int .i64 0,.string ⟨#[]⟩,.bool false,.slice none 0 0,.slice none 0 0,.slice none 0 0] 89))
  have H52 := keep (h52 rfl)
  have HF1 := keep (HW.out.trans (hf.fh (by omega)))
  have hs1 : Wd.heap.size ≤ w1.heap.size := hf.size
  clear hnest hp5 h51 h52 hf HPc HTc
  go_simp
  refine hK.out _ _ (fun _ => ⟨HB1.out.L.cell 0 rfl,HB1.out.R.cell 0 rfl,HB1.out.A.cell 0 rfl⟩) ?_
  clear hK K
  try simp only [Act.put,Ord.t,Ord.z,Ord.s]
  refine Ord.on (i:=5) (h:=fun K hK => ?_)
  go_simp
  have HBa := keep (HB1.out.up (.cells #[.int .i64 0,.int .i64 0,.string ⟨#[]⟩,.bool false,.slice none 0 0,.slice none 0 0,.slice none 0 0] 89))
  have HZ := keep (Bk.new w1 [.int .i64 0,.int .i64 0,.string ⟨#[]⟩,.bool false,.slice none 0 0,.slice none 0 0,.slice none 0 0] 89)
  have HFa := keep (HF1.out.trans (((Fs.refl [b] w1).up (.cells #[.int .i64 0,.int .i64 0,.string ⟨#[]⟩,.bool false,.slice none 0 0,.slice none 0 0,.slice none 0 0] 89)).fh (B:=w.heap.size) (by omega)))
  have HNa : Hid (nestS (m + 1) (w1.alloc (.cells #[.int .i64 0,.int .i64 0,.string ⟨#[]⟩,.bool false,.slice none 0 0,.slice none 0 0,.slice none 0 0] 89)) (In (w.heap.size + 3) (.slice pv es.length cv) (w1.alloc (.cells #[.int .i64 0,.int .i64 0,.string ⟨#[]⟩,.bool false,.slice none 0 0,.slice none 0 0,.slice none 0 0] 89))) (t,.slice x1 y1 z1,.slice x2 y2 z2,.slice x3 y3 z3)) :=
   (nestS_nest _).mono _ (New Wd w1) _ _ ((nestS_nest _).keep _ _ _ _ HNs.out (fun i hi => ((Below.refl w1.heap.size w1).alloc (Nat.le_refl _) _).block i hi.2)) (fun i hi => ⟨by have := hi.1; omega,by have := hi.2; simp; omega,fun hv => by have := (HV.out i hv).2; have := hi.1; omega⟩)
  have hsa : Wd.heap.size ≤ (w1.alloc (.cells #[.int .i64 0,.int .i64 0,.string ⟨#[]⟩,.bool false,.slice none 0 0,.slice none 0 0,.slice none 0 0] 89)).heap.size := by simp; omega
  refine hK.out _ _ (fun _ => ⟨HBa.out.L.cell 0 rfl,HBa.out.R.cell 0 rfl,HBa.out.A.cell 0 rfl⟩) ?_
  clear hK K HNs HF1 HB1
  generalize w1.alloc (.cells #[.int .i64 0,.int .i64 0,.string ⟨#[]⟩,.bool false,.slice none 0 0,.slice none 0 0,.slice none 0 0] 89) = wa at *
  obtain ⟨zb,hzb⟩ : ∃ zb,w1.heap.size = zb := ⟨_,rfl⟩
  rw [hzb] at HZ
  try rw [hzb]
  clear hzb
  try simp only [Act.put,Ord.t,Ord.z,Ord.s]
  refine Ord.on (i:=6) (h:=fun K hK => ?_)
  refine step_append_lies _ rfl (.tmp 3) (.tmp 8) 27 rfl (w.heap.size + 3) 89 i0 _ 7 112 Tryz.underlying27 hi0 hz0 hz1 hz2 rfl (by decide) _ _ _ rfl HBa.out.row.own ⟨zb,0,none⟩ 1 1 [.int .i64 0,.int .i64 0,.string ⟨#[]⟩,.bool false,.slice none 0 0,.slice none 0 0,.slice none 0 0] rfl rfl (fun j u hj => bk_add HZ.out j u hj) ?_ (by decide) ?_ ?_ ?_ wa.heap.size rfl ?_
  ·intro u hu
   simp only [List.mem_cons,List.not_mem_nil,or_false] at hu
   rcases hu with rfl | rfl | rfl | rfl | rfl | rfl | rfl <;> rfl
  ·unfold maxLen; omega
  ·omega
  ·have := HBa.out.L.lt; omega
  ·intro g cap w2 hown2 hgrow hat hlt
   refine hK.out _ _ (fun h => absurd h (by decide)) ?_
   clear hK K
   have hgl : w.heap.size + 3 ≤ g := by
    rcases hat with h | h
    ·exact (HBa.out.row.own.lt g h).1
    ·have := HBa.out.L.lt; omega
   have hL2 : Bk w2 (w.heap.size + 1 + 1) [.slice pv es.length cv] 27 := by
    have h1 := HBa.out.L
    unfold Bk at h1 ⊢
    rw [hgrow.block _ HBa.out.L.lt (fun e => by have := (HBa.out.row.own.lt _ e.symm).1; omega)]; exact h1
   have HL2 := keep hL2
   have hfl : (es.flatMap cellsS).length = es.length * 7 := flat_len7 cellsS 7 cellsS_len es
   have HO2 := keep hown2
   have HG2 := keep hgrow
   have HAt := keep hat
   have hx1 : (es.length : Int) < (es.length : Int) + 1 := by omega
   have hcL := hL2.cell 0 rfl
   have hfL := hL2.fr 0
   have HTh : Hid (w2.there g (es.length * 7) 7) := own_there hown2 _ _ (by omega)
   have HFin : Hid (∀ w3,Laid2 w2 w3 (w.heap.size + 3) (es.length + 1) cap g 7 (w.heap.size + 1 + 1) 89 27 (es.flatMap cellsS ++ (stA t (.slice x1 y1 z1) (.slice x2 y2 z2) (.slice x3 y3 z3)).toList) → ∃ (p : St × Value × Value × Value) (v' : Value),BS w w3 b a9 (m + 1) v' (es ++ [p]) ∧ Rd w3 b s.size 0 (stmtT m (words s.data.toList)) (fun a => a = p.1) ∧ Fh w.heap.size [b] W w3) := fun w3 hl => by
    have hb3 : ∀ i,i < wa.heap.size → ¬ (Value.slice pv es.length cv).ownBlock = some i → i ≠ w.heap.size + 1 + 1 → w3.heap[i]? = wa.heap[i]? := fun i h1 h2 h3 => by
     have hig : i ≠ g := fun e => by
      subst e
      rcases HAt.out with h | h
      ·exact h2 h
      ·omega
     rw [hl.block i (Nat.lt_of_lt_of_le h1 HG2.out.size) hig h3]
     exact HG2.out.block i h1 (fun e => h2 e.symm)
    have hbc : ∀ i,i < w.heap.size → w3.heap[i]? = wa.heap[i]? := fun i hi => hb3 i (by omega) (fun e => by have := (HBa.out.row.own.lt i e).1; omega) (by omega)
    have hown3 : w3.ownsRow (w.heap.size + 3) 89 7 (.slice (some ⟨g,0,none⟩) (es.length + 1) cap) (es.length + 1) (es.flatMap cellsS ++ cellsS (t,.slice x1 y1 z1,.slice x2 y2 z2,.slice x3 y3 z3)) := hl.own
    refine ⟨_,_,BS.push HBa.out HNa.out hown3 hl.box (Nat.le_trans HG2.out.size hl.size) hb3 (by rcases HAt.out with h | h; exact .inl h; exact .inr (by omega)),⟨s5,e5,(by have hp := HP5.out; unfold PB at hp ⊢; rw [hbc b hbl]; exact hp),hn5,fun h => absurd rfl h,fun _ => H52.out⟩,?_⟩
    exact HFa.out.trans ⟨hl.os.trans HG2.out.os,hl.tape.trans HG2.out.tape,hl.output.trans HG2.out.output,Nat.le_trans HG2.out.size hl.size,fun i hi _ => hbc i hi⟩
   have HLab := keep (laid_ab (vs:=(stA t (.slice x1 y1 z1) (.slice x2 y2 z2) (.slice x3 y3 z3)).toList) (by omega) HO2.out rfl HL2.out (es.length * 7) hfl.symm)
   have HLba := keep (laid_ba (vs:=(stA t (.slice x1 y1 z1) (.slice x2 y2 z2) (.slice x3 y3 z3)).toList) (by omega) HO2.out rfl HL2.out (es.length * 7) hfl.symm)
   have HFab := keep (HFin.out _ HLab.out)
   have HFba := keep (HFin.out _ HLba.out)
   clear hown2 hgrow hat hL2 HNa HP5 H52 HFa HG2 HAt HFin HLab HLba
   try simp only [Act.put,Ord.t,Ord.z,Ord.s]
   refine Ord.wpM_two (i:=7) (j:=9) (by kernel_rfl) (by simp only [List.getElem?_toArray,List.getElem?_cons_zero,List.getElem?_cons_succ]; rfl) (by simp only [List.getElem?_toArray,List.getElem?_cons_zero,List.getElem?_cons_succ]; rfl) (fun K hK => ?_) (fun K hK => ?_)
   ·go_simp
    refine hK.out _ _ (fun h => absurd h (by decide)) ?_
    clear hK K
    try simp only [Act.put,Ord.t,Ord.z,Ord.s]
    refine Ord.wpM_two (i:=8) (j:=9) (by kernel_rfl) (by simp only [List.getElem?_toArray,List.getElem?_cons_zero,List.getElem?_cons_succ]; rfl) (by simp only [List.getElem?_toArray,List.getElem?_cons_zero,List.getElem?_cons_succ]; rfl) (fun K hK => ?_) (fun K hK => ?_)
    ·refine step_store_mid rfl 89 (.tmp 10) (.tmp 6) rfl g (es.length * 7) (stA t (.slice x1 y1 z1) (.slice x2 y2 z2) (.slice x3 y3 z3)) rfl rfl HTh.out (info_S [.int .i64 t.kind,.int .i64 t.n,.string ⟨t.name.toArray⟩,.bool t.secret,.slice x1 y1 z1,.slice x2 y2 z2,.slice x3 y3 z3] rfl) (by simp [stA,Value.oneCell']) ?_
     refine hK.out _ _ (fun h => absurd h (by decide)) ?_
     clear hK K
     try simp only [Act.put,Ord.t,Ord.z,Ord.s]
     have hc9 : (w2.setCells g (es.length * 7) (stA t (.slice x1 y1 z1) (.slice x2 y2 z2) (.slice x3 y3 z3)).toList).cell? ⟨w.heap.size + 1 + 1,0,none⟩ = some (.slice pv es.length cv) := by
      rw [World.cell?_setCells_out _ _ _ _ _ (fun h _ => absurd h (by show ¬ w.heap.size + 1 + 1 = g; omega))]; exact hcL
     have hf9 : (w2.setCells g (es.length * 7) (stA t (.slice x1 y1 z1) (.slice x2 y2 z2) (.slice x3 y3 z3)).toList).frozen? ⟨w.heap.size + 1 + 1,0,none⟩ = false := by
      have := (own_set (stA t (.slice x1 y1 z1) (.slice x2 y2 z2) (.slice x3 y3 z3)).toList (es.flatMap cellsS) [.int .i64 0,.int .i64 0,.string ⟨#[]⟩,.bool false,.slice none 0 0,.slice none 0 0,.slice none 0 0] w2 rfl HO2.out).2
      rw [hfl] at this
      have h2 := HL2.out
      unfold Bk at h2
      exact Lib.frozen_of_heap ((this.block _ HL2.out.lt (by simp; omega)).trans h2) 0
     refine Ord.on (i:=9) (h:=fun K hK => ?_)
     go_simp
     refine hK.out _ _ (fun h => absurd h (by decide)) ?_
     clear hK K
     try simp only [Act.put,Ord.t,Ord.z,Ord.s]
     refine Ord.wpM_done (by kernel_rfl) ?_ _
     refine NoPanic.normal ?_
     go_wp2
     go_end0
     exact ⟨rfl,HFab.out⟩
    ·go_simp
     refine hK.out _ _ (fun h => absurd h (by decide)) ?_
     clear hK K
     try simp only [Act.put,Ord.t,Ord.z,Ord.s]
     refine Ord.on (i:=8) (h:=fun K hK => ?_)
     refine step_store_mid rfl 89 (.tmp 10) (.tmp 6) rfl g (es.length * 7) (stA t (.slice x1 y1 z1) (.slice x2 y2 z2) (.slice x3 y3 z3)) rfl rfl (fun j hj => ⟨by rw [World.cell?_setCell_far _ _ _ _ (by show ¬ w.heap.size + 1 + 1 = g; omega)]; exact (HTh.out j hj).1,(own_stay HO2.out (Below.heap_setCell _ _ _ _ (by show g ≠ w.heap.size + 1 + 1; omega))).frozenAt _⟩) (info_S [.int .i64 t.kind,.int .i64 t.n,.string ⟨t.name.toArray⟩,.bool t.secret,.slice x1 y1 z1,.slice x2 y2 z2,.slice x3 y3 z3] rfl) (by simp [stA,Value.oneCell']) ?_
     refine hK.out _ _ (fun h => absurd h (by decide)) ?_
     clear hK K
     try simp only [Act.put,Ord.t,Ord.z,Ord.s]
     refine Ord.wpM_done (by kernel_rfl) ?_ _
     refine NoPanic.normal ?_
     go_wp2
     go_end0
     exact ⟨rfl,HFba.out⟩
   ·go_simp
    refine hK.out _ _ (fun h => absurd h (by decide)) ?_
    clear hK K
    try simp only [Act.put,Ord.t,Ord.z,Ord.s]
    refine Ord.on (i:=7) (h:=fun K hK => ?_)
    go_simp
    refine hK.out _ _ (fun h => absurd h (by decide)) ?_
    clear hK K
    try simp only [Act.put,Ord.t,Ord.z,Ord.s]
    refine Ord.on (i:=8) (h:=fun K hK => ?_)
    refine step_store_mid rfl 89 (.tmp 10) (.tmp 6) rfl g (es.length * 7) (stA t (.slice x1 y1 z1) (.slice x2 y2 z2) (.slice x3 y3 z3)) rfl rfl (fun j hj => ⟨by rw [World.cell?_setCell_far _ _ _ _ (by show ¬ w.heap.size + 1 + 1 = g; omega)]; exact (HTh.out j hj).1,(own_stay HO2.out (Below.heap_setCell _ _ _ _ (by show g ≠ w.heap.size + 1 + 1; omega))).frozenAt _⟩) (info_S [.int .i64 t.kind,.int .i64 t.n,.string ⟨t.name.toArray⟩,.bool t.secret,.slice x1 y1 z1,.slice x2 y2 z2,.slice x3 y3 z3] rfl) (by simp [stA,Value.oneCell']) ?_
    refine hK.out _ _ (fun h => absurd h (by decide)) ?_
    clear hK K
    try simp only [Act.put,Ord.t,Ord.z,Ord.s]
    refine Ord.wpM_done (by kernel_rfl) ?_ _
    refine NoPanic.normal ?_
    go_wp2
    go_end0
    exact ⟨rfl,HFba.out⟩
 ·go_simp
  have HB0 := keep (HB.out.up (.cells #[.int .i64 0,.int .i64 0,.string ⟨#[]⟩,.bool false,.slice none 0 0,.slice none 0 0,.slice none 0 0] 89))
  have HZ0 := keep (Bk.new Wd [.int .i64 0,.int .i64 0,.string ⟨#[]⟩,.bool false,.slice none 0 0,.slice none 0 0,.slice none 0 0] 89)
  have HPc := keep (HP.out.up (.cells #[.int .i64 0,.int .i64 0,.string ⟨#[]⟩,.bool false,.slice none 0 0,.slice none 0 0,.slice none 0 0] 89))
  have HTc := keep (Tabs.below HT.out ((Below.refl Wd.heap.size Wd).alloc (Nat.le_refl _) (.cells #[.int .i64 0,.int .i64 0,.string ⟨#[]⟩,.bool false,.slice none 0 0,.slice none 0 0,.slice none 0 0] 89)))
  have HF0 := keep (HW.out.trans (((Fs.refl [b] Wd).up (.cells #[.int .i64 0,.int .i64 0,.string ⟨#[]⟩,.bool false,.slice none 0 0,.slice none 0 0,.slice none 0 0] 89)).fh (B:=w.heap.size) (by omega)))
  have HV := keep (fun i => HB.out.row.own.lt i)
  have hs0 : Wd.heap.size + 1 = (Wd.alloc (.cells #[.int .i64 0,.int .i64 0,.string ⟨#[]⟩,.bool false,.slice none 0 0,.slice none 0 0,.slice none 0 0] 89)).heap.size := by simp
  refine hK.out _ _ (fun _ => ⟨HB0.out.L.cell 0 rfl,HB0.out.R.cell 0 rfl,HB0.out.A.cell 0 rfl⟩) ?_
  clear hK K
  generalize Wd.alloc (.cells #[.int .i64 0,.int .i64 0,.string ⟨#[]⟩,.bool false,.slice none 0 0,.slice none 0 0,.slice none 0 0] 89) = w0 at *
  obtain ⟨zb,hzb⟩ : ∃ zb,Wd.heap.size = zb := ⟨_,rfl⟩
  rw [hzb] at HZ0
  try rw [hzb]
  try simp only [Act.put,Ord.t,Ord.z,Ord.s]
  refine Ord.on (i:=3) (h:=fun K hK => ?_)
  go_simp
  refine (IH.out _ HPc.out HTc.out).mono ?_
  rintro r w1 ⟨⟨t,s1,s2,s3⟩,rfl,hnest,hrd,hf⟩
  obtain ⟨x1,y1,z1,e1⟩ := hnest.1.slice
  obtain ⟨x2,y2,z2,e2⟩ := hnest.2.1.slice
  obtain ⟨x3,y3,z3,e3⟩ := hnest.2.2.slice
  simp only at e1 e2 e3
  subst e1 e2 e3
  have HBa := keep (HB0.out.step hbl hf)
  have HZ := keep (HZ0.out.fs hf (by simp; omega))
  obtain ⟨s5,e5,hp5,hn5,h51,h52⟩ := hrd
  have HP5 := keep hp5
  have H52 := keep (h52 rfl)
  have HFa := keep (HF0.out.trans (hf.fh (by omega)))
  have hsa : Wd.heap.size ≤ w1.heap.size := by have := hf.size; omega
  have HNa : Hid (nestS (m + 1) w1 (In (w.heap.size + 3) (.slice pv es.length cv) w1) (t,.slice x1 y1 z1,.slice x2 y2 z2,.slice x3 y3 z3)) :=
   (nestS_nest _).mono _ (New w0 w1) _ _ hnest (fun i hi => ⟨by have := hi.1; omega,hi.2,fun hv => by have := (HV.out i hv).2; have := hi.1; omega⟩)
  clear hnest hp5 h51 h52 hf HPc HTc
  go_simp
  refine hK.out _ _ (fun _ => ⟨HBa.out.L.cell 0 rfl,HBa.out.R.cell 0 rfl,HBa.out.A.cell 0 rfl⟩) ?_
  clear hK K HB0 HZ0 HF0 hzb hs0
  obtain ⟨wa,hwa⟩ : ∃ wa,w1 = wa := ⟨_,rfl⟩
  subst hwa
  try simp only [Act.put,Ord.t,Ord.z,Ord.s]
  refine Ord.on (i:=6) (h:=fun K hK => ?_)
  refine step_append_lies _ rfl (.tmp 3) (.tmp 8) 27 rfl (w.heap.size + 3) 89 i0 _ 7 112 Tryz.underlying27 hi0 hz0 hz1 hz2 rfl (by decide) _ _ _ rfl HBa.out.row.own ⟨zb,0,none⟩ 1 1 [.int .i64 0,.int .i64 0,.string ⟨#[]⟩,.bool false,.slice none 0 0,.slice none 0 0,.slice none 0 0] rfl rfl (fun j u hj => bk_add HZ.out j u hj) ?_ (by decide) ?_ ?_ ?_ w1.heap.size rfl ?_
  ·intro u hu
   simp only [List.mem_cons,List.not_mem_nil,or_false] at hu
   rcases hu with rfl | rfl | rfl | rfl | rfl | rfl | rfl <;> rfl
  ·unfold maxLen; omega
  ·omega
  ·have := HBa.out.L.lt; omega
  ·intro g cap w2 hown2 hgrow hat hlt
   refine hK.out _ _ (fun h => absurd h (by decide)) ?_
   clear hK K
   have hgl : w.heap.size + 3 ≤ g := by
    rcases hat with h | h
    ·exact (HBa.out.row.own.lt g h).1
    ·have := HBa.out.L.lt; omega
   have hL2 : Bk w2 (w.heap.size + 1 + 1) [.slice pv es.length cv] 27 := by
    have h1 := HBa.out.L
    unfold Bk at h1 ⊢
    rw [hgrow.block _ HBa.out.L.lt (fun e => by have := (HBa.out.row.own.lt _ e.symm).1; omega)]; exact h1
   have HL2 := keep hL2
   have hfl : (es.flatMap cellsS).length = es.length * 7 := flat_len7 cellsS 7 cellsS_len es
   have HO2 := keep hown2
   have HG2 := keep hgrow
   have HAt := keep hat
   have hx1 : (es.length : Int) < (es.length : Int) + 1 := by omega
   have hcL := hL2.cell 0 rfl
   have hfL := hL2.fr 0
   have HTh : Hid (w2.there g (es.length * 7) 7) := own_there hown2 _ _ (by omega)
   have HFin : Hid (∀ w3,Laid2 w2 w3 (w.heap.size + 3) (es.length + 1) cap g 7 (w.heap.size + 1 + 1) 89 27 (es.flatMap cellsS ++ (stA t (.slice x1 y1 z1) (.slice x2 y2 z2) (.slice x3 y3 z3)).toList) → ∃ (p : St × Value × Value × Value) (v' : Value),BS w w3 b a9 (m + 1) v' (es ++ [p]) ∧ Rd w3 b s.size 0 (stmtT m (words s.data.toList)) (fun a => a = p.1) ∧ Fh w.heap.size [b] W w3) := fun w3 hl => by
    have hb3 : ∀ i,i < w1.heap.size → ¬ (Value.slice pv es.length cv).ownBlock = some i → i ≠ w.heap.size + 1 + 1 → w3.heap[i]? = w1.heap[i]? := fun i h1 h2 h3 => by
     have hig : i ≠ g := fun e => by
      subst e
      rcases HAt.out with h | h
      ·exact h2 h
      ·omega
     rw [hl.block i (Nat.lt_of_lt_of_le h1 HG2.out.size) hig h3]
     exact HG2.out.block i h1 (fun e => h2 e.symm)
    have hbc : ∀ i,i < w.heap.size → w3.heap[i]? = w1.heap[i]? := fun i hi => hb3 i (by omega) (fun e => by have := (HBa.out.row.own.lt i e).1; omega) (by omega)
    have hown3 : w3.ownsRow (w.heap.size + 3) 89 7 (.slice (some ⟨g,0,none⟩) (es.length + 1) cap) (es.length + 1) (es.flatMap cellsS ++ cellsS (t,.slice x1 y1 z1,.slice x2 y2 z2,.slice x3 y3 z3)) := hl.own
    refine ⟨_,_,BS.push HBa.out HNa.out hown3 hl.box (Nat.le_trans HG2.out.size hl.size) hb3 (by rcases HAt.out with h | h; exact .inl h; exact .inr (by omega)),⟨s5,e5,(by have hp := HP5.out; unfold PB at hp ⊢; rw [hbc b hbl]; exact hp),hn5,fun h => absurd rfl h,fun _ => H52.out⟩,?_⟩
    exact HFa.out.trans ⟨hl.os.trans HG2.out.os,hl.tape.trans HG2.out.tape,hl.output.trans HG2.out.output,Nat.le_trans HG2.out.size hl.size,fun i hi _ => hbc i hi⟩
   have HLab := keep (laid_ab (vs:=(stA t (.slice x1 y1 z1) (.slice x2 y2 z2) (.slice x3 y3 z3)).toList) (by omega) HO2.out rfl HL2.out (es.length * 7) hfl.symm)
   have HLba := keep (laid_ba (vs:=(stA t (.slice x1 y1 z1) (.slice x2 y2 z2) (.slice x3 y3 z3)).toList) (by omega) HO2.out rfl HL2.out (es.length * 7) hfl.symm)
   have HFab := keep (HFin.out _ HLab.out)
   have HFba := keep (HFin.out _ HLba.out)
   clear hown2 hgrow hat hL2 HNa HP5 H52 HFa HG2 HAt HFin HLab HLba
   try simp only [Act.put,Ord.t,Ord.z,Ord.s]
   refine Ord.wpM_two (i:=7) (j:=9) (by kernel_rfl) (by simp only [List.getElem?_toArray,List.getElem?_cons_zero,List.getElem?_cons_succ]; rfl) (by simp only [List.getElem?_toArray,List.getElem?_cons_zero,List.getElem?_cons_succ]; rfl) (fun K hK => ?_) (fun K hK => ?_)
   ·go_simp
    refine hK.out _ _ (fun h => absurd h (by decide)) ?_
    clear hK K
    try simp only [Act.put,Ord.t,Ord.z,Ord.s]
    refine Ord.wpM_two (i:=8) (j:=9) (by kernel_rfl) (by simp only [List.getElem?_toArray,List.getElem?_cons_zero,List.getElem?_cons_succ]; rfl) (by simp only [List.getElem?_toArray,List.getElem?_cons_zero,List.getElem?_cons_succ]; rfl) (fun K hK => ?_) (fun K hK => ?_)
    ·refine step_store_mid rfl 89 (.tmp 10) (.tmp 6) rfl g (es.length * 7) (stA t (.slice x1 y1 z1) (.slice x2 y2 z2) (.slice x3 y3 z3)) rfl rfl HTh.out (info_S [.int .i64 t.kind,.int .i64 t.n,.string ⟨t.name.toArray⟩,.bool t.secret,.slice x1 y1 z1,.slice x2 y2 z2,.slice x3 y3 z3] rfl) (by simp [stA,Value.oneCell']) ?_
     refine hK.out _ _ (fun h => absurd h (by decide)) ?_
     clear hK K
     try simp only [Act.put,Ord.t,Ord.z,Ord.s]
     have hc9 : (w2.setCells g (es.length * 7) (stA t (.slice x1 y1 z1) (.slice x2 y2 z2) (.slice x3 y3 z3)).toList).cell? ⟨w.heap.size + 1 + 1,0,none⟩ = some (.slice pv es.length cv) := by
      rw [World.cell?_setCells_out _ _ _ _ _ (fun h _ => absurd h (by show ¬ w.heap.size + 1 + 1 = g; omega))]; exact hcL
     have hf9 : (w2.setCells g (es.length * 7) (stA t (.slice x1 y1 z1) (.slice x2 y2 z2) (.slice x3 y3 z3)).toList).frozen? ⟨w.heap.size + 1 + 1,0,none⟩ = false := by
      have := (own_set (stA t (.slice x1 y1 z1) (.slice x2 y2 z2) (.slice x3 y3 z3)).toList (es.flatMap cellsS) [.int .i64 0,.int .i64 0,.string ⟨#[]⟩,.bool false,.slice none 0 0,.slice none 0 0,.slice none 0 0] w2 rfl HO2.out).2
      rw [hfl] at this
      have h2 := HL2.out
      unfold Bk at h2
      exact Lib.frozen_of_heap ((this.block _ HL2.out.lt (by simp; omega)).trans h2) 0
     refine Ord.on (i:=9) (h:=fun K hK => ?_)
     go_simp
     refine hK.out _ _ (fun h => absurd h (by decide)) ?_
     clear hK K
     try simp only [Act.put,Ord.t,Ord.z,Ord.s]
     refine Ord.wpM_done (by kernel_rfl) ?_ _
     refine NoPanic.normal ?_
     go_wp2
     go_end0
     exact ⟨rfl,HFab.out⟩
    ·go_simp
     refine hK.out _ _ (fun h => absurd h (by decide)) ?_
     clear hK K
     try simp only [Act.put,Ord.t,Ord.z,Ord.s]
     refine Ord.on (i:=8) (h:=fun K hK => ?_)
     refine step_store_mid rfl 89 (.tmp 10) (.tmp 6) rfl g (es.length * 7) (stA t (.slice x1 y1 z1) (.slice x2 y2 z2) (.slice x3 y3 z3)) rfl rfl (fun j hj => ⟨by rw [World.cell?_setCell_far _ _ _ _ (by show ¬ w.heap.size + 1 + 1 = g; omega)]; exact (HTh.out j hj).1,(own_stay HO2.out (Below.heap_setCell _ _ _ _ (by show g ≠ w.heap.size + 1 + 1; omega))).frozenAt _⟩) (info_S [.int .i64 t.kind,.int .i64 t.n,.string ⟨t.name.toArray⟩,.bool t.secret,.slice x1 y1 z1,.slice x2 y2 z2,.slice x3 y3 z3] rfl) (by simp [stA,Value.oneCell']) ?_
     refine hK.out _ _ (fun h => absurd h (by decide)) ?_
     clear hK K
     try simp only [Act.put,Ord.t,Ord.z,Ord.s]
     refine Ord.wpM_done (by kernel_rfl) ?_ _
     refine NoPanic.normal ?_
     go_wp2
     go_end0
     exact ⟨rfl,HFba.out⟩
   ·go_simp
    refine hK.out _ _ (fun h => absurd h (by decide)) ?_
    clear hK K
    try simp only [Act.put,Ord.t,Ord.z,Ord.s]
    refine Ord.on (i:=7) (h:=fun K hK => ?_)
    go_simp
    refine hK.out _ _ (fun h => absurd h (by decide)) ?_
    clear hK K
    try simp only [Act.put,Ord.t,Ord.z,Ord.s]
    refine Ord.on (i:=8) (h:=fun K hK => ?_)
    refine step_store_mid rfl 89 (.tmp 10) (.tmp 6) rfl g (es.length * 7) (stA t (.slice x1 y1 z1) (.slice x2 y2 z2) (.slice x3 y3 z3)) rfl rfl (fun j hj => ⟨by rw [World.cell?_setCell_far _ _ _ _ (by show ¬ w.heap.size + 1 + 1 = g; omega)]; exact (HTh.out j hj).1,(own_stay HO2.out (Below.heap_setCell _ _ _ _ (by show g ≠ w.heap.size + 1 + 1; omega))).frozenAt _⟩) (info_S [.int .i64 t.kind,.int .i64 t.n,.string ⟨t.name.toArray⟩,.bool t.secret,.slice x1 y1 z1,.slice x2 y2 z2,.slice x3 y3 z3] rfl) (by simp [stA,Value.oneCell']) ?_
    refine hK.out _ _ (fun h => absurd h (by decide)) ?_
    clear hK K
    try simp only [Act.put,Ord.t,Ord.z,Ord.s]
    refine Ord.wpM_done (by kernel_rfl) ?_ _
    refine NoPanic.normal ?_
    go_wp2
    go_end0
    exact ⟨rfl,HFba.out⟩
end Go.Proofs.YtemdnmfldihalaaGreatDoor.Lr
