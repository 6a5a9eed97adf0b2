/- Laid together: LfGiv, LfCat. -/
import Derived.Test.YtfbmkcogkiejnaaGr3
import Derived.Test.YtfbmkcogkiejnaaGr0
import Derived.Lib.AppendZerosOnto
import Derived.Laws.AppendOwnNone
import Derived.Deep.Upon
import Derived.Deep.AppendLies
namespace Go.Proofs.Ytfbmkcogkiejnaa.Lr
set_option maxHeartbeats 32000000
set_option maxRecDepth 100000
set_option linter.unusedVariables false
set_option linter.unusedSimpArgs false
open Go.ChangeShapes Go.WideShapes Go.ChangeAt Go.RowKit Lg
def IntsIs (w : World) (B : Nat) (l : List Int) (v : Value) : Prop := ∃ (p : Option Addr) (n cap : Nat),v = .slice p n cap ∧ l.length = n ∧ n ≤ cap ∧ n ≤ 17592186044416 ∧ ∀ j x,l[j]? = some x → ∃ g o,p = some ⟨g,o,none⟩ ∧ g < B ∧ w.cell? ⟨g,o + j,none⟩ = some (.int .i64 x)
def ArrsIs (w : World) (B : Nat) (ll : List (List Int)) (v : Value) : Prop := ∃ (p : Option Addr) (n cap : Nat),v = .slice p n cap ∧ ll.length = n ∧ n ≤ cap ∧ n ≤ 5864062014805 ∧ ∀ j l,ll[j]? = some l → ∃ g o s,p = some ⟨g,o,none⟩ ∧ g < B ∧ w.cell? ⟨g,o + j,none⟩ = some s ∧ IntsIs w B l s
theorem IntsIs.below {w w' : World} {B : Nat} {l : List Int} {v : Value} (h : IntsIs w B l v) (hb : Below B w w') : IntsIs w' B l v := by
 obtain ⟨p,n,cap,h1,h2,h3,h4,h5⟩ := h
 refine ⟨p,n,cap,h1,h2,h3,h4,fun j x hj => ?_⟩
 obtain ⟨g,o,k1,k2,k3⟩ := h5 j x hj
 exact ⟨g,o,k1,k2,by rw [cell_below hb k2]; exact k3⟩
theorem ArrsIs.below {w w' : World} {B : Nat} {ll : List (List Int)} {v : Value} (h : ArrsIs w B ll v) (hb : Below B w w') : ArrsIs w' B ll v := by
 obtain ⟨p,n,cap,h1,h2,h3,h4,h5⟩ := h
 refine ⟨p,n,cap,h1,h2,h3,h4,fun j x hj => ?_⟩
 obtain ⟨g,o,s,k1,k2,k3,k4⟩ := h5 j x hj
 exact ⟨g,o,s,k1,k2,by rw [cell_below hb k2]; exact k3,k4.below hb⟩
theorem IntsIs.slice {w : World} {B : Nat} {l : List Int} {v : Value} (h : IntsIs w B l v) : ∃ p n c,v = .slice p n c := by
 obtain ⟨p,n,c,h,_⟩ := h
 exact ⟨p,n,c,h⟩
theorem ArrsIs.slice {w : World} {B : Nat} {l : List (List Int)} {v : Value} (h : ArrsIs w B l v) : ∃ p n c,v = .slice p n c := by
 obtain ⟨p,n,c,h,_⟩ := h
 exact ⟨p,n,c,h⟩
theorem IntsIs.mono {w : World} {B B' : Nat} {l : List Int} {v : Value} (h : IntsIs w B l v) (hB : B ≤ B') : IntsIs w B' l v := by
 obtain ⟨p,n,cap,h1,h2,h3,h4,h5⟩ := h
 refine ⟨p,n,cap,h1,h2,h3,h4,fun j x hj => ?_⟩
 obtain ⟨g,o,k1,k2,k3⟩ := h5 j x hj
 exact ⟨g,o,k1,by omega,k3⟩
theorem int_info : (Try.prog.info? 3).map (fun i => (i.zero,i.size,i.bytes)) = some (some (.int .i64 0),1,8) := by kernel_rfl
theorem ints_info : (Try.prog.info? 30).map (fun i => (i.zero,i.size,i.bytes)) = some (some (.slice none 0 0),1,24) := by kernel_rfl
theorem make_ints (n : Nat) (hn : n ≤ 17592186044416) (w : World) : (Instr.makeSlice 30 (.int .i64 (n : Int)) (.int .i64 (n : Int))).run Try.prog w = .ok (.slice (some ⟨w.heap.size,0,none⟩) n n) (w.alloc (.cells (Array.replicate n (Value.int .i64 0)) 3)) := by
 obtain ⟨i,hi,hz0,hz1,hz2⟩ := info_parts int_info
 have h := run_make (P:=Try.prog) w 30 3 i (.int .i64 0) (by kernel_rfl) hi hz0 .i64 .i64 (n : Int) (n : Int) (by omega) (Int.le_refl _) (by rw [hz2]; omega) (by omega)
 rw [h,hz1,Int.toNat_natCast,Nat.mul_one]
 have e : madeCells (Value.int .i64 0).cells n = Array.replicate n (Value.int .i64 0) := by
  apply Array.toList_inj.1
  rw [Array.toList_replicate]
  exact toList_madeCells_one _ n
 rw [e]
theorem make_arrs (n : Nat) (hn : n ≤ 5864062014805) (w : World) : (Instr.makeSlice 31 (.int .i64 (n : Int)) (.int .i64 (n : Int))).run Try.prog w = .ok (.slice (some ⟨w.heap.size,0,none⟩) n n) (w.alloc (.cells (Array.replicate n (Value.slice none 0 0)) 30)) := by
 obtain ⟨i,hi,hz0,hz1,hz2⟩ := info_parts ints_info
 have h := run_make (P:=Try.prog) w 31 30 i (.slice none 0 0) (by kernel_rfl) hi hz0 .i64 .i64 (n : Int) (n : Int) (by omega) (Int.le_refl _) (by rw [hz2]; omega) (by omega)
 rw [h,hz1,Int.toNat_natCast,Nat.mul_one]
 have e : madeCells (Value.slice none 0 0).cells n = Array.replicate n (Value.slice none 0 0) := by
  apply Array.toList_inj.1
  rw [Array.toList_replicate]
  exact toList_madeCells_one _ n
 rw [e]
theorem Bk.rep (w : World) (n : Nat) (v : Value) (ty : TypeId) : Bk (w.alloc (.cells (Array.replicate n v) ty)) w.heap.size (List.replicate n v) ty := by
 have h := Bk.new w (List.replicate n v) ty
 rw [List.toArray_replicate] at h
 exact h
def slV (p : Nat × List Int) : Value := .slice (some ⟨p.1,0,none⟩) p.2.length p.2.length
structure ArrI (w0 : World) (AO n j : Nat) (ps : List (Nat × List Int)) (w' : World) : Prop where
 lo : Below AO w0 w'
 row : Bk w' AO (ps.map slV ++ List.replicate (n - j) (Value.slice none 0 0)) 30
 len : ps.length = j
 at' : ∀ p ∈ ps,AO < p.1 ∧ Bk w' p.1 (p.2.map (Value.int .i64)) 3
 nd : (ps.map Prod.fst).Nodup
theorem ArrI.lt {w0 : World} {AO n j : Nat} {ps : List (Nat × List Int)} {w' : World} (h : ArrI w0 AO n j ps w') : AO < w'.heap.size := h.row.lt
theorem ArrI.step {w0 : World} {AO n j : Nat} {ps : List (Nat × List Int)} {w1 w2 w3 : World} {row : List Int} {b : Nat} (h : ArrI w0 AO n j ps w1) (hj : j < n) (hb : b = w1.heap.size) (hw2 : w2 = (w1.alloc (.cells (Array.replicate row.length (Value.int .i64 0)) 3)).setCell ⟨AO,j,none⟩ (.slice (some ⟨b,0,none⟩) row.length row.length)) (h3 : Bk w3 b (row.map (Value.int .i64)) 3) (hb3 : Below b w2 w3) : ArrI w0 AO n (j + 1) (ps ++ [(b,row)]) w3 := by
 have hAO := h.lt
 have k2 : ∀ i,i < w1.heap.size → i ≠ AO → w2.heap[i]? = w1.heap[i]? := fun i hi hn => by
  rw [hw2,Below.heap_setCell _ _ _ _ hn]
  exact ((Below.refl w1.heap.size w1).alloc (Nat.le_refl _) _).block i hi
 refine ⟨?_,?_,by rw [List.length_append,h.len]; rfl,fun p hp => ?_,?_⟩
 ·refine h.lo.trans ⟨?_,?_,?_,?_,fun k hk => ?_⟩
  ·rw [hb3.os,hw2]; rfl
  ·rw [hb3.tape,hw2]; rfl
  ·rw [hb3.output,hw2]; rfl
  ·have := hb3.size
   rw [hw2] at this
   simp [World.setCell] at this
   omega
  ·rw [hb3.block k (by omega),k2 k (by omega) (by omega)]
 ·have h0 : Bk (w1.alloc (.cells (Array.replicate row.length (Value.int .i64 0)) 3)) AO (ps.map slV ++ List.replicate (n - j) (Value.slice none 0 0)) 30 := h.row.up _
  have h1 := h0.set j (.slice (some ⟨b,0,none⟩) row.length row.length)
  rw [← hw2] at h1
  have e : (ps.map slV ++ List.replicate (n - j) (Value.slice none 0 0)).set j (.slice (some ⟨b,0,none⟩) row.length row.length) = (ps ++ [(b,row)]).map slV ++ List.replicate (n - (j + 1)) (Value.slice none 0 0) := by
   rw [List.set_append_right _ _ (by rw [List.length_map,h.len]; exact Nat.le_refl _),List.length_map,h.len,Nat.sub_self,show n - j = (n - (j + 1)) + 1 by omega,List.replicate_succ,List.set_cons_zero,List.map_append,List.append_assoc]
   rfl
  rw [e] at h1
  unfold Bk at h1 ⊢
  rw [hb3.block AO (by omega)]; exact h1
 ·rcases List.mem_append.1 hp with hp | hp
  ·obtain ⟨q1,q2⟩ := h.at' p hp
   have hl := q2.lt
   refine ⟨q1,?_⟩
   unfold Bk at q2 ⊢
   rw [hb3.block p.1 (by omega),k2 p.1 hl (by omega)]; exact q2
  ·rw [List.mem_singleton] at hp
   subst hp
   exact ⟨by dsimp only; omega,h3⟩
 ·rw [List.map_append,List.nodup_append]
  refine ⟨h.nd,by simp,fun a ha c hc => ?_⟩
  obtain ⟨p,hp,rfl⟩ := List.mem_map.1 ha
  simp at hc
  have := (h.at' p hp).2.lt
  omega
theorem splice_all (row : List Int) : splice (List.replicate row.length (Value.int .i64 0)) 0 (row.map (Value.int .i64)) = row.map (Value.int .i64) := by
 unfold splice
 rw [List.take_zero,List.nil_append,Nat.zero_add,List.length_map,List.drop_eq_nil_of_le (by simp),List.append_nil]
theorem arrays_any (B : Nat) (ll : List (List Int)) (sl : Value) (w : World) (hB : B ≤ w.heap.size) (hi : ArrsIs w B ll sl) :
  Calls Try.prog 58 #[sl] w fun r w' => ∃ ps : List (Nat × List Int),r = .returned (.slice (some ⟨w.heap.size,0,none⟩) ll.length ll.length) ∧ ps.map Prod.snd = ll ∧ ArrI w w.heap.size ll.length ll.length ps w' := by
 obtain ⟨p,n,c,rfl,hln,hc1,hc2,hqa⟩ := hi
 have hmk := make_arrs n hc2
 obtain ⟨w1,hw1⟩ : ∃ y,w.alloc (.cells (Array.replicate n (Value.slice none 0 0)) 30) = y := ⟨_,rfl⟩
 have HI0 : Hid (ArrI w w.heap.size n 0 [] w1) := by
  show ArrI _ _ _ _ _ _
  refine ⟨by rw [← hw1]; exact (Below.refl _ _).alloc (Nat.le_refl _) _,by rw [← hw1]; exact Bk.rep _ _ _ _,rfl,fun p hp => (by cases hp),List.nodup_nil⟩
 have HW1 := keep hw1
 obtain ⟨AO,hAO⟩ : ∃ y,w.heap.size = y := ⟨_,rfl⟩
 rw [hAO] at HI0
 have HQ := keep hqa
 have HLN := keep hln
 have HBB := keep hB
 have HAO := keep hAO
 have hz1 : (0 : Int) ≤ (n : Int) := by omega
 clear hw1 hqa hln hB
 go_enter Try.func58,Try.ntmps58
 go_wp2_with (first | rw [hmk] | rw [HW1.out])
 clear hAO hmk
 go_loopw [11] (fun i wx => ∃ (j : Nat) (ps : List (Nat × List Int)),j ≤ n ∧ i = .int .i64 (j : Int) ∧ ps.map Prod.snd = ll.take j ∧ ArrI w AO n j ps wx) (fun i _ => n - (intOf i).toNat)
 case atStart => exact ⟨0,[],by omega,rfl,rfl,HI0.out⟩
 case round =>
  obtain ⟨j,ps,hjn,rfl,hps,hI⟩ := hrel
  have HPS := keep hps
  have HI := keep hI
  clear hps hI HI0
  by_cases hjl : j < n
  ·have d1 : decide ((j : Int) < (n : Int)) = true := decide_eq_true (by omega)
   have hjz : (j : Int) < (n : Int) := by omega
   have hj0 : (0 : Int) ≤ (j : Int) := by omega
   have hwr : IntKind.i64.wrap ((j : Int) + 1) = (j : Int) + 1 := by rw [IntKind.wrap_i64]; omega
   obtain ⟨row,hrow⟩ : ∃ row,ll[j]? = some row := ⟨_,List.getElem?_eq_getElem (by rw [HLN.out]; exact hjl)⟩
   obtain ⟨g,o,s,rfl,hg,hs,hint⟩ := HQ.out j row hrow
   obtain ⟨pr,nr,cr,rfl,hnr,hcr,hlr,hcells⟩ := hint
   have hgw : g < AO := by have := HBB.out; have := HAO.out; omega
   have hmk2 := make_ints nr hlr
   have a0 : wr.cell? ⟨g,o + j,none⟩ = some (.slice pr nr cr) := by rw [cell_below HI.out.lo hgw]; exact hs
   have HRW := keep hrow
   have HCL : Hid (∀ k x,row[k]? = some x → ∃ g o,pr = some ⟨g,o,none⟩ ∧ g < AO ∧ w.cell? ⟨g,o + k,none⟩ = some (.int .i64 x)) := fun k x hk => by
    obtain ⟨g',o',q1,q2,q3⟩ := hcells k x hk
    exact ⟨g',o',q1,by have := HBB.out; have := HAO.out; omega,q3⟩
   have HNR := keep hnr
   obtain ⟨b,hb⟩ : ∃ y,wr.heap.size = y := ⟨_,rfl⟩
   obtain ⟨wa,hwa⟩ : ∃ y,wr.alloc (.cells (Array.replicate nr (Value.int .i64 0)) 3) = y := ⟨_,rfl⟩
   have hrA : Bk wa AO (ps.map slV ++ List.replicate (n - j) (Value.slice none 0 0)) 30 := by rw [← hwa]; exact HI.out.row.up _
   have cA := hrA.cell j (u:=.slice none 0 0) (by rw [List.getElem?_append_right (by rw [List.length_map,HI.out.len]; exact Nat.le_refl _),List.length_map,HI.out.len,Nat.sub_self,List.getElem?_replicate,if_pos (by omega)])
   have fA := hrA.fr j
   obtain ⟨w2,hw2⟩ : ∃ y,wa.setCell ⟨AO,j,none⟩ (.slice (some ⟨b,0,none⟩) nr nr) = y := ⟨_,rfl⟩
   have hr2 := hrA.set j (.slice (some ⟨b,0,none⟩) nr nr)
   have hlen : (ps.map slV ++ List.replicate (n - j) (Value.slice none 0 0)).length = n := by rw [List.length_append,List.length_map,HI.out.len,List.length_replicate]; omega
   have c2 : w2.cell? ⟨AO,j,none⟩ = some (.slice (some ⟨b,0,none⟩) nr nr) := by
    rw [← hw2]
    exact hr2.cell j (by rw [List.getElem?_set_self (by rw [hlen]; exact hjl)])
   have hkb : Bk w2 b (List.replicate nr (Value.int .i64 0)) 3 := by
    have h0 : Bk wa b (List.replicate nr (Value.int .i64 0)) 3 := by rw [← hwa,← hb]; exact Bk.rep _ _ _ _
    rw [← hw2]
    exact h0.far j _ (by have := HI.out.lt; omega)
   have hlo2 : Below AO w w2 := by
    rw [← hw2,← hwa]
    exact (HI.out.lo.alloc (by have := HI.out.lt; omega) _).setCell (Nat.le_refl _) _
   have HLO2 := keep hlo2
   have HKB := keep hkb
   have HW2 := keep hw2
   have HWA := keep hwa
   have HBe := keep hb
   have hABlt : AO < b := by have := HI.out.lt; omega
   clear hrow hs hcells hrA hr2 hlen hlo2 hkb hw2 hwa hnr
   obtain ⟨cs,hcs⟩ : ∃ cs,cs = row.map (Value.int .i64) := ⟨_,rfl⟩
   have HCN : Hid (cs.length = Nat.min nr nr) := by
    show _ = _
    rw [hcs,List.length_map,HNR.out]; exact (Nat.min_self _).symm
   have HPos : Hid (0 < cs.length → some (⟨b,0,none⟩ : Addr) = some ⟨b,0,none⟩ ∧ ∃ ad,pr = some ad ∧ ∀ k v,cs[k]? = some v → w2.cell? (ad.add k) = some v) := by
    intro hp
    refine ⟨rfl,?_⟩
    obtain ⟨x,hx⟩ : ∃ x,row[0]? = some x := ⟨_,List.getElem?_eq_getElem (by rw [hcs,List.length_map] at hp; exact hp)⟩
    obtain ⟨g',o',e1,q2,_⟩ := HCL.out 0 x hx
    refine ⟨⟨g',o',none⟩,e1,fun k v hk => ?_⟩
    rw [hcs,List.getElem?_map,Option.map_eq_some_iff] at hk
    obtain ⟨y,hy,rfl⟩ := hk
    obtain ⟨g2,o2,e2,q3,q4⟩ := HCL.out k y hy
    rw [e1] at e2
    cases e2
    rw [show (⟨g',o',none⟩ : Addr).add k = ⟨g',o' + k,none⟩ from by simp [Addr.add]]
    rw [cell_below HLO2.out q2]; exact q4
   have HFit : Hid (0 + cs.length ≤ (List.replicate nr (Value.int .i64 0)).length) := by
    show _ ≤ _
    rw [List.length_replicate,HCN.out,Nat.zero_add]; exact Nat.min_le_left _ _
   have HOne : Hid (∀ v ∈ cs,v.oneCell' = true) := by
    intro v hv
    rw [hcs] at hv
    obtain ⟨y,_,rfl⟩ := List.mem_map.1 hv
    rfl
   have HCS := keep hcs
   clear hcs
   go_wp2_with (first | rw [hmk2] | rw [HWA.out] | rw [HW2.out] | (refine wpList_copy_splice rfl (.tmp 25) (.tmp 26) 30 30 rfl 3 (by kernel_rfl) (by kernel_rfl) _ _ _ _ _ _ rfl rfl b 0 (List.replicate nr (Value.int .i64 0)) 3 HKB.out cs HCN.out HPos.out HFit.out HOne.out b w2 (Below.refl _ _) (Nat.le_refl _) ?_))
   intro w3 hg3 hb3
   have HB3 := keep hb3
   have HG3 := keep hg3
   clear hb3 hg3
   go_wp2
   go_roundw
   case rel =>
    refine ⟨j + 1,ps ++ [(b,row)],by omega,by go_num,?_,?_⟩
    ·rw [List.map_append,HPS.out,List.take_add_one,HRW.out]; rfl
    ·refine HI.out.step hjl HBe.out.symm (w2:=w2) ?_ ?_ HB3.out
     ·rw [← HW2.out,← HWA.out,HNR.out]
     ·have h := HG3.out.out
      rw [HCS.out,← HNR.out,splice_all] at h
      exact h
   case measure => simp [intOf]; omega
  ·have hje : j = n := by omega
   subst hje
   have dl : decide ((j : Int) < (j : Int)) = false := decide_eq_false (by omega)
   have HE : Hid (∃ ps : List (Nat × List Int),ps.map Prod.snd = ll ∧ ArrI w AO j j ps wr) := ⟨ps,by rw [HPS.out,← HLN.out,List.take_length],HI.out⟩
   clear hjl HPS HI HQ
   go_wp2
   go_ret
   obtain ⟨ps,e1,e2⟩ := HE.out
   refine ⟨ps,?_,e1,?_⟩
   ·rw [HAO.out,HLN.out]; rfl
   ·rw [HAO.out,HLN.out]; exact e2
def cellsI (x : Int) : List Value := [.int .i64 x]
def nestI (w : World) (X : Nat → Prop) (p : Int) : Prop := True
theorem nestI_nest : Nest nestI := ⟨fun w w' X p h hb => trivial,fun w X Y p h hb => trivial⟩
theorem cellsI_len (p : Int) : (cellsI p).length = 1 := rfl
def RowI (w : World) (lo : Nat) (v : Value) (es : List Int) : Prop := RowX nestI cellsI 1 3 w lo v es
theorem cellsI_one (vs : List Int) (u : Value) (h : u ∈ vs.flatMap cellsI) : u.oneCell' = true := by
 obtain ⟨v,_,hv⟩ := List.mem_flatMap.1 h
 simp only [cellsI,List.mem_cons,List.not_mem_nil,or_false] at hv
 rw [hv]; rfl
theorem cellsI_map (l : List Int) : l.flatMap cellsI = l.map (Value.int .i64) := by
 induction l with
 | nil => rfl
 | cons a l ih => rw [List.flatMap_cons,ih]; rfl
theorem RowI.ints {w : World} {lo : Nat} {v : Value} {es : List Int} (h : RowI w lo v es) (hl : es.length ≤ 17592186044416) : IntsIs w w.heap.size es v := by
 rcases RowX.form cellsI_len h with ⟨h1,h2⟩ | ⟨g,cap,h1,h2,h3,h4,h5⟩
 ·exact ⟨none,0,0,h2,by rw [h1]; rfl,Nat.le_refl _,by omega,fun j t hj => by rw [h1] at hj; simp at hj⟩
 ·refine ⟨some ⟨g,0,none⟩,_,cap,h1,rfl,h2,hl,fun j p hp => ⟨g,0,rfl,by omega,?_⟩⟩
  have := h5 j p 0 _ hp rfl
  rw [Nat.zero_add]
  simpa using this
theorem intT5 : Try.prog.underlying 3 = some (.int .i64) := by kernel_rfl
theorem grow_ints (n : Nat) (hn : n ≤ 1048576) (w : World) :
  Calls Try.prog 89 #[.slice none 0 0,.int .i64 (n : Int)] w fun r w' => ∃ v,r = .returned v ∧ RowI w' w.heap.size v [] ∧ Below w.heap.size w w' := by
 by_cases h0 : n = 0
 ·subst h0
  have e0 : ((0 : Nat) : Int) = 0 := rfl
  rw [e0]
  go_enter Try.func89,Try.ntmps89
  go_wp2
  go_ret
  exact ⟨_,rfl,RowX.nil _ _,Below.refl _ _⟩
 ·obtain ⟨i0,hi0,j0,j1,j2⟩ := info_parts int_info
  have h1 : decide ((n : Int) < 0) = false := decide_eq_false (by omega)
  have h4 : decide (0 < (n : Int)) = true := decide_eq_true (by omega)
  have hwr : IntKind.i64.wrap ((n : Int)) = (n : Int) := by rw [IntKind.wrap_i64]; omega
  have hrz := fun ty => Lib.run_append_nil_zeros (P:=Try.prog) w 30 3 ty 3 i0 _ .i64 .i64 Try.underlying30 intT5 hi0 j0 n (by omega) (by rw [j1]; decide) (by omega) (by rw [j2]; omega)
  have hG1 := grownCap_ge w n 0 3
  have hG2 := grownCap_le_maxLen w n 0 3 (by unfold maxLen; omega)
  obtain ⟨G,hG⟩ : ∃ G,G = grownCap w n 0 3 := ⟨_,rfl⟩
  rw [← hG] at hrz hG1 hG2
  have HRow : Hid (RowI (w.drew.alloc (.cells (Builtin.zeroCells (Value.int .i64 0).cells n ++ Builtin.zeroCells (Value.int .i64 0).cells (G - n)) 3)) w.heap.size (.slice (some ⟨w.heap.size,0,none⟩) 0 G) []) := by
   refine ⟨⟨rfl,.inr ⟨w.heap.size,G,_,rfl,Nat.le_refl _,(MapKept.heap_alloc w.drew _).1,Nat.zero_le _,hG2,?_,by simp⟩⟩,by simp⟩
   rw [Array.size_append,size_zeroCells,size_zeroCells,show (Value.int .i64 0).cells.size = 1 from rfl,← Nat.add_mul]
   omega
  have HB : Hid (Below w.heap.size w (w.drew.alloc (.cells (Builtin.zeroCells (Value.int .i64 0).cells n ++ Builtin.zeroCells (Value.int .i64 0).cells (G - n)) 3))) :=
   (Below.drew (Below.refl _ _)).alloc (Nat.le_refl _) _
  have HRz := keep hrz
  have hG0 : (0 : Int) ≤ (G : Int) := by omega
  clear hrz hG
  go_enter Try.func89,Try.ntmps89
  go_wp2_with (at_builtin; refine Lib.wpList_append_run _ rfl _ _ _ _ rfl _ _ rfl rfl _ _ (HRz.out _) ?_)
  go_ret
  exact ⟨_,rfl,HRow.out,HB.out⟩
theorem IntsIs.form {w : World} {B : Nat} {vs : List Int} {p : Option Addr} {n cap : Nat} (h : IntsIs w B vs (.slice p n cap)) : (vs = [] ∧ n = 0) ∨ ∃ g o,p = some ⟨g,o,none⟩ ∧ 0 < vs.length ∧ n = vs.length ∧ ∀ j u,(vs.flatMap cellsI)[j]? = some u → w.cell? ((⟨g,o,none⟩ : Addr).add j) = some u := by
 obtain ⟨p',n',cap',h1,h2,h3,h4,h5⟩ := h
 injection h1 with e1 e2 e3
 subst e1 e2 e3
 cases hv : vs with
 | nil => rw [hv] at h2; exact .inl ⟨rfl,h2.symm⟩
 | cons v r =>
  obtain ⟨g,o,k1,_⟩ := h5 0 v (by rw [hv]; rfl)
  refine .inr ⟨g,o,k1,by simp,by rw [← h2,hv],fun j u hj => ?_⟩
  rw [cellsI_map,List.getElem?_map,Option.map_eq_some_iff,← hv] at hj
  obtain ⟨x,hx,rfl⟩ := hj
  obtain ⟨g',o',q1,q2,q3⟩ := h5 j x hx
  rw [k1] at q1
  cases q1
  rw [show (⟨g,o,none⟩ : Addr).add j = ⟨g,o + j,none⟩ from by simp [Addr.add]]
  exact q3
def sumL (ll : List (List Int)) : Nat := (ll.map List.length).sum
theorem sumL_take (ll : List (List Int)) (j : Nat) (l : List Int) (h : ll[j]? = some l) : sumL (ll.take (j + 1)) = sumL (ll.take j) + l.length := by
 unfold sumL
 rw [List.take_add_one,h,Option.toList_some,List.map_append,List.sum_append]
 simp
theorem sumL_le : ∀ (ll : List (List Int)) (j : Nat),sumL (ll.take j) ≤ sumL ll
 | [],j => by simp [sumL]
 | l :: ll,0 => by simp [sumL]
 | l :: ll,j + 1 => by
  have := sumL_le ll j
  unfold sumL at this ⊢
  simp only [List.take_succ_cons,List.map_cons,List.sum_cons]
  omega
theorem flat_len (ll : List (List Int)) : ll.flatten.length = sumL ll := by
 unfold sumL
 induction ll with
 | nil => rfl
 | cons l ll ih => simp [ih]
theorem concat_ints (B : Nat) (ll : List (List Int)) (sl : Value) (w : World) (hB : B ≤ w.heap.size) (hi : ArrsIs w B ll sl) (hT : sumL ll ≤ 1048576) :
  Calls Try.prog 72 #[sl] w fun r w' => ∃ v,r = .returned v ∧ RowI w' w.heap.size v ll.flatten ∧ Below w.heap.size w w' := by
 have HA := keep hi
 obtain ⟨p,n,c,rfl,hln,hc1,hc2,hqa⟩ := hi
 obtain ⟨i0,hi0,j0,j1,j2⟩ := info_parts int_info
 have HLN := keep hln
 have HB0 := keep hB
 have HTo := keep hT
 have HTk : Hid (∀ k,sumL (ll.take k) ≤ 1048576) := fun k => Nat.le_trans (sumL_le ll k) hT
 clear hqa hln hB hT
 go_enter Try.func72,Try.ntmps72
 go_wp2
 go_loopw [11,3] (fun i s wx => w = wx ∧ ∃ j : Nat,j ≤ n ∧ i = .int .i64 (j : Int) ∧ s = .int .i64 ((sumL (ll.take j) : Nat) : Int)) (fun i _ _ => n - (intOf i).toNat)
 case atStart => exact ⟨rfl,0,by omega,rfl,rfl⟩
 case round =>
  obtain ⟨rfl,j,hjn,rfl,rfl⟩ := hrel
  by_cases hjl : j < n
  ·have d1 : decide ((j : Int) < (n : Int)) = true := decide_eq_true (by omega)
   have hjz : (j : Int) < (n : Int) := by omega
   have hj0 : (0 : Int) ≤ (j : Int) := by omega
   have hwr : IntKind.i64.wrap ((j : Int) + 1) = (j : Int) + 1 := by rw [IntKind.wrap_i64]; omega
   obtain ⟨row,hrow⟩ : ∃ row,ll[j]? = some row := ⟨_,List.getElem?_eq_getElem (by rw [HLN.out]; exact hjl)⟩
   obtain ⟨p',n',c',e0,_,_,_,hq⟩ := HA.out
   injection e0 with e1 e2 e3
   obtain ⟨g,o,s,e4,hg,hs,hint⟩ := hq j row hrow
   obtain ⟨pr,nr,cr,rfl,hnr,_⟩ := hint
   rw [← e1] at e4
   subst e4
   have hst := sumL_take ll j row hrow
   have hle := sumL_le ll (j + 1)
   have htt := HTo.out
   have HSt : Hid (sumL (ll.take (j + 1)) = sumL (ll.take j) + nr) := by
    show _ = _
    rw [hst,hnr]
   have hS1 : sumL (ll.take j) + nr ≤ 1048576 := by rw [← HSt.out]; omega
   clear hst hle htt hq hrow e1 e2 e3
   generalize sumL (ll.take j) = S0 at *
   have hw1 : IntKind.i64.wrap ((S0 : Int) + (nr : Int)) = (S0 : Int) + (nr : Int) := by rw [IntKind.wrap_i64]; omega
   have hd1 : decide ((S0 : Int) + (nr : Int) < 0) = false := decide_eq_false (by omega)
   go_wp2
   go_roundw
   case rel => exact ⟨by first | rfl | trivial,j + 1,by omega,by go_num,by rw [HSt.out]; go_num⟩
   case measure => simp [intOf]; omega
  ·have hje : j = n := by omega
   subst hje
   have dl : decide ((j : Int) < (j : Int)) = false := decide_eq_false (by omega)
   have hS : sumL (ll.take j) = sumL ll := by rw [← HLN.out,List.take_length]
   rw [hS]
   have HG := keep (grow_ints (sumL ll) HTo.out w)
   generalize sumL ll = S at *
   clear hjl hS
   go_wp2_with fail
   refine HG.out.mono ?_
   rintro r w1 ⟨v,rfl,hr1,hb1⟩
   obtain ⟨pg,ng,cg,rfl⟩ := RowX.slice hr1
   have HR1 := keep hr1
   have HB1 := keep hb1
   clear hr1 hb1 HG dl
   go_wp2
   go_loopw [27,6] (fun i v wx => ∃ k : Nat,k ≤ j ∧ i = .int .i64 (k : Int) ∧ RowI wx w.heap.size v (ll.take k).flatten ∧ Below w.heap.size w wx) (fun i _ _ => j - (intOf i).toNat)
   case atStart => exact ⟨0,by omega,rfl,HR1.out,HB1.out⟩
   case round =>
    clear HR1 HB1
    obtain ⟨k,hkn,rfl,hr,hb⟩ := hrel
    have HR := keep hr
    have HBx := keep hb
    clear hr hb
    by_cases hkl : k < j
    ·have d1 : decide ((k : Int) < (j : Int)) = true := decide_eq_true (by omega)
     have hkz : (k : Int) < (j : Int) := by omega
     have hk0 : (0 : Int) ≤ (k : Int) := by omega
     have hwr : IntKind.i64.wrap ((k : Int) + 1) = (k : Int) + 1 := by rw [IntKind.wrap_i64]; omega
     obtain ⟨row,hrow⟩ : ∃ row,ll[k]? = some row := ⟨_,List.getElem?_eq_getElem (by rw [HLN.out]; exact hkl)⟩
     obtain ⟨p',n',c',e0,_,_,_,hq⟩ := HA.out.below (HBx.out.mono HB0.out)
     injection e0 with e1 e2 e3
     obtain ⟨g,o,s,e4,hg,hs,hint⟩ := hq k row hrow
     obtain ⟨pr,nr,cr,rfl⟩ := hint.slice
     rw [← e1] at e4
     subst e4
     obtain ⟨pv,nv,cv,rfl⟩ := RowX.slice HR.out
     have hnv := RowX.len HR.out
     have hlen2 : (ll.take (k + 1)).flatten.length = (ll.take k).flatten.length + row.length := by rw [flat_len,flat_len,sumL_take ll k row hrow]
     have hle2 : (ll.take k).flatten.length + row.length ≤ 1048576 := by
      rw [← hlen2,flat_len]
      exact HTk.out (k + 1)
     have HFl : Hid ((ll.take (k + 1)).flatten = (ll.take k).flatten ++ row) := by
      show _ = _
      rw [List.take_add_one,hrow,Option.toList_some,List.flatten_append]
      simp
     have HInt := keep hint
     clear hq hrow e1 e2 e3 hint hlen2
     generalize (ll.take k).flatten = done at *
     subst hnv
     rcases HInt.out.form with ⟨hnil,hz⟩ | ⟨gs,os,rfl,hpos,hnr,hcl⟩
     ·subst hnil
      subst hz
      have hle : done.length ≤ cv := by
       rcases (RowX.own HR.out).2 with ⟨q1,q2⟩ | ⟨_,_,_,q1,_,_,q4,_⟩
       ·injection q1 with _ q1 q2; omega
       ·injection q1 with _ q1 q2; omega
      have hsrc : Src Try.prog i0.size 30 (.slice pr 0 cr) 0 [] wr := by
       cases pr with
       | none => exact Src.ofNil wr Try.underlying30 cr
       | some a => exact Src.ofSlice wr Try.underlying30 a 0 cr [] (by simp) (by simp) (by simp)
      have HRz := keep (fun ty => run_append_nothing (P:=Try.prog) wr 30 30 ty 3 i0 Try.underlying30 hi0 pv done.length cv hle (.slice pr 0 cr) hsrc)
      clear hsrc
      go_wp2_with (at_builtin; refine Lib.wpList_append_run _ rfl _ _ _ _ rfl _ _ rfl rfl _ _ (HRz.out _) ?_)
      go_roundw
      case rel => exact ⟨k + 1,by omega,by go_num,by rw [HFl.out,List.append_nil]; exact HR.out,HBx.out⟩
      case measure => simp [intOf]; omega
     ·have HCe := keep hcl
      have HNr := keep hnr
      subst hnr
      clear hcl
      go_wp2_with (at_builtin; refine wpList_append_lies _ rfl (.tmp 31) (.tmp 32) 30 rfl w.heap.size 3 i0 _ 1 8 Try.underlying30 hi0 j0 j1 j2 rfl (by decide) (.slice pv done.length cv) done.length (done.flatMap cellsI) rfl (RowX.own HR.out) ⟨gs,os,none⟩ row.length cr (row.flatMap cellsI) rfl (flat_len7 cellsI 1 cellsI_len _) HCe.out (cellsI_one _) hpos (by unfold maxLen; omega) (by omega) HBx.out.size _ rfl ?_)
      intro g2 cap w2 hown2 hgrow hat hlt
      have HR2 : Hid (RowI w2 w.heap.size (.slice (some ⟨g2,0,none⟩) (done.length + row.length) cap) (done ++ row)) := ⟨by rw [List.length_append,List.flatMap_append]; exact hown2,fun p hp => trivial⟩
      have HB2 : Hid (Below w.heap.size w w2) := HBx.out.trans ⟨hgrow.os,hgrow.tape,hgrow.output,hgrow.size,fun i hi => hgrow.block i (by have := HBx.out.size; omega) (fun e => by have := ((RowX.own HR.out).lt i e.symm).1; omega)⟩
      clear hown2 hgrow hat hlt HCe
      go_wp2
      go_roundw
      case rel => exact ⟨k + 1,by omega,by go_num,by rw [HFl.out]; exact HR2.out,HB2.out⟩
      case measure => simp [intOf]; omega
    ·have hke : k = j := by omega
     subst hke
     have dl : decide ((k : Int) < (k : Int)) = false := decide_eq_false (by omega)
     obtain ⟨pv,nv,cv,rfl⟩ := RowX.slice HR.out
     have HE : Hid (RowI wr w.heap.size (.slice pv nv cv) ll.flatten ∧ Below w.heap.size w wr) := ⟨by have := HR.out; rw [← HLN.out,List.take_length] at this; exact this,HBx.out⟩
     clear hkl HR HBx
     go_wp2
     go_ret
     exact ⟨_,rfl,HE.out⟩
end Go.Proofs.Ytfbmkcogkiejnaa.Lr
