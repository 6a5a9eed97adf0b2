/- What a program is given: words, and arrays of words, as they lie in memory; a copy of arrays. -/
import Derived.Test.YtpnacanbknejiaaGr5
import Derived.Test.YtpnacanbknejiaaGr0
namespace Go.Proofs.Ytpnacanbknejiaa.Lr
set_option maxHeartbeats 32000000
set_option maxRecDepth 100000
set_option linter.unusedVariables false
set_option linter.unusedSimpArgs false
open Go.ChangeShapes Go.WideShapes Go.ChangeAt Go.RowKit Lg
def IntsIs (w : World) (B : Nat) (l : List Int) (v : Value) : Prop := ∃ (p : Option Addr) (n cap : Nat),v = .slice p n cap ∧ l.length = n ∧ n ≤ cap ∧ n ≤ 17592186044416 ∧ ∀ j x,l[j]? = some x → ∃ g o,p = some ⟨g,o,none⟩ ∧ g < B ∧ w.cell? ⟨g,o + j,none⟩ = some (.int .i64 x)
def ArrsIs (w : World) (B : Nat) (ll : List (List Int)) (v : Value) : Prop := ∃ (p : Option Addr) (n cap : Nat),v = .slice p n cap ∧ ll.length = n ∧ n ≤ cap ∧ n ≤ 5864062014805 ∧ ∀ j l,ll[j]? = some l → ∃ g o s,p = some ⟨g,o,none⟩ ∧ g < B ∧ w.cell? ⟨g,o + j,none⟩ = some s ∧ IntsIs w B l s
theorem IntsIs.below {w w' : World} {B : Nat} {l : List Int} {v : Value} (h : IntsIs w B l v) (hb : Below B w w') : IntsIs w' B l v := by
 obtain ⟨p,n,cap,h1,h2,h3,h4,h5⟩ := h
 refine ⟨p,n,cap,h1,h2,h3,h4,fun j x hj => ?_⟩
 obtain ⟨g,o,k1,k2,k3⟩ := h5 j x hj
 exact ⟨g,o,k1,k2,by rw [cell_below hb k2]; exact k3⟩
theorem ArrsIs.below {w w' : World} {B : Nat} {ll : List (List Int)} {v : Value} (h : ArrsIs w B ll v) (hb : Below B w w') : ArrsIs w' B ll v := by
 obtain ⟨p,n,cap,h1,h2,h3,h4,h5⟩ := h
 refine ⟨p,n,cap,h1,h2,h3,h4,fun j x hj => ?_⟩
 obtain ⟨g,o,s,k1,k2,k3,k4⟩ := h5 j x hj
 exact ⟨g,o,s,k1,k2,by rw [cell_below hb k2]; exact k3,k4.below hb⟩
theorem IntsIs.slice {w : World} {B : Nat} {l : List Int} {v : Value} (h : IntsIs w B l v) : ∃ p n c,v = .slice p n c := by
 obtain ⟨p,n,c,h,_⟩ := h
 exact ⟨p,n,c,h⟩
theorem ArrsIs.slice {w : World} {B : Nat} {l : List (List Int)} {v : Value} (h : ArrsIs w B l v) : ∃ p n c,v = .slice p n c := by
 obtain ⟨p,n,c,h,_⟩ := h
 exact ⟨p,n,c,h⟩
theorem IntsIs.mono {w : World} {B B' : Nat} {l : List Int} {v : Value} (h : IntsIs w B l v) (hB : B ≤ B') : IntsIs w B' l v := by
 obtain ⟨p,n,cap,h1,h2,h3,h4,h5⟩ := h
 refine ⟨p,n,cap,h1,h2,h3,h4,fun j x hj => ?_⟩
 obtain ⟨g,o,k1,k2,k3⟩ := h5 j x hj
 exact ⟨g,o,k1,by omega,k3⟩
theorem int_info : (Try.prog.info? 3).map (fun i => (i.zero,i.size,i.bytes)) = some (some (.int .i64 0),1,8) := by kernel_rfl
theorem ints_info : (Try.prog.info? 30).map (fun i => (i.zero,i.size,i.bytes)) = some (some (.slice none 0 0),1,24) := by kernel_rfl
theorem make_ints (n : Nat) (hn : n ≤ 17592186044416) (w : World) : (Instr.makeSlice 30 (.int .i64 (n : Int)) (.int .i64 (n : Int))).run Try.prog w = .ok (.slice (some ⟨w.heap.size,0,none⟩) n n) (w.alloc (.cells (Array.replicate n (Value.int .i64 0)) 3)) := by
 obtain ⟨i,hi,hz0,hz1,hz2⟩ := info_parts int_info
 have h := run_make (P:=Try.prog) w 30 3 i (.int .i64 0) (by kernel_rfl) hi hz0 .i64 .i64 (n : Int) (n : Int) (by omega) (Int.le_refl _) (by rw [hz2]; omega) (by omega)
 rw [h,hz1,Int.toNat_natCast,Nat.mul_one]
 have e : madeCells (Value.int .i64 0).cells n = Array.replicate n (Value.int .i64 0) := by
  apply Array.toList_inj.1
  rw [Array.toList_replicate]
  exact toList_madeCells_one _ n
 rw [e]
theorem make_arrs (n : Nat) (hn : n ≤ 5864062014805) (w : World) : (Instr.makeSlice 31 (.int .i64 (n : Int)) (.int .i64 (n : Int))).run Try.prog w = .ok (.slice (some ⟨w.heap.size,0,none⟩) n n) (w.alloc (.cells (Array.replicate n (Value.slice none 0 0)) 30)) := by
 obtain ⟨i,hi,hz0,hz1,hz2⟩ := info_parts ints_info
 have h := run_make (P:=Try.prog) w 31 30 i (.slice none 0 0) (by kernel_rfl) hi hz0 .i64 .i64 (n : Int) (n : Int) (by omega) (Int.le_refl _) (by rw [hz2]; omega) (by omega)
 rw [h,hz1,Int.toNat_natCast,Nat.mul_one]
 have e : madeCells (Value.slice none 0 0).cells n = Array.replicate n (Value.slice none 0 0) := by
  apply Array.toList_inj.1
  rw [Array.toList_replicate]
  exact toList_madeCells_one _ n
 rw [e]
theorem Bk.rep (w : World) (n : Nat) (v : Value) (ty : TypeId) : Bk (w.alloc (.cells (Array.replicate n v) ty)) w.heap.size (List.replicate n v) ty := by
 have h := Bk.new w (List.replicate n v) ty
 rw [List.toArray_replicate] at h
 exact h
def slV (p : Nat × List Int) : Value := .slice (some ⟨p.1,0,none⟩) p.2.length p.2.length
structure ArrI (w0 : World) (AO n j : Nat) (ps : List (Nat × List Int)) (w' : World) : Prop where
 lo : Below AO w0 w'
 row : Bk w' AO (ps.map slV ++ List.replicate (n - j) (Value.slice none 0 0)) 30
 len : ps.length = j
 at' : ∀ p ∈ ps,AO < p.1 ∧ Bk w' p.1 (p.2.map (Value.int .i64)) 3
 nd : (ps.map Prod.fst).Nodup
theorem ArrI.lt {w0 : World} {AO n j : Nat} {ps : List (Nat × List Int)} {w' : World} (h : ArrI w0 AO n j ps w') : AO < w'.heap.size := h.row.lt
theorem ArrI.step {w0 : World} {AO n j : Nat} {ps : List (Nat × List Int)} {w1 w2 w3 : World} {row : List Int} {b : Nat} (h : ArrI w0 AO n j ps w1) (hj : j < n) (hb : b = w1.heap.size) (hw2 : w2 = (w1.alloc (.cells (Array.replicate row.length (Value.int .i64 0)) 3)).setCell ⟨AO,j,none⟩ (.slice (some ⟨b,0,none⟩) row.length row.length)) (h3 : Bk w3 b (row.map (Value.int .i64)) 3) (hb3 : Below b w2 w3) : ArrI w0 AO n (j + 1) (ps ++ [(b,row)]) w3 := by
 have hAO := h.lt
 have k2 : ∀ i,i < w1.heap.size → i ≠ AO → w2.heap[i]? = w1.heap[i]? := fun i hi hn => by
  rw [hw2,Below.heap_setCell _ _ _ _ hn]
  exact ((Below.refl w1.heap.size w1).alloc (Nat.le_refl _) _).block i hi
 refine ⟨?_,?_,by rw [List.length_append,h.len]; rfl,fun p hp => ?_,?_⟩
 ·refine h.lo.trans ⟨?_,?_,?_,?_,fun k hk => ?_⟩
  ·rw [hb3.os,hw2]; rfl
  ·rw [hb3.tape,hw2]; rfl
  ·rw [hb3.output,hw2]; rfl
  ·have := hb3.size
   rw [hw2] at this
   simp [World.setCell] at this
   omega
  ·rw [hb3.block k (by omega),k2 k (by omega) (by omega)]
 ·have h0 : Bk (w1.alloc (.cells (Array.replicate row.length (Value.int .i64 0)) 3)) AO (ps.map slV ++ List.replicate (n - j) (Value.slice none 0 0)) 30 := h.row.up _
  have h1 := h0.set j (.slice (some ⟨b,0,none⟩) row.length row.length)
  rw [← hw2] at h1
  have e : (ps.map slV ++ List.replicate (n - j) (Value.slice none 0 0)).set j (.slice (some ⟨b,0,none⟩) row.length row.length) = (ps ++ [(b,row)]).map slV ++ List.replicate (n - (j + 1)) (Value.slice none 0 0) := by
   rw [List.set_append_right _ _ (by rw [List.length_map,h.len]; exact Nat.le_refl _),List.length_map,h.len,Nat.sub_self,show n - j = (n - (j + 1)) + 1 by omega,List.replicate_succ,List.set_cons_zero,List.map_append,List.append_assoc]
   rfl
  rw [e] at h1
  unfold Bk at h1 ⊢
  rw [hb3.block AO (by omega)]; exact h1
 ·rcases List.mem_append.1 hp with hp | hp
  ·obtain ⟨q1,q2⟩ := h.at' p hp
   have hl := q2.lt
   refine ⟨q1,?_⟩
   unfold Bk at q2 ⊢
   rw [hb3.block p.1 (by omega),k2 p.1 hl (by omega)]; exact q2
  ·rw [List.mem_singleton] at hp
   subst hp
   exact ⟨by dsimp only; omega,h3⟩
 ·rw [List.map_append,List.nodup_append]
  refine ⟨h.nd,by simp,fun a ha c hc => ?_⟩
  obtain ⟨p,hp,rfl⟩ := List.mem_map.1 ha
  simp at hc
  have := (h.at' p hp).2.lt
  omega
theorem splice_all (row : List Int) : splice (List.replicate row.length (Value.int .i64 0)) 0 (row.map (Value.int .i64)) = row.map (Value.int .i64) := by
 unfold splice
 rw [List.take_zero,List.nil_append,Nat.zero_add,List.length_map,List.drop_eq_nil_of_le (by simp),List.append_nil]
theorem arrays_any (B : Nat) (ll : List (List Int)) (sl : Value) (w : World) (hB : B ≤ w.heap.size) (hi : ArrsIs w B ll sl) :
  Calls Try.prog 66 #[sl] w fun r w' => ∃ ps : List (Nat × List Int),r = .returned (.slice (some ⟨w.heap.size,0,none⟩) ll.length ll.length) ∧ ps.map Prod.snd = ll ∧ ArrI w w.heap.size ll.length ll.length ps w' := by
 obtain ⟨p,n,c,rfl,hln,hc1,hc2,hqa⟩ := hi
 have hmk := make_arrs n hc2
 obtain ⟨w1,hw1⟩ : ∃ y,w.alloc (.cells (Array.replicate n (Value.slice none 0 0)) 30) = y := ⟨_,rfl⟩
 have HI0 : Hid (ArrI w w.heap.size n 0 [] w1) := by
  show ArrI _ _ _ _ _ _
  refine ⟨by rw [← hw1]; exact (Below.refl _ _).alloc (Nat.le_refl _) _,by rw [← hw1]; exact Bk.rep _ _ _ _,rfl,fun p hp => (by cases hp),List.nodup_nil⟩
 have HW1 := keep hw1
 obtain ⟨AO,hAO⟩ : ∃ y,w.heap.size = y := ⟨_,rfl⟩
 rw [hAO] at HI0
 have HQ := keep hqa
 have HLN := keep hln
 have HBB := keep hB
 have HAO := keep hAO
 have hz1 : (0 : Int) ≤ (n : Int) := by omega
 clear hw1 hqa hln hB
 go_enter Try.func66,Try.ntmps66
 go_wp2_with (first | rw [hmk] | rw [HW1.out])
 clear hAO hmk
 go_loopw [11] (fun i wx => ∃ (j : Nat) (ps : List (Nat × List Int)),j ≤ n ∧ i = .int .i64 (j : Int) ∧ ps.map Prod.snd = ll.take j ∧ ArrI w AO n j ps wx) (fun i _ => n - (intOf i).toNat)
 case atStart => exact ⟨0,[],by omega,rfl,rfl,HI0.out⟩
 case round =>
  obtain ⟨j,ps,hjn,rfl,hps,hI⟩ := hrel
  have HPS := keep hps
  have HI := keep hI
  clear hps hI HI0
  by_cases hjl : j < n
  ·have d1 : decide ((j : Int) < (n : Int)) = true := decide_eq_true (by omega)
   have hjz : (j : Int) < (n : Int) := by omega
   have hj0 : (0 : Int) ≤ (j : Int) := by omega
   have hwr : IntKind.i64.wrap ((j : Int) + 1) = (j : Int) + 1 := by rw [IntKind.wrap_i64]; omega
   obtain ⟨row,hrow⟩ : ∃ row,ll[j]? = some row := ⟨_,List.getElem?_eq_getElem (by rw [HLN.out]; exact hjl)⟩
   obtain ⟨g,o,s,rfl,hg,hs,hint⟩ := HQ.out j row hrow
   obtain ⟨pr,nr,cr,rfl,hnr,hcr,hlr,hcells⟩ := hint
   have hgw : g < AO := by have := HBB.out; have := HAO.out; omega
   have hmk2 := make_ints nr hlr
   have a0 : wr.cell? ⟨g,o + j,none⟩ = some (.slice pr nr cr) := by rw [cell_below HI.out.lo hgw]; exact hs
   have HRW := keep hrow
   have HCL : Hid (∀ k x,row[k]? = some x → ∃ g o,pr = some ⟨g,o,none⟩ ∧ g < AO ∧ w.cell? ⟨g,o + k,none⟩ = some (.int .i64 x)) := fun k x hk => by
    obtain ⟨g',o',q1,q2,q3⟩ := hcells k x hk
    exact ⟨g',o',q1,by have := HBB.out; have := HAO.out; omega,q3⟩
   have HNR := keep hnr
   obtain ⟨b,hb⟩ : ∃ y,wr.heap.size = y := ⟨_,rfl⟩
   obtain ⟨wa,hwa⟩ : ∃ y,wr.alloc (.cells (Array.replicate nr (Value.int .i64 0)) 3) = y := ⟨_,rfl⟩
   have hrA : Bk wa AO (ps.map slV ++ List.replicate (n - j) (Value.slice none 0 0)) 30 := by rw [← hwa]; exact HI.out.row.up _
   have cA := hrA.cell j (u:=.slice none 0 0) (by rw [List.getElem?_append_right (by rw [List.length_map,HI.out.len]; exact Nat.le_refl _),List.length_map,HI.out.len,Nat.sub_self,List.getElem?_replicate,if_pos (by omega)])
   have fA := hrA.fr j
   obtain ⟨w2,hw2⟩ : ∃ y,wa.setCell ⟨AO,j,none⟩ (.slice (some ⟨b,0,none⟩) nr nr) = y := ⟨_,rfl⟩
   have hr2 := hrA.set j (.slice (some ⟨b,0,none⟩) nr nr)
   have hlen : (ps.map slV ++ List.replicate (n - j) (Value.slice none 0 0)).length = n := by rw [List.length_append,List.length_map,HI.out.len,List.length_replicate]; omega
   have c2 : w2.cell? ⟨AO,j,none⟩ = some (.slice (some ⟨b,0,none⟩) nr nr) := by
    rw [← hw2]
    exact hr2.cell j (by rw [List.getElem?_set_self (by rw [hlen]; exact hjl)])
   have hkb : Bk w2 b (List.replicate nr (Value.int .i64 0)) 3 := by
    have h0 : Bk wa b (List.replicate nr (Value.int .i64 0)) 3 := by rw [← hwa,← hb]; exact Bk.rep _ _ _ _
    rw [← hw2]
    exact h0.far j _ (by have := HI.out.lt; omega)
   have hlo2 : Below AO w w2 := by
    rw [← hw2,← hwa]
    exact (HI.out.lo.alloc (by have := HI.out.lt; omega) _).setCell (Nat.le_refl _) _
   have HLO2 := keep hlo2
   have HKB := keep hkb
   have HW2 := keep hw2
   have HWA := keep hwa
   have HBe := keep hb
   have hABlt : AO < b := by have := HI.out.lt; omega
   clear hrow hs hcells hrA hr2 hlen hlo2 hkb hw2 hwa hnr
   obtain ⟨cs,hcs⟩ : ∃ cs,cs = row.map (Value.int .i64) := ⟨_,rfl⟩
   have HCN : Hid (cs.length = Nat.min nr nr) := by
    show _ = _
    rw [hcs,List.length_map,HNR.out]; exact (Nat.min_self _).symm
   have HPos : Hid (0 < cs.length → some (⟨b,0,none⟩ : Addr) = some ⟨b,0,none⟩ ∧ ∃ ad,pr = some ad ∧ ∀ k v,cs[k]? = some v → w2.cell? (ad.add k) = some v) := by
    intro hp
    refine ⟨rfl,?_⟩
    obtain ⟨x,hx⟩ : ∃ x,row[0]? = some x := ⟨_,List.getElem?_eq_getElem (by rw [hcs,List.length_map] at hp; exact hp)⟩
    obtain ⟨g',o',e1,q2,_⟩ := HCL.out 0 x hx
    refine ⟨⟨g',o',none⟩,e1,fun k v hk => ?_⟩
    rw [hcs,List.getElem?_map,Option.map_eq_some_iff] at hk
    obtain ⟨y,hy,rfl⟩ := hk
    obtain ⟨g2,o2,e2,q3,q4⟩ := HCL.out k y hy
    rw [e1] at e2
    cases e2
    rw [show (⟨g',o',none⟩ : Addr).add k = ⟨g',o' + k,none⟩ from by simp [Addr.add]]
    rw [cell_below HLO2.out q2]; exact q4
   have HFit : Hid (0 + cs.length ≤ (List.replicate nr (Value.int .i64 0)).length) := by
    show _ ≤ _
    rw [List.length_replicate,HCN.out,Nat.zero_add]; exact Nat.min_le_left _ _
   have HOne : Hid (∀ v ∈ cs,v.oneCell' = true) := by
    intro v hv
    rw [hcs] at hv
    obtain ⟨y,_,rfl⟩ := List.mem_map.1 hv
    rfl
   have HCS := keep hcs
   clear hcs
   go_wp2_with (first | rw [hmk2] | rw [HWA.out] | rw [HW2.out] | (refine wpList_copy_splice rfl (.tmp 25) (.tmp 26) 30 30 rfl 3 (by kernel_rfl) (by kernel_rfl) _ _ _ _ _ _ rfl rfl b 0 (List.replicate nr (Value.int .i64 0)) 3 HKB.out cs HCN.out HPos.out HFit.out HOne.out b w2 (Below.refl _ _) (Nat.le_refl _) ?_))
   intro w3 hg3 hb3
   have HB3 := keep hb3
   have HG3 := keep hg3
   clear hb3 hg3
   go_wp2
   go_roundw
   case rel =>
    refine ⟨j + 1,ps ++ [(b,row)],by omega,by go_num,?_,?_⟩
    ·rw [List.map_append,HPS.out,List.take_add_one,HRW.out]; rfl
    ·refine HI.out.step hjl HBe.out.symm (w2:=w2) ?_ ?_ HB3.out
     ·rw [← HW2.out,← HWA.out,HNR.out]
     ·have h := HG3.out.out
      rw [HCS.out,← HNR.out,splice_all] at h
      exact h
   case measure => simp [intOf]; omega
  ·have hje : j = n := by omega
   subst hje
   have dl : decide ((j : Int) < (j : Int)) = false := decide_eq_false (by omega)
   have HE : Hid (∃ ps : List (Nat × List Int),ps.map Prod.snd = ll ∧ ArrI w AO j j ps wr) := ⟨ps,by rw [HPS.out,← HLN.out,List.take_length],HI.out⟩
   clear hjl HPS HI HQ
   go_wp2
   go_ret
   obtain ⟨ps,e1,e2⟩ := HE.out
   refine ⟨ps,?_,e1,?_⟩
   ·rw [HAO.out,HLN.out]; rfl
   ·rw [HAO.out,HLN.out]; exact e2
end Go.Proofs.Ytpnacanbknejiaa.Lr
