/- The program's Parse. Written by tools/gen_cdparse.py. -/
import Derived.Laws.BitsLemmas
import Derived.Test.YtpnacanbknejiaaGr14
namespace Go.Proofs.Ytpnacanbknejiaa.Cd
set_option maxHeartbeats 32000000
set_option maxRecDepth 100000
set_option linter.unusedVariables false
set_option linter.unusedSimpArgs false
open Go.ChangeShapes Go.WideShapes Go.ChangeAt Go.RowKit Lr
def PaP (l : List Int) (w : World) (r : Ending) (w' : World) : Prop := r = .returned (.tuple #[.agg (cxA (parseM l).1),.int .i64 (parseM l).2]) ∧ Below w.heap.size w w'
theorem PaP.mk {l : List Int} {w w' : World} {i : Cx} {e : Int} (he : parseM l = (i,e)) (hb : Below w.heap.size w w') : PaP l w (.returned (.tuple #[.agg (cxA i),.int .i64 e])) w' := ⟨by rw [he],hb⟩
theorem results_cx {fn : Func} {p u : Tmp} (hf : fn.results = #[.cell p 35,.tmp u]) (tmps : Array Value) (w : World) (g : Nat) (i : Cx) (e : Int) (h2 : tmps.getD p undef = .pointer (some ⟨g,0,none⟩)) (h3 : tmps.getD u undef = .int .i64 e) (hg : w.heap[g]? = some (.cells (cxA i) 35 (0,0))) :
  (results fn tmps).run Try.prog w = .ok (.tuple #[.agg (cxA i),.int .i64 e]) w := by
 rw [results_cell_tmp hf,h2,h3]
 have := run_loadVar_row (P:=Try.prog) w g _ 35 (cxA i) _ _ hg Try.underlying35 rfl (by kernel_rfl)
 simp [asAddr,Result.andThen,this]
theorem at_new (w : World) (g : Nat) (hg : w.heap.size = g) (i : Cx) : (w.alloc (.cells (cxA i) 35)).heap[g]? = some (.cells (cxA i) 35 (0,0)) := by
 subst hg
 exact (MapKept.heap_alloc w (.cells (cxA i) 35)).1
theorem at_up {w : World} {g : Nat} {x : Obj} (h : w.heap[g]? = some x) (o : Obj) : (w.alloc o).heap[g]? = some x := by
 have hl := (Array.getElem?_eq_some_iff.1 h).1
 rw [((Below.refl w.heap.size w).alloc (Nat.le_refl _) o).block g hl]; exact h
theorem wrap_byte {b : Int} (h0 : 0 ≤ b) (h1 : b < 256) : IntKind.i64.wrap b = b := by rw [IntKind.wrap_i64]; omega
theorem mem_up {a b c d x : Int} {l : List Int} (h : x ∈ l) : x ∈ a :: b :: c :: d :: l := List.mem_cons_of_mem _ (List.mem_cons_of_mem _ (List.mem_cons_of_mem _ (List.mem_cons_of_mem _ h)))
theorem join8 {v x : Int} (h0 : 0 ≤ v) (h1 : v < 16777216) (x0 : 0 ≤ x) (x1 : x < 256) : bits .or .i64 (v * 256) x = v * 256 + x :=
 bits_join .i64 32 (by decide) (fun n g0 g1 => by rw [IntKind.wrap_i64]; omega) 8 (v * 256) x (by omega) (by omega) (by omega) x0 (by omega) (by omega)
theorem num4_step {l : List Int} {k : Nat} {x v : Int} (hx : l[k]? = some x) (hv : num4 (l.take k) = v) : num4 (l.take (k + 1)) = v * 256 + x := by
 rw [List.take_add_one,hx]
 unfold num4 at hv ⊢
 rw [List.foldl_append,hv]
 rfl
theorem at_drew {w : World} {g : Nat} {x : Obj} (h : w.heap[g]? = some x) : w.drew.heap[g]? = some x := h
theorem below_dr2 {B : Nat} {a w : World} (h : Below B a w) : Below B a w.drew := ⟨h.os,h.tape,h.output,h.size,h.block⟩
theorem num4_lt (l : List Int) (h : ∀ x ∈ l,0 ≤ x ∧ x < 256) (k : Nat) (hk : k < 4) : 0 ≤ num4 (l.take k) ∧ num4 (l.take k) < 16777216 := by
 match k,l with
 | 0,l => simp [num4]
 | 1,[] => simp [num4]
 | 1,[a] => have := h a (by simp); simp [num4]; omega
 | 1,a :: b :: l => have := h a (by simp); simp [num4]; omega
 | 2,[] => simp [num4]
 | 2,[a] => have := h a (by simp); simp [num4]; omega
 | 2,a :: b :: l => have := h a (by simp); have := h b (by simp); simp [num4]; omega
 | 3,[] => simp [num4]
 | 3,[a] => have := h a (by simp); simp [num4]; omega
 | 3,[a,b] => have := h a (by simp); have := h b (by simp); simp [num4]; omega
 | 3,a :: b :: c :: l => have := h a (by simp); have := h b (by simp); have := h c (by simp); simp [num4]; omega
 | k + 4,l => omega
section
variable {b0 b1 b2 b3 b4 b5 b6 b7 : Int}
theorem parse_noop (h : isOp b0 = false) : parseM [b0,b1,b2,b3,b4,b5,b6,b7] = (⟨0,0,0,0,0,0⟩,1) := by
 unfold parseM; rw [if_neg (by simp)]; exact if_pos h
theorem parse_imm (h : isOp b0 = true) (h2 : ¬ b0 = 13) : parseM [b0,b1,b2,b3,b4,b5,b6,b7] = (⟨b0,b1,b2,b3,0,num4 [b4,b5,b6,b7]⟩,0) := by
 unfold parseM; rw [if_neg (by simp)]
 refine (if_neg (by show ¬ isOp b0 = false; rw [h]; simp)).trans ?_
 exact if_pos h2
theorem parse_nobyte (h : isOp b0 = true) (h2 : b0 = 13) (h3 : nb (num4 [b4,b5,b6,b7]) = true) : parseM [b0,b1,b2,b3,b4,b5,b6,b7] = (⟨0,0,0,0,0,0⟩,3) := by
 unfold parseM; rw [if_neg (by simp)]
 refine (if_neg (by show ¬ isOp b0 = false; rw [h]; simp)).trans ?_
 refine (if_neg (by show ¬ ¬ b0 = 13; simp [h2])).trans ?_
 exact if_pos h3
theorem parse_sel (h : isOp b0 = true) (h2 : b0 = 13) (h3 : nb (num4 [b4,b5,b6,b7]) = false) : parseM [b0,b1,b2,b3,b4,b5,b6,b7] = (⟨b0,b1,b2,b3,num4 [b4,b5,b6,b7],0⟩,0) := by
 unfold parseM; rw [if_neg (by simp)]
 refine (if_neg (by show ¬ isOp b0 = false; rw [h]; simp)).trans ?_
 refine (if_neg (by show ¬ ¬ b0 = 13; simp [h2])).trans ?_
 exact if_neg (by show ¬ nb (num4 [b4,b5,b6,b7]) = true; rw [h3]; simp)
end
theorem parse_eight (b0 b1 b2 b3 b4 b5 b6 b7 : Int) (g o cap : Nat) (w : World) (hcap : 8 ≤ cap) (hby : ∀ x ∈ [b0,b1,b2,b3,b4,b5,b6,b7],0 ≤ x ∧ x < 256) (hc : ∀ j x,[b0,b1,b2,b3,b4,b5,b6,b7][j]? = some x → w.cell? ⟨g,o + j,none⟩ = some (.int .u8 x)) :
  Calls Try.prog 52 #[.slice (some ⟨g,o,none⟩) 8 cap] w fun r w' => PaP [b0,b1,b2,b3,b4,b5,b6,b7] w r w' := by
 have hg : g < w.heap.size := lt_of_cell (hc 0 b0 rfl)
 have HO := keep (fun (w' : World) => isop_any b0 w')
 obtain ⟨p0,p1⟩ := hby b0 (by simp)
 obtain ⟨p2,p3⟩ := hby b1 (by simp)
 obtain ⟨p4,p5⟩ := hby b2 (by simp)
 obtain ⟨p6,p7⟩ := hby b3 (by simp)
 have e0 : IntKind.i64.wrap b0 = b0 := wrap_byte p0 p1
 have e1 : IntKind.i64.wrap b1 = b1 := wrap_byte p2 p3
 have e2 : IntKind.i64.wrap b2 = b2 := wrap_byte p4 p5
 have e3 : IntKind.i64.wrap b3 = b3 := wrap_byte p6 p7
 have HC := keep hc
 have HB := keep hby
 have HG := keep hg
 have z4 : (4 : Int) ≤ (cap : Int) := by omega
 clear hc hby hg
 go_enter Try.func52,Try.ntmps52
 go_wp2
 have HSS : Hid (∀ W',Below w.heap.size w W' → W'.cell? ⟨g,o,none⟩ = some (.int .u8 b0) ∧ W'.cell? ⟨g,o + 1,none⟩ = some (.int .u8 b1) ∧ W'.cell? ⟨g,o + 2,none⟩ = some (.int .u8 b2) ∧ W'.cell? ⟨g,o + 3,none⟩ = some (.int .u8 b3)) := by
  intro W' hb
  have hb2 := hb
  have key : ∀ j x,[b0,b1,b2,b3,b4,b5,b6,b7][j]? = some x → W'.cell? ⟨g,o + j,none⟩ = some (.int .u8 x) := fun j x hj => by
   rw [cell_below hb2 HG.out]; exact HC.out j x hj
  exact ⟨key 0 _ rfl,key 1 _ rfl,key 2 _ rfl,key 3 _ rfl⟩
 refine wp_region_noPanic ?_
 refine Ord.wpM_begin (fun W' : World => W'.cell? ⟨g,o,none⟩ = some (.int .u8 b0) ∧ W'.cell? ⟨g,o + 1,none⟩ = some (.int .u8 b1) ∧ W'.cell? ⟨g,o + 2,none⟩ = some (.int .u8 b2) ∧ W'.cell? ⟨g,o + 3,none⟩ = some (.int .u8 b3)) [0,1,2,3,4,5,6,7,8,9,10,11,12,13,14,15,16,17] (by kernel_rfl) ?_
 have hS := HSS.out _ ((Below.refl w.heap.size w).alloc (Nat.le_refl _) (.cells #[.int .i64 0,.int .i64 0,.int .i64 0,.int .i64 0,.int .i64 0,.int .i64 0] 35)).drew
 refine Ord.tk (i:=0) (v:=.slice (some ⟨g,o,none⟩) 8 cap) (hy:=Or.inl ⟨by rfl,by rintro W' ⟨q0,q1,q2,q3⟩; go_simp⟩) (hS:=hS) (h:=?_)
 try simp only [Act.put,Ord.t,Ord.z,Ord.s]
 refine Ord.tk (i:=1) (v:=.pointer (some ⟨g,o,none⟩)) (hy:=Or.inl ⟨by rfl,by rintro W' ⟨q0,q1,q2,q3⟩; go_simp⟩) (hS:=hS) (h:=?_)
 try simp only [Act.put,Ord.t,Ord.z,Ord.s]
 refine Ord.tk (i:=2) (v:=.int .u8 b0) (hy:=Or.inl ⟨by rfl,by rintro W' ⟨q0,q1,q2,q3⟩; go_simp⟩) (hS:=hS) (h:=?_)
 try simp only [Act.put,Ord.t,Ord.z,Ord.s]
 refine Ord.tk (i:=3) (v:=.int .i64 b0) (hy:=Or.inl ⟨by rfl,by rintro W' ⟨q0,q1,q2,q3⟩; go_simp⟩) (hS:=hS) (h:=?_)
 try simp only [Act.put,Ord.t,Ord.z,Ord.s]
 refine Ord.tk (i:=4) (v:=.slice (some ⟨g,o,none⟩) 8 cap) (hy:=Or.inl ⟨by rfl,by rintro W' ⟨q0,q1,q2,q3⟩; go_simp⟩) (hS:=hS) (h:=?_)
 try simp only [Act.put,Ord.t,Ord.z,Ord.s]
 refine Ord.tk (i:=5) (v:=.pointer (some ⟨g,o + 1,none⟩)) (hy:=Or.inl ⟨by rfl,by rintro W' ⟨q0,q1,q2,q3⟩; go_simp⟩) (hS:=hS) (h:=?_)
 try simp only [Act.put,Ord.t,Ord.z,Ord.s]
 refine Ord.tk (i:=6) (v:=.int .u8 b1) (hy:=Or.inl ⟨by rfl,by rintro W' ⟨q0,q1,q2,q3⟩; go_simp⟩) (hS:=hS) (h:=?_)
 try simp only [Act.put,Ord.t,Ord.z,Ord.s]
 refine Ord.tk (i:=7) (v:=.int .i64 b1) (hy:=Or.inl ⟨by rfl,by rintro W' ⟨q0,q1,q2,q3⟩; go_simp⟩) (hS:=hS) (h:=?_)
 try simp only [Act.put,Ord.t,Ord.z,Ord.s]
 refine Ord.tk (i:=8) (v:=.slice (some ⟨g,o,none⟩) 8 cap) (hy:=Or.inl ⟨by rfl,by rintro W' ⟨q0,q1,q2,q3⟩; go_simp⟩) (hS:=hS) (h:=?_)
 try simp only [Act.put,Ord.t,Ord.z,Ord.s]
 refine Ord.tk (i:=9) (v:=.pointer (some ⟨g,o + 2,none⟩)) (hy:=Or.inl ⟨by rfl,by rintro W' ⟨q0,q1,q2,q3⟩; go_simp⟩) (hS:=hS) (h:=?_)
 try simp only [Act.put,Ord.t,Ord.z,Ord.s]
 refine Ord.tk (i:=10) (v:=.int .u8 b2) (hy:=Or.inl ⟨by rfl,by rintro W' ⟨q0,q1,q2,q3⟩; go_simp⟩) (hS:=hS) (h:=?_)
 try simp only [Act.put,Ord.t,Ord.z,Ord.s]
 refine Ord.tk (i:=11) (v:=.int .i64 b2) (hy:=Or.inl ⟨by rfl,by rintro W' ⟨q0,q1,q2,q3⟩; go_simp⟩) (hS:=hS) (h:=?_)
 try simp only [Act.put,Ord.t,Ord.z,Ord.s]
 refine Ord.tk (i:=12) (v:=.slice (some ⟨g,o,none⟩) 8 cap) (hy:=Or.inl ⟨by rfl,by rintro W' ⟨q0,q1,q2,q3⟩; go_simp⟩) (hS:=hS) (h:=?_)
 try simp only [Act.put,Ord.t,Ord.z,Ord.s]
 refine Ord.tk (i:=13) (v:=.pointer (some ⟨g,o + 3,none⟩)) (hy:=Or.inl ⟨by rfl,by rintro W' ⟨q0,q1,q2,q3⟩; go_simp⟩) (hS:=hS) (h:=?_)
 try simp only [Act.put,Ord.t,Ord.z,Ord.s]
 refine Ord.tk (i:=14) (v:=.int .u8 b3) (hy:=Or.inl ⟨by rfl,by rintro W' ⟨q0,q1,q2,q3⟩; go_simp⟩) (hS:=hS) (h:=?_)
 try simp only [Act.put,Ord.t,Ord.z,Ord.s]
 refine Ord.tk (i:=15) (v:=.int .i64 b3) (hy:=Or.inl ⟨by rfl,by rintro W' ⟨q0,q1,q2,q3⟩; go_simp⟩) (hS:=hS) (h:=?_)
 try simp only [Act.put,Ord.t,Ord.z,Ord.s]
 refine Ord.tk (i:=16) (v:=.agg #[.int .i64 b0,.int .i64 b1,.int .i64 b2,.int .i64 b3,.int .i64 0,.int .i64 0]) (hy:=Or.inl ⟨by rfl,by rintro W' ⟨q0,q1,q2,q3⟩; go_simp⟩) (hS:=hS) (h:=?_)
 try simp only [Act.put,Ord.t,Ord.z,Ord.s]
 refine Ord.on (i:=17) (h:=fun K hK => ?_)
 go_simp
 refine hK.out _ _ (fun _ => HSS.out _ (((Below.refl w.heap.size w).alloc (Nat.le_refl _) _).alloc (by simp) _).drew) ?_
 clear hK K
 try simp only [Act.put,Ord.t,Ord.z,Ord.s]
 refine Ord.on (i:=18) (h:=fun K hK => ?_)
 go_simp
 refine hK.out _ _ (fun h => by simp at h) ?_
 clear hK K
 try simp only [Act.put,Ord.t,Ord.z,Ord.s]
 refine Ord.wpM_done (by kernel_rfl) ?_ _
 refine NoPanic.normal ?_
 clear HSS hS
 go_wp2_with fail
 refine (HO.out _).mono ?_
 rintro r w1 ⟨rfl,rfl⟩
 obtain ⟨q,hq⟩ : ∃ q,isOp b0 = q := ⟨_,rfl⟩
 rw [hq]
 have HQ := keep hq
 clear hq HO
 cases q with
 | false =>
  go_wp2
  refine bodyPost_ret (results_cx rfl _ _ w.heap.size ⟨0,0,0,0,0,0⟩ 1 rfl rfl (at_drew (at_up (at_new w _ rfl ⟨0,0,0,0,0,0⟩) _))) rfl ?_
  exact PaP.mk (parse_noop HQ.out) (below_dr2 (((Below.refl w.heap.size w).alloc (Nat.le_refl _) _).alloc (by simp) _))
 | true =>
  go_wp2
  go_loopw [5,37] (fun i v wx => ∃ k : Nat,k ≤ 4 ∧ v = .int .i64 (k : Int) ∧ i = .int .i64 (num4 ([b4,b5,b6,b7].take k)) ∧ wx = ((w.alloc (.cells #[.int .i64 0,.int .i64 0,.int .i64 0,.int .i64 0,.int .i64 0,.int .i64 0] 35)).alloc (.cells #[.int .i64 b0,.int .i64 b1,.int .i64 b2,.int .i64 b3,.int .i64 0,.int .i64 0] 35)).drew) (fun i v _ => 4 - (intOf v).toNat)
  case atStart => exact ⟨0,by omega,rfl,rfl,rfl⟩
  case round =>
   obtain ⟨k,hkn,rfl,rfl,rfl⟩ := hrel
   by_cases hkl : k < 4
   ·have d1 : decide ((k : Int) < 4) = true := decide_eq_true (by omega)
    have hkz : (k : Int) < 4 := by omega
    have hk0 : (0 : Int) ≤ (k : Int) := by omega
    obtain ⟨x,hx⟩ : ∃ x,[b4,b5,b6,b7][k]? = some x := ⟨_,List.getElem?_eq_getElem (by simpa using hkl)⟩
    have HX := keep hx
    have hxb := HB.out x (mem_up (List.mem_of_getElem? hx))
    have x0 := hxb.1
    have x1 := hxb.2
    have ex : IntKind.i64.wrap x = x := wrap_byte x0 x1
    have hcx := HC.out (4 + k) x (by rw [show (4 + k) = k + 1 + 1 + 1 + 1 by omega]; simpa using hx)
    rw [← Nat.add_assoc] at hcx
    have a0 : ((w.alloc (.cells #[.int .i64 0,.int .i64 0,.int .i64 0,.int .i64 0,.int .i64 0,.int .i64 0] 35)).alloc (.cells #[.int .i64 b0,.int .i64 b1,.int .i64 b2,.int .i64 b3,.int .i64 0,.int .i64 0] 35)).drew.cell? ⟨g,o + 4 + k,none⟩ = some (.int .u8 x) := by
     rw [cell_below (below_dr2 (((Below.refl w.heap.size w).alloc (Nat.le_refl _) _).alloc (by simp) _)) HG.out]; exact hcx
    obtain ⟨v,hv⟩ : ∃ v,num4 ([b4,b5,b6,b7].take k) = v := ⟨_,rfl⟩
    have HV := keep hv
    have HVB := keep (num4_lt [b4,b5,b6,b7] (fun y hy => HB.out y (mem_up hy)) k hkl)
    rw [hv] at HVB
    have v0 := HVB.out.1
    have v1 := HVB.out.2
    rw [hv]
    clear hx hxb hcx hv
    go_wp2
    go_roundw
    case rel => exact ⟨k + 1,by omega,by go_num,by rw [num4_step HX.out HV.out,join8 v0 v1 x0 x1],trivial⟩
    case measure => simp [intOf]; omega
   ·have hke : k = 4 := by omega
    subst hke
    clear hkl hkn
    have ev : num4 ([b4,b5,b6,b7].take 4) = num4 [b4,b5,b6,b7] := rfl
    rw [ev]
    obtain ⟨v,hv⟩ : ∃ v,num4 [b4,b5,b6,b7] = v := ⟨_,rfl⟩
    rw [hv]
    have HV := keep hv
    have dl : decide (((4 : Nat) : Int) < 4) = false := rfl
    clear ev hv
    by_cases h13 : b0 = 13
    ·have n13 : (b0 != 13) = false := by simpa using h13
     have HO := keep (fun (w' : World) => nobyte_any v w')
     obtain ⟨q,hq⟩ : ∃ q,nb v = q := ⟨_,rfl⟩
     rw [hq] at HO
     have HQ2 := keep hq
     have H13 := keep h13
     clear hq h13
     go_wp2_with fail
     refine (HO.out _).mono ?_
     rintro r w1 ⟨rfl,rfl⟩
     cases q with
     | true =>
      go_wp2
      refine bodyPost_ret (results_cx rfl _ _ w.heap.size ⟨0,0,0,0,0,0⟩ 3 rfl rfl (at_drew (at_up (at_new w _ rfl ⟨0,0,0,0,0,0⟩) _))) rfl ?_
      exact PaP.mk (parse_nobyte HQ.out H13.out (by rw [HV.out]; exact HQ2.out)) (below_dr2 (((Below.refl w.heap.size w).alloc (Nat.le_refl _) _).alloc (by simp) _))
     | false =>
      go_wp2
      refine bodyPost_ret (results_cx rfl _ _ w.heap.size ⟨b0,b1,b2,b3,v,0⟩ 0 rfl rfl (at_drew (at_up (at_new w _ rfl ⟨b0,b1,b2,b3,v,0⟩) _))) rfl ?_
      exact PaP.mk (by rw [← HV.out]; exact parse_sel HQ.out H13.out (by rw [HV.out]; exact HQ2.out)) (below_dr2 (((Below.refl w.heap.size w).alloc (Nat.le_refl _) _).alloc (by simp) _))
    ·have n13 : (b0 != 13) = true := by simpa using h13
     have H13 := keep h13
     clear h13
     go_wp2
     refine bodyPost_ret (results_cx rfl _ _ w.heap.size ⟨b0,b1,b2,b3,0,v⟩ 0 rfl rfl (at_drew (at_up (at_new w _ rfl ⟨b0,b1,b2,b3,0,v⟩) _))) rfl ?_
     exact PaP.mk (by rw [← HV.out]; exact parse_imm HQ.out H13.out) (below_dr2 (((Below.refl w.heap.size w).alloc (Nat.le_refl _) _).alloc (by simp) _))
end Go.Proofs.Ytpnacanbknejiaa.Cd
