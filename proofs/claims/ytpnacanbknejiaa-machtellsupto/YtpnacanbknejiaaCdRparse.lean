/- The document's Parse. Written by tools/gen_cdrparse.py. -/
import Derived.Test.YtpnacanbknejiaaCdParse
namespace Go.Proofs.Ytpnacanbknejiaa.Cd
set_option maxHeartbeats 32000000
set_option maxRecDepth 100000
set_option linter.unusedVariables false
set_option linter.unusedSimpArgs false
open Go.ChangeShapes Go.WideShapes Go.ChangeAt Go.RowKit Lr
theorem num4_nn (l : List Int) (h : ∀ x ∈ l,0 ≤ x ∧ x < 256) : 0 ≤ num4 l := by
 unfold num4
 have : ∀ (l : List Int) (s : Int),0 ≤ s → (∀ x ∈ l,0 ≤ x ∧ x < 256) → 0 ≤ l.foldl (fun s x => s * 256 + x) s := by
  intro l
  induction l with
  | nil => intro s hs _; exact hs
  | cons a l ih =>
   intro s hs hl
   have := hl a (by simp)
   exact ih (s * 256 + a) (by omega) (fun x hx => hl x (by simp [hx]))
 exact this l 0 (by omega) h
theorem rparse_eight (b0 b1 b2 b3 b4 b5 b6 b7 : Int) (g o cap : Nat) (w : World) (hcap : 8 ≤ cap) (hby : ∀ x ∈ [b0,b1,b2,b3,b4,b5,b6,b7],0 ≤ x ∧ x < 256) (hc : ∀ j x,[b0,b1,b2,b3,b4,b5,b6,b7][j]? = some x → w.cell? ⟨g,o + j,none⟩ = some (.int .u8 x)) :
  Calls Try.prog 54 #[.slice (some ⟨g,o,none⟩) 8 cap] w fun r w' => PaP [b0,b1,b2,b3,b4,b5,b6,b7] w r w' := by
 have hg : g < w.heap.size := lt_of_cell (hc 0 b0 rfl)
 obtain ⟨p0,p1⟩ := hby b0 (by simp)
 obtain ⟨p2,p3⟩ := hby b1 (by simp)
 obtain ⟨p4,p5⟩ := hby b2 (by simp)
 obtain ⟨p6,p7⟩ := hby b3 (by simp)
 have e0 : IntKind.i64.wrap b0 = b0 := wrap_byte p0 p1
 have e1 : IntKind.i64.wrap b1 = b1 := wrap_byte p2 p3
 have e2 : IntKind.i64.wrap b2 = b2 := wrap_byte p4 p5
 have e3 : IntKind.i64.wrap b3 = b3 := wrap_byte p6 p7
 have HC := keep hc
 have HB := keep hby
 have HG := keep hg
 have z4 : (4 : Int) ≤ (cap : Int) := by omega
 clear hc hby hg
 have c0 : (w.alloc (.cells #[.int .i64 0,.int .i64 0,.int .i64 0,.int .i64 0,.int .i64 0,.int .i64 0] 35)).cell? ⟨g,o,none⟩ = some (.int .u8 b0) := by
  rw [cell_below ((Below.refl w.heap.size w).alloc (Nat.le_refl _) _) HG.out]; exact HC.out 0 b0 rfl
 by_cases h0 : b0 = 0
 ·have t0 : (b0 == 0) = true := by simpa using h0
  have HQ : Hid (isOp b0 = false) := by
   show _ = _
   unfold isOp; rw [Bool.and_eq_false_iff,decide_eq_false_iff_not,decide_eq_false_iff_not]; omega
  clear h0
  go_enter Try.func54,Try.ntmps54
  go_wp2
  refine bodyPost_ret (results_cx rfl _ _ w.heap.size ⟨0,0,0,0,0,0⟩ 1 rfl rfl (at_new w _ rfl ⟨0,0,0,0,0,0⟩)) rfl ?_
  exact PaP.mk (parse_noop HQ.out) ((Below.refl w.heap.size w).alloc (Nat.le_refl _) _)
 have t0 : (b0 == 0) = false := by simpa using h0
 by_cases h23 : 23 < b0
 ·have t1 : decide (23 < b0) = true := decide_eq_true h23
  have HQ : Hid (isOp b0 = false) := by
   show _ = _
   unfold isOp; rw [Bool.and_eq_false_iff,decide_eq_false_iff_not,decide_eq_false_iff_not]; omega
  clear h0 h23
  go_enter Try.func54,Try.ntmps54
  go_wp2
  refine bodyPost_ret (results_cx rfl _ _ w.heap.size ⟨0,0,0,0,0,0⟩ 1 rfl rfl (at_new w _ rfl ⟨0,0,0,0,0,0⟩)) rfl ?_
  exact PaP.mk (parse_noop HQ.out) ((Below.refl w.heap.size w).alloc (Nat.le_refl _) _)
 have t1 : decide (23 < b0) = false := decide_eq_false h23
 have HQ : Hid (isOp b0 = true) := by
  show _ = _
  unfold isOp; rw [Bool.and_eq_true,decide_eq_true_eq,decide_eq_true_eq]; omega
 clear h0 h23
 go_enter Try.func54,Try.ntmps54
 go_wp2
 have HSS : Hid (∀ W',Below w.heap.size w W' → W'.cell? ⟨g,o,none⟩ = some (.int .u8 b0) ∧ W'.cell? ⟨g,o + 1,none⟩ = some (.int .u8 b1) ∧ W'.cell? ⟨g,o + 2,none⟩ = some (.int .u8 b2) ∧ W'.cell? ⟨g,o + 3,none⟩ = some (.int .u8 b3)) := by
  intro W' hb
  have hb2 := hb
  have key : ∀ j x,[b0,b1,b2,b3,b4,b5,b6,b7][j]? = some x → W'.cell? ⟨g,o + j,none⟩ = some (.int .u8 x) := fun j x hj => by
   rw [cell_below hb2 HG.out]; exact HC.out j x hj
  exact ⟨key 0 _ rfl,key 1 _ rfl,key 2 _ rfl,key 3 _ rfl⟩
 go_loopw [4,26] (fun i v wx => ∃ k : Nat,k ≤ 4 ∧ v = .int .i64 (k : Int) ∧ i = .int .i64 (num4 ([b4,b5,b6,b7].take k)) ∧ wx = (w.alloc (.cells #[.int .i64 0,.int .i64 0,.int .i64 0,.int .i64 0,.int .i64 0,.int .i64 0] 35))) (fun i v _ => 4 - (intOf v).toNat)
 case atStart => exact ⟨0,by omega,rfl,rfl,rfl⟩
 case round =>
  obtain ⟨k,hkn,rfl,rfl,rfl⟩ := hrel
  by_cases hkl : k < 4
  ·have d1 : decide ((k : Int) < 4) = true := decide_eq_true (by omega)
   have hkz : (k : Int) < 4 := by omega
   have hk0 : (0 : Int) ≤ (k : Int) := by omega
   obtain ⟨x,hx⟩ : ∃ x,[b4,b5,b6,b7][k]? = some x := ⟨_,List.getElem?_eq_getElem (by simpa using hkl)⟩
   have HX := keep hx
   have hxb := HB.out x (mem_up (List.mem_of_getElem? hx))
   have x0 := hxb.1
   have x1 := hxb.2
   have ex : IntKind.i64.wrap x = x := wrap_byte x0 x1
   have hcx := HC.out (4 + k) x (by rw [show (4 + k) = k + 1 + 1 + 1 + 1 by omega]; simpa using hx)
   rw [← Nat.add_assoc] at hcx
   have a0 : (w.alloc (.cells #[.int .i64 0,.int .i64 0,.int .i64 0,.int .i64 0,.int .i64 0,.int .i64 0] 35)).cell? ⟨g,o + 4 + k,none⟩ = some (.int .u8 x) := by
    rw [cell_below ((Below.refl w.heap.size w).alloc (Nat.le_refl _) _) HG.out]; exact hcx
   obtain ⟨v,hv⟩ : ∃ v,num4 ([b4,b5,b6,b7].take k) = v := ⟨_,rfl⟩
   have HV := keep hv
   have HVB := keep (num4_lt [b4,b5,b6,b7] (fun y hy => HB.out y (mem_up hy)) k hkl)
   rw [hv] at HVB
   have v0 := HVB.out.1
   have v1 := HVB.out.2
   have ev : IntKind.i64.wrap (v * 256) = v * 256 := by rw [IntKind.wrap_i64]; omega
   have ev2 : IntKind.i64.wrap (v * 256 + x) = v * 256 + x := by rw [IntKind.wrap_i64]; omega
   rw [hv]
   clear hx hxb hcx hv
   go_wp2
   go_roundw
   case rel => exact ⟨k + 1,by omega,by go_num,by rw [num4_step HX.out HV.out],trivial⟩
   case measure => simp [intOf]; omega
  ·have hke : k = 4 := by omega
   subst hke
   clear hkl hkn
   have ev : num4 ([b4,b5,b6,b7].take 4) = num4 [b4,b5,b6,b7] := rfl
   rw [ev]
   obtain ⟨v,hv⟩ : ∃ v,num4 [b4,b5,b6,b7] = v := ⟨_,rfl⟩
   rw [hv]
   have HV := keep hv
   have dl : decide (((4 : Nat) : Int) < 4) = false := rfl
   clear ev hv
   go_wp2
   refine wp_region_noPanic ?_
   refine Ord.wpM_begin (fun W' : World => W'.cell? ⟨g,o,none⟩ = some (.int .u8 b0) ∧ W'.cell? ⟨g,o + 1,none⟩ = some (.int .u8 b1) ∧ W'.cell? ⟨g,o + 2,none⟩ = some (.int .u8 b2) ∧ W'.cell? ⟨g,o + 3,none⟩ = some (.int .u8 b3)) [0,1,2,3,4,5,6,7,8,9,10,11,12,13,14,15,16,17,18] (by kernel_rfl) ?_
   have hS := HSS.out _ ((Below.refl w.heap.size w).alloc (Nat.le_refl _) (.cells #[.int .i64 0,.int .i64 0,.int .i64 0,.int .i64 0,.int .i64 0,.int .i64 0] 35)).drew
   refine Ord.tk (i:=0) (v:=.slice (some ⟨g,o,none⟩) 8 cap) (hy:=Or.inl ⟨by rfl,by rintro W' ⟨q0,q1,q2,q3⟩; go_simp⟩) (hS:=hS) (h:=?_)
   try simp only [Act.put,Ord.t,Ord.z,Ord.s]
   refine Ord.tk (i:=1) (v:=.pointer (some ⟨g,o,none⟩)) (hy:=Or.inl ⟨by rfl,by rintro W' ⟨q0,q1,q2,q3⟩; go_simp⟩) (hS:=hS) (h:=?_)
   try simp only [Act.put,Ord.t,Ord.z,Ord.s]
   refine Ord.tk (i:=2) (v:=.int .u8 b0) (hy:=Or.inl ⟨by rfl,by rintro W' ⟨q0,q1,q2,q3⟩; go_simp⟩) (hS:=hS) (h:=?_)
   try simp only [Act.put,Ord.t,Ord.z,Ord.s]
   refine Ord.tk (i:=3) (v:=.int .i64 b0) (hy:=Or.inl ⟨by rfl,by rintro W' ⟨q0,q1,q2,q3⟩; go_simp⟩) (hS:=hS) (h:=?_)
   try simp only [Act.put,Ord.t,Ord.z,Ord.s]
   refine Ord.tk (i:=4) (v:=.slice (some ⟨g,o,none⟩) 8 cap) (hy:=Or.inl ⟨by rfl,by rintro W' ⟨q0,q1,q2,q3⟩; go_simp⟩) (hS:=hS) (h:=?_)
   try simp only [Act.put,Ord.t,Ord.z,Ord.s]
   refine Ord.tk (i:=5) (v:=.pointer (some ⟨g,o + 1,none⟩)) (hy:=Or.inl ⟨by rfl,by rintro W' ⟨q0,q1,q2,q3⟩; go_simp⟩) (hS:=hS) (h:=?_)
   try simp only [Act.put,Ord.t,Ord.z,Ord.s]
   refine Ord.tk (i:=6) (v:=.int .u8 b1) (hy:=Or.inl ⟨by rfl,by rintro W' ⟨q0,q1,q2,q3⟩; go_simp⟩) (hS:=hS) (h:=?_)
   try simp only [Act.put,Ord.t,Ord.z,Ord.s]
   refine Ord.tk (i:=7) (v:=.int .i64 b1) (hy:=Or.inl ⟨by rfl,by rintro W' ⟨q0,q1,q2,q3⟩; go_simp⟩) (hS:=hS) (h:=?_)
   try simp only [Act.put,Ord.t,Ord.z,Ord.s]
   refine Ord.tk (i:=8) (v:=.slice (some ⟨g,o,none⟩) 8 cap) (hy:=Or.inl ⟨by rfl,by rintro W' ⟨q0,q1,q2,q3⟩; go_simp⟩) (hS:=hS) (h:=?_)
   try simp only [Act.put,Ord.t,Ord.z,Ord.s]
   refine Ord.tk (i:=9) (v:=.pointer (some ⟨g,o + 2,none⟩)) (hy:=Or.inl ⟨by rfl,by rintro W' ⟨q0,q1,q2,q3⟩; go_simp⟩) (hS:=hS) (h:=?_)
   try simp only [Act.put,Ord.t,Ord.z,Ord.s]
   refine Ord.tk (i:=10) (v:=.int .u8 b2) (hy:=Or.inl ⟨by rfl,by rintro W' ⟨q0,q1,q2,q3⟩; go_simp⟩) (hS:=hS) (h:=?_)
   try simp only [Act.put,Ord.t,Ord.z,Ord.s]
   refine Ord.tk (i:=11) (v:=.int .i64 b2) (hy:=Or.inl ⟨by rfl,by rintro W' ⟨q0,q1,q2,q3⟩; go_simp⟩) (hS:=hS) (h:=?_)
   try simp only [Act.put,Ord.t,Ord.z,Ord.s]
   refine Ord.tk (i:=12) (v:=.slice (some ⟨g,o,none⟩) 8 cap) (hy:=Or.inl ⟨by rfl,by rintro W' ⟨q0,q1,q2,q3⟩; go_simp⟩) (hS:=hS) (h:=?_)
   try simp only [Act.put,Ord.t,Ord.z,Ord.s]
   refine Ord.tk (i:=13) (v:=.pointer (some ⟨g,o + 3,none⟩)) (hy:=Or.inl ⟨by rfl,by rintro W' ⟨q0,q1,q2,q3⟩; go_simp⟩) (hS:=hS) (h:=?_)
   try simp only [Act.put,Ord.t,Ord.z,Ord.s]
   refine Ord.tk (i:=14) (v:=.int .u8 b3) (hy:=Or.inl ⟨by rfl,by rintro W' ⟨q0,q1,q2,q3⟩; go_simp⟩) (hS:=hS) (h:=?_)
   try simp only [Act.put,Ord.t,Ord.z,Ord.s]
   refine Ord.tk (i:=15) (v:=.int .i64 b3) (hy:=Or.inl ⟨by rfl,by rintro W' ⟨q0,q1,q2,q3⟩; go_simp⟩) (hS:=hS) (h:=?_)
   try simp only [Act.put,Ord.t,Ord.z,Ord.s]
   refine Ord.tk (i:=16) (v:=.int .i64 v) (hy:=Or.inl ⟨by rfl,by rintro W' ⟨q0,q1,q2,q3⟩; go_simp⟩) (hS:=hS) (h:=?_)
   try simp only [Act.put,Ord.t,Ord.z,Ord.s]
   refine Ord.tk (i:=17) (v:=.agg #[.int .i64 b0,.int .i64 b1,.int .i64 b2,.int .i64 b3,.int .i64 0,.int .i64 v]) (hy:=Or.inl ⟨by rfl,by rintro W' ⟨q0,q1,q2,q3⟩; go_simp⟩) (hS:=hS) (h:=?_)
   try simp only [Act.put,Ord.t,Ord.z,Ord.s]
   refine Ord.on (i:=18) (h:=fun K hK => ?_)
   go_simp
   refine hK.out _ _ (fun _ => HSS.out _ (((Below.refl w.heap.size w).alloc (Nat.le_refl _) _).alloc (by simp) _).drew) ?_
   clear hK K
   try simp only [Act.put,Ord.t,Ord.z,Ord.s]
   refine Ord.on (i:=19) (h:=fun K hK => ?_)
   go_simp
   refine hK.out _ _ (fun h => by simp at h) ?_
   clear hK K
   try simp only [Act.put,Ord.t,Ord.z,Ord.s]
   refine Ord.wpM_done (by kernel_rfl) ?_ _
   refine NoPanic.normal ?_
   clear HSS hS
   by_cases h13 : b0 = 13
   ·have n13 : (b0 == 13) = true := by simpa using h13
    have H13 := keep h13
    have HVB := keep (num4_nn [b4,b5,b6,b7] (fun y hy => HB.out y (mem_up hy)))
    rw [HV.out] at HVB
    by_cases h255 : 255 < v
    ·have d255 : decide (255 < v) = true := decide_eq_true h255
     have HN : Hid (nb v = true) := by
      show _ = _
      unfold nb; rw [d255,Bool.or_true]
     clear h13 h255
     go_wp2
     refine bodyPost_ret (results_cx rfl _ _ w.heap.size ⟨0,0,0,0,0,0⟩ 3 rfl rfl (at_drew (at_up (at_new w _ rfl ⟨0,0,0,0,0,0⟩) _))) rfl ?_
     exact PaP.mk (parse_nobyte HQ.out H13.out (by rw [HV.out]; exact HN.out)) (below_dr2 (((Below.refl w.heap.size w).alloc (Nat.le_refl _) _).alloc (by simp) _))
    ·have d255 : decide (255 < v) = false := decide_eq_false h255
     have HN : Hid (nb v = false) := nb_false.2 ⟨HVB.out,by omega⟩
     clear h13 h255
     go_wp2
     refine bodyPost_ret (results_cx rfl _ _ w.heap.size ⟨b0,b1,b2,b3,v,0⟩ 0 rfl rfl (at_drew (at_up (at_new w _ rfl ⟨b0,b1,b2,b3,v,0⟩) _))) rfl ?_
     exact PaP.mk (by rw [← HV.out]; exact parse_sel HQ.out H13.out (by rw [HV.out]; exact HN.out)) (below_dr2 (((Below.refl w.heap.size w).alloc (Nat.le_refl _) _).alloc (by simp) _))
   ·have n13 : (b0 == 13) = false := by simpa using h13
    have H13 := keep h13
    clear h13
    go_wp2
    refine bodyPost_ret (results_cx rfl _ _ w.heap.size ⟨b0,b1,b2,b3,0,v⟩ 0 rfl rfl (at_drew (at_up (at_new w _ rfl ⟨b0,b1,b2,b3,0,v⟩) _))) rfl ?_
    exact PaP.mk (by rw [← HV.out]; exact parse_imm HQ.out H13.out) (below_dr2 (((Below.refl w.heap.size w).alloc (Nat.le_refl _) _).alloc (by simp) _))
end Go.Proofs.Ytpnacanbknejiaa.Cd
