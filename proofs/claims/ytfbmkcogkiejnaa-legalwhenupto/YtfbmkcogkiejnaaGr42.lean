/- Laid together: HgPl, HgShow. -/
import Derived.Test.YtfbmkcogkiejnaaHgAll
namespace Go.Proofs.Ytfbmkcogkiejnaa.Hg
set_option maxHeartbeats 32000000
set_option maxRecDepth 100000
set_option linter.unusedVariables false
set_option linter.unusedSimpArgs false
open Go.ChangeShapes Go.WideShapes Go.ChangeAt Go.RowKit Go.Maps Lg Lr Fl
def six : List Int := [1,2,3,4,5,15]
def plainT (T : Nat → Int) : Bool := six.all (fun k => T k.toNat == 0) && (Int.tmod (T 6) 2 == 0 && (Int.tmod (T 7) 2 == 0) && (Int.tdiv (T 17) 2 == 0))
theorem six_bad (T : Nat → Int) (k : Nat) (op : Nat) (h : six[k]? = some (op : Int)) (hne : (T op != 0) = true) : plainT T = false := by
 have hm := List.mem_of_getElem? h
 unfold plainT
 rw [Bool.and_eq_false_iff]
 left
 rw [Bool.eq_false_iff]
 intro ha
 have := List.all_eq_true.1 ha (op : Int) hm
 rw [Int.toNat_natCast] at this
 rw [beq_iff_eq.1 this] at hne
 simp at hne
theorem plain_any (T : Nat → Int) (hT : Tb.I64 T) (w : World) : Calls Try.prog 32 #[.agg (Tb.tabA T)] w fun r w' => r = .returned (.bool (plainT T)) ∧ Below w.heap.size w w' := by
 obtain ⟨w1,hw1⟩ : ∃ y,w.alloc (.cells (Tb.tabA T) 29) = y := ⟨_,rfl⟩
 obtain ⟨TB,hTB⟩ : ∃ y,w.heap.size = y := ⟨_,rfl⟩
 obtain ⟨w2,hw2⟩ : ∃ y,w1.alloc (.cells #[.int .i64 1,.int .i64 2,.int .i64 3,.int .i64 4,.int .i64 5,.int .i64 15] 3) = y := ⟨_,rfl⟩
 obtain ⟨SB,hSB⟩ : ∃ y,w1.heap.size = y := ⟨_,rfl⟩
 have b1 : Below w.heap.size w w1 := by rw [← hw1]; exact (Below.refl _ _).alloc (Nat.le_refl _) _
 have b2' : Below w1.heap.size w1 w2 := by rw [← hw2]; exact (Below.refl _ _).alloc (Nat.le_refl _) _
 have kT1 : Bk w1 TB (tabL T) 29 := by rw [← hw1,← hTB]; exact Bk.new _ _ _
 have kT := kT1.fs (Fs.of_below (l:=[]) b2') (by simp)
 have kS : Bk w2 SB [.int .i64 1,.int .i64 2,.int .i64 3,.int .i64 4,.int .i64 5,.int .i64 15] 3 := by rw [← hw2,← hSB]; exact Bk.new _ _ _
 have HB := keep (b1.trans (b2'.mono b1.size))
 have HkT := keep kT
 have HkS := keep kS
 have HW1 := keep hw1
 have HW2 := keep hw2
 have HTB := keep hTB
 have HSB := keep hSB
 obtain ⟨R,hR⟩ : ∃ R,plainT T = R := ⟨_,rfl⟩
 have HR := keep hR
 rw [hR]
 clear hw1 hw2 hTB hSB b1 b2' kT1 kT kS hR
 go_enter Try.func32,Try.ntmps32
 go_wp2_with (first | rw [HW1.out] | rw [HTB.out] | rw [HW2.out] | rw [HSB.out] | fail)
 go_loopw [7] (fun i wx => ∃ k : Nat,k ≤ 6 ∧ i = .int .i64 (k : Int) ∧ wx = w2 ∧ ∀ j op : Nat,j < k → six[j]? = some (op : Int) → (T op == 0) = true) (fun i _ => 6 - (intOf i).toNat)
 case atStart => exact ⟨0,by omega,rfl,rfl,fun j op hj => by omega⟩
 case round =>
  obtain ⟨k,hk,rfl,rfl,ha⟩ := hrel
  by_cases hk6 : k < 6
  ·obtain ⟨op,h1,h2,h3⟩ : ∃ op : Nat,six[k]? = some (op : Int) ∧ op < 18 ∧ ([.int .i64 1,.int .i64 2,.int .i64 3,.int .i64 4,.int .i64 5,.int .i64 15] : List Value)[k]? = some (.int .i64 (op : Int)) := by
    have hc : k = 0 ∨ k = 1 ∨ k = 2 ∨ k = 3 ∨ k = 4 ∨ k = 5 := by omega
    rcases hc with rfl | rfl | rfl | rfl | rfl | rfl
    ·exact ⟨1,rfl,by decide,rfl⟩
    ·exact ⟨2,rfl,by decide,rfl⟩
    ·exact ⟨3,rfl,by decide,rfl⟩
    ·exact ⟨4,rfl,by decide,rfl⟩
    ·exact ⟨5,rfl,by decide,rfl⟩
    ·exact ⟨15,rfl,by decide,rfl⟩
   have s0 := HkS.out.cell k h3
   have t0 : wr.cell? ⟨TB,op,none⟩ = some (.int .i64 (T op)) := HkT.out.cell op (by unfold tabL; rw [Array.getElem?_toList]; exact Tb.tabA_at T op h2)
   have d1 : decide ((k : Int) < 6) = true := decide_eq_true (by omega)
   have hkz : (k : Int) < 6 := by omega
   have hk0 : (0 : Int) ≤ (k : Int) := by omega
   have ho0 : (0 : Int) ≤ (op : Int) := by omega
   have ho1 : (op : Int) < 18 := by omega
   have hwr : IntKind.i64.wrap ((k : Int) + 1) = (k : Int) + 1 := by rw [IntKind.wrap_i64]; omega
   obtain ⟨v,hv⟩ : ∃ v,T op = v := ⟨_,rfl⟩
   rw [hv] at t0
   by_cases h0 : v = 0
   ·have e0 : (v != 0) = false := by simpa using h0
    have HA : Hid (∀ j op : Nat,j < k + 1 → six[j]? = some (op : Int) → (T op == 0) = true) := fun j op' hj hs => by
     by_cases e : j = k
     ·subst e
      rw [h1] at hs
      have : op = op' := by injection hs with hs; omega
      rw [← this,hv,h0]; rfl
     ·exact ha j op' (by omega) hs
    clear ha h1 h3 hv h0
    go_wp2
    go_roundw
    case rel => exact ⟨k + 1,by omega,by go_num,by first | rfl | trivial,HA.out⟩
    case measure => simp [intOf]; omega
   ·have e0 : (v != 0) = true := by simpa using h0
    have HF : Hid (false = R) := (six_bad T k op h1 (by rw [hv]; exact e0)).symm.trans HR.out
    clear ha h1 h3 hv h0
    go_wp2
    go_ret
    exact ⟨by first | (rw [← HF.out]; done) | exact HF.out.symm | exact HF.out | simp [← HF.out],HB.out⟩
  ·have hk6' : k = 6 := by omega
   have dl : decide ((k : Int) < 6) = false := decide_eq_false (by omega)
   have Hsix : six.all (fun k => T k.toNat == 0) = true := by
    refine List.all_eq_true.2 fun x hx => ?_
    have hc : x = 1 ∨ x = 2 ∨ x = 3 ∨ x = 4 ∨ x = 5 ∨ x = 15 := by simpa [six] using hx
    rcases hc with rfl | rfl | rfl | rfl | rfl | rfl
    ·exact ha 0 1 (by omega) rfl
    ·exact ha 1 2 (by omega) rfl
    ·exact ha 2 3 (by omega) rfl
    ·exact ha 3 4 (by omega) rfl
    ·exact ha 4 5 (by omega) rfl
    ·exact ha 5 15 (by omega) rfl
   have t6 := HkT.out.cell 6 (show _ = some (Value.int .i64 (T 6)) by rfl)
   have t7 := HkT.out.cell 7 (show _ = some (Value.int .i64 (T 7)) by rfl)
   have t17 := HkT.out.cell 17 (show _ = some (Value.int .i64 (T 17)) by rfl)
   have hw17 : IntKind.i64.wrap (Int.tdiv (T 17) 2) = Int.tdiv (T 17) 2 := by
    have := hT 17
    rw [IntKind.wrap_i64]
    rcases Int.le_total 0 (T 17) with h | h
    ·rw [Int.tdiv_eq_ediv_of_nonneg h]; omega
    ·have e : Int.tdiv (T 17) 2 = -((-(T 17)) / 2) := by rw [← Int.tdiv_eq_ediv_of_nonneg (by omega),Int.neg_tdiv,Int.neg_neg]
     rw [e]; omega
   obtain ⟨v6,h6⟩ : ∃ v,T 6 = v := ⟨_,rfl⟩
   obtain ⟨v7,h7⟩ : ∃ v,T 7 = v := ⟨_,rfl⟩
   obtain ⟨v17,h17⟩ : ∃ v,T 17 = v := ⟨_,rfl⟩
   obtain ⟨b6,e6⟩ : ∃ b,(Int.tmod v6 2 == 0) = b := ⟨_,rfl⟩
   obtain ⟨b7,e7⟩ : ∃ b,(Int.tmod v7 2 == 0) = b := ⟨_,rfl⟩
   obtain ⟨b17,e17⟩ : ∃ b,(Int.tdiv v17 2 == 0) = b := ⟨_,rfl⟩
   have HP : Hid ((b6 && b7 && b17) = R) := by
    show _ = _
    rw [← HR.out]
    unfold plainT
    rw [Hsix,h6,h7,h17,e6,e7,e17,Bool.true_and]
   rw [h6] at t6
   rw [h7] at t7
   rw [h17] at t17 hw17
   clear ha Hsix hT h6 h7 h17 hk6' hk hk6
   cases b6 <;> cases b7 <;> cases b17 <;> (go_wp2; go_ret; exact ⟨by first | (rw [← HP.out]; done) | (rw [← HP.out]; rfl) | simp [← HP.out],HB.out⟩)
end Go.Proofs.Ytfbmkcogkiejnaa.Hg
namespace Go.Proofs.Ytfbmkcogkiejnaa.Hg
set_option linter.unusedVariables false
set_option linter.unusedSimpArgs false
open Lg Fl
theorem has_cons (n : Int) (P : List Int) (k : Nat) (p : Int) (l : List Int) (hp : 0 ≤ p ∧ p < P.length) : (valsW n P k (p :: l)).contains 1 = (bitOn n k && (gI P p == 1) || (valsW n P (k + 1) l).contains 1) := by
 have hw := wi_iff.2 hp
 rw [valsW]
 cases hb : bitOn n k with
 | false => rw [if_neg (by simp)]; simp
 | true =>
  rw [if_pos ⟨rfl,hw⟩,List.contains_cons,Bool.true_and]
  congr 1
  rw [Bool.eq_iff_iff,beq_iff_eq,beq_iff_eq]
  exact ⟨fun h => h.symm,fun h => h.symm⟩
theorem has_nil (n : Int) (P : List Int) (k : Nat) : (valsW n P k []).contains 1 = false := rfl
theorem bit_zero (k : Nat) : bitOn 0 k = false := by unfold bitOn; rw [Int.zero_ediv]; rfl
theorem bit1_le {n : Int} (h0 : 0 ≤ n) (h1 : n ≤ 1) : bitOn n 1 = false ∧ bitOn n 2 = false := by
 unfold bitOn; constructor <;> (rw [decide_eq_false_iff_not]; simp; omega)
theorem bit2_le {n : Int} (h0 : 0 ≤ n) (h1 : n ≤ 3) : bitOn n 2 = false := by
 unfold bitOn; rw [decide_eq_false_iff_not]; simp; omega
theorem lab_at (sec : List Bool) (S : List Int) (p : Int) (h : 0 ≤ p ∧ p < sec.length) : (gI (sec.map s01 ++ S) p == 1) = gB sec p := by
 unfold gI gB
 rw [List.getD_eq_getElem?_getD,List.getD_eq_getElem?_getD,List.getElem?_append_left (by rw [List.length_map]; omega),List.getElem?_map,List.getElem?_eq_getElem (by omega)]
 simp only [Option.map_some,Option.getD_some]
 cases sec[p.toNat] <;> rfl
theorem shw_same {f : Fx} {T : Nat → Int} {i : Ix} {k : Nat} (hf : Fine f k i) (hT : TabR T) (S : List Int) : shwM T (f.sec.map s01 ++ S) i = shw f T i := by
 have hl : ∀ p,0 ≤ p ∧ p < (f.sec.length : Int) → 0 ≤ p ∧ p < ((f.sec.map s01 ++ S).length : Int) := fun p hp => by
  rw [List.length_append,List.length_map]; omega
 have o1 := hf.o1
 have o2 := hf.o2
 unfold shwM shw
 by_cases h17 : i.op ≤ 17
 ·have hb : bitsG T i.op false = T i.op.toNat := by unfold bitsG; rw [if_neg (by omega),if_neg (by rintro (h | h | h) <;> first | cases h | omega)]
  have ht := hT.2 i.op.toNat (by omega) (by omega)
  rw [hb,if_neg (by omega)]
  by_cases h12 : i.op ≤ 12
  ·have hr : rds i = [i.a,i.b] := by unfold rds; rw [if_pos ⟨o1,h12⟩]
   have ha := hf.r i.a (by rw [hr]; simp)
   have hb' := hf.r i.b (by rw [hr]; simp)
   have hm : Tb.most i.op.toNat = 3 := by
    have : ∀ j : Fin 13,1 ≤ j.val → Tb.most j.val = 3 := by decide
    exact this ⟨i.op.toNat,by omega⟩ (by dsimp only; omega)
   rw [hm] at ht
   rw [hr,has_cons _ _ _ _ _ (hl _ ha),has_cons _ _ _ _ _ (hl _ hb'),has_nil,lab_at _ _ _ ha,lab_at _ _ _ hb',bit2_le ht.1 ht.2,if_neg (by omega),decide_eq_true (show i.op ≠ 16 by omega)]
   simp
  ·by_cases h13 : i.op = 13
   ·have hr : rds i = [i.a,i.b,i.c] := by unfold rds; rw [if_neg (by omega),if_pos h13]
    have ha := hf.r i.a (by rw [hr]; simp)
    have hb' := hf.r i.b (by rw [hr]; simp)
    have hc := hf.r i.c (by rw [hr]; simp)
    rw [hr,has_cons _ _ _ _ _ (hl _ ha),has_cons _ _ _ _ _ (hl _ hb'),has_cons _ _ _ _ _ (hl _ hc),has_nil,lab_at _ _ _ ha,lab_at _ _ _ hb',lab_at _ _ _ hc,if_neg (by omega),decide_eq_true (show i.op ≠ 16 by omega)]
    simp [Bool.or_assoc]
   ·by_cases h14 : i.op = 14
    ·have hr : rds i = [] := by unfold rds; rw [if_neg (by omega),if_neg h13,if_neg (by omega),if_neg (by omega)]
     have hz : T i.op.toNat = 0 := by
      have : Tb.most i.op.toNat = 0 := by rw [h14]; rfl
      omega
     rw [hr,has_nil,hz,bit_zero,bit_zero,bit_zero]
     simp
    ·by_cases h17' : i.op = 17
     ·have hr : rds i = [i.a,i.d] := by unfold rds; rw [if_neg (by omega),if_neg h13,if_pos h17']
      have ha := hf.r i.a (by rw [hr]; simp)
      have hd := hf.r i.d (by rw [hr]; simp)
      have hm : Tb.most i.op.toNat = 3 := by rw [h17']; rfl
      rw [hm] at ht
      rw [hr,has_cons _ _ _ _ _ (hl _ ha),has_cons _ _ _ _ _ (hl _ hd),has_nil,lab_at _ _ _ ha,lab_at _ _ _ hd,bit2_le ht.1 ht.2,if_pos h17',decide_eq_true (show i.op ≠ 16 by omega)]
      simp
     ·have hr : rds i = [i.a] := by unfold rds; rw [if_neg (by omega),if_neg h13,if_neg h17',if_pos (by omega)]
      have ha := hf.r i.a (by rw [hr]; simp)
      have hm : Tb.most i.op.toNat = 1 := by
       rcases (show i.op = 15 ∨ i.op = 16 by omega) with e | e <;> (rw [e]; rfl)
      rw [hm] at ht
      have hb1 := bit1_le ht.1 ht.2
      rw [hr,has_cons _ _ _ _ _ (hl _ ha),has_nil,lab_at _ _ _ ha,hb1.1,hb1.2]
      simp
 ·rw [if_pos (by omega)]
  by_cases h19 : i.op = 19
  ·have hr : rds i = [i.a] := by unfold rds; rw [if_neg (by omega),if_neg (by omega),if_neg (by omega),if_pos (by omega)]
   have ha := hf.r i.a (by rw [hr]; simp)
   have hs := hf.s
   unfold spl at hs
   rw [if_neg (by omega),if_neg (by omega),if_pos h19] at hs
   rw [hr,has_cons _ _ _ _ _ (hl _ ha),has_nil,lab_at _ _ _ ha,hs]
   simp
  ·have hb : bitsG T i.op false = 0 := by
    unfold bitsG
    rw [if_neg h19,if_pos (by right; right; omega)]
    rcases (show i.op = 18 ∨ i.op = 20 ∨ i.op = 21 by omega) with e | e | e <;> (rw [e]; rfl)
   rw [hb]
   have : ∀ (l : List Int) (k : Nat),valsW 0 (f.sec.map s01 ++ S) k l = [] := by
    intro l
    induction l with
    | nil => intro k; rfl
    | cons p l ih => intro k; rw [valsW,bit_zero,if_neg (by simp),ih]
   rw [this]; rfl
end Go.Proofs.Ytfbmkcogkiejnaa.Hg
