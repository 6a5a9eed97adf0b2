/- Laid together: HgPl, HgShow, HgWhen, HgAlp, FrMach. -/
import Derived.Test.YtfbmkcogkiejnaaHgAll
import Derived.Test.YtfbmkcogkiejnaaGr21
import Derived.Test.YtfbmkcogkiejnaaFlRun
namespace Go.Proofs.Ytfbmkcogkiejnaa.Hg
set_option linter.unusedVariables false
set_option linter.unusedSimpArgs false
open Go.ChangeShapes Go.WideShapes Go.ChangeAt Go.RowKit Go.Maps Lg Lr Fl
end Go.Proofs.Ytfbmkcogkiejnaa.Hg
namespace Go.Proofs.Ytfbmkcogkiejnaa.Hg
set_option linter.unusedVariables false
set_option linter.unusedSimpArgs false
open Lg Fl
theorem has_cons (n : Int) (P : List Int) (k : Nat) (p : Int) (l : List Int) (hp : 0 ≤ p ∧ p < P.length) : (valsW n P k (p :: l)).contains 1 = (bitOn n k && (gI P p == 1) || (valsW n P (k + 1) l).contains 1) := by
 have hw := wi_iff.2 hp
 rw [valsW]
 cases hb : bitOn n k with
 | false => rw [if_neg (by simp)]; simp
 | true =>
  rw [if_pos ⟨rfl,hw⟩,List.contains_cons,Bool.true_and]
  congr 1
  rw [Bool.eq_iff_iff,beq_iff_eq,beq_iff_eq]
  exact ⟨fun h => h.symm,fun h => h.symm⟩
theorem has_nil (n : Int) (P : List Int) (k : Nat) : (valsW n P k []).contains 1 = false := rfl
theorem bit_zero (k : Nat) : bitOn 0 k = false := by unfold bitOn; rw [Int.zero_ediv]; rfl
theorem bit1_le {n : Int} (h0 : 0 ≤ n) (h1 : n ≤ 1) : bitOn n 1 = false ∧ bitOn n 2 = false := by
 unfold bitOn; constructor <;> (rw [decide_eq_false_iff_not]; simp; omega)
theorem bit2_le {n : Int} (h0 : 0 ≤ n) (h1 : n ≤ 3) : bitOn n 2 = false := by
 unfold bitOn; rw [decide_eq_false_iff_not]; simp; omega
theorem lab_at (sec : List Bool) (S : List Int) (p : Int) (h : 0 ≤ p ∧ p < sec.length) : (gI (sec.map s01 ++ S) p == 1) = gB sec p := by
 unfold gI gB
 rw [List.getD_eq_getElem?_getD,List.getD_eq_getElem?_getD,List.getElem?_append_left (by rw [List.length_map]; omega),List.getElem?_map,List.getElem?_eq_getElem (by omega)]
 simp only [Option.map_some,Option.getD_some]
 cases sec[p.toNat] <;> rfl
theorem shw_same {f : Fx} {T : Nat → Int} {i : Ix} {k : Nat} (hf : Fine f k i) (hT : TabR T) (S : List Int) : shwM T (f.sec.map s01 ++ S) i = shw f T i := by
 have hl : ∀ p,0 ≤ p ∧ p < (f.sec.length : Int) → 0 ≤ p ∧ p < ((f.sec.map s01 ++ S).length : Int) := fun p hp => by
  rw [List.length_append,List.length_map]; omega
 have o1 := hf.o1
 have o2 := hf.o2
 unfold shwM shw
 by_cases h17 : i.op ≤ 17
 ·have hb : bitsG T i.op false = T i.op.toNat := by unfold bitsG; rw [if_neg (by omega),if_neg (by rintro (h | h | h) <;> first | cases h | omega)]
  have ht := hT.2 i.op.toNat (by omega) (by omega)
  rw [hb,if_neg (by omega)]
  by_cases h12 : i.op ≤ 12
  ·have hr : rds i = [i.a,i.b] := by unfold rds; rw [if_pos ⟨o1,h12⟩]
   have ha := hf.r i.a (by rw [hr]; simp)
   have hb' := hf.r i.b (by rw [hr]; simp)
   have hm : Tb.most i.op.toNat = 3 := by
    have : ∀ j : Fin 13,1 ≤ j.val → Tb.most j.val = 3 := by decide
    exact this ⟨i.op.toNat,by omega⟩ (by dsimp only; omega)
   rw [hm] at ht
   rw [hr,has_cons _ _ _ _ _ (hl _ ha),has_cons _ _ _ _ _ (hl _ hb'),has_nil,lab_at _ _ _ ha,lab_at _ _ _ hb',bit2_le ht.1 ht.2,if_neg (by omega),decide_eq_true (show i.op ≠ 16 by omega)]
   simp
  ·by_cases h13 : i.op = 13
   ·have hr : rds i = [i.a,i.b,i.c] := by unfold rds; rw [if_neg (by omega),if_pos h13]
    have ha := hf.r i.a (by rw [hr]; simp)
    have hb' := hf.r i.b (by rw [hr]; simp)
    have hc := hf.r i.c (by rw [hr]; simp)
    rw [hr,has_cons _ _ _ _ _ (hl _ ha),has_cons _ _ _ _ _ (hl _ hb'),has_cons _ _ _ _ _ (hl _ hc),has_nil,lab_at _ _ _ ha,lab_at _ _ _ hb',lab_at _ _ _ hc,if_neg (by omega),decide_eq_true (show i.op ≠ 16 by omega)]
    simp [Bool.or_assoc]
   ·by_cases h14 : i.op = 14
    ·have hr : rds i = [] := by unfold rds; rw [if_neg (by omega),if_neg h13,if_neg (by omega),if_neg (by omega)]
     have hz : T i.op.toNat = 0 := by
      have : Tb.most i.op.toNat = 0 := by rw [h14]; rfl
      omega
     rw [hr,has_nil,hz,bit_zero,bit_zero,bit_zero]
     simp
    ·by_cases h17' : i.op = 17
     ·have hr : rds i = [i.a,i.d] := by unfold rds; rw [if_neg (by omega),if_neg h13,if_pos h17']
      have ha := hf.r i.a (by rw [hr]; simp)
      have hd := hf.r i.d (by rw [hr]; simp)
      have hm : Tb.most i.op.toNat = 3 := by rw [h17']; rfl
      rw [hm] at ht
      rw [hr,has_cons _ _ _ _ _ (hl _ ha),has_cons _ _ _ _ _ (hl _ hd),has_nil,lab_at _ _ _ ha,lab_at _ _ _ hd,bit2_le ht.1 ht.2,if_pos h17',decide_eq_true (show i.op ≠ 16 by omega)]
      simp
     ·have hr : rds i = [i.a] := by unfold rds; rw [if_neg (by omega),if_neg h13,if_neg h17',if_pos (by omega)]
      have ha := hf.r i.a (by rw [hr]; simp)
      have hm : Tb.most i.op.toNat = 1 := by
       rcases (show i.op = 15 ∨ i.op = 16 by omega) with e | e <;> (rw [e]; rfl)
      rw [hm] at ht
      have hb1 := bit1_le ht.1 ht.2
      rw [hr,has_cons _ _ _ _ _ (hl _ ha),has_nil,lab_at _ _ _ ha,hb1.1,hb1.2]
      simp
 ·rw [if_pos (by omega)]
  by_cases h19 : i.op = 19
  ·have hr : rds i = [i.a] := by unfold rds; rw [if_neg (by omega),if_neg (by omega),if_neg (by omega),if_pos (by omega)]
   have ha := hf.r i.a (by rw [hr]; simp)
   have hs := hf.s
   unfold spl at hs
   rw [if_neg (by omega),if_neg (by omega),if_pos h19] at hs
   rw [hr,has_cons _ _ _ _ _ (hl _ ha),has_nil,lab_at _ _ _ ha,hs]
   simp
  ·have hb : bitsG T i.op false = 0 := by
    unfold bitsG
    rw [if_neg h19,if_pos (by right; right; omega)]
    rcases (show i.op = 18 ∨ i.op = 20 ∨ i.op = 21 by omega) with e | e | e <;> (rw [e]; rfl)
   rw [hb]
   have : ∀ (l : List Int) (k : Nat),valsW 0 (f.sec.map s01 ++ S) k l = [] := by
    intro l
    induction l with
    | nil => intro k; rfl
    | cons p l ih => intro k; rw [valsW,bit_zero,if_neg (by simp),ih]
   rw [this]; rfl
theorem Ok8.shw {f : Fx} {T : Nat → Int} {j : Nat} {s : S8} (h : Ok8 f T j s) {i : Ix} {k : Nat} (hf : Fine f k i) (hT : TabR T) : shwM T s.m.sec i = shw f T i := by
 obtain ⟨S,h1,_⟩ := h.sec
 rw [h1]; exact shw_same hf hT S
def Zn (m : Mk) : Prop := ∀ n p,m.nums.lookup n = some p → 0 ≤ p ∧ p < m.sec.length ∧ gI m.sec p = 0
theorem gI_app (l S : List Int) (p : Int) (h : 0 ≤ p ∧ p < l.length) : gI (l ++ S) p = gI l p := by
 unfold gI
 rw [List.getD_eq_getElem?_getD,List.getD_eq_getElem?_getD,List.getElem?_append_left (by omega)]
theorem Zn.made {m : Mk} (T : Nat → Int) (i : Ix) (h : Zn m) : Zn (madeM T i m).2 := fun n p hp => by
 obtain ⟨h0,h1,h2⟩ := h n p hp
 refine ⟨h0,?_,?_⟩
 ·show p < ((m.sec ++ [_]).length : Int)
  rw [List.length_append]; omega
 ·show gI (m.sec ++ [_]) p = 0
  rw [gI_app _ _ _ ⟨h0,h1⟩]; exact h2
theorem Zn.num {m : Mk} (T : Nat → Int) (n : Int) (h : Zn m) : Zn (numM T n m).2 ∧ (0 ≤ (numM T n m).1 ∧ (numM T n m).1 < (numM T n m).2.sec.length ∧ gI (numM T n m).2.sec (numM T n m).1 = 0) ∧ (numM T n m).2.shown = m.shown := by
 unfold numM
 cases hl : m.nums.lookup n with
 | some p => exact ⟨h,h n p hl,rfl⟩
 | none =>
  have hm := Zn.made T ⟨14,0,0,0,0,n⟩ h
  have hq : 0 ≤ (madeM T ⟨14,0,0,0,0,n⟩ m).1 ∧ (madeM T ⟨14,0,0,0,0,n⟩ m).1 < (madeM T ⟨14,0,0,0,0,n⟩ m).2.sec.length ∧ gI (madeM T ⟨14,0,0,0,0,n⟩ m).2.sec (madeM T ⟨14,0,0,0,0,n⟩ m).1 = 0 := by
   refine ⟨by show (0 : Int) ≤ (m.sec.length : Int); omega,by show (m.sec.length : Int) < ((m.sec ++ [_]).length : Int); rw [List.length_append,List.length_singleton]; omega,?_⟩
   show gI (m.sec ++ [orS m.sec []]) (m.sec.length : Int) = 0
   unfold gI
   rw [Int.toNat_natCast,List.getD_eq_getElem?_getD,List.getElem?_append_right (Nat.le_refl _),Nat.sub_self]
   rfl
  refine ⟨fun k p hp => ?_,hq,?_⟩
  ·dsimp only at hp ⊢
   rw [List.lookup_cons] at hp
   split at hp
   ·cases hp; exact hq
   ·exact hm k p hp
  ·show (m.shown || shwM T m.sec (atD ⟨14,0,0,0,0,n⟩ m.sec.length)) = m.shown
   have : shwM T m.sec (atD ⟨14,0,0,0,0,n⟩ m.sec.length) = false := rfl
   rw [this,Bool.or_false]
theorem swap_shown (i : Ix) (m : Mk) : (swapD i m).shown = m.shown := by
 unfold swapD; split <;> rfl
set_option maxHeartbeats 32000000
set_option maxRecDepth 100000
def t8 : Nat → Int := fun k => if k = 8 then 1 else 0
def t18 : Nat → Int := fun k => if k = 8 then 1 else if k = 1 then 1 else 0
def fB : Fx := ⟨[⟨1,1,0,0,0,0⟩,i20],[true,true],1,[]⟩
def sA : S8 := (run8 fA t8).getD (st0 fA)
def xA : Fx := ⟨leadM sA.st sA.m.code,is1 sA.m.sec,1,[]⟩
set_option maxRecDepth 100000
theorem some_A : (run8 fA t8).isSome = true := by decide +kernel
theorem run_A : run8 fA t8 = some sA := by
 unfold sA
 cases h : run8 fA t8 with
 | none => have := some_A; rw [h] at this; cases this
 | some s => rfl
theorem err_A : err8 fA t8 = 0 := by decide +kernel
theorem err_B : err8 fB t18 = 11 := by decide +kernel
theorem len_A : 3 ≤ xA.code.length ∧ xA.code.length ≤ 500 ∧ xA.sec.length ≤ 500 ∧ 2 ≤ xA.sec.length := by decide +kernel
theorem len_A2 : (leadM sA.st sA.m.code).length ≤ 1048576 := by decide +kernel
theorem len_A3 : sA.m.sec.length ≤ 1048576 := by decide +kernel
theorem check_A : checkF xA = (0,-1) := by decide +kernel
def runW (code : List Ix) : Nat → Nat → List Int → List (List Int) → Option En
 | 0,_,_,_ => none
 | n + 1,at',P,A => match code[at']? with
  | none => none
  | some i => if i.op = 20 then some ⟨gI P i.a,false,A⟩ else if i.op = 21 then some ⟨0,true,A⟩ else runW code n (nx i at' P) (pl i P A) (arr i P A)
theorem runW_is {code : List Ix} {T : Nat → Int} : ∀ {n at' : Nat} {P : List Int} {A : List (List Int)} {ls : List Lk} {e e' : En},Runs code T at' P A ls e → runW code n at' P A = some e' → e = e'
 | 0,_,_,_,_,_,_,_,h => by cases h
 | n + 1,at',P,A,ls,e,e',hr,h => by
  rw [runW] at h
  cases hr with
  | ret _ _ _ i hi ho => rw [hi] at h; dsimp only at h; rw [if_pos ho] at h; cases h; rfl
  | trap _ _ _ i hi ho => rw [hi] at h; dsimp only at h; rw [if_neg (by omega),if_pos ho] at h; cases h; rfl
  | step _ _ _ i ls e hi h0 h1 hr => rw [hi] at h; dsimp only at h; rw [if_neg h0,if_neg h1] at h; exact runW_is hr h
theorem word_A : (runW xA.code 500 0 (firstP xA.sec.length [9]) []).map (·.word) = some 81 := by decide +kernel
theorem end_A {T : Nat → Int} {ls : List Lk} {e : En} (h : Runs xA.code T 0 (firstP xA.sec.length [9]) [] ls e) : e.word = 81 := by
 have hw := word_A
 cases hr : runW xA.code 500 0 (firstP xA.sec.length [9]) [] with
 | none => rw [hr] at hw; cases hw
 | some e' =>
  rw [hr] at hw
  rw [runW_is h hr]
  simpa using hw
end Go.Proofs.Ytfbmkcogkiejnaa.Hg
namespace Go.Proofs.Ytfbmkcogkiejnaa.Fl
set_option linter.unusedVariables false
set_option linter.unusedSimpArgs false
open Go.ChangeShapes Go.WideShapes Go.ChangeAt Go.RowKit Lg Lr
def ArAt (w : World) (s : Value) (p : Nat × List Int) : Prop := ∃ c ex,s = .slice (some ⟨p.1,0,none⟩) p.2.length c ∧ p.2.length ≤ c ∧ Bk w p.1 (p.2.map (Value.int .i64) ++ ex) 3
theorem ArAt.fs {w w' : World} {s : Value} {p : Nat × List Int} {l : List Nat} (h : ArAt w s p) (hf : Fs l w w') (hn : p.1 ∉ l) : ArAt w' s p := by
 obtain ⟨c,ex,h1,h2,h3⟩ := h
 exact ⟨c,ex,h1,h2,h3.fs hf hn⟩
theorem ArAt.lt {w : World} {s : Value} {p : Nat × List Int} (h : ArAt w s p) : p.1 < w.heap.size := by
 obtain ⟨c,ex,h1,h2,h3⟩ := h
 exact h3.lt
theorem cell_fs {w w' : World} {l : List Nat} {b k : Nat} (hf : Fs l w w') (hb : b < w.heap.size) (hn : b ∉ l) : w'.cell? ⟨b,k,none⟩ = w.cell? ⟨b,k,none⟩ := World.cell?_of_block (hf.block b hb hn)
structure RA (w : World) (AO : Nat) (av : Value) (ps : List (Nat × List Int)) : Prop where
 av : ∃ pv c,av = .slice pv ps.length c ∧ ps.length ≤ c ∧ (ps ≠ [] → pv = some ⟨AO,0,none⟩ ∧ AO < w.heap.size)
 at' : ∀ j p,ps[j]? = some p → ∃ s,w.cell? ⟨AO,j,none⟩ = some s ∧ ArAt w s p
 nd : (ps.map Prod.fst).Nodup
 na : ∀ p ∈ ps,p.1 ≠ AO
theorem RA.fs {w w' : World} {AO : Nat} {av : Value} {ps : List (Nat × List Int)} {l : List Nat} (h : RA w AO av ps) (hf : Fs l w w') (h1 : ps ≠ [] → AO ∉ l) (h2 : ∀ p ∈ ps,p.1 ∉ l) : RA w' AO av ps := by
 obtain ⟨pv,c,e,hc,ha⟩ := h.av
 refine ⟨⟨pv,c,e,hc,fun hn => ⟨(ha hn).1,by have := (ha hn).2; have := hf.size; omega⟩⟩,fun j p hp => ?_,h.nd,h.na⟩
 have hm := List.mem_of_getElem? hp
 have hne : ps ≠ [] := List.ne_nil_of_mem hm
 obtain ⟨s,hs,hr⟩ := h.at' j p hp
 exact ⟨s,by rw [cell_fs hf (ha hne).2 (h1 hne)]; exact hs,hr.fs hf (h2 p hm)⟩
structure RM (w : World) (MB PB AO : Nat) (av : Value) (P : List Int) (ps : List (Nat × List Int)) : Prop where
 m : Bk w MB [.slice (some ⟨PB,0,none⟩) P.length P.length,av,.int .i64 0] 90
 pl : Bk w PB (P.map (Value.int .i64)) 3
 ar : RA w AO av ps
 ne : MB ≠ PB
 ao : ps ≠ [] → AO ≠ PB ∧ AO ≠ MB
 np : ∀ p ∈ ps,p.1 ≠ PB ∧ p.1 ≠ MB
theorem RM.place {w : World} {MB PB AO : Nat} {av : Value} {P : List Int} {ps : List (Nat × List Int)} (h : RM w MB PB AO av P ps) {k : Nat} (hk : k < P.length) : w.cell? ⟨PB,k,none⟩ = some (.int .i64 (gI P (k : Int))) := by
 refine h.pl.cell k ?_
 unfold gI
 rw [List.getElem?_map,Int.toNat_natCast,List.getD_eq_getElem?_getD,List.getElem?_eq_getElem hk]; rfl
theorem RM.fs {w w' : World} {MB PB AO : Nat} {av : Value} {P : List Int} {ps : List (Nat × List Int)} {l : List Nat} (h : RM w MB PB AO av P ps) (hf : Fs l w w') (h0 : MB ∉ l) (h1 : PB ∉ l) (h2 : ps ≠ [] → AO ∉ l) (h3 : ∀ p ∈ ps,p.1 ∉ l) : RM w' MB PB AO av P ps :=
 ⟨h.m.fs hf h0,h.pl.fs hf h1,h.ar.fs hf h2 h3,h.ne,h.ao,h.np⟩
theorem RM.below {w w' : World} {MB PB AO : Nat} {av : Value} {P : List Int} {ps : List (Nat × List Int)} (h : RM w MB PB AO av P ps) (hb : Below w.heap.size w w') : RM w' MB PB AO av P ps := h.fs (Fs.of_below (l:=[]) hb) (by simp) (by simp) (by simp) (by simp)
theorem RM.arr {w : World} {MB PB AO : Nat} {av : Value} {P : List Int} {ps : List (Nat × List Int)} (h : RM w MB PB AO av P ps) {b : Nat} (hb : b < ps.length) : ∃ gb row pc c,ps[b]? = some (gb,row) ∧ rowA (ars ps) (b : Int) = row ∧ av = .slice (some ⟨AO,0,none⟩) ps.length pc ∧ w.cell? ⟨AO,b,none⟩ = some (.slice (some ⟨gb,0,none⟩) row.length c) ∧ row.length ≤ c ∧ ∃ ex,Bk w gb (row.map (Value.int .i64) ++ ex) 3 := by
 obtain ⟨q,hq⟩ : ∃ q,ps[b]? = some q := ⟨_,List.getElem?_eq_getElem hb⟩
 have hne : ps ≠ [] := List.ne_nil_of_mem (List.mem_of_getElem? hq)
 obtain ⟨pv,pc,e,hc,ha⟩ := h.ar.av
 obtain ⟨s,hs,c,ex,rfl,h2,h3⟩ := h.ar.at' b q hq
 refine ⟨q.1,q.2,pc,c,hq,?_,by rw [e,(ha hne).1],hs,h2,ex,h3⟩
 unfold rowA ars
 rw [Int.toNat_natCast,List.getD_eq_getElem?_getD,List.getElem?_map,hq]; rfl
theorem RM.setP {w : World} {MB PB AO : Nat} {av : Value} {P : List Int} {ps : List (Nat × List Int)} (h : RM w MB PB AO av P ps) (k : Nat) (v : Int) : RM (w.setCell ⟨PB,k,none⟩ (.int .i64 v)) MB PB AO av (P.set k v) ps := by
 have hf : Fs [PB] w (w.setCell ⟨PB,k,none⟩ (.int .i64 v)) := (Fs.refl [PB] w).set (by simp) k _
 refine ⟨?_,?_,h.ar.fs hf (fun hn => by simpa using (h.ao hn).1) (fun p hp => by simpa using (h.np p hp).1),h.ne,h.ao,h.np⟩
 ·rw [List.length_set]
  exact h.m.fs hf (by simpa using h.ne)
 ·rw [List.map_set]
  exact h.pl.set k _
theorem fst_set {ps : List (Nat × List Int)} {b gb : Nat} {row r : List Int} (hb : ps[b]? = some (gb,row)) : (ps.set b (gb,r)).map Prod.fst = ps.map Prod.fst := by
 rw [List.map_set]
 apply List.ext_getElem?
 intro j
 rw [List.getElem?_set,List.length_map,List.getElem?_map]
 split
 ·rename_i e
  subst e
  (try rw [if_pos (List.getElem?_eq_some_iff.1 hb).1]); rw [hb]; rfl
 ·rfl
theorem RM.setA {w : World} {MB PB AO : Nat} {av : Value} {P : List Int} {ps : List (Nat × List Int)} (h : RM w MB PB AO av P ps) {b gb : Nat} {row : List Int} (hb : ps[b]? = some (gb,row)) (k : Nat) (hk : k < row.length) (v : Int) : RM (w.setCell ⟨gb,k,none⟩ (.int .i64 v)) MB PB AO av P (ps.set b (gb,row.set k v)) := by
 have hf : Fs [gb] w (w.setCell ⟨gb,k,none⟩ (.int .i64 v)) := (Fs.refl [gb] w).set (by simp) k _
 have hlt := (List.getElem?_eq_some_iff.1 hb).1
 have hm := List.mem_of_getElem? hb
 have hne : ps ≠ [] := List.ne_nil_of_mem hm
 obtain ⟨n1,n2⟩ := h.np _ hm
 have n3 := h.ar.na _ hm
 dsimp only at n1 n2 n3
 have hfst := fst_set (r:=row.set k v) hb
 have hoth : ∀ j p,ps[j]? = some p → j ≠ b → p.1 ≠ gb := fun j p hj hne e => by
  have h1 : (ps.map Prod.fst)[j]? = some gb := by rw [List.getElem?_map,hj,← e]; rfl
  have h2 : (ps.map Prod.fst)[b]? = some gb := by rw [List.getElem?_map,hb]; rfl
  exact hne ((List.getElem?_inj (List.getElem?_eq_some_iff.1 h1).1 h.ar.nd).1 (h1.trans h2.symm))
 have hmem : ∀ p ∈ ps.set b (gb,row.set k v),p = (gb,row.set k v) ∨ p ∈ ps := fun p hp => by
  rcases List.mem_or_eq_of_mem_set hp with e | e
  ·exact .inr e
  ·exact .inl e
 have hne' : ps.set b (gb,row.set k v) ≠ [] := by
  intro e
  have := congrArg List.length e
  rw [List.length_set] at this
  simp at this
  exact hne this
 obtain ⟨pv,c,e,hc,ha⟩ := h.ar.av
 refine ⟨h.m.fs hf (by simpa using Ne.symm n2),h.pl.fs hf (by simpa using Ne.symm n1),⟨⟨pv,c,by rw [List.length_set]; exact e,by rw [List.length_set]; exact hc,fun _ => ⟨(ha hne).1,by simpa [World.setCell] using (ha hne).2⟩⟩,fun j p hp => ?_,by rw [hfst]; exact h.ar.nd,fun p hp => ?_⟩,h.ne,fun _ => h.ao hne,fun p hp => ?_⟩
 ·rw [List.getElem?_set] at hp
  split at hp
  ·rename_i ej
   subst ej
   (try rw [if_pos hlt] at hp)
   cases hp
   obtain ⟨s,hs,c',ex,rfl,h2,h3⟩ := h.ar.at' _ _ hb
   refine ⟨_,by rw [cell_fs hf (ha hne).2 (by simpa using Ne.symm n3)]; exact hs,c',ex,by simp,by simpa using h2,?_⟩
   have := h3.set k (.int .i64 v)
   rw [List.set_append_left _ _ (by simpa using hk)] at this
   dsimp only at this ⊢
   rw [List.map_set]
   exact this
  ·rename_i ej
   obtain ⟨s,hs,hr⟩ := h.ar.at' j p hp
   exact ⟨s,by rw [cell_fs hf (ha hne).2 (by simpa using Ne.symm n3)]; exact hs,hr.fs hf (by simpa using hoth j p hp (fun x => ej x.symm))⟩
 ·rcases hmem p hp with rfl | hp
  ·exact n3
  ·exact h.ar.na p hp
 ·rcases hmem p hp with rfl | hp
  ·exact ⟨n1,n2⟩
  ·exact h.np p hp
theorem RA.arrs {w : World} {AO : Nat} {av : Value} {ps : List (Nat × List Int)} (h : RA w AO av ps) (hl : ps.length ≤ 5864062014805) (hr : ∀ r ∈ ars ps,r.length ≤ 17592186044416) : ArrsIs w w.heap.size (ars ps) av := by
 obtain ⟨pv,c,e,hc,ha⟩ := h.av
 refine ⟨pv,_,c,e,by unfold ars; rw [List.length_map],hc,hl,fun j l hj => ?_⟩
 have hj0 := hj
 unfold ars at hj
 rw [List.getElem?_map,Option.map_eq_some_iff] at hj
 obtain ⟨p,hp,rfl⟩ := hj
 have hne : ps ≠ [] := List.ne_nil_of_mem (List.mem_of_getElem? hp)
 obtain ⟨s,hs,c',ex,rfl,h2,h3⟩ := h.at' j p hp
 refine ⟨AO,0,_,(ha hne).1,(ha hne).2,by rw [Nat.zero_add]; exact hs,_,_,_,rfl,rfl,h2,hr _ (List.mem_of_getElem? hj0),fun k x hx => ⟨p.1,0,rfl,h3.lt,?_⟩⟩
 rw [Nat.zero_add]
 refine h3.cell k ?_
 have hk := (List.getElem?_eq_some_iff.1 hx).1
 rw [List.getElem?_append_left (by simpa using hk),List.getElem?_map,hx]; rfl
def fromP (n fr : Nat) (ws : List Int) : List Int := List.replicate fr 0 ++ (ws ++ List.replicate (n - fr - ws.length) 0)
theorem fromP_len {n fr : Nat} {ws : List Int} (h : fr + ws.length ≤ n) : (fromP n fr ws).length = n := by
 unfold fromP
 rw [List.length_append,List.length_append,List.length_replicate,List.length_replicate]; omega
theorem fromP_first (n : Nat) (ws : List Int) : fromP n 0 ws = firstP n ws := by unfold fromP firstP; simp
theorem fromP_none (n fr : Nat) (h : fr ≤ n) : fromP n fr [] = List.replicate n 0 := by
 unfold fromP
 rw [List.nil_append,List.length_nil,List.replicate_append_replicate]
 congr 1; omega
theorem fromP_step {n fr i : Nat} {ws : List Int} {x : Int} (hi : ws[i]? = some x) (hl : fr + ws.length ≤ n) : (fromP n fr (ws.take i)).set (fr + i) x = fromP n fr (ws.take (i + 1)) := by
 have hlt := (List.getElem?_eq_some_iff.1 hi).1
 unfold fromP
 rw [List.set_append_right _ _ (by rw [List.length_replicate]; omega),List.length_replicate,Nat.add_sub_cancel_left,List.set_append_right _ _ (by rw [List.length_take]; omega),List.length_take,Nat.min_eq_left (by omega),Nat.sub_self,List.length_take,Nat.min_eq_left (by omega),show n - fr - i = (n - fr - (i + 1)) + 1 by omega,List.replicate_succ,List.set_cons_zero,List.take_add_one,hi,Option.toList_some,List.append_assoc]
 rfl
def RDo (MB PB AO : Nat) (av : Value) (P : List Int) (ps : List (Nat × List Int)) (i : Ix) (at' : Nat) (w : World) (r : Ending) (w' : World) : Prop :=
 r = .returned (.int .i64 (if i.op = 20 ∨ i.op = 21 then -1 else (nx i at' P : Nat))) ∧ ∃ ps',RM w' MB PB AO av (pl i P (ars ps)) ps' ∧ ars ps' = arr i P (ars ps) ∧ ps'.map Prod.fst = ps.map Prod.fst ∧ Fs (PB :: ps.map Prod.fst) w w'
theorem RDo.same {MB PB AO : Nat} {av : Value} {P : List Int} {ps : List (Nat × List Int)} {i : Ix} {at' : Nat} {w w' : World} {n : Int} (hn : n = if i.op = 20 ∨ i.op = 21 then (-1 : Int) else ((nx i at' P : Nat) : Int)) (hm : mks i = false) (ha : arr i P (ars ps) = ars ps) (h : RM w MB PB AO av P ps) (hb : Below w.heap.size w w') : RDo MB PB AO av P ps i at' w (.returned (.int .i64 n)) w' := by
 refine ⟨by rw [hn],ps,?_,ha.symm,rfl,Fs.of_below hb⟩
 unfold pl
 rw [if_neg (by rw [hm]; simp)]
 exact h.below hb
theorem nx_on {i : Ix} {at' : Nat} {P : List Int} (h1 : i.op ≠ 18) (h2 : i.op ≠ 19) : nx i at' P = at' + 1 := by
 unfold nx
 rw [if_neg h1,if_neg (fun x => h2 x.1)]
theorem RDo.makes {MB PB AO : Nat} {av : Value} {P : List Int} {ps : List (Nat × List Int)} {i : Ix} {at' : Nat} {w w' : World} {n v : Int} {kd : Nat} (hn : n = (at' : Int) + 1) (h1 : 1 ≤ i.op) (h16 : i.op ≤ 16) (hv : made i P (ars ps) = v) (hd : i.d = (kd : Int)) (h : RM w MB PB AO av P ps) (hb : Below w.heap.size w w') : RDo MB PB AO av P ps i at' w (.returned (.int .i64 n)) (w'.setCell ⟨PB,kd,none⟩ (.int .i64 v)) := by
 refine ⟨by rw [hn,if_neg (by omega),nx_on (by omega) (by omega)]; rfl,ps,?_,?_,rfl,(Fs.of_below hb).set (by simp) _ _⟩
 ·unfold pl
  rw [if_pos (by unfold mks; rw [decide_eq_true h1,decide_eq_true h16]; rfl),hv,hd,Int.toNat_natCast]
  exact (h.below hb).setP kd v
 ·unfold arr
  rw [if_neg (fun x => by omega)]
theorem set_set (P : List Int) (k : Nat) (u v : Int) : (P.set k u).set k v = P.set k v := by
 apply List.ext_getElem?
 intro j
 simp only [List.getElem?_set,List.length_set]
 split <;> rfl
theorem RDo.laid {MB PB AO : Nat} {av : Value} {P : List Int} {ps : List (Nat × List Int)} {i : Ix} {at' : Nat} {w W : World} {n v : Int} {kd : Nat} (hn : n = (at' : Int) + 1) (h1 : 1 ≤ i.op) (h16 : i.op ≤ 16) (hv : made i P (ars ps) = v) (hd : i.d = (kd : Int)) (h : RM W MB PB AO av (P.set kd v) ps) (hf : Fs (PB :: ps.map Prod.fst) w W) : RDo MB PB AO av P ps i at' w (.returned (.int .i64 n)) W := by
 refine ⟨by rw [hn,if_neg (by omega),nx_on (by omega) (by omega)]; rfl,ps,?_,?_,rfl,hf⟩
 ·unfold pl
  rw [if_pos (by unfold mks; rw [decide_eq_true h1,decide_eq_true h16]; rfl),hv,hd,Int.toNat_natCast]
  exact h
 ·unfold arr
  rw [if_neg (fun x => by omega)]
theorem RDo.makes2 {MB PB AO : Nat} {av : Value} {P : List Int} {ps : List (Nat × List Int)} {i : Ix} {at' : Nat} {w W : World} {n u v : Int} {kd : Nat} (hn : n = (at' : Int) + 1) (h1 : 1 ≤ i.op) (h16 : i.op ≤ 16) (hv : made i P (ars ps) = v) (hd : i.d = (kd : Int)) (h : RM W MB PB AO av (P.set kd u) ps) (hf : Fs (PB :: ps.map Prod.fst) w W) : RDo MB PB AO av P ps i at' w (.returned (.int .i64 n)) (W.setCell ⟨PB,kd,none⟩ (.int .i64 v)) := by
 refine .laid hn h1 h16 hv hd ?_ (hf.set (by simp) _ _)
 have := h.setP kd v
 rw [set_set] at this
 exact this
theorem RDo.stores {MB PB AO : Nat} {av : Value} {P : List Int} {ps : List (Nat × List Int)} {i : Ix} {at' : Nat} {w w' : World} {n v : Int} {kb gb ka : Nat} {row : List Int} (hn : n = (at' : Int) + 1) (ho : i.op = 17) (hb' : i.b = (kb : Int)) (hg : ps[kb]? = some (gb,row)) (hrow : rowA (ars ps) (kb : Int) = row) (ha : gI P i.a = (ka : Int)) (hlt : ka < row.length) (hv : gI P i.d = v) (h : RM w MB PB AO av P ps) (hb : Below w.heap.size w w') : RDo MB PB AO av P ps i at' w (.returned (.int .i64 n)) (w'.setCell ⟨gb,ka,none⟩ (.int .i64 v)) := by
 refine ⟨by rw [hn,if_neg (by omega),nx_on (by omega) (by omega)]; rfl,ps.set kb (gb,row.set ka v),?_,?_,fst_set hg,(Fs.of_below hb).set (by rw [List.mem_cons]; exact .inr (List.mem_map.2 ⟨_,List.mem_of_getElem? hg,rfl⟩)) _ _⟩
 ·unfold pl
  rw [if_neg (by unfold mks; rw [ho]; simp)]
  exact (h.below hb).setA hg ka hlt v
 ·unfold arr
  rw [hb',hrow,ha,hv,if_pos ⟨ho,by omega⟩,ars_set,Int.toNat_natCast,Int.toNat_natCast]
end Go.Proofs.Ytfbmkcogkiejnaa.Fl
