/- Laid together: HgSim, FrSame, FlSame, FlTells. -/
import Derived.Test.YtfbmkcogkiejnaaGr49
import Derived.Test.YtfbmkcogkiejnaaHgArith
import Derived.Test.YtfbmkcogkiejnaaGr28
import Derived.Test.YtfbmkcogkiejnaaLfRfit
import Derived.Test.YtfbmkcogkiejnaaFrRun
import Derived.Test.YtfbmkcogkiejnaaGr26
import Derived.Test.YtfbmkcogkiejnaaGr19
namespace Go.Proofs.Ytfbmkcogkiejnaa.Hg
set_option linter.unusedVariables false
set_option linter.unusedSimpArgs false
open Lg Fl
def SegAt (code : List Ix) (q : Nat) (D : List Ix) : Prop := ∀ (t : Nat) (x : Ix),D[t]? = some x → code[q + t]? = some x
def BlkD (f : Fx) (i : Ix) (n : Nat) (D : List Ix) : Prop := D = [i] ∨ ∃ C op a b,ways i.op = true ∧ D = C ++ [⟨op,i.d,a,b,0,0⟩] ∧ (1 ≤ op ∧ op ≤ 7) ∧ (∀ x ∈ C,(x.op = 14 ∨ 1 ≤ x.op ∧ x.op ≤ 7) ∧ (f.sec.length : Int) ≤ x.d) ∧
 ∀ P,Wds P → n ≤ P.length → Wds (runC C P) ∧ Wd.two op (gI (runC C P) a) (gI (runC C P) b) = vOther i P
theorem BlkD.mono {f : Fx} {i : Ix} {n k : Nat} {D : List Ix} (h : BlkD f i n D) (hk : n ≤ k) : BlkD f i k D := by
 rcases h with h | ⟨C,op,a,b,h1,h2,h3,h4,h5⟩
 ·exact .inl h
 ·exact .inr ⟨C,op,a,b,h1,h2,h3,h4,fun P hP hl => h5 P hP (by omega)⟩
def ends8 (s : S8) : List Int := s.st ++ [(s.m.code.length : Int)]
structure Inv2 (f : Fx) (j : Nat) (s : S8) : Prop where
 len : s.st.length = j
 zero : (ends8 s)[0]? = some 0
 blk : ∀ (k : Nat) (i : Ix),k < j → f.code[k]? = some i → ∃ (q : Nat) (D : List Ix),s.st[k]? = some (q : Int) ∧ SegAt s.m.code q D ∧ (ends8 s)[k + 1]? = some ((q + D.length : Nat) : Int) ∧ BlkD f i s.m.sec.length D
theorem Inv2.zero' (f : Fx) : Inv2 f 0 (st0 f) := ⟨rfl,rfl,fun k i h => by omega⟩
theorem seg_app {code D : List Ix} {q : Nat} (h : SegAt code q D) (E : List Ix) : SegAt (code ++ E) q D := fun t x hx => by
 have := h t x hx
 rw [List.getElem?_append_left (List.getElem?_eq_some_iff.1 this).1]; exact this
theorem Inv2.step {f : Fx} {T : Nat → Int} {j : Nat} {s : S8} (ho : Ok8 f T j s) (h : Inv2 f j s) {i : Ix} (hi : f.code[j]? = some i) (hf : Fine f j i) (hn : (legalM T i s.m).shown = false) (hl : ¬ 12000 < (legalM T i s.m).code.length) : Inv2 f (j + 1) (stp8 T f.sec.length i s) := by
 have e : stp8 T f.sec.length i s = ⟨legalM T i s.m,s.st ++ [(s.m.code.length : Int)],s.much⟩ := by unfold stp8; split; rename_i h'; exact absurd h' hl; rfl
 rw [e]
 obtain ⟨S0,hS0,_⟩ := ho.sec
 have hD : ∃ D,(legalM T i s.m).code = s.m.code ++ D ∧ s.m.sec.length ≤ (legalM T i s.m).sec.length ∧ BlkD f i (legalM T i s.m).sec.length D := by
  rcases legal_two ho.g (fun p hp => ho.fits hf p hp) hn with ⟨e,_⟩ | ⟨C,op,a,b,hw⟩
  ·rw [e]; exact ⟨[i],rfl,Nat.le_refl _,.inl rfl⟩
  ·obtain ⟨S,hS⟩ := hw.sec
   refine ⟨_,hw.code,by rw [hS,List.length_append]; omega,.inr ⟨C,op,a,b,hw.w,rfl,hw.o,fun x hx => ?_,fun P hP hlen => ⟨runC_wds (fun x hx => (hw.each x hx).1) hP,hw.val P hP hlen⟩⟩⟩
   obtain ⟨q1,q2,_⟩ := hw.each x hx
   refine ⟨by rcases q1.op with h | h <;> omega,?_⟩
   rw [hS0,List.length_append,List.length_map] at q2
   omega
 obtain ⟨D,hc,hsl,hb⟩ := hD
 have hen : ends8 (⟨legalM T i s.m,s.st ++ [(s.m.code.length : Int)],s.much⟩ : S8) = ends8 s ++ [((s.m.code.length + D.length : Nat) : Int)] := by
  unfold ends8
  dsimp only
  rw [hc,List.length_append]
 have hel : (ends8 s).length = j + 1 := by unfold ends8; rw [List.length_append,h.len]; rfl
 refine ⟨by dsimp only; rw [List.length_append,h.len]; rfl,?_,fun k i' hk hi' => ?_⟩
 ·rw [hen,List.getElem?_append_left (by omega)]; exact h.zero
 ·by_cases hkj : k < j
  ·obtain ⟨q,D',h1,h2,h3,h4⟩ := h.blk k i' hkj hi'
   refine ⟨q,D',?_,?_,?_,?_⟩
   ·dsimp only
    rw [List.getElem?_append_left (List.getElem?_eq_some_iff.1 h1).1]; exact h1
   ·dsimp only; rw [hc]; exact seg_app h2 D
   ·rw [hen,List.getElem?_append_left (List.getElem?_eq_some_iff.1 h3).1]; exact h3
   ·exact h4.mono hsl
  ·have hke : k = j := by omega
   subst hke
   rw [hi] at hi'
   cases hi'
   refine ⟨s.m.code.length,D,?_,?_,?_,hb⟩
   ·dsimp only
    rw [List.getElem?_append_right (by rw [h.len]; exact Nat.le_refl _),h.len,Nat.sub_self]; rfl
   ·dsimp only
    rw [hc]
    intro t x hx
    rw [List.getElem?_append_right (by omega),Nat.add_sub_cancel_left]; exact hx
   ·rw [hen,List.getElem?_append_right (by omega),hel,Nat.sub_self]; rfl
theorem inv2_run {f : Fx} {T : Nat → Int} (hR : Right f) (hT : TabR T) {s' : S8} (hr : run8 f T = some s') (hm : s'.much = false) : Inv2 f f.code.length s' := by
 have key : ∀ n j s,f.code.length - j = n → j ≤ f.code.length → Ok8 f T j s → Inv2 f j s → Inv2 f f.code.length s' := by
  intro n
  induction n with
  | zero =>
   intro j s hn hj ho h
   have e : j = f.code.length := by omega
   subst e
   have hg := ho.go
   rw [List.drop_eq_nil_of_le (Nat.le_refl _),hr] at hg
   have : s = s' := Option.some.inj hg
   rw [← this]; exact h
  | succ n ih =>
   intro j s hn hj ho h
   have hi : f.code[j]? = some f.code[j] := List.getElem?_eq_getElem (by omega)
   generalize f.code[j] = i at hi
   have hf := fine_of (hR.each j i hi)
   cases hsh : (legalM T i s.m).shown with
   | true => rw [ho.none hi hsh] at hr; cases hr
   | false =>
    by_cases hl : 12000 < (legalM T i s.m).code.length
    ·exfalso
     have hok := ho.step hi hf hsh
     have hg := hok.go
     rw [hr] at hg
     have := go8_much hg (by unfold stp8; rw [if_pos hl])
     rw [hm] at this; cases this
    ·exact ih (j + 1) _ (by omega) (by omega) (ho.step hi hf hsh) (h.step ho hi hf hsh hl)
 exact key f.code.length 0 (st0 f) (Nat.sub_zero _) (Nat.zero_le _) (Ok8.zero f T) (Inv2.zero' f)
theorem Ag.set {n : Nat} {P P' : List Int} (h : Ag n P P') {d v : Int} (hd : 0 ≤ d) (h1 : d < P.length) (h2 : d < P'.length) : Ag n (P.set d.toNat v) (P'.set d.toNat v) := fun p p0 p1 => by
 by_cases e : p = d
 ·subst e
  rw [gI_set_eq ⟨hd,h1⟩,gI_set_eq ⟨hd,h2⟩]
 ·rw [gI_set_ne p0 hd e,gI_set_ne p0 hd e]; exact h p p0 p1
theorem led_none {st : List Int} {x : Ix} (h : ¬ (x.op = 18 ∨ x.op = 19)) : led st x = x := by unfold led; rw [if_neg h]
theorem runs_seg {code : List Ix} {T : Nat → Int} {A : List (List Int)} {e : En} : ∀ {C : List Ix} {q : Nat} {P : List Int} {ls : List Lk},SegAt code q C → (∀ x ∈ C,x.op = 14 ∨ 1 ≤ x.op ∧ x.op ≤ 7) → Runs code T (q + C.length) (runC C P) A ls e → ∃ ls',Runs code T q P A ls' e
 | [],q,P,ls,_,_,h => ⟨ls,h⟩
 | x :: C,q,P,ls,hs,ho,h => by
  have hx := ho x (by simp)
  have h1 : SegAt code (q + 1) C := fun t y hy => by rw [show q + 1 + t = q + (t + 1) by omega]; exact hs (t + 1) y (by simpa using hy)
  rw [List.length_cons,show q + (C.length + 1) = q + 1 + C.length by omega,runC_cons] at h
  obtain ⟨ls',h2⟩ := runs_seg h1 (fun y hy => ho y (by simp [hy])) h
  have hm : mks x = true := by unfold mks; rw [Bool.and_eq_true,decide_eq_true_eq,decide_eq_true_eq]; omega
  have e1 : nx x q P = q + 1 := by unfold nx; rw [if_neg (by omega),if_neg (by omega)]
  have e2 : pl x P A = run1 x P := by
   unfold pl run1
   rw [if_pos hm]
   have : made x P A = made x P [] := by
    unfold made
    rcases hx with h | h
    ·rw [if_neg (by omega),if_pos h,if_neg (by omega),if_pos h]
    ·rw [if_neg (by omega),if_neg (by omega),if_neg (by omega),if_neg (by omega),if_neg (by omega),if_neg (by omega),if_neg (by omega),if_neg (by omega)]
   rw [this]
  have e3 : arr x P A = A := by unfold arr; rw [if_neg (by omega)]
  refine ⟨_,Runs.step q P A x ls' e (hs 0 x rfl) (by omega) (by omega) ?_⟩
  rw [e1,e2,e3]; exact h2
theorem made_same {i : Ix} {P Q : List Int} {A : List (List Int)} (ho : i.op ≤ 16) (h1 : 1 ≤ i.op) (h : ∀ p ∈ rds i,gI Q p = gI P p) : made i Q A = made i P A := by
 unfold made
 by_cases h13 : i.op = 13
 ·have hr : rds i = [i.a,i.b,i.c] := by unfold rds; rw [if_neg (by omega),if_pos h13]
  rw [if_pos h13,if_pos h13,h i.a (by rw [hr]; simp),h i.b (by rw [hr]; simp),h i.c (by rw [hr]; simp)]
 rw [if_neg h13,if_neg h13]
 by_cases h14 : i.op = 14
 ·rw [if_pos h14,if_pos h14]
 rw [if_neg h14,if_neg h14]
 by_cases h15 : i.op = 15 ∨ i.op = 16
 ·have hr : rds i = [i.a] := by unfold rds; rw [if_neg (by omega),if_neg h13,if_neg (by omega),if_pos (by omega)]
  have ha := h i.a (by rw [hr]; simp)
  rw [ha]
  rcases h15 with e | e
  ·rw [if_pos e,if_pos e]
  ·rw [if_neg (show ¬ i.op = 15 by omega),if_neg (show ¬ i.op = 15 by omega),if_pos e,if_pos e]
 ·have hr : rds i = [i.a,i.b] := by unfold rds; rw [if_pos (by omega)]
  rw [if_neg (by omega),if_neg (by omega),if_neg (by omega),if_neg (by omega),h i.a (by rw [hr]; simp),h i.b (by rw [hr]; simp)]
theorem sim {f : Fx} {T : Nat → Int} {s : S8} (hR : Right f) (h1 : Inv f T f.code.length s) (h2 : Inv2 f f.code.length s) : ∀ {j : Nat} {P : List Int} {A : List (List Int)} {ls : List Lk} {e : En},Runs f.code T j P A ls e → GP f P → GA f.arrs A → ∀ (P' : List Int) (q : Nat),s.st[j]? = some (q : Int) → P'.length = s.m.sec.length → Wds P' → Ag f.sec.length P P' → ∃ ls',Runs (mX f s).code T q P' A ls' e := by
 have hseg : ∀ {q : Nat} {D : List Ix},SegAt s.m.code q D → ∀ (t : Nat) (x : Ix),D[t]? = some x → (mX f s).code[q + t]? = some (led s.st x) := fun h t x hx => by
  unfold mX leadM
  dsimp only
  rw [List.getElem?_map,h t x hx]; rfl
 have hnl : f.sec.length ≤ s.m.sec.length := by
  obtain ⟨S,hS,_⟩ := h1.ok.sec
  rw [hS,List.length_append,List.length_map]; omega
 intro j P A ls e hr
 induction hr with
 | ret at' P A i hi ho =>
  intro hP hA P' q hq hl hw hag
  have hlt := (List.getElem?_eq_some_iff.1 hi).1
  have hf := fine_of (hR.each at' i hi)
  obtain ⟨q',D,b1,b2,b3,b4⟩ := h2.blk at' i hlt hi
  have eq : q = q' := by rw [hq] at b1; exact Int.ofNat.inj (Option.some.inj b1)
  subst eq
  rcases b4 with e | ⟨C,op,a,b,c1,_⟩
  ·subst e
   have hx := hseg b2 0 i rfl
   rw [Nat.add_zero,led_none (by omega)] at hx
   have ha := hf.r i.a (by unfold rds; rw [if_neg (by omega),if_neg (by omega),if_neg (by omega),if_pos (by omega)]; simp)
   have := Runs.ret (T:=T) q P' A i hx ho
   rw [hag i.a ha.1 ha.2] at this
   exact ⟨_,this⟩
  ·exfalso
   unfold ways at c1; rw [Bool.and_eq_true,decide_eq_true_eq,decide_eq_true_eq] at c1; omega
 | trap at' P A i hi ho =>
  intro hP hA P' q hq hl hw hag
  have hlt := (List.getElem?_eq_some_iff.1 hi).1
  obtain ⟨q',D,b1,b2,b3,b4⟩ := h2.blk at' i hlt hi
  have eq : q = q' := by rw [hq] at b1; exact Int.ofNat.inj (Option.some.inj b1)
  subst eq
  rcases b4 with e | ⟨C,op,a,b,c1,_⟩
  ·subst e
   have hx := hseg b2 0 i rfl
   rw [Nat.add_zero,led_none (by omega)] at hx
   exact ⟨_,Runs.trap (T:=T) q P' A i hx ho⟩
  ·exfalso
   unfold ways at c1; rw [Bool.and_eq_true,decide_eq_true_eq,decide_eq_true_eq] at c1; omega
 | step at' P A i ls e hi h20 h21 hrun ih =>
  intro hP hA P' q hq hl hw hag
  have hlt := (List.getElem?_eq_some_iff.1 hi).1
  have hf := fine_of (hR.each at' i hi)
  have hnx := nx_lt (P:=P) hR hi h20 h21
  have hP2 := pl_good (A:=A) hf hP hA
  have hA2 := arr_good (P:=P) hf hP hA
  obtain ⟨q',D,b1,b2,b3,b4⟩ := h2.blk at' i hlt hi
  have eq : q = q' := by rw [hq] at b1; exact Int.ofNat.inj (Option.some.inj b1)
  subst eq
  have hreads : ∀ p ∈ rds i,gI P' p = gI P p := fun p hp => hag p (hf.r p hp).1 (hf.r p hp).2
  have hnext : ∀ (k : Nat),at' + 1 < f.code.length → D.length = k → s.st[at' + 1]? = some ((q + k : Nat) : Int) := fun k hk hd => by
   unfold ends8 at b3
   rw [List.getElem?_append_left (by rw [h2.len]; exact hk),hd] at b3; exact b3
  rcases b4 with e | ⟨C,op,a,b,c1,c2,c3,c4,c5⟩
  ·subst e
   have hx := hseg b2 0 i rfl
   rw [Nat.add_zero] at hx
   obtain ⟨e1,e2,e3,e4,e5⟩ := led_op s.st i
   have epl : Ag f.sec.length (pl i P A) (pl (led s.st i) P' A) ∧ Wds (pl (led s.st i) P' A) ∧ (pl (led s.st i) P' A).length = P'.length := by
    unfold pl
    rw [led_mks,e2]
    cases hm : mks i with
    | false => exact ⟨hag,hw,rfl⟩
    | true =>
     rw [if_pos rfl,if_pos rfl]
     have hop : 1 ≤ i.op ∧ i.op ≤ 16 := by unfold mks at hm; rw [Bool.and_eq_true,decide_eq_true_eq,decide_eq_true_eq] at hm; exact hm
     rw [led_none (by omega),made_same hop.2 hop.1 hreads]
     have hd := hf.d hm
     refine ⟨hag.set hd.1 (by rw [hP.len]; exact hd.2) (by omega),fun v hv => ?_,by rw [List.length_set]⟩
     rcases List.mem_or_eq_of_mem_set hv with h | h
     ·exact hw v h
     ·rw [h]; exact made_word hf hP hA
   have earr : arr (led s.st i) P' A = arr i P A := by
    unfold arr
    rw [e1,e2,e3]
    have eb : (led s.st i).b = i.b := e4
    rw [eb]
    by_cases h17 : i.op = 17
    ·have hr' : rds i = [i.a,i.d] := by unfold rds; rw [if_neg (by omega),if_neg (by omega),if_pos h17]
     rw [hreads i.a (by rw [hr']; simp),hreads i.d (by rw [hr']; simp)]
    ·rw [if_neg (by omega),if_neg (by omega)]
   have enx : s.st[nx i at' P]? = some ((nx (led s.st i) q P' : Nat) : Int) := by
    have hgo : ∀ k : Int,(at' : Int) < k → k < f.code.length → s.st[k.toNat]? = some (((gI s.st k).toNat : Nat) : Int) := fun k k0 k1 => by
     have hk : s.st[k.toNat]? = some (gI s.st k) := by
      unfold gI
      rw [List.getD_eq_getElem?_getD,List.getElem?_eq_getElem (by rw [h2.len]; omega)]; rfl
     rw [hk]
     have := (h1.st _ _ hk).1
     rw [Int.toNat_of_nonneg this]
    unfold nx at hnx ⊢
    rw [e1,e3]
    by_cases h18 : i.op = 18
    ·have hj := hf.j (.inl h18)
     rw [if_pos h18,if_pos h18]
     rw [hgo i.imm hj.1 hj.2]
     unfold led; rw [if_pos (.inl h18)]
    ·rw [if_neg h18] at hnx ⊢
     rw [if_neg h18]
     by_cases h19 : i.op = 19
     ·have hj := hf.j (.inr h19)
      have hr' : rds i = [i.a] := by unfold rds; rw [if_neg (by omega),if_neg (by omega),if_neg (by omega),if_pos (by omega)]
      rw [hreads i.a (by rw [hr']; simp)]
      by_cases hz : gI P i.a = 0
      ·rw [if_pos ⟨h19,hz⟩,if_pos ⟨h19,hz⟩,hgo i.imm hj.1 hj.2]
       unfold led; rw [if_pos (.inr h19)]
      ·rw [if_neg (fun h => hz h.2)] at hnx ⊢
       rw [if_neg (fun h => hz h.2)]
       exact hnext 1 hnx.2 rfl
     ·rw [if_neg (fun h => h19 h.1)] at hnx ⊢
      rw [if_neg (fun h => h19 h.1)]
      exact hnext 1 hnx.2 rfl
   obtain ⟨ls',hr'⟩ := ih hP2 hA2 (pl (led s.st i) P' A) _ enx (by rw [epl.2.2]; exact hl) epl.2.1 epl.1
   refine ⟨_,Runs.step q P' A (led s.st i) ls' e hx (by rw [e1]; exact h20) (by rw [e1]; exact h21) ?_⟩
   rw [earr]; exact hr'
  ·have hop : 6 ≤ i.op ∧ i.op ≤ 13 := by unfold ways at c1; rw [Bool.and_eq_true,decide_eq_true_eq,decide_eq_true_eq] at c1; exact c1
   have hm : mks i = true := by unfold mks; rw [Bool.and_eq_true,decide_eq_true_eq,decide_eq_true_eq]; omega
   have hd := hf.d hm
   have en : nx i at' P = at' + 1 := by unfold nx; rw [if_neg (by omega),if_neg (by omega)]
   have ep : pl i P A = P.set i.d.toNat (made i P A) := by unfold pl; rw [if_pos hm]
   have ea : arr i P A = A := by unfold arr; rw [if_neg (by omega)]
   rw [en] at hnx
   obtain ⟨hw2,hv⟩ := c5 P' hw (by omega)
   have hval : Wd.two op (gI (runC C P') a) (gI (runC C P') b) = made i P A := by
    rw [hv,other_made A c1 hw,made_same (by omega) (by omega) hreads]
   have hag2 : Ag f.sec.length P (runC C P') := hag.trans (runC_ag fun x hx => (c4 x hx).2)
   have hlen2 : (runC C P').length = P'.length := runC_len C P'
   have hDl : D.length = C.length + 1 := by rw [c2,List.length_append]; rfl
   have hnx2 := hnext (C.length + 1) hnx.2 hDl
   rw [en,ep,ea] at ih
   rw [ep] at hP2
   rw [ea] at hA2
   obtain ⟨ls',hr'⟩ := ih hP2 hA2 ((runC C P').set i.d.toNat (made i P A)) (q + (C.length + 1)) hnx2 (by rw [List.length_set,hlen2]; exact hl)
    (fun v hv' => by
     rcases List.mem_or_eq_of_mem_set hv' with h | h
     ·exact hw2 v h
     ·rw [h]; exact made_word hf hP hA)
    (hag2.set hd.1 (by rw [hP.len]; exact hd.2) (by omega))
   have hlast := hseg b2 C.length ⟨op,i.d,a,b,0,0⟩ (by rw [c2]; simp)
   rw [led_none (by show ¬ (op = 18 ∨ op = 19); omega)] at hlast
   have hstep : Runs (mX f s).code T (q + C.length) (runC C P') A (⟨q + C.length,op,vals T ⟨op,i.d,a,b,0,0⟩ (runC C P')⟩ :: ls') e := by
    refine Runs.step (q + C.length) (runC C P') A ⟨op,i.d,a,b,0,0⟩ ls' e hlast (by show op ≠ 20; omega) (by show op ≠ 21; omega) ?_
    have f1 : nx ⟨op,i.d,a,b,0,0⟩ (q + C.length) (runC C P') = q + (C.length + 1) := by unfold nx; rw [if_neg (by show ¬ op = 18; omega),if_neg (by show ¬ (op = 19 ∧ _); omega)]; omega
    have f2 : pl ⟨op,i.d,a,b,0,0⟩ (runC C P') A = (runC C P').set i.d.toNat (made i P A) := by
     unfold pl
     rw [if_pos (by unfold mks; rw [Bool.and_eq_true,decide_eq_true_eq,decide_eq_true_eq]; show 1 ≤ op ∧ op ≤ 16; omega)]
     have : made ⟨op,i.d,a,b,0,0⟩ (runC C P') A = Wd.two op (gI (runC C P') a) (gI (runC C P') b) := by
      unfold made
      rw [if_neg (by show ¬ op = 13; omega),if_neg (by show ¬ op = 14; omega),if_neg (by show ¬ op = 15; omega),if_neg (by show ¬ op = 16; omega)]
     rw [this,hval]
    have f3 : arr ⟨op,i.d,a,b,0,0⟩ (runC C P') A = A := by unfold arr; rw [if_neg (by show ¬ (op = 17 ∧ _); omega)]
    rw [f1,f2,f3]; exact hr'
   refine runs_seg (C:=C) (fun t x hx => ?_) (fun x hx => (c4 x hx).1) hstep
   have hxm := (c4 x (List.mem_of_getElem? hx)).1
   have := hseg b2 t x (by rw [c2,List.getElem?_append_left (List.getElem?_eq_some_iff.1 hx).1]; exact hx)
   rw [led_none (by omega)] at this; exact this
theorem runs_det {code : List Ix} {T : Nat → Int} {at' : Nat} {P : List Int} {A : List (List Int)} {ls : List Lk} {e : En} (h : Runs code T at' P A ls e) : ∀ {ls' : List Lk} {e' : En},Runs code T at' P A ls' e' → e' = e := by
 induction h with
 | ret at' P A i hi ho =>
  intro ls' e' h'
  cases h' with
  | ret _ _ _ i' hi' ho' => rw [hi] at hi'; cases hi'; rfl
  | trap _ _ _ i' hi' ho' => rw [hi] at hi'; cases hi'; omega
  | step _ _ _ i' _ _ hi' h0 h1 _ => rw [hi] at hi'; cases hi'; exact absurd ho h0
 | trap at' P A i hi ho =>
  intro ls' e' h'
  cases h' with
  | ret _ _ _ i' hi' ho' => rw [hi] at hi'; cases hi'; omega
  | trap _ _ _ i' hi' ho' => rfl
  | step _ _ _ i' _ _ hi' h0 h1 _ => rw [hi] at hi'; cases hi'; exact absurd ho h1
 | step at' P A i ls e hi h0 h1 _ ih =>
  intro ls' e' h'
  cases h' with
  | ret _ _ _ i' hi' ho' => rw [hi] at hi'; cases hi'; exact absurd ho' h0
  | trap _ _ _ i' hi' ho' => rw [hi] at hi'; cases hi'; exact absurd ho' h1
  | step _ _ _ i' _ _ hi' _ _ hr => rw [hi] at hi'; cases hi'; exact ih hr
theorem same_end {f : Fx} {T : Nat → Int} {s : S8} (hR : Right f) (hT : TabR T) (hr : run8 f T = some s) (hm : s.much = false) {ws : List Int} {aa : List (List Int)} (hW : ws.length ≤ f.sec.length) (hw : ∀ x ∈ ws,isW x) (hA : GA f.arrs aa) {ls ls' : List Lk} {e e' : En}
  (h : Runs f.code T 0 (firstP f.sec.length ws) aa ls e) (h' : Runs (mX f s).code T 0 (firstP (mX f s).sec.length ws) aa ls' e') : e' = e := by
 have i1 := inv_run hR hT hr hm
 have i2 := inv2_run hR hT hr hm
 have hsl : (mX f s).sec.length = s.m.sec.length := by unfold mX is1; dsimp only; rw [List.length_map]
 obtain ⟨S,hS,_⟩ := i1.ok.sec
 have hnl : f.sec.length ≤ s.m.sec.length := by rw [hS,List.length_append,List.length_map]; omega
 have hwz : ∀ n,Wds (firstP n ws) := fun n x hx => by
  unfold firstP at hx
  rcases List.mem_append.1 hx with hx | hx
  ·exact hw x hx
  ·rw [(List.mem_replicate.1 hx).2]; exact isW_zero
 have hag : Ag f.sec.length (firstP f.sec.length ws) (firstP (mX f s).sec.length ws) := fun p h0 h1 => by
  unfold firstP
  by_cases hp : p < ws.length
  ·rw [gI_app _ _ _ ⟨h0,hp⟩,gI_app _ _ _ ⟨h0,hp⟩]
  ·have hz : ∀ n,gI (ws ++ List.replicate n 0) p = 0 := fun n => by
    unfold gI
    rw [List.getD_eq_getElem?_getD,List.getElem?_append_right (by omega),List.getElem?_replicate]
    split <;> rfl
   rw [hz,hz]
 have hst : s.st[0]? = some ((0 : Nat) : Int) := by
  have hz := i2.zero
  unfold ends8 at hz
  rw [List.getElem?_append_left (by rw [i2.len]; exact hR.len1)] at hz
  exact hz
 obtain ⟨ls2,h2⟩ := sim hR i1 i2 h ⟨firstP_len hW,hwz _⟩ hA (firstP (mX f s).sec.length ws) 0 hst (by rw [firstP_len (by rw [hsl]; omega),hsl]) (hwz _) hag
 exact runs_det h2 h'
end Go.Proofs.Ytfbmkcogkiejnaa.Hg
namespace Go.Proofs.Ytfbmkcogkiejnaa.Fl
set_option maxHeartbeats 32000000
set_option maxRecDepth 100000
set_option linter.unusedVariables false
set_option linter.unusedSimpArgs false
open Go.ChangeShapes Go.WideShapes Go.ChangeAt Go.RowKit Lg Lr
theorem sameArrays_any (B : Nat) (aa : List (List Int)) (v1 v2 : Value) (w : World) (hB : B ≤ w.heap.size) (h1 : ArrsIs w B aa v1) (h2 : ArrsIs w B aa v2) :
  Calls Try.prog 46 #[v1,v2] w fun r w' => r = .returned (.bool true) ∧ Below w.heap.size w w' := by
 have H1 : Hid (∀ W,Below w.heap.size w W → ArrsIs W B aa v1) := fun W hW => h1.below (hW.mono hB)
 have H2 : Hid (∀ W,Below w.heap.size w W → ArrsIs W B aa v2) := fun W hW => h2.below (hW.mono hB)
 obtain ⟨p1,n1,c1,rfl,hl1,_,hb1,_⟩ := h1
 obtain ⟨p2,n2,c2,rfl,hl2,_,_,_⟩ := h2
 obtain rfl : n2 = n1 := by omega
 have HL := keep hl1
 have HBB := keep hB
 clear hl1 hl2 hB
 go_enter Try.func46,Try.ntmps46
 go_wp2
 go_loopw [13] (fun i wx => ∃ j : Nat,j ≤ n2 ∧ i = .int .i64 (j : Int) ∧ Below w.heap.size w wx) (fun i _ => n2 - (intOf i).toNat)
 case atStart => exact ⟨0,by omega,rfl,Below.refl _ _⟩
 case round =>
  obtain ⟨j,hjn,rfl,hbx⟩ := hrel
  have HX := keep hbx
  clear hbx
  by_cases hjl : j < n2
  ·have d1 : decide ((j : Int) < (n2 : Int)) = true := decide_eq_true (by omega)
   have hjz : (j : Int) < (n2 : Int) := by omega
   have hj0 : (0 : Int) ≤ (j : Int) := by omega
   have hwr : IntKind.i64.wrap ((j : Int) + 1) = (j : Int) + 1 := by rw [IntKind.wrap_i64]; omega
   obtain ⟨l,hl⟩ : ∃ l,aa[j]? = some l := ⟨_,List.getElem?_eq_getElem (by rw [HL.out]; exact hjl)⟩
   obtain ⟨_,_,_,e1,_,_,_,q1⟩ := H1.out wr HX.out
   cases e1
   obtain ⟨g,o,s,rfl,hg,hs,hi⟩ := q1 j l hl
   obtain ⟨_,_,_,e2,_,_,_,q2⟩ := H2.out wr HX.out
   cases e2
   obtain ⟨g',o',s',rfl,hg',hs',hi'⟩ := q2 j l hl
   obtain ⟨pa,na,ca,rfl⟩ := hi.slice
   obtain ⟨pb,nb,cb,rfl⟩ := hi'.slice
   have HSS : Hid (∀ W',Below wr.heap.size wr W' → W'.cell? ⟨g,o + j,none⟩ = some (.slice pa na ca) ∧ W'.cell? ⟨g',o' + j,none⟩ = some (.slice pb nb cb)) := fun W' hW => ⟨by rw [cell_below hW (by have := HX.out.size; have := HBB.out; omega)]; exact hs,by rw [cell_below hW (by have := HX.out.size; have := HBB.out; omega)]; exact hs'⟩
   have HC := keep (fun W (hW : Below wr.heap.size wr W) => sameInts_any B l l _ _ W (by have := HX.out.size; have := hW.size; have := HBB.out; omega) (hi.below (hW.mono (by have := HX.out.size; have := HBB.out; omega))) (hi'.below (hW.mono (by have := HX.out.size; have := HBB.out; omega))))
   clear hl q1 q2 hs hs' hi hi' hg hg'
   go_wp2_with fail
   refine wp_region_noPanic ?_
   refine Ord.wpM_begin (fun W' : World => W'.cell? ⟨g,o + j,none⟩ = some (.slice pa na ca) ∧ W'.cell? ⟨g',o' + j,none⟩ = some (.slice pb nb cb)) [0,1,2,3,4,5,6,7,8,9] (by kernel_rfl) ?_
   have HD : Hid (Below wr.heap.size wr wr.drew) := Below.drew (Below.refl _ _)
   generalize wr.drew = wd at *
   have hS := HSS.out wd HD.out
   refine Ord.tk (i:=0) (v:=.slice (some ⟨g,o,none⟩) n2 c1) (hy:=Or.inl ⟨by rfl,by rintro W' ⟨q0,q1⟩; go_simp⟩) (hS:=hS) (h:=?_)
   try simp only [Act.put,Ord.t,Ord.z,Ord.s]
   refine Ord.tk (i:=1) (v:=.int .i64 (j : Int)) (hy:=Or.inl ⟨by rfl,by rintro W' ⟨q0,q1⟩; go_simp⟩) (hS:=hS) (h:=?_)
   try simp only [Act.put,Ord.t,Ord.z,Ord.s]
   refine Ord.tk (i:=2) (v:=.pointer (some ⟨g,o + j,none⟩)) (hy:=Or.inl ⟨by rfl,by rintro W' ⟨q0,q1⟩; go_simp⟩) (hS:=hS) (h:=?_)
   try simp only [Act.put,Ord.t,Ord.z,Ord.s]
   refine Ord.tk (i:=3) (v:=.slice pa na ca) (hy:=Or.inl ⟨by rfl,by rintro W' ⟨q0,q1⟩; go_simp⟩) (hS:=hS) (h:=?_)
   try simp only [Act.put,Ord.t,Ord.z,Ord.s]
   refine Ord.tk (i:=4) (v:=.slice (some ⟨g',o',none⟩) n2 c2) (hy:=Or.inl ⟨by rfl,by rintro W' ⟨q0,q1⟩; go_simp⟩) (hS:=hS) (h:=?_)
   try simp only [Act.put,Ord.t,Ord.z,Ord.s]
   refine Ord.tk (i:=5) (v:=.int .i64 (j : Int)) (hy:=Or.inl ⟨by rfl,by rintro W' ⟨q0,q1⟩; go_simp⟩) (hS:=hS) (h:=?_)
   try simp only [Act.put,Ord.t,Ord.z,Ord.s]
   refine Ord.tk (i:=6) (v:=.pointer (some ⟨g',o' + j,none⟩)) (hy:=Or.inl ⟨by rfl,by rintro W' ⟨q0,q1⟩; go_simp⟩) (hS:=hS) (h:=?_)
   try simp only [Act.put,Ord.t,Ord.z,Ord.s]
   refine Ord.tk (i:=7) (v:=.slice pb nb cb) (hy:=Or.inl ⟨by rfl,by rintro W' ⟨q0,q1⟩; go_simp⟩) (hS:=hS) (h:=?_)
   try simp only [Act.put,Ord.t,Ord.z,Ord.s]
   refine Ord.on (i:=8) (h:=fun K hK => ?_)
   go_simp
   refine (HC.out wd HD.out).mono ?_
   rintro r we ⟨q,rfl,hq,hbe⟩
   obtain rfl : q = true := hq.2 (by first | rfl | trivial)
   have HBe := keep (HD.out.trans (hbe.mono HD.out.size))
   clear hbe hq
   go_simp
   refine hK.out _ _ (fun _ => HSS.out we HBe.out) ?_
   clear hK K
   try simp only [Act.put,Ord.t,Ord.z,Ord.s]
   refine Ord.on (i:=9) (h:=fun K hK => ?_)
   go_simp
   refine hK.out _ _ (fun _ => HSS.out we HBe.out) ?_
   clear hK K
   try simp only [Act.put,Ord.t,Ord.z,Ord.s]
   refine Ord.wpM_done (by kernel_rfl) ?_ _
   refine NoPanic.normal ?_
   have HN : Hid (Below w.heap.size w we) := HX.out.trans (HBe.out.mono HX.out.size)
   clear HSS hS HC
   go_wp2
   go_roundw
   case rel => exact ⟨j + 1,by omega,by go_num,HN.out⟩
   case measure => simp [intOf]; omega
  ·have hje : j = n2 := by omega
   subst hje
   have dl : decide ((j : Int) < (j : Int)) = false := decide_eq_false (by omega)
   clear hjl
   go_wp2
   go_ret
   exact ⟨rfl,HX.out⟩
theorem sameEnded_any (B : Nat) (e : En) (v1 v2 : Value) (w : World) (hB : B ≤ w.heap.size) (h1 : ArrsIs w B e.arr v1) (h2 : ArrsIs w B e.arr v2) :
  Calls Try.prog 24 #[.agg #[.int .i64 e.word,.bool e.trap,v1],.agg #[.int .i64 e.word,.bool e.trap,v2]] w fun r w' => r = .returned (.bool true) ∧ Below w.heap.size w w' := by
 obtain ⟨wo,tr,aa⟩ := e
 dsimp only at h1 h2 ⊢
 have H1 := keep h1
 have H2 := keep h2
 obtain ⟨p1,n1,c1,rfl⟩ := h1.slice
 obtain ⟨p2,n2,c2,rfl⟩ := h2.slice
 obtain ⟨w1,hw1⟩ : ∃ y,w.alloc (.cells #[.int .i64 wo,.bool tr,.slice p1 n1 c1] 51) = y := ⟨_,rfl⟩
 obtain ⟨w2,hw2⟩ : ∃ y,w1.alloc (.cells #[.int .i64 wo,.bool tr,.slice p2 n2 c2] 51) = y := ⟨_,rfl⟩
 obtain ⟨E1,hE1⟩ : ∃ y,w.heap.size = y := ⟨_,rfl⟩
 obtain ⟨E2,hE2⟩ : ∃ y,w1.heap.size = y := ⟨_,rfl⟩
 have b1 : Below w.heap.size w w1 := by rw [← hw1]; exact (Below.refl _ _).alloc (Nat.le_refl _) _
 have b2 : Below w1.heap.size w1 w2 := by rw [← hw2]; exact (Below.refl _ _).alloc (Nat.le_refl _) _
 have b12 := b1.trans (b2.mono b1.size)
 have k1' : Bk w1 E1 [.int .i64 wo,.bool tr,.slice p1 n1 c1] 51 := by rw [← hw1,← hE1]; exact Bk.new _ _ _
 have k1 := k1'.fs (Fs.of_below (l:=[]) b2) (by simp)
 have k2 : Bk w2 E2 [.int .i64 wo,.bool tr,.slice p2 n2 c2] 51 := by rw [← hw2,← hE2]; exact Bk.new _ _ _
 have x0 := k1.cell 0 rfl
 have x1 := k1.cell 1 rfl
 have x2 := k1.cell 2 rfl
 have y0 := k2.cell 0 rfl
 have y1 := k2.cell 1 rfl
 have y2 := k2.cell 2 rfl
 have HC := keep (sameArrays_any B aa _ _ w2 (by have := b12.size; omega) (H1.out.below (b12.mono hB)) (H2.out.below (b12.mono hB)))
 have HB := keep b12
 have HW1 := keep hw1
 have HW2 := keep hw2
 have HE1 := keep hE1
 have HE2 := keep hE2
 clear hw1 hw2 hE1 hE2 b1 b2 b12 k1' k1 k2 h1 h2 H1 H2
 cases tr with
 | true =>
  go_enter Try.func24,Try.ntmps24
  go_wp2_with (first | rw [HW1.out] | rw [HW2.out] | rw [HE1.out] | rw [HE2.out] | fail)
  refine HC.out.mono ?_
  rintro r w3 ⟨rfl,hb3⟩
  have HB3 := keep (HB.out.trans (hb3.mono HB.out.size))
  clear hb3 HC
  go_wp2
  go_ret
  exact ⟨rfl,HB3.out⟩
 | false =>
  go_enter Try.func24,Try.ntmps24
  go_wp2_with (first | rw [HW1.out] | rw [HW2.out] | rw [HE1.out] | rw [HE2.out] | fail)
  refine HC.out.mono ?_
  rintro r w3 ⟨rfl,hb3⟩
  have HB3 := keep (HB.out.trans (hb3.mono HB.out.size))
  clear hb3 HC
  go_wp2
  go_ret
  exact ⟨rfl,HB3.out⟩
theorem runs_det {code : List Ix} {T : Nat → Int} {k : Nat} {P : List Int} {A : List (List Int)} {ls ls' : List Lk} {e e' : En} (h : Runs code T k P A ls e) (h' : Runs code T k P A ls' e') : ls = ls' ∧ e = e' := by
 induction h generalizing ls' e' with
 | ret k P A i hi ho =>
  cases h' with
  | ret _ _ _ j hj hp => rw [hi] at hj; cases hj; exact ⟨rfl,rfl⟩
  | trap _ _ _ j hj hp => rw [hi] at hj; cases hj; omega
  | step _ _ _ j _ _ hj h0 h1 _ => rw [hi] at hj; cases hj; exact absurd ho h0
 | trap k P A i hi ho =>
  cases h' with
  | ret _ _ _ j hj hp => rw [hi] at hj; cases hj; omega
  | trap _ _ _ j hj hp => rw [hi] at hj; cases hj; exact ⟨rfl,rfl⟩
  | step _ _ _ j _ _ hj h0 h1 _ => rw [hi] at hj; cases hj; exact absurd ho h1
 | step k P A i ls e hi h0 h1 _ ih =>
  cases h' with
  | ret _ _ _ j hj hp => rw [hi] at hj; cases hj; exact absurd hp h0
  | trap _ _ _ j hj hp => rw [hi] at hj; cases hj; exact absurd hp h1
  | step _ _ _ j _ _ hj _ _ hr =>
   rw [hi] at hj
   cases hj
   obtain ⟨e1,e2⟩ := ih hr
   exact ⟨by rw [e1],e2⟩
theorem tab_yieldsG {ops : Array Oper} {o : Oper} {a : Act} {S : World → Prop} (hgd : Region.wanted o (yielded ops a.tmps) = true) (x : Operand) (ho : o.op = .load 29 x) (g : Nat) (hx : a.eval x = .pointer (some ⟨g,0,none⟩)) (T : Nat → Int) (hS : ∀ w,S w → Tb.Blk w g T) : YieldsIf Try.prog ops S o (.agg (Tb.tabA T)) a :=
 .inl ⟨hgd,fun w hw => by
  unfold execOp
  simp only [ho,hx,Instr.loadAt,Instr.sureAddr,Sem.run_bind,Sem.run_pure,Result.andThen_ok,run_loadVar_row w g 29 29 (Tb.tabA T) (0,0) _ (hS w hw) Try.underlying29 rfl (Tb.tab_info T)]⟩
theorem GvIs_mono {w : World} {B B' : Nat} {ws : List Int} {aa : List (List Int)} {v : Value} (h : GvIs w B ws aa v) (hB : B ≤ B') : GvIs w B' ws aa v := by
 obtain ⟨u1,u2,e,i1,i2⟩ := h
 exact ⟨u1,u2,e,i1.mono hB,ArrsIs_mono i2 hB⟩
end Go.Proofs.Ytfbmkcogkiejnaa.Fl
