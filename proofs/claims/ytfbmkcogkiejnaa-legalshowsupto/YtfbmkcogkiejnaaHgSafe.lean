/- What is made is right, and shows nothing that is secret, in plain words. No function named. -/
import Derived.Test.YtfbmkcogkiejnaaHgEnd
namespace Go.Proofs.Ytfbmkcogkiejnaa.Hg
set_option linter.unusedVariables false
set_option linter.unusedSimpArgs false
open Lg Fl
structure WayB (T : Nat → Int) (i : Ix) (m M : Mk) (C : List Ix) (op a b : Int) : Prop where
 w : ways i.op = true
 sh : shwM T m.sec i = true
 code : M.code = m.code ++ (C ++ [⟨op,i.d,a,b,0,0⟩])
 sec : ∃ S,M.sec = m.sec ++ S
 each : ∀ x ∈ C,OkN M.sec x ∧ (m.sec.length : Int) ≤ x.d ∧ shwM T M.sec x = false
 o : 1 ≤ op ∧ op ≤ 7
 ia : Inn M.sec a
 ib : Inn M.sec b
 no : shwM T M.sec ⟨op,i.d,a,b,0,0⟩ = false
 val : ∀ P,Wds P → M.sec.length ≤ P.length → Wd.two op (gI (runC C P) a) (gI (runC C P) b) = vOther i P
theorem rds_two {op d a b : Int} (h : 1 ≤ op ∧ op ≤ 7) : rds ⟨op,d,a,b,0,0⟩ = [a,b] := by unfold rds; rw [if_pos (by show 1 ≤ op ∧ op ≤ 12; omega)]
theorem shw_two (T : Nat → Int) (sec : List Int) {op d e a b : Int} (h : 1 ≤ op ∧ op ≤ 7) : shwM T sec ⟨op,d,a,b,0,0⟩ = shwM T sec ⟨op,e,a,b,0,0⟩ := by
 unfold shwM; rw [rds_two h,rds_two h]
theorem legal_two {T : Nat → Int} {i : Ix} {m : Mk} (hs : ∀ s ∈ m.sec,s = 0 ∨ s = 1) (hr : ∀ p ∈ rds i,Inn m.sec p) (hn : (legalM T i m).shown = false) :
  (legalM T i m = emitM T i m ∧ shwM T m.sec i = false) ∨ ∃ C op a b,WayB T i m (legalM T i m) C op a b := by
 by_cases h1 : shwM T m.sec i = false
 ·left
  unfold legalM
  rw [if_pos h1]; exact ⟨rfl,h1⟩
 ·by_cases h2 : ways i.op = false
  ·exfalso
   unfold legalM at hn
   rw [if_neg h1,if_pos h2] at hn
   have : ((fresh m).shown || shwM T (fresh m).sec i) = false := hn
   rw [Bool.or_eq_false_iff] at this
   exact h1 this.2
  ·right
   have e0 : legalM T i m = swapD i (otherM T i m) := by unfold legalM; rw [if_neg h1,if_neg h2]
   rw [e0] at hn ⊢
   have hw : ways i.op = true := by simpa using h2
   obtain ⟨r,hr1,op,a,b,m0,R0,rfl,ho,ha,hb,l,hv⟩ := other_endl T i (fresh_good hs) hw hr
   rw [hr1] at hn ⊢
   have e1 : (twoM T op a b m0).2.code = m0.code ++ [atD ⟨op,0,a,b,0,0⟩ m0.sec.length] := rfl
   have e2 : (twoM T op a b m0).2.sec = m0.sec ++ [orS m0.sec (rds ⟨op,0,a,b,0,0⟩)] := rfl
   have e3 : (twoM T op a b m0).2.code.getLast? = some (atD ⟨op,0,a,b,0,0⟩ m0.sec.length) := by rw [e1]; simp
   have e4 : (swapD i (twoM T op a b m0).2).code = m0.code ++ [⟨op,i.d,a,b,0,0⟩] := by
    unfold swapD; rw [e3]; dsimp only; rw [e1]; simp [atD]
   have e5 : (swapD i (twoM T op a b m0).2).sec = m0.sec := by
    unfold swapD; rw [e3]; dsimp only; rw [e2]
    show List.take ((m0.sec.length : Int)).toNat _ = _
    rw [Int.toNat_natCast]; simp
   rw [swap_shown] at hn
   have hn' : (m0.shown || shwM T m0.sec (atD ⟨op,0,a,b,0,0⟩ m0.sec.length)) = false := hn
   rw [Bool.or_eq_false_iff] at hn'
   obtain ⟨C,S,c1,c2,c3,c4⟩ := l.ex
   refine ⟨C,op,a,b,hw,by simpa using h1,?_,⟨S,by rw [e5]; exact c2⟩,?_,ho,by rw [e5]; exact ha,by rw [e5]; exact hb,?_,?_⟩
   ·rw [e4,show m0.code = m.code ++ C from c1,List.append_assoc]
   ·intro x hx
    rw [e5]
    obtain ⟨q1,q2,q3⟩ := c3 x hx
    exact ⟨q1,q2,q3 hn'.1⟩
   ·rw [e5,shw_two T m0.sec (e:=m0.sec.length) ho]; exact hn'.2
   ·intro P hP hl
    rw [e5] at hl
    obtain ⟨_,q2⟩ := c4 P hP hl (fun k p hk => by cases hk)
    exact hv P _ hP (runC_wds (fun x hx => (c3 x hx).1) hP) (runC_ag fun x hx => (c3 x hx).2.1) q2
structure PosOk (T : Nat → Int) (rs : List Vr) (sec : List Int) (x : Ix) : Prop where
 o1 : 1 ≤ x.op
 o2 : x.op ≤ 21
 d : mks x = true → Inn sec x.d
 r : ∀ p ∈ rds x,Inn sec p
 c : x.op = 14 → isW x.imm
 b : x.op = 16 ∨ x.op = 17 → 0 ≤ x.b ∧ x.b < rs.length
 s : spl ⟨[],is1 sec,0,rs⟩ x = false
 n : shwM T sec x = false
theorem is1_at {sec : List Int} {p : Int} (h : Inn sec p) : gB (is1 sec) p = (gI sec p == 1) := by
 unfold gB gI is1
 rw [List.getD_eq_getElem?_getD,List.getD_eq_getElem?_getD,List.getElem?_map,List.getElem?_eq_getElem (by have := h.1; have := h.2; omega)]
 rfl
theorem gB_app {sec S : List Int} {p : Int} (h : Inn sec p) : gB (is1 (sec ++ S)) p = gB (is1 sec) p := by rw [is1_at h,is1_at (h.app S),gI_app _ _ _ h]
theorem spl_same {f g : Fx} {x : Ix} (ha : f.arrs = g.arrs) (hr : ∀ p ∈ rds x,gB f.sec p = gB g.sec p) (hd : mks x = true → gB f.sec x.d = gB g.sec x.d) : spl f x = spl g x := by
 unfold spl
 by_cases h16 : x.op = 16
 ·have hm : mks x = true := by unfold mks; rw [Bool.and_eq_true,decide_eq_true_eq,decide_eq_true_eq]; omega
  have ha' := hr x.a (by unfold rds; rw [if_neg (by omega),if_neg (by omega),if_neg (by omega),if_pos (by omega)]; simp)
  rw [if_pos h16,if_pos h16,ha',hd hm,ha]
 ·rw [if_neg h16,if_neg h16]
  by_cases h17 : x.op = 17
  ·have hr' : rds x = [x.a,x.d] := by unfold rds; rw [if_neg (by omega),if_neg (by omega),if_pos h17]
   rw [if_pos h17,if_pos h17,hr x.a (by rw [hr']; simp),hr x.d (by rw [hr']; simp),ha]
  ·rw [if_neg h17,if_neg h17]
   by_cases h19 : x.op = 19
   ·rw [if_pos h19,if_pos h19,hr x.a (by unfold rds; rw [if_neg (by omega),if_neg (by omega),if_neg (by omega),if_pos (by omega)]; simp)]
   ·rw [if_neg h19,if_neg h19]
    have : (rds x).any (gB f.sec) = (rds x).any (gB g.sec) := by
     rw [Bool.eq_iff_iff,List.any_eq_true,List.any_eq_true]
     constructor
     ·rintro ⟨p,hp,h⟩; exact ⟨p,hp,by rw [← hr p hp]; exact h⟩
     ·rintro ⟨p,hp,h⟩; exact ⟨p,hp,by rw [hr p hp]; exact h⟩
    rw [this]
    cases hm : mks x with
    | false => simp
    | true => rw [hd hm]
theorem PosOk.app {T : Nat → Int} {rs : List Vr} {sec : List Int} {x : Ix} (h : PosOk T rs sec x) (S : List Int) : PosOk T rs (sec ++ S) x :=
 ⟨h.o1,h.o2,fun hm => (h.d hm).app S,fun p hp => (h.r p hp).app S,h.c,h.b,by
  rw [spl_same (f:=⟨[],is1 (sec ++ S),0,rs⟩) (g:=⟨[],is1 sec,0,rs⟩) rfl (fun p hp => gB_app (h.r p hp)) (fun hm => gB_app (h.d hm))]; exact h.s,by rw [shw_app T h.r]; exact h.n⟩
theorem gB_f {f : Fx} (S : List Int) {p : Int} (h : 0 ≤ p ∧ p < f.sec.length) : gB (is1 (f.sec.map s01 ++ S)) p = gB f.sec p := by
 rw [is1_at ⟨h.1,by rw [List.length_append,List.length_map]; omega⟩,lab_at _ _ _ h]
theorem inn_f {f : Fx} (S : List Int) {p : Int} (h : 0 ≤ p ∧ p < f.sec.length) : Inn (f.sec.map s01 ++ S) p := ⟨h.1,by rw [List.length_append,List.length_map]; omega⟩
theorem pos_emit {f : Fx} {T : Nat → Int} {k : Nat} {i : Ix} (hf : Fine f k i) {S : List Int} (hn : shwM T (f.sec.map s01 ++ S) i = false) : PosOk T f.arrs (f.sec.map s01 ++ S) i :=
 ⟨hf.o1,hf.o2,fun hm => inn_f S (hf.d hm),fun p hp => inn_f S (hf.r p hp),hf.c,hf.b,by
  rw [spl_same (f:=⟨[],is1 (f.sec.map s01 ++ S),0,f.arrs⟩) (g:=f) rfl (fun p hp => gB_f S (hf.r p hp)) (fun hm => gB_f S (hf.d hm))]; exact hf.s,hn⟩
theorem any_or {sec : List Int} {l : List Int} (h : ∀ p ∈ l,Inn sec p) (h0 : orS sec l = 0) : l.any (gB (is1 sec)) = false := by
 unfold orS at h0
 split at h0
 ·cases h0
 ·rename_i hh
  rw [List.any_eq_false]
  intro p hp hg
  apply hh
  rw [List.any_eq_true]
  exact ⟨p,hp,by rw [← is1_at (h p hp)]; exact hg⟩
theorem pos_new {T : Nat → Int} {rs : List Vr} {sec : List Int} {x : Ix} (h : OkN sec x) (hn : shwM T sec x = false) : PosOk T rs sec x := by
 have ho : x.op = 14 ∨ 1 ≤ x.op ∧ x.op ≤ 7 := by rcases h.op with h | h <;> omega
 refine ⟨by omega,by omega,fun _ => h.d,h.rds,fun h14 => ?_,fun hb => by omega,?_,hn⟩
 ·rcases h.op with h | h
  ·exact h.2
  ·omega
 ·unfold spl
  rw [if_neg (by omega),if_neg (by omega),if_neg (by omega)]
  rcases h.lab with h1 | h1
  ·have : gB (is1 sec) x.d = true := by rw [is1_at h.d,h1]; rfl
   rw [this]; simp
  ·rw [any_or h.rds h1]; simp
theorem pos_last {f : Fx} {T : Nat → Int} {k : Nat} {i : Ix} (hf : Fine f k i) (hT : TabR T) {S S' : List Int} {op a b : Int} (hw : ways i.op = true) (hs : shwM T (f.sec.map s01 ++ S) i = true) (ho : 1 ≤ op ∧ op ≤ 7) (ha : Inn (f.sec.map s01 ++ S ++ S') a) (hb : Inn (f.sec.map s01 ++ S ++ S') b) (hn : shwM T (f.sec.map s01 ++ S ++ S') ⟨op,i.d,a,b,0,0⟩ = false) : PosOk T f.arrs (f.sec.map s01 ++ S ++ S') ⟨op,i.d,a,b,0,0⟩ := by
 have hop : 6 ≤ i.op ∧ i.op ≤ 13 := by unfold ways at hw; rw [Bool.and_eq_true,decide_eq_true_eq,decide_eq_true_eq] at hw; exact hw
 have hm : mks i = true := by unfold mks; rw [Bool.and_eq_true,decide_eq_true_eq,decide_eq_true_eq]; omega
 have hd := hf.d hm
 have hsec : gB f.sec i.d = true := by
  rw [shw_same hf hT] at hs
  have hsp := hf.s
  unfold spl at hsp
  rw [if_neg (by omega),if_neg (by omega),if_neg (by omega),hm,Bool.true_and] at hsp
  cases hg : gB f.sec i.d with
  | true => rfl
  | false =>
   exfalso
   rw [hg] at hsp
   have hany : (rds i).any (gB f.sec) = false := by simpa using hsp
   have hno : ∀ p ∈ rds i,gB f.sec p = false := fun p hp => by simpa using List.any_eq_false.1 hany p hp
   unfold Fl.shw at hs
   rw [if_neg (by omega),if_neg (by omega)] at hs
   have e1 : gB f.sec i.a = false := hno i.a (by unfold rds; by_cases h : i.op = 13; (rw [if_neg (by omega),if_pos h]; simp); (rw [if_pos (by omega)]; simp))
   have e2 : gB f.sec i.b = false := hno i.b (by unfold rds; by_cases h : i.op = 13; (rw [if_neg (by omega),if_pos h]; simp); (rw [if_pos (by omega)]; simp))
   rw [e1,e2] at hs
   by_cases h13 : i.op = 13
   ·have e3 : gB f.sec i.c = false := hno i.c (by unfold rds; rw [if_neg (by omega),if_pos h13]; simp)
    rw [e3] at hs; simp at hs
   ·have ht := hT.2 i.op.toNat (by omega) (by omega)
    have hm3 : Tb.most i.op.toNat = 3 := by
     have : ∀ j : Fin 13,1 ≤ j.val → Tb.most j.val = 3 := by decide
     exact this ⟨i.op.toNat,by omega⟩ (by dsimp only; omega)
    rw [hm3] at ht
    rw [bit2_le ht.1 ht.2] at hs; simp at hs
 refine ⟨ho.1,by show op ≤ 21; omega,fun _ => ?_,fun p hp => ?_,fun h => ?_,fun h => ?_,?_,hn⟩
 ·rw [List.append_assoc]; exact inn_f _ hd
 ·rw [rds_two ho] at hp
  simp only [List.mem_cons,List.not_mem_nil,or_false] at hp
  rcases hp with e | e <;> (rw [e]; assumption)
 ·have : op = 14 := h; omega
 ·have : op = 16 ∨ op = 17 := h; omega
 ·unfold spl
  rw [if_neg (by show ¬ op = 16; omega),if_neg (by show ¬ op = 17; omega),if_neg (by show ¬ op = 19; omega)]
  have e : gB (is1 (f.sec.map s01 ++ S ++ S')) i.d = true := by rw [List.append_assoc,gB_f _ hd]; exact hsec
  show (_ && !gB (is1 (f.sec.map s01 ++ S ++ S')) i.d && _) = false
  rw [e]; simp
end Go.Proofs.Ytfbmkcogkiejnaa.Hg
