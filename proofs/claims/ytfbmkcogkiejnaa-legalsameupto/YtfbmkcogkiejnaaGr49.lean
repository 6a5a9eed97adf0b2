/- Laid together: HgSafe, HgInv, FlSameV, HgShowL. -/
import Derived.Test.YtfbmkcogkiejnaaHgEnd
import Derived.Test.YtfbmkcogkiejnaaGr19
import Derived.Deep.RegionHeld3
import Derived.Deep.DrawnRows
import Derived.Test.YtfbmkcogkiejnaaGr46
namespace Go.Proofs.Ytfbmkcogkiejnaa.Hg
set_option linter.unusedVariables false
set_option linter.unusedSimpArgs false
open Lg Fl
structure WayB (T : Nat → Int) (i : Ix) (m M : Mk) (C : List Ix) (op a b : Int) : Prop where
 w : ways i.op = true
 sh : shwM T m.sec i = true
 code : M.code = m.code ++ (C ++ [⟨op,i.d,a,b,0,0⟩])
 sec : ∃ S,M.sec = m.sec ++ S
 each : ∀ x ∈ C,OkN M.sec x ∧ (m.sec.length : Int) ≤ x.d ∧ shwM T M.sec x = false
 o : 1 ≤ op ∧ op ≤ 7
 ia : Inn M.sec a
 ib : Inn M.sec b
 no : shwM T M.sec ⟨op,i.d,a,b,0,0⟩ = false
 val : ∀ P,Wds P → M.sec.length ≤ P.length → Wd.two op (gI (runC C P) a) (gI (runC C P) b) = vOther i P
theorem rds_two {op d a b : Int} (h : 1 ≤ op ∧ op ≤ 7) : rds ⟨op,d,a,b,0,0⟩ = [a,b] := by unfold rds; rw [if_pos (by show 1 ≤ op ∧ op ≤ 12; omega)]
theorem shw_two (T : Nat → Int) (sec : List Int) {op d e a b : Int} (h : 1 ≤ op ∧ op ≤ 7) : shwM T sec ⟨op,d,a,b,0,0⟩ = shwM T sec ⟨op,e,a,b,0,0⟩ := by
 unfold shwM; rw [rds_two h,rds_two h]
theorem legal_two {T : Nat → Int} {i : Ix} {m : Mk} (hs : ∀ s ∈ m.sec,s = 0 ∨ s = 1) (hr : ∀ p ∈ rds i,Inn m.sec p) (hn : (legalM T i m).shown = false) :
  (legalM T i m = emitM T i m ∧ shwM T m.sec i = false) ∨ ∃ C op a b,WayB T i m (legalM T i m) C op a b := by
 by_cases h1 : shwM T m.sec i = false
 ·left
  unfold legalM
  rw [if_pos h1]; exact ⟨rfl,h1⟩
 ·by_cases h2 : ways i.op = false
  ·exfalso
   unfold legalM at hn
   rw [if_neg h1,if_pos h2] at hn
   have : ((fresh m).shown || shwM T (fresh m).sec i) = false := hn
   rw [Bool.or_eq_false_iff] at this
   exact h1 this.2
  ·right
   have e0 : legalM T i m = swapD i (otherM T i m) := by unfold legalM; rw [if_neg h1,if_neg h2]
   rw [e0] at hn ⊢
   have hw : ways i.op = true := by simpa using h2
   obtain ⟨r,hr1,op,a,b,m0,R0,rfl,ho,ha,hb,l,hv⟩ := other_endl T i (fresh_good hs) hw hr
   rw [hr1] at hn ⊢
   have e1 : (twoM T op a b m0).2.code = m0.code ++ [atD ⟨op,0,a,b,0,0⟩ m0.sec.length] := rfl
   have e2 : (twoM T op a b m0).2.sec = m0.sec ++ [orS m0.sec (rds ⟨op,0,a,b,0,0⟩)] := rfl
   have e3 : (twoM T op a b m0).2.code.getLast? = some (atD ⟨op,0,a,b,0,0⟩ m0.sec.length) := by rw [e1]; simp
   have e4 : (swapD i (twoM T op a b m0).2).code = m0.code ++ [⟨op,i.d,a,b,0,0⟩] := by
    unfold swapD; rw [e3]; dsimp only; rw [e1]; simp [atD]
   have e5 : (swapD i (twoM T op a b m0).2).sec = m0.sec := by
    unfold swapD; rw [e3]; dsimp only; rw [e2]
    show List.take ((m0.sec.length : Int)).toNat _ = _
    rw [Int.toNat_natCast]; simp
   rw [swap_shown] at hn
   have hn' : (m0.shown || shwM T m0.sec (atD ⟨op,0,a,b,0,0⟩ m0.sec.length)) = false := hn
   rw [Bool.or_eq_false_iff] at hn'
   obtain ⟨C,S,c1,c2,c3,c4⟩ := l.ex
   refine ⟨C,op,a,b,hw,by simpa using h1,?_,⟨S,by rw [e5]; exact c2⟩,?_,ho,by rw [e5]; exact ha,by rw [e5]; exact hb,?_,?_⟩
   ·rw [e4,show m0.code = m.code ++ C from c1,List.append_assoc]
   ·intro x hx
    rw [e5]
    obtain ⟨q1,q2,q3⟩ := c3 x hx
    exact ⟨q1,q2,q3 hn'.1⟩
   ·rw [e5,shw_two T m0.sec (e:=m0.sec.length) ho]; exact hn'.2
   ·intro P hP hl
    rw [e5] at hl
    obtain ⟨_,q2⟩ := c4 P hP hl (fun k p hk => by cases hk)
    exact hv P _ hP (runC_wds (fun x hx => (c3 x hx).1) hP) (runC_ag fun x hx => (c3 x hx).2.1) q2
structure PosOk (T : Nat → Int) (rs : List Vr) (sec : List Int) (x : Ix) : Prop where
 o1 : 1 ≤ x.op
 o2 : x.op ≤ 21
 d : mks x = true → Inn sec x.d
 r : ∀ p ∈ rds x,Inn sec p
 c : x.op = 14 → isW x.imm
 b : x.op = 16 ∨ x.op = 17 → 0 ≤ x.b ∧ x.b < rs.length
 s : spl ⟨[],is1 sec,0,rs⟩ x = false
 n : shwM T sec x = false
theorem is1_at {sec : List Int} {p : Int} (h : Inn sec p) : gB (is1 sec) p = (gI sec p == 1) := by
 unfold gB gI is1
 rw [List.getD_eq_getElem?_getD,List.getD_eq_getElem?_getD,List.getElem?_map,List.getElem?_eq_getElem (by have := h.1; have := h.2; omega)]
 rfl
theorem gB_app {sec S : List Int} {p : Int} (h : Inn sec p) : gB (is1 (sec ++ S)) p = gB (is1 sec) p := by rw [is1_at h,is1_at (h.app S),gI_app _ _ _ h]
theorem spl_same {f g : Fx} {x : Ix} (ha : f.arrs = g.arrs) (hr : ∀ p ∈ rds x,gB f.sec p = gB g.sec p) (hd : mks x = true → gB f.sec x.d = gB g.sec x.d) : spl f x = spl g x := by
 unfold spl
 by_cases h16 : x.op = 16
 ·have hm : mks x = true := by unfold mks; rw [Bool.and_eq_true,decide_eq_true_eq,decide_eq_true_eq]; omega
  have ha' := hr x.a (by unfold rds; rw [if_neg (by omega),if_neg (by omega),if_neg (by omega),if_pos (by omega)]; simp)
  rw [if_pos h16,if_pos h16,ha',hd hm,ha]
 ·rw [if_neg h16,if_neg h16]
  by_cases h17 : x.op = 17
  ·have hr' : rds x = [x.a,x.d] := by unfold rds; rw [if_neg (by omega),if_neg (by omega),if_pos h17]
   rw [if_pos h17,if_pos h17,hr x.a (by rw [hr']; simp),hr x.d (by rw [hr']; simp),ha]
  ·rw [if_neg h17,if_neg h17]
   by_cases h19 : x.op = 19
   ·rw [if_pos h19,if_pos h19,hr x.a (by unfold rds; rw [if_neg (by omega),if_neg (by omega),if_neg (by omega),if_pos (by omega)]; simp)]
   ·rw [if_neg h19,if_neg h19]
    have : (rds x).any (gB f.sec) = (rds x).any (gB g.sec) := by
     rw [Bool.eq_iff_iff,List.any_eq_true,List.any_eq_true]
     constructor
     ·rintro ⟨p,hp,h⟩; exact ⟨p,hp,by rw [← hr p hp]; exact h⟩
     ·rintro ⟨p,hp,h⟩; exact ⟨p,hp,by rw [hr p hp]; exact h⟩
    rw [this]
    cases hm : mks x with
    | false => simp
    | true => rw [hd hm]
theorem PosOk.app {T : Nat → Int} {rs : List Vr} {sec : List Int} {x : Ix} (h : PosOk T rs sec x) (S : List Int) : PosOk T rs (sec ++ S) x :=
 ⟨h.o1,h.o2,fun hm => (h.d hm).app S,fun p hp => (h.r p hp).app S,h.c,h.b,by
  rw [spl_same (f:=⟨[],is1 (sec ++ S),0,rs⟩) (g:=⟨[],is1 sec,0,rs⟩) rfl (fun p hp => gB_app (h.r p hp)) (fun hm => gB_app (h.d hm))]; exact h.s,by rw [shw_app T h.r]; exact h.n⟩
theorem gB_f {f : Fx} (S : List Int) {p : Int} (h : 0 ≤ p ∧ p < f.sec.length) : gB (is1 (f.sec.map s01 ++ S)) p = gB f.sec p := by
 rw [is1_at ⟨h.1,by rw [List.length_append,List.length_map]; omega⟩,lab_at _ _ _ h]
theorem inn_f {f : Fx} (S : List Int) {p : Int} (h : 0 ≤ p ∧ p < f.sec.length) : Inn (f.sec.map s01 ++ S) p := ⟨h.1,by rw [List.length_append,List.length_map]; omega⟩
theorem pos_emit {f : Fx} {T : Nat → Int} {k : Nat} {i : Ix} (hf : Fine f k i) {S : List Int} (hn : shwM T (f.sec.map s01 ++ S) i = false) : PosOk T f.arrs (f.sec.map s01 ++ S) i :=
 ⟨hf.o1,hf.o2,fun hm => inn_f S (hf.d hm),fun p hp => inn_f S (hf.r p hp),hf.c,hf.b,by
  rw [spl_same (f:=⟨[],is1 (f.sec.map s01 ++ S),0,f.arrs⟩) (g:=f) rfl (fun p hp => gB_f S (hf.r p hp)) (fun hm => gB_f S (hf.d hm))]; exact hf.s,hn⟩
theorem any_or {sec : List Int} {l : List Int} (h : ∀ p ∈ l,Inn sec p) (h0 : orS sec l = 0) : l.any (gB (is1 sec)) = false := by
 unfold orS at h0
 split at h0
 ·cases h0
 ·rename_i hh
  rw [List.any_eq_false]
  intro p hp hg
  apply hh
  rw [List.any_eq_true]
  exact ⟨p,hp,by rw [← is1_at (h p hp)]; exact hg⟩
theorem pos_new {T : Nat → Int} {rs : List Vr} {sec : List Int} {x : Ix} (h : OkN sec x) (hn : shwM T sec x = false) : PosOk T rs sec x := by
 have ho : x.op = 14 ∨ 1 ≤ x.op ∧ x.op ≤ 7 := by rcases h.op with h | h <;> omega
 refine ⟨by omega,by omega,fun _ => h.d,h.rds,fun h14 => ?_,fun hb => by omega,?_,hn⟩
 ·rcases h.op with h | h
  ·exact h.2
  ·omega
 ·unfold spl
  rw [if_neg (by omega),if_neg (by omega),if_neg (by omega)]
  rcases h.lab with h1 | h1
  ·have : gB (is1 sec) x.d = true := by rw [is1_at h.d,h1]; rfl
   rw [this]; simp
  ·rw [any_or h.rds h1]; simp
theorem pos_last {f : Fx} {T : Nat → Int} {k : Nat} {i : Ix} (hf : Fine f k i) (hT : TabR T) {S S' : List Int} {op a b : Int} (hw : ways i.op = true) (hs : shwM T (f.sec.map s01 ++ S) i = true) (ho : 1 ≤ op ∧ op ≤ 7) (ha : Inn (f.sec.map s01 ++ S ++ S') a) (hb : Inn (f.sec.map s01 ++ S ++ S') b) (hn : shwM T (f.sec.map s01 ++ S ++ S') ⟨op,i.d,a,b,0,0⟩ = false) : PosOk T f.arrs (f.sec.map s01 ++ S ++ S') ⟨op,i.d,a,b,0,0⟩ := by
 have hop : 6 ≤ i.op ∧ i.op ≤ 13 := by unfold ways at hw; rw [Bool.and_eq_true,decide_eq_true_eq,decide_eq_true_eq] at hw; exact hw
 have hm : mks i = true := by unfold mks; rw [Bool.and_eq_true,decide_eq_true_eq,decide_eq_true_eq]; omega
 have hd := hf.d hm
 have hsec : gB f.sec i.d = true := by
  rw [shw_same hf hT] at hs
  have hsp := hf.s
  unfold spl at hsp
  rw [if_neg (by omega),if_neg (by omega),if_neg (by omega),hm,Bool.true_and] at hsp
  cases hg : gB f.sec i.d with
  | true => rfl
  | false =>
   exfalso
   rw [hg] at hsp
   have hany : (rds i).any (gB f.sec) = false := by simpa using hsp
   have hno : ∀ p ∈ rds i,gB f.sec p = false := fun p hp => by simpa using List.any_eq_false.1 hany p hp
   unfold Fl.shw at hs
   rw [if_neg (by omega),if_neg (by omega)] at hs
   have e1 : gB f.sec i.a = false := hno i.a (by unfold rds; by_cases h : i.op = 13; (rw [if_neg (by omega),if_pos h]; simp); (rw [if_pos (by omega)]; simp))
   have e2 : gB f.sec i.b = false := hno i.b (by unfold rds; by_cases h : i.op = 13; (rw [if_neg (by omega),if_pos h]; simp); (rw [if_pos (by omega)]; simp))
   rw [e1,e2] at hs
   by_cases h13 : i.op = 13
   ·have e3 : gB f.sec i.c = false := hno i.c (by unfold rds; rw [if_neg (by omega),if_pos h13]; simp)
    rw [e3] at hs; simp at hs
   ·have ht := hT.2 i.op.toNat (by omega) (by omega)
    have hm3 : Tb.most i.op.toNat = 3 := by
     have : ∀ j : Fin 13,1 ≤ j.val → Tb.most j.val = 3 := by decide
     exact this ⟨i.op.toNat,by omega⟩ (by dsimp only; omega)
    rw [hm3] at ht
    rw [bit2_le ht.1 ht.2] at hs; simp at hs
 refine ⟨ho.1,by show op ≤ 21; omega,fun _ => ?_,fun p hp => ?_,fun h => ?_,fun h => ?_,?_,hn⟩
 ·rw [List.append_assoc]; exact inn_f _ hd
 ·rw [rds_two ho] at hp
  simp only [List.mem_cons,List.not_mem_nil,or_false] at hp
  rcases hp with e | e <;> (rw [e]; assumption)
 ·have : op = 14 := h; omega
 ·have : op = 16 ∨ op = 17 := h; omega
 ·unfold spl
  rw [if_neg (by show ¬ op = 16; omega),if_neg (by show ¬ op = 17; omega),if_neg (by show ¬ op = 19; omega)]
  have e : gB (is1 (f.sec.map s01 ++ S ++ S')) i.d = true := by rw [List.append_assoc,gB_f _ hd]; exact hsec
  show (_ && !gB (is1 (f.sec.map s01 ++ S ++ S')) i.d && _) = false
  rw [e]; simp
structure Inv (f : Fx) (T : Nat → Int) (j : Nat) (s : S8) : Prop where
 ok : Ok8 f T j s
 much : s.much = false
 pos : ∀ x ∈ s.m.code,PosOk T f.arrs s.m.sec x
 st : ∀ (k : Nat) (v : Int),s.st[k]? = some v → 0 ≤ v ∧ v < s.m.code.length
 inc : ∀ (k l : Nat) (v u : Int),k < l → s.st[k]? = some v → s.st[l]? = some u → v < u
 jmp : ∀ (p : Nat) (x : Ix),s.m.code[p]? = some x → x.op = 18 ∨ x.op = 19 → ∃ k : Nat,k < j ∧ (k : Int) < x.imm ∧ x.imm < f.code.length ∧ ∀ (t : Nat) (v : Int),k < t → s.st[t]? = some v → (p : Int) < v
 lst : ∀ i,f.code[j - 1]? = some i → 0 < j → lst i.op = true → ∃ x,s.m.code.getLast? = some x ∧ x.op = i.op
 len : j ≤ s.m.code.length
theorem Inv.zero (f : Fx) (T : Nat → Int) : Inv f T 0 (st0 f) :=
 ⟨Ok8.zero f T,rfl,(fun x hx => by cases hx),(fun k v h => by cases h),(fun k l v u _ h => by cases h),(fun p x h => by cases h),(fun i _ h => by omega),Nat.le_refl _⟩
structure Adds2 (f : Fx) (T : Nat → Int) (i : Ix) (m M : Mk) (D : List Ix) : Prop where
 c : M.code = m.code ++ D
 ne : 0 < D.length
 s : ∃ S,M.sec = m.sec ++ S
 p : ∀ x ∈ D,PosOk T f.arrs M.sec x
 j : ∀ x ∈ D,x.op = 18 ∨ x.op = 19 → D = [i]
 l : Fl.lst i.op = true → D = [i]
theorem Ok8.adds2 {f : Fx} {T : Nat → Int} {j : Nat} {s : S8} (h : Ok8 f T j s) {i : Ix} (hf : Fine f j i) (hT : TabR T) (hn : (legalM T i s.m).shown = false) : ∃ D,Adds2 f T i s.m (legalM T i s.m) D := by
 obtain ⟨S0,hS0,_⟩ := h.sec
 rcases legal_two h.g (fun p hp => h.fits hf p hp) hn with ⟨e,hs⟩ | ⟨C,op,a,b,hw⟩
 ·rw [e]
  refine ⟨[i],rfl,by simp,⟨[],by unfold emitM; simp⟩,fun x hx => ?_,fun x hx _ => ?_,fun _ => rfl⟩
  ·rw [List.mem_singleton] at hx
   subst hx
   show PosOk T f.arrs s.m.sec x
   rw [hS0] at hs ⊢
   exact pos_emit hf hs
  ·rfl
 ·have hop : 6 ≤ i.op ∧ i.op ≤ 13 := by
   have := hw.w
   unfold ways at this; rw [Bool.and_eq_true,decide_eq_true_eq,decide_eq_true_eq] at this; exact this
  refine ⟨_,hw.code,by simp,hw.sec,fun x hx => ?_,fun x hx ho => ?_,fun hl => ?_⟩
  ·rcases List.mem_append.1 hx with hx | hx
   ·obtain ⟨q1,_,q3⟩ := hw.each x hx
    exact pos_new q1 q3
   ·rw [List.mem_singleton] at hx
    subst hx
    obtain ⟨S,hS⟩ := hw.sec
    have h1 := hw.sh
    have h2 := hw.ia
    have h3 := hw.ib
    have h4 := hw.no
    rw [hS0] at h1
    rw [hS,hS0] at h2 h3 h4 ⊢
    exact pos_last hf hT hw.w h1 hw.o h2 h3 h4
  ·exfalso
   rcases List.mem_append.1 hx with hx | hx
   ·rcases (hw.each x hx).1.op with h | h <;> omega
   ·rw [List.mem_singleton] at hx
    subst hx
    have h1 := hw.o
    have h2 : op = 18 ∨ op = 19 := ho
    omega
  ·exfalso
   unfold Fl.lst at hl
   simp only [Bool.or_eq_true,decide_eq_true_eq] at hl
   omega
theorem Inv.step {f : Fx} {T : Nat → Int} (hT : TabR T) {j : Nat} {s : S8} (h : Inv f T j s) {i : Ix} (hi : f.code[j]? = some i) (hf : Fine f j i) (hn : (legalM T i s.m).shown = false) (hl : ¬ 12000 < (legalM T i s.m).code.length) : Inv f T (j + 1) (stp8 T f.sec.length i s) := by
 have hok := h.ok.step hi hf hn
 obtain ⟨D,hD⟩ := h.ok.adds2 hf hT hn
 have e : stp8 T f.sec.length i s = ⟨legalM T i s.m,s.st ++ [(s.m.code.length : Int)],s.much⟩ := by unfold stp8; split; rename_i h'; exact absurd h' hl; rfl
 rw [e] at hok ⊢
 obtain ⟨S,hS⟩ := hD.s
 have hc := hD.c
 have hne := hD.ne
 have hst : ∀ (k : Nat) (v : Int),(s.st ++ [(s.m.code.length : Int)])[k]? = some v → s.st[k]? = some v ∨ (k = j ∧ v = s.m.code.length) := fun k v hk => by
  have hlen := h.ok.len
  by_cases hkj : k < s.st.length
  ·left; rw [List.getElem?_append_left hkj] at hk; exact hk
  ·right
   rw [List.getElem?_append_right (by omega)] at hk
   have hz : k - s.st.length = 0 := by
    have := (List.getElem?_eq_some_iff.1 hk).1
    simp at this; omega
   rw [hz] at hk
   have : (s.m.code.length : Int) = v := by simpa using hk
   exact ⟨by omega,this.symm⟩
 have hlt : ∀ (k : Nat) (v : Int),s.st[k]? = some v → k < j := fun k v hk => by have := (List.getElem?_eq_some_iff.1 hk).1; rw [h.ok.len] at this; exact this
 refine ⟨hok,h.much,?_,?_,?_,?_,?_,?_⟩ <;> dsimp only
 ·intro x hx
  rw [hc] at hx
  rcases List.mem_append.1 hx with hx | hx
  ·rw [hS]; exact (h.pos x hx).app S
  ·exact hD.p x hx
 ·intro k v hk
  rw [hc,List.length_append]
  rcases hst k v hk with h1 | ⟨_,h1⟩
  ·have := h.st k v h1; omega
  ·omega
 ·intro k l v u hkl hk hl'
  rcases hst k v hk with h1 | ⟨h1,h1'⟩ <;> rcases hst l u hl' with h2 | ⟨h2,h2'⟩
  ·exact h.inc k l v u hkl h1 h2
  ·have := h.st k v h1; omega
  ·have := hlt l u h2; omega
  ·omega
 ·intro p x hp ho
  rw [hc] at hp
  by_cases hpl : p < s.m.code.length
  ·rw [List.getElem?_append_left hpl] at hp
   obtain ⟨k,k1,k2,k3,k4⟩ := h.jmp p x hp ho
   refine ⟨k,by omega,k2,k3,fun t v ht hv => ?_⟩
   rcases hst t v hv with h1 | ⟨_,h1⟩
   ·exact k4 t v ht h1
   ·omega
  ·rw [List.getElem?_append_right (by omega)] at hp
   have hx := List.mem_of_getElem? hp
   have hDi := hD.j x hx ho
   rw [hDi] at hp hx
   rw [List.mem_singleton] at hx
   subst hx
   have hj := hf.j ho
   refine ⟨j,by omega,hj.1,hj.2,fun t v ht hv => ?_⟩
   exfalso
   rcases hst t v hv with h1 | ⟨h1,_⟩
   ·have := hlt t v h1; omega
   ·omega
 ·intro i' hi' _ hl'
  rw [Nat.add_sub_cancel,hi] at hi'
  cases hi'
  refine ⟨i,?_,rfl⟩
  rw [hc,hD.l hl']; simp
 ·rw [hc,List.length_append]; have := h.len; omega
theorem go8_much {T : Nat → Int} {k : Nat} : ∀ {l : List Ix} {s s' : S8},go8 T k l s = some s' → s.much = true → s'.much = true
 | [],s,s',h,hm => by cases h; exact hm
 | i :: l,s,s',h,hm => by
  rw [go8] at h
  split at h
  ·cases h
  ·refine go8_much h ?_
   unfold stp8
   split
   ·rfl
   ·exact hm
theorem inv_run {f : Fx} {T : Nat → Int} (hR : Right f) (hT : TabR T) {s' : S8} (hr : run8 f T = some s') (hm : s'.much = false) : Inv f T f.code.length s' := by
 have key : ∀ n j s,f.code.length - j = n → j ≤ f.code.length → Inv f T j s → Inv f T f.code.length s' := by
  intro n
  induction n with
  | zero =>
   intro j s hn hj h
   have e : j = f.code.length := by omega
   subst e
   have hg := h.ok.go
   rw [List.drop_eq_nil_of_le (Nat.le_refl _),hr] at hg
   have : s = s' := Option.some.inj hg
   rw [← this]; exact h
  | succ n ih =>
   intro j s hn hj h
   have hi : f.code[j]? = some f.code[j] := List.getElem?_eq_getElem (by omega)
   generalize f.code[j] = i at hi
   have hf := fine_of (hR.each j i hi)
   cases hsh : (legalM T i s.m).shown with
   | true => rw [h.ok.none hi hsh] at hr; cases hr
   | false =>
    by_cases hl : 12000 < (legalM T i s.m).code.length
    ·exfalso
     have hok := h.ok.step hi hf hsh
     have hg := hok.go
     rw [hr] at hg
     have := go8_much hg (by unfold stp8; rw [if_pos hl])
     rw [hm] at this; cases this
    ·exact ih (j + 1) _ (by omega) (by omega) (h.step hT hi hf hsh hl)
 exact key f.code.length 0 (st0 f) (Nat.sub_zero _) (Nat.zero_le _) (Inv.zero f T)
def mX (f : Fx) (s : S8) : Fx := ⟨leadM s.st s.m.code,is1 s.m.sec,f.params,f.arrs⟩
theorem chk_all {f : Fx} (hl : ∀ i,f.code.getLast? = some i → lst i.op = true) : ∀ (l : List Ix) (n : Nat),(∀ (k : Nat) (i : Ix),l[k]? = some i → wrg f (n + k : Nat) i = 0) → chkL f n l = (0,-1)
 | [],n,h => by
  rw [chkL]
  unfold endF
  split
  ·rfl
  ·rename_i i hi
   rw [if_pos (hl i hi)]
 | i :: l,n,h => by
  rw [chkL,if_pos (by have := h 0 i rfl; rw [Nat.add_zero] at this; exact this)]
  have := chk_all hl l (n + 1) (fun k j hk => by rw [show n + 1 + k = n + (k + 1) by omega]; exact h (k + 1) j (by simpa using hk))
  rw [Int.natCast_add] at this
  exact this
theorem led_op (S : List Int) (i : Ix) : (led S i).op = i.op ∧ (led S i).d = i.d ∧ (led S i).a = i.a ∧ (led S i).b = i.b ∧ (led S i).c = i.c := by
 unfold led; split <;> exact ⟨rfl,rfl,rfl,rfl,rfl⟩
theorem led_rds (S : List Int) (i : Ix) : rds (led S i) = rds i := by
 obtain ⟨h1,h2,h3,h4,h5⟩ := led_op S i
 unfold rds; rw [h1,h2,h3,h4,h5]
theorem led_mks (S : List Int) (i : Ix) : mks (led S i) = mks i := by unfold mks; rw [(led_op S i).1]
theorem led_spl (f : Fx) (S : List Int) (i : Ix) : spl f (led S i) = spl f i := by
 obtain ⟨h1,h2,h3,h4,h5⟩ := led_op S i
 unfold spl; rw [h1,h2,h3,h4,led_rds,led_mks]
theorem led_shw (T : Nat → Int) (sec : List Int) (S : List Int) (i : Ix) : shwM T sec (led S i) = shwM T sec i := by
 unfold shwM; rw [led_rds,(led_op S i).1]
theorem is1_s01 {sec : List Int} (h : ∀ x ∈ sec,x = 0 ∨ x = 1) : (is1 sec).map s01 = sec := by
 unfold is1
 rw [List.map_map]
 conv => rhs; rw [← List.map_id sec]
 apply List.map_congr_left
 intro x hx
 rcases h x hx with e | e <;> (subst e; rfl)
theorem wrg_zero {f : Fx} {at' : Int} {i : Ix} (o1 : 1 ≤ i.op) (o2 : i.op ≤ 21) (hr : inR f at' i = true) (hs : spl f i = false) : wrg f at' i = 0 := by
 unfold wrg
 rw [if_neg (by omega),if_neg (by rw [hr]; simp),if_neg (by rw [hs]; simp)]
theorem Inv.wrg {f : Fx} {T : Nat → Int} {s : S8} (h : Inv f T f.code.length s) {p : Nat} {x : Ix} (hx : (mX f s).code[p]? = some x) : wrg (mX f s) p x = 0 ∧ shwM T s.m.sec x = false := by
 unfold mX leadM at hx
 rw [List.getElem?_map,Option.map_eq_some_iff] at hx
 obtain ⟨y,hy,rfl⟩ := hx
 have hP := h.pos y (List.mem_of_getElem? hy)
 obtain ⟨e1,e2,e3,e4,e5⟩ := led_op s.st y
 have hsl : ((mX f s).sec.length : Int) = s.m.sec.length := by unfold mX is1; rw [List.length_map]
 have hcl : ((mX f s).code.length : Int) = s.m.code.length := by unfold mX leadM; rw [List.length_map]
 refine ⟨wrg_zero (by rw [e1]; exact hP.o1) (by rw [e1]; exact hP.o2) ?_ ?_,by rw [led_shw]; exact hP.n⟩
 ·unfold inR
  rw [Bool.and_eq_true,Bool.and_eq_true]
  refine ⟨⟨?_,?_⟩,?_⟩
  ·rw [led_mks,e2]
   cases hm : mks y with
   | false => rfl
   | true =>
    have := hP.d hm
    rw [wi_iff.2 ⟨this.1,by rw [hsl]; exact this.2⟩]; rfl
  ·rw [led_rds,List.all_eq_true]
   intro q hq
   have := hP.r q hq
   exact wi_iff.2 ⟨this.1,by rw [hsl]; exact this.2⟩
  ·unfold ext
   rw [e1,e4]
   by_cases h14 : y.op = 14
   ·rw [if_pos h14]
    have := hP.c h14
    have ei : (led s.st y).imm = y.imm := by unfold led; rw [if_neg (by omega)]
    rw [ei,Bool.and_eq_true,decide_eq_true_eq,decide_eq_true_eq]; exact this
   ·rw [if_neg h14]
    by_cases h16 : y.op = 16 ∨ y.op = 17
    ·rw [if_pos h16]
     exact wi_iff.2 (hP.b h16)
    ·rw [if_neg h16]
     by_cases h18 : y.op = 18 ∨ y.op = 19
     ·rw [if_pos h18]
      have ei : (led s.st y).imm = gI s.st y.imm := by unfold led; rw [if_pos h18]
      obtain ⟨k,k1,k2,k3,k4⟩ := h.jmp p y hy h18
      have hlen := h.ok.len
      have hv : s.st[y.imm.toNat]? = some (gI s.st y.imm) := by
       unfold gI
       rw [List.getD_eq_getElem?_getD,List.getElem?_eq_getElem (by rw [hlen]; omega)]; rfl
      have h1 := k4 y.imm.toNat _ (by omega) hv
      have h2 := h.st _ _ hv
      rw [ei,hcl,Bool.and_eq_true,decide_eq_true_eq,decide_eq_true_eq]
      exact ⟨h1,h2.2⟩
     ·rw [if_neg h18]
 ·rw [led_spl]
  have := hP.s
  rw [spl_same (f:=mX f s) (g:=⟨[],is1 s.m.sec,0,f.arrs⟩) rfl (fun _ _ => rfl) (fun _ => rfl)]
  exact this
theorem made_right {f : Fx} {T : Nat → Int} (hR : Right f) (hT : TabR T) {s : S8} (hr : run8 f T = some s) (hm : s.much = false) : checkF (mX f s) = (0,-1) ∧ (∀ x ∈ (mX f s).code,shw (mX f s) T x = false) ∧ f.params ≤ (mX f s).sec.length ∧ (∀ p : Int,0 ≤ p → p < f.sec.length → gB (mX f s).sec p = gB f.sec p) ∧ (mX f s).code.length ≤ 12000 ∧ f.sec.length ≤ (mX f s).sec.length := by
 have h := inv_run hR hT hr hm
 have hcl : (mX f s).code.length = s.m.code.length := by unfold mX leadM; rw [List.length_map]
 obtain ⟨S,hS,_⟩ := h.ok.sec
 have hsl : (mX f s).sec.length = f.sec.length + S.length := by unfold mX is1; rw [List.length_map,hS,List.length_append,List.length_map]
 have hlast : ∀ i,(mX f s).code.getLast? = some i → lst i.op = true := fun i hi => by
  have hpos := hR.len1
  have hlt : f.code.length - 1 < f.code.length := by omega
  have hfl : f.code.getLast? = some f.code[f.code.length - 1] := by rw [List.getLast?_eq_getElem?,List.getElem?_eq_getElem hlt]
  have hll := hR.last _ hfl
  obtain ⟨x,hx,hxo⟩ := h.lst f.code[f.code.length - 1] (List.getElem?_eq_getElem hlt) hpos hll
  unfold mX leadM at hi
  rw [List.getLast?_map,hx] at hi
  have : led s.st x = i := by simpa using hi
  rw [← this,(led_op s.st x).1,hxo]; exact hll
 have hchk : checkF (mX f s) = (0,-1) := by
  unfold checkF
  have hroom : room (mX f s) = true := by
   unfold room
   simp only [Bool.and_eq_true,Bool.not_eq_true',decide_eq_false_iff_not]
   have h1 := h.len
   have h2 := hR.len1
   have h3 := h.ok.code
   have h4 := hR.p0
   have h5 := hR.p1
   have hp : (mX f s).params = f.params := rfl
   rw [hcl,hsl,hp]
   omega
  rw [if_pos hroom]
  exact chk_all hlast _ 0 (fun k i hk => by rw [Nat.zero_add]; exact (h.wrg hk).1)
 have hRX := right_of (f:=mX f s) (by rw [hchk])
 refine ⟨hchk,fun x hx => ?_,by have := hR.p1; omega,fun p h0 h1 => ?_,by rw [hcl]; exact h.ok.code,by omega⟩
 ·obtain ⟨p,hp⟩ := List.getElem?_of_mem hx
  have hf := fine_of (hRX.each p x hp)
  have := (h.wrg hp).2
  rw [← shw_same hf hT [],List.append_nil]
  show shwM T ((is1 s.m.sec).map s01) x = false
  rw [is1_s01 h.ok.g]; exact this
 ·show gB (is1 s.m.sec) p = _
  rw [hS]; exact gB_f S ⟨h0,h1⟩
end Go.Proofs.Ytfbmkcogkiejnaa.Hg
namespace Go.Proofs.Ytfbmkcogkiejnaa.Lr
set_option linter.unusedVariables false
open Go.ChangeShapes Go.WideShapes Go.ChangeAt Go.RowKit Lg
attribute [local go_sem ↓] Go.wp_at_zero Go.wp_at_succ
end Go.Proofs.Ytfbmkcogkiejnaa.Lr
namespace Go.Proofs.Ytfbmkcogkiejnaa.Hg
set_option linter.unusedVariables false
set_option linter.unusedSimpArgs false
open Go.ChangeShapes Go.WideShapes Go.ChangeAt Go.RowKit Go.Maps Lg Lr Fl
theorem err_cases {f : Fx} {T : Nat → Int} (hc : (checkF f).1 = 0) (hw : Tb.wrongT T = 0) (he : err8 f T ≠ 0) : err8 f T = 4 ∨ err8 f T = 11 := by
 unfold err8 at he ⊢
 rw [if_neg (by rw [hc]; simp),if_neg (by rw [hw]; simp)] at he ⊢
 split
 ·exact .inr rfl
 ·rename_i s h
  rw [h] at he
  dsimp only at he
  split
  ·exact .inl rfl
  ·rename_i h'; rw [if_neg h'] at he; exact absurd rfl he
theorem bools_at {w : World} {B : Nat} {l : List Bool} {p : Option Addr} {n c : Nat} (h : BoolsIs w B l (.slice p n c)) {j : Nat} (hj : j < n) : l.length = n ∧ ∃ g o,p = some ⟨g,o,none⟩ ∧ w.cell? ⟨g,o + j,none⟩ = some (.bool (gB l j)) := by
 obtain ⟨p',n',c',e,hn,_,_,hx⟩ := h
 cases e
 have hb : l[j]? = some l[j] := List.getElem?_eq_getElem (by omega)
 obtain ⟨g,o,h1,_,h3⟩ := hx j _ hb
 refine ⟨hn,g,o,h1,?_⟩
 rw [h3]
 unfold gB
 rw [Int.toNat_natCast,List.getD_eq_getElem?_getD,hb]; rfl
end Go.Proofs.Ytfbmkcogkiejnaa.Hg
