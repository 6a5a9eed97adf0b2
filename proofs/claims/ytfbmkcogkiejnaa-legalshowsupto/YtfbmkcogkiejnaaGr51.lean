/- Laid together: HgInv, FlSameV. -/
import Derived.Test.YtfbmkcogkiejnaaHgSafe
import Derived.Test.YtfbmkcogkiejnaaGr19
import Derived.Deep.RegionHeld3
import Derived.Deep.DrawnRows
namespace Go.Proofs.Ytfbmkcogkiejnaa.Hg
set_option linter.unusedVariables false
set_option linter.unusedSimpArgs false
open Lg Fl
structure Inv (f : Fx) (T : Nat → Int) (j : Nat) (s : S8) : Prop where
 ok : Ok8 f T j s
 much : s.much = false
 pos : ∀ x ∈ s.m.code,PosOk T f.arrs s.m.sec x
 st : ∀ (k : Nat) (v : Int),s.st[k]? = some v → 0 ≤ v ∧ v < s.m.code.length
 inc : ∀ (k l : Nat) (v u : Int),k < l → s.st[k]? = some v → s.st[l]? = some u → v < u
 jmp : ∀ (p : Nat) (x : Ix),s.m.code[p]? = some x → x.op = 18 ∨ x.op = 19 → ∃ k : Nat,k < j ∧ (k : Int) < x.imm ∧ x.imm < f.code.length ∧ ∀ (t : Nat) (v : Int),k < t → s.st[t]? = some v → (p : Int) < v
 lst : ∀ i,f.code[j - 1]? = some i → 0 < j → lst i.op = true → ∃ x,s.m.code.getLast? = some x ∧ x.op = i.op
 len : j ≤ s.m.code.length
theorem Inv.zero (f : Fx) (T : Nat → Int) : Inv f T 0 (st0 f) :=
 ⟨Ok8.zero f T,rfl,(fun x hx => by cases hx),(fun k v h => by cases h),(fun k l v u _ h => by cases h),(fun p x h => by cases h),(fun i _ h => by omega),Nat.le_refl _⟩
structure Adds2 (f : Fx) (T : Nat → Int) (i : Ix) (m M : Mk) (D : List Ix) : Prop where
 c : M.code = m.code ++ D
 ne : 0 < D.length
 s : ∃ S,M.sec = m.sec ++ S
 p : ∀ x ∈ D,PosOk T f.arrs M.sec x
 j : ∀ x ∈ D,x.op = 18 ∨ x.op = 19 → D = [i]
 l : Fl.lst i.op = true → D = [i]
theorem Ok8.adds2 {f : Fx} {T : Nat → Int} {j : Nat} {s : S8} (h : Ok8 f T j s) {i : Ix} (hf : Fine f j i) (hT : TabR T) (hn : (legalM T i s.m).shown = false) : ∃ D,Adds2 f T i s.m (legalM T i s.m) D := by
 obtain ⟨S0,hS0,_⟩ := h.sec
 rcases legal_two h.g (fun p hp => h.fits hf p hp) hn with ⟨e,hs⟩ | ⟨C,op,a,b,hw⟩
 ·rw [e]
  refine ⟨[i],rfl,by simp,⟨[],by unfold emitM; simp⟩,fun x hx => ?_,fun x hx _ => ?_,fun _ => rfl⟩
  ·rw [List.mem_singleton] at hx
   subst hx
   show PosOk T f.arrs s.m.sec x
   rw [hS0] at hs ⊢
   exact pos_emit hf hs
  ·rfl
 ·have hop : 6 ≤ i.op ∧ i.op ≤ 13 := by
   have := hw.w
   unfold ways at this; rw [Bool.and_eq_true,decide_eq_true_eq,decide_eq_true_eq] at this; exact this
  refine ⟨_,hw.code,by simp,hw.sec,fun x hx => ?_,fun x hx ho => ?_,fun hl => ?_⟩
  ·rcases List.mem_append.1 hx with hx | hx
   ·obtain ⟨q1,_,q3⟩ := hw.each x hx
    exact pos_new q1 q3
   ·rw [List.mem_singleton] at hx
    subst hx
    obtain ⟨S,hS⟩ := hw.sec
    have h1 := hw.sh
    have h2 := hw.ia
    have h3 := hw.ib
    have h4 := hw.no
    rw [hS0] at h1
    rw [hS,hS0] at h2 h3 h4 ⊢
    exact pos_last hf hT hw.w h1 hw.o h2 h3 h4
  ·exfalso
   rcases List.mem_append.1 hx with hx | hx
   ·rcases (hw.each x hx).1.op with h | h <;> omega
   ·rw [List.mem_singleton] at hx
    subst hx
    have h1 := hw.o
    have h2 : op = 18 ∨ op = 19 := ho
    omega
  ·exfalso
   unfold Fl.lst at hl
   simp only [Bool.or_eq_true,decide_eq_true_eq] at hl
   omega
theorem Inv.step {f : Fx} {T : Nat → Int} (hT : TabR T) {j : Nat} {s : S8} (h : Inv f T j s) {i : Ix} (hi : f.code[j]? = some i) (hf : Fine f j i) (hn : (legalM T i s.m).shown = false) (hl : ¬ 12000 < (legalM T i s.m).code.length) : Inv f T (j + 1) (stp8 T f.sec.length i s) := by
 have hok := h.ok.step hi hf hn
 obtain ⟨D,hD⟩ := h.ok.adds2 hf hT hn
 have e : stp8 T f.sec.length i s = ⟨legalM T i s.m,s.st ++ [(s.m.code.length : Int)],s.much⟩ := by unfold stp8; split; rename_i h'; exact absurd h' hl; rfl
 rw [e] at hok ⊢
 obtain ⟨S,hS⟩ := hD.s
 have hc := hD.c
 have hne := hD.ne
 have hst : ∀ (k : Nat) (v : Int),(s.st ++ [(s.m.code.length : Int)])[k]? = some v → s.st[k]? = some v ∨ (k = j ∧ v = s.m.code.length) := fun k v hk => by
  have hlen := h.ok.len
  by_cases hkj : k < s.st.length
  ·left; rw [List.getElem?_append_left hkj] at hk; exact hk
  ·right
   rw [List.getElem?_append_right (by omega)] at hk
   have hz : k - s.st.length = 0 := by
    have := (List.getElem?_eq_some_iff.1 hk).1
    simp at this; omega
   rw [hz] at hk
   have : (s.m.code.length : Int) = v := by simpa using hk
   exact ⟨by omega,this.symm⟩
 have hlt : ∀ (k : Nat) (v : Int),s.st[k]? = some v → k < j := fun k v hk => by have := (List.getElem?_eq_some_iff.1 hk).1; rw [h.ok.len] at this; exact this
 refine ⟨hok,h.much,?_,?_,?_,?_,?_,?_⟩ <;> dsimp only
 ·intro x hx
  rw [hc] at hx
  rcases List.mem_append.1 hx with hx | hx
  ·rw [hS]; exact (h.pos x hx).app S
  ·exact hD.p x hx
 ·intro k v hk
  rw [hc,List.length_append]
  rcases hst k v hk with h1 | ⟨_,h1⟩
  ·have := h.st k v h1; omega
  ·omega
 ·intro k l v u hkl hk hl'
  rcases hst k v hk with h1 | ⟨h1,h1'⟩ <;> rcases hst l u hl' with h2 | ⟨h2,h2'⟩
  ·exact h.inc k l v u hkl h1 h2
  ·have := h.st k v h1; omega
  ·have := hlt l u h2; omega
  ·omega
 ·intro p x hp ho
  rw [hc] at hp
  by_cases hpl : p < s.m.code.length
  ·rw [List.getElem?_append_left hpl] at hp
   obtain ⟨k,k1,k2,k3,k4⟩ := h.jmp p x hp ho
   refine ⟨k,by omega,k2,k3,fun t v ht hv => ?_⟩
   rcases hst t v hv with h1 | ⟨_,h1⟩
   ·exact k4 t v ht h1
   ·omega
  ·rw [List.getElem?_append_right (by omega)] at hp
   have hx := List.mem_of_getElem? hp
   have hDi := hD.j x hx ho
   rw [hDi] at hp hx
   rw [List.mem_singleton] at hx
   subst hx
   have hj := hf.j ho
   refine ⟨j,by omega,hj.1,hj.2,fun t v ht hv => ?_⟩
   exfalso
   rcases hst t v hv with h1 | ⟨h1,_⟩
   ·have := hlt t v h1; omega
   ·omega
 ·intro i' hi' _ hl'
  rw [Nat.add_sub_cancel,hi] at hi'
  cases hi'
  refine ⟨i,?_,rfl⟩
  rw [hc,hD.l hl']; simp
 ·rw [hc,List.length_append]; have := h.len; omega
theorem go8_much {T : Nat → Int} {k : Nat} : ∀ {l : List Ix} {s s' : S8},go8 T k l s = some s' → s.much = true → s'.much = true
 | [],s,s',h,hm => by cases h; exact hm
 | i :: l,s,s',h,hm => by
  rw [go8] at h
  split at h
  ·cases h
  ·refine go8_much h ?_
   unfold stp8
   split
   ·rfl
   ·exact hm
theorem inv_run {f : Fx} {T : Nat → Int} (hR : Right f) (hT : TabR T) {s' : S8} (hr : run8 f T = some s') (hm : s'.much = false) : Inv f T f.code.length s' := by
 have key : ∀ n j s,f.code.length - j = n → j ≤ f.code.length → Inv f T j s → Inv f T f.code.length s' := by
  intro n
  induction n with
  | zero =>
   intro j s hn hj h
   have e : j = f.code.length := by omega
   subst e
   have hg := h.ok.go
   rw [List.drop_eq_nil_of_le (Nat.le_refl _),hr] at hg
   have : s = s' := Option.some.inj hg
   rw [← this]; exact h
  | succ n ih =>
   intro j s hn hj h
   have hi : f.code[j]? = some f.code[j] := List.getElem?_eq_getElem (by omega)
   generalize f.code[j] = i at hi
   have hf := fine_of (hR.each j i hi)
   cases hsh : (legalM T i s.m).shown with
   | true => rw [h.ok.none hi hsh] at hr; cases hr
   | false =>
    by_cases hl : 12000 < (legalM T i s.m).code.length
    ·exfalso
     have hok := h.ok.step hi hf hsh
     have hg := hok.go
     rw [hr] at hg
     have := go8_much hg (by unfold stp8; rw [if_pos hl])
     rw [hm] at this; cases this
    ·exact ih (j + 1) _ (by omega) (by omega) (h.step hT hi hf hsh hl)
 exact key f.code.length 0 (st0 f) (Nat.sub_zero _) (Nat.zero_le _) (Inv.zero f T)
def mX (f : Fx) (s : S8) : Fx := ⟨leadM s.st s.m.code,is1 s.m.sec,f.params,f.arrs⟩
theorem chk_all {f : Fx} (hl : ∀ i,f.code.getLast? = some i → lst i.op = true) : ∀ (l : List Ix) (n : Nat),(∀ (k : Nat) (i : Ix),l[k]? = some i → wrg f (n + k : Nat) i = 0) → chkL f n l = (0,-1)
 | [],n,h => by
  rw [chkL]
  unfold endF
  split
  ·rfl
  ·rename_i i hi
   rw [if_pos (hl i hi)]
 | i :: l,n,h => by
  rw [chkL,if_pos (by have := h 0 i rfl; rw [Nat.add_zero] at this; exact this)]
  have := chk_all hl l (n + 1) (fun k j hk => by rw [show n + 1 + k = n + (k + 1) by omega]; exact h (k + 1) j (by simpa using hk))
  rw [Int.natCast_add] at this
  exact this
theorem led_op (S : List Int) (i : Ix) : (led S i).op = i.op ∧ (led S i).d = i.d ∧ (led S i).a = i.a ∧ (led S i).b = i.b ∧ (led S i).c = i.c := by
 unfold led; split <;> exact ⟨rfl,rfl,rfl,rfl,rfl⟩
theorem led_rds (S : List Int) (i : Ix) : rds (led S i) = rds i := by
 obtain ⟨h1,h2,h3,h4,h5⟩ := led_op S i
 unfold rds; rw [h1,h2,h3,h4,h5]
theorem led_mks (S : List Int) (i : Ix) : mks (led S i) = mks i := by unfold mks; rw [(led_op S i).1]
theorem led_spl (f : Fx) (S : List Int) (i : Ix) : spl f (led S i) = spl f i := by
 obtain ⟨h1,h2,h3,h4,h5⟩ := led_op S i
 unfold spl; rw [h1,h2,h3,h4,led_rds,led_mks]
theorem led_shw (T : Nat → Int) (sec : List Int) (S : List Int) (i : Ix) : shwM T sec (led S i) = shwM T sec i := by
 unfold shwM; rw [led_rds,(led_op S i).1]
theorem is1_s01 {sec : List Int} (h : ∀ x ∈ sec,x = 0 ∨ x = 1) : (is1 sec).map s01 = sec := by
 unfold is1
 rw [List.map_map]
 conv => rhs; rw [← List.map_id sec]
 apply List.map_congr_left
 intro x hx
 rcases h x hx with e | e <;> (subst e; rfl)
theorem wrg_zero {f : Fx} {at' : Int} {i : Ix} (o1 : 1 ≤ i.op) (o2 : i.op ≤ 21) (hr : inR f at' i = true) (hs : spl f i = false) : wrg f at' i = 0 := by
 unfold wrg
 rw [if_neg (by omega),if_neg (by rw [hr]; simp),if_neg (by rw [hs]; simp)]
theorem Inv.wrg {f : Fx} {T : Nat → Int} {s : S8} (h : Inv f T f.code.length s) {p : Nat} {x : Ix} (hx : (mX f s).code[p]? = some x) : wrg (mX f s) p x = 0 ∧ shwM T s.m.sec x = false := by
 unfold mX leadM at hx
 rw [List.getElem?_map,Option.map_eq_some_iff] at hx
 obtain ⟨y,hy,rfl⟩ := hx
 have hP := h.pos y (List.mem_of_getElem? hy)
 obtain ⟨e1,e2,e3,e4,e5⟩ := led_op s.st y
 have hsl : ((mX f s).sec.length : Int) = s.m.sec.length := by unfold mX is1; rw [List.length_map]
 have hcl : ((mX f s).code.length : Int) = s.m.code.length := by unfold mX leadM; rw [List.length_map]
 refine ⟨wrg_zero (by rw [e1]; exact hP.o1) (by rw [e1]; exact hP.o2) ?_ ?_,by rw [led_shw]; exact hP.n⟩
 ·unfold inR
  rw [Bool.and_eq_true,Bool.and_eq_true]
  refine ⟨⟨?_,?_⟩,?_⟩
  ·rw [led_mks,e2]
   cases hm : mks y with
   | false => rfl
   | true =>
    have := hP.d hm
    rw [wi_iff.2 ⟨this.1,by rw [hsl]; exact this.2⟩]; rfl
  ·rw [led_rds,List.all_eq_true]
   intro q hq
   have := hP.r q hq
   exact wi_iff.2 ⟨this.1,by rw [hsl]; exact this.2⟩
  ·unfold ext
   rw [e1,e4]
   by_cases h14 : y.op = 14
   ·rw [if_pos h14]
    have := hP.c h14
    have ei : (led s.st y).imm = y.imm := by unfold led; rw [if_neg (by omega)]
    rw [ei,Bool.and_eq_true,decide_eq_true_eq,decide_eq_true_eq]; exact this
   ·rw [if_neg h14]
    by_cases h16 : y.op = 16 ∨ y.op = 17
    ·rw [if_pos h16]
     exact wi_iff.2 (hP.b h16)
    ·rw [if_neg h16]
     by_cases h18 : y.op = 18 ∨ y.op = 19
     ·rw [if_pos h18]
      have ei : (led s.st y).imm = gI s.st y.imm := by unfold led; rw [if_pos h18]
      obtain ⟨k,k1,k2,k3,k4⟩ := h.jmp p y hy h18
      have hlen := h.ok.len
      have hv : s.st[y.imm.toNat]? = some (gI s.st y.imm) := by
       unfold gI
       rw [List.getD_eq_getElem?_getD,List.getElem?_eq_getElem (by rw [hlen]; omega)]; rfl
      have h1 := k4 y.imm.toNat _ (by omega) hv
      have h2 := h.st _ _ hv
      rw [ei,hcl,Bool.and_eq_true,decide_eq_true_eq,decide_eq_true_eq]
      exact ⟨h1,h2.2⟩
     ·rw [if_neg h18]
 ·rw [led_spl]
  have := hP.s
  rw [spl_same (f:=mX f s) (g:=⟨[],is1 s.m.sec,0,f.arrs⟩) rfl (fun _ _ => rfl) (fun _ => rfl)]
  exact this
theorem made_right {f : Fx} {T : Nat → Int} (hR : Right f) (hT : TabR T) {s : S8} (hr : run8 f T = some s) (hm : s.much = false) : checkF (mX f s) = (0,-1) ∧ (∀ x ∈ (mX f s).code,shw (mX f s) T x = false) ∧ f.params ≤ (mX f s).sec.length ∧ (∀ p : Int,0 ≤ p → p < f.sec.length → gB (mX f s).sec p = gB f.sec p) ∧ (mX f s).code.length ≤ 12000 ∧ f.sec.length ≤ (mX f s).sec.length := by
 have h := inv_run hR hT hr hm
 have hcl : (mX f s).code.length = s.m.code.length := by unfold mX leadM; rw [List.length_map]
 obtain ⟨S,hS,_⟩ := h.ok.sec
 have hsl : (mX f s).sec.length = f.sec.length + S.length := by unfold mX is1; rw [List.length_map,hS,List.length_append,List.length_map]
 have hlast : ∀ i,(mX f s).code.getLast? = some i → lst i.op = true := fun i hi => by
  have hpos := hR.len1
  have hlt : f.code.length - 1 < f.code.length := by omega
  have hfl : f.code.getLast? = some f.code[f.code.length - 1] := by rw [List.getLast?_eq_getElem?,List.getElem?_eq_getElem hlt]
  have hll := hR.last _ hfl
  obtain ⟨x,hx,hxo⟩ := h.lst f.code[f.code.length - 1] (List.getElem?_eq_getElem hlt) hpos hll
  unfold mX leadM at hi
  rw [List.getLast?_map,hx] at hi
  have : led s.st x = i := by simpa using hi
  rw [← this,(led_op s.st x).1,hxo]; exact hll
 have hchk : checkF (mX f s) = (0,-1) := by
  unfold checkF
  have hroom : room (mX f s) = true := by
   unfold room
   simp only [Bool.and_eq_true,Bool.not_eq_true',decide_eq_false_iff_not]
   have h1 := h.len
   have h2 := hR.len1
   have h3 := h.ok.code
   have h4 := hR.p0
   have h5 := hR.p1
   have hp : (mX f s).params = f.params := rfl
   rw [hcl,hsl,hp]
   omega
  rw [if_pos hroom]
  exact chk_all hlast _ 0 (fun k i hk => by rw [Nat.zero_add]; exact (h.wrg hk).1)
 have hRX := right_of (f:=mX f s) (by rw [hchk])
 refine ⟨hchk,fun x hx => ?_,by have := hR.p1; omega,fun p h0 h1 => ?_,by rw [hcl]; exact h.ok.code,by omega⟩
 ·obtain ⟨p,hp⟩ := List.getElem?_of_mem hx
  have hf := fine_of (hRX.each p x hp)
  have := (h.wrg hp).2
  rw [← shw_same hf hT [],List.append_nil]
  show shwM T ((is1 s.m.sec).map s01) x = false
  rw [is1_s01 h.ok.g]; exact this
 ·show gB (is1 s.m.sec) p = _
  rw [hS]; exact gB_f S ⟨h0,h1⟩
end Go.Proofs.Ytfbmkcogkiejnaa.Hg
namespace Go.Proofs.Ytfbmkcogkiejnaa.Lr
set_option maxHeartbeats 32000000
set_option maxRecDepth 100000
set_option linter.unusedVariables false
open Go.ChangeShapes Go.WideShapes Go.ChangeAt Go.RowKit Lg
theorem no_iff {p : Prop} (h : ¬ p) : (false = true ↔ p) := ⟨fun e => Bool.noConfusion e,fun k => (h k).elim⟩
attribute [local go_sem ↓] Go.wp_at_zero Go.wp_at_succ
theorem sameV_any (B : Nat) (us vs : List Vr) (sa sb : Value) (w : World) (hB : B ≤ w.heap.size) (ha : VrIs w B us sa) (hb : VrIs w B vs sb) :
  Calls Try.prog 31 #[sa,sb] w fun r w' => ∃ v : Bool,r = .returned (.bool v) ∧ (v = true ↔ us = vs) ∧ Below w.heap.size w w' := by
 obtain ⟨pa,na,ca,rfl,hna,hca,hla,hea⟩ := ha
 obtain ⟨pb,nb,cb,rfl,hnb,hcb,hlb,heb⟩ := hb
 have HEA := keep hea
 have HEB := keep heb
 have HNA := keep hna
 have HNB := keep hnb
 have HBB := keep hB
 clear hea heb hna hnb hB
 by_cases hn : na = nb
 ·subst hn
  go_enter Try.func31,Try.ntmps31
  go_wp2
  go_loopw [13] (fun i wx => ∃ k : Nat,k ≤ na ∧ i = .int .i64 (k : Int) ∧ (∀ j,j < k → us[j]? = vs[j]?) ∧ Below w.heap.size w wx) (fun i _ => na - (intOf i).toNat)
  case atStart => exact ⟨0,by omega,rfl,fun j hj => by omega,Below.refl _ _⟩
  case round =>
   obtain ⟨k,hkn,rfl,hsame,hbx⟩ := hrel
   have HS := keep hsame
   have HX := keep hbx
   clear hsame hbx
   by_cases hkl : k < na
   ·have d1 : decide ((k : Int) < (na : Int)) = true := decide_eq_true (by omega)
    have hkz : (k : Int) < (na : Int) := by omega
    have hk0 : (0 : Int) ≤ (k : Int) := by omega
    obtain ⟨x,hx⟩ : ∃ x,us[k]? = some x := ⟨_,List.getElem?_eq_getElem (by rw [HNA.out]; exact hkl)⟩
    obtain ⟨y,hy⟩ : ∃ y,vs[k]? = some y := ⟨_,List.getElem?_eq_getElem (by rw [HNB.out]; exact hkl)⟩
    obtain ⟨g,o,rfl,hg,hax⟩ := HEA.out k x hx
    obtain ⟨g',o',rfl,hg',hay⟩ := HEB.out k y hy
    have HUX := keep hx
    have HVX := keep hy
    have hB := HBB.out
    have hax := hax.below HX.out (by omega)
    have hay := hay.below HX.out (by omega)
    have a0 := hax.c0
    have a1 := hax.c1
    have a2 := hax.c2
    have b0 := hay.c0
    have b1 := hay.c1
    have b2 := hay.c2
    clear hx hy hax hay HEA HEB
    have hSD : BD w wr := BD.of HX.out
    have HNE : Hid (∀ {α : Type} (f : Vr → α),¬ f x = f y → ¬ us = vs) := fun f hf e => by
     have e2 := HUX.out
     rw [e,HVX.out] at e2
     injection e2 with e3
     exact hf (by rw [e3])
    have HXY : Hid (x = y → us[k]? = vs[k]?) := fun e => by rw [HUX.out,HVX.out,e]
    obtain ⟨nx,sx,zx⟩ := x
    obtain ⟨ny,sy,zy⟩ := y
    simp only at a0 a1 a2 b0 b1 b2
    clear HUX HVX hB
    by_cases h1 : nx = ny
    ·by_cases h2 : sx = sy
     ·by_cases h3 : zx = zy
      ·subst h1 h2 h3
       have HQ := keep (HXY.out rfl)
       clear HNE HXY
       go_wp2
       go_region_held3 (fun w' => w'.cell? ⟨g,o + k * 3,none⟩ = some (.string ⟨nx.toArray⟩) ∧ w'.cell? ⟨g,o + k * 3 + 1,none⟩ = some (.bool sx) ∧ w'.cell? ⟨g,o + k * 3 + 2,none⟩ = some (.int .i64 zx) ∧
         w'.cell? ⟨g',o' + k * 3,none⟩ = some (.string ⟨nx.toArray⟩) ∧ w'.cell? ⟨g',o' + k * 3 + 1,none⟩ = some (.bool sx) ∧ w'.cell? ⟨g',o' + k * 3 + 2,none⟩ = some (.int .i64 zx) ∧ BD w w')
        (first | (go_split_ands; refine ⟨?_,?_,?_,?_,?_,?_,?_⟩ <;> first | assumption | go_keep)) (fail)
       go_wp2
       go_roundw
       case rel => exact ⟨k + 1,by omega,by go_num,fun j hj => by
        by_cases e : j = k
        ·rw [e]; exact HQ.out
        ·exact HS.out j (by omega),BD.out hSD⟩
       case measure => simp [intOf]; omega
      ·subst h1 h2
       have d3 : (zx == zy) = false := by simpa using h3
       have HQ := keep (HNE.out Vr.size h3)
       clear HNE HXY h3
       go_wp2
       go_region_held3 (fun w' => w'.cell? ⟨g,o + k * 3,none⟩ = some (.string ⟨nx.toArray⟩) ∧ w'.cell? ⟨g,o + k * 3 + 1,none⟩ = some (.bool sx) ∧ w'.cell? ⟨g,o + k * 3 + 2,none⟩ = some (.int .i64 zx) ∧
         w'.cell? ⟨g',o' + k * 3,none⟩ = some (.string ⟨nx.toArray⟩) ∧ w'.cell? ⟨g',o' + k * 3 + 1,none⟩ = some (.bool sx) ∧ w'.cell? ⟨g',o' + k * 3 + 2,none⟩ = some (.int .i64 zy) ∧ BD w w')
        (first | (go_split_ands; refine ⟨?_,?_,?_,?_,?_,?_,?_⟩ <;> first | assumption | go_keep)) (fail)
       go_wp2
       go_ret
       exact ⟨false,rfl,no_iff HQ.out,BD.out hSD⟩
     ·subst h1
      have d2 : (sx == sy) = false := by simpa using h2
      have HQ := keep (HNE.out Vr.secret h2)
      clear HNE HXY h2
      go_wp2
      go_region_held3 (fun w' => w'.cell? ⟨g,o + k * 3,none⟩ = some (.string ⟨nx.toArray⟩) ∧ w'.cell? ⟨g,o + k * 3 + 1,none⟩ = some (.bool sx) ∧ w'.cell? ⟨g,o + k * 3 + 2,none⟩ = some (.int .i64 zx) ∧
        w'.cell? ⟨g',o' + k * 3,none⟩ = some (.string ⟨nx.toArray⟩) ∧ w'.cell? ⟨g',o' + k * 3 + 1,none⟩ = some (.bool sy) ∧ w'.cell? ⟨g',o' + k * 3 + 2,none⟩ = some (.int .i64 zy) ∧ BD w w')
       (first | (go_split_ands; refine ⟨?_,?_,?_,?_,?_,?_,?_⟩ <;> first | assumption | go_keep)) (fail)
      go_wp2
      go_ret
      exact ⟨false,rfl,no_iff HQ.out,BD.out hSD⟩
    ·have d1 : (nx == ny) = false := by simpa using h1
     have HQ := keep (HNE.out Vr.name h1)
     clear HNE HXY h1
     go_wp2
     go_region_held3 (fun w' => w'.cell? ⟨g,o + k * 3,none⟩ = some (.string ⟨nx.toArray⟩) ∧ w'.cell? ⟨g,o + k * 3 + 1,none⟩ = some (.bool sx) ∧ w'.cell? ⟨g,o + k * 3 + 2,none⟩ = some (.int .i64 zx) ∧
       w'.cell? ⟨g',o' + k * 3,none⟩ = some (.string ⟨ny.toArray⟩) ∧ w'.cell? ⟨g',o' + k * 3 + 1,none⟩ = some (.bool sy) ∧ w'.cell? ⟨g',o' + k * 3 + 2,none⟩ = some (.int .i64 zy) ∧ BD w w')
      (first | (go_split_ands; refine ⟨?_,?_,?_,?_,?_,?_,?_⟩ <;> first | assumption | go_keep)) (fail)
     go_wp2
     go_ret
     exact ⟨false,rfl,no_iff HQ.out,BD.out hSD⟩
   ·have hke : k = na := by omega
    subst hke
    have HE : Hid (us = vs) := by
     show us = vs
     apply List.ext_getElem?
     intro j
     by_cases hj : j < k
     ·exact HS.out j hj
     ·rw [List.getElem?_eq_none (by rw [HNA.out]; omega),List.getElem?_eq_none (by rw [HNB.out]; omega)]
    have dk : decide ((k : Int) < (k : Int)) = false := decide_eq_false (by omega)
    clear hkl
    go_wp2
    go_ret
    exact ⟨true,rfl,⟨fun _ => HE.out,fun _ => rfl⟩,HX.out⟩
 ·have dn : ((na : Int) != (nb : Int)) = true := by simpa using fun e => hn (by omega)
  have HD := keep hn
  clear hn
  go_enter Try.func31,Try.ntmps31
  go_wp2
  go_ret
  exact ⟨false,rfl,no_iff fun h => HD.out (by rw [← HNA.out,← HNB.out,h]),Below.refl _ _⟩
end Go.Proofs.Ytfbmkcogkiejnaa.Lr
