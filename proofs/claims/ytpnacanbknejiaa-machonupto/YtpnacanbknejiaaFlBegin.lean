/- Places and arrays as they begin: flow's begin. Written by tools/gen_flbegin.py. -/
import Derived.Test.YtpnacanbknejiaaFlStep
import Derived.Test.YtpnacanbknejiaaFlFit
namespace Go.Proofs.Ytpnacanbknejiaa.Ord
set_option maxHeartbeats 32000000
set_option maxRecDepth 100000
set_option linter.unusedVariables false
theorem wpM_three {P : Program} {md : Region.Mode} {ops : Array Oper} {Q : Exit → Act → World → Prop} {S : World → Prop} {L : List Nat} {i j k : Nat} {oi oj ok : Oper} {n : Nat} {d : Array Bool} {a : Act} {w : World} (hr : Region.ready md ops d = [i,j,k]) (hi : ops[i]? = some oi) (hj : ops[j]? = some oj) (hk : ops[k]? = some ok)
  (h1 : ∀ K : Act → World → Prop,Shut (∀ a w,(L.contains i = true → S w) → wpM P md ops Q S L n (d.setIfInBounds i true) a w → K a w) → if Region.wanted oi (yielded ops a.tmps) = true then Oper.wp P oi a w K Q else K (a.put oi.dst undef) w)
  (h2 : ∀ K : Act → World → Prop,Shut (∀ a w,(L.contains j = true → S w) → wpM P md ops Q S L n (d.setIfInBounds j true) a w → K a w) → if Region.wanted oj (yielded ops a.tmps) = true then Oper.wp P oj a w K Q else K (a.put oj.dst undef) w)
  (h3 : ∀ K : Act → World → Prop,Shut (∀ a w,(L.contains k = true → S w) → wpM P md ops Q S L n (d.setIfInBounds k true) a w → K a w) → if Region.wanted ok (yielded ops a.tmps) = true then Oper.wp P ok a w K Q else K (a.put ok.dst undef) w) : wpM P md ops Q S L (n + 1) d a w :=
 ⟨fun h0 => (by rw [hr] at h0; cases h0),fun x hx => by
  rw [hr,List.mem_cons,List.mem_cons,List.mem_singleton] at hx
  rcases hx with e | e | e
  ·subst e; exact wpOp_step hi fun K hK => h1 K fun a w q1 q2 => hK a w ⟨q1,q2⟩
  ·subst e; exact wpOp_step hj fun K hK => h2 K fun a w q1 q2 => hK a w ⟨q1,q2⟩
  ·subst e; exact wpOp_step hk fun K hK => h3 K fun a w q1 q2 => hK a w ⟨q1,q2⟩⟩
end Go.Proofs.Ytpnacanbknejiaa.Ord
namespace Go.Proofs.Ytpnacanbknejiaa.Fl
set_option maxHeartbeats 32000000
set_option maxRecDepth 100000
set_option linter.unusedVariables false
set_option linter.unusedSimpArgs false
open Go.ChangeShapes Go.WideShapes Go.ChangeAt Go.RowKit Lg Lr
theorem wpList_copy_fs {P : Program} {w : World} {ops : Array Oper} {rest : List Oper} {o : Oper} {a : Act} {Q : Exit → Act → World → Prop} (hgd : o.guard = none) (d s : Operand) (dT sT : TypeId)
  (ho : o.op = .call { callee := .builtin .copy,args := #[d,s],argTypes := #[dT,sT] }) (elem : TypeId) (hu : P.underlying dT = some (.slice elem)) (hsz : (P.info? elem).map (·.size) = some 1)
  (dp sp : Option Addr) (dLen dCap sLen sCap : Nat) (hd : a.eval d = .slice dp dLen dCap) (hs : a.eval s = .slice sp sLen sCap)
  (g off : Nat) (cur : List Value) (t : TypeId) (hg : w.heap[g]? = some (.cells cur.toArray t (0,0))) (cs : List Value) (hn : cs.length = Nat.min sLen dLen)
  (hpos : 0 < cs.length → dp = some ⟨g,off,none⟩ ∧ ∃ ad,sp = some ad ∧ ∀ j v,cs[j]? = some v → w.cell? (ad.add j) = some v)
  (hfit : off + cs.length ≤ cur.length) (h1 : ∀ v ∈ cs,v.oneCell' = true)
  (h : ∀ w',Hid (Bk w' g (splice cur off cs) t) → Fs [g] w w' → wpList P ops Q rest (a.put o.dst (goInt cs.length)) w') :
  wpList P ops Q (o :: rest) a w := by
 by_cases h0 : cs.length = 0
 ·obtain rfl : cs = [] := List.eq_nil_of_length_eq_zero h0
  refine wpList_copy_nothing hgd d s dT sT ho elem hu hsz dp sp dLen dCap sLen sCap hd hs (by simpa using hn.symm) ?_
  exact h w (show Bk _ _ _ _ by unfold Bk; simpa [splice] using hg) (Fs.refl _ _)
 ·obtain ⟨rfl,ad,rfl,hsrc⟩ := hpos (by omega)
  refine wpList_copy_own hgd d s dT sT ho elem hu hsz g off dLen dCap ad sLen sCap hd hs cur.toArray t hg cs hn hsrc (by simpa using hfit) h1 ?_
  refine h _ (show Bk _ _ _ _ by unfold Bk; simpa [splice] using setRow_heap w g _ _ t _ hg) ⟨rfl,rfl,rfl,by simp,fun k hk hl => setRow_other _ _ _ _ (by simpa using hl)⟩
structure ArX (w : World) (AO lo : Nat) (ps : List (Nat × List Int)) : Prop where
 row : Bk w AO (ps.map slV) 30
 at' : ∀ p ∈ ps,AO < p.1 ∧ Bk w p.1 (p.2.map (Value.int .i64)) 3
 nd : (ps.map Prod.fst).Nodup
 lo : lo ≤ AO
theorem ArX.below {w w' : World} {AO lo : Nat} {ps : List (Nat × List Int)} (h : ArX w AO lo ps) (hb : Below w.heap.size w w') : ArX w' AO lo ps :=
 have hf := Fs.of_below (l:=[]) hb
 ⟨h.row.fs hf (by simp),fun p hp => ⟨(h.at' p hp).1,(h.at' p hp).2.fs hf (by simp)⟩,h.nd,h.lo⟩
theorem ArX.fs {w w' : World} {AO lo k : Nat} {ps : List (Nat × List Int)} (h : ArX w AO lo ps) (hf : Fs [k] w w') (h1 : AO ≠ k) (h2 : ∀ p ∈ ps,p.1 ≠ k) : ArX w' AO lo ps :=
 ⟨h.row.fs hf (by simpa using h1),fun p hp => ⟨(h.at' p hp).1,(h.at' p hp).2.fs hf (by simpa using h2 p hp)⟩,h.nd,h.lo⟩
theorem ArX.of {w w' : World} {AO n : Nat} {ps : List (Nat × List Int)} (h : ArrI w AO n n ps w') (hAO : AO = w.heap.size) (lo : Nat) (hl : lo ≤ AO) : ArX w' AO lo ps := by
 refine ⟨?_,h.at',h.nd,hl⟩
 have := h.row
 rw [Nat.sub_self,List.replicate_zero,List.append_nil] at this
 exact this
def firstP (n : Nat) (ws : List Int) : List Int := ws ++ List.replicate (n - ws.length) 0
theorem firstP_len {n : Nat} {ws : List Int} (h : ws.length ≤ n) : (firstP n ws).length = n := by unfold firstP; rw [List.length_append,List.length_replicate]; omega
theorem firstP_map {n : Nat} {ws : List Int} (h : ws.length ≤ n) : splice (List.replicate n (Value.int .i64 0)) 0 (ws.map (Value.int .i64)) = (firstP n ws).map (Value.int .i64) := by
 unfold splice firstP
 rw [List.take_zero,List.nil_append,Nat.zero_add,List.length_map,List.drop_replicate,List.map_append,List.map_replicate]
def BegP (n : Nat) (ws : List Int) (aa : List (List Int)) (w : World) (r : Ending) (w' : World) : Prop :=
 ∃ (PB AO : Nat) (ps : List (Nat × List Int)),r = .returned (.agg #[.slice (some ⟨PB,0,none⟩) n n,.slice (some ⟨AO,0,none⟩) aa.length aa.length]) ∧ ars ps = aa ∧ Mc w' PB AO (firstP n ws) ps ∧ Below w.heap.size w w' ∧ w.heap.size ≤ PB ∧ w.heap.size ≤ AO ∧ ∀ p ∈ ps,w.heap.size ≤ p.1
theorem two_there {w : World} {b : Nat} {u v : Value} {ty : TypeId} (h : Bk w b [u,v] ty) : w.there b 0 2 := fun j hj => by
 refine ⟨?_,h.fr _⟩
 rw [Nat.zero_add]
 have : j = 0 ∨ j = 1 := by omega
 rcases this with rfl | rfl
 ·rw [h.cell 0 rfl]; rfl
 ·rw [h.cell 1 rfl]; rfl
theorem set_two {w : World} {b : Nat} {u v : Value} {ty : TypeId} (h : Bk w b [u,v] ty) (x y : Value) : Bk (w.setCells b 0 [x,y]) b [x,y] ty ∧ Fs [b] w (w.setCells b 0 [x,y]) :=
 ⟨((h.set 0 x).set 1 y : _),((Fs.refl [b] w).set (by simp) 0 x).set (by simp) 1 y⟩
def RegB (n2 : Nat) (aa : List (List Int)) (t0 t1 t2 t3 t4 t6 t7 t8 t10 t11 : Value) (lo : Nat) (w3 : World) (e : Exit) (a' : Act) (w' : World) : Prop := e = .normal ∧ ∃ (SB PB AO : Nat) (ps : List (Nat × List Int)),a' = ⟨#[t0,t1,t2,t3,t4,.pointer (some ⟨SB,0,none⟩),t6,t7,t8,.slice (some ⟨PB,0,none⟩) n2 n2,t10,t11,.slice (some ⟨AO,0,none⟩) aa.length aa.length,.agg #[.slice (some ⟨PB,0,none⟩) n2 n2,.slice (some ⟨AO,0,none⟩) aa.length aa.length],undef,undef,undef,undef,undef,undef],[]⟩ ∧
 Below w3.heap.size w3 w' ∧ Bk w' SB [.slice (some ⟨PB,0,none⟩) n2 n2,.slice (some ⟨AO,0,none⟩) aa.length aa.length] 91 ∧ Bk w' PB (List.replicate n2 (Value.int .i64 0)) 3 ∧ ArX w' AO lo ps ∧ ps.map Prod.snd = aa ∧ (AO ≠ PB ∧ ∀ p ∈ ps,p.1 ≠ PB) ∧ SB ≠ PB ∧ w3.heap.size ≤ SB ∧ lo ≤ PB
theorem RegB.mk {n2 : Nat} {aa : List (List Int)} {t0 t1 t2 t3 t4 t6 t7 t8 t10 t11 : Value} {lo : Nat} {w3 v : World} {a' : Act} (SB PB AO : Nat) (ps : List (Nat × List Int)) (ha : a' = ⟨#[t0,t1,t2,t3,t4,.pointer (some ⟨SB,0,none⟩),t6,t7,t8,.slice (some ⟨PB,0,none⟩) n2 n2,t10,t11,.slice (some ⟨AO,0,none⟩) aa.length aa.length,.agg #[.slice (some ⟨PB,0,none⟩) n2 n2,.slice (some ⟨AO,0,none⟩) aa.length aa.length],undef,undef,undef,undef,undef,undef],[]⟩)
  (hb : Below w3.heap.size w3 v) (hs : Bk v SB [.slice none 0 0,.slice none 0 0] 91) (hp : Bk v PB (List.replicate n2 (Value.int .i64 0)) 3) (hA : ArX v AO lo ps) (hps : ps.map Prod.snd = aa) (h1 : AO ≠ PB ∧ ∀ p ∈ ps,p.1 ≠ PB) (h2 : SB ≠ PB) (h3 : AO ≠ SB ∧ ∀ p ∈ ps,p.1 ≠ SB) (h4 : w3.heap.size ≤ SB) (h5 : lo ≤ PB) :
  RegB n2 aa t0 t1 t2 t3 t4 t6 t7 t8 t10 t11 lo w3 .normal a' (v.setCells SB 0 [.slice (some ⟨PB,0,none⟩) n2 n2,.slice (some ⟨AO,0,none⟩) aa.length aa.length]) := by
 obtain ⟨k1,k2⟩ := set_two hs (.slice (some ⟨PB,0,none⟩) n2 n2) (.slice (some ⟨AO,0,none⟩) aa.length aa.length)
 exact ⟨rfl,SB,PB,AO,ps,ha,hb.trans (k2.below hb.size (fun k hk => by simp at hk; omega)),k1,hp.fs k2 (by simpa using Ne.symm h2),hA.fs k2 h3.1 h3.2,hps,h1,h2,h4,h5⟩
theorem begin_any (B : Nat) (f : Fx) (s1 s2 s3 : Value) (ws : List Int) (aa : List (List Int)) (gv : Value) (w : World) (hB : B ≤ w.heap.size) (h : FxIs w B f s1 s2 s3) (hg : GvIs w B ws aa gv) (hN : f.sec.length ≤ 17592186044416) (hW : ws.length ≤ f.sec.length) :
  Calls Try.prog 45 #[.agg (fxA f s1 s2 s3),gv] w fun r w' => BegP f.sec.length ws aa w r w' := by
 obtain ⟨p1,n1,c1,hs1,_⟩ := id h.code
 obtain ⟨p2,n2,c2,hs2,hn2,_⟩ := id h.sec
 obtain ⟨p3,n3,c3,hs3,_⟩ := id h.arrs
 subst hs1 hs2 hs3
 obtain ⟨t1,t2,rfl,hi,ha⟩ := hg
 have HInt := keep hi
 obtain ⟨p4,n4,c4,hs4,hl4,_,_,hq4⟩ := id hi
 obtain ⟨p5,n5,c5,hs5,hl5,_⟩ := id ha
 subst hs4 hs5
 rw [hn2] at hN hW
 rw [hn2]
 obtain ⟨pr,hpr⟩ : ∃ k : Int,f.params = k := ⟨f.params,rfl⟩
 obtain ⟨w1,hw1⟩ : ∃ y,w.alloc (.cells #[.slice p1 n1 c1,.slice p2 n2 c2,.int .i64 pr,.slice p3 n3 c3] 26) = y := ⟨_,rfl⟩
 obtain ⟨w2,hw2⟩ : ∃ y,w1.alloc (.cells #[.slice p4 n4 c4,.slice p5 n5 c5] 33) = y := ⟨_,rfl⟩
 obtain ⟨F,hF⟩ : ∃ y,w.heap.size = y := ⟨_,rfl⟩
 obtain ⟨G,hG⟩ : ∃ y,w1.heap.size = y := ⟨_,rfl⟩
 have b1 : Below w.heap.size w w1 := by rw [← hw1]; exact (Below.refl _ _).alloc (Nat.le_refl _) _
 have b2 : Below w1.heap.size w1 w2 := by rw [← hw2]; exact (Below.refl _ _).alloc (Nat.le_refl _) _
 have b12 := b1.trans (b2.mono b1.size)
 have kF1 : Bk w1 F [.slice p1 n1 c1,.slice p2 n2 c2,.int .i64 pr,.slice p3 n3 c3] 26 := by rw [← hw1,← hF]; exact Bk.new _ _ _
 have kF := kF1.fs (Fs.of_below (l:=[]) b2) (by simp)
 have kG : Bk w2 G [.slice p4 n4 c4,.slice p5 n5 c5] 33 := by rw [← hw2,← hG]; exact Bk.new _ _ _
 obtain ⟨w3,hw3⟩ : ∃ y,w2.alloc (.cells #[.slice none 0 0,.slice none 0 0] 91) = y := ⟨_,rfl⟩
 obtain ⟨Rr,hRr⟩ : ∃ y,w2.heap.size = y := ⟨_,rfl⟩
 have b3 : Below w2.heap.size w2 w3 := by rw [← hw3]; exact (Below.refl _ _).alloc (Nat.le_refl _) _
 have b13 := b12.trans (b3.mono b12.size)
 have kR : Bk w3 Rr [.slice none 0 0,.slice none 0 0] 91 := by rw [← hw3,← hRr]; exact Bk.new _ _ _
 have kF3 := kF.fs (Fs.of_below (l:=[]) b3) (by simp)
 have kG3 := kG.fs (Fs.of_below (l:=[]) b3) (by simp)
 have HFG : Hid (∀ W',Below w3.heap.size w3 W' → Bk W' F [.slice p1 n1 c1,.slice p2 n2 c2,.int .i64 pr,.slice p3 n3 c3] 26 ∧ Bk W' G [.slice p4 n4 c4,.slice p5 n5 c5] 33 ∧ Bk W' Rr [.slice none 0 0,.slice none 0 0] 91) := fun W' hW' => ⟨kF3.fs (Fs.of_below (l:=[]) hW') (by simp),kG3.fs (Fs.of_below (l:=[]) hW') (by simp),kR.fs (Fs.of_below (l:=[]) hW') (by simp)⟩
 have HSS : Hid (∀ W',Below w3.heap.size w3 W' → W'.cell? ⟨F,1,none⟩ = some (.slice p2 n2 c2) ∧ W'.cell? ⟨G,1,none⟩ = some (.slice p5 n5 c5)) := fun W' hW' => by
  obtain ⟨q1,q2,_⟩ := HFG.out W' hW'
  exact ⟨q1.cell 1 rfl,q2.cell 1 rfl⟩
 have HBw : Hid (∀ W,Below w3.heap.size w3 W → Below w.heap.size w W) := fun W hW' => b13.trans (hW'.mono b13.size)
 have HRlo : Hid (w.heap.size ≤ Rr) := by show _ ≤ _; rw [← hRr]; exact b12.size
 have HLo : Hid (F < w3.heap.size ∧ G < w3.heap.size ∧ Rr < w3.heap.size ∧ w.heap.size ≤ w3.heap.size) := ⟨kF3.lt,kG3.lt,kR.lt,b13.size⟩
 have HAr := keep (fun W (hW : Below w3.heap.size w3 W) => arrays_any B aa _ W (by have h1 := (HBw.out W hW).size; omega) (ha.below ((HBw.out W hW).mono hB)))
 have HMk := keep (fun W => make_ints n2 hN W)
 have HW1 := keep hw1
 have HW2 := keep hw2
 have HW3 := keep hw3
 have HF := keep hF
 have HG := keep hG
 have HR := keep hRr
 have HL4 := keep hl4
 have HL5 := keep hl5
 have HBB := keep hB
 have HWl := keep hW
 have hz0 : (0 : Int) ≤ (n2 : Int) := by omega
 unfold fxA
 rw [hpr]
 clear hw1 hw2 hw3 hF hG hRr b1 b2 b3 b12 b13 kF1 kF kG kR kF3 kG3 hi ha hpr h hB hq4 hl4 hl5 hW
 go_enter Try.func45,Try.ntmps45
 go_wp2_with (first | rw [HW1.out] | rw [HW2.out] | rw [HW3.out] | rw [HF.out] | rw [HG.out] | rw [HR.out] | fail)
 refine wp_mono (Q:=RegB n2 aa (.agg #[.slice p1 n1 c1,.slice p2 n2 c2,.int .i64 pr,.slice p3 n3 c3]) (.agg #[.slice p4 n4 c4,.slice p5 n5 c5]) (.pointer (some ⟨F,0,none⟩)) (.pointer (some ⟨G,0,none⟩)) (.pointer (some ⟨Rr,0,none⟩)) (.pointer (some ⟨F,1,none⟩)) (.slice p2 n2 c2) (.int .i64 (n2 : Int)) (.pointer (some ⟨G,1,none⟩)) (.slice p5 n5 c5) w3.heap.size w3) ?_ ?_
 ·refine wp_region_noPanic ?_
  refine Ord.wpM_begin (fun W' : World => W'.cell? ⟨F,1,none⟩ = some (.slice p2 n2 c2) ∧ W'.cell? ⟨G,1,none⟩ = some (.slice p5 n5 c5)) [0,1,2,3,4,5,6,7,8] (by kernel_rfl) ?_
  have HD : Hid (Below w3.heap.size w3 w3.drew) := Below.drew (Below.refl _ _)
  generalize w3.drew = wd at *
  have hS := HSS.out wd HD.out
  refine Ord.tk (i:=0) (v:=.pointer (some ⟨F,1,none⟩)) (hy:=Or.inl ⟨by rfl,by rintro W' ⟨q0,q1⟩; go_simp⟩) (hS:=hS) (h:=?_)
  try simp only [Act.put,Ord.t,Ord.z,Ord.s]
  refine Ord.tk (i:=1) (v:=.slice p2 n2 c2) (hy:=Or.inl ⟨by rfl,by rintro W' ⟨q0,q1⟩; go_simp⟩) (hS:=hS) (h:=?_)
  try simp only [Act.put,Ord.t,Ord.z,Ord.s]
  refine Ord.tk (i:=2) (v:=.int .i64 (n2 : Int)) (hy:=Or.inl ⟨by rfl,by rintro W' ⟨q0,q1⟩; go_simp⟩) (hS:=hS) (h:=?_)
  try simp only [Act.put,Ord.t,Ord.z,Ord.s]
  refine Ord.tk (i:=4) (v:=.pointer (some ⟨G,1,none⟩)) (hy:=Or.inl ⟨by rfl,by rintro W' ⟨q0,q1⟩; go_simp⟩) (hS:=hS) (h:=?_)
  try simp only [Act.put,Ord.t,Ord.z,Ord.s]
  refine Ord.tk (i:=5) (v:=.slice p5 n5 c5) (hy:=Or.inl ⟨by rfl,by rintro W' ⟨q0,q1⟩; go_simp⟩) (hS:=hS) (h:=?_)
  try simp only [Act.put,Ord.t,Ord.z,Ord.s]
  refine Ord.wpM_three (i:=3) (j:=6) (k:=8) (by kernel_rfl) (by simp only [List.getElem?_toArray,List.getElem?_cons_zero,List.getElem?_cons_succ]; rfl) (by simp only [List.getElem?_toArray,List.getElem?_cons_zero,List.getElem?_cons_succ]; rfl) (by simp only [List.getElem?_toArray,List.getElem?_cons_zero,List.getElem?_cons_succ]; rfl) (fun K hK => ?_) (fun K hK => ?_) (fun K hK => ?_)
  ·have hmk := HMk.out wd
   obtain ⟨v1,hv1⟩ : ∃ y,wd.alloc (.cells (Array.replicate n2 (Value.int .i64 0)) 3) = y := ⟨_,rfl⟩
   obtain ⟨PB,hPB⟩ : ∃ y,wd.heap.size = y := ⟨_,rfl⟩
   have hb : Below wd.heap.size wd v1 := by rw [← hv1]; exact (Below.refl _ _).alloc (Nat.le_refl _) _
   have PB_1 : Hid (Bk v1 PB (List.replicate n2 (Value.int .i64 0)) 3) := by show Bk _ _ _ _; rw [← hv1,← hPB]; exact Bk.rep _ _ _ _
   rw [hPB,hv1] at hmk
   have HB_1 := keep (HD.out.trans (hb.mono HD.out.size))
   have HPlo : Hid (w3.heap.size ≤ PB) := by have h2 := HD.out.size; show _ ≤ _; omega
   clear hPB hv1 hb
   go_simp
   refine hK.out _ _ (fun _ => HSS.out v1 HB_1.out) ?_
   clear hK K hmk
   try simp only [Act.put,Ord.t,Ord.z,Ord.s]
   have hS := HSS.out v1 HB_1.out
   refine Ord.wpM_two (i:=6) (j:=8) (by kernel_rfl) (by simp only [List.getElem?_toArray,List.getElem?_cons_zero,List.getElem?_cons_succ]; rfl) (by simp only [List.getElem?_toArray,List.getElem?_cons_zero,List.getElem?_cons_succ]; rfl) (fun K hK => ?_) (fun K hK => ?_)
   ·go_simp
    refine (HAr.out v1 HB_1.out).mono ?_
    rintro r v2 ⟨ps,rfl,hps,hI⟩
    obtain ⟨AO,hAO⟩ : ∃ y,v1.heap.size = y := ⟨_,rfl⟩
    have hb : Below v1.heap.size v1 v2 := hI.lo
    have HPs := keep hps
    rw [hAO] at hI
    have AR_2 : Hid (ArX v2 AO w3.heap.size ps) := ArX.of hI hAO.symm _ (by have h2 := HB_1.out.size; omega)
    have HB_2 := keep (HB_1.out.trans (hb.mono HB_1.out.size))
    have HNpa : Hid (AO ≠ PB ∧ ∀ p ∈ ps,p.1 ≠ PB) := ⟨by have := PB_1.out.lt; omega,fun p hp => by have := PB_1.out.lt; have := (AR_2.out.at' p hp).1; omega⟩
    have PB_3 := keep (PB_1.out.fs (Fs.of_below (l:=[]) hb) (by simp))
    rw [hAO]
    clear hAO hI hps hb
    go_simp
    refine hK.out _ _ (fun _ => HSS.out v2 HB_2.out) ?_
    clear hK K
    try simp only [Act.put,Ord.t,Ord.z,Ord.s]
    have hS := HSS.out v2 HB_2.out
    refine Ord.tk (i:=7) (v:=.agg #[.slice (some ⟨PB,0,none⟩) n2 n2,.slice (some ⟨AO,0,none⟩) aa.length aa.length]) (hy:=Or.inl ⟨by rfl,by rintro W' ⟨q0,q1⟩; go_simp⟩) (hS:=hS) (h:=?_)
    try simp only [Act.put,Ord.t,Ord.z,Ord.s]
    refine Ord.on (i:=8) (h:=fun K hK => ?_)
    obtain ⟨v4,hv4⟩ : ∃ y,v2.alloc (.cells #[.slice none 0 0,.slice none 0 0] 91) = y := ⟨_,rfl⟩
    obtain ⟨SB,hSB⟩ : ∃ y,v2.heap.size = y := ⟨_,rfl⟩
    have hb : Below v2.heap.size v2 v4 := by rw [← hv4]; exact (Below.refl _ _).alloc (Nat.le_refl _) _
    have SB_4 : Hid (Bk v4 SB [.slice none 0 0,.slice none 0 0] 91) := by show Bk _ _ _ _; rw [← hv4,← hSB]; exact Bk.new _ _ _
    have HB_4 := keep (HB_2.out.trans (hb.mono HB_2.out.size))
    have HNsr : Hid (w3.heap.size ≤ SB) := by have h2 := HB_2.out.size; show _ ≤ _; omega
    have HNsp : Hid (SB ≠ PB) := by have := PB_3.out.lt; show _ ≠ _; omega
    have HNsa : Hid (AO ≠ SB ∧ ∀ p ∈ ps,p.1 ≠ SB) := ⟨by have := AR_2.out.row.lt; omega,fun p hp => by have := (AR_2.out.at' p hp).2.lt; omega⟩
    have PB_5 := keep (PB_3.out.fs (Fs.of_below (l:=[]) hb) (by simp))
    have AR_6 := keep (AR_2.out.below hb)
    go_simp
    clear hSB hv4 hb
    refine hK.out _ _ (fun _ => HSS.out v4 HB_4.out) ?_
    clear hK K
    try simp only [Act.put,Ord.t,Ord.z,Ord.s]
    have hS := HSS.out v4 HB_4.out
    refine Ord.on (i:=9) (h:=fun K hK => ?_)
    refine step_store_mid rfl 91 (.tmp 5) (.tmp 13) rfl SB 0 #[.slice (some ⟨PB,0,none⟩) n2 n2,.slice (some ⟨AO,0,none⟩) aa.length aa.length] rfl rfl (two_there SB_4.out) (by kernel_rfl) (by simp [Value.oneCell']) ?_
    refine hK.out _ _ (fun h => absurd h (by decide)) ?_
    clear hK K
    try simp only [Act.put,Ord.t,Ord.z,Ord.s]
    refine Ord.wpM_done (by kernel_rfl) ?_ _
    refine NoPanic.normal ?_
    exact RegB.mk SB PB AO ps rfl HB_4.out SB_4.out PB_5.out AR_6.out HPs.out HNpa.out HNsp.out HNsa.out HNsr.out HPlo.out
   ·obtain ⟨v7,hv7⟩ : ∃ y,v1.alloc (.cells #[.slice none 0 0,.slice none 0 0] 91) = y := ⟨_,rfl⟩
    obtain ⟨SB,hSB⟩ : ∃ y,v1.heap.size = y := ⟨_,rfl⟩
    have hb : Below v1.heap.size v1 v7 := by rw [← hv7]; exact (Below.refl _ _).alloc (Nat.le_refl _) _
    have SB_7 : Hid (Bk v7 SB [.slice none 0 0,.slice none 0 0] 91) := by show Bk _ _ _ _; rw [← hv7,← hSB]; exact Bk.new _ _ _
    have HB_7 := keep (HB_1.out.trans (hb.mono HB_1.out.size))
    have HNsr : Hid (w3.heap.size ≤ SB) := by have h2 := HB_1.out.size; show _ ≤ _; omega
    have HNsp : Hid (SB ≠ PB) := by have := PB_1.out.lt; show _ ≠ _; omega
    have PB_8 := keep (PB_1.out.fs (Fs.of_below (l:=[]) hb) (by simp))
    go_simp
    clear hSB hv7 hb
    refine hK.out _ _ (fun _ => HSS.out v7 HB_7.out) ?_
    clear hK K
    try simp only [Act.put,Ord.t,Ord.z,Ord.s]
    have hS := HSS.out v7 HB_7.out
    refine Ord.on (i:=6) (h:=fun K hK => ?_)
    go_simp
    refine (HAr.out v7 HB_7.out).mono ?_
    rintro r v9 ⟨ps,rfl,hps,hI⟩
    obtain ⟨AO,hAO⟩ : ∃ y,v7.heap.size = y := ⟨_,rfl⟩
    have hb : Below v7.heap.size v7 v9 := hI.lo
    have HPs := keep hps
    rw [hAO] at hI
    have AR_9 : Hid (ArX v9 AO w3.heap.size ps) := ArX.of hI hAO.symm _ (by have h2 := HB_7.out.size; omega)
    have HB_9 := keep (HB_7.out.trans (hb.mono HB_7.out.size))
    have HNpa : Hid (AO ≠ PB ∧ ∀ p ∈ ps,p.1 ≠ PB) := ⟨by have := PB_8.out.lt; omega,fun p hp => by have := PB_8.out.lt; have := (AR_9.out.at' p hp).1; omega⟩
    have HNsa : Hid (AO ≠ SB ∧ ∀ p ∈ ps,p.1 ≠ SB) := ⟨by have := SB_7.out.lt; omega,fun p hp => by have := SB_7.out.lt; have := (AR_9.out.at' p hp).1; omega⟩
    have PB_10 := keep (PB_8.out.fs (Fs.of_below (l:=[]) hb) (by simp))
    have SB_11 := keep (SB_7.out.fs (Fs.of_below (l:=[]) hb) (by simp))
    rw [hAO]
    clear hAO hI hps hb
    go_simp
    refine hK.out _ _ (fun _ => HSS.out v9 HB_9.out) ?_
    clear hK K
    try simp only [Act.put,Ord.t,Ord.z,Ord.s]
    have hS := HSS.out v9 HB_9.out
    refine Ord.tk (i:=7) (v:=.agg #[.slice (some ⟨PB,0,none⟩) n2 n2,.slice (some ⟨AO,0,none⟩) aa.length aa.length]) (hy:=Or.inl ⟨by rfl,by rintro W' ⟨q0,q1⟩; go_simp⟩) (hS:=hS) (h:=?_)
    try simp only [Act.put,Ord.t,Ord.z,Ord.s]
    refine Ord.on (i:=9) (h:=fun K hK => ?_)
    refine step_store_mid rfl 91 (.tmp 5) (.tmp 13) rfl SB 0 #[.slice (some ⟨PB,0,none⟩) n2 n2,.slice (some ⟨AO,0,none⟩) aa.length aa.length] rfl rfl (two_there SB_11.out) (by kernel_rfl) (by simp [Value.oneCell']) ?_
    refine hK.out _ _ (fun h => absurd h (by decide)) ?_
    clear hK K
    try simp only [Act.put,Ord.t,Ord.z,Ord.s]
    refine Ord.wpM_done (by kernel_rfl) ?_ _
    refine NoPanic.normal ?_
    exact RegB.mk SB PB AO ps rfl HB_9.out SB_11.out PB_10.out AR_9.out HPs.out HNpa.out HNsp.out HNsa.out HNsr.out HPlo.out
  ·go_simp
   refine (HAr.out wd HD.out).mono ?_
   rintro r v12 ⟨ps,rfl,hps,hI⟩
   obtain ⟨AO,hAO⟩ : ∃ y,wd.heap.size = y := ⟨_,rfl⟩
   have hb : Below wd.heap.size wd v12 := hI.lo
   have HPs := keep hps
   rw [hAO] at hI
   have AR_12 : Hid (ArX v12 AO w3.heap.size ps) := ArX.of hI hAO.symm _ (by have h2 := HD.out.size; omega)
   have HB_12 := keep (HD.out.trans (hb.mono HD.out.size))
   rw [hAO]
   clear hAO hI hps hb
   go_simp
   refine hK.out _ _ (fun _ => HSS.out v12 HB_12.out) ?_
   clear hK K
   try simp only [Act.put,Ord.t,Ord.z,Ord.s]
   have hS := HSS.out v12 HB_12.out
   refine Ord.wpM_two (i:=3) (j:=8) (by kernel_rfl) (by simp only [List.getElem?_toArray,List.getElem?_cons_zero,List.getElem?_cons_succ]; rfl) (by simp only [List.getElem?_toArray,List.getElem?_cons_zero,List.getElem?_cons_succ]; rfl) (fun K hK => ?_) (fun K hK => ?_)
   ·have hmk := HMk.out v12
    obtain ⟨v13,hv13⟩ : ∃ y,v12.alloc (.cells (Array.replicate n2 (Value.int .i64 0)) 3) = y := ⟨_,rfl⟩
    obtain ⟨PB,hPB⟩ : ∃ y,v12.heap.size = y := ⟨_,rfl⟩
    have hb : Below v12.heap.size v12 v13 := by rw [← hv13]; exact (Below.refl _ _).alloc (Nat.le_refl _) _
    have PB_13 : Hid (Bk v13 PB (List.replicate n2 (Value.int .i64 0)) 3) := by show Bk _ _ _ _; rw [← hv13,← hPB]; exact Bk.rep _ _ _ _
    rw [hPB,hv13] at hmk
    have HB_13 := keep (HB_12.out.trans (hb.mono HB_12.out.size))
    have HPlo : Hid (w3.heap.size ≤ PB) := by have h2 := HB_12.out.size; show _ ≤ _; omega
    have HNpa : Hid (AO ≠ PB ∧ ∀ p ∈ ps,p.1 ≠ PB) := ⟨by have := AR_12.out.row.lt; omega,fun p hp => by have := (AR_12.out.at' p hp).2.lt; omega⟩
    have AR_14 := keep (AR_12.out.below hb)
    clear hPB hv13 hb
    go_simp
    refine hK.out _ _ (fun _ => HSS.out v13 HB_13.out) ?_
    clear hK K hmk
    try simp only [Act.put,Ord.t,Ord.z,Ord.s]
    have hS := HSS.out v13 HB_13.out
    refine Ord.tk (i:=7) (v:=.agg #[.slice (some ⟨PB,0,none⟩) n2 n2,.slice (some ⟨AO,0,none⟩) aa.length aa.length]) (hy:=Or.inl ⟨by rfl,by rintro W' ⟨q0,q1⟩; go_simp⟩) (hS:=hS) (h:=?_)
    try simp only [Act.put,Ord.t,Ord.z,Ord.s]
    refine Ord.on (i:=8) (h:=fun K hK => ?_)
    obtain ⟨v15,hv15⟩ : ∃ y,v13.alloc (.cells #[.slice none 0 0,.slice none 0 0] 91) = y := ⟨_,rfl⟩
    obtain ⟨SB,hSB⟩ : ∃ y,v13.heap.size = y := ⟨_,rfl⟩
    have hb : Below v13.heap.size v13 v15 := by rw [← hv15]; exact (Below.refl _ _).alloc (Nat.le_refl _) _
    have SB_15 : Hid (Bk v15 SB [.slice none 0 0,.slice none 0 0] 91) := by show Bk _ _ _ _; rw [← hv15,← hSB]; exact Bk.new _ _ _
    have HB_15 := keep (HB_13.out.trans (hb.mono HB_13.out.size))
    have HNsr : Hid (w3.heap.size ≤ SB) := by have h2 := HB_13.out.size; show _ ≤ _; omega
    have HNsp : Hid (SB ≠ PB) := by have := PB_13.out.lt; show _ ≠ _; omega
    have HNsa : Hid (AO ≠ SB ∧ ∀ p ∈ ps,p.1 ≠ SB) := ⟨by have := AR_14.out.row.lt; omega,fun p hp => by have := (AR_14.out.at' p hp).2.lt; omega⟩
    have AR_16 := keep (AR_14.out.below hb)
    have PB_17 := keep (PB_13.out.fs (Fs.of_below (l:=[]) hb) (by simp))
    go_simp
    clear hSB hv15 hb
    refine hK.out _ _ (fun _ => HSS.out v15 HB_15.out) ?_
    clear hK K
    try simp only [Act.put,Ord.t,Ord.z,Ord.s]
    have hS := HSS.out v15 HB_15.out
    refine Ord.on (i:=9) (h:=fun K hK => ?_)
    refine step_store_mid rfl 91 (.tmp 5) (.tmp 13) rfl SB 0 #[.slice (some ⟨PB,0,none⟩) n2 n2,.slice (some ⟨AO,0,none⟩) aa.length aa.length] rfl rfl (two_there SB_15.out) (by kernel_rfl) (by simp [Value.oneCell']) ?_
    refine hK.out _ _ (fun h => absurd h (by decide)) ?_
    clear hK K
    try simp only [Act.put,Ord.t,Ord.z,Ord.s]
    refine Ord.wpM_done (by kernel_rfl) ?_ _
    refine NoPanic.normal ?_
    exact RegB.mk SB PB AO ps rfl HB_15.out SB_15.out PB_17.out AR_16.out HPs.out HNpa.out HNsp.out HNsa.out HNsr.out HPlo.out
   ·obtain ⟨v18,hv18⟩ : ∃ y,v12.alloc (.cells #[.slice none 0 0,.slice none 0 0] 91) = y := ⟨_,rfl⟩
    obtain ⟨SB,hSB⟩ : ∃ y,v12.heap.size = y := ⟨_,rfl⟩
    have hb : Below v12.heap.size v12 v18 := by rw [← hv18]; exact (Below.refl _ _).alloc (Nat.le_refl _) _
    have SB_18 : Hid (Bk v18 SB [.slice none 0 0,.slice none 0 0] 91) := by show Bk _ _ _ _; rw [← hv18,← hSB]; exact Bk.new _ _ _
    have HB_18 := keep (HB_12.out.trans (hb.mono HB_12.out.size))
    have HNsr : Hid (w3.heap.size ≤ SB) := by have h2 := HB_12.out.size; show _ ≤ _; omega
    have HNsa : Hid (AO ≠ SB ∧ ∀ p ∈ ps,p.1 ≠ SB) := ⟨by have := AR_12.out.row.lt; omega,fun p hp => by have := (AR_12.out.at' p hp).2.lt; omega⟩
    have AR_19 := keep (AR_12.out.below hb)
    go_simp
    clear hSB hv18 hb
    refine hK.out _ _ (fun _ => HSS.out v18 HB_18.out) ?_
    clear hK K
    try simp only [Act.put,Ord.t,Ord.z,Ord.s]
    have hS := HSS.out v18 HB_18.out
    refine Ord.on (i:=3) (h:=fun K hK => ?_)
    have hmk := HMk.out v18
    obtain ⟨v20,hv20⟩ : ∃ y,v18.alloc (.cells (Array.replicate n2 (Value.int .i64 0)) 3) = y := ⟨_,rfl⟩
    obtain ⟨PB,hPB⟩ : ∃ y,v18.heap.size = y := ⟨_,rfl⟩
    have hb : Below v18.heap.size v18 v20 := by rw [← hv20]; exact (Below.refl _ _).alloc (Nat.le_refl _) _
    have PB_20 : Hid (Bk v20 PB (List.replicate n2 (Value.int .i64 0)) 3) := by show Bk _ _ _ _; rw [← hv20,← hPB]; exact Bk.rep _ _ _ _
    rw [hPB,hv20] at hmk
    have HB_20 := keep (HB_18.out.trans (hb.mono HB_18.out.size))
    have HPlo : Hid (w3.heap.size ≤ PB) := by have h2 := HB_18.out.size; show _ ≤ _; omega
    have HNpa : Hid (AO ≠ PB ∧ ∀ p ∈ ps,p.1 ≠ PB) := ⟨by have := AR_19.out.row.lt; omega,fun p hp => by have := (AR_19.out.at' p hp).2.lt; omega⟩
    have HNsp : Hid (SB ≠ PB) := by have := SB_18.out.lt; show _ ≠ _; omega
    have AR_21 := keep (AR_19.out.below hb)
    have SB_22 := keep (SB_18.out.fs (Fs.of_below (l:=[]) hb) (by simp))
    clear hPB hv20 hb
    go_simp
    refine hK.out _ _ (fun _ => HSS.out v20 HB_20.out) ?_
    clear hK K hmk
    try simp only [Act.put,Ord.t,Ord.z,Ord.s]
    have hS := HSS.out v20 HB_20.out
    refine Ord.tk (i:=7) (v:=.agg #[.slice (some ⟨PB,0,none⟩) n2 n2,.slice (some ⟨AO,0,none⟩) aa.length aa.length]) (hy:=Or.inl ⟨by rfl,by rintro W' ⟨q0,q1⟩; go_simp⟩) (hS:=hS) (h:=?_)
    try simp only [Act.put,Ord.t,Ord.z,Ord.s]
    refine Ord.on (i:=9) (h:=fun K hK => ?_)
    refine step_store_mid rfl 91 (.tmp 5) (.tmp 13) rfl SB 0 #[.slice (some ⟨PB,0,none⟩) n2 n2,.slice (some ⟨AO,0,none⟩) aa.length aa.length] rfl rfl (two_there SB_22.out) (by kernel_rfl) (by simp [Value.oneCell']) ?_
    refine hK.out _ _ (fun h => absurd h (by decide)) ?_
    clear hK K
    try simp only [Act.put,Ord.t,Ord.z,Ord.s]
    refine Ord.wpM_done (by kernel_rfl) ?_ _
    refine NoPanic.normal ?_
    exact RegB.mk SB PB AO ps rfl HB_20.out SB_22.out PB_20.out AR_21.out HPs.out HNpa.out HNsp.out HNsa.out HNsr.out HPlo.out
  ·obtain ⟨v23,hv23⟩ : ∃ y,wd.alloc (.cells #[.slice none 0 0,.slice none 0 0] 91) = y := ⟨_,rfl⟩
   obtain ⟨SB,hSB⟩ : ∃ y,wd.heap.size = y := ⟨_,rfl⟩
   have hb : Below wd.heap.size wd v23 := by rw [← hv23]; exact (Below.refl _ _).alloc (Nat.le_refl _) _
   have SB_23 : Hid (Bk v23 SB [.slice none 0 0,.slice none 0 0] 91) := by show Bk _ _ _ _; rw [← hv23,← hSB]; exact Bk.new _ _ _
   have HB_23 := keep (HD.out.trans (hb.mono HD.out.size))
   have HNsr : Hid (w3.heap.size ≤ SB) := by have h2 := HD.out.size; show _ ≤ _; omega
   go_simp
   clear hSB hv23 hb
   refine hK.out _ _ (fun _ => HSS.out v23 HB_23.out) ?_
   clear hK K
   try simp only [Act.put,Ord.t,Ord.z,Ord.s]
   have hS := HSS.out v23 HB_23.out
   refine Ord.wpM_two (i:=3) (j:=6) (by kernel_rfl) (by simp only [List.getElem?_toArray,List.getElem?_cons_zero,List.getElem?_cons_succ]; rfl) (by simp only [List.getElem?_toArray,List.getElem?_cons_zero,List.getElem?_cons_succ]; rfl) (fun K hK => ?_) (fun K hK => ?_)
   ·have hmk := HMk.out v23
    obtain ⟨v24,hv24⟩ : ∃ y,v23.alloc (.cells (Array.replicate n2 (Value.int .i64 0)) 3) = y := ⟨_,rfl⟩
    obtain ⟨PB,hPB⟩ : ∃ y,v23.heap.size = y := ⟨_,rfl⟩
    have hb : Below v23.heap.size v23 v24 := by rw [← hv24]; exact (Below.refl _ _).alloc (Nat.le_refl _) _
    have PB_24 : Hid (Bk v24 PB (List.replicate n2 (Value.int .i64 0)) 3) := by show Bk _ _ _ _; rw [← hv24,← hPB]; exact Bk.rep _ _ _ _
    rw [hPB,hv24] at hmk
    have HB_24 := keep (HB_23.out.trans (hb.mono HB_23.out.size))
    have HPlo : Hid (w3.heap.size ≤ PB) := by have h2 := HB_23.out.size; show _ ≤ _; omega
    have HNsp : Hid (SB ≠ PB) := by have := SB_23.out.lt; show _ ≠ _; omega
    have SB_25 := keep (SB_23.out.fs (Fs.of_below (l:=[]) hb) (by simp))
    clear hPB hv24 hb
    go_simp
    refine hK.out _ _ (fun _ => HSS.out v24 HB_24.out) ?_
    clear hK K hmk
    try simp only [Act.put,Ord.t,Ord.z,Ord.s]
    have hS := HSS.out v24 HB_24.out
    refine Ord.on (i:=6) (h:=fun K hK => ?_)
    go_simp
    refine (HAr.out v24 HB_24.out).mono ?_
    rintro r v26 ⟨ps,rfl,hps,hI⟩
    obtain ⟨AO,hAO⟩ : ∃ y,v24.heap.size = y := ⟨_,rfl⟩
    have hb : Below v24.heap.size v24 v26 := hI.lo
    have HPs := keep hps
    rw [hAO] at hI
    have AR_26 : Hid (ArX v26 AO w3.heap.size ps) := ArX.of hI hAO.symm _ (by have h2 := HB_24.out.size; omega)
    have HB_26 := keep (HB_24.out.trans (hb.mono HB_24.out.size))
    have HNpa : Hid (AO ≠ PB ∧ ∀ p ∈ ps,p.1 ≠ PB) := ⟨by have := PB_24.out.lt; omega,fun p hp => by have := PB_24.out.lt; have := (AR_26.out.at' p hp).1; omega⟩
    have HNsa : Hid (AO ≠ SB ∧ ∀ p ∈ ps,p.1 ≠ SB) := ⟨by have := SB_25.out.lt; omega,fun p hp => by have := SB_25.out.lt; have := (AR_26.out.at' p hp).1; omega⟩
    have SB_27 := keep (SB_25.out.fs (Fs.of_below (l:=[]) hb) (by simp))
    have PB_28 := keep (PB_24.out.fs (Fs.of_below (l:=[]) hb) (by simp))
    rw [hAO]
    clear hAO hI hps hb
    go_simp
    refine hK.out _ _ (fun _ => HSS.out v26 HB_26.out) ?_
    clear hK K
    try simp only [Act.put,Ord.t,Ord.z,Ord.s]
    have hS := HSS.out v26 HB_26.out
    refine Ord.tk (i:=7) (v:=.agg #[.slice (some ⟨PB,0,none⟩) n2 n2,.slice (some ⟨AO,0,none⟩) aa.length aa.length]) (hy:=Or.inl ⟨by rfl,by rintro W' ⟨q0,q1⟩; go_simp⟩) (hS:=hS) (h:=?_)
    try simp only [Act.put,Ord.t,Ord.z,Ord.s]
    refine Ord.on (i:=9) (h:=fun K hK => ?_)
    refine step_store_mid rfl 91 (.tmp 5) (.tmp 13) rfl SB 0 #[.slice (some ⟨PB,0,none⟩) n2 n2,.slice (some ⟨AO,0,none⟩) aa.length aa.length] rfl rfl (two_there SB_27.out) (by kernel_rfl) (by simp [Value.oneCell']) ?_
    refine hK.out _ _ (fun h => absurd h (by decide)) ?_
    clear hK K
    try simp only [Act.put,Ord.t,Ord.z,Ord.s]
    refine Ord.wpM_done (by kernel_rfl) ?_ _
    refine NoPanic.normal ?_
    exact RegB.mk SB PB AO ps rfl HB_26.out SB_27.out PB_28.out AR_26.out HPs.out HNpa.out HNsp.out HNsa.out HNsr.out HPlo.out
   ·go_simp
    refine (HAr.out v23 HB_23.out).mono ?_
    rintro r v29 ⟨ps,rfl,hps,hI⟩
    obtain ⟨AO,hAO⟩ : ∃ y,v23.heap.size = y := ⟨_,rfl⟩
    have hb : Below v23.heap.size v23 v29 := hI.lo
    have HPs := keep hps
    rw [hAO] at hI
    have AR_29 : Hid (ArX v29 AO w3.heap.size ps) := ArX.of hI hAO.symm _ (by have h2 := HB_23.out.size; omega)
    have HB_29 := keep (HB_23.out.trans (hb.mono HB_23.out.size))
    have HNsa : Hid (AO ≠ SB ∧ ∀ p ∈ ps,p.1 ≠ SB) := ⟨by have := SB_23.out.lt; omega,fun p hp => by have := SB_23.out.lt; have := (AR_29.out.at' p hp).1; omega⟩
    have SB_30 := keep (SB_23.out.fs (Fs.of_below (l:=[]) hb) (by simp))
    rw [hAO]
    clear hAO hI hps hb
    go_simp
    refine hK.out _ _ (fun _ => HSS.out v29 HB_29.out) ?_
    clear hK K
    try simp only [Act.put,Ord.t,Ord.z,Ord.s]
    have hS := HSS.out v29 HB_29.out
    refine Ord.on (i:=3) (h:=fun K hK => ?_)
    have hmk := HMk.out v29
    obtain ⟨v31,hv31⟩ : ∃ y,v29.alloc (.cells (Array.replicate n2 (Value.int .i64 0)) 3) = y := ⟨_,rfl⟩
    obtain ⟨PB,hPB⟩ : ∃ y,v29.heap.size = y := ⟨_,rfl⟩
    have hb : Below v29.heap.size v29 v31 := by rw [← hv31]; exact (Below.refl _ _).alloc (Nat.le_refl _) _
    have PB_31 : Hid (Bk v31 PB (List.replicate n2 (Value.int .i64 0)) 3) := by show Bk _ _ _ _; rw [← hv31,← hPB]; exact Bk.rep _ _ _ _
    rw [hPB,hv31] at hmk
    have HB_31 := keep (HB_29.out.trans (hb.mono HB_29.out.size))
    have HPlo : Hid (w3.heap.size ≤ PB) := by have h2 := HB_29.out.size; show _ ≤ _; omega
    have HNpa : Hid (AO ≠ PB ∧ ∀ p ∈ ps,p.1 ≠ PB) := ⟨by have := AR_29.out.row.lt; omega,fun p hp => by have := (AR_29.out.at' p hp).2.lt; omega⟩
    have HNsp : Hid (SB ≠ PB) := by have := SB_30.out.lt; show _ ≠ _; omega
    have SB_32 := keep (SB_30.out.fs (Fs.of_below (l:=[]) hb) (by simp))
    have AR_33 := keep (AR_29.out.below hb)
    clear hPB hv31 hb
    go_simp
    refine hK.out _ _ (fun _ => HSS.out v31 HB_31.out) ?_
    clear hK K hmk
    try simp only [Act.put,Ord.t,Ord.z,Ord.s]
    have hS := HSS.out v31 HB_31.out
    refine Ord.tk (i:=7) (v:=.agg #[.slice (some ⟨PB,0,none⟩) n2 n2,.slice (some ⟨AO,0,none⟩) aa.length aa.length]) (hy:=Or.inl ⟨by rfl,by rintro W' ⟨q0,q1⟩; go_simp⟩) (hS:=hS) (h:=?_)
    try simp only [Act.put,Ord.t,Ord.z,Ord.s]
    refine Ord.on (i:=9) (h:=fun K hK => ?_)
    refine step_store_mid rfl 91 (.tmp 5) (.tmp 13) rfl SB 0 #[.slice (some ⟨PB,0,none⟩) n2 n2,.slice (some ⟨AO,0,none⟩) aa.length aa.length] rfl rfl (two_there SB_32.out) (by kernel_rfl) (by simp [Value.oneCell']) ?_
    refine hK.out _ _ (fun h => absurd h (by decide)) ?_
    clear hK K
    try simp only [Act.put,Ord.t,Ord.z,Ord.s]
    refine Ord.wpM_done (by kernel_rfl) ?_ _
    refine NoPanic.normal ?_
    exact RegB.mk SB PB AO ps rfl HB_31.out SB_32.out PB_31.out AR_33.out HPs.out HNpa.out HNsp.out HNsa.out HNsr.out HPlo.out
 ·rintro e a' v ⟨rfl,SB,PB,AO,ps,rfl,hb,hS,hP,hA,hps,hne,hsp,hsr,hlo⟩
  obtain ⟨_,hG',hR'⟩ := HFG.out v hb
  have HV := keep hb
  have HPs := keep hps
  have HNe := keep hne
  have HLo2 := keep hlo
  have HSB := keep hS
  have HPB := keep hP
  have HAX := keep hA
  have HSp := keep hsp
  have c0 := hS.cell 0 rfl
  have g0 := hG'.cell 0 rfl
  have HGR := keep (And.intro hG' hR')
  have HSr := keep hsr
  clear hb hP hA hps hne hsp hsr hlo hS hG' hR'
  obtain ⟨cs,hcs⟩ : ∃ cs,cs = ws.map (Value.int .i64) := ⟨_,rfl⟩
  have HCN : Hid (cs.length = Nat.min n4 n2) := by
   show _ = _
   rw [hcs,List.length_map,HL4.out]
   have h1 := HWl.out
   rw [HL4.out] at h1
   exact (Nat.min_eq_left h1).symm
  have HIv := keep (HInt.out.below ((HBw.out v HV.out).mono HBB.out))
  have HPos : Hid (0 < cs.length → some (⟨PB,0,none⟩ : Addr) = some ⟨PB,0,none⟩ ∧ ∃ ad,p4 = some ad ∧ ∀ k u,cs[k]? = some u → v.cell? (ad.add k) = some u) := by
   intro hp
   refine ⟨rfl,?_⟩
   obtain ⟨q1,q2,q3,q4,q5,q6,q7,q8⟩ := HIv.out
   cases q4
   obtain ⟨x,hx⟩ : ∃ x,ws[0]? = some x := ⟨_,List.getElem?_eq_getElem (by rw [hcs,List.length_map] at hp; exact hp)⟩
   obtain ⟨g',o',e1,q2,_⟩ := q8 0 x hx
   refine ⟨⟨g',o',none⟩,e1,fun k u hk => ?_⟩
   rw [hcs,List.getElem?_map,Option.map_eq_some_iff] at hk
   obtain ⟨y,hy,rfl⟩ := hk
   obtain ⟨g2,o2,e2,q3,q4⟩ := q8 k y hy
   rw [e1] at e2
   cases e2
   rw [show (⟨g',o',none⟩ : Addr).add k = ⟨g',o' + k,none⟩ from by simp [Addr.add]]
   exact q4
  have HFit : Hid (0 + cs.length ≤ (List.replicate n2 (Value.int .i64 0)).length) := by
   show _ ≤ _
   rw [List.length_replicate,HCN.out,Nat.zero_add]; exact Nat.min_le_right _ _
  have HOne : Hid (∀ u ∈ cs,u.oneCell' = true) := by
   intro u hu
   rw [hcs] at hu
   obtain ⟨y,_,rfl⟩ := List.mem_map.1 hu
   rfl
  have HCS := keep hcs
  clear hcs
  go_wp2_with (first | (refine wpList_copy_fs rfl (.tmp 15) (.tmp 17) 30 30 rfl 3 (by kernel_rfl) (by kernel_rfl) _ _ _ _ _ _ rfl rfl PB 0 (List.replicate n2 (Value.int .i64 0)) 3 HPB.out cs HCN.out HPos.out HFit.out HOne.out ?_) | fail)
  intro x hgx hfx
  have HPx : Hid (Bk x PB ((firstP n2 ws).map (Value.int .i64)) 3) := by
   have h1 := hgx.out
   rw [HCS.out,firstP_map HWl.out] at h1
   exact h1
  have HAx := keep (HAX.out.fs hfx HNe.out.1 HNe.out.2)
  have kSx := HSB.out.fs hfx (by simpa using HSp.out)
  have kRx := HGR.out.2.fs hfx (by simp; have h1 := HLo.out.2.2.1; have h2 := HLo2.out; omega)
  have HFx : Hid (Below w.heap.size w x) := by
   have h1 := HBw.out v HV.out
   exact h1.trans (hfx.below h1.size (fun k hk => by simp at hk; have h3 := HLo2.out; have h4 := HLo.out.2.2.2; omega))
  have s0 := kSx.cell 0 rfl
  have s1 := kSx.cell 1 rfl
  have r0 := kRx.cell 0 rfl
  have r1 := kRx.cell 1 rfl
  have rf0 := kRx.fr 0
  have rf1 := kRx.fr 1
  have HKR := keep kRx
  clear hgx hfx kSx kRx c0 g0
  have HNr : Hid (PB ≠ Rr ∧ AO ≠ Rr ∧ ∀ p ∈ ps,p.1 ≠ Rr) := ⟨by have h1 := HLo.out.2.2.1; have h2 := HLo2.out; omega,by have h1 := HLo.out.2.2.1; have h2 := HAX.out.lo; omega,fun p hp => by have h1 := HLo.out.2.2.1; have h2 := HAX.out.lo; have h3 := (HAX.out.at' p hp).1; omega⟩
  go_wp2
  obtain ⟨k1,k2⟩ := set_two HKR.out (.slice (some ⟨PB,0,none⟩) n2 n2) (.slice (some ⟨AO,0,none⟩) aa.length aa.length)
  refine bodyPost_ret (results_cell_row rfl _ _ Rr _ #[.slice (some ⟨PB,0,none⟩) n2 n2,.slice (some ⟨AO,0,none⟩) aa.length aa.length] (0,0) _ rfl k1 Try.underlying91 rfl (by kernel_rfl)) rfl ?_
  have hA := HAx.out.fs k2 HNr.out.2.1 HNr.out.2.2
  have h0 := HLo.out.2.2.2
  have h1 := HLo2.out
  have h2 := HAX.out.lo
  have h4 := HRlo.out
  exact ⟨PB,AO,ps,rfl,HPs.out,⟨HPx.out.fs k2 (by simpa using HNr.out.1),hA.row,fun p hp => (hA.at' p hp).2,hA.nd,HNe.out.1,fun p hp => ⟨HNe.out.2 p hp,by have := (hA.at' p hp).1; omega⟩⟩,HFx.out.trans (k2.below HFx.out.size (fun k hk => by simp at hk; omega)),by omega,by omega,fun p hp => by have := (hA.at' p hp).1; omega⟩
end Go.Proofs.Ytpnacanbknejiaa.Fl
