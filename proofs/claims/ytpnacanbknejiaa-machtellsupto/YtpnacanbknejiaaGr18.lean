/- Laid together: FlIdx, FlIn, FlSp, FlChk, FlFit, FlBegin. -/
import Derived.Test.YtpnacanbknejiaaGr7
import Derived.Test.YtpnacanbknejiaaFlStep
namespace Go.Proofs.Ytpnacanbknejiaa.Fl
set_option linter.unusedVariables false
set_option linter.unusedSimpArgs false
open Go.ChangeShapes Go.WideShapes Go.ChangeAt Go.RowKit Lg Lr
structure BoxF (w : World) (P : Nat) (B : Nat) (f : Fx) (s1 s2 s3 : Value) : Prop where
 box : Bk w P [s1,s2,.int .i64 f.params,s3] 26
 is : FxIs w B f s1 s2 s3
 le : B ≤ w.heap.size
theorem BoxF.below {w w' : World} {P B : Nat} {f : Fx} {s1 s2 s3 : Value} (h : BoxF w P B f s1 s2 s3) (hb : Below w.heap.size w w') : BoxF w' P B f s1 s2 s3 := ⟨h.box.fs (Fs.of_below (l:=[]) hb) (by simp),h.is.below (hb.mono h.le),Nat.le_trans h.le hb.size⟩
theorem bools_at {w : World} {B : Nat} {l : List Bool} {p : Option Addr} {n : Nat} (hn : l.length = n) (hq : ∀ j x,l[j]? = some x → ∃ g o,p = some ⟨g,o,none⟩ ∧ g < B ∧ w.cell? ⟨g,o + j,none⟩ = some (.bool x)) {k : Nat} (hk : k < n) : ∃ g o,p = some ⟨g,o,none⟩ ∧ g < B ∧ w.cell? ⟨g,o + k,none⟩ = some (.bool (gB l (k : Int))) := by
 obtain ⟨v,hv⟩ : ∃ v,l[k]? = some v := ⟨_,List.getElem?_eq_getElem (by omega)⟩
 have e : gB l (k : Int) = v := by unfold gB; rw [Int.toNat_natCast,List.getD_eq_getElem?_getD,hv]; rfl
 rw [e]
 exact hq k v hv
theorem vars_at {w : World} {B : Nat} {l : List Vr} {p : Option Addr} {n : Nat} (hn : l.length = n) (hq : ∀ j v,l[j]? = some v → ∃ g o,p = some ⟨g,o,none⟩ ∧ g < B ∧ VrAt w g (o + j * 3) v) {k : Nat} (hk : k < n) : ∃ g o,p = some ⟨g,o,none⟩ ∧ g < B ∧ w.cell? ⟨g,o + k * 3 + 1,none⟩ = some (.bool (vB l (k : Int))) := by
 obtain ⟨v,hv⟩ : ∃ v,l[k]? = some v := ⟨_,List.getElem?_eq_getElem (by omega)⟩
 have e : vB l (k : Int) = v.secret := by unfold vB; rw [Int.toNat_natCast,hv]; rfl
 rw [e]
 obtain ⟨g,o,h1,h2,h3⟩ := hq k v hv
 exact ⟨g,o,h1,h2,h3.c1⟩
structure There (f : Fx) (i : Ix) : Prop where
 d : mks i = true → 0 ≤ i.d ∧ i.d < f.sec.length
 r : ∀ p ∈ rds i,0 ≤ p ∧ p < f.sec.length
 b : i.op = 16 ∨ i.op = 17 → 0 ≤ i.b ∧ i.b < f.arrs.length
def ChkP (f : Fx) (w : World) (r : Ending) (w' : World) : Prop := r = .returned (.tuple #[.int .i64 (checkF f).1,.int .i64 (checkF f).2]) ∧ Below w.heap.size w w'
theorem ChkP.mk {f : Fx} {w w' : World} {a b : Int} (h : checkF f = (a,b)) (hb : Below w.heap.size w w') : ChkP f w (.returned (.tuple #[.int .i64 a,.int .i64 b])) w' := by
 refine ⟨?_,hb⟩
 rw [h]
end Go.Proofs.Ytpnacanbknejiaa.Fl
namespace Go.Proofs.Ytpnacanbknejiaa.Ord
set_option linter.unusedVariables false
theorem wpM_three {P : Program} {md : Region.Mode} {ops : Array Oper} {Q : Exit → Act → World → Prop} {S : World → Prop} {L : List Nat} {i j k : Nat} {oi oj ok : Oper} {n : Nat} {d : Array Bool} {a : Act} {w : World} (hr : Region.ready md ops d = [i,j,k]) (hi : ops[i]? = some oi) (hj : ops[j]? = some oj) (hk : ops[k]? = some ok)
  (h1 : ∀ K : Act → World → Prop,Shut (∀ a w,(L.contains i = true → S w) → wpM P md ops Q S L n (d.setIfInBounds i true) a w → K a w) → if Region.wanted oi (yielded ops a.tmps) = true then Oper.wp P oi a w K Q else K (a.put oi.dst undef) w)
  (h2 : ∀ K : Act → World → Prop,Shut (∀ a w,(L.contains j = true → S w) → wpM P md ops Q S L n (d.setIfInBounds j true) a w → K a w) → if Region.wanted oj (yielded ops a.tmps) = true then Oper.wp P oj a w K Q else K (a.put oj.dst undef) w)
  (h3 : ∀ K : Act → World → Prop,Shut (∀ a w,(L.contains k = true → S w) → wpM P md ops Q S L n (d.setIfInBounds k true) a w → K a w) → if Region.wanted ok (yielded ops a.tmps) = true then Oper.wp P ok a w K Q else K (a.put ok.dst undef) w) : wpM P md ops Q S L (n + 1) d a w :=
 ⟨fun h0 => (by rw [hr] at h0; cases h0),fun x hx => by
  rw [hr,List.mem_cons,List.mem_cons,List.mem_singleton] at hx
  rcases hx with e | e | e
  ·subst e; exact wpOp_step hi fun K hK => h1 K fun a w q1 q2 => hK a w ⟨q1,q2⟩
  ·subst e; exact wpOp_step hj fun K hK => h2 K fun a w q1 q2 => hK a w ⟨q1,q2⟩
  ·subst e; exact wpOp_step hk fun K hK => h3 K fun a w q1 q2 => hK a w ⟨q1,q2⟩⟩
end Go.Proofs.Ytpnacanbknejiaa.Ord
namespace Go.Proofs.Ytpnacanbknejiaa.Fl
set_option linter.unusedVariables false
set_option linter.unusedSimpArgs false
open Go.ChangeShapes Go.WideShapes Go.ChangeAt Go.RowKit Lg Lr
structure ArX (w : World) (AO lo : Nat) (ps : List (Nat × List Int)) : Prop where
 row : Bk w AO (ps.map slV) 30
 at' : ∀ p ∈ ps,AO < p.1 ∧ Bk w p.1 (p.2.map (Value.int .i64)) 3
 nd : (ps.map Prod.fst).Nodup
 lo : lo ≤ AO
theorem ArX.below {w w' : World} {AO lo : Nat} {ps : List (Nat × List Int)} (h : ArX w AO lo ps) (hb : Below w.heap.size w w') : ArX w' AO lo ps :=
 have hf := Fs.of_below (l:=[]) hb
 ⟨h.row.fs hf (by simp),fun p hp => ⟨(h.at' p hp).1,(h.at' p hp).2.fs hf (by simp)⟩,h.nd,h.lo⟩
theorem ArX.fs {w w' : World} {AO lo k : Nat} {ps : List (Nat × List Int)} (h : ArX w AO lo ps) (hf : Fs [k] w w') (h1 : AO ≠ k) (h2 : ∀ p ∈ ps,p.1 ≠ k) : ArX w' AO lo ps :=
 ⟨h.row.fs hf (by simpa using h1),fun p hp => ⟨(h.at' p hp).1,(h.at' p hp).2.fs hf (by simpa using h2 p hp)⟩,h.nd,h.lo⟩
theorem ArX.of {w w' : World} {AO n : Nat} {ps : List (Nat × List Int)} (h : ArrI w AO n n ps w') (hAO : AO = w.heap.size) (lo : Nat) (hl : lo ≤ AO) : ArX w' AO lo ps := by
 refine ⟨?_,h.at',h.nd,hl⟩
 have := h.row
 rw [Nat.sub_self,List.replicate_zero,List.append_nil] at this
 exact this
theorem two_there {w : World} {b : Nat} {u v : Value} {ty : TypeId} (h : Bk w b [u,v] ty) : w.there b 0 2 := fun j hj => by
 refine ⟨?_,h.fr _⟩
 rw [Nat.zero_add]
 have : j = 0 ∨ j = 1 := by omega
 rcases this with rfl | rfl
 ·rw [h.cell 0 rfl]; rfl
 ·rw [h.cell 1 rfl]; rfl
theorem set_two {w : World} {b : Nat} {u v : Value} {ty : TypeId} (h : Bk w b [u,v] ty) (x y : Value) : Bk (w.setCells b 0 [x,y]) b [x,y] ty ∧ Fs [b] w (w.setCells b 0 [x,y]) :=
 ⟨((h.set 0 x).set 1 y : _),((Fs.refl [b] w).set (by simp) 0 x).set (by simp) 1 y⟩
def RegB (n2 : Nat) (aa : List (List Int)) (t0 t1 t2 t3 t4 t6 t7 t8 t10 t11 : Value) (lo : Nat) (w3 : World) (e : Exit) (a' : Act) (w' : World) : Prop := e = .normal ∧ ∃ (SB PB AO : Nat) (ps : List (Nat × List Int)),a' = ⟨#[t0,t1,t2,t3,t4,.pointer (some ⟨SB,0,none⟩),t6,t7,t8,.slice (some ⟨PB,0,none⟩) n2 n2,t10,t11,.slice (some ⟨AO,0,none⟩) aa.length aa.length,.agg #[.slice (some ⟨PB,0,none⟩) n2 n2,.slice (some ⟨AO,0,none⟩) aa.length aa.length],undef,undef,undef,undef,undef,undef],[]⟩ ∧
 Below w3.heap.size w3 w' ∧ Bk w' SB [.slice (some ⟨PB,0,none⟩) n2 n2,.slice (some ⟨AO,0,none⟩) aa.length aa.length] 91 ∧ Bk w' PB (List.replicate n2 (Value.int .i64 0)) 3 ∧ ArX w' AO lo ps ∧ ps.map Prod.snd = aa ∧ (AO ≠ PB ∧ ∀ p ∈ ps,p.1 ≠ PB) ∧ SB ≠ PB ∧ w3.heap.size ≤ SB ∧ lo ≤ PB
theorem RegB.mk {n2 : Nat} {aa : List (List Int)} {t0 t1 t2 t3 t4 t6 t7 t8 t10 t11 : Value} {lo : Nat} {w3 v : World} {a' : Act} (SB PB AO : Nat) (ps : List (Nat × List Int)) (ha : a' = ⟨#[t0,t1,t2,t3,t4,.pointer (some ⟨SB,0,none⟩),t6,t7,t8,.slice (some ⟨PB,0,none⟩) n2 n2,t10,t11,.slice (some ⟨AO,0,none⟩) aa.length aa.length,.agg #[.slice (some ⟨PB,0,none⟩) n2 n2,.slice (some ⟨AO,0,none⟩) aa.length aa.length],undef,undef,undef,undef,undef,undef],[]⟩)
  (hb : Below w3.heap.size w3 v) (hs : Bk v SB [.slice none 0 0,.slice none 0 0] 91) (hp : Bk v PB (List.replicate n2 (Value.int .i64 0)) 3) (hA : ArX v AO lo ps) (hps : ps.map Prod.snd = aa) (h1 : AO ≠ PB ∧ ∀ p ∈ ps,p.1 ≠ PB) (h2 : SB ≠ PB) (h3 : AO ≠ SB ∧ ∀ p ∈ ps,p.1 ≠ SB) (h4 : w3.heap.size ≤ SB) (h5 : lo ≤ PB) :
  RegB n2 aa t0 t1 t2 t3 t4 t6 t7 t8 t10 t11 lo w3 .normal a' (v.setCells SB 0 [.slice (some ⟨PB,0,none⟩) n2 n2,.slice (some ⟨AO,0,none⟩) aa.length aa.length]) := by
 obtain ⟨k1,k2⟩ := set_two hs (.slice (some ⟨PB,0,none⟩) n2 n2) (.slice (some ⟨AO,0,none⟩) aa.length aa.length)
 exact ⟨rfl,SB,PB,AO,ps,ha,hb.trans (k2.below hb.size (fun k hk => by simp at hk; omega)),k1,hp.fs k2 (by simpa using Ne.symm h2),hA.fs k2 h3.1 h3.2,hps,h1,h2,h4,h5⟩
end Go.Proofs.Ytpnacanbknejiaa.Fl
