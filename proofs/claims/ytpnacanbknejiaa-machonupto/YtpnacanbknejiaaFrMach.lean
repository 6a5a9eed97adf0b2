/- The document's machine: how its places and arrays lie, while instructions are done. -/
import Derived.Test.YtpnacanbknejiaaFlRun
namespace Go.Proofs.Ytpnacanbknejiaa.Fl
set_option linter.unusedVariables false
set_option linter.unusedSimpArgs false
open Go.ChangeShapes Go.WideShapes Go.ChangeAt Go.RowKit Lg Lr
def ArAt (w : World) (s : Value) (p : Nat × List Int) : Prop := ∃ c ex,s = .slice (some ⟨p.1,0,none⟩) p.2.length c ∧ p.2.length ≤ c ∧ Bk w p.1 (p.2.map (Value.int .i64) ++ ex) 3
theorem ArAt.fs {w w' : World} {s : Value} {p : Nat × List Int} {l : List Nat} (h : ArAt w s p) (hf : Fs l w w') (hn : p.1 ∉ l) : ArAt w' s p := by
 obtain ⟨c,ex,h1,h2,h3⟩ := h
 exact ⟨c,ex,h1,h2,h3.fs hf hn⟩
theorem ArAt.lt {w : World} {s : Value} {p : Nat × List Int} (h : ArAt w s p) : p.1 < w.heap.size := by
 obtain ⟨c,ex,h1,h2,h3⟩ := h
 exact h3.lt
theorem cell_fs {w w' : World} {l : List Nat} {b k : Nat} (hf : Fs l w w') (hb : b < w.heap.size) (hn : b ∉ l) : w'.cell? ⟨b,k,none⟩ = w.cell? ⟨b,k,none⟩ := World.cell?_of_block (hf.block b hb hn)
structure RA (w : World) (AO : Nat) (av : Value) (ps : List (Nat × List Int)) : Prop where
 av : ∃ pv c,av = .slice pv ps.length c ∧ ps.length ≤ c ∧ (ps ≠ [] → pv = some ⟨AO,0,none⟩ ∧ AO < w.heap.size)
 at' : ∀ j p,ps[j]? = some p → ∃ s,w.cell? ⟨AO,j,none⟩ = some s ∧ ArAt w s p
 nd : (ps.map Prod.fst).Nodup
 na : ∀ p ∈ ps,p.1 ≠ AO
theorem RA.fs {w w' : World} {AO : Nat} {av : Value} {ps : List (Nat × List Int)} {l : List Nat} (h : RA w AO av ps) (hf : Fs l w w') (h1 : ps ≠ [] → AO ∉ l) (h2 : ∀ p ∈ ps,p.1 ∉ l) : RA w' AO av ps := by
 obtain ⟨pv,c,e,hc,ha⟩ := h.av
 refine ⟨⟨pv,c,e,hc,fun hn => ⟨(ha hn).1,by have := (ha hn).2; have := hf.size; omega⟩⟩,fun j p hp => ?_,h.nd,h.na⟩
 have hm := List.mem_of_getElem? hp
 have hne : ps ≠ [] := List.ne_nil_of_mem hm
 obtain ⟨s,hs,hr⟩ := h.at' j p hp
 exact ⟨s,by rw [cell_fs hf (ha hne).2 (h1 hne)]; exact hs,hr.fs hf (h2 p hm)⟩
structure RM (md : Int) (w : World) (MB PB AO : Nat) (av : Value) (P : List Int) (ps : List (Nat × List Int)) : Prop where
 m : Bk w MB [.slice (some ⟨PB,0,none⟩) P.length P.length,av,.int .i64 md] 97
 pl : Bk w PB (P.map (Value.int .i64)) 3
 ar : RA w AO av ps
 ne : MB ≠ PB
 ao : ps ≠ [] → AO ≠ PB ∧ AO ≠ MB
 np : ∀ p ∈ ps,p.1 ≠ PB ∧ p.1 ≠ MB
theorem RM.place {w : World} {md : Int} {MB PB AO : Nat} {av : Value} {P : List Int} {ps : List (Nat × List Int)} (h : RM md w MB PB AO av P ps) {k : Nat} (hk : k < P.length) : w.cell? ⟨PB,k,none⟩ = some (.int .i64 (gI P (k : Int))) := by
 refine h.pl.cell k ?_
 unfold gI
 rw [List.getElem?_map,Int.toNat_natCast,List.getD_eq_getElem?_getD,List.getElem?_eq_getElem hk]; rfl
theorem RM.fs {w w' : World} {md : Int} {MB PB AO : Nat} {av : Value} {P : List Int} {ps : List (Nat × List Int)} {l : List Nat} (h : RM md w MB PB AO av P ps) (hf : Fs l w w') (h0 : MB ∉ l) (h1 : PB ∉ l) (h2 : ps ≠ [] → AO ∉ l) (h3 : ∀ p ∈ ps,p.1 ∉ l) : RM md w' MB PB AO av P ps :=
 ⟨h.m.fs hf h0,h.pl.fs hf h1,h.ar.fs hf h2 h3,h.ne,h.ao,h.np⟩
theorem RM.below {w w' : World} {md : Int} {MB PB AO : Nat} {av : Value} {P : List Int} {ps : List (Nat × List Int)} (h : RM md w MB PB AO av P ps) (hb : Below w.heap.size w w') : RM md w' MB PB AO av P ps := h.fs (Fs.of_below (l:=[]) hb) (by simp) (by simp) (by simp) (by simp)
theorem RM.arr {w : World} {md : Int} {MB PB AO : Nat} {av : Value} {P : List Int} {ps : List (Nat × List Int)} (h : RM md w MB PB AO av P ps) {b : Nat} (hb : b < ps.length) : ∃ gb row pc c,ps[b]? = some (gb,row) ∧ rowA (ars ps) (b : Int) = row ∧ av = .slice (some ⟨AO,0,none⟩) ps.length pc ∧ w.cell? ⟨AO,b,none⟩ = some (.slice (some ⟨gb,0,none⟩) row.length c) ∧ row.length ≤ c ∧ ∃ ex,Bk w gb (row.map (Value.int .i64) ++ ex) 3 := by
 obtain ⟨q,hq⟩ : ∃ q,ps[b]? = some q := ⟨_,List.getElem?_eq_getElem hb⟩
 have hne : ps ≠ [] := List.ne_nil_of_mem (List.mem_of_getElem? hq)
 obtain ⟨pv,pc,e,hc,ha⟩ := h.ar.av
 obtain ⟨s,hs,c,ex,rfl,h2,h3⟩ := h.ar.at' b q hq
 refine ⟨q.1,q.2,pc,c,hq,?_,by rw [e,(ha hne).1],hs,h2,ex,h3⟩
 unfold rowA ars
 rw [Int.toNat_natCast,List.getD_eq_getElem?_getD,List.getElem?_map,hq]; rfl
theorem RM.setP {w : World} {md : Int} {MB PB AO : Nat} {av : Value} {P : List Int} {ps : List (Nat × List Int)} (h : RM md w MB PB AO av P ps) (k : Nat) (v : Int) : RM md (w.setCell ⟨PB,k,none⟩ (.int .i64 v)) MB PB AO av (P.set k v) ps := by
 have hf : Fs [PB] w (w.setCell ⟨PB,k,none⟩ (.int .i64 v)) := (Fs.refl [PB] w).set (by simp) k _
 refine ⟨?_,?_,h.ar.fs hf (fun hn => by simpa using (h.ao hn).1) (fun p hp => by simpa using (h.np p hp).1),h.ne,h.ao,h.np⟩
 ·rw [List.length_set]
  exact h.m.fs hf (by simpa using h.ne)
 ·rw [List.map_set]
  exact h.pl.set k _
theorem fst_set {ps : List (Nat × List Int)} {b gb : Nat} {row r : List Int} (hb : ps[b]? = some (gb,row)) : (ps.set b (gb,r)).map Prod.fst = ps.map Prod.fst := by
 rw [List.map_set]
 apply List.ext_getElem?
 intro j
 rw [List.getElem?_set,List.length_map,List.getElem?_map]
 split
 ·rename_i e
  subst e
  (try rw [if_pos (List.getElem?_eq_some_iff.1 hb).1]); rw [hb]; rfl
 ·rfl
theorem RM.setA {w : World} {md : Int} {MB PB AO : Nat} {av : Value} {P : List Int} {ps : List (Nat × List Int)} (h : RM md w MB PB AO av P ps) {b gb : Nat} {row : List Int} (hb : ps[b]? = some (gb,row)) (k : Nat) (hk : k < row.length) (v : Int) : RM md (w.setCell ⟨gb,k,none⟩ (.int .i64 v)) MB PB AO av P (ps.set b (gb,row.set k v)) := by
 have hf : Fs [gb] w (w.setCell ⟨gb,k,none⟩ (.int .i64 v)) := (Fs.refl [gb] w).set (by simp) k _
 have hlt := (List.getElem?_eq_some_iff.1 hb).1
 have hm := List.mem_of_getElem? hb
 have hne : ps ≠ [] := List.ne_nil_of_mem hm
 obtain ⟨n1,n2⟩ := h.np _ hm
 have n3 := h.ar.na _ hm
 dsimp only at n1 n2 n3
 have hfst := fst_set (r:=row.set k v) hb
 have hoth : ∀ j p,ps[j]? = some p → j ≠ b → p.1 ≠ gb := fun j p hj hne e => by
  have h1 : (ps.map Prod.fst)[j]? = some gb := by rw [List.getElem?_map,hj,← e]; rfl
  have h2 : (ps.map Prod.fst)[b]? = some gb := by rw [List.getElem?_map,hb]; rfl
  exact hne ((List.getElem?_inj (List.getElem?_eq_some_iff.1 h1).1 h.ar.nd).1 (h1.trans h2.symm))
 have hmem : ∀ p ∈ ps.set b (gb,row.set k v),p = (gb,row.set k v) ∨ p ∈ ps := fun p hp => by
  rcases List.mem_or_eq_of_mem_set hp with e | e
  ·exact .inr e
  ·exact .inl e
 have hne' : ps.set b (gb,row.set k v) ≠ [] := by
  intro e
  have := congrArg List.length e
  rw [List.length_set] at this
  simp at this
  exact hne this
 obtain ⟨pv,c,e,hc,ha⟩ := h.ar.av
 refine ⟨h.m.fs hf (by simpa using Ne.symm n2),h.pl.fs hf (by simpa using Ne.symm n1),⟨⟨pv,c,by rw [List.length_set]; exact e,by rw [List.length_set]; exact hc,fun _ => ⟨(ha hne).1,by simpa [World.setCell] using (ha hne).2⟩⟩,fun j p hp => ?_,by rw [hfst]; exact h.ar.nd,fun p hp => ?_⟩,h.ne,fun _ => h.ao hne,fun p hp => ?_⟩
 ·rw [List.getElem?_set] at hp
  split at hp
  ·rename_i ej
   subst ej
   (try rw [if_pos hlt] at hp)
   cases hp
   obtain ⟨s,hs,c',ex,rfl,h2,h3⟩ := h.ar.at' _ _ hb
   refine ⟨_,by rw [cell_fs hf (ha hne).2 (by simpa using Ne.symm n3)]; exact hs,c',ex,by simp,by simpa using h2,?_⟩
   have := h3.set k (.int .i64 v)
   rw [List.set_append_left _ _ (by simpa using hk)] at this
   dsimp only at this ⊢
   rw [List.map_set]
   exact this
  ·rename_i ej
   obtain ⟨s,hs,hr⟩ := h.ar.at' j p hp
   exact ⟨s,by rw [cell_fs hf (ha hne).2 (by simpa using Ne.symm n3)]; exact hs,hr.fs hf (by simpa using hoth j p hp (fun x => ej x.symm))⟩
 ·rcases hmem p hp with rfl | hp
  ·exact n3
  ·exact h.ar.na p hp
 ·rcases hmem p hp with rfl | hp
  ·exact ⟨n1,n2⟩
  ·exact h.np p hp
theorem RA.arrs {w : World} {AO : Nat} {av : Value} {ps : List (Nat × List Int)} (h : RA w AO av ps) (hl : ps.length ≤ 5864062014805) (hr : ∀ r ∈ ars ps,r.length ≤ 17592186044416) : ArrsIs w w.heap.size (ars ps) av := by
 obtain ⟨pv,c,e,hc,ha⟩ := h.av
 refine ⟨pv,_,c,e,by unfold ars; rw [List.length_map],hc,hl,fun j l hj => ?_⟩
 have hj0 := hj
 unfold ars at hj
 rw [List.getElem?_map,Option.map_eq_some_iff] at hj
 obtain ⟨p,hp,rfl⟩ := hj
 have hne : ps ≠ [] := List.ne_nil_of_mem (List.mem_of_getElem? hp)
 obtain ⟨s,hs,c',ex,rfl,h2,h3⟩ := h.at' j p hp
 refine ⟨AO,0,_,(ha hne).1,(ha hne).2,by rw [Nat.zero_add]; exact hs,_,_,_,rfl,rfl,h2,hr _ (List.mem_of_getElem? hj0),fun k x hx => ⟨p.1,0,rfl,h3.lt,?_⟩⟩
 rw [Nat.zero_add]
 refine h3.cell k ?_
 have hk := (List.getElem?_eq_some_iff.1 hx).1
 rw [List.getElem?_append_left (by simpa using hk),List.getElem?_map,hx]; rfl
def fromP (n fr : Nat) (ws : List Int) : List Int := List.replicate fr 0 ++ (ws ++ List.replicate (n - fr - ws.length) 0)
theorem fromP_len {n fr : Nat} {ws : List Int} (h : fr + ws.length ≤ n) : (fromP n fr ws).length = n := by
 unfold fromP
 rw [List.length_append,List.length_append,List.length_replicate,List.length_replicate]; omega
def RDo (md : Int) (MB PB AO : Nat) (av : Value) (P : List Int) (ps : List (Nat × List Int)) (i : Ix) (at' : Nat) (w : World) (r : Ending) (w' : World) : Prop :=
 r = .returned (.int .i64 (if i.op = 20 ∨ i.op = 21 then -1 else (nx i at' P : Nat))) ∧ ∃ ps',RM md w' MB PB AO av (pl i P (ars ps)) ps' ∧ ars ps' = arr i P (ars ps) ∧ ps'.map Prod.fst = ps.map Prod.fst ∧ Fs (PB :: ps.map Prod.fst) w w'
theorem RDo.same {md : Int} {MB PB AO : Nat} {av : Value} {P : List Int} {ps : List (Nat × List Int)} {i : Ix} {at' : Nat} {w w' : World} {n : Int} (hn : n = if i.op = 20 ∨ i.op = 21 then (-1 : Int) else ((nx i at' P : Nat) : Int)) (hm : mks i = false) (ha : arr i P (ars ps) = ars ps) (h : RM md w MB PB AO av P ps) (hb : Below w.heap.size w w') : RDo md MB PB AO av P ps i at' w (.returned (.int .i64 n)) w' := by
 refine ⟨by rw [hn],ps,?_,ha.symm,rfl,Fs.of_below hb⟩
 unfold pl
 rw [if_neg (by rw [hm]; simp)]
 exact h.below hb
theorem nx_on {i : Ix} {at' : Nat} {P : List Int} (h1 : i.op ≠ 18) (h2 : i.op ≠ 19) : nx i at' P = at' + 1 := by
 unfold nx
 rw [if_neg h1,if_neg (fun x => h2 x.1)]
theorem RDo.makes {md : Int} {MB PB AO : Nat} {av : Value} {P : List Int} {ps : List (Nat × List Int)} {i : Ix} {at' : Nat} {w w' : World} {n v : Int} {kd : Nat} (hn : n = (at' : Int) + 1) (h1 : 1 ≤ i.op) (h16 : i.op ≤ 16) (hv : made i P (ars ps) = v) (hd : i.d = (kd : Int)) (h : RM md w MB PB AO av P ps) (hb : Below w.heap.size w w') : RDo md MB PB AO av P ps i at' w (.returned (.int .i64 n)) (w'.setCell ⟨PB,kd,none⟩ (.int .i64 v)) := by
 refine ⟨by rw [hn,if_neg (by omega),nx_on (by omega) (by omega)]; rfl,ps,?_,?_,rfl,(Fs.of_below hb).set (by simp) _ _⟩
 ·unfold pl
  rw [if_pos (by unfold mks; rw [decide_eq_true h1,decide_eq_true h16]; rfl),hv,hd,Int.toNat_natCast]
  exact (h.below hb).setP kd v
 ·unfold arr
  rw [if_neg (fun x => by omega)]
theorem RDo.stores {md : Int} {MB PB AO : Nat} {av : Value} {P : List Int} {ps : List (Nat × List Int)} {i : Ix} {at' : Nat} {w w' : World} {n v : Int} {kb gb ka : Nat} {row : List Int} (hn : n = (at' : Int) + 1) (ho : i.op = 17) (hb' : i.b = (kb : Int)) (hg : ps[kb]? = some (gb,row)) (hrow : rowA (ars ps) (kb : Int) = row) (ha : gI P i.a = (ka : Int)) (hlt : ka < row.length) (hv : gI P i.d = v) (h : RM md w MB PB AO av P ps) (hb : Below w.heap.size w w') : RDo md MB PB AO av P ps i at' w (.returned (.int .i64 n)) (w'.setCell ⟨gb,ka,none⟩ (.int .i64 v)) := by
 refine ⟨by rw [hn,if_neg (by omega),nx_on (by omega) (by omega)]; rfl,ps.set kb (gb,row.set ka v),?_,?_,fst_set hg,(Fs.of_below hb).set (by rw [List.mem_cons]; exact .inr (List.mem_map.2 ⟨_,List.mem_of_getElem? hg,rfl⟩)) _ _⟩
 ·unfold pl
  rw [if_neg (by unfold mks; rw [ho]; simp)]
  exact (h.below hb).setA hg ka hlt v
 ·unfold arr
  rw [hb',hrow,ha,hv,if_pos ⟨ho,by omega⟩,ars_set,Int.toNat_natCast,Int.toNat_natCast]
end Go.Proofs.Ytpnacanbknejiaa.Fl
