/- Laid together: CdRparse, FrAlike, FlMach. -/
import Derived.Test.YtpnacanbknejiaaCdParse
import Derived.Test.YtpnacanbknejiaaLfRfit
import Derived.Test.YtpnacanbknejiaaFlSeen2
namespace Go.Proofs.Ytpnacanbknejiaa.Cd
set_option linter.unusedVariables false
set_option linter.unusedSimpArgs false
open Go.ChangeShapes Go.WideShapes Go.ChangeAt Go.RowKit Lr
end Go.Proofs.Ytpnacanbknejiaa.Cd
namespace Go.Proofs.Ytpnacanbknejiaa.Lr
set_option linter.unusedVariables false
set_option linter.unusedSimpArgs false
open Go.ChangeShapes Go.WideShapes Go.ChangeAt Go.RowKit Lg
structure AlikeR (ps rs : List Vr) (ws : List Int) (aa : List (List Int)) (vs : List Int) (bb : List (List Int)) : Prop where
 s1 : Shape ps rs ws aa
 w1 : AllW ws aa
 s2 : Shape ps rs vs bb
 w2 : AllW vs bb
 p : ∀ (i : Nat) (v : Vr) (x y : Int),ps[i]? = some v → ws[i]? = some x → vs[i]? = some y → v.secret = false → x = y
 a : ∀ (i : Nat) (v : Vr) (x y : List Int),rs[i]? = some v → aa[i]? = some x → bb[i]? = some y → v.secret = false → x = y
theorem VrIs.mono {w : World} {B B' : Nat} {l : List Vr} {v : Value} (h : VrIs w B l v) (hB : B ≤ B') : VrIs w B' l v := by
 obtain ⟨p,n,c,h1,h2,h3,h4,h5⟩ := h
 refine ⟨p,n,c,h1,h2,h3,h4,fun j x hj => ?_⟩
 obtain ⟨g,o,k1,k2,k3⟩ := h5 j x hj
 exact ⟨g,o,k1,by omega,k3⟩
theorem ArrsIs.mono {w : World} {B B' : Nat} {l : List (List Int)} {v : Value} (h : ArrsIs w B l v) (hB : B ≤ B') : ArrsIs w B' l v := by
 obtain ⟨p,n,c,h1,h2,h3,h4,h5⟩ := h
 refine ⟨p,n,c,h1,h2,h3,h4,fun j x hj => ?_⟩
 obtain ⟨g,o,s,k1,k2,k3,k4⟩ := h5 j x hj
 exact ⟨g,o,s,k1,by omega,k3,k4.mono hB⟩
def AlP (ps rs : List Vr) (ws : List Int) (aa : List (List Int)) (vs : List Int) (bb : List (List Int)) (w : World) (r : Ending) (w' : World) : Prop := ∃ b : Bool,r = .returned (.bool b) ∧ (b = true → AlikeR ps rs ws aa vs bb) ∧ Below w.heap.size w w'
theorem AlP.no {ps rs : List Vr} {ws : List Int} {aa : List (List Int)} {vs : List Int} {bb : List (List Int)} {w w' : World} (h : Below w.heap.size w w') : AlP ps rs ws aa vs bb w (.returned (.bool false)) w' := ⟨false,rfl,fun e => (by cases e),h⟩
end Go.Proofs.Ytpnacanbknejiaa.Lr
namespace Go.Proofs.Ytpnacanbknejiaa.Fl
set_option maxHeartbeats 32000000
set_option maxRecDepth 100000
set_option linter.unusedVariables false
set_option linter.unusedSimpArgs false
open Go.ChangeShapes Go.WideShapes Go.ChangeAt Go.RowKit Lg Lr
structure Mc (w : World) (PB AO : Nat) (P : List Int) (ps : List (Nat × List Int)) : Prop where
 pl : Bk w PB (P.map (Value.int .i64)) 3
 row : Bk w AO (ps.map slV) 30
 at' : ∀ p ∈ ps,Bk w p.1 (p.2.map (Value.int .i64)) 3
 nd : (ps.map Prod.fst).Nodup
 ne : AO ≠ PB
 np : ∀ p ∈ ps,p.1 ≠ PB ∧ p.1 ≠ AO
def ars (ps : List (Nat × List Int)) : List (List Int) := ps.map Prod.snd
theorem Mc.place {w : World} {PB AO : Nat} {P : List Int} {ps : List (Nat × List Int)} (h : Mc w PB AO P ps) {k : Nat} (hk : k < P.length) : w.cell? ⟨PB,k,none⟩ = some (.int .i64 (gI P (k : Int))) := by
 refine h.pl.cell k ?_
 unfold gI
 rw [List.getElem?_map,Int.toNat_natCast,List.getD_eq_getElem?_getD,List.getElem?_eq_getElem hk]; rfl
theorem Mc.arr {w : World} {PB AO : Nat} {P : List Int} {ps : List (Nat × List Int)} (h : Mc w PB AO P ps) {b : Nat} (hb : b < ps.length) : ∃ gb row,ps[b]? = some (gb,row) ∧ rowA (ars ps) (b : Int) = row ∧ w.cell? ⟨AO,b,none⟩ = some (.slice (some ⟨gb,0,none⟩) row.length row.length) ∧ Bk w gb (row.map (Value.int .i64)) 3 := by
 obtain ⟨q,hq⟩ : ∃ q,ps[b]? = some q := ⟨_,List.getElem?_eq_getElem hb⟩
 refine ⟨q.1,q.2,hq,?_,h.row.cell b (by rw [List.getElem?_map,hq]; rfl),h.at' q (List.mem_of_getElem? hq)⟩
 unfold rowA ars
 rw [Int.toNat_natCast,List.getD_eq_getElem?_getD,List.getElem?_map,hq]; rfl
theorem Mc.below {w w' : World} {PB AO : Nat} {P : List Int} {ps : List (Nat × List Int)} (h : Mc w PB AO P ps) (hb : Below w.heap.size w w') : Mc w' PB AO P ps :=
 have hf := Fs.of_below (l:=[]) hb
 ⟨h.pl.fs hf (by simp),h.row.fs hf (by simp),fun p hp => (h.at' p hp).fs hf (by simp),h.nd,h.ne,h.np⟩
theorem Mc.setP {w : World} {PB AO : Nat} {P : List Int} {ps : List (Nat × List Int)} (h : Mc w PB AO P ps) (k : Nat) (v : Int) : Mc (w.setCell ⟨PB,k,none⟩ (.int .i64 v)) PB AO (P.set k v) ps := by
 refine ⟨?_,h.row.far _ _ h.ne,fun p hp => (h.at' p hp).far _ _ (h.np p hp).1,h.nd,h.ne,h.np⟩
 rw [List.map_set]
 exact h.pl.set k _
theorem Mc.setA {w : World} {PB AO : Nat} {P : List Int} {ps : List (Nat × List Int)} (h : Mc w PB AO P ps) {b gb : Nat} {row : List Int} (hb : ps[b]? = some (gb,row)) (k : Nat) (v : Int) : Mc (w.setCell ⟨gb,k,none⟩ (.int .i64 v)) PB AO P (ps.set b (gb,row.set k v)) := by
 obtain ⟨hlt,he⟩ := List.getElem?_eq_some_iff.1 hb
 have hm := List.mem_of_getElem? hb
 obtain ⟨n1,n2⟩ := h.np _ hm
 dsimp only at n1 n2
 have hfst : (ps.set b (gb,row.set k v)).map Prod.fst = ps.map Prod.fst := by
  rw [List.map_set]
  apply List.ext_getElem?
  intro j
  rw [List.getElem?_set,List.length_map,List.getElem?_map]
  split
  ·rename_i e
   subst e
   (try rw [if_pos hlt]); rw [hb]; rfl
  ·rfl
 have hoth : ∀ j p,ps[j]? = some p → j ≠ b → p.1 ≠ gb := fun j p hj hne e => by
  have h1 : (ps.map Prod.fst)[j]? = some gb := by rw [List.getElem?_map,hj,← e]; rfl
  have h2 : (ps.map Prod.fst)[b]? = some gb := by rw [List.getElem?_map,hb]; rfl
  exact hne ((List.getElem?_inj (List.getElem?_eq_some_iff.1 h1).1 h.nd).1 (h1.trans h2.symm))
 have hmem : ∀ p ∈ ps.set b (gb,row.set k v),p = (gb,row.set k v) ∨ ∃ j,ps[j]? = some p ∧ j ≠ b := fun p hp => by
  obtain ⟨j,hj⟩ := List.getElem?_of_mem hp
  rw [List.getElem?_set] at hj
  split at hj
  ·cases hj
   exact .inl rfl
  ·rename_i e
   exact .inr ⟨j,hj,fun x => e x.symm⟩
 refine ⟨h.pl.far _ _ (Ne.symm n1),?_,fun p hp => ?_,by rw [hfst]; exact h.nd,h.ne,fun p hp => ?_⟩
 ·have e : (ps.set b (gb,row.set k v)).map slV = ps.map slV := by
   rw [List.map_set]
   apply List.ext_getElem?
   intro j
   rw [List.getElem?_set,List.length_map,List.getElem?_map]
   split
   ·rename_i e
    subst e
    (try rw [if_pos hlt]); rw [hb]
    simp [slV]
   ·rfl
  rw [e]
  exact h.row.far _ _ (Ne.symm n2)
 ·rcases hmem p hp with rfl | ⟨j,hj,hne⟩
  ·dsimp only
   rw [List.map_set]
   exact (h.at' _ hm).set k _
  ·exact (h.at' p (List.mem_of_getElem? hj)).far _ _ (hoth j p hj hne)
 ·rcases hmem p hp with rfl | ⟨j,hj,hne⟩
  ·exact ⟨n1,n2⟩
  ·exact h.np p (List.mem_of_getElem? hj)
theorem ars_set {ps : List (Nat × List Int)} {b gb : Nat} {r : List Int} : ars (ps.set b (gb,r)) = (ars ps).set b r := by
 unfold ars
 rw [List.map_set]
def spotV (gb : Nat) (row : List Int) (a : Int) : Value := if a < row.length then .pointer (some ⟨gb,a.toNat,none⟩) else .pointer none
theorem spot_any (PB AO : Nat) (P : List Int) (ps : List (Nat × List Int)) (i : Ix) (w : World) (h : Mc w PB AO P ps) (hL : P.length ≤ 17592186044416) (ha : 0 ≤ i.a ∧ i.a < P.length) (hb : 0 ≤ i.b ∧ i.b < ps.length) (hw : 0 ≤ gI P i.a) (gb : Nat) (row : List Int) (hg : ps[i.b.toNat]? = some (gb,row)) :
  Calls Try.prog 67 #[.agg #[.slice (some ⟨PB,0,none⟩) P.length P.length,.slice (some ⟨AO,0,none⟩) ps.length ps.length],.agg (ixA i)] w fun r w' => r = .returned (spotV gb row (gI P i.a)) ∧ Below w.heap.size w w' := by
 obtain ⟨op,d,a,b,c,imm⟩ := i
 dsimp only at ha hb hw hg ⊢
 obtain ⟨ka,rfl⟩ : ∃ k : Nat,a = (k : Int) := ⟨a.toNat,by omega⟩
 obtain ⟨kb,rfl⟩ : ∃ k : Nat,b = (k : Int) := ⟨b.toNat,by omega⟩
 rw [Int.toNat_natCast] at hg
 have hka : ka < P.length := by omega
 have hkb : kb < ps.length := by omega
 obtain ⟨gb',row',e1,_,c2,k2⟩ := h.arr hkb
 rw [hg] at e1
 cases e1
 have c1 := h.place hka
 obtain ⟨n,hn⟩ : ∃ n,P.length = n := ⟨_,rfl⟩
 obtain ⟨m,hm⟩ : ∃ m,ps.length = m := ⟨_,rfl⟩
 rw [hn] at ha hka hL
 rw [hm] at hb hkb
 rw [hn,hm]
 obtain ⟨v,hv⟩ : ∃ v,gI P (ka : Int) = v := ⟨_,rfl⟩
 rw [hv] at c1 hw
 rw [hv]
 obtain ⟨w1,hw1⟩ : ∃ y,w.alloc (.cells #[.slice (some ⟨PB,0,none⟩) n n,.slice (some ⟨AO,0,none⟩) m m] 91) = y := ⟨_,rfl⟩
 obtain ⟨w2,hw2⟩ : ∃ y,w1.alloc (.cells #[.int .i64 op,.int .i64 d,.int .i64 (ka : Int),.int .i64 (kb : Int),.int .i64 c,.int .i64 imm] 35) = y := ⟨_,rfl⟩
 obtain ⟨X,hX⟩ : ∃ y,w.heap.size = y := ⟨_,rfl⟩
 obtain ⟨I,hI⟩ : ∃ y,w1.heap.size = y := ⟨_,rfl⟩
 have b1 : Below w.heap.size w w1 := by rw [← hw1]; exact (Below.refl _ _).alloc (Nat.le_refl _) _
 have b2 : Below w1.heap.size w1 w2 := by rw [← hw2]; exact (Below.refl _ _).alloc (Nat.le_refl _) _
 have b12 := b1.trans (b2.mono b1.size)
 have kX1 : Bk w1 X [.slice (some ⟨PB,0,none⟩) n n,.slice (some ⟨AO,0,none⟩) m m] 91 := by rw [← hw1,← hX]; exact Bk.new _ _ _
 have kX := kX1.fs (Fs.of_below (l:=[]) b2) (by simp)
 have kI : Bk w2 I [.int .i64 op,.int .i64 d,.int .i64 (ka : Int),.int .i64 (kb : Int),.int .i64 c,.int .i64 imm] 35 := by rw [← hw2,← hI]; exact Bk.new _ _ _
 have x0 := kI.cell 2 rfl
 have x1 := kI.cell 3 rfl
 have y0 := kX.cell 0 rfl
 have y1 := kX.cell 1 rfl
 have z1 : w2.cell? ⟨PB,ka,none⟩ = some (.int .i64 v) := by rw [cell_below b12 (lt_of_cell c1)]; exact c1
 have z2 : w2.cell? ⟨AO,kb,none⟩ = some (.slice (some ⟨gb,0,none⟩) row.length row.length) := by rw [cell_below b12 (lt_of_cell c2)]; exact c2
 have HW1 := keep hw1
 have HW2 := keep hw2
 have HX := keep hX
 have HI := keep hI
 have HB := keep b12
 have ka0 : (0 : Int) ≤ (ka : Int) := by omega
 have ka1 : (ka : Int) < (n : Int) := by omega
 have kb0 : (0 : Int) ≤ (kb : Int) := by omega
 have kb1 : (kb : Int) < (m : Int) := by omega
 obtain ⟨kv,rfl⟩ : ∃ k : Nat,v = (k : Int) := ⟨v.toNat,by omega⟩
 by_cases hlt : (kv : Int) < row.length
 ·have HE : Hid (spotV gb row (kv : Int) = .pointer (some ⟨gb,kv,none⟩)) := by show _ = _; unfold spotV; rw [if_pos hlt,Int.toNat_natCast]
  generalize row.length = R at *
  have HWi := keep (fun W => within_any (kv : Int) (R : Int) W)
  rw [show wi (kv : Int) (R : Int) = true from wi_iff.2 ⟨by omega,hlt⟩] at HWi
  clear hw1 hw2 hX hI b1 b2 b12 kX1 kX kI c1 c2 k2 hv hg h hL
  unfold ixA
  dsimp only
  go_enter Try.func67,Try.ntmps67
  go_wp2_with (first | rw [HW1.out] | rw [HW2.out] | rw [HX.out] | rw [HI.out] | fail)
  refine (HWi.out _).mono ?_
  rintro r wz ⟨rfl,rfl⟩
  go_wp2
  go_ret
  exact ⟨by rw [HE.out]; rfl,by first | exact HB.out | (rw [← HX.out]; exact HB.out)⟩
 ·have HE : Hid (spotV gb row (kv : Int) = .pointer none) := by show _ = _; unfold spotV; rw [if_neg hlt]
  generalize row.length = R at *
  have HWi := keep (fun W => within_any (kv : Int) (R : Int) W)
  rw [show wi (kv : Int) (R : Int) = false from by
   cases hc : wi (kv : Int) (R : Int) with
   | false => rfl
   | true => exact absurd (wi_iff.1 hc).2 hlt] at HWi
  clear hw1 hw2 hX hI b1 b2 b12 kX1 kX kI c1 c2 k2 hv hg h hL
  unfold ixA
  dsimp only
  go_enter Try.func67,Try.ntmps67
  go_wp2_with (first | rw [HW1.out] | rw [HW2.out] | rw [HX.out] | rw [HI.out] | fail)
  refine (HWi.out _).mono ?_
  rintro r wz ⟨rfl,rfl⟩
  go_wp2
  go_ret
  exact ⟨by rw [HE.out]; rfl,by first | exact HB.out | (rw [← HX.out]; exact HB.out)⟩
end Go.Proofs.Ytpnacanbknejiaa.Fl
