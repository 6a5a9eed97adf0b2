/- What fits: the program's own Fits. Written by tools/gen_ffits.py. -/
import Derived.Test.YtpnacanbknejiaaLfCat
namespace Go.Proofs.Ytpnacanbknejiaa.Lr
set_option maxHeartbeats 32000000
set_option maxRecDepth 100000
set_option linter.unusedVariables false
set_option linter.unusedSimpArgs false
open Go.ChangeShapes Go.WideShapes Go.ChangeAt Go.RowKit Lg
def isWb (n : Int) : Bool := decide (0 ≤ n) && decide (n ≤ 4294967295)
theorem isWb_iff {n : Int} : isWb n = true ↔ isW n := by
 unfold isWb isW
 rw [Bool.and_eq_true,decide_eq_true_iff,decide_eq_true_iff]
theorem noWord_any (n : Int) (w : World) : Calls Try.prog 80 #[.int .i64 n] w fun r w' => r = .returned (.bool (!isWb n)) ∧ Below w.heap.size w w' := by
 by_cases h : isWb n = true
 ·have h2 := isWb_iff.1 h
  have HC := keep (Wd.is_yes n h2.1 h2.2 w)
  rw [h]
  clear h h2
  go_enter Try.func80,Try.ntmps80
  go_wp2_with fail
  refine HC.out.mono ?_
  rintro r w2 ⟨rfl,rfl⟩
  clear HC
  go_wp2
  go_ret
  exact ⟨rfl,Below.refl _ _⟩
 ·have h2 : n < 0 ∨ 4294967295 < n := by
   have : ¬ isW n := fun x => h (isWb_iff.2 x)
   unfold isW at this
   omega
  have HC := keep (Wd.is_no n h2 w)
  have h3 : isWb n = false := by cases hb : isWb n with
   | true => exact absurd hb h
   | false => rfl
  rw [h3]
  clear h h2 h3
  go_enter Try.func80,Try.ntmps80
  go_wp2_with fail
  refine HC.out.mono ?_
  rintro r w2 ⟨rfl,rfl⟩
  clear HC
  go_wp2
  go_ret
  exact ⟨rfl,Below.refl _ _⟩
theorem index_ints (B : Nat) (l : List Int) (sl : Value) (w : World) (hB : B ≤ w.heap.size) (ha : IntsIs w B l sl) :
  Calls Try.prog 84 #[sl,.func (.func 80) #[] #[]] w fun r w' => ∃ i : Int,r = .returned (.int .i64 i) ∧ Idx (fun x => !isWb x) l i ∧ Below w.heap.size w w' := by
 obtain ⟨pa,na,ca,rfl,hna,hca,hla,hea⟩ := ha
 have HEA := keep hea
 have HNA := keep hna
 have HBB := keep hB
 clear hea hna hB
 go_enter Try.func84,Try.ntmps84
 go_wp2
 go_loopw [8] (fun i wx => ∃ k : Nat,k ≤ na ∧ i = .int .i64 (k : Int) ∧ (∀ j b,j < k → l[j]? = some b → (!isWb b) = false) ∧ Below w.heap.size w wx) (fun i _ => na - (intOf i).toNat)
 case atStart => exact ⟨0,by omega,rfl,fun j b hj => by omega,Below.refl _ _⟩
 case round =>
  obtain ⟨k,hkn,rfl,hno,hbx⟩ := hrel
  have HS := keep hno
  have HX := keep hbx
  clear hno hbx
  by_cases hkl : k < na
  ·have d1 : decide ((k : Int) < (na : Int)) = true := decide_eq_true (by omega)
   have hkz : (k : Int) < (na : Int) := by omega
   have hk0 : (0 : Int) ≤ (k : Int) := by omega
   obtain ⟨x,hx⟩ : ∃ x,l[k]? = some x := ⟨_,List.getElem?_eq_getElem (by rw [HNA.out]; exact hkl)⟩
   obtain ⟨g,o,rfl,hg,hax⟩ := HEA.out k x hx
   have HUX := keep hx
   have hB := HBB.out
   have a0 : wr.cell? ⟨g,o + k,none⟩ = some (.int .i64 x) := by rw [cell_below HX.out (by omega)]; exact hax
   have HOne := keep (noWord_any x wr)
   clear hx hax HEA hB
   obtain ⟨q,hq⟩ : ∃ q,(!isWb x) = q := ⟨_,rfl⟩
   rw [hq] at HOne
   have HQ := keep hq
   clear hq
   go_wp2_with fail
   refine HOne.out.mono ?_
   rintro r w1 ⟨rfl,hb1⟩
   have HB1 := keep (HX.out.trans (hb1.mono HX.out.size))
   clear hb1
   cases q with
   | true =>
    go_wp2
    go_ret
    exact ⟨_,rfl,.inr ⟨k,_,rfl,HUX.out,find_at HS.out HUX.out HQ.out,by rw [HNA.out]; exact hkl,HS.out⟩,HB1.out⟩
   | false =>
    go_wp2
    go_roundw
    case rel => exact ⟨k + 1,by omega,by go_num,fun j b hj hb => by
     by_cases e : j = k
     ·rw [e,HUX.out] at hb
      cases hb; exact HQ.out
     ·exact HS.out j b (by omega) hb,HB1.out⟩
    case measure => simp [intOf]; omega
  ·have hke : k = na := by omega
   subst hke
   have dl : decide ((k : Int) < (k : Int)) = false := decide_eq_false (by omega)
   have HN := keep (find_no (p:=fun x => !isWb x) (l:=l) fun j b hb => HS.out j b (by have := (List.getElem?_eq_some_iff.1 hb).1; rw [HNA.out] at this; exact this) hb)
   clear hkl
   go_wp2
   go_ret
   exact ⟨_,rfl,.inl ⟨rfl,HN.out⟩,HX.out⟩
theorem contains_ints (B : Nat) (l : List Int) (sl : Value) (w : World) (hB : B ≤ w.heap.size) (ha : IntsIs w B l sl) :
  Calls Try.prog 74 #[sl,.func (.func 80) #[] #[]] w fun r w' => ∃ b : Bool,r = .returned (.bool b) ∧ (b = true ↔ ¬ ∀ x ∈ l,isW x) ∧ Below w.heap.size w w' := by
 obtain ⟨pa,na,ca,rfl,_⟩ := id ha
 have HC := keep (index_ints B l _ w hB ha)
 clear ha hB
 go_enter Try.func74,Try.ntmps74
 go_wp2_with fail
 refine HC.out.mono ?_
 rintro r w1 ⟨i,rfl,hi,hb⟩
 have HB1 := keep hb
 clear hb HC
 rcases hi with ⟨rfl,hno⟩ | ⟨k,a,rfl,hk,hf,hkl,hbe⟩
 ·have HE : Hid ((false = true) ↔ ¬ ∀ x ∈ l,isW x) := by
   refine ⟨fun h => (by cases h),fun h => absurd (fun x hx => ?_) h⟩
   rw [List.find?_eq_none] at hno
   have := hno x hx
   refine isWb_iff.1 ?_
   simpa using this
  clear hno
  go_wp2
  go_ret
  exact ⟨false,rfl,HE.out,HB1.out⟩
 ·have HE : Hid ((true = true) ↔ ¬ ∀ x ∈ l,isW x) := by
   refine ⟨fun _ h => ?_,fun _ => rfl⟩
   have h1 := isWb_iff.2 (h a (List.mem_of_getElem? hk))
   have h2 := List.find?_some hf
   try dsimp only at h2
   rw [h1] at h2; cases h2
  have d1 : decide (0 ≤ (k : Int)) = true := decide_eq_true (by omega)
  clear hk hf hkl hbe
  go_wp2
  go_ret
  first | exact ⟨true,rfl,HE.out,HB1.out⟩ | exact ⟨_,rfl,by simpa using HE.out,HB1.out⟩
structure Shape (ps rs : List Vr) (ws : List Int) (aa : List (List Int)) : Prop where
 w : ws.length = ps.length
 a : aa.length = rs.length
 s : ∀ (i : Nat) (v : Vr) (a : List Int),rs[i]? = some v → aa[i]? = some a → (a.length : Int) = v.size
def AllW (ws : List Int) (aa : List (List Int)) : Prop := (∀ x ∈ ws,isW x) ∧ ∀ a ∈ aa,∀ x ∈ a,isW x
inductive FitR (ps rs : List Vr) (ws : List Int) (aa : List (List Int)) : Int → Prop
 | many : ¬ Shape ps rs ws aa → FitR ps rs ws aa 5
 | range : Shape ps rs ws aa → ¬ AllW ws aa → FitR ps rs ws aa 3
 | ok : Shape ps rs ws aa → AllW ws aa → FitR ps rs ws aa 0
theorem FitR.same {ps rs : List Vr} {ws : List Int} {aa : List (List Int)} {c d : Int} (h : FitR ps rs ws aa c) (k : FitR ps rs ws aa d) : c = d := by
 cases h <;> cases k <;> first | rfl | contradiction
theorem allW_flat {ws : List Int} {aa : List (List Int)} : AllW ws aa ↔ (∀ x ∈ ws,isW x) ∧ ∀ x ∈ aa.flatten,isW x := by
 unfold AllW
 constructor
 ·rintro ⟨h1,h2⟩
  refine ⟨h1,fun x hx => ?_⟩
  obtain ⟨a,ha,hx⟩ := List.mem_flatten.1 hx
  exact h2 a ha x hx
 ·rintro ⟨h1,h2⟩
  exact ⟨h1,fun a ha x hx => h2 x (List.mem_flatten.2 ⟨a,ha,hx⟩)⟩
def GvIs (w : World) (B : Nat) (ws : List Int) (aa : List (List Int)) (v : Value) : Prop := ∃ s1 s2,v = .agg #[s1,s2] ∧ IntsIs w B ws s1 ∧ ArrsIs w B aa s2
theorem GvIs.below {w w' : World} {B : Nat} {ws : List Int} {aa : List (List Int)} {v : Value} (h : GvIs w B ws aa v) (hb : Below B w w') : GvIs w' B ws aa v := by
 obtain ⟨s1,s2,h1,h2,h3⟩ := h
 exact ⟨s1,s2,h1,h2.below hb,h3.below hb⟩
def FitP (ps rs : List Vr) (ws : List Int) (aa : List (List Int)) (w : World) (r : Ending) (w' : World) : Prop := ∃ c,r = .returned (.int .i64 c) ∧ FitR ps rs ws aa c ∧ Below w.heap.size w w'
theorem fits_any (B : Nat) (ps rs : List Vr) (s1 s2 s3 : Value) (ws : List Int) (aa : List (List Int)) (gv : Value) (w : World) (hB : B ≤ w.heap.size) (h1 : VrIs w B ps s1) (h2 : VrIs w B rs s2) (h3 : ∃ p n c,s3 = .slice p n c) (hg : GvIs w B ws aa gv) (hT : Shape ps rs ws aa → sumL aa ≤ 1048576) :
  Calls Try.prog 65 #[.agg #[s1,s2,s3],gv] w fun r w' => FitP ps rs ws aa w r w' := by
 obtain ⟨p1,n1,c1,hs1,hl1,_⟩ := id h1
 obtain ⟨p2,n2,c2,hs2,hl2,_,hb2,hq2⟩ := id h2
 obtain ⟨p3,n3,c3,rfl⟩ := h3
 obtain ⟨t1,t2,rfl,hi,ha⟩ := hg
 obtain ⟨p4,n4,c4,hs4,hl4,_⟩ := id hi
 obtain ⟨p5,n5,c5,hs5,hl5,_,_,hq5⟩ := id ha
 subst hs1 hs2 hs4 hs5
 obtain ⟨w0,hw0⟩ : ∃ y,w.alloc (.cells #[.slice p1 n1 c1,.slice p2 n2 c2,.slice p3 n3 c3] 49) = y := ⟨_,rfl⟩
 obtain ⟨w1,hw1⟩ : ∃ y,w0.alloc (.cells #[.slice p4 n4 c4,.slice p5 n5 c5] 33) = y := ⟨_,rfl⟩
 obtain ⟨bF,hbF⟩ : ∃ y,w.heap.size = y := ⟨_,rfl⟩
 obtain ⟨bG,hbG⟩ : ∃ y,w0.heap.size = y := ⟨_,rfl⟩
 have b0 : Below w.heap.size w w0 := by rw [← hw0]; exact (Below.refl _ _).alloc (Nat.le_refl _) _
 have b1 : Below w0.heap.size w0 w1 := by rw [← hw1]; exact (Below.refl _ _).alloc (Nat.le_refl _) _
 have b01 := b0.trans (b1.mono b0.size)
 have kF0 : Bk w0 bF [.slice p1 n1 c1,.slice p2 n2 c2,.slice p3 n3 c3] 49 := by rw [← hw0,← hbF]; exact Bk.new _ _ _
 have kF := kF0.fs (Fs.of_below (l:=[]) b1) (by simp)
 have kG : Bk w1 bG [.slice p4 n4 c4,.slice p5 n5 c5] 33 := by rw [← hw1,← hbG]; exact Bk.new _ _ _
 have HB01 := keep b01
 have HkF := keep kF
 have HkG := keep kG
 have HI := keep (hi.below (b01.mono hB))
 have HA := keep (ha.below (b01.mono hB))
 have HQ2 := keep hq2
 have HQ5 := keep hq5
 have HL1 := keep hl1
 have HL2 := keep hl2
 have HL4 := keep hl4
 have HL5 := keep hl5
 have HTT := keep hT
 have HBB : Hid (B ≤ w1.heap.size) := Nat.le_trans hB b01.size
 have HB0 := keep hB
 have f0 := kF.cell 0 rfl
 have f1 := kF.cell 1 rfl
 have g0 := kG.cell 0 rfl
 have g1 := kG.cell 1 rfl
 have HW0 := keep hw0
 have HW1 := keep hw1
 have HbF := keep hbF
 have HbG := keep hbG
 clear hw0 hw1 b0 b1 b01 kF0 kF kG hi ha hq2 hq5 hl1 hl2 hl4 hl5 hT hB h1 h2
 by_cases e1 : n4 = n1
 ·by_cases e2 : n5 = n2
  ·subst e1 e2
   clear hbF hbG
   go_enter Try.func65,Try.ntmps65
   go_wp2_with (first | rw [HW0.out] | rw [HW1.out] | rw [HbF.out] | rw [HbG.out])
   clear f0
   go_loopw [26] (fun i wx => ∃ j : Nat,j ≤ n5 ∧ i = .int .i64 (j : Int) ∧ (∀ (k : Nat) (v : Vr) (a : List Int),k < j → rs[k]? = some v → aa[k]? = some a → (a.length : Int) = v.size) ∧ Below w1.heap.size w1 wx) (fun i _ => n5 - (intOf i).toNat)
   case atStart => exact ⟨0,by omega,rfl,fun k v a hk => by omega,Below.refl _ _⟩
   case round =>
    obtain ⟨j,hjn,rfl,hsz,hbx⟩ := hrel
    have HSz := keep hsz
    have HX := keep hbx
    clear hsz hbx f1 g0 g1
    by_cases hjl : j < n5
    ·have d1 : decide ((j : Int) < (n5 : Int)) = true := decide_eq_true (by omega)
     have hjz : (j : Int) < (n5 : Int) := by omega
     have hj0 : (0 : Int) ≤ (j : Int) := by omega
     have hwr : IntKind.i64.wrap ((j : Int) + 1) = (j : Int) + 1 := by rw [IntKind.wrap_i64]; omega
     obtain ⟨v,hv⟩ : ∃ v,rs[j]? = some v := ⟨_,List.getElem?_eq_getElem (by rw [HL2.out]; exact hjl)⟩
     obtain ⟨row,hrow⟩ : ∃ row,aa[j]? = some row := ⟨_,List.getElem?_eq_getElem (by rw [HL5.out]; exact hjl)⟩
     obtain ⟨g,o,rfl,hgB,hat⟩ := HQ2.out j v hv
     obtain ⟨g5,o5,sr,rfl,hg5,hc5,hint⟩ := HQ5.out j row hrow
     obtain ⟨pr,nr,cr,rfl,hnr,_⟩ := hint
     have hBw := HB0.out
     have HBx : Hid (Below w.heap.size w wr) := HB01.out.trans (HX.out.mono HB01.out.size)
     have hat := hat.below (HBx.out.mono HB0.out) hgB
     have HC5 : Hid (wr.cell? ⟨g5,o5 + j,none⟩ = some (.slice pr nr cr)) := by
      show _ = _
      rw [cell_below HBx.out (by omega)]; exact hc5
     have HG1 := keep ((HkG.out.fs (Fs.of_below (l:=[]) HX.out) (by simp)).cell 1 rfl)
     have a0 := hat.c0
     have a1 := hat.c1
     have a2 := hat.c2
     have HV := keep hv
     have HRow := keep hrow
     have HNr := keep hnr
     obtain ⟨vn,vs,vz⟩ := v
     dsimp only at a0 a1 a2
     obtain ⟨wv,hwv⟩ : ∃ y,wr.alloc (.cells #[.string ⟨vn.toArray⟩,.bool vs,.int .i64 vz] 82) = y := ⟨_,rfl⟩
     have HBv : Hid (Below wr.heap.size wr wv) := by
      show Below _ _ _
      rw [← hwv]; exact (Below.refl _ _).alloc (Nat.le_refl _) _
     have HKv : Hid (Bk wv wr.heap.size [.string ⟨vn.toArray⟩,.bool vs,.int .i64 vz] 82) := by
      show Bk _ _ _ _
      rw [← hwv]; exact Bk.new _ _ _
     have HWv := keep hwv
     clear hv hrow hat hc5 hnr hwv hBw
     by_cases hzz : vz = (nr : Int)
     ·subst hzz
      go_wp2_with (first | rw [HWv.out])
      refine wp_region_noPanic ?_
      refine Ord.wpM_begin (fun W' : World => W'.cell? ⟨bG,1,none⟩ = some (.slice (some ⟨g5,o5,none⟩) n5 c5) ∧ W'.cell? ⟨g5,o5 + j,none⟩ = some (.slice pr nr cr) ∧ W'.cell? ⟨wr.heap.size,2,none⟩ = some (.int .i64 (nr : Int))) [0,1,2,3,4,5,6,7,8] (by kernel_rfl) ?_
      have HD : Hid (Below wv.heap.size wv wv.drew) := Below.drew (Below.refl _ _)
      have hS : wv.drew.cell? ⟨bG,1,none⟩ = some (.slice (some ⟨g5,o5,none⟩) n5 c5) ∧ wv.drew.cell? ⟨g5,o5 + j,none⟩ = some (.slice pr nr cr) ∧ wv.drew.cell? ⟨wr.heap.size,2,none⟩ = some (.int .i64 (nr : Int)) := ⟨keep_cell (HBv.out.trans (HD.out.mono HBv.out.size)) HG1.out,keep_cell (HBv.out.trans (HD.out.mono HBv.out.size)) HC5.out,keep_cell HD.out (HKv.out.cell 2 rfl)⟩
      generalize wv.drew = wd at *
      refine Ord.tk (i:=0) (v:=.pointer (some ⟨bG,1,none⟩)) (hy:=Or.inl ⟨by rfl,by rintro W' ⟨q0,q1,q2⟩; go_simp⟩) (hS:=hS) (h:=?_)
      try simp only [Act.put,Ord.t,Ord.z,Ord.s]
      refine Ord.tk (i:=1) (v:=.slice (some ⟨g5,o5,none⟩) n5 c5) (hy:=Or.inl ⟨by rfl,by rintro W' ⟨q0,q1,q2⟩; go_simp⟩) (hS:=hS) (h:=?_)
      try simp only [Act.put,Ord.t,Ord.z,Ord.s]
      refine Ord.tk (i:=2) (v:=.int .i64 (j : Int)) (hy:=Or.inl ⟨by rfl,by rintro W' ⟨q0,q1,q2⟩; go_simp⟩) (hS:=hS) (h:=?_)
      try simp only [Act.put,Ord.t,Ord.z,Ord.s]
      refine Ord.tk (i:=3) (v:=.pointer (some ⟨g5,o5 + j,none⟩)) (hy:=Or.inl ⟨by rfl,by rintro W' ⟨q0,q1,q2⟩; go_simp⟩) (hS:=hS) (h:=?_)
      try simp only [Act.put,Ord.t,Ord.z,Ord.s]
      refine Ord.tk (i:=4) (v:=.slice pr nr cr) (hy:=Or.inl ⟨by rfl,by rintro W' ⟨q0,q1,q2⟩; go_simp⟩) (hS:=hS) (h:=?_)
      try simp only [Act.put,Ord.t,Ord.z,Ord.s]
      refine Ord.tk (i:=5) (v:=.int .i64 (nr : Int)) (hy:=Or.inl ⟨by rfl,by rintro W' ⟨q0,q1,q2⟩; go_simp⟩) (hS:=hS) (h:=?_)
      try simp only [Act.put,Ord.t,Ord.z,Ord.s]
      refine Ord.tk (i:=6) (v:=.pointer (some ⟨wr.heap.size,2,none⟩)) (hy:=Or.inl ⟨by rfl,by rintro W' ⟨q0,q1,q2⟩; go_simp⟩) (hS:=hS) (h:=?_)
      try simp only [Act.put,Ord.t,Ord.z,Ord.s]
      refine Ord.tk (i:=7) (v:=.int .i64 (nr : Int)) (hy:=Or.inl ⟨by rfl,by rintro W' ⟨q0,q1,q2⟩; go_simp⟩) (hS:=hS) (h:=?_)
      try simp only [Act.put,Ord.t,Ord.z,Ord.s]
      refine Ord.tk (i:=8) (v:=.bool false) (hy:=Or.inl ⟨by rfl,by rintro W' ⟨q0,q1,q2⟩; go_simp⟩) (hS:=hS) (h:=?_)
      try simp only [Act.put,Ord.t,Ord.z,Ord.s]
      refine Ord.wpM_done (by kernel_rfl) ?_ _
      refine NoPanic.normal ?_
      clear hS
      go_wp2
      go_roundw
      case rel =>
       refine ⟨j + 1,by omega,by go_num,fun k v a hk hv ha => ?_,HX.out.trans ((HBv.out.trans (HD.out.mono HBv.out.size)).mono HX.out.size)⟩
       by_cases ek : k = j
       ·subst ek
        rw [HV.out] at hv
        rw [HRow.out] at ha
        cases hv
        cases ha
        show ((row.length : Nat) : Int) = (nr : Int)
        rw [HNr.out]
       ·exact HSz.out k v a (by omega) hv ha
      case measure => simp [intOf]; omega
     ·have hne : ((nr : Int) != vz) = true := by
       rw [bne_iff_ne]; exact fun e => hzz e.symm
      have HNe := keep hzz
      clear hzz
      go_wp2_with (first | rw [HWv.out])
      refine wp_region_noPanic ?_
      refine Ord.wpM_begin (fun W' : World => W'.cell? ⟨bG,1,none⟩ = some (.slice (some ⟨g5,o5,none⟩) n5 c5) ∧ W'.cell? ⟨g5,o5 + j,none⟩ = some (.slice pr nr cr) ∧ W'.cell? ⟨wr.heap.size,2,none⟩ = some (.int .i64 vz)) [0,1,2,3,4,5,6,7,8] (by kernel_rfl) ?_
      have HD : Hid (Below wv.heap.size wv wv.drew) := Below.drew (Below.refl _ _)
      have hS : wv.drew.cell? ⟨bG,1,none⟩ = some (.slice (some ⟨g5,o5,none⟩) n5 c5) ∧ wv.drew.cell? ⟨g5,o5 + j,none⟩ = some (.slice pr nr cr) ∧ wv.drew.cell? ⟨wr.heap.size,2,none⟩ = some (.int .i64 vz) := ⟨keep_cell (HBv.out.trans (HD.out.mono HBv.out.size)) HG1.out,keep_cell (HBv.out.trans (HD.out.mono HBv.out.size)) HC5.out,keep_cell HD.out (HKv.out.cell 2 rfl)⟩
      generalize wv.drew = wd at *
      refine Ord.tk (i:=0) (v:=.pointer (some ⟨bG,1,none⟩)) (hy:=Or.inl ⟨by rfl,by rintro W' ⟨q0,q1,q2⟩; go_simp⟩) (hS:=hS) (h:=?_)
      try simp only [Act.put,Ord.t,Ord.z,Ord.s]
      refine Ord.tk (i:=1) (v:=.slice (some ⟨g5,o5,none⟩) n5 c5) (hy:=Or.inl ⟨by rfl,by rintro W' ⟨q0,q1,q2⟩; go_simp⟩) (hS:=hS) (h:=?_)
      try simp only [Act.put,Ord.t,Ord.z,Ord.s]
      refine Ord.tk (i:=2) (v:=.int .i64 (j : Int)) (hy:=Or.inl ⟨by rfl,by rintro W' ⟨q0,q1,q2⟩; go_simp⟩) (hS:=hS) (h:=?_)
      try simp only [Act.put,Ord.t,Ord.z,Ord.s]
      refine Ord.tk (i:=3) (v:=.pointer (some ⟨g5,o5 + j,none⟩)) (hy:=Or.inl ⟨by rfl,by rintro W' ⟨q0,q1,q2⟩; go_simp⟩) (hS:=hS) (h:=?_)
      try simp only [Act.put,Ord.t,Ord.z,Ord.s]
      refine Ord.tk (i:=4) (v:=.slice pr nr cr) (hy:=Or.inl ⟨by rfl,by rintro W' ⟨q0,q1,q2⟩; go_simp⟩) (hS:=hS) (h:=?_)
      try simp only [Act.put,Ord.t,Ord.z,Ord.s]
      refine Ord.tk (i:=5) (v:=.int .i64 (nr : Int)) (hy:=Or.inl ⟨by rfl,by rintro W' ⟨q0,q1,q2⟩; go_simp⟩) (hS:=hS) (h:=?_)
      try simp only [Act.put,Ord.t,Ord.z,Ord.s]
      refine Ord.tk (i:=6) (v:=.pointer (some ⟨wr.heap.size,2,none⟩)) (hy:=Or.inl ⟨by rfl,by rintro W' ⟨q0,q1,q2⟩; go_simp⟩) (hS:=hS) (h:=?_)
      try simp only [Act.put,Ord.t,Ord.z,Ord.s]
      refine Ord.tk (i:=7) (v:=.int .i64 vz) (hy:=Or.inl ⟨by rfl,by rintro W' ⟨q0,q1,q2⟩; go_simp⟩) (hS:=hS) (h:=?_)
      try simp only [Act.put,Ord.t,Ord.z,Ord.s]
      refine Ord.tk (i:=8) (v:=.bool true) (hy:=Or.inl ⟨by rfl,by rintro W' ⟨q0,q1,q2⟩; go_simp⟩) (hS:=hS) (h:=?_)
      try simp only [Act.put,Ord.t,Ord.z,Ord.s]
      refine Ord.wpM_done (by kernel_rfl) ?_ _
      refine NoPanic.normal ?_
      clear hS
      have HE : Hid (FitP ps rs ws aa w (.returned (.int .i64 5)) wd) := by
       refine ⟨5,rfl,.many fun hs => HNe.out ?_,HBx.out.trans ((HBv.out.trans (HD.out.mono HBv.out.size)).mono HBx.out.size)⟩
       have := hs.s j _ _ HV.out HRow.out
       dsimp only at this
       rw [← this,HNr.out]
      clear HNe HD HBv HKv HX HSz
      go_wp2
      go_ret
      exact HE.out
    ·have hje : j = n5 := by omega
     subst hje
     have dl : decide ((j : Int) < (j : Int)) = false := decide_eq_false (by omega)
     have HShape : Hid (Shape ps rs ws aa) := ⟨HL4.out.trans HL1.out.symm,HL5.out.trans HL2.out.symm,fun i v a hv ha => HSz.out i v a (by have := (List.getElem?_eq_some_iff.1 hv).1; rw [HL2.out] at this; exact this) hv ha⟩
     have kGr := HkG.out.fs (Fs.of_below (l:=[]) HX.out) (by simp)
     have g0 := kGr.cell 0 rfl
     have HGr := keep kGr
     have HI1 := keep (contains_ints B ws _ wr (Nat.le_trans HBB.out HX.out.size) (HI.out.below (HX.out.mono HBB.out)))
     clear hjl kGr
     go_wp2_with fail
     refine HI1.out.mono ?_
     rintro r w4 ⟨b1,rfl,hb1,hbl4⟩
     have HBl4 := keep (HX.out.trans (hbl4.mono HX.out.size))
     have HL4b := keep hbl4
     have Hb1 := keep hb1
     clear HI1 hbl4 hb1 g0
     cases b1 with
     | true =>
      have HE : Hid (FitP ps rs ws aa w (.returned (.int .i64 3)) w4) := by
       refine ⟨3,rfl,.range HShape.out fun hall => ?_,HB01.out.trans (HBl4.out.mono HB01.out.size)⟩
       exact Hb1.out.1 rfl hall.1
      clear Hb1
      go_wp2
      go_ret
      exact HE.out
     | false =>
      have kG4 := HGr.out.fs (Fs.of_below (l:=[]) HL4b.out) (by simp)
      have g1 := kG4.cell 1 rfl
      have HC1 := keep (concat_ints B aa _ w4 (Nat.le_trans HBB.out HBl4.out.size) (HA.out.below (HBl4.out.mono HBB.out)) (HTT.out HShape.out))
      clear kG4
      go_wp2_with fail
      refine HC1.out.mono ?_
      rintro r w5 ⟨v5,rfl,hr5,hb5⟩
      have HB5 := keep (HBl4.out.trans (hb5.mono HBl4.out.size))
      have HI5 := keep (contains_ints w5.heap.size aa.flatten v5 w5 (Nat.le_refl _) (RowI.ints hr5 (by rw [flat_len]; have := HTT.out HShape.out; omega)))
      obtain ⟨pv,nv,cv,rfl⟩ := RowX.slice hr5
      clear hr5 hb5 HC1 g1
      go_wp2_with fail
      refine HI5.out.mono ?_
      rintro r w6 ⟨b6,rfl,hb6,hbl6⟩
      have HB6 := keep (HB5.out.trans (hbl6.mono HB5.out.size))
      have Hb6 := keep hb6
      clear HI5 hbl6 hb6
      cases b6 with
      | true =>
       have HE : Hid (FitP ps rs ws aa w (.returned (.int .i64 3)) w6) := by
        refine ⟨3,rfl,.range HShape.out fun hall => ?_,HB01.out.trans (HB6.out.mono HB01.out.size)⟩
        exact Hb6.out.1 rfl (allW_flat.1 hall).2
       clear Hb6 Hb1
       go_wp2
       go_ret
       exact HE.out
      | false =>
       have HE : Hid (FitP ps rs ws aa w (.returned (.int .i64 0)) w6) := by
        refine ⟨0,rfl,.ok HShape.out (allW_flat.2 ⟨?_,?_⟩),HB01.out.trans (HB6.out.mono HB01.out.size)⟩
        ·exact Classical.byContradiction fun h => by have := Hb1.out.2 h; cases this
        ·exact Classical.byContradiction fun h => by have := Hb6.out.2 h; cases this
       clear Hb6 Hb1
       go_wp2
       go_ret
       exact HE.out
  ·have hne : ((n5 : Int) != (n2 : Int)) = true := by rw [bne_iff_ne]; omega
   have HE : Hid (FitP ps rs ws aa w (.returned (.int .i64 5)) w1) := ⟨5,rfl,.many fun hs => e2 (by have := hs.a; rw [HL5.out,HL2.out] at this; exact this),HB01.out⟩
   subst e1
   have HE2 := keep e2
   clear hbF hbG e2
   go_enter Try.func65,Try.ntmps65
   go_wp2_with (first | rw [HW0.out] | rw [HW1.out] | rw [HbF.out] | rw [HbG.out])
   all_goals first | (go_ret; exact HE.out) | exact absurd (by omega) HE2.out | skip
 ·have hne : ((n4 : Int) != (n1 : Int)) = true := by rw [bne_iff_ne]; omega
  have HE : Hid (FitP ps rs ws aa w (.returned (.int .i64 5)) w1) := ⟨5,rfl,.many fun hs => e1 (by have := hs.w; rw [HL4.out,HL1.out] at this; exact this),HB01.out⟩
  have HE1 := keep e1
  clear hbF hbG e1
  go_enter Try.func65,Try.ntmps65
  go_wp2_with (first | rw [HW0.out] | rw [HW1.out] | rw [HbF.out] | rw [HbG.out])
  all_goals first | (go_ret; exact HE.out) | exact absurd (by omega) HE1.out | skip
end Go.Proofs.Ytpnacanbknejiaa.Lr
