/- Whether all that is read is there, and whether some of it is secret: slices.ContainsFunc with the two function values of flow's checker. Written by tools/gen_flidx.py. -/
import Derived.Test.YtpnacanbknejiaaGr9
namespace Go.Proofs.Ytpnacanbknejiaa.Fl
set_option maxHeartbeats 32000000
set_option maxRecDepth 100000
set_option linter.unusedVariables false
set_option linter.unusedSimpArgs false
open Go.ChangeShapes Go.WideShapes Go.ChangeAt Go.RowKit Lg Lr
structure BoxF (w : World) (P : Nat) (B : Nat) (f : Fx) (s1 s2 s3 : Value) : Prop where
 box : Bk w P [s1,s2,.int .i64 f.params,s3] 26
 is : FxIs w B f s1 s2 s3
 le : B ≤ w.heap.size
theorem BoxF.below {w w' : World} {P B : Nat} {f : Fx} {s1 s2 s3 : Value} (h : BoxF w P B f s1 s2 s3) (hb : Below w.heap.size w w') : BoxF w' P B f s1 s2 s3 := ⟨h.box.fs (Fs.of_below (l:=[]) hb) (by simp),h.is.below (hb.mono h.le),Nat.le_trans h.le hb.size⟩
theorem in1_any (P B : Nat) (f : Fx) (s1 s2 s3 : Value) (x : Int) (w : World) (h : BoxF w P B f s1 s2 s3) : Calls Try.prog 77 #[.int .i64 x,.pointer (some ⟨P,0,none⟩)] w fun r w' => r = .returned (.bool (!wi x f.sec.length)) ∧ Below w.heap.size w w' := by
 obtain ⟨p,n,c,rfl,hn,_,_,_⟩ := id h.is.sec
 have c1 := h.box.cell 1 rfl
 have HW := keep (within_any x n w)
 rw [hn]
 clear h hn
 go_enter Try.func77,Try.ntmps77
 go_wp2_with fail
 refine HW.out.mono ?_
 rintro r w1 ⟨rfl,rfl⟩
 clear HW
 obtain ⟨q,hq⟩ : ∃ q,wi x n = q := ⟨_,rfl⟩
 rw [hq]
 cases q <;> (go_wp2; go_ret; exact ⟨by rw [hq]; rfl,Below.refl _ _⟩)
theorem sp1_any (P B : Nat) (f : Fx) (s1 s2 s3 : Value) (x : Int) (w : World) (h : BoxF w P B f s1 s2 s3) (hx : 0 ≤ x ∧ x < f.sec.length) : Calls Try.prog 79 #[.int .i64 x,.pointer (some ⟨P,0,none⟩)] w fun r w' => r = .returned (.bool (gB f.sec x)) ∧ Below w.heap.size w w' := by
 obtain ⟨p,n,c,rfl,hn,_,hm,hq⟩ := id h.is.sec
 obtain ⟨k,rfl⟩ : ∃ k : Nat,x = (k : Int) := ⟨x.toNat,by omega⟩
 obtain ⟨v,hv⟩ : ∃ v,f.sec[k]? = some v := ⟨_,List.getElem?_eq_getElem (by omega)⟩
 obtain ⟨g,o,rfl,hg,hc⟩ := hq k v hv
 have c1 := h.box.cell 1 rfl
 have e : gB f.sec (k : Int) = v := by unfold gB; rw [Int.toNat_natCast,List.getD_eq_getElem?_getD,hv]; rfl
 rw [e]
 have z0 : (0 : Int) ≤ (k : Int) := by omega
 have z1 : (k : Int) < (n : Int) := by omega
 clear h hn hq hv hg e hx
 go_enter Try.func79,Try.ntmps79
 go_wp2
 go_ret
 exact ⟨rfl,Below.refl _ _⟩
theorem index_in (P B : Nat) (f : Fx) (s1 s2 s3 : Value) (A : Nat) (l : List Int) (sl : Value) (w : World) (hB : A ≤ w.heap.size) (ha : IntsIs w A l sl) (hF : BoxF w P B f s1 s2 s3) :
  Calls Try.prog 84 #[sl,.func (.func 77) #[] #[.pointer (some ⟨P,0,none⟩)]] w fun r w' => ∃ i : Int,r = .returned (.int .i64 i) ∧ Idx (fun x => !wi x f.sec.length) l i ∧ Below w.heap.size w w' := by
 obtain ⟨pa,na,ca,rfl,hna,hca,hla,hea⟩ := ha
 have HEA := keep hea
 have HNA := keep hna
 have HBB := keep hB
 have HF := keep hF
 clear hea hna hB hF
 go_enter Try.func84,Try.ntmps84
 go_wp2
 go_loopw [8] (fun i wx => ∃ k : Nat,k ≤ na ∧ i = .int .i64 (k : Int) ∧ (∀ j b,j < k → l[j]? = some b → (!wi b f.sec.length) = false) ∧ Below w.heap.size w wx) (fun i _ => na - (intOf i).toNat)
 case atStart => exact ⟨0,by omega,rfl,fun j b hj => by omega,Below.refl _ _⟩
 case round =>
  obtain ⟨k,hkn,rfl,hno,hbx⟩ := hrel
  have HS := keep hno
  have HX := keep hbx
  clear hno hbx
  by_cases hkl : k < na
  ·have d1 : decide ((k : Int) < (na : Int)) = true := decide_eq_true (by omega)
   have hkz : (k : Int) < (na : Int) := by omega
   have hk0 : (0 : Int) ≤ (k : Int) := by omega
   obtain ⟨x,hx⟩ : ∃ x,l[k]? = some x := ⟨_,List.getElem?_eq_getElem (by rw [HNA.out]; exact hkl)⟩
   obtain ⟨g,o,rfl,hg,hax⟩ := HEA.out k x hx
   have HUX := keep hx
   have hB := HBB.out
   have a0 : wr.cell? ⟨g,o + k,none⟩ = some (.int .i64 x) := by rw [cell_below HX.out (by omega)]; exact hax
   have HOne := keep (in1_any P B f s1 s2 s3 x wr (HF.out.below HX.out))
   clear hx hax HEA hB
   obtain ⟨q,hq⟩ : ∃ q,(!wi x f.sec.length) = q := ⟨_,rfl⟩
   rw [hq] at HOne
   have HQ := keep hq
   clear hq
   go_wp2_with fail
   refine HOne.out.mono ?_
   rintro r w1 ⟨rfl,hb1⟩
   have HB1 := keep (HX.out.trans (hb1.mono HX.out.size))
   clear hb1
   cases q with
   | true =>
    go_wp2
    go_ret
    exact ⟨_,rfl,.inr ⟨k,_,rfl,HUX.out,find_at HS.out HUX.out HQ.out,by rw [HNA.out]; exact hkl,HS.out⟩,HB1.out⟩
   | false =>
    go_wp2
    go_roundw
    case rel => exact ⟨k + 1,by omega,by go_num,fun j b hj hb => by
     by_cases e : j = k
     ·rw [e,HUX.out] at hb
      cases hb; exact HQ.out
     ·exact HS.out j b (by omega) hb,HB1.out⟩
    case measure => simp [intOf]; omega
  ·have hke : k = na := by omega
   subst hke
   have dl : decide ((k : Int) < (k : Int)) = false := decide_eq_false (by omega)
   have HN := keep (find_no (p:=fun x => !wi x f.sec.length) (l:=l) fun j b hb => HS.out j b (by have := (List.getElem?_eq_some_iff.1 hb).1; rw [HNA.out] at this; exact this) hb)
   clear hkl
   go_wp2
   go_ret
   exact ⟨_,rfl,.inl ⟨rfl,HN.out⟩,HX.out⟩
theorem contains_in (P B : Nat) (f : Fx) (s1 s2 s3 : Value) (A : Nat) (l : List Int) (sl : Value) (w : World) (hB : A ≤ w.heap.size) (ha : IntsIs w A l sl) (hF : BoxF w P B f s1 s2 s3) :
  Calls Try.prog 74 #[sl,.func (.func 77) #[] #[.pointer (some ⟨P,0,none⟩)]] w fun r w' => r = .returned (.bool (l.any fun x => !wi x f.sec.length)) ∧ Below w.heap.size w w' := by
 obtain ⟨pa,na,ca,rfl,_⟩ := id ha
 have HC := keep (index_in P B f s1 s2 s3 A l _ w hB ha hF)
 clear ha hB hF
 go_enter Try.func74,Try.ntmps74
 go_wp2_with fail
 refine HC.out.mono ?_
 rintro r w1 ⟨i,rfl,hi,hb⟩
 have HB1 := keep hb
 clear hb HC
 rcases hi with ⟨rfl,hno⟩ | ⟨k,a,rfl,hk,hf,hkl,hbe⟩
 ·have HE : Hid ((l.any fun x => !wi x f.sec.length) = false) := by
   show _ = _
   rw [List.any_eq_false]
   intro x hx
   rw [List.find?_eq_none] at hno
   exact hno x hx
  clear hno
  go_wp2
  go_ret
  exact ⟨by rw [HE.out]; rfl,HB1.out⟩
 ·have HE : Hid ((l.any fun x => !wi x f.sec.length) = true) := by
   show _ = _
   have h2 := List.find?_some hf
   exact List.any_eq_true.2 ⟨a,List.mem_of_getElem? hk,h2⟩
  have d1 : decide (0 ≤ (k : Int)) = true := decide_eq_true (by omega)
  clear hk hf hkl hbe
  go_wp2
  go_ret
  first | exact ⟨by rw [HE.out]; rfl,HB1.out⟩ | exact ⟨by rw [HE.out]; simp,HB1.out⟩
theorem index_sp (P B : Nat) (f : Fx) (s1 s2 s3 : Value) (A : Nat) (l : List Int) (sl : Value) (w : World) (hB : A ≤ w.heap.size) (ha : IntsIs w A l sl) (hF : BoxF w P B f s1 s2 s3) (hM : ∀ x ∈ l,0 ≤ x ∧ x < f.sec.length) :
  Calls Try.prog 84 #[sl,.func (.func 79) #[] #[.pointer (some ⟨P,0,none⟩)]] w fun r w' => ∃ i : Int,r = .returned (.int .i64 i) ∧ Idx (fun x => gB f.sec x) l i ∧ Below w.heap.size w w' := by
 obtain ⟨pa,na,ca,rfl,hna,hca,hla,hea⟩ := ha
 have HEA := keep hea
 have HNA := keep hna
 have HBB := keep hB
 have HF := keep hF
 have HM := keep hM
 clear hea hna hB hF hM
 go_enter Try.func84,Try.ntmps84
 go_wp2
 go_loopw [8] (fun i wx => ∃ k : Nat,k ≤ na ∧ i = .int .i64 (k : Int) ∧ (∀ j b,j < k → l[j]? = some b → (gB f.sec b) = false) ∧ Below w.heap.size w wx) (fun i _ => na - (intOf i).toNat)
 case atStart => exact ⟨0,by omega,rfl,fun j b hj => by omega,Below.refl _ _⟩
 case round =>
  obtain ⟨k,hkn,rfl,hno,hbx⟩ := hrel
  have HS := keep hno
  have HX := keep hbx
  clear hno hbx
  by_cases hkl : k < na
  ·have d1 : decide ((k : Int) < (na : Int)) = true := decide_eq_true (by omega)
   have hkz : (k : Int) < (na : Int) := by omega
   have hk0 : (0 : Int) ≤ (k : Int) := by omega
   obtain ⟨x,hx⟩ : ∃ x,l[k]? = some x := ⟨_,List.getElem?_eq_getElem (by rw [HNA.out]; exact hkl)⟩
   obtain ⟨g,o,rfl,hg,hax⟩ := HEA.out k x hx
   have HUX := keep hx
   have hB := HBB.out
   have a0 : wr.cell? ⟨g,o + k,none⟩ = some (.int .i64 x) := by rw [cell_below HX.out (by omega)]; exact hax
   have HOne := keep (sp1_any P B f s1 s2 s3 x wr (HF.out.below HX.out) (HM.out x (List.mem_of_getElem? hx)))
   clear hx hax HEA hB
   obtain ⟨q,hq⟩ : ∃ q,(gB f.sec x) = q := ⟨_,rfl⟩
   rw [hq] at HOne
   have HQ := keep hq
   clear hq
   go_wp2_with fail
   refine HOne.out.mono ?_
   rintro r w1 ⟨rfl,hb1⟩
   have HB1 := keep (HX.out.trans (hb1.mono HX.out.size))
   clear hb1
   cases q with
   | true =>
    go_wp2
    go_ret
    exact ⟨_,rfl,.inr ⟨k,_,rfl,HUX.out,find_at HS.out HUX.out HQ.out,by rw [HNA.out]; exact hkl,HS.out⟩,HB1.out⟩
   | false =>
    go_wp2
    go_roundw
    case rel => exact ⟨k + 1,by omega,by go_num,fun j b hj hb => by
     by_cases e : j = k
     ·rw [e,HUX.out] at hb
      cases hb; exact HQ.out
     ·exact HS.out j b (by omega) hb,HB1.out⟩
    case measure => simp [intOf]; omega
  ·have hke : k = na := by omega
   subst hke
   have dl : decide ((k : Int) < (k : Int)) = false := decide_eq_false (by omega)
   have HN := keep (find_no (p:=fun x => gB f.sec x) (l:=l) fun j b hb => HS.out j b (by have := (List.getElem?_eq_some_iff.1 hb).1; rw [HNA.out] at this; exact this) hb)
   clear hkl
   go_wp2
   go_ret
   exact ⟨_,rfl,.inl ⟨rfl,HN.out⟩,HX.out⟩
theorem contains_sp (P B : Nat) (f : Fx) (s1 s2 s3 : Value) (A : Nat) (l : List Int) (sl : Value) (w : World) (hB : A ≤ w.heap.size) (ha : IntsIs w A l sl) (hF : BoxF w P B f s1 s2 s3) (hM : ∀ x ∈ l,0 ≤ x ∧ x < f.sec.length) :
  Calls Try.prog 74 #[sl,.func (.func 79) #[] #[.pointer (some ⟨P,0,none⟩)]] w fun r w' => r = .returned (.bool (l.any fun x => gB f.sec x)) ∧ Below w.heap.size w w' := by
 obtain ⟨pa,na,ca,rfl,_⟩ := id ha
 have HC := keep (index_sp P B f s1 s2 s3 A l _ w hB ha hF hM)
 clear ha hB hF hM
 go_enter Try.func74,Try.ntmps74
 go_wp2_with fail
 refine HC.out.mono ?_
 rintro r w1 ⟨i,rfl,hi,hb⟩
 have HB1 := keep hb
 clear hb HC
 rcases hi with ⟨rfl,hno⟩ | ⟨k,a,rfl,hk,hf,hkl,hbe⟩
 ·have HE : Hid ((l.any fun x => gB f.sec x) = false) := by
   show _ = _
   rw [List.any_eq_false]
   intro x hx
   rw [List.find?_eq_none] at hno
   exact hno x hx
  clear hno
  go_wp2
  go_ret
  exact ⟨by rw [HE.out]; rfl,HB1.out⟩
 ·have HE : Hid ((l.any fun x => gB f.sec x) = true) := by
   show _ = _
   have h2 := List.find?_some hf
   exact List.any_eq_true.2 ⟨a,List.mem_of_getElem? hk,h2⟩
  have d1 : decide (0 ≤ (k : Int)) = true := decide_eq_true (by omega)
  clear hk hf hkl hbe
  go_wp2
  go_ret
  first | exact ⟨by rw [HE.out]; rfl,HB1.out⟩ | exact ⟨by rw [HE.out]; simp,HB1.out⟩
end Go.Proofs.Ytpnacanbknejiaa.Fl
