/- What is seen of an instruction: flow's Seen. -/
import Derived.Test.YtpnacanbknejiaaGr11
namespace Go.Proofs.Ytpnacanbknejiaa.Fl
set_option maxHeartbeats 32000000
set_option maxRecDepth 100000
set_option linter.unusedVariables false
set_option linter.unusedSimpArgs false
open Go.ChangeShapes Go.WideShapes Go.ChangeAt Go.RowKit Lg Lr
theorem int_at {w : World} {B : Nat} {l : List Int} {p : Option Addr} {n c : Nat} (h : IntsIs w B l (.slice p n c)) {k : Nat} (hk : k < l.length) : ∃ g o,p = some ⟨g,o,none⟩ ∧ g < B ∧ w.cell? ⟨g,o + k,none⟩ = some (.int .i64 (gI l (k : Int))) := by
 obtain ⟨q1,q2,q3,q4,q5,q6,q7,q8⟩ := h
 cases q4
 have e : l[k]? = some (gI l (k : Int)) := by
  unfold gI
  rw [Int.toNat_natCast,List.getD_eq_getElem?_getD,List.getElem?_eq_getElem hk]; rfl
 exact q8 k _ e
theorem RowI_lower {w : World} {lo lo' : Nat} {v : Value} {es : List Int} (h : RowI w lo v es) (hl : lo' ≤ lo) : RowI w lo' v es := by
 obtain ⟨⟨h1,h2⟩,h3⟩ := h
 refine ⟨⟨h1,?_⟩,fun p hp => trivial⟩
 rcases h2 with h2 | ⟨g,cap,cur,a1,a2,a3⟩
 ·exact .inl h2
 ·exact .inr ⟨g,cap,cur,a1,by omega,a3⟩
def SeenP (T : Nat → Int) (i : Ix) (all : Bool) (P : List Int) (w : World) (r : Ending) (w' : World) : Prop := ∃ v,r = .returned v ∧ RowI w' w.heap.size v (valsW (bitsG T i.op all) P 0 (rds i)) ∧ Below w.heap.size w w'
theorem valsW_step {n : Int} {P : List Int} {k : Nat} {l : List Int} {p : Int} (h : l[k]? = some p) : valsW n P k (l.drop k) = (if bitOn n k = true ∧ wi p P.length = true then [gI P p] else []) ++ valsW n P (k + 1) (l.drop (k + 1)) := by
 obtain ⟨hlt,he⟩ := List.getElem?_eq_some_iff.1 h
 rw [List.drop_eq_getElem_cons hlt,he,valsW]
 split <;> rfl
theorem valsW_len (n : Int) (P : List Int) : ∀ (l : List Int) (k : Nat),(valsW n P k l).length ≤ l.length
 | [],_ => by simp [valsW]
 | p :: l,k => by
  have := valsW_len n P l (k + 1)
  rw [valsW]
  split <;> simp <;> omega
theorem seen_any (B : Nat) (T : Nat → Int) (i : Ix) (P : List Int) (sv : Value) (all : Bool) (w : World) (hB : B ≤ w.heap.size) (hv : IntsIs w B P sv) (hbt : 0 ≤ bitsG T i.op all ∧ bitsG T i.op all ≤ 7) :
  Calls Try.prog 19 #[.agg (Tb.tabA T),.agg (ixA i),sv,.bool all] w fun r w' => SeenP T i all P w r w' := by
 have HPv := keep hv
 obtain ⟨pP,nP,cP,rfl,hnP,hcP,hlP,_⟩ := hv
 have HNP := keep hnP
 have HIx := keep (rds_len i)
 obtain ⟨i0,hi0⟩ : ∃ y,y = i := ⟨_,rfl⟩
 obtain ⟨op,d,a,b,c,imm⟩ := i
 obtain ⟨w1,hw1⟩ : ∃ y,w.alloc (.cells (Tb.tabA T) 29) = y := ⟨_,rfl⟩
 obtain ⟨w2,hw2⟩ : ∃ y,w1.alloc (.cells #[.int .i64 op,.int .i64 d,.int .i64 a,.int .i64 b,.int .i64 c,.int .i64 imm] 35) = y := ⟨_,rfl⟩
 obtain ⟨TB,hTB⟩ : ∃ y,w.heap.size = y := ⟨_,rfl⟩
 obtain ⟨I,hI⟩ : ∃ y,w1.heap.size = y := ⟨_,rfl⟩
 have b1 : Below w.heap.size w w1 := by rw [← hw1]; exact (Below.refl _ _).alloc (Nat.le_refl _) _
 have b2 : Below w1.heap.size w1 w2 := by rw [← hw2]; exact (Below.refl _ _).alloc (Nat.le_refl _) _
 have b12 := b1.trans (b2.mono b1.size)
 have kT1 : Tb.Blk w1 TB T := by rw [← hw1,← hTB]; exact Tb.blk_alloc w T
 have kT : Tb.Blk w2 TB T := kT1.below b2 kT1.lt
 have kI : Bk w2 I [.int .i64 op,.int .i64 d,.int .i64 a,.int .i64 b,.int .i64 c,.int .i64 imm] 35 := by rw [← hw2,← hI]; exact Bk.new _ _ _
 have HT := keep kT
 have HI := keep kI
 have HW1 := keep hw1
 have HW2 := keep hw2
 have HTe := keep hTB
 have HIe := keep hI
 have HBw := keep b12
 have HB0 := keep hB
 have x0 := kI.cell 0 rfl
 have x1 := kI.cell 1 rfl
 have x2 := kI.cell 2 rfl
 have x3 := kI.cell 3 rfl
 have x4 := kI.cell 4 rfl
 have x5 := kI.cell 5 rfl
 have HS := keep (seenBits_any T op all w2)
 have HR := keep (fun w => reads_any ⟨op,d,a,b,c,imm⟩ w)
 obtain ⟨bb,hbb⟩ : ∃ y,bitsG T op all = y := ⟨_,rfl⟩
 have HBB := keep hbb
 dsimp only at hbt
 rw [hbb] at hbt HS
 have HBt := keep hbt
 unfold ixA at HR
 unfold ixA
 dsimp only at HR HIx ⊢
 have HGoal : Hid (∀ v w',RowI w' w.heap.size v (valsW bb P 0 (rds ⟨op,d,a,b,c,imm⟩)) → Below w2.heap.size w2 w' → SeenP T ⟨op,d,a,b,c,imm⟩ all P w (.returned v) w') := fun v w' h1 h2 => ⟨v,rfl,by dsimp only; rw [HBB.out]; exact h1,HBw.out.trans (h2.mono HBw.out.size)⟩
 clear hw1 hw2 hTB hI b1 b2 b12 kT1 kT kI hi0 hnP hbb hbt hB
 go_enter Try.func19,Try.ntmps19
 go_wp2_with (first | rw [HW1.out] | rw [HW2.out] | rw [HTe.out] | rw [HIe.out] | (refine Tb.load_tab rfl _ rfl TB rfl T HT.out ?_) | fail)
 refine HS.out.mono ?_
 rintro r w3 ⟨rfl,hb3⟩
 have HB3 := keep hb3
 have kI3 := HI.out.fs (Fs.of_below (l:=[]) hb3) (by simp)
 clear hb3 HS x0 x1 x2 x3 x4 x5
 have x0 := kI3.cell 0 rfl
 have x1 := kI3.cell 1 rfl
 have x2 := kI3.cell 2 rfl
 have x3 := kI3.cell 3 rfl
 have x4 := kI3.cell 4 rfl
 have x5 := kI3.cell 5 rfl
 clear kI3
 go_wp2_with fail
 refine (HR.out w3).mono ?_
 rintro r w4 ⟨v,rfl,hv,hb4⟩
 obtain ⟨pv,nv,cv,rfl⟩ := hv.slice
 have HV := keep hv
 have HB4 := keep (HB3.out.trans (hb4.mono HB3.out.size))
 clear hv hb4 HR x0 x1 x2 x3 x4 x5 HB3
 have hnv : (rds ⟨op,d,a,b,c,imm⟩).length = nv := by
  obtain ⟨q1,q2,q3,q4,q5,_⟩ := HV.out
  cases q4
  exact q5
 have HNV := keep hnv
 rw [hnv] at HIx
 clear hnv
 obtain ⟨rl,hrl⟩ : ∃ y,rds ⟨op,d,a,b,c,imm⟩ = y := ⟨_,rfl⟩
 rw [hrl] at HV HNV HGoal
 clear hrl
 go_wp2
 go_loopw [21,10] (fun j v wx => ∃ (k : Nat) (es : List Int),k ≤ nv ∧ j = .int .i64 (k : Int) ∧ RowI wx w4.heap.size v es ∧ es.length ≤ k ∧ es ++ valsW bb P k (rl.drop k) = valsW bb P 0 rl ∧ Below w4.heap.size w4 wx) (fun j _ _ => nv - (intOf j).toNat)
 case atStart => exact ⟨0,[],by omega,rfl,RowX.nil _ _,Nat.le_refl _,rfl,Below.refl _ _⟩
 case round =>
  obtain ⟨k,es,hkn,rfl,hrow,hlen,hes,hbx⟩ := hrel
  have HRow := keep hrow
  have HL := keep hlen
  have HEs := keep hes
  have HX := keep hbx
  obtain ⟨po,no,co,rfl⟩ := RowX.slice hrow
  clear hrow hlen hes hbx
  by_cases hkl : k < nv
  ·have d1 : decide ((k : Int) < (nv : Int)) = true := decide_eq_true (by omega)
   have hkz : (k : Int) < (nv : Int) := by omega
   have hk0 : (0 : Int) ≤ (k : Int) := by omega
   obtain ⟨p,hp⟩ : ∃ p,rl[k]? = some p := ⟨_,List.getElem?_eq_getElem (by rw [HNV.out]; exact hkl)⟩
   have hst := valsW_step (n:=bb) (P:=P) hp
   obtain ⟨g,o,hpe,hgB,hc⟩ := int_at HV.out (k:=k) (by rw [HNV.out]; exact hkl)
   have e : gI rl (k : Int) = p := by unfold gI; rw [Int.toNat_natCast,List.getD_eq_getElem?_getD,hp]; rfl
   rw [e] at hc
   subst hpe
   have a0 : wr.cell? ⟨g,o + k,none⟩ = some (.int .i64 p) := by rw [cell_below HX.out hgB]; exact hc
   have HSt := keep hst
   have hbit := bit_on bb HBt.out.1 HBt.out.2 k (by have := HIx.out; omega)
   have HWi := keep (within_any p nP wr)
   clear hp e hc hgB hst
   have hk3 : k = 0 ∨ k = 1 ∨ k = 2 := by have := HIx.out; omega
   obtain ⟨q,hq⟩ : ∃ q,bitOn bb k = q := ⟨_,rfl⟩
   have HQ := keep hq
   rw [hq] at hbit
   clear hq
   have hsh : wrap64 (2 ^ k) = 2 ^ k := by rcases hk3 with rfl | rfl | rfl <;> simp [wrap64]
   cases q with
   | false =>
    have HNo : Hid (es ++ valsW bb P (k + 1) (rl.drop (k + 1)) = valsW bb P 0 rl) := by
     show _ = _
     rw [← HEs.out,HSt.out,if_neg (by rw [HQ.out]; simp)]; rfl
    clear HSt HEs HQ
    go_wp2
    go_roundw
    case rel => exact ⟨k + 1,es,by omega,by go_num,HRow.out,by have := HL.out; omega,HNo.out,HX.out⟩
    case measure => simp [intOf]; omega
   | true =>
    obtain ⟨q2,hq2⟩ : ∃ q,wi p nP = q := ⟨_,rfl⟩
    have HQ2 := keep hq2
    rw [hq2] at HWi
    clear hq2
    go_wp2_with fail
    refine HWi.out.mono ?_
    rintro r wr ⟨rfl,rfl⟩
    clear HWi
    cases q2 with
    | false =>
     have HNo : Hid (es ++ valsW bb P (k + 1) (rl.drop (k + 1)) = valsW bb P 0 rl) := by
      show _ = _
      rw [← HEs.out,HSt.out,if_neg (by rw [HNP.out,HQ2.out]; simp)]; rfl
     clear HSt HEs HQ
     go_wp2
     go_roundw
     case rel => exact ⟨k + 1,es,by omega,by go_num,HRow.out,by have := HL.out; omega,HNo.out,HX.out⟩
     case measure => simp [intOf]; omega
    | true =>
     have HYes : Hid ((es ++ [gI P p]) ++ valsW bb P (k + 1) (rl.drop (k + 1)) = valsW bb P 0 rl) := by
      show _ = _
      rw [← HEs.out,HSt.out,if_pos (by rw [HNP.out,HQ2.out,HQ.out]; simp),List.append_assoc]
     obtain ⟨p0,p1⟩ := wi_iff.1 HQ2.out
     obtain ⟨kp,rfl⟩ : ∃ kp : Nat,p = (kp : Int) := ⟨p.toNat,by omega⟩
     obtain ⟨gp,op',hpe,hgB,hc⟩ := int_at HPv.out (k:=kp) (by rw [HNP.out]; omega)
     subst hpe
     have a1 : wr.cell? ⟨gp,op' + kp,none⟩ = some (.int .i64 (gI P (kp : Int))) := by
      have := HB0.out
      rw [cell_below (HBw.out.trans ((HB4.out.trans (HX.out.mono HB4.out.size)).mono HBw.out.size)) (by omega)]; exact hc
     obtain ⟨v1,hv1⟩ : ∃ y,gI P (kp : Int) = y := ⟨_,rfl⟩
     rw [hv1] at a1 HYes
     obtain ⟨w5,hw5⟩ : ∃ y,wr.alloc (.cells #[.int .i64 v1] 3) = y := ⟨_,rfl⟩
     have HB5 : Hid (Below wr.heap.size wr w5) := by show Below _ _ _; rw [← hw5]; exact (Below.refl _ _).alloc (Nat.le_refl _) _
     have HI5 : Hid (IntsIs w5 w5.heap.size [v1] (.slice (some ⟨wr.heap.size,0,none⟩) 1 1)) := by
      have h := ints_new wr [v1] (by simp)
      show IntsIs _ _ _ _
      rw [← hw5]; exact h
     have HR5 : Hid (RowI w5 w4.heap.size (.slice po no co) es) := by
      have h := RowX.fs (l:=[]) nestI_nest HRow.out (Fs.of_below HB5.out) (by simp)
      exact h
     have HW5 := keep hw5
     have HWs : Hid (w4.heap.size ≤ w5.heap.size) := by
      have h1 := HBw.out.size
      have h2 := HB4.out.size
      have h3 := HX.out.size
      have h4 := HB5.out.size
      show _ ≤ _
      omega
     have hLe : es.length + [v1].length ≤ 1048576 := by have := HL.out; have := HIx.out; simp; omega
     have HLe := keep hLe
     clear HSt HEs HQ HQ2 hc hgB hv1 hw5 hLe
     go_wp2_with (first | rw [HW5.out] | (at_builtin; refine wpList_append_ints rfl (.tmp 37) (.tmp 42) rfl w4.heap.size w5.heap.size _ _ es [v1] rfl rfl HR5.out HI5.out HWs.out HLe.out ?_) | fail)
     intro p6 n6 c6 w6 hr6 hb6
     have HR6 := keep hr6
     have HB6 := keep hb6
     clear hr6 hb6
     go_wp2
     go_roundw
     case rel => exact ⟨k + 1,es ++ [v1],by omega,by go_num,HR6.out,by have := HL.out; simp; omega,HYes.out,(HX.out.trans (HB5.out.mono HX.out.size)).trans HB6.out⟩
     case measure => simp [intOf]; omega
  ·have hke : k = nv := by omega
   subst hke
   have dl : decide ((k : Int) < (k : Int)) = false := decide_eq_false (by omega)
   have HE : Hid (es = valsW bb P 0 rl) := by
    show _ = _
    rw [← HEs.out,List.drop_eq_nil_of_le (by rw [HNV.out]; exact Nat.le_refl _),valsW,List.append_nil]
   clear hkl
   go_wp2
   go_ret
   exact HGoal.out _ _ (by rw [← HE.out]; exact RowI_lower HRow.out (by have h1 := HBw.out.size; have h2 := HB4.out.size; omega)) (HB4.out.trans (HX.out.mono HB4.out.size))
end Go.Proofs.Ytpnacanbknejiaa.Fl
