/- Load of package mach, for whatever bytes. -/
import Derived.Test.YtpnacanbknejiaaMhLd
namespace Go.Proofs.Ytpnacanbknejiaa.Mh
set_option maxHeartbeats 32000000
set_option maxRecDepth 100000
set_option linter.unusedVariables false
set_option linter.unusedSimpArgs false
open Go.ChangeShapes Go.WideShapes Go.ChangeAt Go.RowKit Lg Lr Fl
def lenOf (v : Value) : Nat := match v with | .slice _ n _ => n | _ => 0
theorem range_push {α : Type} (f : Nat → α) (k : Nat) : (List.range (k + 1)).map f = (List.range k).map f ++ [f k] := by rw [List.range_succ,List.map_append]; rfl
theorem load_any (B : Nat) (l : List Int) (sb : Value) (pr : Int) (pa : Option Addr) (m ca : Nat) (w : World) (hB : B ≤ w.heap.size) (h : BysW w B l sb) (hl : l.length ≤ 1048576) :
  Calls Try.prog 29 #[.agg #[sb,.int .i64 pr,.slice pa m ca]] w fun r w' => LdP m l w r w' := by
 obtain ⟨p,cap,rfl,hcap,hby,hp1⟩ := h
 have hp0 : True := trivial
 obtain ⟨n,hn⟩ : ∃ n,l.length = n := ⟨_,rfl⟩
 rw [hn] at hcap hl
 rw [hn]
 obtain ⟨w1,hw1⟩ : ∃ y,w.alloc (.cells #[.slice p n cap,.int .i64 pr,.slice pa m ca] 66) = y := ⟨_,rfl⟩
 obtain ⟨X,hX⟩ : ∃ y,w.heap.size = y := ⟨_,rfl⟩
 have b1 : Below w.heap.size w w1 := by rw [← hw1]; exact (Below.refl _ _).alloc (Nat.le_refl _) _
 have kI : Bk w1 X [.slice p n cap,.int .i64 pr,.slice pa m ca] 66 := by rw [← hw1,← hX]; exact Bk.new _ _ _
 have x0 := kI.cell 0 rfl
 have x2 := kI.cell 2 rfl
 have HkI := keep kI
 have HW1 := keep hw1
 have HX := keep hX
 have HB1 := keep b1
 have HN := keep hn
 have HBy := keep hby
 have HP1 := keep hp1
 have HP0 := keep hp0
 have HBw := keep hB
 by_cases hn0 : n = 0
 ·subst hn0
  have HG : Hid (LdP m l w (.returned (.tuple #[.slice none 0 0,.int .i64 2])) w1) := .no (loadM_form (.inl hn)) b1
  clear hw1 hX b1 kI hn hby hp1 hp0 hB hcap hl
  go_enter Try.func29,Try.ntmps29
  go_wp2_with (first | rw [HW1.out] | rw [HX.out] | fail)
  refine bodyPost_ret (results_tmp2 rfl _ _ _) rfl ?_
  exact HG.out
 ·have k0 : ((n : Int) == 0) = false := by simpa using hn0
  have hmod : (n : Int).tmod 8 = ((n % 8 : Nat) : Int) := by rw [Int.natCast_emod]; exact Int.tmod_eq_emod_of_nonneg (by omega)
  by_cases hn8 : n % 8 = 0
  ·have k8 : (n : Int).tmod 8 = 0 := by rw [hmod,hn8]; rfl
   have k8b : (n : Int) % 8 = 0 := by omega
   obtain ⟨N,hN⟩ : ∃ N,n = 8 * N := ⟨n / 8,by omega⟩
   have HNN := keep hN
   have hwN : wrap64 (N : Int) = (N : Int) := by unfold wrap64; omega
   have hquo : (n : Int).tdiv 8 = (N : Int) := by rw [Int.tdiv_eq_ediv_of_nonneg (by omega)]; omega
   obtain ⟨cur,hmk,hcur⟩ := make_code N (by omega) w1
   obtain ⟨w2,hw2⟩ : ∃ y,w1.alloc (.cells cur 35) = y := ⟨_,rfl⟩
   obtain ⟨LO,hLO⟩ : ∃ y,w1.heap.size = y := ⟨_,rfl⟩
   have b2 : Below w1.heap.size w1 w2 := by rw [← hw2]; exact (Below.refl _ _).alloc (Nat.le_refl _) _
   have hrow : RowC w2 LO (.slice (some ⟨LO,0,none⟩) 0 N) ((List.range 0).map (ldI l)) := ⟨by rw [← hw2,← hLO]; exact World.ownsRow_made w1 cur N (Nat.le_refl _) (by unfold maxLen; omega) hcur,fun p hp => trivial⟩
   have HRow := keep hrow
   have HB2 := keep (b1.trans (b2.mono b1.size))
   have HK2 := keep (kI.fs (Fs.of_below (l:=[]) b2) (by simp))
   have HL2 : Hid (LO ≤ w2.heap.size) := by show _ ≤ _; rw [← hLO]; exact b2.size
   have HXL : Hid (X < LO ∧ w.heap.size ≤ LO) := ⟨by rw [← hLO]; exact kI.lt,by rw [← hLO]; exact b1.size⟩
   have HW2 := keep hw2
   have HLO := keep hLO
   have HNn : Hid (¬ (l.length = 0 ∨ l.length % 8 ≠ 0)) := by show ¬ _; omega
   have HDv : Hid (l.length / 8 = N ∧ N ≤ 131072) := ⟨by omega,by omega⟩
   have HQ : Hid (∃ g o,p = some ⟨g,o,none⟩ ∧ g < w.heap.size ∧ ∀ j x,l[j]? = some x → w.cell? ⟨g,o + j,none⟩ = some (.int .u8 x)) := by
    obtain ⟨g,o,e,hg,hc⟩ := hp1 (by intro e; rw [e] at hn; simp at hn; omega)
    exact ⟨g,o,e,by omega,hc⟩
   obtain ⟨g,o,rfl,hg,hc⟩ := HQ.out
   have HC := keep hc
   have HGl := keep hg
   clear hw1 hX b1 kI hw2 hLO b2 hrow hcur hn hby hp1 hp0 hB hc hg HQ hmod hN
   have y0 := HK2.out.cell 0 rfl
   go_enter Try.func29,Try.ntmps29
   go_wp2_with (first | rw [HW1.out] | rw [HX.out] | rw [hmk] | rw [HW2.out] | rw [HLO.out] | fail)
   rw [hwN]
   clear x0 x2 y0
   go_loopw [4,5] (fun v b wx => ∃ (k : Nat) (pk : Option Addr),k ≤ N ∧ b = .slice pk (n - 8 * k) (cap - 8 * k) ∧ (k < N → pk = some ⟨g,o + 8 * k,none⟩) ∧ (∀ j,j < k → ldE (m : Int) l j = 0) ∧ RowC wx LO v ((List.range k).map (ldI l)) ∧ Bk wx X [.slice (some ⟨g,o,none⟩) n cap,.int .i64 pr,.slice pa m ca] 66 ∧ Below w.heap.size w wx ∧ LO ≤ wx.heap.size) (fun _ b _ => lenOf b)
   case atStart => exact ⟨0,some ⟨g,o,none⟩,by omega,by simp,fun _ => by simp,fun j hj => by omega,HRow.out,HK2.out,HB2.out,HL2.out⟩
   case round =>
    obtain ⟨k,pk,hkN,rfl,hpk,hno,hrw,hk,hb,hls⟩ := hrel
    have HNo := keep hno
    by_cases hkl : k < N
    ·have hpk := hpk hkl
     subst hpk
     obtain ⟨ln,hln⟩ : ∃ y,n - 8 * k = y := ⟨_,rfl⟩
     obtain ⟨cp,hcp⟩ : ∃ y,cap - 8 * k = y := ⟨_,rfl⟩
     obtain ⟨q,hq⟩ : ∃ y,o + 8 * k = y := ⟨_,rfl⟩
     rw [hln,hcp,hq]
     have hN := HNN.out
     have d1 : decide ((0 : Int) < (ln : Int)) = true := decide_eq_true (by omega)
     have l8 : (8 : Int) ≤ (ln : Int) := by omega
     have c8 : (8 : Int) ≤ (cp : Int) := by omega
     have lc : (ln : Int) ≤ (cp : Int) := by omega
     obtain ⟨b0,b1,b2,b3,b4,b5,b6,b7,hch,hx⟩ := chunk_eight (l:=l) (k:=k) (by have := HN.out; omega)
     have HPs := keep (fun (W : World) (hW : Below w.heap.size w W) => Cd.parse_eight b0 b1 b2 b3 b4 b5 b6 b7 g q cp W (by omega) (fun x hm => by
      obtain ⟨j,hj⟩ := List.getElem?_of_mem hm
      exact HBy.out x (List.mem_of_getElem? (hx j x hj))) (fun j x hj => by
      rw [cell_below hW HGl.out,← hq,Nat.add_assoc]; exact HC.out _ x (hx j x hj)))
     obtain ⟨ci,hci⟩ : ∃ y,(Cd.parseM (chunk l k)).1 = y := ⟨_,rfl⟩
     obtain ⟨ce,hce⟩ : ∃ y,(Cd.parseM (chunk l k)).2 = y := ⟨_,rfl⟩
     have HCi : Hid (ldI l k = ixC ci) := by show _ = _; unfold ldI; rw [hci]
     have HCe : Hid (ldP l k = ce) := hce
     rw [hch] at hci hce
     have HCI := keep hci
     have HCE := keep hce
     have HPq := keep (HPs.out wr hb)
     have HRw := keep hrw
     have HKk := keep hk
     have HBb := keep hb
     have HLs : Hid (LO ≤ wr.heap.size) := hls
     have HLn := keep hln
     have HCp := keep hcp
     have HQq := keep hq
     clear hln hcp hq hx hch hci hce hno hrw hk hb hls HPs hN
     go_wp2_with fail
     refine HPq.out.mono ?_
     rintro r w3 ⟨rfl,hb3⟩
     rw [HCI.out,HCE.out]
     obtain ⟨op,d,a,bb,cc,imm⟩ := ci
     have HI : Hid (ldI l k = ⟨op,d,a,bb,cc,imm⟩) := HCi.out
     unfold Cd.cxA
     dsimp only
     obtain ⟨w4,hw4⟩ : ∃ y,w3.alloc (.cells #[.int .i64 op,.int .i64 d,.int .i64 a,.int .i64 bb,.int .i64 cc,.int .i64 imm] 35) = y := ⟨_,rfl⟩
     obtain ⟨IB,hIB⟩ : ∃ y,w3.heap.size = y := ⟨_,rfl⟩
     have b4 : Below w3.heap.size w3 w4 := by rw [← hw4]; exact (Below.refl _ _).alloc (Nat.le_refl _) _
     have kJ : Bk w4 IB [.int .i64 op,.int .i64 d,.int .i64 a,.int .i64 bb,.int .i64 cc,.int .i64 imm] 35 := by rw [← hw4,← hIB]; exact Bk.new _ _ _
     have b34 := hb3.trans (b4.mono hb3.size)
     have HRw4 := keep (RowX.fs (l:=[]) nest0_nest HRw.out (Fs.of_below b34) (by simp))
     have HKk4 := keep (HKk.out.fs (Fs.of_below (l:=[]) b34) (by simp))
     have HBb4 := keep (HBb.out.trans (b34.mono HBb.out.size))
     have HLs4 : Hid (LO ≤ w4.heap.size) := Nat.le_trans HLs.out b34.size
     have HkJ := keep kJ
     have HW4 := keep hw4
     have HIB := keep hIB
     clear hb3 hw4 hIB b4 kJ b34 HPq
     by_cases hce : ce = 0
     ·subst hce
      have z0 := HkJ.out.cell 0 rfl
      have z1 := HkJ.out.cell 1 rfl
      have z2 := HkJ.out.cell 2 rfl
      have z3 := HkJ.out.cell 3 rfl
      have z4 := HkJ.out.cell 4 rfl
      have z5 := HkJ.out.cell 5 rfl
      have x2 := HKk4.out.cell 2 rfl
      have HIn := keep (minR_any ⟨op,d,a,bb,cc,imm⟩ (m : Int) w4)
      unfold ixA at HIn
      dsimp only at HIn
      obtain ⟨qq,hqq⟩ : ∃ y,okM (m : Int) ⟨op,d,a,bb,cc,imm⟩ = y := ⟨_,rfl⟩
      have HLe : Hid (ldE (m : Int) l k = if qq = true then 0 else 3) := by
       show _ = _
       unfold ldE
       rw [HCe.out,if_neg (by simp),HI.out,hqq]
      rw [hqq] at HIn
      clear hqq
      go_wp2_with (first | rw [HW4.out,HIB.out] | fail)
      refine HIn.out.mono ?_
      rintro r w5 ⟨rfl,hb5⟩
      have HRw5 := keep (RowX.fs (l:=[]) nest0_nest HRw4.out (Fs.of_below hb5) (by simp))
      have HKk5 := keep (HKk4.out.fs (Fs.of_below (l:=[]) hb5) (by simp))
      have HBb5 := keep (HBb4.out.trans (hb5.mono HBb4.out.size))
      have HkJ5 := keep (HkJ.out.fs (Fs.of_below (l:=[]) hb5) (by simp))
      have HLs5 : Hid (LO ≤ w5.heap.size) := Nat.le_trans HLs4.out hb5.size
      clear hb5 z0 z1 z2 z3 z4 z5 x2 HIn
      cases qq with
      | false =>
       go_wp2
       refine bodyPost_ret (results_tmp2 rfl _ _ _) rfl ?_
       refine LdP.no (e:=3) ?_ HBb5.out
       rw [loadM_bad HNn.out (by rw [HDv.out.1]; exact hkl) HNo.out (by rw [HLe.out]; simp),HLe.out]; rfl
      | true =>
       obtain ⟨L,hL⟩ : ∃ y,(List.range k).map (ldI l) = y := ⟨_,rfl⟩
       have HLl : Hid (L.length ≤ 131072) := by show _ ≤ _; rw [← hL,List.length_map,List.length_range]; have := HDv.out.2; omega
       have HPu : Hid ((List.range (k + 1)).map (ldI l) = L ++ [⟨op,d,a,bb,cc,imm⟩]) := by show _ = _; rw [range_push,hL,HI.out]
       rw [hL] at HRw5
       obtain ⟨pc,nc,cp0,rfl⟩ := RowX.slice HRw5.out
       have hnc := RowX.len HRw5.out
       subst hnc
       obtain ⟨i0,hi0,j0,j1,j2⟩ := info_parts info_X
       obtain ⟨wd,hwd⟩ : ∃ y,w5.alloc (.cells #[.int .i64 op,.int .i64 d,.int .i64 a,.int .i64 bb,.int .i64 cc,.int .i64 imm] 35) = y := ⟨_,rfl⟩
       obtain ⟨g5,hg5⟩ : ∃ y,w5.heap.size = y := ⟨_,rfl⟩
       have b8 : Below w5.heap.size w5 wd := by rw [← hwd]; exact (Below.refl _ _).alloc (Nat.le_refl _) _
       have kN : Bk wd g5 [.int .i64 op,.int .i64 d,.int .i64 a,.int .i64 bb,.int .i64 cc,.int .i64 imm] 35 := by rw [← hwd,← hg5]; exact Bk.new _ _ _
       have HkN := keep kN
       have HRd := keep (RowX.fs (l:=[]) nest0_nest HRw5.out (Fs.of_below b8) (by simp))
       have HKd := keep (HKk5.out.fs (Fs.of_below (l:=[]) b8) (by simp))
       have HBd := keep (HBb5.out.trans (b8.mono HBb5.out.size))
       have HOwn := keep (RowX.own HRd.out)
       have HLo5 : Hid (LO ≤ wd.heap.size) := Nat.le_trans HLs5.out b8.size
       have HWd := keep hwd
       have HG5 := keep hg5
       have z0 := HkJ5.out.cell 0 rfl
       have z1 := HkJ5.out.cell 1 rfl
       have z2 := HkJ5.out.cell 2 rfl
       have z3 := HkJ5.out.cell 3 rfl
       have z4 := HkJ5.out.cell 4 rfl
       have z5 := HkJ5.out.cell 5 rfl
       clear hL hwd hg5 b8 kN
       go_wp2_with (first | rw [HWd.out,HG5.out] | (at_builtin; refine wpList_append_lies _ rfl (.tmp 46) (.tmp 48) 22 rfl LO 35 i0 _ 6 48 Try.underlying22 hi0 j0 j1 j2 rfl (by decide) (.slice pc L.length cp0) L.length (L.flatMap cellsX) rfl HOwn.out ⟨g5,0,none⟩ 1 1 (cellsX ⟨op,d,a,bb,cc,imm⟩) rfl rfl (fun j u hj => bk_add HkN.out j u hj) ?c2 (by decide) ?c3 ?c4 HLo5.out wd.heap.size rfl ?_) | fail)
       case c2 =>
        intro u hu
        simp only [cellsX,List.mem_cons,List.not_mem_nil,or_false] at hu
        rcases hu with rfl | rfl | rfl | rfl | rfl | rfl <;> rfl
       case c3 => have := HLl.out; unfold maxLen; omega
       case c4 => have := HLl.out; omega
       intro gz cz w9 hown2 hgrow hat hlt
       have HP := keep (RowX.push nest0_nest HRd.out trivial hown2 hgrow (by simpa using hat))
       have HK9 : Hid (Bk w9 X [.slice (some ⟨g,o,none⟩) n cap,.int .i64 pr,.slice pa m ca] 66) := by
        have u := HKd.out
        have hl := HKd.out.lt
        show Bk _ _ _ _
        unfold Bk at u ⊢
        rw [hgrow.block X hl (fun e => by have := (HOwn.out.lt X e.symm).1; have := HXL.out; omega)]; exact u
       have HB9 : Hid (Below w.heap.size w w9) := HBd.out.trans ⟨hgrow.os,hgrow.tape,hgrow.output,hgrow.size,fun k hk => hgrow.block k (Nat.lt_of_lt_of_le hk HBd.out.size) (fun e => by have := (HOwn.out.lt k e.symm).1; have := HXL.out; omega)⟩
       have HL9 : Hid (LO ≤ w9.heap.size) := Nat.le_trans HLo5.out hgrow.size
       have HNo9 : Hid (∀ j,j < k + 1 → ldE (m : Int) l j = 0) := fun j hj => by
        by_cases e : j = k
        ·rw [e,HLe.out]; rfl
        ·exact HNo.out j (by omega)
       clear hown2 hgrow hat hlt z0 z1 z2 z3 z4 z5
       by_cases hc9 : 8 < cp
       ·have c9 : (8 : Int) < (cp : Int) := by omega
        go_wp2
        go_roundw
        case rel => exact ⟨k + 1,_,by omega,by have h0 := HNN.out; have h1 := HLn.out; have h2 := HCp.out; congr 1 <;> omega,fun _ => by have h3 := HQq.out; congr 2; omega,HNo9.out,by rw [HPu.out]; exact HP.out,HK9.out,HB9.out,HL9.out⟩
        case measure => simp [lenOf]; omega
       ·have e9 : cp = 8 := by omega
        subst e9
        go_wp2
        go_roundw
        case rel => exact ⟨k + 1,_,by omega,by have h0 := HNN.out; have h1 := HLn.out; have h2 := HCp.out; congr 1 <;> omega,fun h => by exfalso; have h0 := HNN.out; have h2 := HCp.out; omega,HNo9.out,by rw [HPu.out]; exact HP.out,HK9.out,HB9.out,HL9.out⟩
        case measure => simp [lenOf]; omega
     ·have hcn : (ce != 0) = true := by rw [bne_iff_ne]; exact hce
      have HLe : Hid (ldE (m : Int) l k = ce) := by
       show _ = _
       unfold ldE
       rw [HCe.out,if_pos hce]
      have HNe : Hid (ce ≠ 0) := hce
      clear hce
      go_wp2_with (first | rw [HW4.out,HIB.out] | fail)
      refine bodyPost_ret (results_tmp2 rfl _ _ _) rfl ?_
      refine LdP.no (e:=ce) ?_ HBb4.out
      rw [loadM_bad HNn.out (by rw [HDv.out.1]; exact hkl) HNo.out (by rw [HLe.out]; exact HNe.out),HLe.out]
    ·have hke : k = N := by omega
     subst hke
     have e0 : n - 8 * k = 0 := by have := HNN.out; omega
     rw [e0]
     have dl : decide ((0 : Int) < ((0 : Nat) : Int)) = false := rfl
     clear e0
     have HAll := keep (loadM_all HNn.out (by rw [HDv.out.1]; exact HNo.out))
     have HRe : Hid (RowC wr LO u4 (loadM (m : Int) l).1) := by show RowC _ _ _ _; rw [HAll.out,HDv.out.1]; exact hrw
     have HBe := keep hb
     have HLe : Hid (LO ≤ wr.heap.size) := hls
     obtain ⟨pc,nc,cp0,rfl⟩ := RowX.slice HRe.out
     clear hrw hk hb hls hno
     go_wp2
     refine bodyPost_ret (results_tmp2 rfl _ _ _) rfl ?_
     exact ⟨_,LO,by rw [HAll.out]; rfl,HXL.out.2,HLe.out,HRe.out,HBe.out⟩
  ·have k8 : ((n : Int).tmod 8 != 0) = true := by rw [hmod,bne_iff_ne]; omega
   have HG : Hid (LdP m l w (.returned (.tuple #[.slice none 0 0,.int .i64 2])) w1) := .no (loadM_form (.inr (by rw [hn]; exact hn8))) b1
   clear hw1 hX b1 kI hn hby hp1 hp0 hB hcap hl
   go_enter Try.func29,Try.ntmps29
   go_wp2_with (first | rw [HW1.out] | rw [HX.out] | fail)
   refine bodyPost_ret (results_tmp2 rfl _ _ _) rfl ?_
   exact HG.out
end Go.Proofs.Ytpnacanbknejiaa.Mh
