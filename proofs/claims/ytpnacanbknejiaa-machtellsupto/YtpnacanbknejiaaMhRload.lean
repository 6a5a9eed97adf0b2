/- The document's Load of an image, for whatever bytes. Written by tools/gen_mhrload.py. -/
import Derived.Test.YtpnacanbknejiaaMhLoad
import Derived.Test.YtpnacanbknejiaaFrSeen
import Derived.Test.YtpnacanbknejiaaFrReads
namespace Go.Proofs.Ytpnacanbknejiaa.Mh
set_option maxHeartbeats 32000000
set_option maxRecDepth 100000
set_option linter.unusedVariables false
set_option linter.unusedSimpArgs false
open Go.ChangeShapes Go.WideShapes Go.ChangeAt Go.RowKit Lg Lr Fl
def bad0 (m : Int) (i : Ix) : Bool := decide (120 ≤ i.d) || ((i.op == 23) && decide (120 ≤ i.a)) || (((i.op == 16) || (i.op == 17)) && decide (m ≤ i.b))
theorem okM_bad {m : Int} {i : Ix} {q0 q1 : Bool} (h0 : bad0 m i = q0) (h1 : (rds i).any ns = q1) : okM m i = !(q0 || q1) := by
 rw [← h0,← h1]
 unfold okM bad0 rdM
 by_cases h : i.op = 23
 ·have hr : rds i = [] := by unfold rds; rw [if_neg (by omega),if_neg (by omega),if_neg (by omega),if_neg (by omega)]
  rw [if_pos h,hr,h]
  have e1 : ((23 : Int) == 16) = false := rfl
  have e2 : ((23 : Int) == 17) = false := rfl
  have e3 : ((23 : Int) == 23) = true := rfl
  rw [e1,e2,e3]
  unfold ns
  simp
 ·have h' : (i.op == 23) = false := by simpa using h
  rw [if_neg h,h']
  have e : (decide (i.op ≠ 16 ∧ i.op ≠ 17) || decide (i.b < m)) = !(((i.op == 16) || (i.op == 17)) && decide (m ≤ i.b)) := by
   rw [Bool.eq_iff_iff]
   simp only [Bool.or_eq_true,decide_eq_true_eq,Bool.not_eq_true',Bool.and_eq_false_iff,Bool.or_eq_false_iff,beq_eq_false_iff_ne,decide_eq_false_iff_not]
   constructor
   ·rintro (q | q)
    ·exact .inl q
    ·exact .inr (by omega)
   ·rintro (q | q)
    ·exact .inl q
    ·exact .inr (by omega)
  rw [e]
  unfold ns
  cases decide (120 ≤ i.d) <;> cases (((i.op == 16) || (i.op == 17)) && decide (m ≤ i.b)) <;> cases (rds i).any (fun n => decide (120 ≤ n)) <;> rfl
theorem any_take {l : List Int} {k : Nat} {x : Int} (h : l[k]? = some x) (q : Bool) : (q || (l.take (k + 1)).any ns) = ((q || (l.take k).any ns) || ns x) := by
 rw [List.take_add_one,h,List.any_append]
 simp [Bool.or_assoc]
theorem rload_any (B : Nat) (l : List Int) (sb : Value) (pr : Int) (pa : Option Addr) (m ca : Nat) (w : World) (hB : B ≤ w.heap.size) (h : BysW w B l sb) (hl : l.length ≤ 1048576) :
  Calls Try.prog 30 #[.agg #[sb,.int .i64 pr,.slice pa m ca]] w fun r w' => LdP m l w r w' := by
 obtain ⟨p,cap,rfl,hcap,hby,hp1⟩ := h
 have hp0 : True := trivial
 obtain ⟨n,hn⟩ : ∃ n,l.length = n := ⟨_,rfl⟩
 rw [hn] at hcap hl
 rw [hn]
 obtain ⟨w1,hw1⟩ : ∃ y,w.alloc (.cells #[.slice p n cap,.int .i64 pr,.slice pa m ca] 66) = y := ⟨_,rfl⟩
 obtain ⟨X,hX⟩ : ∃ y,w.heap.size = y := ⟨_,rfl⟩
 have b1 : Below w.heap.size w w1 := by rw [← hw1]; exact (Below.refl _ _).alloc (Nat.le_refl _) _
 have kI : Bk w1 X [.slice p n cap,.int .i64 pr,.slice pa m ca] 66 := by rw [← hw1,← hX]; exact Bk.new _ _ _
 have x0 := kI.cell 0 rfl
 have x2 := kI.cell 2 rfl
 have HkI := keep kI
 have HW1 := keep hw1
 have HX := keep hX
 have HB1 := keep b1
 have HN := keep hn
 have HBy := keep hby
 have HP1 := keep hp1
 have HP0 := keep hp0
 have HBw := keep hB
 by_cases hn0 : n = 0
 ·subst hn0
  have HG : Hid (LdP m l w (.returned (.tuple #[.slice none 0 0,.int .i64 2])) w1) := .no (loadM_form (.inl hn)) b1
  clear hw1 hX b1 kI hn hby hp1 hp0 hB hcap hl
  go_enter Try.func30,Try.ntmps30
  go_wp2_with (first | rw [HW1.out] | rw [HX.out] | fail)
  refine bodyPost_ret (results_tmp2 rfl _ _ _) rfl ?_
  exact HG.out
 ·have k0 : ((n : Int) == 0) = false := by simpa using hn0
  have hmod : (n : Int).tmod 8 = ((n % 8 : Nat) : Int) := by rw [Int.natCast_emod]; exact Int.tmod_eq_emod_of_nonneg (by omega)
  by_cases hn8 : n % 8 = 0
  ·have k8 : (n : Int).tmod 8 = 0 := by rw [hmod,hn8]; rfl
   have k8b : (n : Int) % 8 = 0 := by omega
   obtain ⟨N,hN⟩ : ∃ N,n = 8 * N := ⟨n / 8,by omega⟩
   have HNN := keep hN
   have hwN : wrap64 (N : Int) = (N : Int) := by unfold wrap64; omega
   have hquo : (n : Int).tdiv 8 = (N : Int) := by rw [Int.tdiv_eq_ediv_of_nonneg (by omega)]; omega
   have HNn : Hid (¬ (l.length = 0 ∨ l.length % 8 ≠ 0)) := by show ¬ _; omega
   have HDv : Hid (l.length / 8 = N ∧ N ≤ 131072) := ⟨by omega,by omega⟩
   have HQ : Hid (∃ g o,p = some ⟨g,o,none⟩ ∧ g < w.heap.size ∧ ∀ j x,l[j]? = some x → w.cell? ⟨g,o + j,none⟩ = some (.int .u8 x)) := by
    obtain ⟨g,o,e,hg,hc⟩ := hp1 (by intro e; rw [e] at hn; simp at hn; omega)
    exact ⟨g,o,e,by omega,hc⟩
   obtain ⟨g,o,rfl,hg,hc⟩ := HQ.out
   have HC := keep hc
   have HGl := keep hg
   clear hw1 hX b1 kI hn hby hp1 hp0 hB hc hg HQ hmod hN
   go_enter Try.func30,Try.ntmps30
   go_wp2_with (first | rw [HW1.out] | rw [HX.out] | fail)
   rw [hwN]
   clear x0 x2
   go_loopw [4,26] (fun v i wx => ∃ (k : Nat),k ≤ N ∧ i = .int .i64 (k : Int) ∧ (∀ j,j < k → ldE (m : Int) l j = 0) ∧ RowC wx w1.heap.size v ((List.range k).map (ldI l)) ∧ Bk wx X [.slice (some ⟨g,o,none⟩) n cap,.int .i64 pr,.slice pa m ca] 66 ∧ Below w1.heap.size w1 wx) (fun _ i _ => N - (intOf i).toNat)
   case atStart => exact ⟨0,by omega,rfl,fun j hj => by omega,RowX.nil _ _,HkI.out,Below.refl _ _⟩
   case round =>
    obtain ⟨k,hkN,rfl,hno,hrw,hk,hb⟩ := hrel
    have HNo := keep hno
    by_cases hkl : k < N
    ·have d1 : decide ((k : Int) < (N : Int)) = true := decide_eq_true (by omega)
     have HKl : Hid (k < N ∧ n = 8 * N) := ⟨hkl,HNN.out⟩
     obtain ⟨cp,hcp⟩ : ∃ y,cap - 8 * k = y := ⟨_,rfl⟩
     obtain ⟨q,hq⟩ : ∃ y,o + 8 * k = y := ⟨_,rfl⟩
     have hN := HNN.out
     obtain ⟨b0,b1,b2,b3,b4,b5,b6,b7,hch,hx⟩ := chunk_eight (l:=l) (k:=k) (by have := HN.out; omega)
     have HPs := keep (fun (W : World) (hW : Below w.heap.size w W) => Cd.rparse_eight b0 b1 b2 b3 b4 b5 b6 b7 g q cp W (by omega) (fun x hm => by
      obtain ⟨j,hj⟩ := List.getElem?_of_mem hm
      exact HBy.out x (List.mem_of_getElem? (hx j x hj))) (fun j x hj => by
      rw [cell_below hW HGl.out,← hq,Nat.add_assoc]; exact HC.out _ x (hx j x hj)))
     obtain ⟨ci,hci⟩ : ∃ y,(Cd.parseM (chunk l k)).1 = y := ⟨_,rfl⟩
     obtain ⟨ce,hce⟩ : ∃ y,(Cd.parseM (chunk l k)).2 = y := ⟨_,rfl⟩
     have HCi : Hid (ldI l k = ixC ci) := by show _ = _; unfold ldI; rw [hci]
     have HCe : Hid (ldP l k = ce) := hce
     rw [hch] at hci hce
     have HCI := keep hci
     have HCE := keep hce
     have HPq := keep (HPs.out wr (HB1.out.trans (hb.mono HB1.out.size)))
     have HRw := keep hrw
     have HKk := keep hk
     have HBb := keep hb
     have HCp := keep hcp
     have HQq := keep hq
     have x0 := hk.cell 0 rfl
     obtain ⟨wS,hwS⟩ : ∃ y : Nat,8 * k = y := ⟨_,rfl⟩
     obtain ⟨wE,hwE⟩ : ∃ y : Nat,wS + 8 = y := ⟨_,rfl⟩
     have m1 : wrap64 (8 * (k : Int)) = (wS : Int) := by unfold wrap64; omega
     have m2 : wrap64 ((wS : Int) + 8) = (wE : Int) := by unfold wrap64; omega
     have f1 : (wS : Int) ≤ (wE : Int) := by omega
     have f2 : (wE : Int) ≤ (cap : Int) := by omega
     have f3 : ¬ cap = wS := by omega
     have f4 : wE - wS = 8 := by omega
     have f5 : cap - wS = cp := by omega
     have f6 : o + wS = q := by omega
     clear hwS hwE hcp hq
     clear hci hce hno hrw hk hb HPs hN hx hch
     go_wp2_with fail
     refine HPq.out.mono ?_
     rintro r w3 ⟨rfl,hb3⟩
     rw [HCI.out,HCE.out]
     obtain ⟨op,d,a,bb,cc,imm⟩ := ci
     have HI : Hid (ldI l k = ⟨op,d,a,bb,cc,imm⟩) := HCi.out
     unfold Cd.cxA
     dsimp only
     obtain ⟨w4,hw4⟩ : ∃ y,w3.alloc (.cells #[.int .i64 op,.int .i64 d,.int .i64 a,.int .i64 bb,.int .i64 cc,.int .i64 imm] 35) = y := ⟨_,rfl⟩
     obtain ⟨IB,hIB⟩ : ∃ y,w3.heap.size = y := ⟨_,rfl⟩
     have b4 : Below w3.heap.size w3 w4 := by rw [← hw4]; exact (Below.refl _ _).alloc (Nat.le_refl _) _
     have kJ : Bk w4 IB [.int .i64 op,.int .i64 d,.int .i64 a,.int .i64 bb,.int .i64 cc,.int .i64 imm] 35 := by rw [← hw4,← hIB]; exact Bk.new _ _ _
     have b34 := hb3.trans (b4.mono hb3.size)
     have HRw4 := keep (RowX.fs (l:=[]) nest0_nest HRw.out (Fs.of_below b34) (by simp))
     have HKk4 := keep (HKk.out.fs (Fs.of_below (l:=[]) b34) (by simp))
     have HBb4 := keep (HBb.out.trans (b34.mono HBb.out.size))
     have HkJ := keep kJ
     have HW4 := keep hw4
     have HIB := keep hIB
     clear hb3 hw4 hIB b4 kJ b34 HPq x0
     by_cases hce : ce = 0
     ·subst hce
      have z0 := HkJ.out.cell 0 rfl
      have z1 := HkJ.out.cell 1 rfl
      have z2 := HkJ.out.cell 2 rfl
      have z3 := HkJ.out.cell 3 rfl
      have z4 := HkJ.out.cell 4 rfl
      have z5 := HkJ.out.cell 5 rfl
      have x2 := HKk4.out.cell 2 rfl
      have HRd := keep (rreads_any ⟨op,d,a,bb,cc,imm⟩ w4)
      unfold ixA at HRd
      dsimp only at HRd
      obtain ⟨q0,hq0⟩ : ∃ y,bad0 (m : Int) ⟨op,d,a,bb,cc,imm⟩ = y := ⟨_,rfl⟩
      have HQ0 := keep hq0
      obtain ⟨p1,hp1⟩ : ∃ y,decide (120 ≤ d) = y := ⟨_,rfl⟩
      obtain ⟨p2,hp2⟩ : ∃ y,(op == 23) = y := ⟨_,rfl⟩
      obtain ⟨p3,hp3⟩ : ∃ y,decide (120 ≤ a) = y := ⟨_,rfl⟩
      obtain ⟨p4,hp4⟩ : ∃ y,(op == 16) = y := ⟨_,rfl⟩
      obtain ⟨p5,hp5⟩ : ∃ y,(op == 17) = y := ⟨_,rfl⟩
      obtain ⟨p6,hp6⟩ : ∃ y,decide ((m : Int) ≤ bb) = y := ⟨_,rfl⟩
      have hq0' : q0 = (p1 || (p2 && p3) || ((p4 || p5) && p6)) := by rw [← hq0,← hp1,← hp2,← hp3,← hp4,← hp5,← hp6]; rfl
      have h245 : p2 = true → p4 = false ∧ p5 = false := fun h => by
       rw [h] at hp2
       have : op = 23 := by simpa using hp2
       rw [← hp4,← hp5,this]; exact ⟨rfl,rfl⟩
      have h45 : p4 = true → p2 = false := fun h => by
       cases p2 with
       | false => rfl
       | true => rw [(h245 rfl).1] at h; cases h
      have hcs : (p1 = true ∧ q0 = true) ∨ (p1 = false ∧ p2 = true ∧ p3 = true ∧ q0 = true) ∨ (p1 = false ∧ p2 = true ∧ p3 = false ∧ p4 = false ∧ p5 = false ∧ q0 = false) ∨ (p1 = false ∧ p2 = false ∧ p4 = true ∧ p6 = q0) ∨ (p1 = false ∧ p2 = false ∧ p4 = false ∧ p5 = true ∧ p6 = q0) ∨ (p1 = false ∧ p2 = false ∧ p4 = false ∧ p5 = false ∧ q0 = false) := by
       subst hq0'
       cases p1 <;> cases p2 <;> cases p3 <;> cases p4 <;> cases p5 <;> cases p6 <;> simp_all
      clear hq0 hq0' h245 h45
      obtain ⟨L,hL⟩ : ∃ y,(List.range k).map (ldI l) = y := ⟨_,rfl⟩
      have HLl : Hid (L.length ≤ 131072) := by show _ ≤ _; rw [← hL,List.length_map,List.length_range]; have := HDv.out.2; omega
      have HPu : Hid ((List.range (k + 1)).map (ldI l) = L ++ [⟨op,d,a,bb,cc,imm⟩]) := by show _ = _; rw [range_push,hL,HI.out]
      rw [hL] at HRw4
      clear hL
      rcases hcs with ⟨rfl,rfl⟩ | ⟨rfl,rfl,rfl,rfl⟩ | ⟨rfl,rfl,rfl,rfl,rfl,rfl⟩ | ⟨rfl,rfl,rfl,rfl⟩ | ⟨rfl,rfl,rfl,rfl,rfl⟩ | ⟨rfl,rfl,rfl,rfl,rfl⟩
      all_goals
       go_wp2_with (first | rw [HW4.out,HIB.out] | fail)
       refine HRd.out.mono ?_
       rintro r w5 ⟨rv,rfl,hrv,hb5⟩
       obtain ⟨pr',nr,cr,rfl,hnr,hcr,hlr,her⟩ := hrv.ints (by have := rds_len ⟨op,d,a,bb,cc,imm⟩; omega)
       have HEr := keep her
       have HNr := keep hnr
       have HRw5 := keep (RowX.fs (l:=[]) nest0_nest HRw4.out (Fs.of_below hb5) (by simp))
       have HKk5 := keep (HKk4.out.fs (Fs.of_below (l:=[]) hb5) (by simp))
       have HBb5 := keep (HBb4.out.trans (hb5.mono HBb4.out.size))
       have HkJ5 := keep (HkJ.out.fs (Fs.of_below (l:=[]) hb5) (by simp))
       have hnr3 : nr ≤ 3 := by rw [← hnr]; exact rds_len _
       clear hrv hb5 z0 z1 z2 z3 z4 z5 x2 HRd her hnr
       go_wp2
       go_loopw [8,78] (fun v i wx => ∃ j : Nat,j ≤ nr ∧ i = .int .i64 (j : Int) ∧ v = .bool (bad0 (m : Int) ⟨op,d,a,bb,cc,imm⟩ || ((rds ⟨op,d,a,bb,cc,imm⟩).take j).any ns) ∧ wx = w5) (fun _ i _ => nr - (intOf i).toNat)
       case atStart => exact ⟨0,by omega,rfl,by rw [HQ0.out]; simp,rfl⟩
       case round =>
        obtain ⟨j,hjn,rfl,rfl,rfl⟩ := hrel
        obtain ⟨y,hy⟩ : ∃ y,(bad0 (m : Int) ⟨op,d,a,bb,cc,imm⟩ || ((rds ⟨op,d,a,bb,cc,imm⟩).take j).any ns) = y := ⟨_,rfl⟩
        rw [hy]
        have HY := keep hy
        clear hy
        by_cases hjl : j < nr
        ·have e1 : decide ((j : Int) < (nr : Int)) = true := decide_eq_true (by omega)
         have e2 : (j : Int) < (nr : Int) := by omega
         have e3 : (0 : Int) ≤ (j : Int) := by omega
         obtain ⟨x,hx⟩ : ∃ x,(rds ⟨op,d,a,bb,cc,imm⟩)[j]? = some x := ⟨_,List.getElem?_eq_getElem (by rw [HNr.out]; exact hjl)⟩
         obtain ⟨gr,gro,rfl,hgr,hcell⟩ := HEr.out j x hx
         have HT := keep (any_take hx (bad0 (m : Int) ⟨op,d,a,bb,cc,imm⟩))
         rw [HY.out] at HT
         obtain ⟨v,hv⟩ : ∃ v,decide (120 ≤ x) = v := ⟨_,rfl⟩
         have HV : Hid (ns x = v) := hv
         rw [HV.out] at HT
         have HJl : Hid (j < nr) := hjl
         clear hx hgr hjl
         cases y <;> cases v <;> (
          go_wp2
          go_roundw
          case rel => exact ⟨j + 1,by have := HJl.out; omega,by go_num,by rw [HT.out]; rfl,by first | rfl | trivial⟩
          case measure => simp [intOf]; have := HJl.out; omega)
        ·have hje : j = nr := by omega
         subst hje
         have dl : decide ((j : Int) < (j : Int)) = false := decide_eq_false (by omega)
         have hok : okM (m : Int) ⟨op,d,a,bb,cc,imm⟩ = !y := by
          have h1 := okM_bad (m:=(m : Int)) (i:=⟨op,d,a,bb,cc,imm⟩) rfl rfl
          rw [show (rds ⟨op,d,a,bb,cc,imm⟩).take j = rds ⟨op,d,a,bb,cc,imm⟩ by rw [← HNr.out,List.take_length]] at HY
          rw [HY.out] at h1
          exact h1
         have HLe : Hid (ldE (m : Int) l k = if y = true then 3 else 0) := by
          show _ = _
          unfold ldE
          rw [HCe.out,if_neg (by simp),HI.out,hok]
          cases y <;> rfl
         clear hok hjl
         cases y with
         | true =>
          go_wp2
          refine bodyPost_ret (results_tmp2 rfl _ _ _) rfl ?_
          refine LdP.no (e:=3) ?_ (HB1.out.trans (HBb5.out.mono HB1.out.size))
          rw [loadM_bad HNn.out (by rw [HDv.out.1]; exact hkl) HNo.out (by rw [HLe.out]; simp),HLe.out]; rfl
         | false =>
          obtain ⟨pc,nc,cp0,rfl⟩ := RowX.slice HRw5.out
          have hnc := RowX.len HRw5.out
          subst hnc
          obtain ⟨i0,hi0,j0,j1,j2⟩ := info_parts info_X
          obtain ⟨wd,hwd⟩ : ∃ y,wr.alloc (.cells #[.int .i64 op,.int .i64 d,.int .i64 a,.int .i64 bb,.int .i64 cc,.int .i64 imm] 35) = y := ⟨_,rfl⟩
          obtain ⟨g5,hg5⟩ : ∃ y,wr.heap.size = y := ⟨_,rfl⟩
          have b8 : Below wr.heap.size wr wd := by rw [← hwd]; exact (Below.refl _ _).alloc (Nat.le_refl _) _
          have kN : Bk wd g5 [.int .i64 op,.int .i64 d,.int .i64 a,.int .i64 bb,.int .i64 cc,.int .i64 imm] 35 := by rw [← hwd,← hg5]; exact Bk.new _ _ _
          have HkN := keep kN
          have HRd' := keep (RowX.fs (l:=[]) nest0_nest HRw5.out (Fs.of_below b8) (by simp))
          have HKd := keep (HKk5.out.fs (Fs.of_below (l:=[]) b8) (by simp))
          have HBd := keep (HBb5.out.trans (b8.mono HBb5.out.size))
          have HOwn := keep (RowX.own HRd'.out)
          have HLo5 : Hid (w1.heap.size ≤ wd.heap.size) := HBd.out.size
          have HWd := keep hwd
          have HG5 := keep hg5
          have z0 := HkJ5.out.cell 0 rfl
          have z1 := HkJ5.out.cell 1 rfl
          have z2 := HkJ5.out.cell 2 rfl
          have z3 := HkJ5.out.cell 3 rfl
          have z4 := HkJ5.out.cell 4 rfl
          have z5 := HkJ5.out.cell 5 rfl
          have HXl : Hid (X < w1.heap.size) := HkI.out.lt
          have hN1 := HDv.out.2
          clear hwd hg5 b8 kN
          go_wp2_with (first | rw [HWd.out,HG5.out] | (at_builtin; refine wpList_append_lies _ rfl (.tmp 89) (.tmp 91) 22 rfl w1.heap.size 35 i0 _ 6 48 Try.underlying22 hi0 j0 j1 j2 rfl (by decide) (.slice pc L.length cp0) L.length (L.flatMap cellsX) rfl HOwn.out ⟨g5,0,none⟩ 1 1 (cellsX ⟨op,d,a,bb,cc,imm⟩) rfl rfl (fun j u hj => bk_add HkN.out j u hj) ?c2 (by decide) ?c3 ?c4 HLo5.out wd.heap.size rfl ?_) | fail)
          case c2 =>
           intro u hu
           simp only [cellsX,List.mem_cons,List.not_mem_nil,or_false] at hu
           rcases hu with rfl | rfl | rfl | rfl | rfl | rfl <;> rfl
          case c3 => have := HLl.out; unfold maxLen; omega
          case c4 => have := HLl.out; omega
          intro gz cz w9 hown2 hgrow hat hlt
          have HP := keep (RowX.push nest0_nest HRd'.out trivial hown2 hgrow (by simpa using hat))
          have HK9 : Hid (Bk w9 X [.slice (some ⟨g,o,none⟩) n cap,.int .i64 pr,.slice pa m ca] 66) := by
           have u := HKd.out
           have hl := HKd.out.lt
           show Bk _ _ _ _
           unfold Bk at u ⊢
           rw [hgrow.block X hl (fun e => by have := (HOwn.out.lt X e.symm).1; have := HXl.out; omega)]; exact u
          have HB9 : Hid (Below w1.heap.size w1 w9) := HBd.out.trans ⟨hgrow.os,hgrow.tape,hgrow.output,hgrow.size,fun k hk => hgrow.block k (Nat.lt_of_lt_of_le hk HBd.out.size) (fun e => by have := (HOwn.out.lt k e.symm).1; omega)⟩
          have HNo9 : Hid (∀ j,j < k + 1 → ldE (m : Int) l j = 0) := fun j hj => by
           by_cases e : j = k
           ·rw [e,HLe.out]; rfl
           ·exact HNo.out j (by omega)
          clear hown2 hgrow hat hlt z0 z1 z2 z3 z4 z5
          go_wp2
          go_roundw
          case rel => exact ⟨k + 1,by omega,by go_num,HNo9.out,by rw [HPu.out]; exact HP.out,HK9.out,HB9.out⟩
          case measure => simp [intOf]; omega
     ·have hcn : (ce != 0) = true := by rw [bne_iff_ne]; exact hce
      have HLe : Hid (ldE (m : Int) l k = ce) := by
       show _ = _
       unfold ldE
       rw [HCe.out,if_pos hce]
      have HNe : Hid (ce ≠ 0) := hce
      clear hce
      go_wp2_with (first | rw [HW4.out,HIB.out] | fail)
      refine bodyPost_ret (results_tmp2 rfl _ _ _) rfl ?_
      refine LdP.no (e:=ce) ?_ (HB1.out.trans (HBb4.out.mono HB1.out.size))
      rw [loadM_bad HNn.out (by rw [HDv.out.1]; exact hkl) HNo.out (by rw [HLe.out]; exact HNe.out),HLe.out]
    ·have hke : k = N := by omega
     subst hke
     have dl : decide ((k : Int) < (k : Int)) = false := decide_eq_false (by omega)
     have HAll := keep (loadM_all HNn.out (by rw [HDv.out.1]; exact HNo.out))
     have HRe : Hid (RowC wr w1.heap.size u4 (loadM (m : Int) l).1) := by show RowC _ _ _ _; rw [HAll.out,HDv.out.1]; exact hrw
     have HBe := keep hb
     obtain ⟨pc,nc,cp0,rfl⟩ := RowX.slice HRe.out
     clear hrw hk hb hno
     go_wp2
     refine bodyPost_ret (results_tmp2 rfl _ _ _) rfl ?_
     exact ⟨_,w1.heap.size,by rw [HAll.out]; rfl,HB1.out.size,HBe.out.size,HRe.out,HB1.out.trans (HBe.out.mono HB1.out.size)⟩
  ·have k8 : decide ((0 : Int) < (n : Int).tmod 8) = true := by rw [hmod]; exact decide_eq_true (by omega)
   have HG : Hid (LdP m l w (.returned (.tuple #[.slice none 0 0,.int .i64 2])) w1) := .no (loadM_form (.inr (by rw [hn]; exact hn8))) b1
   have k8b : decide ((0 : Int) < (n : Int) % 8) = true := decide_eq_true (by omega)
   clear hw1 hX b1 kI hn hby hp1 hp0 hB hcap hl
   go_enter Try.func30,Try.ntmps30
   go_wp2_with (first | rw [HW1.out] | rw [HX.out] | fail)
   refine bodyPost_ret (results_tmp2 rfl _ _ _) rfl ?_
   exact HG.out
end Go.Proofs.Ytpnacanbknejiaa.Mh
