/- Laid together: LfPut, LfMWith, LfMActs. -/
import Derived.Test.YtemdnmfldihalaaGreatDoorGr12
import Derived.Test.YtemdnmfldihalaaGreatDoorGr11
namespace Go.Proofs.YtemdnmfldihalaaGreatDoor.Lr
set_option maxHeartbeats 32000000
set_option maxRecDepth 100000
set_option linter.unusedVariables false
set_option linter.unusedSimpArgs false
open Go.ChangeShapes Go.WideShapes Go.ChangeAt Go.RowKit Lg
def putR (rs : List Vr) (x : List UInt8) (a b : Option Int) (mm : Mm) : Rs := match a with
 | none => .over true 0 mm.arr mm.work
 | some i => match b with
  | none => .over true 0 mm.arr mm.work
  | some v => if i < (rowOf rs mm.arr x).length then .go ⟨mm.env,putA rs mm.arr x i.toNat v,mm.work⟩ else .over true 0 mm.arr mm.work
theorem row_at {rs : List Vr} {x : List UInt8} {i : Nat} {arr : List (List Int)} {row : List Int} (hxi : atV rs x = some i) (hr : arr[i]? = some row) : rowOf rs arr x = row := by
 unfold rowOf
 rw [hxi]
 dsimp only
 rw [List.getD_eq_getElem?_getD,hr]; rfl
theorem put_two {t : Rt} {sc : List (List UInt8 × Nat)} {W w0 w4 w5 : World} {mm : Mm} {s0 s4 s5 : Sv} {rs : List Vr} {m : Nat} {x : List UInt8} {n1 n2 : Int} {ep ev : Ex} (hs0 : s0 = on mm.work) (hb : Below W.heap.size W w0) (h1 : Nx t w0 s0 (evE rs mm.env mm.arr m ep) n1 s4 w4) (h2 : Nx t w4 s4 (evE rs mm.env mm.arr m ev) n2 s5 w5) (hm : RM t sc w5 mm.env mm.arr s5) :
  (s5 = on mm.work ∧ Below W.heap.size W w5 ∧ evE rs mm.env mm.arr m ep = some n1 ∧ evE rs mm.env mm.arr m ev = some n2) ∨ (s5 = trapped (on mm.work) ∧ putR rs x (evE rs mm.env mm.arr m ep) (evE rs mm.env mm.arr m ev) mm = .over true 0 mm.arr mm.work) := by
 subst hs0
 rcases h1 with ⟨rfl,hb1,h1⟩ | ⟨ho,h1,rfl,hf1⟩
 ·have e1 : evE rs mm.env mm.arr m ep = some n1 := by
   rcases h1 with h1 | h1
   ·cases h1
   ·exact h1
  rcases h2 with ⟨rfl,hb2,h2⟩ | ⟨ho,h2,rfl,hf2⟩
  ·have e2 : evE rs mm.env mm.arr m ev = some n2 := by
    rcases h2 with h2 | h2
    ·cases h2
    ·exact h2
   exact .inl ⟨rfl,hb.trans ((hb1.trans (hb2.mono hb1.size)).mono hb.size),e1,e2⟩
  ·exact .inr ⟨rfl,by rw [e1,h2]; rfl⟩
 ·rcases h2 with ⟨rfl,hb2,h2⟩ | ⟨ho2,_⟩
  ·exact .inr ⟨rfl,by rw [h1]; rfl⟩
  ·cases ho2
theorem Sep.ab {t : Rt} {sc : List (List UInt8 × Nat)} (h : Sep t sc) : t.ab.Nodup ∧ ∀ b ∈ t.ab,t.R ≠ b ∧ t.M ≠ b ∧ t.AO ≠ b ∧ ∀ p ∈ sc,p.2 ≠ b := by
 unfold Sep at h
 simp only [List.nodup_cons,List.mem_cons,List.mem_append,List.mem_map,not_or] at h
 obtain ⟨⟨h1,h2,h3,h4⟩,⟨h6,h7,h9⟩,⟨h10,h11⟩,hn⟩ := h
 obtain ⟨n1,n2,n3⟩ := List.nodup_append.1 hn
 exact ⟨n1,fun b hb => ⟨fun e => h3 (e ▸ hb),fun e => h7 (e ▸ hb),fun e => h10 (e ▸ hb),fun p hp e => n3 b hb p.2 (List.mem_map.2 ⟨p,hp,rfl⟩) e.symm⟩⟩
theorem put_go {t : Rt} {sc : List (List UInt8 × Nat)} {rs : List Vr} {x : List UInt8} {i : Nat} {W w6 : World} {mm : Mm} {row : List Int} {b : Nat} {n1 n2 : Int} (hS : Sep t sc) (hf : Fs [t.R] W w6) (hM : RM t sc w6 mm.env mm.arr (on mm.work)) (hxi : atV rs x = some i) (hr : mm.arr[i]? = some row) (hb : t.ab[i]? = some b) (hlt : n1 < row.length) (h0 : 0 ≤ n1) :
  StP t sc sc [] W (putR rs x (some n1) (some n2) mm) (.returned (.tuple #[])) (w6.setCell ⟨b,n1.toNat,none⟩ (.int .i64 n2)) := by
 obtain ⟨hn,hab⟩ := hS.ab
 have hbm := List.mem_of_getElem? hb
 obtain ⟨a1,a2,a3,a4⟩ := hab b hbm
 have hf2 : Fs [b] w6 (w6.setCell ⟨b,n1.toNat,none⟩ (.int .i64 n2)) := (Fs.refl _ _).set (by simp) _ _
 have hil : i < mm.arr.length := (List.getElem?_eq_some_iff.1 hr).1
 have hpa : putA rs mm.arr x n1.toNat n2 = mm.arr.set i (row.set n1.toNat n2) := by
  unfold putA
  rw [hxi]
  dsimp only
  rw [List.getD_eq_getElem?_getD,hr]; rfl
 have henv : EnvM (w6.setCell ⟨b,n1.toNat,none⟩ (.int .i64 n2)) sc mm.env := hM.env.fsl hf2 (fun p hp => by simpa using a4 p hp)
 refine ⟨rfl,(hf.mono (by simp [Chg])).trans (hf2.mono (fun k hk => by rw [List.mem_singleton] at hk; subst hk; simp [Chg,hbm])),fun c hc => henv.ints c (by simpa using hc),?_⟩
 unfold putR
 dsimp only
 rw [row_at hxi hr,if_pos hlt,hpa]
 refine ⟨cell_fsl hf2 hM.mkr (by simpa using a2),?_,?_,henv⟩
 ·have h := hM.run.fs hf2 (by simpa using a1)
  show Bk _ _ [_,_,.slice _ (mm.arr.set i (row.set n1.toNat n2)).length (mm.arr.set i (row.set n1.toNat n2)).length,_,_,_] _
  rw [List.length_set]; exact h
 ·intro j row2 hj
  rw [List.getElem?_set] at hj
  split at hj
  ·rename_i e
   subst e
   (try rw [if_pos hil] at hj)
   cases hj
   obtain ⟨b2,h1,h2,h3⟩ := hM.arr i row hr
   have e2 : b2 = b := Option.some.inj (h1.symm.trans hb)
   subst e2
   refine ⟨b2,h1,by rw [List.length_set]; exact cell_fsl hf2 h2 (by simpa using a3),?_⟩
   rw [List.map_set]
   exact h3.set n1.toNat _
  ·rename_i hne
   obtain ⟨b2,h1,h2,h3⟩ := hM.arr j row2 hj
   refine ⟨b2,h1,cell_fsl hf2 h2 (by simpa using a3),h3.fs hf2 ?_⟩
   rw [List.mem_singleton]
   intro e
   subst e
   exact hne ((List.getElem?_inj (List.getElem?_eq_some_iff.1 hb).1 hn).1 (hb.trans h1.symm))
theorem put_val (t : Rt) (sc : List (List UInt8 × Nat)) (rs : List Vr) (hrs : rs.length ≤ 1000) (hsz : ∀ v ∈ rs,v.size ≤ 8) (m : Nat) (x : List UInt8) (i : Nat) (hxi : atV rs x = some i) (ep ev : Ex) (hwf : wfE m ep) (b0 b1 b2 b3 lo hi : Nat) (vp vv : Value) (w1 : World) (hSep : Sep t sc) (hR : t.R < lo) (hb0 : lo ≤ b0 ∧ b0 < hi) (hb1 : lo ≤ b1 ∧ b1 < hi) (hb2 : lo ≤ b2 ∧ b2 < hi) (hb3 : lo ≤ b3 ∧ b3 < hi)
  (hc0 : w1.cell? ⟨b0,0,none⟩ = some vp) (hc1 : w1.cell? ⟨b1,0,none⟩ = some vv) (hc2 : w1.cell? ⟨b2,0,none⟩ = some (.pointer (some ⟨t.M,0,none⟩))) (hc3 : w1.cell? ⟨b3,0,none⟩ = some (.int .i64 (i : Int))) (G1 : GoodE t sc rs m w1 lo hi vp ep) (G2 : GoodE t sc rs m w1 lo hi vv ev)
  (W : World) (hKp : Keeps lo hi w1 W) (hWh : hi ≤ W.heap.size) (mm : Mm) (hM : RM t sc W mm.env mm.arr (on mm.work)) (hGE : GE mm.env) (hGA : GA rs mm.arr) :
  Calls Tryz.prog 81 #[.pointer (some ⟨b0,0,none⟩),.pointer (some ⟨b1,0,none⟩),.pointer (some ⟨b2,0,none⟩),.pointer (some ⟨b3,0,none⟩)] W fun r W' => StP t sc sc [] W (putR rs x (evE rs mm.env mm.arr m ep) (evE rs mm.env mm.arr m ev) mm) r W' := by
 have hA := hSep.apart
 obtain ⟨k1,d1,⟨rfl,eg1⟩,C1⟩ := G1
 obtain ⟨k2,d2,⟨rfl,eg2⟩,C2⟩ := G2
 have hcell : ∀ b v,lo ≤ b ∧ b < hi → w1.cell? ⟨b,0,none⟩ = some v → ∀ W',Fs [t.R] W W' → W'.cell? ⟨b,0,none⟩ = some v := fun b v h1 h3 W' hf => cellF_fs hf (by rw [World.cell?_of_block (hKp b h1.1 h1.2)]; exact h3) (by have := h1.1; omega)
 have HSS : Hid (∀ W' : World,Fs [t.R] W W' → (W'.cell? ⟨b0,0,none⟩ = some (.func (.func k1) #[] d1) ∧ W'.cell? ⟨b1,0,none⟩ = some (.func (.func k2) #[] d2))) := fun W' hf => ⟨hcell _ _ hb0 hc0 W' hf,hcell _ _ hb1 hc1 W' hf⟩
 have HS4 : Hid (∀ W' : World,Fs [t.R] W W' → (W'.cell? ⟨b2,0,none⟩ = some (.pointer (some ⟨t.M,0,none⟩)) ∧ W'.cell? ⟨t.M,0,none⟩ = some (.pointer (some ⟨t.R,0,none⟩)) ∧ W'.cell? ⟨b3,0,none⟩ = some (.int .i64 (i : Int)))) := fun W' hf => ⟨hcell _ _ hb2 hc2 W' hf,cellF_fs hf hM.mkr hA.m,hcell _ _ hb3 hc3 W' hf⟩
 have HCM := keep (hcell _ _ hb2 hc2)
 obtain ⟨v,hv⟩ : ∃ v,rs[i]? = some v := by
  obtain ⟨h1,_⟩ := List.findIdx?_eq_some_iff_getElem.1 hxi
  exact ⟨_,List.getElem?_eq_getElem h1⟩
 have hil : i < rs.length := (List.getElem?_eq_some_iff.1 hv).1
 obtain ⟨row,hrow⟩ : ∃ row,mm.arr[i]? = some row := ⟨_,List.getElem?_eq_getElem (by rw [hGA.len]; exact hil)⟩
 have hrl : row.length ≤ 8 := by
  have h1 := hGA.size i row v hrow hv
  have h2 := hsz v (List.mem_of_getElem? hv)
  omega
 have hal : mm.arr.length ≤ 1000 := by rw [hGA.len]; exact hrs
 have HRow := keep hrow
 have HWd := keep (fun n h => evE_word hGE hGA m ep hwf n h)
 have HC1 := keep C1
 have HC2 := keep C2
 have HM := keep hM
 have HKp := keep hKp
 clear hcell C1 C2 hM hKp hc0 hc1 hc2 hc3 hrow hv
 go_enter Tryz.func81,Tryz.ntmps81
 go_wp2_with fail
 refine wp_region_noPanic ?_
 refine Ord.wpM_begin (fun W' : World => W'.cell? ⟨b0,0,none⟩ = some (.func (.func k1) #[] d1) ∧ W'.cell? ⟨b1,0,none⟩ = some (.func (.func k2) #[] d2)) [0,1,2,3,4,5] (by kernel_rfl) ?_
 have HF0 : Hid (Fs [t.R] W W.drew) := Fs.of_below (Below.drew (Below.refl _ _))
 have HB0 : Hid (Below W.heap.size W W.drew) := Below.drew (Below.refl _ _)
 have HM0 := keep (HM.out.below hA HB0.out)
 have HK0 := keep (HKp.out.trans (Keeps.of_fs HF0.out hR hWh))
 generalize W.drew = w0 at *
 obtain ⟨s0,hs0⟩ : ∃ x,x = on mm.work := ⟨_,rfl⟩
 rw [← hs0] at HM0
 have hS := HSS.out w0 HF0.out
 refine Ord.tk (i:=0) (v:=.func (.func k1) #[] d1) (hy:=Or.inl ⟨by rfl,by rintro W' ⟨q0,q1⟩; go_simp⟩) (hS:=hS) (h:=?_)
 try simp only [Act.put,Ord.t,Ord.z,Ord.s]
 refine Ord.tk (i:=2) (v:=.func (.func k2) #[] d2) (hy:=Or.inl ⟨by rfl,by rintro W' ⟨q0,q1⟩; go_simp⟩) (hS:=hS) (h:=?_)
 try simp only [Act.put,Ord.t,Ord.z,Ord.s]
 refine Ord.on (i:=1) (h:=fun K hK => ?_)
 go_simp
 refine (HC1.out w0 HK0.out (by have := HF0.out.size; omega) mm.env mm.arr s0 HM0.out hGE hGA).mono ?_
 intro r w4 hx
 obtain ⟨n1,s4,rfl,hm,hn⟩ := hx.next hA HM0.out
 have HM4 := keep hm
 have HN1 := keep hn
 have HF4 := keep (HF0.out.trans hn.fs)
 have HK4 := keep (HK0.out.trans (Keeps.of_fs hn.fs hR (by have := HF0.out.size; omega)))
 clear hx hm hn hS HK0
 go_simp
 refine hK.out _ _ (fun _ => HSS.out _ HF4.out) ?_
 clear hK K
 try simp only [Act.put,Ord.t,Ord.z,Ord.s]
 have hS := HSS.out w4 HF4.out
 refine Ord.on (i:=3) (h:=fun K hK => ?_)
 go_simp
 refine (HC2.out w4 HK4.out (by have := HF4.out.size; omega) mm.env mm.arr s4 HM4.out hGE hGA).mono ?_
 intro r w5 hx
 obtain ⟨n2,s5,rfl,hm,hn⟩ := hx.next hA HM4.out
 have HM5 := keep hm
 have HN2 := keep hn
 have HF5 := keep (HF4.out.trans hn.fs)
 have HK5 := keep (HK4.out.trans (Keeps.of_fs hn.fs hR (by have := HF4.out.size; omega)))
 clear hx hm hn hS HK4
 go_simp
 refine hK.out _ _ (fun _ => HSS.out _ HF5.out) ?_
 clear hK K
 try simp only [Act.put,Ord.t,Ord.z,Ord.s]
 have hS := HSS.out w5 HF5.out
 refine Ord.on (i:=4) (h:=fun K hK => ?_)
 go_simp
 refine hK.out _ _ (fun _ => hS) ?_
 clear hK K
 try simp only [Act.put,Ord.t,Ord.z,Ord.s]
 refine Ord.on (i:=5) (h:=fun K hK => ?_)
 go_simp
 refine hK.out _ _ (fun _ => hS) ?_
 clear hK K
 try simp only [Act.put,Ord.t,Ord.z,Ord.s]
 refine Ord.wpM_done (by kernel_rfl) ?_ _
 refine NoPanic.normal ?_
 have HP := keep (put_two (x:=x) hs0 HB0.out HN1.out HN2.out HM5.out)
 have z1 := HCM.out w5 HF5.out
 have z2 := HM5.out.mkr
 have z3 := HM5.out.run.cell 3 rfl
 clear hS HC1 HC2 HM0 HM4 HN1 HN2 HF0 HF4 HK5 HM HKp HSS
 rcases HP.out with ⟨rfl,hbl,h1,h2⟩ | ⟨rfl,hnone⟩
 rotate_left
 ·have HE : Hid (StP t sc sc [] W (putR rs x (evE rs mm.env mm.arr m ep) (evE rs mm.env mm.arr m ev) mm) (.returned (.tuple #[])) w5) := by
   refine ⟨rfl,HF5.out.mono (by simp [Chg]),fun b hb => HM5.out.env.ints b (by simpa using hb),?_⟩
   rw [hnone]; exact HM5.out.runIs
  clear hnone HP
  unfold trapped on at z3
  dsimp only at z3
  go_wp2
  go_end0
  exact HE.out
 unfold on at z3
 dsimp only at z3
 have HW1 : Hid (0 ≤ n1) := (HWd.out n1 h1).1
 have HBl := keep hbl
 have HEv := keep h1
 have HEw := keep h2
 clear hbl h1 h2 HP HWd
 go_wp2_with fail
 refine wp_region_noPanic ?_
 refine Ord.wpM_begin (fun W' : World => W'.cell? ⟨b2,0,none⟩ = some (.pointer (some ⟨t.M,0,none⟩)) ∧ W'.cell? ⟨t.M,0,none⟩ = some (.pointer (some ⟨t.R,0,none⟩)) ∧ W'.cell? ⟨b3,0,none⟩ = some (.int .i64 (i : Int))) [0,1,2,3,4,5,6,7] (by kernel_rfl) ?_
 have HB6 : Hid (Below w5.heap.size w5 w5.drew) := Below.drew (Below.refl _ _)
 have HM6 := keep (HM5.out.below hA HB6.out)
 have HF6 := keep (HF5.out.trans (Fs.of_below HB6.out))
 generalize w5.drew = w6 at *
 have hS := HS4.out w6 HF6.out
 refine Ord.tk (i:=0) (v:=.pointer (some ⟨t.M,0,none⟩)) (hy:=Or.inl ⟨by rfl,by rintro W' ⟨q0,q1,q2⟩; go_simp⟩) (hS:=hS) (h:=?_)
 try simp only [Act.put,Ord.t,Ord.z,Ord.s]
 refine Ord.tk (i:=1) (v:=.pointer (some ⟨t.M,0,none⟩)) (hy:=Or.inl ⟨by rfl,by rintro W' ⟨q0,q1,q2⟩; go_simp⟩) (hS:=hS) (h:=?_)
 try simp only [Act.put,Ord.t,Ord.z,Ord.s]
 refine Ord.tk (i:=2) (v:=.pointer (some ⟨t.M,0,none⟩)) (hy:=Or.inl ⟨by rfl,by rintro W' ⟨q0,q1,q2⟩; go_simp⟩) (hS:=hS) (h:=?_)
 try simp only [Act.put,Ord.t,Ord.z,Ord.s]
 refine Ord.tk (i:=3) (v:=.pointer (some ⟨t.R,0,none⟩)) (hy:=Or.inl ⟨by rfl,by rintro W' ⟨q0,q1,q2⟩; go_simp⟩) (hS:=hS) (h:=?_)
 try simp only [Act.put,Ord.t,Ord.z,Ord.s]
 refine Ord.tk (i:=4) (v:=.int .i64 (i : Int)) (hy:=Or.inl ⟨by rfl,by rintro W' ⟨q0,q1,q2⟩; go_simp⟩) (hS:=hS) (h:=?_)
 try simp only [Act.put,Ord.t,Ord.z,Ord.s]
 refine Ord.tk (i:=5) (v:=.int .i64 n1) (hy:=Or.inl ⟨by rfl,by rintro W' ⟨q0,q1,q2⟩; go_simp⟩) (hS:=hS) (h:=?_)
 try simp only [Act.put,Ord.t,Ord.z,Ord.s]
 refine Ord.on (i:=6) (h:=fun K hK => ?_)
 go_simp
 refine (spot_any t sc w6 mm.env mm.arr (on mm.work) hA HM6.out i row HRow.out n1 HW1.out (by omega) (by omega)).mono ?_
 intro r w7 hx
 rcases hx with ⟨hlt,rfl,b,hb,rfl⟩ | ⟨hge,rfl,hf7,hm7⟩
 ·obtain ⟨b',hb',_,hbk⟩ := HM6.out.arr i row HRow.out
  have hbb : b' = b := Option.some.inj (hb'.symm.trans hb)
  subst hbb
  obtain ⟨y,hy⟩ : ∃ y,row[n1.toNat]? = some y := ⟨_,List.getElem?_eq_getElem (by have := HW1.out; omega)⟩
  have hcx := hbk.cell n1.toNat (u:=.int .i64 y) (by rw [List.getElem?_map,hy]; rfl)
  have hfx := hbk.fr n1.toNat
  obtain ⟨w8,hw8⟩ : ∃ z,w7.setCell ⟨b',n1.toNat,none⟩ (.int .i64 n2) = z := ⟨_,rfl⟩
  have HE : Hid (StP t sc sc [] W (putR rs x (evE rs mm.env mm.arr m ep) (evE rs mm.env mm.arr m ev) mm) (.returned (.tuple #[])) w8) := by
   rw [HEv.out,HEw.out,← hw8]
   exact put_go hSep HF6.out HM6.out hxi HRow.out hb hlt HW1.out
  have HW8 := keep hw8
  clear hb hb' hbk hy hlt hw8
  go_simp
  refine hK.out _ _ (fun _ => hS) ?_
  clear hK K
  try simp only [Act.put,Ord.t,Ord.z,Ord.s]
  refine Ord.on (i:=7) (h:=fun K hK => ?_)
  go_simp
  refine hK.out _ _ (fun _ => hS) ?_
  clear hK K
  try simp only [Act.put,Ord.t,Ord.z,Ord.s]
  refine Ord.wpM_done (by kernel_rfl) ?_ _
  refine NoPanic.normal ?_
  clear hS HS4 HM5 HM6 HF5 HF6 HEv HEw HRow HW1 HBl
  go_wp2_with (first | rw [HW8.out])
  go_end0
  exact HE.out
 ·have HE : Hid (StP t sc sc [] W (putR rs x (evE rs mm.env mm.arr m ep) (evE rs mm.env mm.arr m ev) mm) (.returned (.tuple #[])) w7) := by
   refine ⟨rfl,(HF6.out.trans hf7).mono (by simp [Chg]),fun b hb => hm7.env.ints b (by simpa using hb),?_⟩
   rw [HEv.out,HEw.out]
   unfold putR
   dsimp only
   rw [row_at hxi HRow.out,if_neg hge]
   exact hm7.runIs
  have HFe := keep (HF6.out.trans hf7)
  clear hge hf7 hm7
  go_simp
  refine hK.out _ _ (fun _ => HS4.out _ HFe.out) ?_
  clear hK K
  try simp only [Act.put,Ord.t,Ord.z,Ord.s]
  refine Ord.on (i:=7) (h:=fun K hK => ?_)
  go_simp
  refine hK.out _ _ (fun _ => HS4.out _ HFe.out) ?_
  clear hK K
  try simp only [Act.put,Ord.t,Ord.z,Ord.s]
  refine Ord.wpM_done (by kernel_rfl) ?_ _
  refine NoPanic.normal ?_
  clear hS HS4 HM5 HM6 HF5 HF6 HEv HEw HRow HW1 HBl HFe
  go_wp2
  go_end0
  exact HE.out
structure WithIs (M : Nat) (ve vt : Value) (w : World) (r : Ending) (w' : World) : Prop where
 r : r = .returned (.func (.func 86) #[] #[.pointer (some ⟨w.heap.size + 1,0,none⟩),.pointer (some ⟨w.heap.size,0,none⟩),.pointer (some ⟨w.heap.size + 2,0,none⟩)])
 b : Below w.heap.size w w'
 s : w'.heap.size = w.heap.size + 3
 m : w'.cell? ⟨w.heap.size,0,none⟩ = some (.pointer (some ⟨M,0,none⟩))
 e : w'.cell? ⟨w.heap.size + 1,0,none⟩ = some ve
 t : w'.cell? ⟨w.heap.size + 2,0,none⟩ = some vt
theorem with_make (M k1 k2 : Nat) (p1 d1 p2 d2 : Array Value) (w : World) :
  Calls Tryz.prog 67 #[.pointer (some ⟨M,0,none⟩),.func (.func k1) p1 d1,.func (.func k2) p2 d2] w fun r w' => WithIs M (.func (.func k1) p1 d1) (.func (.func k2) p2 d2) w r w' := by
 obtain ⟨w1,hw1⟩ : ∃ x,w.alloc (.cells #[.pointer (some ⟨M,0,none⟩)] 100) = x := ⟨_,rfl⟩
 obtain ⟨w2,hw2⟩ : ∃ x,w1.alloc (.cells #[.func (.func k1) p1 d1] 125) = x := ⟨_,rfl⟩
 obtain ⟨w3,hw3⟩ : ∃ x,w2.alloc (.cells #[.func (.func k2) p2 d2] 129) = x := ⟨_,rfl⟩
 have s1 : w1.heap.size = w.heap.size + 1 := by rw [← hw1]; exact Array.size_push ..
 have s2 : w2.heap.size = w.heap.size + 2 := by rw [← hw2]; exact (Array.size_push ..).trans (by omega)
 have s3 : w3.heap.size = w.heap.size + 3 := by rw [← hw3]; exact (Array.size_push ..).trans (by omega)
 have hb1 : Below w.heap.size w w1 := by rw [← hw1]; exact (Below.refl _ _).alloc (Nat.le_refl _) _
 have hb2 : Below w1.heap.size w1 w2 := by rw [← hw2]; exact (Below.refl _ _).alloc (Nat.le_refl _) _
 have hb3 : Below w2.heap.size w2 w3 := by rw [← hw3]; exact (Below.refl _ _).alloc (Nat.le_refl _) _
 have k1' : Bk w1 w.heap.size [.pointer (some ⟨M,0,none⟩)] 100 := by rw [← hw1]; exact Bk.new _ _ _
 have k2' : Bk w2 w1.heap.size [.func (.func k1) p1 d1] 125 := by rw [← hw2]; exact Bk.new _ _ _
 have k3' : Bk w3 w2.heap.size [.func (.func k2) p2 d2] 129 := by rw [← hw3]; exact Bk.new _ _ _
 have hb23 : Below w1.heap.size w1 w3 := hb2.trans (hb3.mono hb2.size)
 have z1 := (k1'.fs (Fs.of_below hb23 (l:=[])) (by simp)).cell 0 rfl
 have z2 := (k2'.fs (Fs.of_below hb3 (l:=[])) (by simp)).cell 0 rfl
 have z3 := k3'.cell 0 rfl
 rw [s1] at z2
 rw [s2] at z3
 have HE : Hid (WithIs M (.func (.func k1) p1 d1) (.func (.func k2) p2 d2) w (.returned (.func (.func 86) #[] #[.pointer (some ⟨w1.heap.size,0,none⟩),.pointer (some ⟨w.heap.size,0,none⟩),.pointer (some ⟨w2.heap.size,0,none⟩)])) w3) :=
  ⟨by rw [s1,s2],hb1.trans (hb23.mono hb1.size),s3,z1,z2,z3⟩
 have HW1 := keep hw1
 have HW2 := keep hw2
 have HW3 := keep hw3
 clear hw1 hw2 hw3 s1 s2 s3 hb1 hb2 hb3 hb23 k1' k2' k3' z1 z2 z3
 go_enter Tryz.func67,Tryz.ntmps67
 go_wp2_with (first | rw [HW1.out] | rw [HW2.out] | rw [HW3.out])
 go_ret
 exact HE.out
def BecIs (M g : Nat) (ve : Value) (w : World) (r : Ending) (w' : World) : Prop :=
 ∃ w1,Below w.heap.size w w1 ∧ w1.heap.size = w.heap.size + 1 ∧ w1.cell? ⟨w.heap.size,0,none⟩ = some (.pointer (some ⟨g,0,none⟩)) ∧ WithIs M ve (.func (.func 77) #[] #[.pointer (some ⟨w.heap.size,0,none⟩)]) w1 r w'
theorem become_make (M g k1 : Nat) (p1 d1 : Array Value) (w : World) :
  Calls Tryz.prog 62 #[.pointer (some ⟨M,0,none⟩),.pointer (some ⟨g,0,none⟩),.func (.func k1) p1 d1] w fun r w' => BecIs M g (.func (.func k1) p1 d1) w r w' := by
 obtain ⟨w1,hw1⟩ : ∃ x,w.alloc (.cells #[.pointer (some ⟨g,0,none⟩)] 104) = x := ⟨_,rfl⟩
 have s1 : w1.heap.size = w.heap.size + 1 := by rw [← hw1]; exact Array.size_push ..
 have hb1 : Below w.heap.size w w1 := by rw [← hw1]; exact (Below.refl _ _).alloc (Nat.le_refl _) _
 have k1' : Bk w1 w.heap.size [.pointer (some ⟨g,0,none⟩)] 104 := by rw [← hw1]; exact Bk.new _ _ _
 have HK := keep (And.intro hb1 (And.intro s1 (k1'.cell 0 rfl)))
 have HC := keep (with_make M k1 77 p1 d1 #[] #[.pointer (some ⟨w.heap.size,0,none⟩)] w1)
 have HW1 := keep hw1
 clear hw1 s1 hb1 k1'
 go_enter Tryz.func62,Tryz.ntmps62
 go_wp2_with (first | rw [HW1.out])
 refine HC.out.mono ?_
 intro r w2 hx
 have HE : Hid (BecIs M g (.func (.func k1) p1 d1) w r w2) := ⟨w1,HK.out.1,HK.out.2.1,HK.out.2.2,hx⟩
 have hr := hx.r
 subst hr
 clear hx HC HK
 go_wp2
 go_ret
 exact HE.out
theorem WithIs.good {k1 k2 : Nat} {p1 d1 p2 d2 : Array Value} {w w' : World} {r : Ending} {t : Rt} {sc sc' : List (List UInt8 × Nat)} {rs : List Vr} {m : Nat} {e : Ex} {lo le he : Nat} {Ls Ex : List Nat} {C : Mm → Prop} {F : Mm → Int → Rs}
  (h : WithIs t.M (.func (.func k1) p1 d1) (.func (.func k2) p2 d2) w r w') (hA : Apart t sc) (hR : t.R < lo) (hlo : lo ≤ w.heap.size) (hL : ∀ b ∈ Ls,lo ≤ b ∧ b < w.heap.size) (hX : ∀ b ∈ Ex,b < w.heap.size) (hle : lo ≤ le) (hhe : he ≤ w.heap.size) (hLe : ∀ b ∈ Ls,b < le ∨ he ≤ b) (hXe : ∀ b ∈ Ex,b < le ∨ he ≤ b) (G : GoodE t sc rs m w le he (.func (.func k1) p1 d1) e)
  (egT : ∀ args w,(callFunc k2 args).run Tryz.prog w = .ok (.enter k2 args) w)
  (hT : ∀ W,KeepX lo w'.heap.size Ls Ex w' W → w'.heap.size ≤ W.heap.size → ∀ mm : Mm,RM t sc W mm.env mm.arr (on mm.work) → GE mm.env → GA rs mm.arr → C mm → ∀ n W2,Below W.heap.size W W2 → evE rs mm.env mm.arr m e = some n → Calls Tryz.prog k2 (p2 ++ #[.int .i64 n] ++ d2) W2 fun r W' => StP t sc sc' Ls W2 (F mm n) r W') :
  ∃ v,r = .returned v ∧ GoodA t sc sc' rs w' lo w'.heap.size Ls Ex v C (fun mm => withR (evE rs mm.env mm.arr m e) mm.arr mm.work (F mm)) := by
 have hs := h.s
 refine ⟨_,h.r,fun b hb => ⟨(hL b hb).1,by have := (hL b hb).2; omega⟩,_,_,⟨rfl,enters_of Tryz.func86 (by kernel_rfl) rfl⟩,?_⟩
 intro W hK hW mm hM hGE hGA hC
 have out : ∀ k,w.heap.size ≤ k → k < w'.heap.size → lo ≤ k ∧ k < w'.heap.size ∧ k ∉ Ls ∧ k ∉ Ex := fun k h1 h2 => ⟨by omega,h2,fun hb => by have := hL k hb; omega,fun hb => by have := hX k hb; omega⟩
 exact with_val t sc sc' rs m e _ w' w lo w'.heap.size le he Ls Ex (w.heap.size + 1) w.heap.size (w.heap.size + 2) k2 p2 d2 F hA hR (fun b hb => ⟨(hL b hb).1,by have := (hL b hb).2; omega⟩) hle (by omega) hLe hXe (fun i h1 h2 => h.b.block i (by omega)) G (out _ (by omega) (by omega)) (out _ (by omega) (by omega)) (out _ (by omega) (by omega)) h.e h.m h.t egT W hK hW mm hM hGE hGA (hT W hK hW mm hM hGE hGA hC)
theorem IntAt.below {W W' : World} {b : Nat} (h : IntAt W b) (hb : Below W.heap.size W W') : IntAt W' b := by
 obtain ⟨n,hn⟩ := h
 exact ⟨n,hn.fs (Fs.of_below (l:=[]) hb) (by simp)⟩
theorem GoodA.more {t : Rt} {sc sc' : List (List UInt8 × Nat)} {rs : List Vr} {w w' : World} {lo hi lo' hi' : Nat} {Ls Ls' Ex Ex' : List Nat} {v : Value} {C : Mm → Prop} {f : Mm → Rs} (h : GoodA t sc sc' rs w lo hi Ls Ex v C f) (h1 : lo' ≤ lo) (h2 : hi ≤ hi')
  (hk : ∀ i,lo ≤ i → i < hi → i ∉ Ls → i ∉ Ex → i ∉ Ls' → i ∉ Ex' → w'.heap[i]? = w.heap[i]?) (hL : ∀ b ∈ Ls,b ∈ Ls') (hL2 : ∀ b ∈ Ls',lo' ≤ b ∧ b < hi') (hLx : ∀ b ∈ Ls',lo ≤ b → b < hi → b ∈ Ls) (hX : ∀ b ∈ Ex',lo ≤ b → b < hi → b ∈ Ex) (hLs : ∀ t sc W W' res,StP t sc sc' Ls W res (.returned (.tuple #[])) W' → (∀ b ∈ Ls',IntAt W b) → StP t sc sc' Ls' W res (.returned (.tuple #[])) W') : GoodA t sc sc' rs w' lo' hi' Ls' Ex' v C f := by
 obtain ⟨hl,k,d,hv,hC⟩ := h
 refine ⟨hL2,k,d,hv,fun W hK hW mm hM hE hG hc => ?_⟩
 refine (hC W ⟨fun i a b c e => ?_,fun b hb => hK.2 b (hL b hb)⟩ (by omega) mm hM hE hG hc).mono ?_
 ·have n1 : i ∉ Ls' := fun hb => c (hLx i hb a b)
  have n2 : i ∉ Ex' := fun hb => e (hX i hb a b)
  exact (hK.1 i (by omega) (by omega) n1 n2).trans (hk i a b c e n1 n2)
 ·intro r W' hx
  have hr := hx.1
  subst hr
  exact hLs t sc W W' _ hx hK.2
theorem BecIs.let_good {t : Rt} {sc : List (List UInt8 × Nat)} {x : List UInt8} {g k1 : Nat} {p1 d1 : Array Value} {w w' : World} {r : Ending} {rs : List Vr} {m : Nat} {e : Ex} {lo le he : Nat} {Ex : List Nat} {C : Mm → Prop}
  (h : BecIs t.M g (.func (.func k1) p1 d1) w r w') (hS : Sep t (sc ++ [(x,g)])) (hR : t.R < lo) (hlo : lo ≤ w.heap.size) (hg : lo ≤ g ∧ g < w.heap.size) (hX : ∀ b ∈ Ex,b < w.heap.size) (hle : lo ≤ le) (hhe : he ≤ w.heap.size) (hge : g < le ∨ he ≤ g) (hXe : ∀ b ∈ Ex,b < le ∨ he ≤ b) (G : GoodE t sc rs m w le he (.func (.func k1) p1 d1) e) :
  ∃ v,r = .returned v ∧ Below w.heap.size w w' ∧ GoodA t sc (sc ++ [(x,g)]) rs w' lo w'.heap.size [g] Ex v C (fun mm => withR (evE rs mm.env mm.arr m e) mm.arr mm.work fun n => .go ⟨mm.env ++ [(x,n)],mm.arr,mm.work⟩) := by
 obtain ⟨w1,hb1,hs1,hc1,hw⟩ := h
 have hb2 := hb1.trans (hw.b.mono hb1.size)
 have hs2 := hw.s
 have G1 : GoodE t sc rs m w1 le he (.func (.func k1) p1 d1) e := G.more (Nat.le_refl _) (Nat.le_refl _) (fun i a b => hb1.block i (by omega))
 obtain ⟨v,h1,h2⟩ := hw.good (sc:=sc) (sc' := sc ++ [(x,g)]) (Ls:=[g]) (Ex:=Ex) (C:=C) (F:=fun mm n => .go ⟨mm.env ++ [(x,n)],mm.arr,mm.work⟩) hS.left.apart hR (by omega) (by intro b hb; rw [List.mem_singleton] at hb; omega) (fun b hb => by have := hX b hb; omega) hle (by omega) (by intro b hb; rw [List.mem_singleton] at hb; omega) hXe G1 (enters_of Tryz.func77 (by kernel_rfl) rfl) (fun W hK hW mm hM _ _ hC n W2 hb hev => by
  refine let_then t sc x g w.heap.size hS mm n W2 (hM.below hS.left.apart hb) ?_ ((hK.2 g (by simp)).below hb)
  refine cell_fsl (Fs.of_below (l:=[]) hb) ?_ (by simp)
  rw [World.cell?_of_block (hK.1 w.heap.size hlo (by omega) (by simp; omega) (fun hb => by have := hX _ hb; omega)),World.cell?_of_block (hw.b.block w.heap.size (by omega))]
  exact hc1)
 exact ⟨v,h1,hb2,h2⟩
theorem BecIs.set_good {t : Rt} {sc : List (List UInt8 × Nat)} {x : List UInt8} {p : List UInt8 × Nat} (hp : sc.find? (fun v => v.1 == x) = some p) {k1 : Nat} {p1 d1 : Array Value} {w w' : World} {r : Ending} {rs : List Vr} {m : Nat} {e : Ex} {lo le he : Nat} {Ex : List Nat} {C : Mm → Prop}
  (h : BecIs t.M p.2 (.func (.func k1) p1 d1) w r w') (hS : Sep t sc) (hR : t.R < lo) (hlo : lo ≤ w.heap.size) (hX : ∀ b ∈ Ex,b < w.heap.size) (hle : lo ≤ le) (hhe : he ≤ w.heap.size) (hXe : ∀ b ∈ Ex,b < le ∨ he ≤ b) (G : GoodE t sc rs m w le he (.func (.func k1) p1 d1) e) :
  ∃ v,r = .returned v ∧ Below w.heap.size w w' ∧ GoodA t sc sc rs w' lo w'.heap.size [] Ex v C (fun mm => withR (evE rs mm.env mm.arr m e) mm.arr mm.work fun n => .go ⟨setE mm.env x n,mm.arr,mm.work⟩) := by
 obtain ⟨w1,hb1,hs1,hc1,hw⟩ := h
 have hb2 := hb1.trans (hw.b.mono hb1.size)
 have hs2 := hw.s
 have hmem := List.mem_of_find?_eq_some hp
 have G1 : GoodE t sc rs m w1 le he (.func (.func k1) p1 d1) e := G.more (Nat.le_refl _) (Nat.le_refl _) (fun i a b => hb1.block i (by omega))
 obtain ⟨v,h1,h2⟩ := hw.good (sc:=sc) (sc' := sc) (Ls:=[]) (Ex:=Ex) (C:=C) (F:=fun mm n => .go ⟨setE mm.env x n,mm.arr,mm.work⟩) hS.apart hR (by omega) (by simp) (fun b hb => by have := hX b hb; omega) hle (by omega) (by simp) hXe G1 (enters_of Tryz.func77 (by kernel_rfl) rfl) (fun W hK hW mm hM _ _ hC n W2 hb hev => by
  have hm2 := hM.below hS.apart hb
  refine set_then t sc x p hp w.heap.size hS mm n W2 hm2 ?_ (hm2.env.ints p.2 (List.mem_map.2 ⟨p,hmem,rfl⟩))
  refine cell_fsl (Fs.of_below (l:=[]) hb) ?_ (by simp)
  rw [World.cell?_of_block (hK.1 w.heap.size hlo (by omega) (by simp) (fun hb => by have := hX _ hb; omega)),World.cell?_of_block (hw.b.block w.heap.size (by omega))]
  exact hc1)
 exact ⟨v,h1,hb2,h2⟩
theorem BecIs.no_good {t : Rt} {sc sc' : List (List UInt8 × Nat)} {g k1 : Nat} {p1 d1 : Array Value} {w w' : World} {r : Ending} {rs : List Vr} {lo hi : Nat} {Ex : List Nat} {C : Mm → Prop} {f : Mm → Rs} (h : BecIs t.M g (.func (.func k1) p1 d1) w r w') (hC : ∀ mm,¬ C mm) :
  ∃ v,r = .returned v ∧ Below w.heap.size w w' ∧ GoodA t sc sc' rs w' lo hi [] Ex v C f := by
 obtain ⟨w1,hb1,hs1,hc1,hw⟩ := h
 exact ⟨_,hw.r,hb1.trans (hw.b.mono hb1.size),by simp,_,_,⟨rfl,enters_of Tryz.func86 (by kernel_rfl) rfl⟩,fun W hK hW mm hM hE hG hc => (hC mm hc).elim⟩
theorem WithIs.ret_good {t : Rt} {sc : List (List UInt8 × Nat)} {k1 : Nat} {p1 d1 : Array Value} {w w' : World} {r : Ending} {rs : List Vr} {m : Nat} {e : Ex} {lo le he : Nat} {Ex : List Nat} {C : Mm → Prop}
  (h : WithIs t.M (.func (.func k1) p1 d1) (.func (.func 68) #[.pointer (some ⟨t.R,0,none⟩)] #[]) w r w') (hS : Sep t sc) (hR : t.R < lo) (hlo : lo ≤ w.heap.size) (hX : ∀ b ∈ Ex,b < w.heap.size) (hle : lo ≤ le) (hhe : he ≤ w.heap.size) (hXe : ∀ b ∈ Ex,b < le ∨ he ≤ b) (G : GoodE t sc rs m w le he (.func (.func k1) p1 d1) e) :
  ∃ v,r = .returned v ∧ Below w.heap.size w w' ∧ GoodA t sc sc rs w' lo w'.heap.size [] Ex v C (fun mm => withR (evE rs mm.env mm.arr m e) mm.arr mm.work fun n => .over false n mm.arr mm.work) := by
 obtain ⟨v,h1,h2⟩ := h.good (sc:=sc) (sc' := sc) (Ls:=[]) (Ex:=Ex) (C:=C) (F:=fun mm n => .over false n mm.arr mm.work) hS.apart hR hlo (by simp) hX hle hhe (by simp) hXe G (enters_of Tryz.func68 (by kernel_rfl) rfl) (fun W hK hW mm hM _ _ hC n W2 hb hev => ret_then t sc hS.apart mm n W2 (hM.below hS.apart hb))
 exact ⟨v,h1,h.b,h2⟩
end Go.Proofs.YtemdnmfldihalaaGreatDoor.Lr
