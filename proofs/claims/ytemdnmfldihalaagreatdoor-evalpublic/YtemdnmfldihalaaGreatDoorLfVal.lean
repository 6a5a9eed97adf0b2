/- What a program's parts become: values, as they run. Written by tools/gen_fval.py. -/
import Derived.Test.YtemdnmfldihalaaGreatDoorGr6
namespace Go.Proofs.YtemdnmfldihalaaGreatDoor.Lr
set_option maxHeartbeats 32000000
set_option maxRecDepth 100000
set_option linter.unusedVariables false
set_option linter.unusedSimpArgs false
open Go.ChangeShapes Go.WideShapes Go.ChangeAt Go.RowKit Lg
theorem ExP.plain {t : Rt} {sc : List (List UInt8 × Nat)} {W W' : World} {env : Env} {arr : List (List Int)} {s : Sv} {res : Option Int} {n : Int} (h1 : s.over = false → res = some n) (h2 : Below W.heap.size W W') : ExP t sc W env arr s res (.returned (.int .i64 n)) W' := by
 refine ⟨n,rfl,?_⟩
 cases h : s.over with
 | true => exact .inl ⟨rfl,h2⟩
 | false => exact .inr ⟨rfl,.inl ⟨h1 h,h2⟩⟩
theorem num_val (b : Nat) (n : Int) (W : World) (hc : W.cell? ⟨b,0,none⟩ = some (.int .i64 n)) :
  Calls Tryz.prog 94 #[.pointer (some ⟨b,0,none⟩)] W fun r W' => r = .returned (.int .i64 n) ∧ W' = W := by
 go_enter Tryz.func94,Tryz.ntmps94
 go_wp2
 go_ret
 first | exact ⟨rfl,rfl⟩ | rfl | trivial
theorem name_val (b g : Nat) (n : Int) (W : World) (hc : W.cell? ⟨b,0,none⟩ = some (.pointer (some ⟨g,0,none⟩))) (hg : W.cell? ⟨g,0,none⟩ = some (.int .i64 n)) :
  Calls Tryz.prog 95 #[.pointer (some ⟨b,0,none⟩)] W fun r W' => r = .returned (.int .i64 n) ∧ W' = W := by
 go_enter Tryz.func95,Tryz.ntmps95
 go_wp2
 go_ret
 first | exact ⟨rfl,rfl⟩ | rfl | trivial
theorem fall_any (R : Nat) (l0 l1 l2 l3 l4 l5 : Value) (W : World) (hb : Bk W R [l0,l1,l2,l3,l4,l5] 74) (h1 : ∃ b,l1 = .bool b) (h3 : ∃ b,l3 = .bool b) :
  Calls Tryz.prog 102 #[.pointer (some ⟨R,0,none⟩)] W fun r W' => r = .returned (.tuple #[]) ∧ Bk W' R [l0,.bool true,l2,.bool true,l4,l5] 74 ∧ Fs [R] W W' := by
 obtain ⟨b1,rfl⟩ := h1
 obtain ⟨b3,rfl⟩ := h3
 have c1 := hb.cell 1 rfl
 have f1 := hb.fr 1
 obtain ⟨w1,hw1⟩ : ∃ x,W.setCell ⟨R,1,none⟩ (.bool true) = x := ⟨_,rfl⟩
 have hb1 : Bk w1 R [l0,.bool true,l2,.bool b3,l4,l5] 74 := by rw [← hw1]; exact hb.set 1 _
 have hf1 : Fs [R] W w1 := by rw [← hw1]; exact (Fs.refl _ _).set (by simp) _ _
 have c3 := hb1.cell 3 rfl
 have f3 := hb1.fr 3
 obtain ⟨w2,hw2⟩ : ∃ x,w1.setCell ⟨R,3,none⟩ (.bool true) = x := ⟨_,rfl⟩
 have HE : Hid (Bk w2 R [l0,.bool true,l2,.bool true,l4,l5] 74 ∧ Fs [R] W w2) := by
  rw [← hw2]; exact ⟨hb1.set 3 _,hf1.set (by simp) _ _⟩
 have HW1 := keep hw1
 have HW2 := keep hw2
 clear hb hb1 hf1 hw1 hw2
 go_enter Tryz.func102,Tryz.ntmps102
 go_wp2_with (first | rw [HW1.out] | rw [HW2.out])
 go_end0
 exact ⟨rfl,HE.out⟩
def SpP (t : Rt) (sc : List (List UInt8 × Nat)) (W : World) (env : Env) (arr : List (List Int)) (s : Sv) (i : Nat) (row : List Int) (n : Int) (r : Ending) (W' : World) : Prop :=
 (n < row.length ∧ W' = W ∧ ∃ b,t.ab[i]? = some b ∧ r = .returned (.pointer (some ⟨b,n.toNat,none⟩))) ∨ (¬ n < row.length ∧ r = .returned (.pointer none) ∧ Fs [t.R] W W' ∧ RM t sc W' env arr (trapped s))
theorem spot_any (t : Rt) (sc : List (List UInt8 × Nat)) (W : World) (env : Env) (arr : List (List Int)) (s : Sv) (hA : Apart t sc) (h : RM t sc W env arr s) (i : Nat) (row : List Int) (hi : arr[i]? = some row) (n : Int) (hn : 0 ≤ n) (hlen : arr.length ≤ 1000) (hrow : row.length ≤ 1000) :
  Calls Tryz.prog 82 #[.pointer (some ⟨t.R,0,none⟩),.int .i64 (i : Int),.int .i64 n] W fun r W' => SpP t sc W env arr s i row n r W' := by
 obtain ⟨b,hb,hc,hbk⟩ := h.arr i row hi
 have hil : i < arr.length := (List.getElem?_eq_some_iff.1 hi).1
 have c2 := h.run.cell 2 rfl
 have hz1 : (0 : Int) ≤ (i : Int) := by omega
 have hz2 : (i : Int) < (arr.length : Int) := by omega
 have d0 : decide ((i : Int) < 0) = false := decide_eq_false (by omega)
 have HB := keep hb
 have HFall := keep (fall_any t.R _ _ _ _ _ _ W h.run ⟨_,rfl⟩ ⟨_,rfl⟩)
 have HT := keep (fun W' (h1 : Fs [t.R] W W') h2 => h.turn (s' := trapped s) hA h1 h2)
 clear hb hbk hi
 generalize arr.length = al at *
 by_cases hlt : n < row.length
 ·have d1 : decide ((row.length : Int) ≤ n) = false := decide_eq_false (by omega)
  have HLt := keep hlt
  obtain ⟨k,rfl⟩ : ∃ k : Nat,n = (k : Int) := ⟨n.toNat,by omega⟩
  have hk1 : (k : Int) < (row.length : Int) := hlt
  have hk0 : (0 : Int) ≤ (k : Int) := hn
  clear h hlt HFall HT
  go_enter Tryz.func82,Tryz.ntmps82
  go_wp2
  go_ret
  exact .inl ⟨HLt.out,rfl,b,HB.out,rfl⟩
 ·have d1 : decide ((row.length : Int) ≤ n) = true := decide_eq_true (by omega)
  have HLt := keep hlt
  clear h hlt
  go_enter Tryz.func82,Tryz.ntmps82
  go_wp2_with fail
  refine HFall.out.mono ?_
  rintro r w5 ⟨rfl,hb5,hf5⟩
  have HE := keep (HT.out w5 hf5 hb5)
  have HF5 := keep hf5
  clear hb5 hf5 HFall HT
  go_wp2
  go_ret
  exact .inr ⟨Int.not_lt.2 HLt.out,rfl,HF5.out,HE.out⟩
def Nx (t : Rt) (W : World) (s : Sv) (res : Option Int) (n : Int) (s' : Sv) (W' : World) : Prop := (s' = s ∧ Below W.heap.size W W' ∧ (s.over = true ∨ res = some n)) ∨ (s.over = false ∧ res = none ∧ s' = trapped s ∧ Fs [t.R] W W')
theorem ExP.next {t : Rt} {sc : List (List UInt8 × Nat)} {W W' : World} {env : Env} {arr : List (List Int)} {s : Sv} {res : Option Int} {r : Ending} (hA : Apart t sc) (hM : RM t sc W env arr s) (h : ExP t sc W env arr s res r W') : ∃ n s',r = .returned (.int .i64 n) ∧ RM t sc W' env arr s' ∧ Nx t W s res n s' W' := by
 obtain ⟨n,rfl,⟨h1,h2⟩ | ⟨h1,⟨h2,h3⟩ | ⟨h2,h3,h4⟩⟩⟩ := h
 ·exact ⟨n,s,rfl,hM.below hA h2,.inl ⟨rfl,h2,.inl h1⟩⟩
 ·exact ⟨n,s,rfl,hM.below hA h3,.inl ⟨rfl,h3,.inr h2⟩⟩
 ·exact ⟨n,trapped s,rfl,h4,.inr ⟨h1,h2,rfl,h3⟩⟩
theorem Nx.fs {t : Rt} {W W' : World} {s s' : Sv} {res : Option Int} {n : Int} (h : Nx t W s res n s' W') : Fs [t.R] W W' := by
 rcases h with ⟨_,h,_⟩ | ⟨_,_,_,h⟩
 ·exact Fs.of_below h
 ·exact h
theorem GoodE.call {t : Rt} {sc : List (List UInt8 × Nat)} {rs : List Vr} {m : Nat} {w1 : World} {lo hi : Nat} {v : Value} {e : Ex} (h : GoodE t sc rs m w1 lo hi v e) : ∃ k binds,Fv v k binds ∧ ∀ W,Keeps lo hi w1 W → hi ≤ W.heap.size → ∀ env arr s,RM t sc W env arr s → GE env → GA rs arr → Calls Tryz.prog k binds W fun r W' => ExP t sc W env arr s (evE rs env arr m e) r W' := h
theorem GoodE.more {t : Rt} {sc : List (List UInt8 × Nat)} {rs : List Vr} {m : Nat} {w1 w2 : World} {lo hi lo' hi' : Nat} {v : Value} {e : Ex} (h : GoodE t sc rs m w1 lo hi v e) (h1 : lo' ≤ lo) (h2 : hi ≤ hi') (hk : Keeps lo hi w1 w2) : GoodE t sc rs m w2 lo' hi' v e := by
 obtain ⟨k,binds,hv,hc⟩ := h
 exact ⟨k,binds,hv,fun W hW hs => hc W (hk.trans (hW.sub h1 h2)) (by omega)⟩
theorem ev_two {rs : List Vr} {env : Env} {arr : List (List Int)} {m : Nat} {op : Int} {ea eb : Ex} : evE rs env arr (m + 1) ⟨3,op,[],[ea,eb]⟩ = match evE rs env arr m ea with
  | none => none
  | some a => match evE rs env arr m eb with
   | none => none
   | some b => some (Wd.two op a b) := by
 rw [evE,if_neg (show ¬ (3 : Int) = 1 by decide),if_neg (show ¬ (3 : Int) = 2 by decide)]
 show (match allE (evE rs env arr m) [ea,eb] with | none => none | some vs => _) = _
 rw [allE]
 cases evE rs env arr m ea with
 | none => rfl
 | some a =>
  dsimp only
  rw [allE]
  cases evE rs env arr m eb with
  | none => rfl
  | some b =>
   dsimp only [allE]
   rw [if_neg (show ¬ (3 : Int) = 4 by decide),if_neg (show ¬ (3 : Int) = 5 by decide)]; rfl
theorem two_res {t : Rt} {sc : List (List UInt8 × Nat)} {W w0 w4 w5 : World} {env : Env} {arr : List (List Int)} {s s0 s4 s5 : Sv} {rs : List Vr} {m : Nat} {op n1 n2 : Int} {ea eb : Ex} (hs0 : s0 = s) (hb : Below W.heap.size W w0) (h1 : Nx t w0 s0 (evE rs env arr m ea) n1 s4 w4) (h2 : Nx t w4 s4 (evE rs env arr m eb) n2 s5 w5) (hm : RM t sc w5 env arr s5) : ExP t sc W env arr s (evE rs env arr (m + 1) ⟨3,op,[],[ea,eb]⟩) (.returned (.int .i64 (Wd.two op n1 n2))) w5 := by
 subst hs0
 rw [ev_two]
 refine ⟨_,rfl,?_⟩
 rcases h1 with ⟨rfl,hb1,h1⟩ | ⟨ho,h1,rfl,hf1⟩
 ·rcases h2 with ⟨rfl,hb2,h2⟩ | ⟨ho,h2,rfl,hf2⟩
  ·have hbb : Below W.heap.size W w5 := hb.trans ((hb1.trans (hb2.mono hb1.size)).mono hb.size)
   rcases h1 with h1 | h1
   ·exact .inl ⟨h1,hbb⟩
   ·rcases h2 with h2 | h2
    ·exact .inl ⟨h2,hbb⟩
    ·cases ho : s5.over with
     | true => exact .inl ⟨rfl,hbb⟩
     | false => exact .inr ⟨rfl,.inl ⟨by rw [h1,h2],hbb⟩⟩
  ·rcases h1 with h1 | h1
   ·rw [h1] at ho; cases ho
   ·exact .inr ⟨ho,.inr ⟨by rw [h1,h2],((Fs.of_below hb).trans (Fs.of_below hb1)).trans hf2,hm⟩⟩
 ·rcases h2 with ⟨rfl,hb2,h2⟩ | ⟨ho2,_⟩
  ·exact .inr ⟨ho,.inr ⟨by rw [h1],((Fs.of_below hb).trans hf1).trans (Fs.of_below hb2),hm⟩⟩
  ·cases ho2
theorem two_val (t : Rt) (sc : List (List UInt8 × Nat)) (rs : List Vr) (m : Nat) (op : Int) (hop1 : 1 ≤ op) (hop2 : op ≤ 12) (ea eb : Ex) (b0 b1 b2 lo hi : Nat) (va vb : Value) (w1 : World) (hA : Apart t sc) (hR : t.R < lo) (hb0 : lo ≤ b0) (hb1 : lo ≤ b1) (hb2 : lo ≤ b2) (ht0 : b0 < hi) (ht1 : b1 < hi) (ht2 : b2 < hi)
  (hc0 : w1.cell? ⟨b0,0,none⟩ = some (.int .i64 op)) (hc1 : w1.cell? ⟨b1,0,none⟩ = some va) (hc2 : w1.cell? ⟨b2,0,none⟩ = some vb) (G1 : GoodE t sc rs m w1 lo hi va ea) (G2 : GoodE t sc rs m w1 lo hi vb eb)
  (W : World) (hKp : Keeps lo hi w1 W) (hWh : hi ≤ W.heap.size) (env : Env) (arr : List (List Int)) (s : Sv) (hM : RM t sc W env arr s) (hE : GE env) (hG : GA rs arr) :
  Calls Tryz.prog 110 #[.pointer (some ⟨b0,0,none⟩),.pointer (some ⟨b1,0,none⟩),.pointer (some ⟨b2,0,none⟩)] W fun r W' => ExP t sc W env arr s (evE rs env arr (m + 1) ⟨3,op,[],[ea,eb]⟩) r W' := by
 obtain ⟨k1,d1,⟨rfl,eg1⟩,C1⟩ := G1
 obtain ⟨k2,d2,⟨rfl,eg2⟩,C2⟩ := G2
 have hcell : ∀ b v,lo ≤ b → b < hi → w1.cell? ⟨b,0,none⟩ = some v → ∀ W',Fs [t.R] W W' → W'.cell? ⟨b,0,none⟩ = some v := fun b v h1 h2 h3 W' hf => cellF_fs hf (by rw [World.cell?_of_block (hKp b h1 h2)]; exact h3) (by omega)
 have HSS : Hid (∀ W' : World,Fs [t.R] W W' → (W'.cell? ⟨b0,0,none⟩ = some (.int .i64 op) ∧ W'.cell? ⟨b1,0,none⟩ = some (.func (.func k1) #[] d1) ∧ W'.cell? ⟨b2,0,none⟩ = some (.func (.func k2) #[] d2))) := fun W' hf => ⟨hcell _ _ hb0 ht0 hc0 W' hf,hcell _ _ hb1 ht1 hc1 W' hf,hcell _ _ hb2 ht2 hc2 W' hf⟩
 have HC1 := keep C1
 have HC2 := keep C2
 have HM := keep hM
 have HKp := keep hKp
 clear hcell C1 C2 hM hKp hc0 hc1 hc2
 go_enter Tryz.func110,Tryz.ntmps110
 go_wp2_with fail
 refine wp_region_noPanic ?_
 refine Ord.wpM_begin (fun W' : World => W'.cell? ⟨b0,0,none⟩ = some (.int .i64 op) ∧ W'.cell? ⟨b1,0,none⟩ = some (.func (.func k1) #[] d1) ∧ W'.cell? ⟨b2,0,none⟩ = some (.func (.func k2) #[] d2)) [0,1,2,3,4,5,6,7,8,9,10] (by kernel_rfl) ?_
 have HF0 : Hid (Fs [t.R] W W.drew) := Fs.of_below (Below.drew (Below.refl _ _))
 have HB0 : Hid (Below W.heap.size W W.drew) := Below.drew (Below.refl _ _)
 have HM0 := keep (HM.out.below hA HB0.out)
 have HK0 := keep (HKp.out.trans (Keeps.of_fs HF0.out hR hWh))
 generalize W.drew = w0 at *
 obtain ⟨s0,hs0⟩ : ∃ x,x = s := ⟨s,rfl⟩
 rw [← hs0] at HM0
 have hS := HSS.out w0 HF0.out
 refine Ord.tk (i:=0) (v:=.int .i64 op) (hy:=Or.inl ⟨by rfl,by rintro W' ⟨q0,q1,q2⟩; go_simp⟩) (hS:=hS) (h:=?_)
 try simp only [Act.put,Ord.t,Ord.z,Ord.s]
 refine Ord.tk (i:=1) (v:=.func (.func k1) #[] d1) (hy:=Or.inl ⟨by rfl,by rintro W' ⟨q0,q1,q2⟩; go_simp⟩) (hS:=hS) (h:=?_)
 try simp only [Act.put,Ord.t,Ord.z,Ord.s]
 refine Ord.tk (i:=3) (v:=.func (.func k2) #[] d2) (hy:=Or.inl ⟨by rfl,by rintro W' ⟨q0,q1,q2⟩; go_simp⟩) (hS:=hS) (h:=?_)
 try simp only [Act.put,Ord.t,Ord.z,Ord.s]
 refine Ord.on (i:=2) (h:=fun K hK => ?_)
 go_simp
 refine (HC1.out w0 HK0.out (by have := HF0.out.size; omega) env arr s0 HM0.out hE hG).mono ?_
 intro r w4 hx
 obtain ⟨n1,s4,rfl,hm,hn⟩ := hx.next hA HM0.out
 have HM4 := keep hm
 have HN1 := keep hn
 have HF4 := keep (HF0.out.trans hn.fs)
 have HK4 := keep (HK0.out.trans (Keeps.of_fs hn.fs hR (by have := HF0.out.size; omega)))
 clear hx hm hn hS HK0
 go_simp
 refine hK.out _ _ (fun _ => HSS.out _ HF4.out) ?_
 clear hK K
 try simp only [Act.put,Ord.t,Ord.z,Ord.s]
 have hS := HSS.out w4 HF4.out
 refine Ord.on (i:=4) (h:=fun K hK => ?_)
 go_simp
 refine (HC2.out w4 HK4.out (by have := HF4.out.size; omega) env arr s4 HM4.out hE hG).mono ?_
 intro r w5 hx
 obtain ⟨n2,s5,rfl,hm,hn⟩ := hx.next hA HM4.out
 have HM5 := keep hm
 have HN2 := keep hn
 have HF5 := keep (HF4.out.trans hn.fs)
 have HK5 := keep (HK4.out.trans (Keeps.of_fs hn.fs hR (by have := HF4.out.size; omega)))
 clear hx hm hn hS HK4
 go_simp
 refine hK.out _ _ (fun _ => HSS.out _ HF5.out) ?_
 clear hK K
 try simp only [Act.put,Ord.t,Ord.z,Ord.s]
 have hS := HSS.out w5 HF5.out
 refine Ord.on (i:=5) (h:=fun K hK => ?_)
 go_simp
 refine (Wd.two_yes op n1 n2 hop1 hop2 w5).mono ?_
 rintro r w6 ⟨rfl,rfl⟩
 go_simp
 refine hK.out _ _ (fun _ => hS) ?_
 clear hK K
 try simp only [Act.put,Ord.t,Ord.z,Ord.s]
 refine Ord.tk (i:=6) (v:=.tuple #[.int .i64 (Wd.two op n1 n2),.int .i64 0]) (hy:=Or.inl ⟨by rfl,by rintro W' ⟨q0,q1,q2⟩; go_simp⟩) (hS:=hS) (h:=?_)
 try simp only [Act.put,Ord.t,Ord.z,Ord.s]
 refine Ord.tk (i:=7) (v:=.int .i64 (Wd.two op n1 n2)) (hy:=Or.inl ⟨by rfl,by rintro W' ⟨q0,q1,q2⟩; go_simp⟩) (hS:=hS) (h:=?_)
 try simp only [Act.put,Ord.t,Ord.z,Ord.s]
 refine Ord.tk (i:=8) (v:=.int .i64 0) (hy:=Or.inl ⟨by rfl,by rintro W' ⟨q0,q1,q2⟩; go_simp⟩) (hS:=hS) (h:=?_)
 try simp only [Act.put,Ord.t,Ord.z,Ord.s]
 refine Ord.on (i:=9) (h:=fun K hK => ?_)
 go_simp
 refine hK.out _ _ (fun _ => hS) ?_
 clear hK K
 try simp only [Act.put,Ord.t,Ord.z,Ord.s]
 refine Ord.on (i:=10) (h:=fun K hK => ?_)
 go_simp
 refine hK.out _ _ (fun _ => hS) ?_
 clear hK K
 try simp only [Act.put,Ord.t,Ord.z,Ord.s]
 refine Ord.wpM_done (by kernel_rfl) ?_ _
 refine NoPanic.normal ?_
 have HRes := keep (two_res (op:=op) (ea:=ea) (eb:=eb) (rs:=rs) (env:=env) (arr:=arr) (m:=m) hs0 HB0.out HN1.out HN2.out HM5.out)
 clear hS HSS HC1 HC2 HM0 HM4 HM5 HN1 HN2 HF0 HF4 HF5 HK5 HM HKp
 go_wp2
 go_ret
 exact HRes.out
theorem ev_sel {rs : List Vr} {env : Env} {arr : List (List Int)} {m : Nat} {ea eb ec : Ex} : evE rs env arr (m + 1) ⟨4,0,[],[ea,eb,ec]⟩ = match evE rs env arr m ea with
  | none => none
  | some a => match evE rs env arr m eb with
   | none => none
   | some b => match evE rs env arr m ec with
    | none => none
    | some c => some (selP a b c) := by
 rw [evE,if_neg (show ¬ (4 : Int) = 1 by decide),if_neg (show ¬ (4 : Int) = 2 by decide)]
 show (match allE (evE rs env arr m) [ea,eb,ec] with | none => none | some vs => _) = _
 rw [allE]
 cases evE rs env arr m ea with
 | none => rfl
 | some a =>
  dsimp only
  rw [allE]
  cases evE rs env arr m eb with
  | none => rfl
  | some b =>
   dsimp only
   rw [allE]
   cases evE rs env arr m ec with
   | none => rfl
   | some c =>
    dsimp only [allE]
    rw [if_pos (show (4 : Int) = 4 by decide)]; rfl
theorem sel_res {t : Rt} {sc : List (List UInt8 × Nat)} {W w0 w4 w5 w6 : World} {env : Env} {arr : List (List Int)} {s s0 s4 s5 s6 : Sv} {rs : List Vr} {m : Nat} {n1 n2 n3 : Int} {ea eb ec : Ex} (hs0 : s0 = s) (hb : Below W.heap.size W w0) (h1 : Nx t w0 s0 (evE rs env arr m ea) n1 s4 w4) (h2 : Nx t w4 s4 (evE rs env arr m eb) n2 s5 w5) (h3 : Nx t w5 s5 (evE rs env arr m ec) n3 s6 w6) (hm : RM t sc w6 env arr s6) : ExP t sc W env arr s (evE rs env arr (m + 1) ⟨4,0,[],[ea,eb,ec]⟩) (.returned (.int .i64 (Wd.sel n1 n2 n3))) w6 := by
 subst hs0
 rw [ev_sel]
 refine ⟨_,rfl,?_⟩
 rcases h1 with ⟨rfl,hb1,h1⟩ | ⟨ho,h1,rfl,hf1⟩
 ·rcases h2 with ⟨rfl,hb2,h2⟩ | ⟨ho,h2,rfl,hf2⟩
  ·rcases h3 with ⟨rfl,hb3,h3⟩ | ⟨ho,h3,rfl,hf3⟩
   ·have hb12 := hb1.trans (hb2.mono hb1.size)
    have hb13 := hb12.trans (hb3.mono hb12.size)
    have hbb : Below W.heap.size W w6 := hb.trans (hb13.mono hb.size)
    cases ho : s6.over with
    | true => exact .inl ⟨rfl,hbb⟩
    | false =>
     rw [ho] at h1 h2 h3
     rcases h1 with h1 | h1
     ·cases h1
     rcases h2 with h2 | h2
     ·cases h2
     rcases h3 with h3 | h3
     ·cases h3
     exact .inr ⟨rfl,.inl ⟨by rw [h1,h2,h3]; rfl,hbb⟩⟩
   ·rcases h1 with h1 | h1
    ·rw [h1] at ho; cases ho
    rcases h2 with h2 | h2
    ·rw [h2] at ho; cases ho
    exact .inr ⟨ho,.inr ⟨by rw [h1,h2,h3],(((Fs.of_below hb).trans (Fs.of_below hb1)).trans (Fs.of_below hb2)).trans hf3,hm⟩⟩
  ·rcases h1 with h1 | h1
   ·rw [h1] at ho; cases ho
   rcases h3 with ⟨rfl,hb3,h3⟩ | ⟨ho3,_⟩
   ·exact .inr ⟨ho,.inr ⟨by rw [h1,h2],(((Fs.of_below hb).trans (Fs.of_below hb1)).trans hf2).trans (Fs.of_below hb3),hm⟩⟩
   ·cases ho3
 ·rcases h2 with ⟨rfl,hb2,h2⟩ | ⟨ho2,_⟩
  ·rcases h3 with ⟨rfl,hb3,h3⟩ | ⟨ho3,_⟩
   ·exact .inr ⟨ho,.inr ⟨by rw [h1],(((Fs.of_below hb).trans hf1).trans (Fs.of_below hb2)).trans (Fs.of_below hb3),hm⟩⟩
   ·cases ho3
  ·cases ho2
theorem sel_val (t : Rt) (sc : List (List UInt8 × Nat)) (rs : List Vr) (m : Nat) (ea eb ec : Ex) (b0 b1 b2 lo hi : Nat) (va vb vc : Value) (w1 : World) (hA : Apart t sc) (hR : t.R < lo) (hb0 : lo ≤ b0) (hb1 : lo ≤ b1) (hb2 : lo ≤ b2) (ht0 : b0 < hi) (ht1 : b1 < hi) (ht2 : b2 < hi)
  (hc0 : w1.cell? ⟨b0,0,none⟩ = some va) (hc1 : w1.cell? ⟨b1,0,none⟩ = some vb) (hc2 : w1.cell? ⟨b2,0,none⟩ = some vc) (G1 : GoodE t sc rs m w1 lo hi va ea) (G2 : GoodE t sc rs m w1 lo hi vb eb) (G3 : GoodE t sc rs m w1 lo hi vc ec)
  (W : World) (hKp : Keeps lo hi w1 W) (hWh : hi ≤ W.heap.size) (env : Env) (arr : List (List Int)) (s : Sv) (hM : RM t sc W env arr s) (hE : GE env) (hG : GA rs arr) :
  Calls Tryz.prog 112 #[.pointer (some ⟨b0,0,none⟩),.pointer (some ⟨b1,0,none⟩),.pointer (some ⟨b2,0,none⟩)] W fun r W' => ExP t sc W env arr s (evE rs env arr (m + 1) ⟨4,0,[],[ea,eb,ec]⟩) r W' := by
 obtain ⟨k1,d1,⟨rfl,eg1⟩,C1⟩ := G1
 obtain ⟨k2,d2,⟨rfl,eg2⟩,C2⟩ := G2
 obtain ⟨k3,d3,⟨rfl,eg3⟩,C3⟩ := G3
 have hcell : ∀ b v,lo ≤ b → b < hi → w1.cell? ⟨b,0,none⟩ = some v → ∀ W',Fs [t.R] W W' → W'.cell? ⟨b,0,none⟩ = some v := fun b v h1 h2 h3 W' hf => cellF_fs hf (by rw [World.cell?_of_block (hKp b h1 h2)]; exact h3) (by omega)
 have HSS : Hid (∀ W' : World,Fs [t.R] W W' → (W'.cell? ⟨b0,0,none⟩ = some (.func (.func k1) #[] d1) ∧ W'.cell? ⟨b1,0,none⟩ = some (.func (.func k2) #[] d2) ∧ W'.cell? ⟨b2,0,none⟩ = some (.func (.func k3) #[] d3))) := fun W' hf => ⟨hcell _ _ hb0 ht0 hc0 W' hf,hcell _ _ hb1 ht1 hc1 W' hf,hcell _ _ hb2 ht2 hc2 W' hf⟩
 have HC1 := keep C1
 have HC2 := keep C2
 have HC3 := keep C3
 have HM := keep hM
 have HKp := keep hKp
 clear hcell C1 C2 C3 hM hKp hc0 hc1 hc2
 go_enter Tryz.func112,Tryz.ntmps112
 go_wp2_with fail
 refine wp_region_noPanic ?_
 refine Ord.wpM_begin (fun W' : World => W'.cell? ⟨b0,0,none⟩ = some (.func (.func k1) #[] d1) ∧ W'.cell? ⟨b1,0,none⟩ = some (.func (.func k2) #[] d2) ∧ W'.cell? ⟨b2,0,none⟩ = some (.func (.func k3) #[] d3)) [0,1,2,3,4,5,6,7] (by kernel_rfl) ?_
 have HF0 : Hid (Fs [t.R] W W.drew) := Fs.of_below (Below.drew (Below.refl _ _))
 have HB0 : Hid (Below W.heap.size W W.drew) := Below.drew (Below.refl _ _)
 have HM0 := keep (HM.out.below hA HB0.out)
 have HK0 := keep (HKp.out.trans (Keeps.of_fs HF0.out hR hWh))
 generalize W.drew = w0 at *
 obtain ⟨s0,hs0⟩ : ∃ x,x = s := ⟨s,rfl⟩
 rw [← hs0] at HM0
 have hS := HSS.out w0 HF0.out
 refine Ord.tk (i:=0) (v:=.func (.func k1) #[] d1) (hy:=Or.inl ⟨by rfl,by rintro W' ⟨q0,q1,q2⟩; go_simp⟩) (hS:=hS) (h:=?_)
 try simp only [Act.put,Ord.t,Ord.z,Ord.s]
 refine Ord.tk (i:=2) (v:=.func (.func k2) #[] d2) (hy:=Or.inl ⟨by rfl,by rintro W' ⟨q0,q1,q2⟩; go_simp⟩) (hS:=hS) (h:=?_)
 try simp only [Act.put,Ord.t,Ord.z,Ord.s]
 refine Ord.tk (i:=4) (v:=.func (.func k3) #[] d3) (hy:=Or.inl ⟨by rfl,by rintro W' ⟨q0,q1,q2⟩; go_simp⟩) (hS:=hS) (h:=?_)
 try simp only [Act.put,Ord.t,Ord.z,Ord.s]
 refine Ord.on (i:=1) (h:=fun K hK => ?_)
 go_simp
 refine (HC1.out w0 HK0.out (by have := HF0.out.size; omega) env arr s0 HM0.out hE hG).mono ?_
 intro r w4 hx
 obtain ⟨n1,s4,rfl,hm,hn⟩ := hx.next hA HM0.out
 have HM4 := keep hm
 have HN1 := keep hn
 have HF4 := keep (HF0.out.trans hn.fs)
 have HK4 := keep (HK0.out.trans (Keeps.of_fs hn.fs hR (by have := HF0.out.size; omega)))
 clear hx hm hn hS HK0
 go_simp
 refine hK.out _ _ (fun _ => HSS.out _ HF4.out) ?_
 clear hK K
 try simp only [Act.put,Ord.t,Ord.z,Ord.s]
 have hS := HSS.out w4 HF4.out
 refine Ord.on (i:=3) (h:=fun K hK => ?_)
 go_simp
 refine (HC2.out w4 HK4.out (by have := HF4.out.size; omega) env arr s4 HM4.out hE hG).mono ?_
 intro r w5 hx
 obtain ⟨n2,s5,rfl,hm,hn⟩ := hx.next hA HM4.out
 have HM5 := keep hm
 have HN2 := keep hn
 have HF5 := keep (HF4.out.trans hn.fs)
 have HK5 := keep (HK4.out.trans (Keeps.of_fs hn.fs hR (by have := HF4.out.size; omega)))
 clear hx hm hn hS HK4
 go_simp
 refine hK.out _ _ (fun _ => HSS.out _ HF5.out) ?_
 clear hK K
 try simp only [Act.put,Ord.t,Ord.z,Ord.s]
 have hS := HSS.out w5 HF5.out
 refine Ord.on (i:=5) (h:=fun K hK => ?_)
 go_simp
 refine (HC3.out w5 HK5.out (by have := HF5.out.size; omega) env arr s5 HM5.out hE hG).mono ?_
 intro r w6 hx
 obtain ⟨n3,s6,rfl,hm,hn⟩ := hx.next hA HM5.out
 have HM6 := keep hm
 have HN3 := keep hn
 have HF6 := keep (HF5.out.trans hn.fs)
 have HK6 := keep (HK5.out.trans (Keeps.of_fs hn.fs hR (by have := HF5.out.size; omega)))
 clear hx hm hn hS HK5
 go_simp
 refine hK.out _ _ (fun _ => HSS.out _ HF6.out) ?_
 clear hK K
 try simp only [Act.put,Ord.t,Ord.z,Ord.s]
 have hS := HSS.out w6 HF6.out
 refine Ord.on (i:=6) (h:=fun K hK => ?_)
 go_simp
 refine (Wd.sel_any n1 n2 n3 w6).mono ?_
 rintro r w7 ⟨rfl,rfl⟩
 go_simp
 refine hK.out _ _ (fun _ => hS) ?_
 clear hK K
 try simp only [Act.put,Ord.t,Ord.z,Ord.s]
 refine Ord.on (i:=7) (h:=fun K hK => ?_)
 go_simp
 refine hK.out _ _ (fun _ => hS) ?_
 clear hK K
 try simp only [Act.put,Ord.t,Ord.z,Ord.s]
 refine Ord.wpM_done (by kernel_rfl) ?_ _
 refine NoPanic.normal ?_
 have HRes := keep (sel_res (ea:=ea) (eb:=eb) (ec:=ec) (rs:=rs) (env:=env) (arr:=arr) (m:=m) hs0 HB0.out HN1.out HN2.out HN3.out HM6.out)
 clear hS HSS HC1 HC2 HC3 HM0 HM4 HM5 HM6 HN1 HN2 HN3 HF0 HF4 HF5 HF6 HK6 HM HKp
 go_wp2
 go_ret
 exact HRes.out
theorem ev_at {rs : List Vr} {env : Env} {arr : List (List Int)} {m : Nat} {x : List UInt8} {p : Ex} : evE rs env arr (m + 1) ⟨5,0,x,[p]⟩ = match evE rs env arr m p with
  | none => none
  | some a => if a < (rowOf rs arr x).length then some ((rowOf rs arr x).getD a.toNat 0) else none := by
 rw [evE,if_neg (show ¬ (5 : Int) = 1 by decide),if_neg (show ¬ (5 : Int) = 2 by decide)]
 show (match allE (evE rs env arr m) [p] with | none => none | some vs => _) = _
 rw [allE]
 cases evE rs env arr m p with
 | none => rfl
 | some a =>
  dsimp only [allE]
  rw [if_neg (show ¬ (5 : Int) = 4 by decide),if_pos (show (5 : Int) = 5 by decide)]; rfl
def AtEv (rs : List Vr) (env : Env) (arr : List (List Int)) (m : Nat) (x : List UInt8) (p : Ex) (row : List Int) (n : Int) : Prop := evE rs env arr m p = some n ∧ rowOf rs arr x = row
theorem at_yes {rs : List Vr} {env : Env} {arr : List (List Int)} {m : Nat} {x' : List UInt8} {p : Ex} {row : List Int} {n1 x : Int} (h : AtEv rs env arr m x' p row n1) (h1 : n1 < row.length) (h2 : row[n1.toNat]? = some x) : evE rs env arr (m + 1) ⟨5,0,x',[p]⟩ = some x := by
 rw [ev_at,h.1,h.2]
 dsimp only
 rw [if_pos h1,List.getD_eq_getElem?_getD,h2]; rfl
theorem at_no {rs : List Vr} {env : Env} {arr : List (List Int)} {m : Nat} {x' : List UInt8} {p : Ex} {row : List Int} {n1 : Int} (h : AtEv rs env arr m x' p row n1) (h1 : ¬ n1 < row.length) : evE rs env arr (m + 1) ⟨5,0,x',[p]⟩ = none := by
 rw [ev_at,h.1,h.2]
 dsimp only
 rw [if_neg h1]
theorem at_val (t : Rt) (sc : List (List UInt8 × Nat)) (rs : List Vr) (hrs : rs.length ≤ 1000) (hsz : ∀ v ∈ rs,v.size ≤ 8) (m : Nat) (x : List UInt8) (i : Nat) (hxi : atV rs x = some i) (ep : Ex) (hwf : wfE m ep) (b0 b1 b2 lo hi : Nat) (vp : Value) (w1 : World) (hA : Apart t sc) (hR : t.R < lo) (hb0 : lo ≤ b0) (hb1 : lo ≤ b1) (hb2 : lo ≤ b2) (ht0 : b0 < hi) (ht1 : b1 < hi) (ht2 : b2 < hi)
  (hc0 : w1.cell? ⟨b0,0,none⟩ = some vp) (hc1 : w1.cell? ⟨b1,0,none⟩ = some (.pointer (some ⟨t.M,0,none⟩))) (hc2 : w1.cell? ⟨b2,0,none⟩ = some (.int .i64 (i : Int))) (G1 : GoodE t sc rs m w1 lo hi vp ep)
  (W : World) (hKp : Keeps lo hi w1 W) (hWh : hi ≤ W.heap.size) (env : Env) (arr : List (List Int)) (s : Sv) (hM : RM t sc W env arr s) (hE : GE env) (hG : GA rs arr) :
  Calls Tryz.prog 114 #[.pointer (some ⟨b0,0,none⟩),.pointer (some ⟨b1,0,none⟩),.pointer (some ⟨b2,0,none⟩)] W fun r W' => ExP t sc W env arr s (evE rs env arr (m + 1) ⟨5,0,x,[ep]⟩) r W' := by
 obtain ⟨k1,d1,⟨rfl,eg1⟩,C1⟩ := G1
 have hcell : ∀ b v,lo ≤ b → b < hi → w1.cell? ⟨b,0,none⟩ = some v → ∀ W',Fs [t.R] W W' → W'.cell? ⟨b,0,none⟩ = some v := fun b v h1 h2 h3 W' hf => cellF_fs hf (by rw [World.cell?_of_block (hKp b h1 h2)]; exact h3) (by omega)
 have HSS : Hid (∀ W' : World,Fs [t.R] W W' → (W'.cell? ⟨b1,0,none⟩ = some (.pointer (some ⟨t.M,0,none⟩)) ∧ W'.cell? ⟨t.M,0,none⟩ = some (.pointer (some ⟨t.R,0,none⟩)) ∧ W'.cell? ⟨b2,0,none⟩ = some (.int .i64 (i : Int)))) := fun W' hf => ⟨hcell _ _ hb1 ht1 hc1 W' hf,cellF_fs hf hM.mkr hA.m,hcell _ _ hb2 ht2 hc2 W' hf⟩
 have c0 := hcell _ _ hb0 ht0 hc0 W (Fs.refl _ _)
 obtain ⟨v,hv⟩ : ∃ v,rs[i]? = some v := by
  have := List.findIdx?_eq_some_iff_getElem.1 hxi
  obtain ⟨h1,_⟩ := this
  exact ⟨_,List.getElem?_eq_getElem h1⟩
 have hil : i < rs.length := (List.getElem?_eq_some_iff.1 hv).1
 obtain ⟨row,hrow⟩ : ∃ row,arr[i]? = some row := ⟨_,List.getElem?_eq_getElem (by rw [hG.len]; exact hil)⟩
 have hrl : row.length ≤ 8 := by
  have h1 := hG.size i row v hrow hv
  have h2 := hsz v (List.mem_of_getElem? hv)
  omega
 have hal : arr.length ≤ 1000 := by rw [hG.len]; exact hrs
 have hro : rowOf rs arr x = row := by
  unfold rowOf
  rw [hxi]
  dsimp only
  rw [List.getD_eq_getElem?_getD,hrow]; rfl
 have HRow := keep hrow
 have HRo := keep hro
 have HWd := keep (fun n h => evE_word hE hG m ep hwf n h)
 have HC := keep (C1 W hKp hWh env arr s hM hE hG)
 have HM := keep hM
 have HA := keep hA
 have HEN := keep (ev_at (rs:=rs) (env:=env) (arr:=arr) (m:=m) (x:=x) (p:=ep))
 clear hcell C1 hM hKp hc0 hc1 hc2 hrow hro hG hE hv hxi
 go_enter Tryz.func114,Tryz.ntmps114
 go_wp2_with fail
 refine HC.out.mono ?_
 intro r w4 hx
 obtain ⟨n1,s4,rfl,hm4,hn4⟩ := hx.next HA.out HM.out
 have HM4 := keep hm4
 have HF4 := keep hn4.fs
 have z := HSS.out w4 HF4.out
 obtain ⟨z1,z2,z3⟩ := z
 have z4 := hm4.run.cell 3 rfl
 have HN4 := keep hn4
 clear hx hm4 hn4 HC c0
 rcases HN4.out with ⟨rfl,hbl,h1⟩ | ⟨ho,h1,rfl,hf⟩
 ·have HBl := keep hbl
  clear hbl
  cases ho : s4.over with
  | true =>
   rw [ho] at z4
   have HOv := keep ho
   clear ho h1 HN4
   go_wp2
   go_ret
   exact ⟨0,rfl,.inl ⟨HOv.out,HBl.out⟩⟩
  | false =>
   rw [ho] at z4
   have HOv := keep ho
   have hev : evE rs env arr m ep = some n1 := by
    rcases h1 with h1 | h1
    ·rw [ho] at h1; cases h1
    ·exact h1
   have HEv : Hid (AtEv rs env arr m x ep row n1) := ⟨hev,HRo.out⟩
   have HW1 : Hid (0 ≤ n1) := (HWd.out n1 hev).1
   clear ho h1 HN4 hev HWd HEN HRo
   go_wp2_with fail
   refine wp_region_noPanic ?_
   refine Ord.wpM_begin (fun W' : World => W'.cell? ⟨b1,0,none⟩ = some (.pointer (some ⟨t.M,0,none⟩)) ∧ W'.cell? ⟨t.M,0,none⟩ = some (.pointer (some ⟨t.R,0,none⟩)) ∧ W'.cell? ⟨b2,0,none⟩ = some (.int .i64 (i : Int))) [0,1,2,3,4,5,6,7] (by kernel_rfl) ?_
   have HB5 : Hid (Below w4.heap.size w4 w4.drew) := Below.drew (Below.refl _ _)
   have HM5 := keep (HM4.out.below hA HB5.out)
   have HF5 := keep (HF4.out.trans (Fs.of_below HB5.out))
   generalize w4.drew = w5 at *
   have hS := HSS.out w5 HF5.out
   refine Ord.tk (i:=0) (v:=.pointer (some ⟨t.M,0,none⟩)) (hy:=Or.inl ⟨by rfl,by rintro W' ⟨q0,q1,q2⟩; go_simp⟩) (hS:=hS) (h:=?_)
   try simp only [Act.put,Ord.t,Ord.z,Ord.s]
   refine Ord.tk (i:=1) (v:=.pointer (some ⟨t.M,0,none⟩)) (hy:=Or.inl ⟨by rfl,by rintro W' ⟨q0,q1,q2⟩; go_simp⟩) (hS:=hS) (h:=?_)
   try simp only [Act.put,Ord.t,Ord.z,Ord.s]
   refine Ord.tk (i:=2) (v:=.pointer (some ⟨t.M,0,none⟩)) (hy:=Or.inl ⟨by rfl,by rintro W' ⟨q0,q1,q2⟩; go_simp⟩) (hS:=hS) (h:=?_)
   try simp only [Act.put,Ord.t,Ord.z,Ord.s]
   refine Ord.tk (i:=3) (v:=.pointer (some ⟨t.R,0,none⟩)) (hy:=Or.inl ⟨by rfl,by rintro W' ⟨q0,q1,q2⟩; go_simp⟩) (hS:=hS) (h:=?_)
   try simp only [Act.put,Ord.t,Ord.z,Ord.s]
   refine Ord.tk (i:=4) (v:=.int .i64 (i : Int)) (hy:=Or.inl ⟨by rfl,by rintro W' ⟨q0,q1,q2⟩; go_simp⟩) (hS:=hS) (h:=?_)
   try simp only [Act.put,Ord.t,Ord.z,Ord.s]
   refine Ord.tk (i:=5) (v:=.int .i64 n1) (hy:=Or.inl ⟨by rfl,by rintro W' ⟨q0,q1,q2⟩; go_simp⟩) (hS:=hS) (h:=?_)
   try simp only [Act.put,Ord.t,Ord.z,Ord.s]
   refine Ord.on (i:=6) (h:=fun K hK => ?_)
   go_simp
   refine (spot_any t sc w5 env arr s4 HA.out HM5.out i row HRow.out n1 HW1.out (by omega) (by omega)).mono ?_
   intro r w6 hx
   rcases hx with ⟨hlt,rfl,b,hb,rfl⟩ | ⟨hge,rfl,hf6,hm6⟩
   ·obtain ⟨b',hb',_,hbk⟩ := HM5.out.arr i row HRow.out
    have hbb : b' = b := Option.some.inj (hb'.symm.trans hb)
    subst hbb
    obtain ⟨x,hx⟩ : ∃ x,row[n1.toNat]? = some x := ⟨_,List.getElem?_eq_getElem (by have := HW1.out; omega)⟩
    have hcx := hbk.cell n1.toNat (u:=.int .i64 x) (by rw [List.getElem?_map,hx]; rfl)
    have HRes := keep (at_yes (x:=x) HEv.out hlt hx)
    clear hb hb' hbk hx hlt
    go_simp
    refine hK.out _ _ (fun _ => hS) ?_
    clear hK K
    try simp only [Act.put,Ord.t,Ord.z,Ord.s]
    refine Ord.on (i:=7) (h:=fun K hK => ?_)
    go_simp
    refine hK.out _ _ (fun _ => hS) ?_
    clear hK K
    try simp only [Act.put,Ord.t,Ord.z,Ord.s]
    refine Ord.wpM_done (by kernel_rfl) ?_ _
    refine NoPanic.normal ?_
    have HBb : Hid (Below W.heap.size W w6) := HBl.out.trans (HB5.out.mono HBl.out.size)
    clear hS HSS HM4 HM5 HF4 HF5 HEv HRow HW1
    go_wp2
    go_ret
    exact ExP.plain (fun _ => HRes.out) HBb.out
   ·have HRes := keep (at_no (n1:=n1) HEv.out hge)
    have HFe := keep (HF5.out.trans hf6)
    have HMe := keep hm6
    clear hge
    go_simp
    refine hK.out _ _ (fun _ => HSS.out _ HFe.out) ?_
    clear hK K hf6 hm6
    try simp only [Act.put,Ord.t,Ord.z,Ord.s]
    refine Ord.on (i:=7) (h:=fun K hK => ?_)
    go_simp
    refine hK.out _ _ (fun _ => HSS.out _ HFe.out) ?_
    clear hK K
    try simp only [Act.put,Ord.t,Ord.z,Ord.s]
    refine Ord.wpM_done (by kernel_rfl) ?_ _
    refine NoPanic.normal ?_
    clear hS HSS HM4 HM5 HF4 HF5 HEv HRow HW1 HBl
    go_wp2
    go_ret
    exact ⟨0,rfl,.inr ⟨HOv.out,.inr ⟨HRes.out,HFe.out,HMe.out⟩⟩⟩
 ·have HR : Hid (evE rs env arr (m + 1) ⟨5,0,x,[ep]⟩ = none) := by
   show evE _ _ _ _ _ = _
   rw [HEN.out,h1]
  have HOv := keep ho
  clear ho h1 HN4 hf HEN HWd
  dsimp only [trapped] at z4
  go_wp2
  go_ret
  exact ⟨0,rfl,.inr ⟨HOv.out,.inr ⟨HR.out,HF4.out,HM4.out⟩⟩⟩
end Go.Proofs.YtemdnmfldihalaaGreatDoor.Lr
