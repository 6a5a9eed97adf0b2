/- Laid together: LcSize, LvFn5, LvRight, LvAlive5, LvOpen, LvPre. -/
import Derived.Test.YtemdnmfldihalaaGreatDoorGr40
import Derived.Test.YtemdnmfldihalaaGreatDoorGr17
import Derived.Test.YtemdnmfldihalaaGreatDoorLdParse
import Derived.Test.YtemdnmfldihalaaGreatDoorGr48
import Derived.Test.YtemdnmfldihalaaGreatDoorLfRfit
import Derived.Test.YtemdnmfldihalaaGreatDoorGr22
import Derived.Test.YtemdnmfldihalaaGreatDoorLfFits
import Derived.Deep.Matrix
import Derived.Lib.SmallJoins
import Derived.SizedLaws
namespace Go.Proofs.YtemdnmfldihalaaGreatDoor.Lg
set_option linter.unusedVariables false
def Ct {α : Type} (k : Nat) (l : List (List UInt8)) (x : Res α) (c : α → Nat) : Prop := ∀ a r,x = .ok (a,r) → r.length + c a ≤ l.length + k
def One {α : Type} (l : List (List UInt8)) (x : Res α) : Prop := ∀ a r,x = .ok (a,r) → r.length + 1 ≤ l.length
theorem one_next (l : List (List UInt8)) : One l (next l) := fun a r h => by
 cases l with
 | nil => cases h
 | cons w l => cases h; simp
theorem one_and {α β : Type} {l : List (List UInt8)} {x : Res α} {f : α → List (List UInt8) → Res β} (h : One l x) (h2 : ∀ a r,Sh r (f a r)) : One l (andT x f) := fun b q hb => by
 obtain ⟨a,r,h3,h4⟩ := andT_inv hb
 have := h a r h3
 have := h2 a r b q h4
 omega
theorem one_want (x : List UInt8) (l : List (List UInt8)) : One l (want x l) := one_and (one_next l) fun _ _ => sh_if (sh_ok _ _) (sh_err _ _)
theorem one_lab (l : List (List UInt8)) : One l (labT l) := one_and (one_next l) fun _ _ => sh_if (sh_ok _ _) (sh_if (sh_ok _ _) (sh_err _ _))
theorem one_name (l : List (List UInt8)) : One l (nameT l) := one_and (one_next l) fun _ _ => sh_if (sh_ok _ _) (sh_err _ _)
theorem ct_one {α β : Type} {k : Nat} {l : List (List UInt8)} {x : Res α} {f : α → List (List UInt8) → Res β} {c : β → Nat} (h : One l x) (h2 : ∀ a r,Ct (k + 1) r (f a r) c) : Ct k l (andT x f) c := fun b q hb => by
 obtain ⟨a,r,h3,h4⟩ := andT_inv hb
 have := h a r h3
 have := h2 a r b q h4
 omega
theorem ct_sh {α β : Type} {k : Nat} {l : List (List UInt8)} {x : Res α} {f : α → List (List UInt8) → Res β} {c : β → Nat} (h : Sh l x) (h2 : ∀ a r,Ct k r (f a r) c) : Ct k l (andT x f) c := fun b q hb => by
 obtain ⟨a,r,h3,h4⟩ := andT_inv hb
 have := h a r h3
 have := h2 a r b q h4
 omega
theorem ct_and {α β : Type} {k : Nat} {l : List (List UInt8)} {x : Res α} {f : α → List (List UInt8) → Res β} {d : α → Nat} {c : β → Nat} (h : Ct 0 l x d) (h2 : ∀ a r,Ct (k + d a) r (f a r) c) : Ct k l (andT x f) c := fun b q hb => by
 obtain ⟨a,r,h3,h4⟩ := andT_inv hb
 have := h a r h3
 have := h2 a r b q h4
 omega
theorem ct_ok {α : Type} {k : Nat} {a : α} {l : List (List UInt8)} {c : α → Nat} (h : c a ≤ k) : Ct k l (.ok (a,l) : Res α) c := fun _ _ hx => by cases hx; omega
theorem ct_err {α : Type} {k : Nat} {e : Int} {l : List (List UInt8)} {c : α → Nat} : Ct k l (.error e : Res α) c := fun _ _ hx => by cases hx
theorem ct_if {α : Type} {k : Nat} {l : List (List UInt8)} {p : Prop} [Decidable p] {a b : Res α} {c : α → Nat} (ha : Ct k l a c) (hb : Ct k l b c) : Ct k l (if p then a else b) c := by
 by_cases h : p
 ·rw [if_pos h]; exact ha
 ·rw [if_neg h]; exact hb
theorem ct_upto {α : Type} {f : List (List UInt8) → Res α} {d : α → Nat} (h : ∀ l,Ct 0 l (f l) d) : ∀ (n : Nat) (l : List (List UInt8)),Ct 0 l (uptoT f n l) (fun us => 1 + (us.map d).sum)
 | 0,l => ct_err
 | n + 1,l => by
  unfold uptoT
  by_cases hh : l.head? = some [41]
  ·rw [if_pos hh]
   intro a r hr
   cases hr
   cases l with
   | nil => cases hh
   | cons w l => simp
  ·rw [if_neg hh]
   exact ct_and (h l) fun a r => ct_and (ct_upto h n r) fun us q => ct_ok (by simp; omega)
end Go.Proofs.YtemdnmfldihalaaGreatDoor.Lg
namespace Go.Proofs.YtemdnmfldihalaaGreatDoor.Lr
open Lg
theorem ct_stmt : ∀ (m : Nat) (l : List (List UInt8)),Ct 0 l (stmtT m l) (fun t => 3 * szS m t)
 | 0,l => ct_err
 | m + 1,l => by
  unfold stmtT
  have hs : ∀ us : List St,(us.map fun t => 3 * szS m t).sum = 3 * szL m us := fun us => by
   induction us with
   | nil => rfl
   | cons u us ih => rw [List.map_cons,List.sum_cons,ih,szL_cons]; omega
  have h0 : szL m [] = 0 := rfl
  repeat (first
   | (refine ct_ok ?_; simp only [szS_succ,h0,hs]; omega)
   | exact ct_err
   | refine ct_if ?_ ?_
   | refine ct_one (one_next _) fun _ _ => ?_
   | refine ct_one (one_want _ _) fun _ _ => ?_
   | refine ct_one (one_lab _) fun _ _ => ?_
   | refine ct_one (one_name _) fun _ _ => ?_
   | refine ct_sh (sh_num _ _ _) fun _ _ => ?_
   | refine ct_sh (sh_expr _ _) fun _ _ => ?_
   | refine ct_and (ct_upto (ct_stmt m) _ _) fun _ _ => ?_)
theorem parse_size (l : List UInt8) : szL 9 (parseT l).1.body ≤ 800 := by
 have hn : szL 9 nilFn.body ≤ 800 := by decide
 unfold parseT
 by_cases h : 1200 < l.length
 ·rw [if_pos h]; exact hn
 ·rw [if_neg h]
  cases hr : fnT (words l) with
  | error x => exact hn
  | ok p =>
   obtain ⟨f,r⟩ := p
   have hc : Ct 0 (words l) (fnT (words l)) (fun f => 3 * szL 9 f.body) := by
    unfold fnT
    have hs : ∀ us : List St,(us.map fun t => 3 * szS 9 t).sum = 3 * szL 9 us := fun us => by
     induction us with
     | nil => rfl
     | cons u us ih => rw [List.map_cons,List.sum_cons,ih,szL_cons]; omega
    refine ct_one (one_want _ _) fun _ _ => ct_one (one_want _ _) fun _ _ => ct_one (one_want _ _) fun _ _ => ?_
    refine ct_sh (sh_upto (fun l a r h => Nat.le_of_lt (var_less l a r h)) _ _) fun ps _ => ct_one (one_want _ _) fun _ _ => ?_
    refine ct_sh (sh_upto (fun l a r h => Nat.le_of_lt (arr_less l a r h)) _ _) fun rs _ => ct_and (ct_upto (ct_stmt 9) _ _) fun b _ => ct_if (ct_ok ?_) ct_err
    simp only [hs]
    omega
   have h1 := hc f r hr
   have h2 := words_len l
   dsimp only at h1
   have h3 : szL 9 f.body ≤ 800 := by omega
   exact h3
end Go.Proofs.YtemdnmfldihalaaGreatDoor.Lr
namespace Go.Proofs.YtemdnmfldihalaaGreatDoor.Lr
set_option maxHeartbeats 32000000
set_option maxRecDepth 100000
set_option linter.unusedVariables false
set_option linter.unusedSimpArgs false
open Go.ChangeShapes Go.WideShapes Go.ChangeAt Go.RowKit Lg Rf
theorem parse_wf (l : List UInt8) : wfF (parseT l).1 := by
 have hn : wfF nilFn := ⟨(fun v hv => by cases hv),(fun v hv => by cases hv),(fun t ht => by cases ht)⟩
 unfold parseT
 by_cases h : 1200 < l.length
 ·rw [if_pos h]; exact hn
 ·rw [if_neg h]
  cases hr : fnT (words l) with
  | error x => exact hn
  | ok p =>
   obtain ⟨f,r⟩ := p
   exact fnT_wf hr
theorem FnX.mono {w : World} {lo hi lo' hi' : Nat} {f : Lg.Fn} {v : Value} (h : FnX w lo hi f v) (h1 : lo' ≤ lo) (h2 : hi ≤ hi') : FnX w lo' hi' f v := by
 obtain ⟨s1,s2,s3,h0,k1,k2,k3⟩ := h
 exact ⟨s1,s2,s3,h0,k1.mono h1 h2,k2.mono h1 h2,StX.mono (fun i hi => by omega) k3⟩
theorem FnX.slices {w : World} {lo hi : Nat} {f : Lg.Fn} {v1 v2 v3 : Value} (h : FnX w lo hi f (.agg #[v1,v2,v3])) : (∃ p n c,v1 = .slice p n c) ∧ (∃ p n c,v2 = .slice p n c) ∧ ∃ p n c,v3 = .slice p n c := by
 obtain ⟨t1,t2,t3,e0,h1,h2,h3⟩ := h
 injection e0 with e0
 have e1 : v1 = t1 := by injection e0 with e0; injection e0
 have e2 : v2 = t2 := by injection e0 with e0; injection e0 with _ e0; injection e0
 have e3 : v3 = t3 := by injection e0 with e0; injection e0 with _ e0; injection e0 with _ e0; injection e0
 subst e1 e2 e3
 exact ⟨(h1.vrIs (Nat.le_refl _)).slice,(h2.vrIs (Nat.le_refl _)).slice,h3.slice⟩
theorem fn_any (s : ByteArray) (hs : s.size ≤ 281474976710656) (w : World) (ht : Tabs w) :
  Calls Tryz.prog 35 #[.string s] w fun r w' => ∃ (v1 v2 v3 : Value),r = .returned (.agg #[v1,v2,v3]) ∧ FnX w' w.heap.size w'.heap.size (parseT s.data.toList).1 (.agg #[v1,v2,v3]) ∧ Below w.heap.size w w' := by
 have hb0 : Below w.heap.size w (w.alloc (.cells #[.slice none 0 0,.slice none 0 0,.slice none 0 0] 29)) := (Below.refl _ _).alloc (Nat.le_refl _) _
 have HC := keep (parse_any s hs (w.alloc (.cells #[.slice none 0 0,.slice none 0 0,.slice none 0 0] 29)) (ht.below hb0))
 have HB0 := keep hb0
 have HD0 := keep (Bk.new w [.slice none 0 0,.slice none 0 0,.slice none 0 0] 29)
 clear ht hb0
 generalize parseT s.data.toList = pt at *
 obtain ⟨f,e⟩ := pt
 dsimp only at HC
 go_enter Tryz.func35,Tryz.ntmps35
 go_wp2_with fail
 refine HC.out.mono ?_
 rintro r w1 ⟨v1,v2,v3,rfl,hx,hb⟩
 rw [show (w.alloc (.cells #[.slice none 0 0,.slice none 0 0,.slice none 0 0] 29)).heap.size = w.heap.size + 1 by simp] at hx hb
 obtain ⟨⟨p1,n1,c1,rfl⟩,⟨p2,n2,c2,rfl⟩,p3,n3,c3,rfl⟩ := hx.slices
 have HD1 : Hid (Bk w1 w.heap.size [.slice none 0 0,.slice none 0 0,.slice none 0 0] 29) := by
  have h := HD0.out
  show Bk _ _ _ _
  unfold Bk at h ⊢
  rw [hb.block _ (by omega)]; exact h
 have hz1 : w.heap.size + 1 ≤ w1.heap.size := HD1.out.lt
 obtain ⟨w2,hw2⟩ : ∃ w2,w1.alloc (.cells #[.slice p1 n1 c1,.slice p2 n2 c2,.slice p3 n3 c3] 29) = w2 := ⟨_,rfl⟩
 have hb2 : Below w1.heap.size w1 w2 := by rw [← hw2]; exact (Below.refl _ _).alloc (Nat.le_refl _) _
 have HD2 := keep (HD1.out.fs (Fs.of_below (l:=[]) hb2) (by simp))
 have HE2 : Hid (Bk w2 w1.heap.size [.slice p1 n1 c1,.slice p2 n2 c2,.slice p3 n3 c3] 29) := by
  show Bk _ _ _ _
  rw [← hw2]; exact Bk.new _ _ _
 have HB2 := keep ((HB0.out.trans (hb.mono (by omega))).trans (hb2.mono (by omega)))
 have HX2 := keep (hx.keep fun i a b => hb2.block i b)
 have hz2 : w1.heap.size ≤ w2.heap.size := hb2.size
 have HW2 := keep hw2
 clear hx hb hb2 hw2 HC HD0 HD1 HB0
 go_wp2_with (first
  | rw [HW2.out]
  | refine wpList_load_row rfl 29 (.tmp 3) rfl w1.heap.size rfl 29 #[.slice p1 n1 c1,.slice p2 n2 c2,.slice p3 n3 c3] (0,0) _ HE2.out Tryz.underlying29 rfl (info_F [.slice p1 n1 c1,.slice p2 n2 c2,.slice p3 n3 c3] rfl) ?_
  | refine wpList_store_row rfl 29 (.tmp 2) (.tmp 10) rfl w.heap.size #[.slice p1 n1 c1,.slice p2 n2 c2,.slice p3 n3 c3] rfl rfl 29 #[.slice none 0 0,.slice none 0 0,.slice none 0 0] HD2.out (info_F [.slice p1 n1 c1,.slice p2 n2 c2,.slice p3 n3 c3] rfl) rfl (by simp [Value.oneCell']) ?_)
 (try simp only [Exit.inBlock,Exit.then])
 refine bodyPost_ret (results_cell_row rfl _ _ w.heap.size 29 #[.slice p1 n1 c1,.slice p2 n2 c2,.slice p3 n3 c3] (0,0) _ rfl (setRow_heap _ _ _ _ _ _ HD2.out) Tryz.underlying29 rfl (info_F [.slice p1 n1 c1,.slice p2 n2 c2,.slice p3 n3 c3] rfl)) rfl ?_
 refine ⟨_,_,_,rfl,?_,below_setRow HB2.out (Nat.le_refl _) _⟩
 exact (HX2.out.keep fun i a b => setRow_other _ _ _ _ (by omega)).mono (by omega) (by simp; omega)
theorem right_ok {f : Lg.Fn} (h : checkK f = 0) : f.params.length ≤ 4 ∧ f.arrays.length ≤ 3 ∧ ∃ ks',blockK (stmtK f.arrays 9 false) f.body ⟨f.params.map nmOf,0,0⟩ = .ok ks' := by
 unfold checkK at h
 by_cases h1 : 4 < f.params.length ∨ 3 < f.arrays.length
 ·rw [if_pos h1] at h; exact absurd h (by decide)
 ·rw [if_neg h1] at h
  by_cases h2 : twiceK (f.params ++ f.arrays) = true
  ·rw [if_pos h2] at h; exact absurd h (by decide)
  ·rw [if_neg h2] at h
   refine ⟨by omega,by omega,?_⟩
   cases hb : blockK (stmtK f.arrays 9 false) f.body ⟨f.params.map nmOf,0,0⟩ with
   | ok k => exact ⟨k,rfl⟩
   | error x =>
    rw [hb] at h
    dsimp only at h
    have := (block_gd f.body (fun u _ k a b => stmt_gd f.arrays 9 false u k a b) ⟨f.params.map nmOf,0,0⟩ (Nat.zero_le _) (Nat.zero_le _)).1 x hb
    exact absurd h this
theorem sumL_small {l : List (List Int)} (h : ∀ a ∈ l,a.length ≤ 8) : sumL l ≤ 8 * l.length := by
 unfold sumL
 induction l with
 | nil => simp
 | cons a l ih =>
  have h1 := h a (by simp)
  have h2 := ih (fun b hb => h b (by simp [hb]))
  simp only [List.map_cons,List.sum_cons,List.length_cons]
  omega
theorem fit_room {ps rs : List Vr} {ws : List Int} {aa : List (List Int)} (hp : ps.length ≤ 4) (hr : rs.length ≤ 3) (hs : ∀ v ∈ rs,v.size ≤ 8) (h1 : ws.length = ps.length) (h2 : aa.length = rs.length) (j : Nat) (h : ∀ (k : Nat) (v : Vr) (a : List Int),k < j → rs[k]? = some v → aa[k]? = some a → (a.length : Int) = v.size) : ws.length + sumL (aa.take j) ≤ 1048576 := by
 have hb : sumL (aa.take j) ≤ 8 * (aa.take j).length := sumL_small fun a ha => by
  obtain ⟨k,hk⟩ := List.getElem?_of_mem ha
  have hlt := (List.getElem?_eq_some_iff.1 hk).1
  rw [List.length_take] at hlt
  rw [List.getElem?_take_of_lt (by omega)] at hk
  obtain ⟨v,hv⟩ : ∃ v,rs[k]? = some v := ⟨_,List.getElem?_eq_getElem (by omega)⟩
  have e := h k v a (by omega) hv hk
  have := hs v (List.mem_of_getElem? hv)
  omega
 have hl : (aa.take j).length ≤ 3 := by rw [List.length_take]; omega
 omega
theorem shape_room {ps rs : List Vr} {ws : List Int} {aa : List (List Int)} (hp : ps.length ≤ 4) (hr : rs.length ≤ 3) (hs : ∀ v ∈ rs,v.size ≤ 8) (h : Shape ps rs ws aa) : sumL aa ≤ 1048576 := by
 have := fit_room hp hr hs h.w h.a aa.length (fun k v a _ hv ha => h.s k v a hv ha)
 rw [List.take_length] at this
 omega
theorem end_good {rs : List Vr} {body : List St} {mm : Mm} {wd : Int} {tr : Bool} {arr : List (List Int)} (hwf : ∀ s ∈ body,wfS 9 s) (hm : GM rs mm) (h : EndR (evB (evS rs 9) body mm) wd tr arr) : Lg.GA rs arr ∧ isW wd ∧ (tr = true → wd = 0) := by
 have hg : AllR (GM rs) (GO rs) (evB (evS rs 9) body mm) := cut_good _ (evL_good body (fun t ht k hk => evS_good 9 t (hwf t ht) k hk) mm hm)
 cases hres : evB (evS rs 9) body mm with
 | go k =>
  rw [hres] at hg h
  obtain ⟨rfl,rfl,rfl⟩ := h
  exact ⟨GM.arr hg,isW_zero,fun e => by cases e⟩
 | over t w a n =>
  rw [hres] at hg h
  obtain ⟨rfl,rfl,rfl⟩ := h
  exact hg
theorem arrs_of {R M AO : Nat} {ab : List Nat} {w : World} {arr : List (List Int)} (h : ArrM ⟨R,M,AO,ab⟩ w arr) (hn : arr.length ≤ 1000) (hs : ∀ a ∈ arr,a.length ≤ 1000) (hb : ∀ b ∈ AO :: ab,b < w.heap.size) : ArrsIs w w.heap.size arr (.slice (some ⟨AO,0,none⟩) arr.length arr.length) := by
 refine ⟨_,_,_,rfl,rfl,Nat.le_refl _,by omega,fun j l hj => ?_⟩
 obtain ⟨b,h1,h2,h3⟩ := h j l hj
 refine ⟨AO,0,.slice (some ⟨b,0,none⟩) l.length l.length,rfl,hb AO (by simp),by rw [Nat.zero_add]; exact h2,?_⟩
 refine ⟨_,_,_,rfl,rfl,Nat.le_refl _,by have := hs l (List.mem_of_getElem? hj); omega,fun k x hx => ⟨b,0,rfl,h3.lt,?_⟩⟩
 rw [Nat.zero_add]
 exact h3.cell k (by rw [List.getElem?_map,hx]; rfl)
theorem ga_small {rs : List Vr} {arr : List (List Int)} (h : Lg.GA rs arr) (hr : rs.length ≤ 3) (hs : ∀ v ∈ rs,v.size ≤ 8) : arr.length ≤ 3 ∧ ∀ a ∈ arr,a.length ≤ 8 := by
 have hl := h.len
 refine ⟨by omega,fun a ha => ?_⟩
 obtain ⟨k,hk⟩ := List.getElem?_of_mem ha
 have := (List.getElem?_eq_some_iff.1 hk).1
 obtain ⟨v,hv⟩ : ∃ v,rs[k]? = some v := ⟨_,List.getElem?_eq_getElem (by omega)⟩
 have e := h.size k a v hk hv
 have := hs v (List.mem_of_getElem? hv)
 omega
theorem run_one (s : ByteArray) (hs : s.size ≤ 281474976710656) (hc : checkK (parseT s.data.toList).1 = 0) (ws : List Int) (aa : List (List Int)) (hS : Shape (parseT s.data.toList).1.params (parseT s.data.toList).1.arrays ws aa) (hA : AllW ws aa) (wd : Int) (tr : Bool) (arr : List (List Int)) (hE : ∀ wd' tr' arr',EndR (evB (evS (parseT s.data.toList).1.arrays 9) (parseT s.data.toList).1.body ⟨envOf (parseT s.data.toList).1.params ws,aa,0⟩) wd' tr' arr' → wd' = wd ∧ tr' = tr ∧ arr' = arr) (w : World) (ht : Tabs w) :
  Calls Tryz.prog 35 #[.string s] w fun r w' => ∃ p1 n1 c1 p2 n2 c2 p3 n3 c3,r = .returned (.agg #[.slice p1 n1 c1,.slice p2 n2 c2,.slice p3 n3 c3]) ∧ Below w.heap.size w w' ∧ ∀ W gv,Below w'.heap.size w' W → GvIs W W.heap.size ws aa gv → Calls Tryz.prog 12 #[.agg #[.slice p1 n1 c1,.slice p2 n2 c2,.slice p3 n3 c3],gv] W fun r W' => ∃ AO ab,r = .returned (.tuple #[.agg #[.int .i64 wd,.bool tr,.slice (some ⟨AO,0,none⟩) arr.length arr.length],.int .i64 0]) ∧ Below W.heap.size W W' ∧ ∀ R M,ArrM ⟨R,M,AO,ab⟩ W' arr := by
 refine (fn_any s hs w ht).mono ?_
 rintro r w' ⟨v1,v2,v3,rfl,hx,hb⟩
 obtain ⟨⟨p1,n1,c1,rfl⟩,⟨p2,n2,c2,rfl⟩,p3,n3,c3,rfl⟩ := hx.slices
 refine ⟨p1,n1,c1,p2,n2,c2,p3,n3,c3,rfl,hb,fun W gv hW hg => ?_⟩
 have hwf := parse_wf s.data.toList
 have hsz := parse_size s.data.toList
 obtain ⟨q1,q2,ks',q3⟩ := right_ok hc
 obtain ⟨t1,t2,t3,e0,f1,f2,f3⟩ := (hx.keep (fun i a b => hW.block i b)).fnIs (B:=W.heap.size) hW.size
 have ee : #[Value.slice p1 n1 c1,.slice p2 n2 c2,.slice p3 n3 c3] = #[t1,t2,t3] := by injection e0
 have e1 : Value.slice p1 n1 c1 = t1 := by injection ee with ee; injection ee
 have e2 : Value.slice p2 n2 c2 = t2 := by injection ee with ee; injection ee with _ ee; injection ee
 have e3 : Value.slice p3 n3 c3 = t3 := by injection ee with ee; injection ee with _ ee; injection ee with _ ee; injection ee
 subst e1 e2 e3
 have hsm : ∀ v ∈ (parseT s.data.toList).1.arrays,v.size ≤ 8 := fun v hv => (hwf.2.1 v hv).2.2
 refine (run_fits W.heap.size _ _ _ _ _ _ ws aa gv W (Nat.le_refl _) f1 f2 f3 hg (shape_room q1 q2 hsm hS) (by omega) (by omega) (by omega) hsm hwf.2.2 hS hA ks' q3).mono ?_
 rintro r W' ⟨wd',tr',arr',AO,ab,hR⟩
 obtain ⟨e1,e2,e3⟩ := hE wd' tr' arr' hR.ev
 subst e1 e2 e3
 exact ⟨AO,ab,hR.r,hR.bel,hR.arr⟩
def ax1 : List UInt8 := [40,102,110,32,40,40,112,117,98,32,97,41,41,32,40,40,112,117,98,32,116,32,50,41,41,32,40,112,117,116,32,116,32,49,32,40,42,32,97,32,97,41,41,32,40,114,101,116,32,40,43,32,40,97,116,32,116,32,49,41,32,49,41,41,41]
def ax2 : List UInt8 := [40,102,110,32,40,40,112,117,98,32,97,41,41,32,40,40,112,117,98,32,116,32,50,41,41,32,40,114,101,116,32,40,97,116,32,116,32,97,41,41,41]
theorem ax1_check : checkK (parseT ax1).1 = 0 := by kernel_rfl
theorem ax2_check : checkK (parseT ax2).1 = 0 := by kernel_rfl
theorem ax1_p : (parseT ax1).1.params = [⟨[97],false,0⟩] := by kernel_rfl
theorem ax1_a : (parseT ax1).1.arrays = [⟨[116],false,2⟩] := by kernel_rfl
theorem ax2_p : (parseT ax2).1.params = [⟨[97],false,0⟩] := by kernel_rfl
theorem ax2_a : (parseT ax2).1.arrays = [⟨[116],false,2⟩] := by kernel_rfl
theorem ax1_ev : evB (evS (parseT ax1).1.arrays 9) (parseT ax1).1.body ⟨envOf (parseT ax1).1.params [5],[[0,0]],0⟩ = .over false 26 [[0,25]] 2 := by kernel_rfl
theorem ax2_ev : evB (evS (parseT ax2).1.arrays 9) (parseT ax2).1.body ⟨envOf (parseT ax2).1.params [2],[[0,0]],0⟩ = .over true 0 [[0,0]] 1 := by kernel_rfl
theorem ax_shape (x : Int) : Shape [⟨[97],false,0⟩] [⟨[116],false,2⟩] [x] [[0,0]] := by
 refine ⟨rfl,rfl,fun i v a hv ha => ?_⟩
 cases i with
 | zero => cases hv; cases ha; rfl
 | succ i => cases i <;> cases hv
theorem ax_all (x : Int) (h : isW x) : AllW [x] [[0,0]] := by
 refine ⟨fun y hy => ?_,fun a ha y hy => ?_⟩
 ·rw [List.mem_singleton] at hy; rw [hy]; exact h
 ·rw [List.mem_singleton] at ha
  subst ha
  simp at hy
  rw [hy]; exact isW_zero
theorem ints_new {w : World} {b n : Nat} {l : List Int} (h : Bk w b (l.map (Value.int .i64)) 3) (hl : l.length = n) (hn : n ≤ 1000) : IntsIs w w.heap.size l (.slice (some ⟨b,0,none⟩) n n) :=
 ⟨_,_,_,rfl,hl,Nat.le_refl _,by omega,fun k x hx => ⟨b,0,rfl,h.lt,by rw [Nat.zero_add]; exact h.cell k (by rw [List.getElem?_map,hx]; rfl)⟩⟩
theorem arrs_new {w : World} {b : Nat} {l : List Int} {s : Value} (h : Bk w b [s] 22) (hi : IntsIs w w.heap.size l s) : ArrsIs w w.heap.size [l] (.slice (some ⟨b,0,none⟩) 1 1) :=
 ⟨_,_,_,rfl,rfl,Nat.le_refl _,by omega,fun k x hx => by
  cases k with
  | zero => cases hx; exact ⟨b,0,s,rfl,h.lt,h.cell 0 rfl,hi⟩
  | succ k => cases k <;> cases hx⟩
theorem alive_any (w : World) (ht : Tabs w) :
  Calls Tryz.prog 15 #[] w fun r w' => r = .returned (.bool true) ∧ Below w.heap.size w w' := by
 have HT : Hid (∀ W,Below w.heap.size w W → Tabs W) := fun W h => ht.below h
 have H1 := keep (fun W hW => run_one ⟨#[40,102,110,32,40,40,112,117,98,32,97,41,41,32,40,40,112,117,98,32,116,32,50,41,41,32,40,112,117,116,32,116,32,49,32,40,42,32,97,32,97,41,41,32,40,114,101,116,32,40,43,32,40,97,116,32,116,32,49,41,32,49,41,41,41]⟩ (by decide) ax1_check [5] [[0,0]] (by show Shape (parseT ax1).1.params (parseT ax1).1.arrays _ _; rw [ax1_p,ax1_a]; exact ax_shape 5) (ax_all 5 ⟨by decide,by decide⟩) 26 false [[0,25]] (fun a b c h => by
  have h' : EndR (evB (evS (parseT ax1).1.arrays 9) (parseT ax1).1.body ⟨envOf (parseT ax1).1.params [5],[[0,0]],0⟩) a b c := h
  rw [ax1_ev] at h'
  exact h') W (HT.out W hW))
 have H2 := keep (fun W hW => run_one ⟨#[40,102,110,32,40,40,112,117,98,32,97,41,41,32,40,40,112,117,98,32,116,32,50,41,41,32,40,114,101,116,32,40,97,116,32,116,32,97,41,41,41]⟩ (by decide) ax2_check [2] [[0,0]] (by show Shape (parseT ax2).1.params (parseT ax2).1.arrays _ _; rw [ax2_p,ax2_a]; exact ax_shape 2) (ax_all 2 ⟨by decide,by decide⟩) 0 true [[0,0]] (fun a b c h => by
  have h' : EndR (evB (evS (parseT ax2).1.arrays 9) (parseT ax2).1.body ⟨envOf (parseT ax2).1.params [2],[[0,0]],0⟩) a b c := h
  rw [ax2_ev] at h'
  exact h') W (HT.out W hW))
 clear ht
 go_enter Tryz.func15,Tryz.ntmps15
 go_wp2_with fail
 refine (H1.out _ (Below.refl _ _)).mono ?_
 rintro r w1 ⟨p1,n1,c1,p2,n2,c2,p3,n3,c3,rfl,hb1,hrun⟩
 have HB1 := keep hb1
 obtain ⟨wa,hwa⟩ : ∃ y,w1.alloc (.cells #[.int .i64 5] 3) = y := ⟨_,rfl⟩
 obtain ⟨wb,hwb⟩ : ∃ y,wa.alloc (.cells #[.int .i64 0,.int .i64 0] 3) = y := ⟨_,rfl⟩
 obtain ⟨wc,hwc⟩ : ∃ y,wb.alloc (.cells #[.slice (some ⟨wa.heap.size,0,none⟩) 2 2] 22) = y := ⟨_,rfl⟩
 have ba : Below w1.heap.size w1 wa := by rw [← hwa]; exact (Below.refl _ _).alloc (Nat.le_refl _) _
 have bb : Below wa.heap.size wa wb := by rw [← hwb]; exact (Below.refl _ _).alloc (Nat.le_refl _) _
 have bc : Below wb.heap.size wb wc := by rw [← hwc]; exact (Below.refl _ _).alloc (Nat.le_refl _) _
 have ka : Bk wa w1.heap.size ([5].map (Value.int .i64)) 3 := by rw [← hwa]; exact Bk.new _ _ _
 have kb : Bk wb wa.heap.size (([0,0] : List Int).map (Value.int .i64)) 3 := by rw [← hwb]; exact Bk.new _ _ _
 have kc : Bk wc wb.heap.size [.slice (some ⟨wa.heap.size,0,none⟩) 2 2] 22 := by rw [← hwc]; exact Bk.new _ _ _
 have bbc := bb.trans (bc.mono bb.size)
 have hgv : GvIs wc wc.heap.size [5] [[0,0]] (.agg #[.slice (some ⟨w1.heap.size,0,none⟩) 1 1,.slice (some ⟨wb.heap.size,0,none⟩) 1 1]) :=
  ⟨_,_,rfl,ints_new (ka.fs (Fs.of_below (l:=[]) bbc) (by simp)) rfl (by decide),arrs_new kc (ints_new (kb.fs (Fs.of_below (l:=[]) bc) (by simp)) rfl (by decide))⟩
 have babc := ba.trans (bbc.mono ba.size)
 have HRun := keep (hrun wc _ babc hgv)
 have HBc : Hid (Below w.heap.size w wc) := HB1.out.trans (babc.mono HB1.out.size)
 have HWa := keep hwa
 have HWb := keep hwb
 have HWc := keep hwc
 clear hrun hgv babc bbc ba bb bc ka kb kc hwa hwb hwc hb1
 go_wp2_with (first | rw [HWa.out] | rw [HWb.out] | rw [HWc.out])
 refine HRun.out.mono ?_
 rintro r w5 ⟨AO,ab,rfl,hb5,har⟩
 have HB5 := keep (HBc.out.trans (hb5.mono HBc.out.size))
 obtain ⟨b1,hb1a,hc1,hk1⟩ := har 0 0 0 [0,25] rfl
 have HAr : Hid (w5.cell? ⟨AO,0,none⟩ = some (.slice (some ⟨b1,0,none⟩) 2 2) ∧ Bk w5 b1 [.int .i64 0,.int .i64 25] 3) := ⟨hc1,hk1⟩
 obtain ⟨w6,hw6⟩ : ∃ y,w5.alloc (.cells #[.int .i64 26,.bool false,.slice (some ⟨AO,0,none⟩) 1 1] 38) = y := ⟨_,rfl⟩
 have HB6 : Hid (Below w5.heap.size w5 w6) := by
  show Below _ _ _
  rw [← hw6]; exact (Below.refl _ _).alloc (Nat.le_refl _) _
 have HK6 : Hid (Bk w6 w5.heap.size [.int .i64 26,.bool false,.slice (some ⟨AO,0,none⟩) 1 1] 38) := by
  show Bk _ _ _ _
  rw [← hw6]; exact Bk.new _ _ _
 have HW6 := keep hw6
 clear hb5 har hb1a hc1 hk1 hw6 HRun H1
 go_wp2_with (first | rw [HW6.out])
 refine (H2.out _ (HB5.out.trans (HB6.out.mono HB5.out.size))).mono ?_
 rintro r w7 ⟨q1,m1,d1,q2,m2,d2,q3,m3,d3,rfl,hb7,hrun⟩
 have HB67 := keep hb7
 have HB1 := keep ((HB5.out.trans (HB6.out.mono HB5.out.size)).trans (hb7.mono (HB5.out.trans (HB6.out.mono HB5.out.size)).size))
 clear HWa HWb HWc HBc hb7
 obtain ⟨xa,hxa⟩ : ∃ y,w7.alloc (.cells #[.int .i64 2] 3) = y := ⟨_,rfl⟩
 obtain ⟨xb,hxb⟩ : ∃ y,xa.alloc (.cells #[.int .i64 0,.int .i64 0] 3) = y := ⟨_,rfl⟩
 obtain ⟨xc,hxc⟩ : ∃ y,xb.alloc (.cells #[.slice (some ⟨xa.heap.size,0,none⟩) 2 2] 22) = y := ⟨_,rfl⟩
 have ba : Below w7.heap.size w7 xa := by rw [← hxa]; exact (Below.refl _ _).alloc (Nat.le_refl _) _
 have bb : Below xa.heap.size xa xb := by rw [← hxb]; exact (Below.refl _ _).alloc (Nat.le_refl _) _
 have bc : Below xb.heap.size xb xc := by rw [← hxc]; exact (Below.refl _ _).alloc (Nat.le_refl _) _
 have ka : Bk xa w7.heap.size ([2].map (Value.int .i64)) 3 := by rw [← hxa]; exact Bk.new _ _ _
 have kb : Bk xb xa.heap.size (([0,0] : List Int).map (Value.int .i64)) 3 := by rw [← hxb]; exact Bk.new _ _ _
 have kc : Bk xc xb.heap.size [.slice (some ⟨xa.heap.size,0,none⟩) 2 2] 22 := by rw [← hxc]; exact Bk.new _ _ _
 have bbc := bb.trans (bc.mono bb.size)
 have hgv : GvIs xc xc.heap.size [2] [[0,0]] (.agg #[.slice (some ⟨w7.heap.size,0,none⟩) 1 1,.slice (some ⟨xb.heap.size,0,none⟩) 1 1]) :=
  ⟨_,_,rfl,ints_new (ka.fs (Fs.of_below (l:=[]) bbc) (by simp)) rfl (by decide),arrs_new kc (ints_new (kb.fs (Fs.of_below (l:=[]) bc) (by simp)) rfl (by decide))⟩
 have babc := ba.trans (bbc.mono ba.size)
 have HBabc := keep babc
 have HRun := keep (hrun xc _ babc hgv)
 have HBx : Hid (Below w.heap.size w xc) := HB1.out.trans (babc.mono HB1.out.size)
 have HXa := keep hxa
 have HXb := keep hxb
 have HXc := keep hxc
 clear hrun hgv babc bbc ba bb bc ka kb kc hxa hxb hxc
 go_wp2_with (first | rw [HXa.out] | rw [HXb.out] | rw [HXc.out])
 refine HRun.out.mono ?_
 rintro r w11 ⟨AO2,ab2,rfl,hb11,_⟩
 have HB11 := keep (HBx.out.trans (hb11.mono HBx.out.size))
 obtain ⟨w12,hw12⟩ : ∃ y,w11.alloc (.cells #[.int .i64 0,.bool true,.slice (some ⟨AO2,0,none⟩) 1 1] 38) = y := ⟨_,rfl⟩
 have b12 : Below w11.heap.size w11 w12 := by rw [← hw12]; exact (Below.refl _ _).alloc (Nat.le_refl _) _
 have k12 : Bk w12 w11.heap.size [.int .i64 0,.bool true,.slice (some ⟨AO2,0,none⟩) 1 1] 38 := by rw [← hw12]; exact Bk.new _ _ _
 have b6c : Below w6.heap.size w6 xc := HB67.out.trans (HBabc.out.mono HB67.out.size)
 have b611 := b6c.trans (hb11.mono b6c.size)
 have b612 := b611.trans (b12.mono b611.size)
 have k6 := HK6.out.fs (Fs.of_below (l:=[]) b612) (by simp)
 have b512 := HB6.out.trans (b612.mono HB6.out.size)
 have cA := keep_cell b512 HAr.out.1
 have kA := HAr.out.2.fs (Fs.of_below (l:=[]) b512) (by simp)
 have e0 := k6.cell 0 rfl
 have e1 := k6.cell 1 rfl
 have e2 := k6.cell 2 rfl
 have c25 := kA.cell 1 rfl
 have t1 := k12.cell 1 rfl
 have HB12 : Hid (Below w.heap.size w w12) := HB11.out.trans (b12.mono HB11.out.size)
 have HFt := keep (fits_any 0 [] [] (.slice none 0 0) (.slice none 0 0) (.slice none 0 0) [] [] (.agg #[.slice none 0 0,.slice none 0 0]) w12 (Nat.zero_le _) ⟨none,0,0,rfl,rfl,Nat.le_refl _,by omega,fun j x hj => by cases hj⟩ ⟨none,0,0,rfl,rfl,Nat.le_refl _,by omega,fun j x hj => by cases hj⟩ ⟨_,_,_,rfl⟩ ⟨_,_,rfl,⟨none,0,0,rfl,rfl,Nat.le_refl _,by omega,fun j x hj => by cases hj⟩,⟨none,0,0,rfl,rfl,Nat.le_refl _,by omega,fun j x hj => by cases hj⟩⟩ (fun _ => by decide))
 have HW12 := keep hw12
 clear hb11 hw12 b12 k12 b6c b611 b612 k6 b512 kA HRun H2 HXa HXb HXc
 go_wp2_with (first | rw [HW12.out])
 refine HFt.out.mono ?_
 rintro r w13 ⟨c,rfl,hc,hb13⟩
 have hc0 : c = 0 := hc.same (.ok ⟨rfl,rfl,fun i v a hv => by cases hv⟩ ⟨fun x hx => (by cases hx),fun a ha => (by cases ha)⟩)
 subst hc0
 have HB13 := keep (HB12.out.trans (hb13.mono HB12.out.size))
 obtain ⟨ya,hya⟩ : ∃ y,w13.alloc (.cells #[.int .i64 1] 3) = y := ⟨_,rfl⟩
 obtain ⟨yb,hyb⟩ : ∃ y,ya.alloc (.cells #[.slice (some ⟨w13.heap.size,0,none⟩) 1 1] 22) = y := ⟨_,rfl⟩
 have ba : Below w13.heap.size w13 ya := by rw [← hya]; exact (Below.refl _ _).alloc (Nat.le_refl _) _
 have bb : Below ya.heap.size ya yb := by rw [← hyb]; exact (Below.refl _ _).alloc (Nat.le_refl _) _
 have ka : Bk ya w13.heap.size (([1] : List Int).map (Value.int .i64)) 3 := by rw [← hya]; exact Bk.new _ _ _
 have kb : Bk yb ya.heap.size [.slice (some ⟨w13.heap.size,0,none⟩) 1 1] 22 := by rw [← hyb]; exact Bk.new _ _ _
 have bab := ba.trans (bb.mono ba.size)
 have HByb := keep (HB13.out.trans (bab.mono HB13.out.size))
 have HAs := keep (arrays_any yb.heap.size [[1]] _ yb (Nat.le_refl _) (arrs_new kb (ints_new (ka.fs (Fs.of_below (l:=[]) bb) (by simp)) rfl (by decide))))
 have HYa := keep hya
 have HYb := keep hyb
 clear hc hb13 HFt hya hyb ba bb ka kb bab e0 e1 e2 c25 t1 cA HW12
 go_wp2_with (first | rw [HYa.out] | rw [HYb.out])
 refine HAs.out.mono ?_
 rintro r w15 ⟨ps,rfl,_,hI⟩
 have HB15 := keep (HByb.out.trans (hI.lo.mono HByb.out.size))
 clear hI HAs
 go_wp2
 go_ret
 exact ⟨rfl,HB15.out⟩
end Go.Proofs.YtemdnmfldihalaaGreatDoor.Lr
namespace Go.Proofs.YtemdnmfldihalaaGreatDoor.Lr
set_option maxHeartbeats 32000000
set_option maxRecDepth 100000
set_option linter.unusedVariables false
set_option linter.unusedSimpArgs false
open Go.ChangeShapes Go.WideShapes Go.ChangeAt Go.RowKit Lg
theorem add_flat {a : Addr} (h : a.spot = none) (k : Nat) : a.add k = ⟨a.block,a.off + k,none⟩ := by
 obtain ⟨b,o,s⟩ := a
 dsimp only at h
 subst h
 by_cases hk : k = 0
 ·subst hk; simp [Addr.add]
 ·simp [Addr.add,hk]
theorem addr_eta {a : Addr} (h : a.spot = none) : a = ⟨a.block,a.off,none⟩ := by
 obtain ⟨b,o,s⟩ := a
 dsimp only at h
 subst h; rfl
theorem bytes_int : Tryz.prog.bytesOf 3 = 8 := by kernel_rfl
theorem bytes_ints : Tryz.prog.bytesOf 22 = 24 := by kernel_rfl
theorem cells_int : Tryz.prog.cellsOf 3 = 1 := by kernel_rfl
theorem cells_ints : Tryz.prog.cellsOf 22 = 1 := by kernel_rfl
theorem ints_cells {W : World} {p : Option Addr} {len cap : Nat} {zs : List Int} (hlen : len ≤ zs.length) (hc : len ≤ cap) (hb : len ≤ 17592186044416) (hcell : ∀ a,p = some a → ∀ i,i < len → W.cell? (a.add i) = some (.int .i64 (zs.getD i 0))) (hn : p = none → len = 0) : IntsIs W W.heap.size (zs.take len) (.slice p len cap) := by
 refine ⟨p,len,cap,rfl,by rw [List.length_take]; omega,hc,hb,fun j x hj => ?_⟩
 have hjl : j < len := by
  have := (List.getElem?_eq_some_iff.1 hj).1
  rw [List.length_take] at this
  omega
 rw [List.getElem?_take_of_lt hjl] at hj
 cases p with
 | none => have := hn rfl; omega
 | some a =>
  have h0 := hcell a rfl 0 (by omega)
  have hs : a.spot = none := by
   have := World.cell?_spot h0
   rw [Addr.add,if_pos rfl] at this
   exact this
  have h1 := hcell a rfl j hjl
  rw [add_flat hs] at h1
  refine ⟨a.block,a.off,by rw [← addr_eta hs],?_,?_⟩
  ·have := lt_of_cell h1
   exact this
  ·rw [h1,List.getD_eq_getElem?_getD,hj]; rfl
variable {H : Type} {enc : TypeId × Value → H}
theorem open_words {W : World} {fuel : Nat} {v : Value} {y : DataW H × List MemPlace} (h : DataW.trod enc Tryz.prog W 0 (fun _ => true) true fuel 22 [v] = some y) (hw : ∀ n ∈ y.1.weights Tryz.prog 22,n ≤ reachBytes) : ∃ l,IntsIs W W.heap.size l v := by
 have hr := reachBytes_lt
 rcases open_ints Tryz.underlying22 Tryz.underlying3 cells_int h with ⟨hcs,_⟩ | ⟨a,len,cap,zs,hcs,_,hl,hm,hz,hy,hcell,_⟩
 ·injection hcs with hcs
  subst hcs
  exact ⟨[],none,0,0,rfl,rfl,Nat.le_refl _,by omega,fun j x hj => by cases hj⟩
 ·injection hcs with hcs
  subst hcs
  subst hy
  rw [if_pos rfl] at hz
  have hb := hw ((lits (H:=H) .i64 (zs.take len)).length * 8 + (lits (H:=H) .i64 (zs.drop len)).length * 8) (by
   simp only [DataW.weights,Tryz.underlying22,bytes_int]
   rw [← Nat.add_mul]
   simp)
  refine ⟨zs.take len,ints_cells (by omega) hl ?_ (fun a' ha i hi => ?_) (fun e => by cases e)⟩
  ·simp [lits] at hb
   omega
  ·cases ha
   exact hcell i (by omega)
theorem open_arrs {W : World} {fuel : Nat} {v : Value} {y : DataW H × List MemPlace} (h : DataW.trod enc Tryz.prog W 0 (fun _ => true) true fuel 23 [v] = some y) (hw : ∀ n ∈ y.1.weights Tryz.prog 23,n ≤ reachBytes) : ∃ ll,ArrsIs W W.heap.size ll v := by
 have hr := reachBytes_lt
 rcases Deep.open_int_rows Tryz.underlying23 Tryz.underlying22 Tryz.underlying3 cells_ints cells_int h with ⟨hcs,_⟩ | ⟨a,len,cap,A,L,C,Z,hcs,_,hl,hm,hy,hrow⟩
 ·injection hcs with hcs
  subst hcs
  exact ⟨[],none,0,0,rfl,rfl,Nat.le_refl _,by omega,fun j x hj => by cases hj⟩
 ·injection hcs with hcs
  subst hcs
  subst hy
  have hb : len * 24 ≤ reachBytes := by
   have := hw (((List.range len).length + (List.range (cap - len)).length) * 24) (by
    simp only [DataW.weights,Tryz.underlying23,bytes_ints]
    simp)
   simp at this
   have : len * 24 ≤ (len + (cap - len)) * 24 := Nat.mul_le_mul_right _ (by omega)
   omega
  have hbr : ∀ r,r < len → L r ≤ 17592186044416 := fun r hr' => by
   obtain ⟨_,q1,q2,q3,_,q5,_⟩ := hrow r (by omega)
   cases hA : A r with
   | none => have := q5 hA; omega
   | some a' =>
    have hmem : (C r) * 8 ∈ (DataW.slice ((List.range len).map fun r => Deep.intRow (H:=H) .i64 (A r) (L r) (Z r)) ((List.range (cap - len)).map fun j => Deep.intRow .i64 (A (len + j)) (L (len + j)) (Z (len + j)))).weights Tryz.prog 23 := by
     simp only [DataW.weights,Tryz.underlying23]
     refine List.mem_cons_of_mem _ (List.mem_append.2 (.inl ?_))
     have hg : ∀ (l : List (DataW H)) (d : DataW H),d ∈ l → ∀ n ∈ d.weights Tryz.prog 22,n ∈ DataW.weightsAll Tryz.prog 22 l := by
      intro l
      induction l with
      | nil => intro d hd; cases hd
      | cons x l ih =>
       intro d hd n hn
       simp only [DataW.weightsAll,List.mem_append]
       rcases List.mem_cons.1 hd with rfl | hd
       ·exact .inl hn
       ·exact .inr (ih d hd n hn)
     refine hg _ (Deep.intRow .i64 (A r) (L r) (Z r)) (List.mem_map.2 ⟨r,List.mem_range.2 hr',rfl⟩) _ ?_
     unfold Deep.intRow
     rw [hA]
     simp only [DataW.weights,Tryz.underlying22,bytes_int]
     have : C r * 8 = ((lits (H:=H) .i64 ((Z r).take (L r))).length + (lits (H:=H) .i64 ((Z r).drop (L r))).length) * 8 := by
      simp [lits]
      omega
     rw [this]
     simp
    have := hw _ hmem
    omega
  refine ⟨(List.range len).map fun r => (Z r).take (L r),some a,len,cap,rfl,by simp,hl,by omega,fun j l hj => ?_⟩
  rw [List.getElem?_map,Option.map_eq_some_iff] at hj
  obtain ⟨r,hr1,rfl⟩ := hj
  have hjl : j < len := by have := (List.getElem?_eq_some_iff.1 hr1).1; simpa using this
  have hrj : r = j := by
   rw [List.getElem?_range hjl] at hr1
   exact (Option.some.inj hr1).symm
  subst hrj
  obtain ⟨q0,q1,q2,q3,_,q5,q6⟩ := hrow r (by omega)
  have h0 := (hrow 0 (by omega)).1
  have hs : a.spot = none := by
   have := World.cell?_spot h0
   rw [Addr.add,if_pos rfl] at this
   exact this
  rw [add_flat hs] at q0
  refine ⟨a.block,a.off,.slice (A r) (L r) (C r),by rw [← addr_eta hs],lt_of_cell q0,q0,ints_cells (by omega) q1 (hbr r hjl) (fun a' ha i hi => (q6 a' ha).2 i (by omega)) (fun e => by have := q5 e; omega)⟩
theorem open_given {W : World} {base : Nat} {v : Value} {d : DataW H} {p : List MemPlace} (hval : Value.okWide Tryz.prog W .any base 25 v) (h : DataW.Trod enc Tryz.prog W 0 (fun _ => true) true 25 v d p) (hw : ∀ n ∈ d.weights Tryz.prog 25,n ≤ reachBytes) : ∃ ws aa,GvIs W W.heap.size ws aa v := by
 obtain ⟨v0,v1,y0,y1,n,rfl,rfl,rfl,h0,h1⟩ := Joins.open_agg2 Tryz.underlying25 (by kernel_rfl) (by kernel_rfl) hval h
 obtain ⟨ws,hws⟩ := open_words h0 (fun n hn => hw n (by
  simp only [DataW.weights,Tryz.underlying25]
  show n ∈ DataW.weightsEach Tryz.prog [22,23] [y0.1,y1.1]
  simp only [DataW.weightsEach,List.mem_append]
  exact .inl hn))
 obtain ⟨aa,haa⟩ := open_arrs h1 (fun n hn => hw n (by
  simp only [DataW.weights,Tryz.underlying25]
  show n ∈ DataW.weightsEach Tryz.prog [22,23] [y0.1,y1.1]
  simp only [DataW.weightsEach,List.mem_append]
  exact .inr (.inl hn)))
 exact ⟨ws,aa,v0,v1,rfl,hws,haa⟩
end Go.Proofs.YtemdnmfldihalaaGreatDoor.Lr
namespace Go.Proofs.YtemdnmfldihalaaGreatDoor.Lr
set_option linter.unusedVariables false
set_option linter.unusedSimpArgs false
open Go.ChangeShapes Go.WideShapes Go.ChangeAt Go.RowKit Lg Rf
theorem VrIs.mono {w : World} {B B' : Nat} {l : List Vr} {v : Value} (h : VrIs w B l v) (hB : B ≤ B') : VrIs w B' l v := by
 obtain ⟨p,n,c,h1,h2,h3,h4,h5⟩ := h
 refine ⟨p,n,c,h1,h2,h3,h4,fun j x hj => ?_⟩
 obtain ⟨g,o,k1,k2,k3⟩ := h5 j x hj
 exact ⟨g,o,k1,by omega,k3⟩
theorem ArrsIs.mono {w : World} {B B' : Nat} {l : List (List Int)} {v : Value} (h : ArrsIs w B l v) (hB : B ≤ B') : ArrsIs w B' l v := by
 obtain ⟨p,n,c,h1,h2,h3,h4,h5⟩ := h
 refine ⟨p,n,c,h1,h2,h3,h4,fun j x hj => ?_⟩
 obtain ⟨g,o,s,k1,k2,k3,k4⟩ := h5 j x hj
 exact ⟨g,o,s,k1,by omega,k3,k4.mono hB⟩
theorem fn_parts {w : World} {B : Nat} {f : Lg.Fn} {a b c : Value} (h : FnIs w B 10 11 f (.agg #[a,b,c])) : VrIs w B f.params a ∧ VrIs w B f.arrays b ∧ StIs w B 10 11 f.body c := by
 obtain ⟨t1,t2,t3,e0,f1,f2,f3⟩ := h
 have ee : #[a,b,c] = #[t1,t2,t3] := by injection e0
 have e1 : a = t1 := by injection ee with ee; injection ee
 have e2 : b = t2 := by injection ee with ee; injection ee with _ ee; injection ee
 have e3 : c = t3 := by injection ee with ee; injection ee with _ ee; injection ee with _ ee; injection ee
 subst e1 e2 e3
 exact ⟨f1,f2,f3⟩
end Go.Proofs.YtemdnmfldihalaaGreatDoor.Lr
