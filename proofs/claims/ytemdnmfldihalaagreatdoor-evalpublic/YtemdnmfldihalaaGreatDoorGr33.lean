/- Laid together: LdShort, LdBlk, LdKind, LdSs. -/
import Derived.Test.YtemdnmfldihalaaGreatDoorGr1
import Derived.Test.YtemdnmfldihalaaGreatDoorLdBlock
import Derived.Maps.Own
import Derived.Maps.OwnOps
import Derived.Maps.Keyed
import Derived.Maps.Views
import Derived.StringKeys
import Derived.WalkSmall
namespace Go.Proofs.YtemdnmfldihalaaGreatDoor.Lg
set_option linter.unusedVariables false
def Sh {α : Type} (l : List (List UInt8)) (x : Res α) : Prop := ∀ a r,x = .ok (a,r) → r.length ≤ l.length
theorem sh_and {α β : Type} {l : List (List UInt8)} {x : Res α} {f : α → List (List UInt8) → Res β} (h : Sh l x) (h2 : ∀ a r,Sh r (f a r)) : Sh l (andT x f) := by
 intro b q hb
 obtain ⟨a,r,h3,h4⟩ := andT_inv hb
 exact Nat.le_trans (h2 a r b q h4) (h a r h3)
theorem sh_ok {α : Type} (a : α) (l : List (List UInt8)) : Sh l (.ok (a,l) : Res α) := fun _ _ h => by cases h; exact Nat.le_refl _
theorem sh_err {α : Type} (k : Int) (l : List (List UInt8)) : Sh l (.error k : Res α) := fun _ _ h => by cases h
theorem sh_if {α : Type} {l : List (List UInt8)} {p : Prop} [Decidable p] {a b : Res α} (ha : Sh l a) (hb : Sh l b) : Sh l (if p then a else b) := by
 by_cases h : p
 ·rw [if_pos h]; exact ha
 ·rw [if_neg h]; exact hb
theorem sh_next (l : List (List UInt8)) : Sh l (next l) := fun w r h => by
 rw [next_sound h]; simp
theorem sh_want (x : List UInt8) (l : List (List UInt8)) : Sh l (want x l) := sh_and (sh_next l) fun _ _ => sh_if (sh_ok _ _) (sh_err _ _)
theorem sh_name (l : List (List UInt8)) : Sh l (nameT l) := sh_and (sh_next l) fun _ _ => sh_if (sh_ok _ _) (sh_err _ _)
theorem sh_num (lo hi : Int) (l : List (List UInt8)) : Sh l (numT lo hi l) := sh_and (sh_next l) fun _ _ => sh_if (sh_if (sh_err _ _) (sh_ok _ _)) (sh_err _ _)
theorem sh_lab (l : List (List UInt8)) : Sh l (labT l) := sh_and (sh_next l) fun _ _ => sh_if (sh_ok _ _) (sh_if (sh_ok _ _) (sh_err _ _))
theorem sh_expr (m : Nat) (l : List (List UInt8)) : Sh l (exprT m l) := fun e r h => by
 rw [exprT_sound m l e r h]; simp
theorem sh_upto {α : Type} {f : List (List UInt8) → Res α} (h : ∀ l,Sh l (f l)) : ∀ (n : Nat) (l : List (List UInt8)),Sh l (uptoT f n l)
 | 0,l => sh_err _ _
 | n + 1,l => by
  unfold uptoT
  refine sh_if ?_ (sh_and (h l) fun _ r => sh_and (sh_upto h n r) fun _ _ => sh_ok _ _)
  intro a r hr
  cases hr
  simp
theorem sh_stmt : ∀ (m : Nat) (l : List (List UInt8)),Sh l (stmtT m l)
 | 0,l => sh_err _ _
 | m + 1,l => by
  unfold stmtT
  repeat (first | exact sh_ok _ _ | exact sh_err _ _ | refine sh_if ?_ ?_ | refine sh_and (sh_next _) fun _ _ => ?_ | refine sh_and (sh_want _ _) fun _ _ => ?_ | refine sh_and (sh_lab _) fun _ _ => ?_ | refine sh_and (sh_name _) fun _ _ => ?_ | refine sh_and (sh_num _ _ _) fun _ _ => ?_ | refine sh_and (sh_expr _ _) fun _ _ => ?_ | refine sh_and (sh_upto (sh_stmt m) _ _) fun _ _ => ?_)
theorem lt_want {α : Type} {x : List UInt8} {l : List (List UInt8)} {f : Unit → List (List UInt8) → Res α} (h : ∀ r,Sh r (f () r)) {a : α} {q : List (List UInt8)} (hq : andT (want x l) f = .ok (a,q)) : q.length < l.length := by
 obtain ⟨u,r,h1,h2⟩ := andT_inv hq
 have := h r a q h2
 rw [want_sound h1,List.length_cons]
 omega
theorem stmt_less (m : Nat) (l : List (List UInt8)) (t : St) (r : List (List UInt8)) (h : stmtT m l = .ok (t,r)) : r.length < l.length := by
 cases m with
 | zero => cases h
 | succ m =>
  unfold stmtT at h
  refine lt_want (fun r => ?_) h
  repeat (first | exact sh_ok _ _ | exact sh_err _ _ | refine sh_if ?_ ?_ | refine sh_and (sh_next _) fun _ _ => ?_ | refine sh_and (sh_want _ _) fun _ _ => ?_ | refine sh_and (sh_lab _) fun _ _ => ?_ | refine sh_and (sh_name _) fun _ _ => ?_ | refine sh_and (sh_num _ _ _) fun _ _ => ?_ | refine sh_and (sh_expr _ _) fun _ _ => ?_ | refine sh_and (sh_upto (sh_stmt m) _ _) fun _ _ => ?_)
theorem var_less (l : List (List UInt8)) (t : Vr) (r : List (List UInt8)) (h : varT l = .ok (t,r)) : r.length < l.length := by
 unfold varT at h
 refine lt_want (fun r => ?_) h
 repeat (first | exact sh_ok _ _ | refine sh_and (sh_want _ _) fun _ _ => ?_ | refine sh_and (sh_lab _) fun _ _ => ?_ | refine sh_and (sh_name _) fun _ _ => ?_)
theorem arr_less (l : List (List UInt8)) (t : Vr) (r : List (List UInt8)) (h : arrT l = .ok (t,r)) : r.length < l.length := by
 unfold arrT at h
 refine lt_want (fun r => ?_) h
 repeat (first | exact sh_ok _ _ | refine sh_and (sh_want _ _) fun _ _ => ?_ | refine sh_and (sh_lab _) fun _ _ => ?_ | refine sh_and (sh_name _) fun _ _ => ?_ | refine sh_and (sh_num _ _ _) fun _ _ => ?_)
theorem sum_len : ∀ l : List (List UInt8),l.length ≤ (l.map fun t => t.length + 1).sum
 | [] => by simp
 | a :: r => by have := sum_len r; simp only [List.map_cons,List.sum_cons,List.length_cons]; omega
theorem words_len (l : List UInt8) : (words l).length ≤ 2 * l.length := Nat.le_trans (sum_len _) (words_sum l)
end Go.Proofs.YtemdnmfldihalaaGreatDoor.Lg
namespace Go.Proofs.YtemdnmfldihalaaGreatDoor.Lr
set_option maxHeartbeats 32000000
set_option maxRecDepth 100000
set_option linter.unusedVariables false
open Go.ChangeShapes Go.WideShapes Go.ChangeAt Go.RowKit Lg Rf
def blockW (w : World) (b : Nat) (a : Int) : World := ((w.alloc (.cells #[.pointer (some ⟨b,0,none⟩)] 49)).alloc (.cells #[.int .i64 a] 3)).alloc (.cells #[.slice none 0 0] 27)
theorem blockW_bs (w : World) (b m : Nat) (a : Int) : BS w (blockW w b a) b a m (.slice none 0 0) [] := by
 unfold blockW
 have e1 : ∀ (v : World) (o : Obj),(v.alloc o).heap.size = v.heap.size + 1 := fun v o => by simp
 refine ⟨((Bk.new w [.pointer (some ⟨b,0,none⟩)] 49).up _).up _,?_,?_,RowX.nil _ _⟩
 ·have h := (Bk.new (w.alloc (.cells #[.pointer (some ⟨b,0,none⟩)] 49)) [.int .i64 a] 3).up (.cells #[.slice none 0 0] 27)
  rw [e1] at h; exact h
 ·have h := Bk.new ((w.alloc (.cells #[.pointer (some ⟨b,0,none⟩)] 49)).alloc (.cells #[.int .i64 a] 3)) [.slice none 0 0] 27
  rw [e1,e1] at h; exact h
theorem size_words (s : ByteArray) (h : s.size ≤ 1200) : (words s.data.toList).length ≤ 2400 := by
 have := words_len s.data.toList
 rw [← Lib.size_eq] at this
 omega
theorem stmts_rd (m : Nat) (ih : StmtOK m) (b : Nat) (s : ByteArray) (e : Int) (w : World) (hs : s.size ≤ 1200) (h : PB w b s e) (ht : Tabs w) (hg : GL b) :
  Calls Tryz.prog 25 #[.pointer (some ⟨b,0,none⟩),.int .i64 (9 - (m : Int))] w fun r w' => ∃ (us : List St) (sl : Value),r = .returned sl ∧ StX w' (New w w') (m + 2) us sl ∧ Rd w' b s.size e (uptoT (stmtT m) ((words s.data.toList).length + 1) (words s.data.toList)) (fun a => a = us) ∧ Fs [b] w w' := by
 have hbl := h.lt
 have HFW : Hid (Fs [b] w (blockW w b (9 - (m : Int)))) := (((Fs.refl _ w).up _).up _).up _
 have HL := keep (all_rd b w.heap.size 39 #[.pointer (some ⟨w.heap.size + 1 + 1,0,none⟩),.pointer (some ⟨w.heap.size,0,none⟩),.pointer (some ⟨w.heap.size + 1,0,none⟩)] (stmtT m)
  (fun W us => (∃ v es,BS w W b (9 - (m : Int)) (m + 1) v es ∧ es.map (fun x : St × Value × Value × Value => x.1) = us) ∧ Fh w.heap.size [b] w W) 2400 1200 (enters_of Tryz.func39 (by kernel_rfl) rfl)
  (fun W W' us hI hf => by
   obtain ⟨⟨v,es,h1,h2⟩,h3⟩ := hI
   exact ⟨⟨v,es,h1.step hbl hf,h2⟩,h3.trans (hf.fh h3.size)⟩)
  (stmt_less m)
  (fun W s us hp hn hu hI hB => by
   obtain ⟨⟨v,es,h1,rfl⟩,h3⟩ := hI
   rw [List.length_map] at hu
   refine (stmts1_rd m ih b w W hbl v es s hn hu hp h1 (tabs_fs ht hg h3.fs hbl) hg).mono ?_
   rintro r w' ⟨hr,p,v',k1,k2,k3⟩
   exact ⟨hr,p.1,⟨⟨v',es ++ [p],k1,by rw [List.map_append]; rfl⟩,h3.trans k3⟩,k2,k3⟩)
  s hs (by decide) (size_words s hs) e (blockW w b (9 - (m : Int))) (((h.up _).up _).up _) ⟨⟨_,[],blockW_bs w b (m + 1) _,rfl⟩,HFW.out.fh (Nat.le_refl _)⟩ HFW.out.size)
 have r0 := (blockW_bs w b (m + 1) (9 - (m : Int))).R.cell 0 rfl
 generalize 9 - (m : Int) = a9 at *
 clear h ht hg ih
 go_enter Tryz.func25,Tryz.ntmps25
 go_wp2_with fail
 change Calls _ _ _ (blockW w b a9) _
 refine HL.out.mono ?_
 rintro r w1 ⟨rfl,us,hul,⟨⟨v,es,hB,hus⟩,hfw⟩,hrd,hf⟩
 obtain ⟨p,n,cap,rfl⟩ := hB.row.slice
 have HB := keep hB
 have HU := keep hus
 have HR := keep hrd
 have HF := keep hfw
 have hel : es.length ≤ 2401 := by rw [← hus,List.length_map] at hul; exact hul
 have l0 := hB.L.cell 0 rfl
 clear hB hus hrd hf HL r0 hfw hul
 go_wp2
 go_ret
 refine ⟨us,.slice p n cap,rfl,?_,HR.out,HF.out.fs⟩
 rw [← HU.out]
 exact StX.mono (fun i hi => ⟨by have := hi.1; omega,hi.2⟩) (RowX.stmts HB.out.row (by omega))
end Go.Proofs.YtemdnmfldihalaaGreatDoor.Lr
namespace Go.Proofs.YtemdnmfldihalaaGreatDoor.Lr
set_option maxHeartbeats 32000000
set_option maxRecDepth 100000
set_option linter.unusedVariables false
set_option linter.unusedSimpArgs false
open Go.ChangeShapes Go.WideShapes Go.ChangeAt Go.RowKit Go.Maps Go.WideMaps Lg Rf
theorem zero_int (w : World) : (zeroValue 3).run Tryz.prog w = .ok (.int .i64 0) w := by kernel_rfl
def kindD : DataW Unit := (((((((DataW.map []) |>.put (.string [108,101,116]) (.lit (.int .i64 1))) |>.put (.string [115,101,116]) (.lit (.int .i64 2))) |>.put (.string [112,117,116]) (.lit (.int .i64 3))) |>.put (.string [105,102]) (.lit (.int .i64 4))) |>.put (.string [102,111,114]) (.lit (.int .i64 5))) |>.put (.string [114,101,116]) (.lit (.int .i64 6)))
theorem str_ne {a b : List UInt8} (h : ¬ a = b) : (Lit.string a) ≠ (.string b) := fun e => h (by injection e)
theorem kind_at (W : List UInt8) : kindD.atKey (.string W) (.lit (.int .i64 0)) = .lit (.int .i64 (kindOf W)) := by
 unfold kindD kindOf
 by_cases h6 : W = [114,101,116]
 ·subst h6; rfl
 ·rw [Maps.atKey_put_other (str_ne h6)]
  by_cases h5 : W = [102,111,114]
  ·subst h5; rfl
  ·rw [Maps.atKey_put_other (str_ne h5)]
   by_cases h4 : W = [105,102]
   ·subst h4; rfl
   ·rw [Maps.atKey_put_other (str_ne h4)]
    by_cases h3 : W = [112,117,116]
    ·subst h3; rfl
    ·rw [Maps.atKey_put_other (str_ne h3)]
     by_cases h2 : W = [115,101,116]
     ·subst h2; rfl
     ·rw [Maps.atKey_put_other (str_ne h2)]
      by_cases h1 : W = [108,101,116]
      ·subst h1; rfl
      ·rw [Maps.atKey_put_other (str_ne h1)]
       rw [if_neg h1,if_neg h2,if_neg h3,if_neg h4,if_neg h5,if_neg h6]
       rfl
theorem kinds_map (W : World) (b : Nat) (hb : W.heap.size = b) : ∃ W1 W2 W3 W4 W5 W6,
  (Instr.mapUpdate 81 (.map (some b)) (.string ⟨#[108,101,116]⟩) (.int .i64 1)).run Tryz.prog (W.alloc (.map #[] 0)) = .ok () W1 ∧
  (Instr.mapUpdate 81 (.map (some b)) (.string ⟨#[115,101,116]⟩) (.int .i64 2)).run Tryz.prog W1 = .ok () W2 ∧
  (Instr.mapUpdate 81 (.map (some b)) (.string ⟨#[112,117,116]⟩) (.int .i64 3)).run Tryz.prog W2 = .ok () W3 ∧
  (Instr.mapUpdate 81 (.map (some b)) (.string ⟨#[105,102]⟩) (.int .i64 4)).run Tryz.prog W3 = .ok () W4 ∧
  (Instr.mapUpdate 81 (.map (some b)) (.string ⟨#[102,111,114]⟩) (.int .i64 5)).run Tryz.prog W4 = .ok () W5 ∧
  (Instr.mapUpdate 81 (.map (some b)) (.string ⟨#[114,101,116]⟩) (.int .i64 6)).run Tryz.prog W5 = .ok () W6 ∧
  (∀ X : ByteArray,X.size ≤ maxLen → (Instr.lookup 81 (.map (some b)) (.string X) false).run Tryz.prog W6 = .ok (.int .i64 (kindOf X.data.toList)) W6) ∧ Below W.heap.size W W6 := by
 subst hb
 have K := string_keyed Tryz.underlying9
 have h0 := World.ownsMap_made (H:=Unit) W Tryz.prog 9 (plainElem Tryz.prog 3)
 obtain ⟨W1,r1,o1,g1⟩ := h0.update K Tryz.underlying81 (by unfold maxLen; decide) (keyOf_string_mk Tryz.underlying9 (s:=⟨#[108,101,116]⟩) (by unfold maxLen; decide)) (plainElem_int Tryz.underlying3 (a:=1) (by decide))
 obtain ⟨W2,r2,o2,g2⟩ := o1.update K Tryz.underlying81 (by unfold maxLen; decide) (keyOf_string_mk Tryz.underlying9 (s:=⟨#[115,101,116]⟩) (by unfold maxLen; decide)) (plainElem_int Tryz.underlying3 (a:=2) (by decide))
 obtain ⟨W3,r3,o3,g3⟩ := o2.update K Tryz.underlying81 (by unfold maxLen; decide) (keyOf_string_mk Tryz.underlying9 (s:=⟨#[112,117,116]⟩) (by unfold maxLen; decide)) (plainElem_int Tryz.underlying3 (a:=3) (by decide))
 obtain ⟨W4,r4,o4,g4⟩ := o3.update K Tryz.underlying81 (by unfold maxLen; decide) (keyOf_string_mk Tryz.underlying9 (s:=⟨#[105,102]⟩) (by unfold maxLen; decide)) (plainElem_int Tryz.underlying3 (a:=4) (by decide))
 obtain ⟨W5,r5,o5,g5⟩ := o4.update K Tryz.underlying81 (by unfold maxLen; decide) (keyOf_string_mk Tryz.underlying9 (s:=⟨#[102,111,114]⟩) (by unfold maxLen; decide)) (plainElem_int Tryz.underlying3 (a:=5) (by decide))
 obtain ⟨W6,r6,o6,g6⟩ := o5.update K Tryz.underlying81 (by unfold maxLen; decide) (keyOf_string_mk Tryz.underlying9 (s:=⟨#[114,101,116]⟩) (by unfold maxLen; decide)) (plainElem_int Tryz.underlying3 (a:=6) (by decide))
 refine ⟨W1,W2,W3,W4,W5,W6,r1,r2,r3,r4,r5,r6,?_,?_⟩
 ·intro X hX
  obtain ⟨n,hrun,hat,_⟩ := o6.lookup_int K Tryz.underlying81 Tryz.underlying3 (zero_int _) (keyOf_string_mk Tryz.underlying9 hX)
  have e2 : (DataW.lit (.int .i64 (kindOf X.data.toList)) : DataW Unit) = .lit (.int .i64 n) := (kind_at X.data.toList).symm.trans hat
  have e3 : kindOf X.data.toList = n := by
   simp only [DataW.lit.injEq,Lit.int.injEq,true_and] at e2
   exact e2
  rw [hrun,e3]
 ·have hA : Below W.heap.size W (W.alloc (.map #[] 0)) := (Below.refl _ _).alloc (Nat.le_refl _) _
  have q1 := hA.grown g1 (by simp) (fun k hk => by cases hk; exact Nat.le_refl _)
  have q2 := q1.grown g2 (by have := q1.size; omega) (fun k hk => by cases hk; exact Nat.le_refl _)
  have q3 := q2.grown g3 (by have := q2.size; omega) (fun k hk => by cases hk; exact Nat.le_refl _)
  have q4 := q3.grown g4 (by have := q3.size; omega) (fun k hk => by cases hk; exact Nat.le_refl _)
  have q5 := q4.grown g5 (by have := q4.size; omega) (fun k hk => by cases hk; exact Nat.le_refl _)
  have q6 := q5.grown g6 (by have := q5.size; omega) (fun k hk => by cases hk; exact Nat.le_refl _)
  exact q6
def RdS {α : Type} (w : World) (b : Nat) (s' : ByteArray) (e : Int) (res : Res α) (post : α → Prop) : Prop :=
 ∃ e' : Int,PB w b s' e' ∧ (¬ e = 0 → e' = e) ∧ (e = 0 → (∀ x,res = .error x → e' = x ∧ ¬ x = 0) ∧ ∀ a r,res = .ok (a,r) → e' = 0 ∧ words s'.data.toList = r ∧ post a)
theorem is_pack (b : Nat) (s : ByteArray) (hs : s.size ≤ 281474976710656) : ∃ s1 : ByteArray,s1.data.toList = rs s.data.toList ∧ s1.size ≤ s.size ∧ ∀ (x : ByteArray) (e : Int) (w : World),PB w b s e →
  Calls Tryz.prog 18 #[.pointer (some ⟨b,0,none⟩),.string x] w fun r w' => r = .returned (.tuple #[]) ∧ RdS w' b s1 e (want x.data.toList (words s.data.toList)) (fun _ => True) ∧ Fr b w w' := by
 obtain ⟨s1,hs1,hz1,hpk⟩ := w_pack b s hs _ rfl
 refine ⟨s1,hs1,hz1,fun x e w h => ?_⟩
 have HC := keep (hpk e w h)
 clear h hpk
 generalize wd s.data.toList = W at *
 generalize words s.data.toList = Ws at *
 by_cases hq : W = x.data.toList
 ·have dq : (W == x.toList) = true := by rw [Lib.toList_data]; simpa using hq
  have HQ := keep hq
  clear hq
  go_enter Tryz.func18,Tryz.ntmps18
  go_wp2_with fail
  refine HC.out.mono ?_
  rintro r w1 ⟨rfl,⟨e1,hp,h1,h2⟩,hf⟩
  have HP := keep hp
  have HF := keep hf
  have H1 := keep h1
  have H2 := keep h2
  clear hp hf h1 h2
  go_wp2
  go_end0
  refine ⟨rfl,⟨e1,HP.out,H1.out,fun he => ?_⟩,HF.out⟩
  obtain ⟨k1,k2⟩ := H2.out he
  unfold want
  cases hx : next Ws with
  | error y => exact ⟨fun z hz => (by cases hz; exact k1 y hx),fun a r hz => (by cases hz)⟩
  | ok p =>
   obtain ⟨a,r⟩ := p
   obtain ⟨i1,i2,i3⟩ := k2 a r hx
   rw [andT_ok,if_pos (i3.trans HQ.out)]
   exact ⟨fun z hz => (by cases hz),fun a' r' hz => (by cases hz; exact ⟨i1,i2,trivial⟩)⟩
 ·have dq : (W == x.toList) = false := by rw [Lib.toList_data]; simpa using hq
  have HQ := keep hq
  clear hq
  go_enter Tryz.func18,Tryz.ntmps18
  go_wp2_with fail
  refine HC.out.mono ?_
  rintro r w1 ⟨rfl,⟨e1,hp,h1,h2⟩,hf⟩
  have HP := keep hp
  have HF := keep hf
  have H1 := keep h1
  have H2 := keep h2
  clear hp hf h1 h2
  go_wp2_with fail
  refine (bad_any b s1 e1 2 _ HP.out).mono ?_
  rintro r w2 ⟨rfl,hp2,hf2⟩
  have HP2 := keep hp2
  have HF2 := keep (HF.out.trans hf2)
  clear hp2 hf2
  go_wp2
  go_end0
  refine ⟨rfl,⟨first e1 2,HP2.out,fun he => ?_,fun he => ?_⟩,HF2.out⟩
  ·rw [H1.out he,first_ne he]
  ·obtain ⟨k1,k2⟩ := H2.out he
   unfold want
   cases hx : next Ws with
   | error y =>
    refine ⟨fun z hz => ?_,fun a r hz => (by cases hz)⟩
    cases hz
    obtain ⟨i1,i2⟩ := k1 y hx
    rw [i1,first_ne i2]; exact ⟨rfl,i2⟩
   | ok p =>
    obtain ⟨a,r⟩ := p
    obtain ⟨i1,i2,i3⟩ := k2 a r hx
    rw [andT_ok,if_neg (fun h => HQ.out (i3.symm.trans h))]
    exact ⟨fun z hz => (by cases hz; rw [i1,first_zero]; exact ⟨rfl,by decide⟩),fun a' r' hz => (by cases hz)⟩
end Go.Proofs.YtemdnmfldihalaaGreatDoor.Lr
namespace Go.Proofs.YtemdnmfldihalaaGreatDoor.Lr
set_option maxHeartbeats 32000000
set_option maxRecDepth 100000
set_option linter.unusedVariables false
set_option linter.unusedSimpArgs false
open Go.ChangeShapes Go.WideShapes Go.ChangeAt Go.RowKit Lg Rf
structure SS (w W : World) (b S : Nat) (l : List Value) : Prop where
 fs : Fs [b] w W
 D : Bk W w.heap.size [.int .i64 0,.int .i64 0,.string ⟨#[]⟩,.bool false,.slice none 0 0,.slice none 0 0,.slice none 0 0] 89
 S : Bk W S l 89
theorem SS.step {w W W' : World} {b S : Nat} {l : List Value} (h : SS w W b S l) (hb : b < w.heap.size) (hS : w.heap.size < S) (k : Fs [b] W W') : SS w W' b S l :=
 ⟨h.fs.trans k,h.D.fs k (by simp; omega),h.S.fs k (by simp; omega)⟩
theorem SS.set {w W : World} {b S : Nat} {l : List Value} (h : SS w W b S l) (hS : w.heap.size < S) (i : Nat) (v : Value) : SS w (W.setCell ⟨S,i,none⟩ v) b S (l.set i v) :=
 ⟨⟨h.fs.os,h.fs.tape,h.fs.output,by simp [World.setCell]; exact h.fs.size,fun k hk hl => by
   rw [Below.heap_setCell _ _ _ _ (by show k ≠ S; omega)]; exact h.fs.block k hk hl⟩,h.D.far _ _ (by omega),h.S.set i v⟩
theorem SS.grow {w W W' : World} {b S : Nat} {l : List Value} (h : SS w W b S l) (hS : w.heap.size < S) (os : W'.os = W.os) (tape : W'.tape = W.tape) (output : W'.output = W.output) (size : W.heap.size ≤ W'.heap.size) (k : ∀ i,i ≤ S → W'.heap[i]? = W.heap[i]?) : SS w W' b S l :=
 ⟨⟨os.trans h.fs.os,tape.trans h.fs.tape,output.trans h.fs.output,Nat.le_trans h.fs.size size,fun i hi hl => (k i (by omega)).trans (h.fs.block i hi hl)⟩,
  by have := h.D; unfold Bk at this ⊢; rw [k _ (by omega)]; exact this,by have := h.S; unfold Bk at this ⊢; rw [k _ (Nat.le_refl _)]; exact this⟩
def stmtW (w : World) : World := w.alloc (.cells #[.int .i64 0,.int .i64 0,.string ⟨#[]⟩,.bool false,.slice none 0 0,.slice none 0 0,.slice none 0 0] 89)
theorem many_one_eq {α : Type} (g : List (List UInt8) → Res Ex) (l : List (List UInt8)) (k : List Ex → List (List UInt8) → Res α) : andT (manyT g 1 l) k = andT (g l) fun a l => k [a] l := by
 rw [manyT]
 cases g l with
 | error e => rfl
 | ok p => rfl
theorem many_two_eq {α : Type} (g : List (List UInt8) → Res Ex) (l : List (List UInt8)) (k : List Ex → List (List UInt8) → Res α) : andT (manyT g 2 l) k = andT (g l) fun a l => andT (g l) fun b l => k [a,b] l := by
 rw [manyT]
 cases g l with
 | error e => rfl
 | ok p =>
  obtain ⟨a,r⟩ := p
  show andT (andT (manyT g 1 r) _) k = andT (g r) _
  rw [manyT]
  cases g r with
  | error e => rfl
  | ok p => rfl
theorem StX.stay {w w' : World} {X : Nat → Prop} {m : Nat} {l : List St} {sl : Value} (h : StX w X m l sl) (hb : ∀ i,X i → w'.heap[i]? = w.heap[i]?) : StX w' X m l sl := StX.keep hb h
theorem rd_eq {α : Type} {w : World} {b n : Nat} {e : Int} {res res' : Res α} {post : α → Prop} (h : res = res') (k : Rd w b n e res post) : Rd w b n e res' post := h ▸ k
theorem nestS_zero (m : Nat) (w : World) (X : Nat → Prop) : nestS (m + 1) w X (⟨0,0,[],false,[],[],[]⟩,.slice none 0 0,.slice none 0 0,.slice none 0 0) := ⟨.inl ⟨rfl,rfl⟩,StX.none m,StX.none m⟩
theorem stmt_zero : StmtOK 0 := by
 intro b s e w hs h ht hg
 have hbl := h.lt
 have HC := keep (bad_any b s e 9 (stmtW w) (h.up _))
 have HD0 : Hid (Bk (stmtW w) w.heap.size [.int .i64 0,.int .i64 0,.string ⟨#[]⟩,.bool false,.slice none 0 0,.slice none 0 0,.slice none 0 0] 89) := Bk.new w [.int .i64 0,.int .i64 0,.string ⟨#[]⟩,.bool false,.slice none 0 0,.slice none 0 0,.slice none 0 0] 89
 have HF0 : Hid (Fs [b] w (stmtW w)) := (Fs.refl _ w).up _
 clear h ht hg
 show Calls _ _ #[_,.int .i64 9] _ _
 go_enter Tryz.func40,Tryz.ntmps40
 go_wp2_with fail
 change Calls _ _ _ (stmtW w) _
 refine HC.out.mono ?_
 rintro r w1 ⟨rfl,hp,hf⟩
 have HD1 := keep (HD0.out.fs hf.fs (by simp; omega))
 have HF1 := keep (HF0.out.trans hf.fs)
 have HP1 := keep hp
 clear hp hf HC HD0 HF0
 go_wp2_with (first
  | refine wpList_store_row rfl 89 (.tmp 4) (.tmp 11) rfl w.heap.size #[.int .i64 0,.int .i64 0,.string ⟨#[]⟩,.bool false,.slice none 0 0,.slice none 0 0,.slice none 0 0] rfl rfl 89 #[.int .i64 0,.int .i64 0,.string ⟨#[]⟩,.bool false,.slice none 0 0,.slice none 0 0,.slice none 0 0] HD1.out (info_S [.int .i64 0,.int .i64 0,.string ⟨#[]⟩,.bool false,.slice none 0 0,.slice none 0 0,.slice none 0 0] rfl) rfl (by simp [Value.oneCell']) ?_)
 (try simp only [Exit.inBlock,Exit.then])
 refine bodyPost_ret (results_cell_row rfl _ _ w.heap.size _ #[.int .i64 0,.int .i64 0,.string ⟨#[]⟩,.bool false,.slice none 0 0,.slice none 0 0,.slice none 0 0] (0,0) _ rfl (setRow_heap _ _ _ _ _ _ HD1.out) Tryz.underlying89 rfl (info_S [.int .i64 0,.int .i64 0,.string ⟨#[]⟩,.bool false,.slice none 0 0,.slice none 0 0,.slice none 0 0] rfl)) rfl ?_
 refine ⟨(⟨0,0,[],false,[],[],[]⟩,.slice none 0 0,.slice none 0 0,.slice none 0 0),rfl,nestS_zero 0 _ _,?_,HF1.out.row (Nat.le_refl _) _⟩
 exact rd_bad (HP1.out.row (D:=w.heap.size) (by omega) _) (Nat.le_refl _) (by decide)
end Go.Proofs.YtemdnmfldihalaaGreatDoor.Lr
