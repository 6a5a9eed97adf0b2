/- Laid together: LfMake2, LfExpr, LfAct, LfWith, LfActs. -/
import Derived.Test.YtemdnmfldihalaaGreatDoorGr10
namespace Go.Proofs.YtemdnmfldihalaaGreatDoor.Lr
set_option maxHeartbeats 32000000
set_option maxRecDepth 100000
set_option linter.unusedVariables false
set_option linter.unusedSimpArgs false
open Go.ChangeShapes Go.WideShapes Go.ChangeAt Go.RowKit Lg
theorem sel_make (m : Nat) (ih : MakeE m) (K B : Nat) (t : Rt) (rs : List Vr) (A : Value) (sc : List (List UInt8 × Nat)) (nv : Value) (ns : List Nm) (ea eb ec : Ex) (sl : Value) (w : World) (hK : m ≤ K) (hM : Mkd w t B rs A sc nv ns) (hi : ExIs w B (K + 1) ⟨4,0,[],[ea,eb,ec]⟩ sl) (hwf : ∀ a ∈ [ea,eb,ec],wfE m a) :
  Calls Tryz.prog 97 #[.pointer (some ⟨t.M,0,none⟩),.agg (exA ⟨4,0,[],[ea,eb,ec]⟩ sl)] w fun r w' => MdE t sc rs (m + 1) ⟨4,0,[],[ea,eb,ec]⟩ w r w' := by
 obtain ⟨p,n,c,rfl⟩ := ex_slice hi
 obtain ⟨w1,hw1⟩ : ∃ x,w.alloc (.cells #[.int .i64 4,.int .i64 0,.string ⟨([] : List UInt8).toArray⟩,.slice p n c] 93) = x := ⟨_,rfl⟩
 have hb1 : Below w.heap.size w w1 := by rw [← hw1]; exact (Below.refl _ _).alloc (Nat.le_refl _) _
 have hbE : Bk w1 w.heap.size [.int .i64 4,.int .i64 0,.string ⟨([] : List UInt8).toArray⟩,.slice p n c] 93 := by rw [← hw1]; exact Bk.new _ _ _
 have hn : n ≤ 1000 := by have := (ex_args hi).1; dsimp at this; omega
 have HC0 := keep (part_call m ih hK hM hi hn hwf hb1 0 ea rfl)
 have HC1 := keep (part_call m ih hK hM hi hn hwf hb1 1 eb rfl)
 have HC2 := keep (part_call m ih hK hM hi hn hwf hb1 2 ec rfl)
 have HReg := keep (fun g => mSel_reg (fun w l h u => GoodE t sc rs m w l h u ea) (fun w l h u => GoodE t sc rs m w l h u eb) (fun w l h u => GoodE t sc rs m w l h u ec) t.M w.heap.size p n c g w1 goodE_stays goodE_stays goodE_stays goodE_func goodE_func goodE_func (hbE.cell 3 rfl) HC0.out HC1.out HC2.out)
 have HW1 := keep hw1
 have HB1 := keep hb1
 have HM := keep hM
 unfold exA
 clear hw1 hb1 hbE HC0 HC1 HC2 hi hM hwf ih
 go_enter Tryz.func97,Tryz.ntmps97
 show (Code.seq (fstC mSelCode) (Code.seq (fstC (sndC mSelCode)) (sndC (sndC mSelCode)))).wp Tryz.prog _ _ w
 refine wp_seq (wp_mono (Q:=fun e a' w' => Hid (e = .normal ∧ a' = ⟨#[.pointer (some ⟨t.M,0,none⟩),.agg #[.int .i64 4,.int .i64 0,.string ⟨([] : List UInt8).toArray⟩,.slice p n c],undef,.pointer (some ⟨w.heap.size,0,none⟩),.nilFunc,undef,undef,undef,undef,undef,undef,undef,undef,undef,undef,undef,undef,undef,undef,undef,undef],[]⟩ ∧ w' = w1)) ?_ ?_)
 ·conv => arg 2; whnf
  go_wp2_with (first | rw [HW1.out])
  first | trivial | exact ⟨rfl,rfl,rfl⟩
 intro e a1 w1' h1
 obtain ⟨rfl,rfl,rfl⟩ := h1.out
 refine wp_seq (wp_mono (HReg.out (fun i => match i with | 1 => .agg #[.int .i64 4,.int .i64 0,.string ⟨([] : List UInt8).toArray⟩,.slice p n c] | 4 => .nilFunc | _ => undef)) ?_)
 rintro e a2 w2 ⟨rfl,u11,u15,u19,b0,b1,b2,rfl,hb2,hm0,hm1,hm2,⟨hl0,hk0⟩,⟨hl1,hk1⟩,⟨hl2,hk2⟩⟩
 have hsz := HB1.out.size
 have HE : Hid (MdE t sc rs (m + 1) ⟨4,0,[],[ea,eb,ec]⟩ w (.returned (.func (.func 112) #[] #[.pointer (some ⟨b0,0,none⟩),.pointer (some ⟨b1,0,none⟩),.pointer (some ⟨b2,0,none⟩)])) w2) := by
  refine ⟨_,rfl,HB1.out.trans (hb2.mono hsz),_,_,⟨rfl,enters_of Tryz.func112 (by kernel_rfl) rfl⟩,?_⟩
  intro W hW hs env arr s hR hE hG
  exact sel_val t sc rs m ea eb ec b0 b1 b2 w.heap.size w2.heap.size u11 u15 u19 w2 HM.out.ap HM.out.run (by omega) (by omega) (by omega) hk0.lt hk1.lt hk2.lt (hk0.cell 0 rfl) (hk1.cell 0 rfl) (hk2.cell 0 rfl) (goodE_made hm0 hsz) (goodE_made hm1 hsz) (goodE_made hm2 hsz) W hW hs env arr s hR hE hG
 clear hb2 hm0 hm1 hm2 hk0 hk1 hk2 HReg HM
 show (sndC (sndC mSelCode)).wp Tryz.prog _ _ w2
 conv => arg 2; whnf
 go_wp2
 go_ret
 exact HE.out
theorem at_make (m : Nat) (ih : MakeE m) (K B : Nat) (t : Rt) (rs : List Vr) (A : Value) (sc : List (List UInt8 × Nat)) (nv : Value) (ns : List Nm) (x : List UInt8) (ix : Int) (hix : ∀ i,Idx (fun v : Vr => v.name == x) rs i → i = ix) (hIx : AtIx rs x ix) (ep : Ex) (sl : Value) (w : World) (hK : m ≤ K) (hM : Mkd w t B rs A sc nv ns) (hi : ExIs w B (K + 1) ⟨5,0,x,[ep]⟩ sl) (hwf : ∀ a ∈ [ep],wfE m a) :
  Calls Tryz.prog 98 #[.pointer (some ⟨t.M,0,none⟩),.agg (exA ⟨5,0,x,[ep]⟩ sl)] w fun r w' => MdE t sc rs (m + 1) ⟨5,0,x,[ep]⟩ w r w' := by
 obtain ⟨p,n,c,rfl⟩ := ex_slice hi
 obtain ⟨w1,hw1⟩ : ∃ y,(w.alloc (.cells #[.pointer (some ⟨t.M,0,none⟩)] 100)).alloc (.cells #[.int .i64 5,.int .i64 0,.string ⟨x.toArray⟩,.slice p n c] 93) = y := ⟨_,rfl⟩
 have hb1 : Below w.heap.size w w1 := by rw [← hw1]; exact ((Below.refl _ _).alloc (Nat.le_refl _) _).alloc (by simp) _
 have hbM : Bk w1 w.heap.size [.pointer (some ⟨t.M,0,none⟩)] 100 := by rw [← hw1]; exact (Bk.new _ _ _).up _
 have hbE : Bk w1 (w.heap.size + 1) [.int .i64 5,.int .i64 0,.string ⟨x.toArray⟩,.slice p n c] 93 := by
  have h := Bk.new (w.alloc (.cells #[.pointer (some ⟨t.M,0,none⟩)] 100)) [.int .i64 5,.int .i64 0,.string ⟨x.toArray⟩,.slice p n c] 93
  rw [show (w.alloc (.cells #[.pointer (some ⟨t.M,0,none⟩)] 100)).heap.size = w.heap.size + 1 by simp] at h
  rw [← hw1]; exact h
 have hn : n ≤ 1000 := by have := (ex_args hi).1; dsimp at this; omega
 have HC1 := keep (part_call m ih hK hM hi hn hwf hb1 0 ep rfl)
 have HC0 : Hid (∀ W,Below w1.heap.size w1 W → Calls Tryz.prog 80 #[.pointer (some ⟨t.M,0,none⟩),.string ⟨x.toArray⟩] W fun r W' => ∃ v,r = .returned v ∧ Below W.heap.size W W' ∧ v = .int .i64 ix) := fun W hW => by
  refine (array_any t B rs A sc nv x W (hM.below (hb1.trans (hW.mono hb1.size))).mkr).mono ?_
  rintro r W' ⟨i,rfl,hi,hb⟩
  exact ⟨_,rfl,hb,by rw [hix i hi]⟩
 have HReg := keep (fun g => mAt_reg (fun w l h u => u = .int .i64 ix) (fun w l h u => GoodE t sc rs m w l h u ep) t.M w.heap.size (w.heap.size + 1) x p n c g w1 (fun w w' lo hi u h hk => h) goodE_stays (fun w l h u hu => ⟨_,hu⟩) goodE_func (hbM.cell 0 rfl) (hbE.cell 2 rfl) (hbE.cell 3 rfl) HC0.out HC1.out)
 have HW1 := keep hw1
 have HB1 := keep hb1
 have HbM := keep hbM
 have HM := keep hM
 have hwf0 := hwf ep (by simp)
 unfold exA
 clear hw1 hb1 hbE hbM HC0 HC1 hi hM hwf ih
 go_enter Tryz.func98,Tryz.ntmps98
 show (Code.seq (fstC mAtCode) (Code.seq (fstC (sndC mAtCode)) (sndC (sndC mAtCode)))).wp Tryz.prog _ _ w
 refine wp_seq (wp_mono (Q:=fun e a' w' => Hid (e = .normal ∧ a' = ⟨#[.pointer (some ⟨t.M,0,none⟩),.agg #[.int .i64 5,.int .i64 0,.string ⟨x.toArray⟩,.slice p n c],.pointer (some ⟨w.heap.size,0,none⟩),.pointer (some ⟨w.heap.size + 1,0,none⟩),.nilFunc,undef,undef,undef,undef,undef,undef,undef,undef,undef,undef,undef],[]⟩ ∧ w' = w1)) ?_ ?_)
 ·conv => arg 2; whnf
  go_wp2_with (first | rw [HW1.out])
  first | trivial | exact ⟨rfl,rfl,rfl⟩
 intro e a1 w1' h1
 obtain ⟨rfl,rfl,rfl⟩ := h1.out
 refine wp_seq (wp_mono (HReg.out (fun i => match i with | 1 => .agg #[.int .i64 5,.int .i64 0,.string ⟨x.toArray⟩,.slice p n c] | 4 => .nilFunc | _ => undef)) ?_)
 rintro e a2 w2 ⟨rfl,u10,u14,b0,b1,rfl,hb2,hm0,hm1,⟨hl0,hk0⟩,⟨hl1,hk1⟩⟩
 have hsz := HB1.out.size
 have hu10 : u10 = .int .i64 ix := by
  obtain ⟨_,_,_,_,_,h,_⟩ := hm0
  exact h
 subst hu10
 have hbM2 := HbM.out.fs (Fs.of_below (l:=[]) hb2) (by simp)
 have HE : Hid (MdE t sc rs (m + 1) ⟨5,0,x,[ep]⟩ w (.returned (.func (.func 114) #[] #[.pointer (some ⟨b1,0,none⟩),.pointer (some ⟨w.heap.size,0,none⟩),.pointer (some ⟨b0,0,none⟩)])) w2) := by
  refine ⟨_,rfl,HB1.out.trans (hb2.mono hsz),_,_,⟨rfl,enters_of Tryz.func114 (by kernel_rfl) rfl⟩,?_⟩
  intro W hW hs env arr s hR hE hG
  exact at_both t sc rs HM.out.few HM.out.small m x ix hIx ep hwf0 b1 w.heap.size b0 w.heap.size w2.heap.size u14 w2 HM.out.ap HM.out.run (by omega) (by omega) (by omega) hk1.lt hbM2.lt hk0.lt (hk1.cell 0 rfl) (hbM2.cell 0 rfl) (hk0.cell 0 rfl) (goodE_made hm1 hsz) W hW hs env arr s hR hE hG
 clear hb2 hm0 hm1 hk0 hk1 HReg HM hbM2
 show (sndC (sndC mAtCode)).wp Tryz.prog _ _ w2
 conv => arg 2; whnf
 go_wp2
 go_ret
 exact HE.out
theorem len_two {α : Type} : ∀ {l : List α},l.length = 2 → ∃ a b,l = [a,b]
 | [a,b],_ => ⟨a,b,rfl⟩
theorem len_three {α : Type} : ∀ {l : List α},l.length = 3 → ∃ a b c,l = [a,b,c]
 | [a,b,c],_ => ⟨a,b,c,rfl⟩
theorem wrap_word {n : Int} (h0 : 0 ≤ n) (h1 : n ≤ 4294967295) : IntKind.u32.wrap n = n ∧ IntKind.i64.wrap n = n := by
 refine ⟨?_,by rw [IntKind.wrap_i64]; omega⟩
 unfold IntKind.wrap
 simp [IntKind.bits,IntKind.signed]
 omega
theorem num_make (t : Rt) (sc : List (List UInt8 × Nat)) (rs : List Vr) (m : Nat) (M : Nat) (en : Int) (h0 : 0 ≤ en) (h1 : en ≤ 4294967295) (p : Option Addr) (n c : Nat) (w : World) :
  Calls Tryz.prog 76 #[.pointer (some ⟨M,0,none⟩),.agg #[.int .i64 1,.int .i64 en,.string ⟨([] : List UInt8).toArray⟩,.slice p n c]] w fun r w' => MdE t sc rs (m + 1) ⟨1,en,[],[]⟩ w r w' := by
 obtain ⟨hq1,hq2⟩ := wrap_word h0 h1
 obtain ⟨w1,hw1⟩ : ∃ x,w.alloc (.cells #[.int .i64 1,.int .i64 en,.string ⟨([] : List UInt8).toArray⟩,.slice p n c] 93) = x := ⟨_,rfl⟩
 have hb1 : Below w.heap.size w w1 := by rw [← hw1]; exact (Below.refl _ _).alloc (Nat.le_refl _) _
 have hbE : Bk w1 w.heap.size [.int .i64 1,.int .i64 en,.string ⟨([] : List UInt8).toArray⟩,.slice p n c] 93 := by rw [← hw1]; exact Bk.new _ _ _
 have c0 := hbE.cell 0 rfl
 have c1 := hbE.cell 1 rfl
 obtain ⟨w2,hw2⟩ : ∃ x,w1.alloc (.cells #[.int .i64 en] 3) = x := ⟨_,rfl⟩
 have hb2 : Below w1.heap.size w1 w2 := by rw [← hw2]; exact (Below.refl _ _).alloc (Nat.le_refl _) _
 have hbN : Bk w2 w1.heap.size [.int .i64 en] 3 := by rw [← hw2]; exact Bk.new _ _ _
 have HE : Hid (MdE t sc rs (m + 1) ⟨1,en,[],[]⟩ w (.returned (.func (.func 94) #[] #[.pointer (some ⟨w1.heap.size,0,none⟩)])) w2) := by
  refine ⟨_,rfl,hb1.trans (hb2.mono hb1.size),_,_,⟨rfl,enters_of Tryz.func94 (by kernel_rfl) rfl⟩,?_⟩
  intro W hW hs env arr s hR hE hG
  refine (num_val w1.heap.size en W ?_).mono ?_
  ·rw [World.cell?_of_block (hW w1.heap.size hb1.size hbN.lt)]; exact hbN.cell 0 rfl
  ·rintro r W' ⟨rfl,rfl⟩
   exact ExP.plain (fun _ => by rw [evE,if_pos rfl]) (Below.refl _ _)
 have HW1 := keep hw1
 have HW2 := keep hw2
 clear hw1 hw2 hb1 hb2 hbE hbN
 go_enter Tryz.func76,Tryz.ntmps76
 go_wp2_with (first | rw [HW1.out] | rw [HW2.out])
 go_ret
 exact HE.out
theorem name_make (t : Rt) (B : Nat) (rs : List Vr) (A : Value) (sc : List (List UInt8 × Nat)) (nv : Value) (ns : List Nm) (m : Nat) (x : List UInt8) (p : Option Addr) (n c : Nat) (w : World) (hM : Mkd w t B rs A sc nv ns) :
  Calls Tryz.prog 76 #[.pointer (some ⟨t.M,0,none⟩),.agg #[.int .i64 2,.int .i64 0,.string ⟨x.toArray⟩,.slice p n c]] w fun r w' => MdE t sc rs (m + 1) ⟨2,0,x,[]⟩ w r w' := by
 obtain ⟨w1,hw1⟩ : ∃ y,w.alloc (.cells #[.int .i64 2,.int .i64 0,.string ⟨x.toArray⟩,.slice p n c] 93) = y := ⟨_,rfl⟩
 have hb1 : Below w.heap.size w w1 := by rw [← hw1]; exact (Below.refl _ _).alloc (Nat.le_refl _) _
 have hbE : Bk w1 w.heap.size [.int .i64 2,.int .i64 0,.string ⟨x.toArray⟩,.slice p n c] 93 := by rw [← hw1]; exact Bk.new _ _ _
 have c0 := hbE.cell 0 rfl
 have c2 := hbE.cell 2 rfl
 have HC := keep (byName_all t B rs A sc nv x w1 (hM.below hb1).mkr)
 have HB1 := keep hb1
 have HW1 := keep hw1
 clear hw1 hb1 hbE hM
 go_enter Tryz.func76,Tryz.ntmps76
 go_wp2_with (first | rw [HW1.out])
 refine HC.out.mono ?_
 rintro r w2 ⟨b,rfl,hb2,hq⟩
 obtain ⟨w3,hw3⟩ : ∃ y,w2.alloc (.cells #[.pointer (some ⟨b,0,none⟩)] 104) = y := ⟨_,rfl⟩
 have hb3 : Below w2.heap.size w2 w3 := by rw [← hw3]; exact (Below.refl _ _).alloc (Nat.le_refl _) _
 have hbN : Bk w3 w2.heap.size [.pointer (some ⟨b,0,none⟩)] 104 := by rw [← hw3]; exact Bk.new _ _ _
 have hb12 := HB1.out.trans (hb2.mono HB1.out.size)
 have HE : Hid (MdE t sc rs (m + 1) ⟨2,0,x,[]⟩ w (.returned (.func (.func 95) #[] #[.pointer (some ⟨w2.heap.size,0,none⟩)])) w3) := by
  refine ⟨_,rfl,hb12.trans (hb3.mono hb12.size),_,_,⟨rfl,enters_of Tryz.func95 (by kernel_rfl) rfl⟩,?_⟩
  intro W hW hs env arr s hR hE hG
  have hlk : W.cell? ⟨b,0,none⟩ = some (.int .i64 (lookE env x)) := by
   rcases hq with ⟨q,hq,rfl⟩ | ⟨hq,hl,hbz⟩
   ·exact hR.env.look hq
   ·rw [hR.env.look_none hq,World.cell?_of_block (hW b (by have := HB1.out.size; omega) (by have := hbz.lt; have := hb3.size; omega)),World.cell?_of_block (hb3.block b hbz.lt)]
    exact hbz.cell 0 rfl
  refine (name_val w2.heap.size b (lookE env x) W ?_ hlk).mono ?_
  ·rw [World.cell?_of_block (hW w2.heap.size hb12.size hbN.lt)]; exact hbN.cell 0 rfl
  ·rintro r W' ⟨rfl,rfl⟩
   exact ExP.plain (fun _ => by rw [evE,if_neg (show ¬ (2 : Int) = 1 by decide),if_pos rfl]) (Below.refl _ _)
 have HW3 := keep hw3
 clear hw3 hb2 hb3 hb12 hbN HC HB1 hq
 go_wp2_with (first | rw [HW3.out])
 go_ret
 exact HE.out
theorem other_make (t : Rt) (sc : List (List UInt8 × Nat)) (rs : List Vr) (m : Nat) (e : Ex) (ek en : Int) (x : List UInt8) (p : Option Addr) (n c : Nat) (w : World) (f : Nat) (hk : (ek = 3 ∧ f = 96) ∨ (ek = 4 ∧ f = 97) ∨ (ek = 5 ∧ f = 98))
  (HC : Hid (∀ W,Below w.heap.size w W → Calls Tryz.prog f #[.pointer (some ⟨t.M,0,none⟩),.agg #[.int .i64 ek,.int .i64 en,.string ⟨x.toArray⟩,.slice p n c]] W fun r W' => MdE t sc rs (m + 1) e W r W')) :
  Calls Tryz.prog 76 #[.pointer (some ⟨t.M,0,none⟩),.agg #[.int .i64 ek,.int .i64 en,.string ⟨x.toArray⟩,.slice p n c]] w fun r w' => MdE t sc rs (m + 1) e w r w' := by
 obtain ⟨w1,hw1⟩ : ∃ y,w.alloc (.cells #[.int .i64 ek,.int .i64 en,.string ⟨x.toArray⟩,.slice p n c] 93) = y := ⟨_,rfl⟩
 have hb1 : Below w.heap.size w w1 := by rw [← hw1]; exact (Below.refl _ _).alloc (Nat.le_refl _) _
 have hbE : Bk w1 w.heap.size [.int .i64 ek,.int .i64 en,.string ⟨x.toArray⟩,.slice p n c] 93 := by rw [← hw1]; exact Bk.new _ _ _
 have c0 := hbE.cell 0 rfl
 have c1 := hbE.cell 1 rfl
 have c2 := hbE.cell 2 rfl
 have c3 := hbE.cell 3 rfl
 have HC1 := keep (HC.out w1 hb1)
 have HB1 := keep hb1
 have HW1 := keep hw1
 clear hw1 hb1 hbE HC
 have HEnd : Hid (∀ r w2,MdE t sc rs (m + 1) e w1 r w2 → MdE t sc rs (m + 1) e w r w2) := fun r w2 h => by
  obtain ⟨v,rfl,hb,hg⟩ := h
  exact ⟨v,rfl,HB1.out.trans (hb.mono HB1.out.size),hg.more HB1.out.size (Nat.le_refl _) (fun i _ _ => rfl)⟩
 rcases hk with ⟨rfl,rfl⟩ | ⟨rfl,rfl⟩ | ⟨rfl,rfl⟩
 all_goals
  go_enter Tryz.func76,Tryz.ntmps76
  go_wp2_with (first | rw [HW1.out])
  refine HC1.out.mono ?_
  intro r w2 h2
  have HE := keep (HEnd.out r w2 h2)
  obtain ⟨v,rfl,_,k,d,⟨rfl,_⟩,_⟩ := h2
  clear HC1 HEnd
  go_wp2
  go_ret
  exact HE.out
theorem exprM_succ (m : Nat) (ih : MakeE m) : MakeE (m + 1) := by
 intro K B t rs A sc nv ns e sl w hK hwf hM hi
 obtain ⟨K,rfl⟩ : ∃ K',K = K' + 1 := ⟨K - 1,by omega⟩
 obtain ⟨p,n,c,rfl⟩ := ex_slice hi
 obtain ⟨ek,en,x,l⟩ := e
 have hwa := wfE_args hwf
 dsimp only at hwa
 have hB : B ≤ w.heap.size := by have := hM.mkr.hB; have := hM.mkr.box.lt; omega
 rcases hwf with ⟨h1,h2,h3,h4,h5⟩ | ⟨h1,h2,h3,h4⟩ | ⟨h1,h2,h3,h4,h5,h6⟩ | ⟨h1,h2,h3,h4,h5⟩ | ⟨h1,h2,h3,h4,h5⟩
 ·dsimp only at h1 h2 h3 h4 h5
  subst h1 h4 h5
  exact num_make t sc rs m t.M en h2 h3 p n c w
 ·dsimp only at h1 h2 h3 h4
  subst h1 h2 h4
  exact name_make t B rs A sc nv ns m x p n c w hM
 ·dsimp only at h1 h2 h3 h4 h5 h6
  subst h1 h4
  obtain ⟨ea,eb,rfl⟩ := len_two h5
  exact other_make t sc rs m _ 3 en [] p n c w _ (.inl ⟨rfl,rfl⟩) fun W hW => two_make m ih K B t rs A sc nv ns en h2 h3 ea eb (.slice p n c) W (by omega) (hM.below hW) (hi.below (hW.mono hB)) hwa
 ·dsimp only at h1 h2 h3 h4 h5
  subst h1 h2 h3
  obtain ⟨ea,eb,ec,rfl⟩ := len_three h4
  exact other_make t sc rs m _ 4 0 [] p n c w _ (.inr (.inl ⟨rfl,rfl⟩)) fun W hW => sel_make m ih K B t rs A sc nv ns ea eb ec (.slice p n c) W (by omega) (hM.below hW) (hi.below (hW.mono hB)) hwa
 ·dsimp only at h1 h2 h3 h4 h5
  subst h1 h2
  obtain ⟨ep,rfl⟩ := List.length_eq_one_iff.1 h4
  obtain ⟨ix,hIx,hix⟩ := idx_ex rs x
  exact other_make t sc rs m _ 5 0 x p n c w _ (.inr (.inr ⟨rfl,rfl⟩)) fun W hW => at_make m ih K B t rs A sc nv ns x ix hix hIx ep (.slice p n c) W (by omega) (hM.below hW) (hi.below (hW.mono hB)) hwa
theorem expr_make : ∀ m,MakeE m
 | 0 => fun K B t rs A sc nv ns e sl w hK hwf => hwf.elim
 | m + 1 => exprM_succ m (expr_make m)
def Sep (t : Rt) (sc : List (List UInt8 × Nat)) : Prop := (t.R :: t.M :: t.AO :: (t.ab ++ sc.map Prod.snd)).Nodup
def Chg (t : Rt) (sc : List (List UInt8 × Nat)) (Ls : List Nat) : List Nat := t.R :: (t.ab ++ sc.map Prod.snd ++ Ls)
theorem Sep.apart {t : Rt} {sc : List (List UInt8 × Nat)} (h : Sep t sc) : Apart t sc := by
 unfold Sep at h
 rw [List.nodup_cons] at h
 have h1 := h.1
 simp only [List.mem_cons,List.mem_append,List.mem_map,not_or] at h1
 exact ⟨fun e => h1.1 e.symm,fun e => h1.2.1 e.symm,fun b hb e => h1.2.2.1 (e ▸ hb),fun p hp e => h1.2.2.2 ⟨p,hp,e⟩⟩
structure RunIs (t : Rt) (W : World) (arr : List (List Int)) (s : Sv) : Prop where
 mkr : W.cell? ⟨t.M,0,none⟩ = some (.pointer (some ⟨t.R,0,none⟩))
 run : Bk W t.R [.int .i64 s.word,.bool s.trap,.slice (some ⟨t.AO,0,none⟩) arr.length arr.length,.bool s.over,.int .i64 s.work,.int .i64 s.err] 74
 arr : ArrM t W arr
theorem RM.runIs {t : Rt} {sc : List (List UInt8 × Nat)} {W : World} {env : Env} {arr : List (List Int)} {s : Sv} (h : RM t sc W env arr s) : RunIs t W arr s := ⟨h.mkr,h.run,h.arr⟩
def IntAt (W : World) (b : Nat) : Prop := ∃ n,Bk W b [.int .i64 n] 3
theorem EnvM.ints {W : World} : ∀ {sc : List (List UInt8 × Nat)} {env : Env},EnvM W sc env → ∀ b ∈ sc.map Prod.snd,IntAt W b
 | [],[],_,b,hb => by cases hb
 | p :: sc,q :: env,⟨_,h2,h3⟩,b,hb => by
  rcases List.mem_cons.1 hb with rfl | hb
  ·exact ⟨_,h2⟩
  ·exact h3.ints b hb
def on (work : Nat) : Sv := ⟨0,false,false,(work : Int),0⟩
def ResIs (t : Rt) (sc : List (List UInt8 × Nat)) (W' : World) : Rs → Prop
 | .go k => RM t sc W' k.env k.arr (on k.work)
 | .over tr wd a n => RunIs t W' a ⟨wd,tr,true,(n : Int),0⟩
def StP (t : Rt) (sc sc' : List (List UInt8 × Nat)) (Ls : List Nat) (W : World) (res : Rs) (r : Ending) (W' : World) : Prop :=
 r = .returned (.tuple #[]) ∧ Fs (Chg t sc Ls) W W' ∧ (∀ b ∈ sc.map Prod.snd ++ Ls,IntAt W' b) ∧ ResIs t sc' W' res
def KeepX (lo hi : Nat) (Ls Ex : List Nat) (w W : World) : Prop := (∀ i,lo ≤ i → i < hi → i ∉ Ls → i ∉ Ex → W.heap[i]? = w.heap[i]?) ∧ ∀ b ∈ Ls,IntAt W b
def GoodA (t : Rt) (sc sc' : List (List UInt8 × Nat)) (rs : List Vr) (w1 : World) (lo hi : Nat) (Ls Ex : List Nat) (v : Value) (C : Mm → Prop) (f : Mm → Rs) : Prop :=
 (∀ b ∈ Ls,lo ≤ b ∧ b < hi) ∧ ∃ k binds,Fv v k binds ∧ ∀ W,KeepX lo hi Ls Ex w1 W → hi ≤ W.heap.size → ∀ mm : Mm,RM t sc W mm.env mm.arr (on mm.work) → GE mm.env → GA rs mm.arr → C mm → Calls Tryz.prog k binds W fun r W' => StP t sc sc' Ls W (f mm) r W'
theorem end_any (R : Nat) (n : Int) (l0 : Int) (l1 l2 : Value) (b3 : Bool) (l4 l5 : Value) (W : World) (hb : Bk W R [.int .i64 l0,l1,l2,.bool b3,l4,l5] 74) :
  Calls Tryz.prog 68 #[.pointer (some ⟨R,0,none⟩),.int .i64 n] W fun r W' => r = .returned (.tuple #[]) ∧ Bk W' R [.int .i64 n,l1,l2,.bool true,l4,l5] 74 ∧ Fs [R] W W' := by
 have c0 := hb.cell 0 rfl
 have f0 := hb.fr 0
 obtain ⟨w1,hw1⟩ : ∃ x,W.setCell ⟨R,0,none⟩ (.int .i64 n) = x := ⟨_,rfl⟩
 have hb1 : Bk w1 R [.int .i64 n,l1,l2,.bool b3,l4,l5] 74 := by rw [← hw1]; exact hb.set 0 _
 have hf1 : Fs [R] W w1 := by rw [← hw1]; exact (Fs.refl _ _).set (by simp) _ _
 have c3 := hb1.cell 3 rfl
 have f3 := hb1.fr 3
 obtain ⟨w2,hw2⟩ : ∃ x,w1.setCell ⟨R,3,none⟩ (.bool true) = x := ⟨_,rfl⟩
 have HE : Hid (Bk w2 R [.int .i64 n,l1,l2,.bool true,l4,l5] 74 ∧ Fs [R] W w2) := by
  rw [← hw2]; exact ⟨hb1.set 3 _,hf1.set (by simp) _ _⟩
 have HW1 := keep hw1
 have HW2 := keep hw2
 clear hb hb1 hf1 hw1 hw2
 go_enter Tryz.func68,Tryz.ntmps68
 go_wp2_with (first | rw [HW1.out] | rw [HW2.out])
 go_end0
 exact ⟨rfl,HE.out⟩
theorem mayDo_yes (R : Nat) (l0 l1 l2 : Value) (wk : Nat) (hwk : wk + 1 ≤ 300) (l5 : Value) (W : World) (hb : Bk W R [l0,l1,l2,.bool false,.int .i64 (wk : Int),l5] 74) :
  Calls Tryz.prog 54 #[.pointer (some ⟨R,0,none⟩)] W fun r W' => r = .returned (.bool true) ∧ Bk W' R [l0,l1,l2,.bool false,.int .i64 ((wk + 1 : Nat) : Int),l5] 74 ∧ Fs [R] W W' := by
 have c3 := hb.cell 3 rfl
 have c4 := hb.cell 4 rfl
 have f4 := hb.fr 4
 have hwr : IntKind.i64.wrap ((wk : Int) + 1) = (wk : Int) + 1 := by rw [IntKind.wrap_i64]; omega
 have d1 : decide (300 < (wk : Int) + 1) = false := decide_eq_false (by omega)
 obtain ⟨w1,hw1⟩ : ∃ x,W.setCell ⟨R,4,none⟩ (.int .i64 ((wk : Int) + 1)) = x := ⟨_,rfl⟩
 have hb1 : Bk w1 R [l0,l1,l2,.bool false,.int .i64 ((wk : Int) + 1),l5] 74 := by rw [← hw1]; exact hb.set 4 _
 have z3 := hb1.cell 3 rfl
 have z4 := hb1.cell 4 rfl
 have HE : Hid (Bk w1 R [l0,l1,l2,.bool false,.int .i64 ((wk + 1 : Nat) : Int),l5] 74 ∧ Fs [R] W w1) := ⟨hb1,by rw [← hw1]; exact (Fs.refl _ _).set (by simp) _ _⟩
 have HW1 := keep hw1
 clear hb hb1 hw1
 go_enter Tryz.func54,Tryz.ntmps54
 go_wp2_with (first | rw [HW1.out])
 go_ret
 exact ⟨rfl,HE.out⟩
theorem mayDo_no (R : Nat) (l0 l1 l2 l4 l5 : Value) (W : World) (hb : Bk W R [l0,l1,l2,.bool true,l4,l5] 74) :
  Calls Tryz.prog 54 #[.pointer (some ⟨R,0,none⟩)] W fun r W' => r = .returned (.bool false) ∧ W' = W := by
 have c3 := hb.cell 3 rfl
 clear hb
 go_enter Tryz.func54,Tryz.ntmps54
 go_wp2
 go_ret
 first | exact ⟨rfl,rfl⟩ | rfl | trivial
theorem become_any (bw g : Nat) (n o : Int) (W : World) (hw : W.cell? ⟨bw,0,none⟩ = some (.pointer (some ⟨g,0,none⟩))) (hb : Bk W g [.int .i64 o] 3) :
  Calls Tryz.prog 77 #[.int .i64 n,.pointer (some ⟨bw,0,none⟩)] W fun r W' => r = .returned (.tuple #[]) ∧ Bk W' g [.int .i64 n] 3 ∧ Fs [g] W W' := by
 have c0 := hb.cell 0 rfl
 have f0 := hb.fr 0
 obtain ⟨w1,hw1⟩ : ∃ x,W.setCell ⟨g,0,none⟩ (.int .i64 n) = x := ⟨_,rfl⟩
 have HE : Hid (Bk w1 g [.int .i64 n] 3 ∧ Fs [g] W w1) := by
  rw [← hw1]; exact ⟨hb.set 0 _,(Fs.refl _ _).set (by simp) _ _⟩
 have HW1 := keep hw1
 clear hb hw1
 go_enter Tryz.func77,Tryz.ntmps77
 go_wp2_with (first | rw [HW1.out])
 go_end0
 exact ⟨rfl,HE.out⟩
def withR (r : Option Int) (arr : List (List Int)) (work : Nat) (f : Int → Rs) : Rs := match r with
 | none => .over true 0 arr work
 | some n => f n
theorem KeepX.fs {lo hi : Nat} {Ls Ex : List Nat} {w W W' : World} {R : Nat} (h : KeepX lo hi Ls Ex w W) (hf : Fs [R] W W') (hR : R < lo) (hhi : hi ≤ W.heap.size) (hL : ∀ b ∈ Ls,lo ≤ b ∧ b < hi) : KeepX lo hi Ls Ex w W' :=
 ⟨fun i h1 h2 h3 h4 => (hf.block i (by omega) (by simp; omega)).trans (h.1 i h1 h2 h3 h4),fun b hb => by
  obtain ⟨n,hn⟩ := h.2 b hb
  exact ⟨n,hn.fs hf (by have := hL b hb; simp; omega)⟩⟩
theorem with_val (t : Rt) (sc sc' : List (List UInt8 × Nat)) (rs : List Vr) (m : Nat) (e : Ex) (ve : Value) (w1 we : World) (lo hi le he : Nat) (Ls Ex : List Nat) (bE bM bT : Nat) (kT : FuncId) (pT dT : Array Value) (F : Mm → Int → Rs)
  (hA : Apart t sc) (hR : t.R < lo) (hL : ∀ b ∈ Ls,lo ≤ b ∧ b < hi) (hle : lo ≤ le) (hhe : he ≤ hi) (hLe : ∀ b ∈ Ls,b < le ∨ he ≤ b) (hXe : ∀ b ∈ Ex,b < le ∨ he ≤ b) (hwe : Keeps le he we w1) (G : GoodE t sc rs m we le he ve e)
  (hE1 : lo ≤ bE ∧ bE < hi ∧ bE ∉ Ls ∧ bE ∉ Ex) (hM1 : lo ≤ bM ∧ bM < hi ∧ bM ∉ Ls ∧ bM ∉ Ex) (hT1 : lo ≤ bT ∧ bT < hi ∧ bT ∉ Ls ∧ bT ∉ Ex) (hcE : w1.cell? ⟨bE,0,none⟩ = some ve) (hcM : w1.cell? ⟨bM,0,none⟩ = some (.pointer (some ⟨t.M,0,none⟩))) (hcT : w1.cell? ⟨bT,0,none⟩ = some (.func (.func kT) pT dT))
  (egT : ∀ args w,(callFunc kT args).run Tryz.prog w = .ok (.enter kT args) w)
  (W : World) (hKp : KeepX lo hi Ls Ex w1 W) (hWh : hi ≤ W.heap.size) (mm : Mm) (hM : RM t sc W mm.env mm.arr (on mm.work)) (hGE : GE mm.env) (hGA : GA rs mm.arr)
  (hT : ∀ n W2,Below W.heap.size W W2 → evE rs mm.env mm.arr m e = some n → Calls Tryz.prog kT (pT ++ #[.int .i64 n] ++ dT) W2 fun r W' => StP t sc sc' Ls W2 (F mm n) r W') :
  Calls Tryz.prog 86 #[.pointer (some ⟨bE,0,none⟩),.pointer (some ⟨bM,0,none⟩),.pointer (some ⟨bT,0,none⟩)] W fun r W' => StP t sc sc' Ls W (withR (evE rs mm.env mm.arr m e) mm.arr mm.work (F mm)) r W' := by
 obtain ⟨k1,d1,⟨rfl,eg1⟩,C1⟩ := G
 have hcell : ∀ b v,lo ≤ b ∧ b < hi ∧ b ∉ Ls ∧ b ∉ Ex → w1.cell? ⟨b,0,none⟩ = some v → ∀ W',Fs [t.R] W W' → W'.cell? ⟨b,0,none⟩ = some v := fun b v h1 h3 W' hf => cellF_fs hf (by rw [World.cell?_of_block (hKp.1 b h1.1 h1.2.1 h1.2.2.1 h1.2.2.2)]; exact h3) (by have := h1.1; omega)
 have c0 := hcell _ _ hE1 hcE W (Fs.refl _ _)
 have HCM := keep (hcell _ _ hM1 hcM)
 have HCT := keep (hcell _ _ hT1 hcT)
 have HC := keep (C1 W (fun i h1 h2 => (hKp.1 i (by omega) (by omega) (fun hi => by have := hLe i hi; omega) (fun hi => by have := hXe i hi; omega)).trans (hwe i h1 h2)) (by omega) mm.env mm.arr (on mm.work) hM hGE hGA)
 have HM := keep hM
 have HA := keep hA
 have HT := keep hT
 have HInt := keep (fun W' (hf : Fs [t.R] W W') => (hKp.fs hf hR hWh hL).2)
 clear hcell C1 hM hKp hcE hcM hcT hT hGE hGA hwe hLe hXe hL
 go_enter Tryz.func86,Tryz.ntmps86
 go_wp2_with fail
 refine HC.out.mono ?_
 intro r w4 hx
 obtain ⟨n1,s4,rfl,hm4,hn4⟩ := hx.next HA.out HM.out
 have HF4 := keep hn4.fs
 have z1 := HCM.out w4 HF4.out
 have z2 := hm4.mkr
 have z3 := hm4.run.cell 3 rfl
 have zT := HCT.out w4 HF4.out
 have HM4 := keep hm4
 have HN4 := keep hn4
 clear hx hm4 hn4 HC c0
 rcases HN4.out with ⟨rfl,hbl,h1⟩ | ⟨ho,h1,rfl,hf⟩
 ·have hev : evE rs mm.env mm.arr m e = some n1 := by
   rcases h1 with h1 | h1
   ·cases h1
   ·exact h1
  have HC2 := keep (HT.out n1 w4 hbl hev)
  have HBl := keep hbl
  have HEv := keep hev
  unfold on at z3
  dsimp only at z3
  clear h1 HN4 hbl hev HT
  go_wp2_with fail
  refine HC2.out.mono ?_
  rintro r w5 ⟨rfl,hf5,hi5,hr5⟩
  have HE : Hid (StP t sc sc' Ls W (withR (evE rs mm.env mm.arr m e) mm.arr mm.work (F mm)) (.returned (.tuple #[])) w5) := by
   refine ⟨rfl,(Fs.of_below HBl.out).trans hf5,hi5,?_⟩
   rw [HEv.out]; exact hr5
  clear hf5 hi5 hr5 HC2
  go_wp2
  go_end0
  exact HE.out
 ·have HE : Hid (StP t sc sc' Ls W (withR (evE rs mm.env mm.arr m e) mm.arr mm.work (F mm)) (.returned (.tuple #[])) w4) := by
   refine ⟨rfl,hf.mono (by simp [Chg]),fun b hb => (List.mem_append.1 hb).elim (fun hb => HM4.out.env.ints b hb) (fun hb => HInt.out w4 hf b hb),?_⟩
   rw [h1]
   exact HM4.out.runIs
  clear h1 HN4 hf HT
  unfold trapped on at z3
  dsimp only at z3
  go_wp2
  go_end0
  exact HE.out
theorem EnvM.fsl {l : List Nat} {W W' : World} (hf : Fs l W W') : ∀ {sc : List (List UInt8 × Nat)} {env : Env},(∀ p ∈ sc,p.2 ∉ l) → EnvM W sc env → EnvM W' sc env
 | [],[],_,_ => trivial
 | p :: sc,q :: env,hn,⟨h1,h2,h3⟩ => ⟨h1,h2.fs hf (hn p (by simp)),EnvM.fsl hf (fun p hp => hn p (by simp [hp])) h3⟩
theorem cell_fsl {l : List Nat} {w w' : World} (hf : Fs l w w') {g o : Nat} {v : Value} (h : w.cell? ⟨g,o,none⟩ = some v) (hk : g ∉ l) : w'.cell? ⟨g,o,none⟩ = some v := by
 rw [World.cell?_of_block (hf.block g (lt_of_cell h) hk)]; exact h
theorem ArrM.fsl {l : List Nat} {t : Rt} {W W' : World} {arr : List (List Int)} (hf : Fs l W W') (ha : t.AO ∉ l) (hb : ∀ b ∈ t.ab,b ∉ l) (h : ArrM t W arr) : ArrM t W' arr := fun i row hi => by
 obtain ⟨b,h1,h2,h3⟩ := h i row hi
 exact ⟨b,h1,cell_fsl hf h2 ha,h3.fs hf (hb b (List.mem_of_getElem? h1))⟩
theorem RM.fsl {l : List Nat} {t : Rt} {sc : List (List UInt8 × Nat)} {W W' : World} {env : Env} {arr : List (List Int)} {s : Sv} (h : RM t sc W env arr s) (hf : Fs l W W') (hR : t.R ∉ l) (hM : t.M ∉ l) (hO : t.AO ∉ l) (hb : ∀ b ∈ t.ab,b ∉ l) (hs : ∀ p ∈ sc,p.2 ∉ l) : RM t sc W' env arr s :=
 ⟨cell_fsl hf h.mkr hM,h.run.fs hf hR,h.arr.fsl hf hO hb,h.env.fsl hf hs⟩
theorem EnvM.snoc {W : World} {x : List UInt8} {g : Nat} {n : Int} (hb : Bk W g [.int .i64 n] 3) : ∀ {sc : List (List UInt8 × Nat)} {env : Env},EnvM W sc env → EnvM W (sc ++ [(x,g)]) (env ++ [(x,n)])
 | [],[],_ => ⟨rfl,hb,trivial⟩
 | p :: sc,q :: env,⟨h1,h2,h3⟩ => ⟨h1,h2,EnvM.snoc hb h3⟩
theorem EnvM.set {W W' : World} {x : List UInt8} {p : List UInt8 × Nat} {n : Int} (hf : Fs [p.2] W W') (hb : Bk W' p.2 [.int .i64 n] 3) : ∀ {sc : List (List UInt8 × Nat)} {env : Env},(sc.map Prod.snd).Nodup → EnvM W sc env → sc.find? (fun v => v.1 == x) = some p → EnvM W' sc (setE env x n)
 | [],[],_,_,h => by cases h
 | q :: sc,r :: env,hn,⟨h1,h2,h3⟩,h => by
  rw [List.map_cons,List.nodup_cons] at hn
  rw [List.find?_cons] at h
  rw [setE,← h1]
  cases hx : q.1 == x with
  | true =>
   rw [hx] at h
   cases h
   exact ⟨rfl,hb,h3.fsl hf fun p hp => by
    simp only [List.mem_singleton]
    exact fun e => hn.1 (List.mem_map.2 ⟨p,hp,e⟩)⟩
  | false =>
   rw [hx] at h
   have hm := List.mem_of_find?_eq_some h
   exact ⟨h1,h2.fs hf (by simp only [List.mem_singleton]; exact fun e => hn.1 (List.mem_map.2 ⟨p,hm,e.symm⟩)),EnvM.set hf hb hn.2 h3 h⟩
theorem Sep.nodup {t : Rt} {sc : List (List UInt8 × Nat)} (h : Sep t sc) : (sc.map Prod.snd).Nodup := by
 unfold Sep at h
 simp only [List.nodup_cons] at h
 exact (List.nodup_append.1 h.2.2.2).2.1
theorem Sep.out {t : Rt} {sc : List (List UInt8 × Nat)} {x : List UInt8} {g : Nat} (h : Sep t (sc ++ [(x,g)])) : t.R ≠ g ∧ t.M ≠ g ∧ t.AO ≠ g ∧ (∀ b ∈ t.ab,b ≠ g) ∧ ∀ p ∈ sc,p.2 ≠ g := by
 unfold Sep at h
 simp only [List.map_append,List.map_cons,List.map_nil,List.nodup_cons,List.mem_cons,List.mem_append,List.mem_map,List.mem_singleton,not_or] at h
 obtain ⟨⟨h1,h2,h3,h4,h5⟩,⟨h6,h7,h8,h9⟩,⟨h10,h11,h12⟩,hn⟩ := h
 obtain ⟨n1,n2,n3⟩ := List.nodup_append.1 hn
 refine ⟨h5.1,h9.1,h12.1,fun b hb => n3 b hb g (by simp),fun p hp => ?_⟩
 obtain ⟨m1,m2,m3⟩ := List.nodup_append.1 n2
 exact m3 p.2 (List.mem_map.2 ⟨p,hp,rfl⟩) g (by simp)
theorem Sep.left {t : Rt} {sc : List (List UInt8 × Nat)} {x : List UInt8} {g : Nat} (h : Sep t (sc ++ [(x,g)])) : Sep t sc := by
 unfold Sep at h ⊢
 rw [List.map_append,← List.append_assoc] at h
 have e : t.R :: t.M :: t.AO :: (t.ab ++ sc.map Prod.snd ++ [(x,g)].map Prod.snd) = (t.R :: t.M :: t.AO :: (t.ab ++ sc.map Prod.snd)) ++ [g] := by simp
 rw [e] at h
 exact (List.nodup_append.1 h).1
theorem let_then (t : Rt) (sc : List (List UInt8 × Nat)) (x : List UInt8) (g bw : Nat) (hS : Sep t (sc ++ [(x,g)])) (mm : Mm) (n : Int) (W : World) (hM : RM t sc W mm.env mm.arr (on mm.work)) (hw : W.cell? ⟨bw,0,none⟩ = some (.pointer (some ⟨g,0,none⟩))) (hg : IntAt W g) :
  Calls Tryz.prog 77 (#[] ++ #[.int .i64 n] ++ #[.pointer (some ⟨bw,0,none⟩)]) W fun r W' => StP t sc (sc ++ [(x,g)]) [g] W (.go ⟨mm.env ++ [(x,n)],mm.arr,mm.work⟩) r W' := by
 obtain ⟨o,ho⟩ := hg
 obtain ⟨h1,h2,h3,h4,h5⟩ := hS.out
 refine (become_any bw g n o W hw ho).mono ?_
 rintro r W' ⟨rfl,hb,hf⟩
 have hm := hM.fsl hf (by simpa using h1) (by simpa using h2) (by simpa using h3) (fun b hb => by simpa using h4 b hb) (fun p hp => by simpa using h5 p hp)
 refine ⟨rfl,hf.mono (by simp [Chg]),fun b hb2 => ?_,?_⟩
 ·rcases List.mem_append.1 hb2 with hb2 | hb2
  ·exact hm.env.ints b hb2
  ·rw [List.mem_singleton] at hb2; rw [hb2]; exact ⟨n,hb⟩
 exact ⟨hm.mkr,hm.run,hm.arr,hm.env.snoc hb⟩
theorem set_then (t : Rt) (sc : List (List UInt8 × Nat)) (x : List UInt8) (p : List UInt8 × Nat) (hp : sc.find? (fun v => v.1 == x) = some p) (bw : Nat) (hS : Sep t sc) (mm : Mm) (n : Int) (W : World) (hM : RM t sc W mm.env mm.arr (on mm.work)) (hw : W.cell? ⟨bw,0,none⟩ = some (.pointer (some ⟨p.2,0,none⟩))) (hg : IntAt W p.2) :
  Calls Tryz.prog 77 (#[] ++ #[.int .i64 n] ++ #[.pointer (some ⟨bw,0,none⟩)]) W fun r W' => StP t sc sc [] W (.go ⟨setE mm.env x n,mm.arr,mm.work⟩) r W' := by
 obtain ⟨o,ho⟩ := hg
 have hmem := List.mem_of_find?_eq_some hp
 refine (become_any bw p.2 n o W hw ho).mono ?_
 rintro r W' ⟨rfl,hb,hf⟩
 have hA := hS.apart
 have hx : ∀ y,y ∈ t.M :: t.AO :: t.ab → y ≠ p.2 := by
  intro y hy e
  unfold Sep at hS
  rw [show t.R :: t.M :: t.AO :: (t.ab ++ sc.map Prod.snd) = [t.R] ++ ((t.M :: t.AO :: t.ab) ++ sc.map Prod.snd) by simp] at hS
  exact (List.nodup_append.1 (List.nodup_append.1 hS).2.1).2.2 y hy p.2 (List.mem_map.2 ⟨p,hmem,rfl⟩) e
 refine ⟨rfl,hf.mono (by
  intro k hk
  rw [List.mem_singleton] at hk
  subst hk
  simp only [Chg,List.mem_cons,List.mem_append,List.mem_map]
  exact .inr (.inl (.inr ⟨p,hmem,rfl⟩))),fun b hb2 => (hM.env.set hf hb hS.nodup hp).ints b (by simpa using hb2),?_⟩
 exact ⟨cell_fsl hf hM.mkr (by simpa using hx t.M (by simp)),hM.run.fs hf (by simpa using fun e => hA.sc p hmem e.symm),hM.arr.fsl hf (by simpa using hx t.AO (by simp)) (fun b hb => by simpa using hx b (by simp [hb])),hM.env.set hf hb hS.nodup hp⟩
theorem ret_then (t : Rt) (sc : List (List UInt8 × Nat)) (hA : Apart t sc) (mm : Mm) (n : Int) (W : World) (hM : RM t sc W mm.env mm.arr (on mm.work)) :
  Calls Tryz.prog 68 (#[.pointer (some ⟨t.R,0,none⟩)] ++ #[.int .i64 n] ++ #[]) W fun r W' => StP t sc sc [] W (.over false n mm.arr mm.work) r W' := by
 refine (end_any t.R n _ _ _ _ _ _ W hM.run).mono ?_
 rintro r W' ⟨rfl,hb,hf⟩
 exact ⟨rfl,hf.mono (by simp [Chg]),fun b hb2 => (hM.env.fs hf hA.sc).ints b (by simpa using hb2),cellF_fs hf hM.mkr hA.m,hb,hM.arr.fs hf hA.ao hA.ab⟩
end Go.Proofs.YtemdnmfldihalaaGreatDoor.Lr
