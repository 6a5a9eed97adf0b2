/- Laid together: LdExpr, LdMs, LdSel. -/
import Derived.Test.YtemdnmfldihalaaGreatDoorGr28
import Derived.Laws.ResultCell
import Derived.Test.YtemdnmfldihalaaGreatDoorGr1
import Derived.Great.BuildSlice
namespace Go.Proofs.YtemdnmfldihalaaGreatDoor.Lr
set_option maxHeartbeats 32000000
set_option maxRecDepth 100000
set_option linter.unusedVariables false
set_option linter.unusedSimpArgs false
open Go.ChangeShapes Go.WideShapes Go.ChangeAt Go.RowKit Lg Rf
theorem Fs.fr {b : Nat} {w w' : World} (h : Fs [b] w w') : Fr b w w' := ⟨h.os,h.tape,h.output,h.size,fun k hk hl => h.block k hk (by simpa using hl)⟩
theorem tabs_fs {b : Nat} {w w' : World} (ht : Tabs w) (hg : GL b) (h : Fs [b] w w') (hb : b < w.heap.size) : Tabs w' := tabs_fr ht hg h.fr (by omega)
def ExprOK (m : Nat) : Prop := ∀ (b : Nat) (s : ByteArray) (e : Int) (w : World),s.size ≤ 1200 → PB w b s e → Tabs w → GL b →
 Calls Tryz.prog 51 #[.pointer (some ⟨b,0,none⟩),.int .i64 (9 - (m : Int))] w fun r w' => ∃ (ex : Ex) (sl : Value),r = .returned (.agg (exA ex sl)) ∧ ExX w' (New w w') (m + 1) ex sl ∧ Rd w' b s.size e (exprT m (words s.data.toList)) (fun a => a = ex) ∧ Fs [b] w w'
structure ES (w W : World) (b : Nat) : Prop where
 fs : Fs [b] w W
 D : Bk W w.heap.size [.int .i64 0,.int .i64 0,.string ⟨#[]⟩,.slice none 0 0] 93
theorem ES.step {w W W' : World} {b : Nat} (h : ES w W b) (hb : b < w.heap.size) (k : Fs [b] W W') : ES w W' b := ⟨h.fs.trans k,h.D.fs k (by simp; omega)⟩
def exprW (w : World) : World := w.alloc (.cells #[.int .i64 0,.int .i64 0,.string ⟨#[]⟩,.slice none 0 0] 93)
theorem exprW_es (w : World) (b : Nat) : ES w (exprW w) b := ⟨(Fs.refl _ w).up _,Bk.new w [.int .i64 0,.int .i64 0,.string ⟨#[]⟩,.slice none 0 0] 93⟩
theorem ExX.none {w : World} {X : Nat → Prop} (m : Nat) (k n : Int) (nm : List UInt8) : ExX w X (m + 1) ⟨k,n,nm,[]⟩ (.slice none 0 0) := .inl ⟨rfl,rfl⟩
theorem expr_zero : ExprOK 0 := by
 intro b s e w hs h ht hg
 have hbl := h.lt
 have HC := keep (bad_any b s e 9 (exprW w) (h.up _))
 have HEs := keep (exprW_es w b)
 clear h ht hg
 show Calls _ _ #[_,.int .i64 9] _ _
 go_enter Tryz.func51,Tryz.ntmps51
 go_wp2_with fail
 change Calls _ _ _ (exprW w) _
 refine HC.out.mono ?_
 rintro r w1 ⟨rfl,hp,hf⟩
 have HE1 := keep (HEs.out.step hbl hf.fs)
 have HD1 := keep HE1.out.D
 have HP1 := keep hp
 clear hp hf HC HEs
 go_wp2_with (first
  | refine wpList_store_row rfl 93 (.tmp 4) (.tmp 16) rfl w.heap.size #[.int .i64 0,.int .i64 0,.string ⟨#[]⟩,.slice none 0 0] rfl rfl 93 #[.int .i64 0,.int .i64 0,.string ⟨#[]⟩,.slice none 0 0] HD1.out (info_E [.int .i64 0,.int .i64 0,.string ⟨#[]⟩,.slice none 0 0] rfl) rfl (by simp [Value.oneCell']) ?_)
 (try simp only [Exit.inBlock,Exit.then])
 refine bodyPost_ret (results_cell_row rfl _ _ w.heap.size _ #[.int .i64 0,.int .i64 0,.string ⟨#[]⟩,.slice none 0 0] (0,0) _ rfl (setRow_heap _ _ _ _ _ _ HD1.out) Tryz.underlying93 rfl (info_E [.int .i64 0,.int .i64 0,.string ⟨#[]⟩,.slice none 0 0] rfl)) rfl ?_
 refine ⟨⟨0,0,[],[]⟩,.slice none 0 0,rfl,ExX.none 0 _ _ _,?_,HE1.out.fs.row (Nat.le_refl _) _⟩
 exact rd_bad (HP1.out.row (D:=w.heap.size) (by omega) _) (Nat.le_refl _) (by decide)
theorem expr_atom (m : Nat) (hm : m ≤ 8) (b : Nat) (s : ByteArray) (e : Int) (w : World) (hs : s.size ≤ 1200) (h : PB w b s e) (ht : Tabs w) (hg : GL b) (hop : ¬ wd s.data.toList = [40]) :
 Calls Tryz.prog 51 #[.pointer (some ⟨b,0,none⟩),.int .i64 (8 - (m : Int))] w fun r w' => ∃ (ex : Ex) (sl : Value),r = .returned (.agg (exA ex sl)) ∧ ExX w' (New w w') (m + 2) ex sl ∧ Rd w' b s.size e (exprT (m + 1) (words s.data.toList)) (fun a => a = ex) ∧ Fs [b] w w' := by
 have hbl := h.lt
 have HTf : Hid (∀ W,Fs [b] w W → Tabs W) := fun W hW => tabs_fs ht hg hW hbl
 have HEs := keep (exprW_es w b)
 have HC := keep (w_rd b s (by omega) e (exprW w) (h.up _))
 have hd : decide (8 < 8 - (m : Int)) = false := decide_eq_false (by omega)
 have hl := wd_len s
 have HNum : Hid (∀ v,Tabs v → Calls Tryz.prog 38 #[.string ⟨(wd s.data.toList).toArray⟩] v fun r w' => NumEnds (wd s.data.toList) r ∧ Below v.heap.size v w') := fun v hv =>
  number_any ⟨(wd s.data.toList).toArray⟩ (by rw [size_mk]; omega) v hv
 have HNam : Hid (∀ v,Calls Tryz.prog 37 #[.string ⟨(wd s.data.toList).toArray⟩] v fun r w' => r = .returned (.bool (isName (wd s.data.toList))) ∧ Below v.heap.size v w') := fun v =>
  name_any ⟨(wd s.data.toList).toArray⟩ (by rw [size_mk]; omega) v
 clear h ht hg
 generalize 8 - (m : Int) = a8 at *
 generalize words s.data.toList = Ws at *
 generalize wd s.data.toList = W at *
 have hopb : (W == [40]) = false := by simpa using hop
 have HOp := keep hop
 clear hop
 go_enter Tryz.func51,Tryz.ntmps51
 go_wp2_with fail
 change Calls _ _ _ (exprW w) _
 refine HC.out.mono ?_
 rintro r w1 ⟨rfl,hr,hf⟩
 obtain ⟨s1,e1,hp,hn,h1,h2⟩ := hr
 have HE1 := keep (HEs.out.step hbl hf.fs)
 have HP1 := keep hp
 have H1 := keep h1
 have H2 := keep h2
 clear hp hf h1 h2 HC HEs
 go_wp2_with fail
 refine (HNum.out _ (HTf.out _ HE1.out.fs)).mono ?_
 rintro r w2 ⟨⟨m0,rfl,hm0⟩,hb2⟩
 have HM := keep hm0
 have HE2 := keep (HE1.out.step hbl (Fs.of_below hb2))
 have HP2 := keep (HP1.out.below hb2)
 have HD2 := keep HE2.out.D
 clear hb2 hm0 HE1 HP1 HNum
 obtain ⟨q,hq⟩ : ∃ q,Wd.isNum W = q := ⟨_,rfl⟩
 have HQ := keep hq
 rw [hq]
 clear hq
 cases q with
 | true =>
  go_wp2_with (first
   | refine wpList_store_row rfl 93 (.tmp 4) (.tmp 28) rfl w.heap.size #[.int .i64 1,.int .i64 m0,.string ⟨#[]⟩,.slice none 0 0] rfl rfl 93 #[.int .i64 0,.int .i64 0,.string ⟨#[]⟩,.slice none 0 0] HD2.out (info_E [.int .i64 1,.int .i64 m0,.string ⟨#[]⟩,.slice none 0 0] rfl) rfl (by simp [Value.oneCell']) ?_)
  (try simp only [Exit.inBlock,Exit.then])
  refine bodyPost_ret (results_cell_row rfl _ _ w.heap.size _ #[.int .i64 1,.int .i64 m0,.string ⟨#[]⟩,.slice none 0 0] (0,0) _ rfl (setRow_heap _ _ _ _ _ _ HD2.out) Tryz.underlying93 rfl (info_E [.int .i64 1,.int .i64 m0,.string ⟨#[]⟩,.slice none 0 0] rfl)) rfl ?_
  refine ⟨⟨1,m0,[],[]⟩,.slice none 0 0,rfl,ExX.none (m + 1) _ _ _,?_,HE2.out.fs.row (Nat.le_refl _) _⟩
  rw [exprT]
  refine rd_then (x:=W) (n1:=s.size) H1.out H2.out ?_ (Nat.le_refl _)
  rw [if_neg HOp.out,if_pos HQ.out]
  exact rd_ok (HP2.out.row (D:=w.heap.size) (by omega) _) hn (by rw [HM.out HQ.out])
 | false =>
  obtain ⟨q2,hq2⟩ : ∃ q2,isName W = q2 := ⟨_,rfl⟩
  have HQ2 := keep hq2
  rw [hq2] at HNam
  clear hq2
  cases q2 with
  | true =>
   go_wp2_with fail
   refine (HNam.out _).mono ?_
   rintro r w3 ⟨rfl,hb3⟩
   have HE3 := keep (HE2.out.step hbl (Fs.of_below hb3))
   have HP3 := keep (HP2.out.below hb3)
   have HD3 := keep HE3.out.D
   clear hb3 HE2 HP2 HD2 HNam
   go_wp2_with (first
    | refine wpList_store_row rfl 93 (.tmp 4) (.tmp 35) rfl w.heap.size #[.int .i64 2,.int .i64 0,.string ⟨W.toArray⟩,.slice none 0 0] rfl rfl 93 #[.int .i64 0,.int .i64 0,.string ⟨#[]⟩,.slice none 0 0] HD3.out (info_E [.int .i64 2,.int .i64 0,.string ⟨W.toArray⟩,.slice none 0 0] rfl) rfl (by simp [Value.oneCell']) ?_)
   (try simp only [Exit.inBlock,Exit.then])
   refine bodyPost_ret (results_cell_row rfl _ _ w.heap.size _ #[.int .i64 2,.int .i64 0,.string ⟨W.toArray⟩,.slice none 0 0] (0,0) _ rfl (setRow_heap _ _ _ _ _ _ HD3.out) Tryz.underlying93 rfl (info_E [.int .i64 2,.int .i64 0,.string ⟨W.toArray⟩,.slice none 0 0] rfl)) rfl ?_
   refine ⟨⟨2,0,W,[]⟩,.slice none 0 0,rfl,ExX.none (m + 1) _ _ _,?_,HE3.out.fs.row (Nat.le_refl _) _⟩
   rw [exprT]
   refine rd_then (x:=W) (n1:=s.size) H1.out H2.out ?_ (Nat.le_refl _)
   rw [if_neg HOp.out,if_neg (by rw [HQ.out]; decide),if_pos HQ2.out]
   exact rd_ok (HP3.out.row (D:=w.heap.size) (by omega) _) hn rfl
  | false =>
   go_wp2_with fail
   refine (HNam.out _).mono ?_
   rintro r w3 ⟨rfl,hb3⟩
   have HE3 := keep (HE2.out.step hbl (Fs.of_below hb3))
   have HP3 := keep (HP2.out.below hb3)
   clear hb3 HE2 HP2 HD2 HNam
   go_wp2_with fail
   refine (bad_any b s1 e1 7 _ HP3.out).mono ?_
   rintro r w4 ⟨rfl,hp4,hf4⟩
   have HE4 := keep (HE3.out.step hbl hf4.fs)
   have HP4 := keep hp4
   have HD4 := keep HE4.out.D
   clear hp4 hf4 HE3 HP3
   go_wp2_with (first
    | refine wpList_store_row rfl 93 (.tmp 4) (.tmp 35) rfl w.heap.size #[.int .i64 2,.int .i64 0,.string ⟨W.toArray⟩,.slice none 0 0] rfl rfl 93 #[.int .i64 0,.int .i64 0,.string ⟨#[]⟩,.slice none 0 0] HD4.out (info_E [.int .i64 2,.int .i64 0,.string ⟨W.toArray⟩,.slice none 0 0] rfl) rfl (by simp [Value.oneCell']) ?_)
   (try simp only [Exit.inBlock,Exit.then])
   refine bodyPost_ret (results_cell_row rfl _ _ w.heap.size _ #[.int .i64 2,.int .i64 0,.string ⟨W.toArray⟩,.slice none 0 0] (0,0) _ rfl (setRow_heap _ _ _ _ _ _ HD4.out) Tryz.underlying93 rfl (info_E [.int .i64 2,.int .i64 0,.string ⟨W.toArray⟩,.slice none 0 0] rfl)) rfl ?_
   refine ⟨⟨2,0,W,[]⟩,.slice none 0 0,rfl,ExX.none (m + 1) _ _ _,?_,HE4.out.fs.row (Nat.le_refl _) _⟩
   rw [exprT]
   refine rd_then (x:=W) (n1:=s.size) H1.out H2.out ?_ (Nat.le_refl _)
   rw [if_neg HOp.out,if_neg (by rw [HQ.out]; decide),if_neg (by rw [HQ2.out]; decide)]
   exact rd_bad (HP4.out.row (D:=w.heap.size) (by omega) _) hn (by decide)
theorem rs_bytes (s : ByteArray) : (⟨(rs s.data.toList).toArray⟩ : ByteArray).data.toList = rs s.data.toList := by simp
theorem w_ex (b : Nat) (s : ByteArray) (hs : s.size ≤ 281474976710656) (e : Int) (w : World) (h : PB w b s e) :
  Calls Tryz.prog 36 #[.pointer (some ⟨b,0,none⟩)] w fun r w' => r = .returned (.string ⟨(wd s.data.toList).toArray⟩) ∧ (∃ e',PB w' b ⟨(rs s.data.toList).toArray⟩ e' ∧ (¬ e = 0 → e' = e) ∧ (e = 0 → (∀ x,next (words s.data.toList) = .error x → e' = x ∧ ¬ x = 0) ∧ ∀ a r,next (words s.data.toList) = .ok (a,r) → e' = 0 ∧ words (rs s.data.toList) = r ∧ a = wd s.data.toList)) ∧ Fr b w w' := by
 refine (w_any b s hs e w h).mono ?_
 rintro r w' ⟨rfl,hp,hf⟩
 refine ⟨rfl,⟨_,hp,fun he => ?_,fun he => ?_⟩,hf⟩
 ·by_cases hw : wd s.data.toList = []
  ·rw [if_pos hw,first_ne he]
  ·rw [if_neg hw]
 ·subst he
  rw [next_words]
  by_cases hw : wd s.data.toList = []
  ·rw [if_pos hw,if_pos hw,first_zero]
   exact ⟨fun x hx => (by cases hx; exact ⟨rfl,by decide⟩),fun a r hx => (by cases hx)⟩
  ·rw [if_neg hw,if_neg hw]
   refine ⟨fun x hx => (by cases hx),fun a r hx => ?_⟩
   cases hx
   exact ⟨rfl,rfl,rfl⟩
theorem w_pack (b : Nat) (s : ByteArray) (hs : s.size ≤ 281474976710656) (X : List UInt8) (hX : wd s.data.toList = X) : ∃ s1 : ByteArray,s1.data.toList = rs s.data.toList ∧ s1.size ≤ s.size ∧ ∀ (e : Int) (w : World),PB w b s e →
  Calls Tryz.prog 36 #[.pointer (some ⟨b,0,none⟩)] w fun r w' => r = .returned (.string ⟨X.toArray⟩) ∧ (∃ e',PB w' b s1 e' ∧ (¬ e = 0 → e' = e) ∧ (e = 0 → (∀ x,next (words s.data.toList) = .error x → e' = x ∧ ¬ x = 0) ∧ ∀ a r,next (words s.data.toList) = .ok (a,r) → e' = 0 ∧ words s1.data.toList = r ∧ a = X)) ∧ Fr b w w' := by
 subst hX
 refine ⟨⟨(rs s.data.toList).toArray⟩,by simp,rs_len s,fun e w h => ?_⟩
 refine (w_ex b s hs e w h).mono ?_
 rintro r w' ⟨rfl,⟨e',hp,h1,h2⟩,hf⟩
 refine ⟨rfl,⟨e',hp,h1,?_⟩,hf⟩
 rw [rs_bytes]; exact h2
structure MS (w W : World) (b E : Nat) (l : List Value) : Prop where
 fs : Fs [b] w W
 D : Bk W w.heap.size [.int .i64 0,.int .i64 0,.string ⟨#[]⟩,.slice none 0 0] 93
 E : Bk W E l 93
theorem MS.step {w W W' : World} {b E : Nat} {l : List Value} (h : MS w W b E l) (hb : b < w.heap.size) (hE : w.heap.size < E) (k : Fs [b] W W') : MS w W' b E l :=
 ⟨h.fs.trans k,h.D.fs k (by simp; omega),h.E.fs k (by simp; omega)⟩
theorem MS.set {w W : World} {b E : Nat} {l : List Value} (h : MS w W b E l) (hE : w.heap.size < E) (i : Nat) (v : Value) : MS w (W.setCell ⟨E,i,none⟩ v) b E (l.set i v) :=
 ⟨⟨h.fs.os,h.fs.tape,h.fs.output,by simp [World.setCell]; exact h.fs.size,fun k hk hl => by
   rw [Below.heap_setCell _ _ _ _ (by show k ≠ E; omega)]; exact h.fs.block k hk hl⟩,h.D.far _ _ (by omega),h.E.set i v⟩
theorem MS.grow {w W W' : World} {b E : Nat} {l : List Value} (h : MS w W b E l) (hE : w.heap.size < E) (os : W'.os = W.os) (tape : W'.tape = W.tape) (output : W'.output = W.output) (size : W.heap.size ≤ W'.heap.size) (k : ∀ i,i ≤ E → W'.heap[i]? = W.heap[i]?) : MS w W' b E l :=
 ⟨⟨os.trans h.fs.os,tape.trans h.fs.tape,output.trans h.fs.output,Nat.le_trans h.fs.size size,fun i hi hl => (k i (by omega)).trans (h.fs.block i hi hl)⟩,
  by have := h.D; unfold Bk at this ⊢; rw [k _ (by omega)]; exact this,by have := h.E; unfold Bk at this ⊢; rw [k _ (Nat.le_refl _)]; exact this⟩
theorem rd_go {β : Type} {w2 : World} {b n n1 : Nat} {e e1 : Int} {s1 : ByteArray} {res : Res Unit} {f : Unit → List (List UInt8) → Res β} {post : β → Prop}
  (h1 : ¬ e = 0 → e1 = e) (h2 : e = 0 → (∀ y,res = .error y → e1 = y ∧ ¬ y = 0) ∧ ∀ a r,res = .ok (a,r) → e1 = 0 ∧ words s1.data.toList = r ∧ True)
  (h : Rd w2 b n1 e1 (f () (words s1.data.toList)) post) (hn : n1 ≤ n) : Rd w2 b n e (andT res f) post :=
 rd_then (x:=()) h1 (fun he => ⟨(h2 he).1,fun a r hr => ⟨((h2 he).2 a r hr).1,((h2 he).2 a r hr).2.1,rfl⟩⟩) h hn
theorem head_sel (q : List (List UInt8)) : headT [115,101,108] q = .ok ((4,0,[]),q) := rfl
theorem head_at (q : List (List UInt8)) : headT [97,116] q = andT (nameT q) fun x r => .ok ((5,0,x),r) := rfl
theorem head_sign {W : List UInt8} (h1 : ¬ W = [115,101,108]) (h2 : ¬ W = [97,116]) (q : List (List UInt8)) : headT W q = if signOf W = 0 then .error 1 else .ok ((3,(signOf W : Nat),[]),q) := by
 unfold headT
 rw [if_neg h1,if_neg h2]
theorem wrap_up (m : Nat) (hm : m ≤ 9) : IntKind.i64.wrap (8 - (m : Int) + 1) = 9 - (m : Int) := by
 have h : IntKind.i64.wrap (8 - (m : Int) + 1) = 8 - (m : Int) + 1 := by
  rw [IntKind.wrap_i64]; omega
 omega
structure Parts (f : List (List UInt8) → Res Ex) (n k : Nat) (e0 e : Int) (l0 l : List (List UInt8)) (us : List Ex) : Prop where
 was : ¬ e0 = 0 → e = e0
 bad : e0 = 0 → ¬ e = 0 → manyT f n l0 = .error e
 good : e0 = 0 → e = 0 → manyT f n l0 = pre us (manyT f (n - k) l)
theorem Parts.nil (f : List (List UInt8) → Res Ex) (n : Nat) (e : Int) (l : List (List UInt8)) : Parts f n 0 e e l l [] := ⟨fun _ => rfl,fun h h' => absurd h h',fun _ _ => pre_nil _⟩
theorem Parts.more {f : List (List UInt8) → Res Ex} {n k : Nat} {e0 e e2 : Int} {l0 l l2 : List (List UInt8)} {us : List Ex} {x : Ex} (h : Parts f n k e0 e l0 l us) (hk : k < n) (k1 : ¬ e = 0 → e2 = e)
  (k2 : e = 0 → (∀ y,f l = .error y → e2 = y ∧ ¬ y = 0) ∧ ∀ a r,f l = .ok (a,r) → e2 = 0 ∧ l2 = r ∧ a = x) : Parts f n (k + 1) e0 e2 l0 l2 (us ++ [x]) := by
 have hsp : n - k = (n - (k + 1)) + 1 := by omega
 refine ⟨fun he => ?_,fun he he2 => ?_,fun he he2 => ?_⟩
 ·have := h.was he
  rw [k1 (by rw [this]; exact he),this]
 ·by_cases he' : e = 0
  ·obtain ⟨k3,k4⟩ := k2 he'
   rw [h.good he he',hsp]
   cases hfr : f l with
   | error y => rw [many_bad _ hfr,(k3 y hfr).1]; rfl
   | ok pq =>
    obtain ⟨a',q'⟩ := pq
    exact absurd (k4 a' q' hfr).1 he2
  ·rw [k1 he']; exact h.bad he he'
 ·have he' : e = 0 := by
   by_cases g : e = 0
   ·exact g
   ·exact absurd ((k1 g).symm.trans he2) g
  obtain ⟨k3,k4⟩ := k2 he'
  rw [h.good he he',hsp]
  cases hfr : f l with
  | error y => exact absurd ((k3 y hfr).1 ▸ he2) (k3 y hfr).2
  | ok pq =>
   obtain ⟨a',q'⟩ := pq
   obtain ⟨_,g2,g3⟩ := k4 a' q' hfr
   rw [many_part _ hfr,pre_pre,g2,g3]
theorem Parts.done {f : List (List UInt8) → Res Ex} {n : Nat} {e0 e : Int} {l0 l : List (List UInt8)} {us : List Ex} (h : Parts f n n e0 e l0 l us) (hz : NZ (manyT f n l0)) : (¬ e0 = 0 → e = e0) ∧ (e0 = 0 → (∀ y,manyT f n l0 = .error y → e = y ∧ ¬ y = 0) ∧ ∀ a r,manyT f n l0 = .ok (a,r) → e = 0 ∧ l = r ∧ a = us) := by
 refine ⟨h.was,fun he => ?_⟩
 by_cases he2 : e = 0
 ·have hg := h.good he he2
  rw [Nat.sub_self] at hg
  have hg' : manyT f n l0 = .ok (us,l) := by rw [hg]; simp [manyT,pre]
  rw [hg']
  exact ⟨fun y hy => (by cases hy),fun a r hr => (by cases hr; exact ⟨he2,rfl,rfl⟩)⟩
 ·have hb := h.bad he he2
  rw [hb]
  exact ⟨fun y hy => (by cases hy; exact ⟨rfl,he2⟩),fun a r hr => (by cases hr)⟩
theorem made_sel (m : Nat) (hm : m ≤ 8) (ih : ExprOK m) (b : Nat) (s : ByteArray) (e : Int) (w : World) (hs : s.size ≤ 1200) (h : PB w b s e) (ht : Tabs w) (hg : GL b) (hop : wd s.data.toList = [40]) (hw2 : wd (rs s.data.toList) = [115,101,108]) :
  Calls Tryz.prog 51 #[.pointer (some ⟨b,0,none⟩),.int .i64 (8 - (m : Int))] w fun r w' => ∃ (ex : Ex) (sl : Value),r = .returned (.agg (exA ex sl)) ∧ ExX w' (New w w') (m + 2) ex sl ∧ Rd w' b s.size e (exprT (m + 1) (words s.data.toList)) (fun a => a = ex) ∧ Fs [b] w w' := by
 have hbl := h.lt
 have HTf : Hid (∀ W,Fs [b] w W → Tabs W) := fun W hW => tabs_fs ht hg hW hbl
 have HEs := keep (exprW_es w b)
 obtain ⟨s1,hs1d,hs1,hpk⟩ := w_pack b s (by omega) _ hop
 have HC1 := keep (hpk e (exprW w) (h.up _))
 have HC2 := keep (fun e1 W (hp : PB W b s1 e1) => w_rd b s1 (by omega) e1 W hp)
 have hw2' := congrArg wd hs1d
 rw [hw2] at hw2'
 rw [hw2'] at HC2
 have hd : decide (8 < 8 - (m : Int)) = false := decide_eq_false (by omega)
 have IH := keep (fun s e w hs h ht => ih b s e w hs h ht hg)
 have hw8 : IntKind.i64.wrap (8 - (m : Int) + 1) = 9 - (m : Int) := wrap_up m (by omega)
 obtain ⟨i0,hi0,hz0,hz1,hz2⟩ := info_parts infoE
 have HEx1 : Hid (exprT (m + 1) (words s.data.toList) = andT (next (words s.data.toList)) fun w r => if w = [40] then andT (next r) fun k q => andT (headT k q) fun h q => andT (manyT (exprT m) (arity h.1) q) fun as_ q => andT (want [41] q) fun _ q => .ok (⟨h.1,h.2.1,h.2.2,as_⟩,q) else if Wd.isNum w = true then .ok (⟨1,(Wd.val w : Int),[],[]⟩,r) else if isName w = true then .ok (⟨2,0,w,[]⟩,r) else .error 7) := rfl
 rw [HEx1.out]
 clear h ht hg ih hpk HEx1 hop hs1d hw2' hw2
 generalize hm9 : 9 - (m : Int) = a9 at *
 generalize hm8 : 8 - (m : Int) = a8 at *
 clear hm8 hm9
 have HN := keep (Nat.le_refl s.size)
 generalize words s.data.toList = Ws at *
 go_enter Tryz.func51,Tryz.ntmps51
 go_wp2_with fail
 change Calls _ _ _ (exprW w) _
 refine HC1.out.mono ?_
 rintro r w1 ⟨rfl,⟨e1,hp1,h11,h12⟩,hf1⟩
 have HE1 := keep (HEs.out.step hbl hf1.fs)
 have HP1 := keep hp1
 have H11 := keep h11
 have H12 := keep h12
 clear hp1 h11 h12 hf1 HC1 HEs
 go_wp2_with fail
 refine (HC2.out e1 w1 HP1.out).mono ?_
 rintro r w2 ⟨rfl,hr2,hf2⟩
 obtain ⟨s2,e2,hp2,hn2,h21,h22⟩ := hr2
 have HE2 := keep (HE1.out.step hbl hf2.fs)
 have H21 := keep h21
 have H22 := keep h22
 have HD := keep (Bk.new w2 [.int .i64 0,.int .i64 0,.string ⟨#[]⟩,.slice none 0 0] 93)
 have hwE : w.heap.size < w2.heap.size := HE2.out.D.lt
 obtain ⟨w3,hw3⟩ : ∃ w3,(w2.alloc (.cells #[.int .i64 0,.int .i64 0,.string ⟨#[]⟩,.slice none 0 0] 93)).setRow w2.heap.size #[.int .i64 0,.int .i64 0,.string ⟨#[]⟩,.slice none 0 0] = w3 := ⟨_,rfl⟩
 have HM3 : Hid (MS w w3 b w2.heap.size [.int .i64 0,.int .i64 0,.string ⟨#[]⟩,.slice none 0 0]) := by
  show MS _ _ _ _ _
  rw [← hw3]
  exact ⟨(HE2.out.fs.up _).row (by omega) _,by have := HE2.out.D.up (.cells #[.int .i64 0,.int .i64 0,.string ⟨#[]⟩,.slice none 0 0] 93); unfold Bk at this ⊢; rw [setRow_other _ _ _ _ (by omega)]; exact this,setRow_heap _ _ _ _ _ _ HD.out⟩
 have HP3 : Hid (PB w3 b s2 e2) := by
  show PB _ _ _ _
  rw [← hw3]; exact (hp2.up _).row (by omega) _
 clear hp2 h21 h22 hf2 HC2 HP1 HE1
 obtain ⟨w4,hw4⟩ : ∃ w4,w3.setCell ⟨w2.heap.size,0,none⟩ (.int .i64 4) = w4 := ⟨_,rfl⟩
 have HMz : Hid (MS w w4 b w2.heap.size [.int .i64 4,.int .i64 0,.string ⟨#[]⟩,.slice none 0 0]) := by
  show MS _ _ _ _ _
  rw [← hw4]; exact HM3.out.set hwE 0 _
 have HPz : Hid (PB w4 b s2 e2) := by
  show PB _ _ _ _
  rw [← hw4]; exact HP3.out.far (by omega) 0 _
 have c0 := HM3.out.E.cell 0 rfl
 have f0 := HM3.out.E.fr 0
 go_wp2_with (first
  | refine wpList_store_row rfl 93 (.tmp 8) (.tmp 38) rfl w2.heap.size #[.int .i64 0,.int .i64 0,.string ⟨#[]⟩,.slice none 0 0] rfl rfl 93 #[.int .i64 0,.int .i64 0,.string ⟨#[]⟩,.slice none 0 0] HD.out (info_E [.int .i64 0,.int .i64 0,.string ⟨#[]⟩,.slice none 0 0] rfl) rfl (by simp [Value.oneCell']) ?_
  | rw [hw3])
 clear hw3 hw4 c0 f0 HD HM3 HP3 HE2
 generalize w2.heap.size = E at *
 go_loopw [73] (fun i wx => ∃ (k : Nat) (s' : ByteArray) (e' : Int) (es : List (Ex × Value)) (v : Value),k ≤ 3 ∧ i = .int .i64 (k : Int) ∧ es.length = k ∧ PB wx b s' e' ∧ s'.size ≤ s.size ∧ MS w wx b E [.int .i64 4,.int .i64 0,.string ⟨#[]⟩,v] ∧ RowE (m + 1) wx (E + 1) v es ∧ Parts (exprT m) 3 k e2 e' (words s2.data.toList) (words s'.data.toList) (es.map (·.1))) (fun i _ => 3 - (intOf i).toNat)
 case atStart => exact ⟨0,s2,e2,[],.slice none 0 0,by omega,rfl,rfl,HPz.out,by omega,HMz.out,RowX.nil _ _,Parts.nil _ _ _ _⟩
 case round =>
  obtain ⟨k,s',e',es,v,hkn,rfl,hlen,hp,hsz,hms,hrow,hparts⟩ := hrel
  obtain ⟨pv,nv,cv,rfl⟩ := hrow.slice
  have hnv := hrow.len
  subst hnv
  subst hlen
  have HP2 := keep hp
  have HRow := keep hrow
  have HMs := keep hms
  have HPt := keep hparts
  have hEl : E < wr.heap.size := hms.E.lt
  clear hp hrow hms hparts HPz HMz
  by_cases hkl : es.length < 3
  ·have d1 : decide ((es.length : Int) < 3) = true := decide_eq_true (by omega)
   have HVo := keep (fun i => HRow.out.own.lt i)
   have HC := keep (fun W hp ht => IH.out s' e' W (by omega) hp ht)
   have HPd : Hid (PB wr.drew b s' e') := HP2.out
   have HMd : Hid (MS w wr.drew b E [.int .i64 4,.int .i64 0,.string ⟨#[]⟩,.slice pv es.length cv]) := ⟨⟨HMs.out.fs.os,HMs.out.fs.tape,HMs.out.fs.output,HMs.out.fs.size,HMs.out.fs.block⟩,HMs.out.D,HMs.out.E⟩
   have HRd0 : Hid (RowE (m + 1) wr.drew (E + 1) (.slice pv es.length cv) es) := RowX.fs (l:=[]) (nestE_nest _) HRow.out ⟨rfl,rfl,rfl,Nat.le_refl _,fun _ _ _ => rfl⟩ (by simp)
   have hS : (fun W' : World => W'.cell? ⟨E,3,none⟩ = some (.slice pv es.length cv)) wr.drew := HMd.out.E.cell 3 rfl
   have hEd : E < wr.drew.heap.size := hEl
   have hWd : wr.drew.heap.size = wr.heap.size := rfl
   clear HP2 HRow HMs
   go_wp2_with fail
   refine wp_region_noPanic ?_
   refine Ord.wpM_begin (fun W' : World => W'.cell? ⟨E,3,none⟩ = some (.slice pv es.length cv)) [0,1,2,3,4,5,6,7] (by kernel_rfl) ?_
   generalize wr.drew = Wd at *
   refine Ord.tk (i:=0) (v:=.pointer (some ⟨E,3,none⟩)) (hy:=Or.inl ⟨by rfl,by intro W' hW; have q0 : W'.cell? ⟨E,3,none⟩ = some (.slice pv es.length cv) := hW; go_simp⟩) (hS:=hS) (h:=?_)
   try simp only [Act.put,Ord.t,Ord.z,Ord.s]
   refine Ord.tk (i:=1) (v:=.slice pv es.length cv) (hy:=Or.inl ⟨by rfl,by intro W' hW; have q0 : W'.cell? ⟨E,3,none⟩ = some (.slice pv es.length cv) := hW; go_simp⟩) (hS:=hS) (h:=?_)
   try simp only [Act.put,Ord.t,Ord.z,Ord.s]
   refine Ord.tk (i:=2) (v:=.pointer (some ⟨b,0,none⟩)) (hy:=Or.inl ⟨by rfl,by intro W' hW; have q0 : W'.cell? ⟨E,3,none⟩ = some (.slice pv es.length cv) := hW; go_simp⟩) (hS:=hS) (h:=?_)
   try simp only [Act.put,Ord.t,Ord.z,Ord.s]
   refine Ord.tk (i:=3) (v:=.int .i64 a8) (hy:=Or.inl ⟨by rfl,by intro W' hW; have q0 : W'.cell? ⟨E,3,none⟩ = some (.slice pv es.length cv) := hW; go_simp⟩) (hS:=hS) (h:=?_)
   try simp only [Act.put,Ord.t,Ord.z,Ord.s]
   refine Ord.tk (i:=4) (v:=.int .i64 a9) (hy:=Or.inl ⟨by rfl,by intro W' hW; have q0 : W'.cell? ⟨E,3,none⟩ = some (.slice pv es.length cv) := hW; go_simp⟩) (hS:=hS) (h:=?_)
   try simp only [Act.put,Ord.t,Ord.z,Ord.s]
   refine Ord.on (i:=5) (h:=fun K hK => ?_)
   go_simp
   refine (HC.out _ HPd.out (HTf.out _ HMd.out.fs)).mono ?_
   rintro r w1 ⟨ex,sl,rfl,hex,hrd,hf1⟩
   obtain ⟨p,q,cap0,rfl⟩ := hex.slice
   have HEx := keep hex
   obtain ⟨s5,e5,hp5,hn5,h51,h52⟩ := hrd
   have HPt5 := keep (HPt.out.more hkl h51 h52)
   have HP5 := keep (hp5.up (.cells #[.int .i64 ex.kind,.int .i64 ex.n,.string ⟨ex.name.toArray⟩,.slice p q cap0] 93))
   have HM1 := keep (HMd.out.step hbl hwE hf1)
   have HRow1 := keep (RowX.fs (nestE_nest (m + 1)) HRd0.out hf1 (by simp; omega))
   have hws1 : Wd.heap.size ≤ w1.heap.size := hf1.size
   clear hex hp5 h51 h52 hf1 HC HPt HRd0 HMd HPd
   unfold exA
   go_simp
   refine hK.out _ _ (fun _ => HM1.out.E.cell 3 rfl) ?_
   clear hK K
   try simp only [Act.put,Ord.t,Ord.z,Ord.s]
   refine Ord.on (i:=6) (h:=fun K hK => ?_)
   go_simp
   have HA := keep (Fs.of_below (l:=[b]) ((Below.refl w1.heap.size w1).alloc (Nat.le_refl _) (.cells #[.int .i64 ex.kind,.int .i64 ex.n,.string ⟨ex.name.toArray⟩,.slice p q cap0] 93)))
   have HMa := keep (HM1.out.step hbl hwE HA.out)
   refine hK.out _ _ (fun _ => HMa.out.E.cell 3 rfl) ?_
   clear hK K
   have hown := (HRow1.out.own).alloc (.cells #[.int .i64 ex.kind,.int .i64 ex.n,.string ⟨ex.name.toArray⟩,.slice p q cap0] 93)
   try simp only [Act.put,Ord.t,Ord.z,Ord.s]
   refine Ord.on (i:=7) (h:=fun K hK => ?_)
   refine step_append_lies _ rfl (.tmp 76) (.tmp 81) 87 rfl (E + 1) 93 i0 _ 4 56 Tryz.underlying87 hi0 hz0 hz1 hz2 rfl (by decide) (.slice pv es.length cv) es.length (es.flatMap cellsE) rfl hown ⟨w1.heap.size,0,none⟩ 1 1 (cellsE (ex,.slice p q cap0)) rfl rfl (fun j u hj => new_cell w1 _ _ j u hj) ?c2 (by decide) ?c3 ?c4 ?c5 (w1.heap.size + 1) (by simp) ?_
   case c2 =>
    intro u hu
    simp only [cellsE,List.mem_cons,List.not_mem_nil,or_false] at hu
    rcases hu with rfl | rfl | rfl | rfl <;> rfl
   case c3 => unfold maxLen; omega
   case c4 => omega
   case c5 => simp; omega
   ·intro g cap w2 hown2 hgrow hat hlt
    have hex2 := ExX.keep (w' := w1.alloc (.cells #[.int .i64 ex.kind,.int .i64 ex.n,.string ⟨ex.name.toArray⟩,.slice p q cap0] 93)) (fun i (hi : New Wd w1 i) => HA.out.block i hi.2 (by have := hi.1; simp; omega)) HEx.out
    have HRow2 := keep (RowX.push (p:=(ex,.slice p q cap0)) (nestE_nest (m + 1)) (RowX.fs (nestE_nest (m + 1)) HRow1.out HA.out (by simp; omega)) (ExX.mono (fun i hi => ⟨by have := hi.1; omega,Nat.lt_of_lt_of_le hi.2 HA.out.size,fun hv => by have := (HVo.out i hv).2; have := hi.1; omega⟩) hex2) hown2 hgrow (by simpa using hat))
    have hk2 : ∀ i,i ≤ E → w2.heap[i]? = (w1.alloc (.cells #[.int .i64 ex.kind,.int .i64 ex.n,.string ⟨ex.name.toArray⟩,.slice p q cap0] 93)).heap[i]? := fun i hi =>
     hgrow.block i (by simp; omega) (fun hv => by have := (HVo.out i hv.symm).1; omega)
    have HM2 := keep (HMa.out.grow hwE hgrow.os hgrow.tape hgrow.output hgrow.size hk2)
    have HP6 : Hid (PB w2 b s5 e5) := by
     have hp := HP5.out
     show PB _ _ _ _
     unfold PB at hp ⊢
     rw [hk2 b (by omega)]; exact hp
    have hgE : E + 1 ≤ g := by
     rcases hat with h | h
     ·exact (HVo.out g h).1
     ·(try simp at h); omega
    refine hK.out _ _ (fun _ => HM2.out.E.cell 3 rfl) ?_
    clear hK K hown2 hgrow hat hown hk2 HMa HM1 HP5 HA HEx HRow1 hex2
    have c3 := HM2.out.E.cell 3 rfl
    have f3 := HM2.out.E.fr 3
    try simp only [Act.put,Ord.t,Ord.z,Ord.s]
    refine Ord.on (i:=8) (h:=fun K hK => ?_)
    go_simp
    refine hK.out _ _ (fun h => absurd h (by decide)) ?_
    clear hK K
    try simp only [Act.put,Ord.t,Ord.z,Ord.s]
    refine Ord.on (i:=9) (h:=fun K hK => ?_)
    go_simp
    refine hK.out _ _ (fun h => absurd h (by decide)) ?_
    clear hK K
    try simp only [Act.put,Ord.t,Ord.z,Ord.s]
    refine Ord.wpM_done (by kernel_rfl) ?_ _
    refine NoPanic.normal ?_
    go_wp2
    go_roundw
    case rel =>
     refine ⟨es.length + 1,s5,e5,es ++ [((ex,Value.slice p q cap0) : Ex × Value)],_,by omega,by go_num,by simp,HP6.out.far (by omega) 3 _,by omega,HM2.out.set hwE 3 _,?_,by rw [List.map_append]; exact HPt5.out⟩
     exact RowX.stay (nestE_nest _) HRow2.out (by simp [World.setCell]) (fun i h1 h2 => by rw [Below.heap_setCell _ _ _ _ (by show i ≠ E; omega)])
    case measure => simp [intOf]; omega
  ·have hke : es.length = 3 := by omega
   have dk : decide ((es.length : Int) < 3) = false := decide_eq_false (by omega)
   rw [hke] at HPt
   clear hke
   have HX := keep (RowX.args HRow.out (by have := hkn; omega))
   have HNz := keep (nz_many (nz_expr m) 3 (words s2.data.toList))
   clear hkl hkn
   go_wp2_with fail
   refine (is_rd b s' (by omega) e' ⟨#[41]⟩ wr HP2.out).mono ?_
   rintro r w6 ⟨rfl,hrd,hf⟩
   obtain ⟨s6,e6,hp6,hn6,h61,h62⟩ := hrd
   have HM6 := keep (HMs.out.step hbl hwE hf.fs)
   have HP6 := keep hp6
   have H61 := keep h61
   have H62 := keep h62
   have HX6 := keep (ExX.keep (w' := w6) (fun i (hi : E + 1 ≤ i ∧ i < wr.heap.size) => hf.fs.block i hi.2 (by have := hi.1; simp; omega)) HX.out)
   have hsz6 : wr.heap.size ≤ w6.heap.size := hf.size
   have HE6 := keep HM6.out.E
   have HD6 := keep HM6.out.D
   obtain ⟨us,hus⟩ : ∃ us,es.map (·.1) = us := ⟨_,rfl⟩
   rw [hus] at HX6 HPt
   clear hp6 hf h61 h62 HX HP2 HMs HRow
   go_wp2_with (first
    | refine wpList_load_row rfl 93 (.tmp 8) rfl E rfl 93 _ (0,0) _ HE6.out Tryz.underlying93 rfl (info_E _ rfl) ?_
    | refine wpList_store_row rfl 93 (.tmp 4) (.tmp 87) rfl w.heap.size #[.int .i64 4,.int .i64 0,.string ⟨#[]⟩,.slice pv es.length cv] rfl rfl 93 #[.int .i64 0,.int .i64 0,.string ⟨#[]⟩,.slice none 0 0] HD6.out (info_E [.int .i64 4,.int .i64 0,.string ⟨#[]⟩,.slice pv es.length cv] rfl) rfl (by simp [Value.oneCell']) ?_)
   (try simp only [Exit.inBlock,Exit.then])
   refine bodyPost_ret (results_cell_row rfl _ _ w.heap.size _ #[.int .i64 4,.int .i64 0,.string ⟨#[]⟩,.slice pv es.length cv] (0,0) _ rfl (setRow_heap _ _ _ _ _ _ HD6.out) Tryz.underlying93 rfl (info_E _ rfl)) rfl ?_
   have hp7 := HP6.out.row (D:=w.heap.size) (by omega) #[.int .i64 4,.int .i64 0,.string ⟨#[]⟩,.slice pv es.length cv]
   obtain ⟨hd1,hd2⟩ := HPt.out.done HNz.out
   refine ⟨⟨4,0,[],us⟩,.slice pv es.length cv,rfl,?_,?_,HM6.out.fs.row (Nat.le_refl _) _⟩
   ·refine ExX.args (e:=ar us) (ExX.mono (X:=fun i => E + 1 ≤ i ∧ i < wr.heap.size) (fun i hi => ⟨by have := hi.1; omega,by have := hi.2; simp; omega⟩) (ExX.keep (fun i hi => setRow_other _ _ _ _ (by have := hi.1; omega)) HX6.out)) rfl
   ·refine rd_then (x:=[40]) (n1:=s.size) H11.out H12.out ?_ (Nat.le_refl _)
    rw [if_pos rfl]
    refine rd_then (x:=[115,101,108]) (n1:=s.size) H21.out H22.out ?_ (Nat.le_refl _)
    rw [head_sel,andT_ok]
    refine rd_then (x:=us) (n1:=s.size) hd1 hd2 ?_ (Nat.le_refl _)
    refine rd_go (n1:=s.size) H61.out H62.out ?_ (Nat.le_refl _)
    exact rd_ok hp7 (by omega) rfl
end Go.Proofs.YtemdnmfldihalaaGreatDoor.Lr
