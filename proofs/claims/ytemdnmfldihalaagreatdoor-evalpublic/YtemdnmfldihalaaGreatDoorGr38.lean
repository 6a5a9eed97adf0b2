/- Laid together: LdStOk, LdVar, LdPar, LdArr, LdAll, LdPw. -/
import Derived.Test.YtemdnmfldihalaaGreatDoorGr34
import Derived.Test.YtemdnmfldihalaaGreatDoorGr35
import Derived.Test.YtemdnmfldihalaaGreatDoorLdStIf
import Derived.Test.YtemdnmfldihalaaGreatDoorGr37
namespace Go.Proofs.YtemdnmfldihalaaGreatDoor.Lr
set_option linter.unusedVariables false
set_option linter.unusedSimpArgs false
open Go.ChangeShapes Go.WideShapes Go.ChangeAt Go.RowKit Lg Rf
theorem stmt_succ (m : Nat) (hm : m ≤ 8) (ih : StmtOK m) : StmtOK (m + 1) := by
 intro b s e w hs h ht hg
 rw [show (9 : Int) - ((m + 1 : Nat) : Int) = 8 - (m : Int) by push_cast; omega]
 by_cases h1 : wd (rs s.data.toList) = [108,101,116]
 ·exact stmt_let m hm ih b s e w hs h ht hg h1
 by_cases h2 : wd (rs s.data.toList) = [115,101,116]
 ·exact stmt_set m hm ih b s e w hs h ht hg h2
 by_cases h3 : wd (rs s.data.toList) = [112,117,116]
 ·exact stmt_put m hm ih b s e w hs h ht hg h3
 by_cases h4 : wd (rs s.data.toList) = [105,102]
 ·exact stmt_if m hm ih b s e w hs h ht hg h4
 by_cases h5 : wd (rs s.data.toList) = [102,111,114]
 ·exact stmt_for m hm ih b s e w hs h ht hg h5
 by_cases h6 : wd (rs s.data.toList) = [114,101,116]
 ·exact stmt_ret m hm ih b s e w hs h ht hg h6
 ·exact stmt_no m hm ih b s e w hs h ht hg _ (by unfold kindOf; rw [if_neg h1,if_neg h2,if_neg h3,if_neg h4,if_neg h5,if_neg h6]) rfl
theorem stmt_ok : ∀ m : Nat,m ≤ 9 → StmtOK m
 | 0,_ => stmt_zero
 | m + 1,h => stmt_succ m (by omega) (stmt_ok m (by omega))
theorem RowV.own {w w' : World} {lo : Nat} {v : Value} {es : List Vr} (h : RowV w lo v es) (hb : ∀ i,v.ownBlock = some i → w'.heap[i]? = w.heap[i]?) : RowV w' lo v es := by
 refine ⟨?_,fun p hp => trivial⟩
 obtain ⟨h1,h2⟩ := RowX.own h
 refine ⟨h1,?_⟩
 rcases h2 with h2 | ⟨g,cap,cur,a1,a2,a3,a4⟩
 ·exact .inl h2
 ·exact .inr ⟨g,cap,cur,a1,a2,by rw [hb g (by rw [a1]; rfl)]; exact a3,a4⟩
structure VS (w W : World) (b R Fb lo : Nat) (l : List Value) (v : Value) (es : List Vr) : Prop where
 fh : Fh lo [b,Fb] w W
 R : Bk W R [.pointer (some ⟨b,0,none⟩)] 49
 F : Bk W Fb l 29
 row : RowV W lo v es
theorem VS.step {w W W' : World} {b R Fb lo : Nat} {l : List Value} {v : Value} {es : List Vr} (h : VS w W b R Fb lo l v es) (hR : b < R) (hF : R < Fb) (hl : Fb < lo) (hz : lo ≤ W.heap.size) (k : Fs [b] W W') : VS w W' b R Fb lo l v es :=
 ⟨h.fh.trans ⟨k.os,k.tape,k.output,k.size,fun i hi hn => k.block i (by omega) (by simp at hn ⊢; exact hn.1)⟩,h.R.fs k (by simp; omega),h.F.fs k (by simp; omega),h.row.own fun i hi => by
  have := RowX.own h.row |>.lt i hi
  exact k.block i this.2 (by simp; omega)⟩
theorem VS.far {w W : World} {b R Fb lo : Nat} {l : List Value} {v : Value} {es : List Vr} (h : VS w W b R Fb lo l v es) {V : Nat} (hV : lo ≤ V) (hR : b < R) (hF : R < Fb) (hl : Fb < lo) (hv : ¬ v.ownBlock = some V) (i : Nat) (u : Value) : VS w (W.setCell ⟨V,i,none⟩ u) b R Fb lo l v es :=
 ⟨h.fh.trans ⟨rfl,rfl,rfl,by simp [World.setCell],fun k hk hn => Below.heap_setCell _ _ _ _ (by show k ≠ V; omega)⟩,h.R.far _ _ (by omega),h.F.far _ _ (by omega),h.row.own fun k hk => Below.heap_setCell _ _ _ _ (fun e => hv (by have e' : k = V := e; rw [← e']; exact hk))⟩
theorem VS.rowD {w W : World} {b R Fb lo : Nat} {l : List Value} {v : Value} {es : List Vr} (h : VS w W b R Fb lo l v es) {V : Nat} (hV : lo ≤ V) (hR : b < R) (hF : R < Fb) (hl : Fb < lo) (hv : ¬ v.ownBlock = some V) (cs : Array Value) : VS w (W.setRow V cs) b R Fb lo l v es :=
 ⟨h.fh.trans ⟨rfl,rfl,rfl,by simp,fun k hk hn => setRow_other _ _ _ _ (by omega)⟩,by have := h.R; unfold Bk at this ⊢; rw [setRow_other _ _ _ _ (by omega)]; exact this,by have := h.F; unfold Bk at this ⊢; rw [setRow_other _ _ _ _ (by omega)]; exact this,h.row.own fun k hk => setRow_other _ _ _ _ (fun e => hv (by rw [← e]; exact hk))⟩
set_option maxHeartbeats 32000000
set_option maxRecDepth 100000
theorem param_rd (b R Fb lo : Nat) (hR : b < R) (hF : R < Fb) (hl : Fb < lo) (pu py : Option Addr) (nu cu ny cy : Nat) (v0 : Value) (es : List Vr) (s : ByteArray) (hs : s.size ≤ 1200) (hes : es.length ≤ 2400) (w W : World) (h : PB W b s 0) (hv : VS w W b R Fb lo [v0,.slice pu nu cu,.slice py ny cy] v0 es) (hz : lo ≤ W.heap.size) :
  Calls Tryz.prog 20 #[.pointer (some ⟨R,0,none⟩),.pointer (some ⟨Fb,0,none⟩)] W fun r w' => r = .returned (.tuple #[]) ∧ ∃ (a : Vr) (v' : Value),VS w w' b R Fb lo [v',.slice pu nu cu,.slice py ny cy] v' (es ++ [a]) ∧ Rd w' b s.size 0 (varT (words s.data.toList)) (fun x => x = a) ∧ W.heap.size ≤ w'.heap.size := by
 obtain ⟨pv,nv,cv,rfl⟩ := hv.row.slice
 have hnv := RowX.len hv.row
 subst hnv
 obtain ⟨i0,hi0,j0,j1,j2⟩ := info_parts infoV
 have HVs := keep hv
 have r0 := hv.R.cell 0 rfl
 have HC1 := keep (is_rd b s (by omega) 0 ⟨#[40]⟩ W h)
 clear h hv
 go_enter Tryz.func20,Tryz.ntmps20
 go_wp2_with fail
 refine HC1.out.mono ?_
 rintro r w1 ⟨rfl,hr,hf⟩
 obtain ⟨s1,e1,hp1,hn1,h1a,h1b⟩ := hr
 have HV1 := keep (HVs.out.step hR hF hl hz hf.fs)
 have hz1 : lo ≤ w1.heap.size := Nat.le_trans hz hf.size
 have hy1 : W.heap.size ≤ w1.heap.size := hf.size
 have HP1 := keep hp1
 have A1 := keep h1a
 have B1 := keep h1b
 have r1 := HV1.out.R.cell 0 rfl
 clear hp1 h1a h1b hf HC1 HVs r0
 go_wp2_with fail
 refine (l_rd b s1 (by omega) e1 w1 HP1.out).mono ?_
 rintro r w2 ⟨sec,rfl,hr,hf⟩
 obtain ⟨s2,e2,hp2,hn2,h2a,h2b⟩ := hr
 have HV2 := keep (HV1.out.step hR hF hl hz1 hf.fs)
 have hz2 : lo ≤ w2.heap.size := Nat.le_trans hz1 hf.size
 have hy2 : w1.heap.size ≤ w2.heap.size := hf.size
 have A2 := keep h2a
 have B2 := keep h2b
 have HZ := keep (Bk.new w2 [.string ⟨#[]⟩,.bool false,.int .i64 0] 46)
 have HVo := keep (fun i => (RowX.own HV2.out.row).lt i)
 have hvo : ¬ (Value.slice pv es.length cv).ownBlock = some w2.heap.size := fun e => by have := (HVo.out _ e).2; omega
 obtain ⟨w3,hw3⟩ : ∃ w3,(w2.alloc (.cells #[.string ⟨#[]⟩,.bool false,.int .i64 0] 46)).setRow w2.heap.size #[.string ⟨#[]⟩,.bool sec,.int .i64 0] = w3 := ⟨_,rfl⟩
 have HV3 : Hid (VS w w3 b R Fb lo [.slice pv es.length cv,.slice pu nu cu,.slice py ny cy] (.slice pv es.length cv) es) := by
  show VS _ _ _ _ _ _ _ _ _
  rw [← hw3]; exact (HV2.out.step hR hF hl hz2 ((Fs.refl _ _).up _)).rowD hz2 hR hF hl hvo _
 have HB3 : Hid (Bk w3 w2.heap.size [.string ⟨#[]⟩,.bool sec,.int .i64 0] 46) := by
  show Bk _ _ _ _
  rw [← hw3]; exact setRow_heap _ _ _ _ _ _ HZ.out
 have HP3 : Hid (PB w3 b s2 e2) := by
  show PB _ _ _ _
  rw [← hw3]; exact (hp2.up _).row (by omega) _
 have hs3 : w3.heap.size = w2.heap.size + 1 := by rw [← hw3]; simp
 have r3 := HV3.out.R.cell 0 rfl
 clear hp2 h2a h2b hf HP1 HV1
 go_wp2_with (first
  | refine wpList_store_row rfl 46 (.tmp 2) (.tmp 7) rfl w2.heap.size #[.string ⟨#[]⟩,.bool sec,.int .i64 0] rfl rfl 46 #[.string ⟨#[]⟩,.bool false,.int .i64 0] HZ.out (info_V [.string ⟨#[]⟩,.bool sec,.int .i64 0] rfl) rfl (by simp [Value.oneCell']) ?_
  | rw [hw3])
 clear hw3 r1 r3 HZ HV2
 refine (n_rd b s2 (by omega) e2 w3 HP3.out).mono ?_
 rintro r w4 ⟨rfl,hr,hf⟩
 obtain ⟨s4,e4,hp4,hn4,h4a,h4b⟩ := hr
 obtain ⟨x,hx⟩ : ∃ x,wd s2.data.toList = x := ⟨_,rfl⟩
 rw [hx] at h4b
 rw [hx]
 clear hx
 have A4 := keep h4a
 have B4 := keep h4b
 have hy4 : w3.heap.size ≤ w4.heap.size := hf.size
 have HV4 := keep (HV3.out.step hR hF hl (by omega) hf.fs)
 have HB4 := keep (HB3.out.fs hf.fs (by simp; omega))
 generalize w2.heap.size = V0 at *
 obtain ⟨w5,hw5⟩ : ∃ w5,w4.setCell ⟨V0,0,none⟩ (.string ⟨x.toArray⟩) = w5 := ⟨_,rfl⟩
 have hy5 : w4.heap.size = w5.heap.size := by rw [← hw5]; simp [World.setCell]
 have HV5 : Hid (VS w w5 b R Fb lo [.slice pv es.length cv,.slice pu nu cu,.slice py ny cy] (.slice pv es.length cv) es) := by
  show VS _ _ _ _ _ _ _ _ _
  rw [← hw5]; exact HV4.out.far hz2 hR hF hl hvo 0 _
 have HB5 : Hid (Bk w5 V0 [.string ⟨x.toArray⟩,.bool sec,.int .i64 0] 46) := by
  show Bk _ _ _ _
  rw [← hw5]; exact HB4.out.set 0 _
 have HP5 : Hid (PB w5 b s4 e4) := by
  show PB _ _ _ _
  rw [← hw5]; exact hp4.far (by omega) 0 _
 have c0 := HB4.out.cell 0 rfl
 have f0 := HB4.out.fr 0
 have b0 := HB5.out.cell 0 rfl
 have b1 := HB5.out.cell 1 rfl
 have b2 := HB5.out.cell 2 rfl
 have g0 := HV5.out.F.cell 0 rfl
 have hown := (RowX.own HV5.out.row).alloc (.cells #[.string ⟨x.toArray⟩,.bool sec,.int .i64 0] 46)
 clear hp4 h4a h4b hf HV3 HB3 HP3 HV4 HB4
 go_wp2_with (first
  | (at_builtin; refine wpList_append_lies _ rfl (.tmp 12) (.tmp 14) 26 rfl lo 46 i0 _ 3 32 Tryz.underlying26 hi0 j0 j1 j2 rfl (by decide) (.slice pv es.length cv) es.length (es.flatMap cellsV) rfl hown ⟨w5.heap.size,0,none⟩ 1 1 (cellsV ⟨x,sec,0⟩) rfl rfl ?c1 ?c2 (by decide) ?c3 ?c4 ?c5 (w5.heap.size + 1) (by simp) ?_)
  | fail)
 case c1 =>
  intro j u hj
  exact new_cell w5 _ _ j u hj
 case c2 =>
  intro u hu
  simp only [cellsV,List.mem_cons,List.not_mem_nil,or_false] at hu
  rcases hu with rfl | rfl | rfl <;> rfl
 case c3 => unfold maxLen; omega
 case c4 => omega
 case c5 => simp; omega
 ·intro g cap w6 hown2 hgrow hat hlt
  have hk6 : ∀ i,i < lo → w6.heap[i]? = w5.heap[i]? := fun i hi =>
   (hgrow.block i (by simp; omega) (fun e => by have := (HVo.out i e.symm).1; omega)).trans (((Below.refl w5.heap.size w5).alloc (Nat.le_refl _) _).block i (by omega))
  have hs6 : w5.heap.size ≤ w6.heap.size := by have := hgrow.size; simp at this; omega
  have HF6 : Hid (Bk w6 Fb [.slice pv es.length cv,.slice pu nu cu,.slice py ny cy] 29) := by
   have hb := HV5.out.F
   show Bk _ _ _ _
   unfold Bk at hb ⊢
   rw [hk6 _ hl]; exact hb
  have HRow6 : Hid (RowV w6 lo (.slice (some ⟨g,0,none⟩) (es.length + 1) cap) (es ++ [⟨x,sec,0⟩])) :=
   RowX.push (p:=(⟨x,sec,0⟩ : Vr)) nestV_nest (RowX.fs (l:=[]) nestV_nest HV5.out.row (Fs.of_below ((Below.refl _ _).alloc (Nat.le_refl _) (.cells #[.string ⟨x.toArray⟩,.bool sec,.int .i64 0] 46))) (by simp)) trivial hown2 hgrow (by simpa using hat)
  have hgl : lo ≤ g := by
   rcases hat with h | h
   ·exact (HVo.out g h).1
   ·(try simp at h); omega
  obtain ⟨w7,hw7⟩ : ∃ w7,w6.setCell ⟨Fb,0,none⟩ (.slice (some ⟨g,0,none⟩) (es.length + 1) cap) = w7 := ⟨_,rfl⟩
  have HV7 : Hid (VS w w7 b R Fb lo [.slice (some ⟨g,0,none⟩) (es.length + 1) cap,.slice pu nu cu,.slice py ny cy] (.slice (some ⟨g,0,none⟩) (es.length + 1) cap) (es ++ [⟨x,sec,0⟩])) := by
   show VS _ _ _ _ _ _ _ _ _
   rw [← hw7]
   refine ⟨HV5.out.fh.trans ⟨hgrow.os,hgrow.tape,hgrow.output,by simp [World.setCell]; exact hs6,fun i hi hn => ?_⟩,?_,HF6.out.set 0 _,?_⟩
   ·rw [Below.heap_setCell _ _ _ _ (by show i ≠ Fb; simp at hn; omega)]; exact hk6 i hi
   ·have hb := HV5.out.R
    refine Bk.far ?_ _ _ (by omega)
    unfold Bk at hb ⊢
    rw [hk6 _ (by omega)]; exact hb
   ·refine HRow6.out.own fun i hi => Below.heap_setCell _ _ _ _ (by
     have e : g = i := by simpa [Value.ownBlock] using hi
     show i ≠ Fb
     omega)
  have HP7 : Hid (PB w7 b s4 e4) := by
   have hp := HP5.out
   show PB _ _ _ _
   rw [← hw7]
   refine PB.far ?_ (by omega) 0 _
   unfold PB at hp ⊢
   rw [hk6 _ (by omega)]; exact hp
  have hs7 : w6.heap.size = w7.heap.size := by rw [← hw7]; simp [World.setCell]
  have cF := HF6.out.cell 0 rfl
  have fF := HF6.out.fr 0
  have r7 := HV7.out.R.cell 0 rfl
  clear hown2 hgrow hat hown hk6 HF6 HRow6 HV5 HB5 HP5 c0 f0 b0 b1 b2 g0 hw5
  go_wp2_with fail
  refine (is_rd b s4 (by omega) e4 ⟨#[41]⟩ w7 HP7.out).mono ?_
  rintro r w8 ⟨rfl,hr,hf⟩
  obtain ⟨s8,e8,hp8,hn8,h8a,h8b⟩ := hr
  have HV8 := keep (HV7.out.step hR hF hl (by omega) hf.fs)
  have hy8 : w7.heap.size ≤ w8.heap.size := hf.size
  have HP8 := keep hp8
  have A8 := keep h8a
  have B8 := keep h8b
  clear hp8 h8a h8b hf hw7 cF fF r7 HV7 HP7
  go_wp2
  go_end0
  refine ⟨rfl,⟨x,sec,0⟩,_,HV8.out,?_,by omega⟩
  refine rd_go (n1:=s.size) (fun hh => absurd rfl hh) (fun _ => B1.out (by trivial)) ?_ (Nat.le_refl _)
  refine rd_then (x:=sec) (n1:=s.size) A2.out B2.out ?_ (Nat.le_refl _)
  refine rd_then (x:=x) (n1:=s.size) A4.out B4.out ?_ (Nat.le_refl _)
  refine rd_go (n1:=s.size) A8.out B8.out ?_ (Nat.le_refl _)
  exact rd_ok HP8.out (by omega) rfl
set_option maxHeartbeats 32000000
set_option maxRecDepth 100000
theorem array_rd (b R Fb lo : Nat) (hR : b < R) (hF : R < Fb) (hl : Fb < lo) (pu py : Option Addr) (nu cu ny cy : Nat) (v0 : Value) (es : List Vr) (s : ByteArray) (hs : s.size ≤ 1200) (hes : es.length ≤ 2400) (w W : World) (h : PB W b s 0) (hg : GL b) (htf : ∀ W',Fh lo [b,Fb] w W' → Tabs W') (hv : VS w W b R Fb lo [.slice pu nu cu,v0,.slice py ny cy] v0 es) (hz : lo ≤ W.heap.size) :
  Calls Tryz.prog 23 #[.pointer (some ⟨R,0,none⟩),.pointer (some ⟨Fb,0,none⟩)] W fun r w' => r = .returned (.tuple #[]) ∧ ∃ (a : Vr) (v' : Value),VS w w' b R Fb lo [.slice pu nu cu,v',.slice py ny cy] v' (es ++ [a]) ∧ Rd w' b s.size 0 (arrT (words s.data.toList)) (fun x => x = a) ∧ W.heap.size ≤ w'.heap.size := by
 obtain ⟨pv,nv,cv,rfl⟩ := hv.row.slice
 have hnv := RowX.len hv.row
 subst hnv
 obtain ⟨i0,hi0,j0,j1,j2⟩ := info_parts infoV
 have HVs := keep hv
 have HTf := keep htf
 have r0 := hv.R.cell 0 rfl
 have HC1 := keep (is_rd b s (by omega) 0 ⟨#[40]⟩ W h)
 clear h hv htf
 go_enter Tryz.func23,Tryz.ntmps23
 go_wp2_with fail
 refine HC1.out.mono ?_
 rintro r w1 ⟨rfl,hr,hf⟩
 obtain ⟨s1,e1,hp1,hn1,h1a,h1b⟩ := hr
 have HV1 := keep (HVs.out.step hR hF hl hz hf.fs)
 have hz1 : lo ≤ w1.heap.size := Nat.le_trans hz hf.size
 have hy1 : W.heap.size ≤ w1.heap.size := hf.size
 have HP1 := keep hp1
 have A1 := keep h1a
 have B1 := keep h1b
 have r1 := HV1.out.R.cell 0 rfl
 clear hp1 h1a h1b hf HC1 HVs r0
 go_wp2_with fail
 refine (l_rd b s1 (by omega) e1 w1 HP1.out).mono ?_
 rintro r w2 ⟨sec,rfl,hr,hf⟩
 obtain ⟨s2,e2,hp2,hn2,h2a,h2b⟩ := hr
 have HV2 := keep (HV1.out.step hR hF hl hz1 hf.fs)
 have hz2 : lo ≤ w2.heap.size := Nat.le_trans hz1 hf.size
 have hy2 : w1.heap.size ≤ w2.heap.size := hf.size
 have A2 := keep h2a
 have B2 := keep h2b
 have HZ := keep (Bk.new w2 [.string ⟨#[]⟩,.bool false,.int .i64 0] 46)
 have HVo := keep (fun i => (RowX.own HV2.out.row).lt i)
 have hvo : ¬ (Value.slice pv es.length cv).ownBlock = some w2.heap.size := fun e => by have := (HVo.out _ e).2; omega
 obtain ⟨w3,hw3⟩ : ∃ w3,(w2.alloc (.cells #[.string ⟨#[]⟩,.bool false,.int .i64 0] 46)).setRow w2.heap.size #[.string ⟨#[]⟩,.bool sec,.int .i64 0] = w3 := ⟨_,rfl⟩
 have HV3 : Hid (VS w w3 b R Fb lo [.slice pu nu cu,.slice pv es.length cv,.slice py ny cy] (.slice pv es.length cv) es) := by
  show VS _ _ _ _ _ _ _ _ _
  rw [← hw3]; exact (HV2.out.step hR hF hl hz2 ((Fs.refl _ _).up _)).rowD hz2 hR hF hl hvo _
 have HB3 : Hid (Bk w3 w2.heap.size [.string ⟨#[]⟩,.bool sec,.int .i64 0] 46) := by
  show Bk _ _ _ _
  rw [← hw3]; exact setRow_heap _ _ _ _ _ _ HZ.out
 have HP3 : Hid (PB w3 b s2 e2) := by
  show PB _ _ _ _
  rw [← hw3]; exact (hp2.up _).row (by omega) _
 have hs3 : w3.heap.size = w2.heap.size + 1 := by rw [← hw3]; simp
 have r3 := HV3.out.R.cell 0 rfl
 clear hp2 h2a h2b hf HP1 HV1
 go_wp2_with (first
  | refine wpList_store_row rfl 46 (.tmp 2) (.tmp 7) rfl w2.heap.size #[.string ⟨#[]⟩,.bool sec,.int .i64 0] rfl rfl 46 #[.string ⟨#[]⟩,.bool false,.int .i64 0] HZ.out (info_V [.string ⟨#[]⟩,.bool sec,.int .i64 0] rfl) rfl (by simp [Value.oneCell']) ?_
  | rw [hw3])
 clear hw3 r1 r3 HZ HV2
 refine (n_rd b s2 (by omega) e2 w3 HP3.out).mono ?_
 rintro r w4 ⟨rfl,hr,hf⟩
 obtain ⟨s4,e4,hp4,hn4,h4a,h4b⟩ := hr
 obtain ⟨x,hx⟩ : ∃ x,wd s2.data.toList = x := ⟨_,rfl⟩
 rw [hx] at h4b
 rw [hx]
 clear hx
 have A4 := keep h4a
 have B4 := keep h4b
 have hy4 : w3.heap.size ≤ w4.heap.size := hf.size
 have HV4 := keep (HV3.out.step hR hF hl (by omega) hf.fs)
 have HB4 := keep (HB3.out.fs hf.fs (by simp; omega))
 generalize w2.heap.size = V0 at *
 obtain ⟨w5,hw5⟩ : ∃ w5,w4.setCell ⟨V0,0,none⟩ (.string ⟨x.toArray⟩) = w5 := ⟨_,rfl⟩
 have hy5 : w4.heap.size = w5.heap.size := by rw [← hw5]; simp [World.setCell]
 have HV5 : Hid (VS w w5 b R Fb lo [.slice pu nu cu,.slice pv es.length cv,.slice py ny cy] (.slice pv es.length cv) es) := by
  show VS _ _ _ _ _ _ _ _ _
  rw [← hw5]; exact HV4.out.far hz2 hR hF hl hvo 0 _
 have HB5 : Hid (Bk w5 V0 [.string ⟨x.toArray⟩,.bool sec,.int .i64 0] 46) := by
  show Bk _ _ _ _
  rw [← hw5]; exact HB4.out.set 0 _
 have HP5 : Hid (PB w5 b s4 e4) := by
  show PB _ _ _ _
  rw [← hw5]; exact hp4.far (by omega) 0 _
 have c0 := HB4.out.cell 0 rfl
 have f0 := HB4.out.fr 0
 have r5 := HV5.out.R.cell 0 rfl
 clear hp4 h4a h4b hf HV3 HB3 HP3 HV4 HB4
 go_wp2_with fail
 clear hw5 c0 f0 r5
 refine (i_rd b s4 (by omega) e4 1 8 w5 HP5.out (HTf.out w5 HV5.out.fh) hg).mono ?_
 rintro r y6 ⟨nv,rfl,hr,hf⟩
 obtain ⟨s5,e5,hp5,hn5,h5a,h5b⟩ := hr
 have A5 := keep h5a
 have B5 := keep h5b
 have hy6 : w5.heap.size ≤ y6.heap.size := hf.size
 have HV6 := keep (HV5.out.step hR hF hl (by omega) hf.fs)
 have HB6 := keep (HB5.out.fs hf.fs (by simp; omega))
 obtain ⟨z5,hw5⟩ : ∃ z5,y6.setCell ⟨V0,2,none⟩ (.int .i64 nv) = z5 := ⟨_,rfl⟩
 have hyz : y6.heap.size = z5.heap.size := by rw [← hw5]; simp [World.setCell]
 have HVz : Hid (VS w z5 b R Fb lo [.slice pu nu cu,.slice pv es.length cv,.slice py ny cy] (.slice pv es.length cv) es) := by
  show VS _ _ _ _ _ _ _ _ _
  rw [← hw5]; exact HV6.out.far hz2 hR hF hl hvo 2 _
 have HBz : Hid (Bk z5 V0 [.string ⟨x.toArray⟩,.bool sec,.int .i64 nv] 46) := by
  show Bk _ _ _ _
  rw [← hw5]; exact HB6.out.set 2 _
 have HPz : Hid (PB z5 b s5 e5) := by
  show PB _ _ _ _
  rw [← hw5]; exact hp5.far (by omega) 2 _
 have c0 := HB6.out.cell 2 rfl
 have f0 := HB6.out.fr 2
 have b0 := HBz.out.cell 0 rfl
 have b1 := HBz.out.cell 1 rfl
 have b2 := HBz.out.cell 2 rfl
 have g0 := HVz.out.F.cell 1 rfl
 have hown := (RowX.own HVz.out.row).alloc (.cells #[.string ⟨x.toArray⟩,.bool sec,.int .i64 nv] 46)
 clear hp5 h5a h5b hf HV5 HB5 HP5 HV6 HB6
 go_wp2_with (first
  | (at_builtin; refine wpList_append_lies _ rfl (.tmp 15) (.tmp 17) 26 rfl lo 46 i0 _ 3 32 Tryz.underlying26 hi0 j0 j1 j2 rfl (by decide) (.slice pv es.length cv) es.length (es.flatMap cellsV) rfl hown ⟨z5.heap.size,0,none⟩ 1 1 (cellsV ⟨x,sec,nv⟩) rfl rfl ?c1 ?c2 (by decide) ?c3 ?c4 ?c5 (z5.heap.size + 1) (by simp) ?_)
  | fail)
 case c1 =>
  intro j u hj
  exact new_cell z5 _ _ j u hj
 case c2 =>
  intro u hu
  simp only [cellsV,List.mem_cons,List.not_mem_nil,or_false] at hu
  rcases hu with rfl | rfl | rfl <;> rfl
 case c3 => unfold maxLen; omega
 case c4 => omega
 case c5 => simp; omega
 ·intro g cap w6 hown2 hgrow hat hlt
  have hk6 : ∀ i,i < lo → w6.heap[i]? = z5.heap[i]? := fun i hi =>
   (hgrow.block i (by simp; omega) (fun e => by have := (HVo.out i e.symm).1; omega)).trans (((Below.refl z5.heap.size z5).alloc (Nat.le_refl _) _).block i (by omega))
  have hs6 : z5.heap.size ≤ w6.heap.size := by have := hgrow.size; simp at this; omega
  have HF6 : Hid (Bk w6 Fb [.slice pu nu cu,.slice pv es.length cv,.slice py ny cy] 29) := by
   have hb := HVz.out.F
   show Bk _ _ _ _
   unfold Bk at hb ⊢
   rw [hk6 _ hl]; exact hb
  have HRow6 : Hid (RowV w6 lo (.slice (some ⟨g,0,none⟩) (es.length + 1) cap) (es ++ [⟨x,sec,nv⟩])) :=
   RowX.push (p:=(⟨x,sec,nv⟩ : Vr)) nestV_nest (RowX.fs (l:=[]) nestV_nest HVz.out.row (Fs.of_below ((Below.refl _ _).alloc (Nat.le_refl _) (.cells #[.string ⟨x.toArray⟩,.bool sec,.int .i64 nv] 46))) (by simp)) trivial hown2 hgrow (by simpa using hat)
  have hgl : lo ≤ g := by
   rcases hat with h | h
   ·exact (HVo.out g h).1
   ·(try simp at h); omega
  obtain ⟨w7,hw7⟩ : ∃ w7,w6.setCell ⟨Fb,1,none⟩ (.slice (some ⟨g,0,none⟩) (es.length + 1) cap) = w7 := ⟨_,rfl⟩
  have HV7 : Hid (VS w w7 b R Fb lo [.slice pu nu cu,.slice (some ⟨g,0,none⟩) (es.length + 1) cap,.slice py ny cy] (.slice (some ⟨g,0,none⟩) (es.length + 1) cap) (es ++ [⟨x,sec,nv⟩])) := by
   show VS _ _ _ _ _ _ _ _ _
   rw [← hw7]
   refine ⟨HVz.out.fh.trans ⟨hgrow.os,hgrow.tape,hgrow.output,by simp [World.setCell]; exact hs6,fun i hi hn => ?_⟩,?_,HF6.out.set 1 _,?_⟩
   ·rw [Below.heap_setCell _ _ _ _ (by show i ≠ Fb; simp at hn; omega)]; exact hk6 i hi
   ·have hb := HVz.out.R
    refine Bk.far ?_ _ _ (by omega)
    unfold Bk at hb ⊢
    rw [hk6 _ (by omega)]; exact hb
   ·refine HRow6.out.own fun i hi => Below.heap_setCell _ _ _ _ (by
     have e : g = i := by simpa [Value.ownBlock] using hi
     show i ≠ Fb
     omega)
  have HP7 : Hid (PB w7 b s5 e5) := by
   have hp := HPz.out
   show PB _ _ _ _
   rw [← hw7]
   refine PB.far ?_ (by omega) 1 _
   unfold PB at hp ⊢
   rw [hk6 _ (by omega)]; exact hp
  have hs7 : w6.heap.size = w7.heap.size := by rw [← hw7]; simp [World.setCell]
  have cF := HF6.out.cell 1 rfl
  have fF := HF6.out.fr 1
  have r7 := HV7.out.R.cell 0 rfl
  clear hown2 hgrow hat hown hk6 HF6 HRow6 HVz HBz HPz c0 f0 b0 b1 b2 g0 hw5
  go_wp2_with fail
  refine (is_rd b s5 (by omega) e5 ⟨#[41]⟩ w7 HP7.out).mono ?_
  rintro r w8 ⟨rfl,hr,hf⟩
  obtain ⟨s8,e8,hp8,hn8,h8a,h8b⟩ := hr
  have HV8 := keep (HV7.out.step hR hF hl (by omega) hf.fs)
  have hy8 : w7.heap.size ≤ w8.heap.size := hf.size
  have HP8 := keep hp8
  have A8 := keep h8a
  have B8 := keep h8b
  clear hp8 h8a h8b hf hw7 cF fF r7 HV7 HP7
  go_wp2
  go_end0
  refine ⟨rfl,⟨x,sec,nv⟩,_,HV8.out,?_,by omega⟩
  refine rd_go (n1:=s.size) (fun hh => absurd rfl hh) (fun _ => B1.out (by trivial)) ?_ (Nat.le_refl _)
  refine rd_then (x:=sec) (n1:=s.size) A2.out B2.out ?_ (Nat.le_refl _)
  refine rd_then (x:=x) (n1:=s.size) A4.out B4.out ?_ (Nat.le_refl _)
  refine rd_then (x:=nv) (n1:=s.size) A5.out B5.out ?_ (Nat.le_refl _)
  refine rd_go (n1:=s.size) A8.out B8.out ?_ (Nat.le_refl _)
  exact rd_ok HP8.out (by omega) rfl
theorem params_all (b R Fb lo : Nat) (hR : b < R) (hF : R < Fb) (hl : Fb < lo) (pu py : Option Addr) (nu cu ny cy : Nat) (s : ByteArray) (hs : s.size ≤ 1200) (e : Int) (w0 w : World) (h : PB w b s e) (hv : VS w0 w b R Fb lo [.slice none 0 0,.slice pu nu cu,.slice py ny cy] (.slice none 0 0) []) (hz : lo ≤ w.heap.size) :
  Calls Tryz.prog 19 #[.pointer (some ⟨b,0,none⟩),.func (.func 20) #[] #[.pointer (some ⟨R,0,none⟩),.pointer (some ⟨Fb,0,none⟩)]] w fun r w' => r = .returned (.tuple #[]) ∧ ∃ (us : List Vr) (v : Value),us.length ≤ 2401 ∧ VS w0 w' b R Fb lo [v,.slice pu nu cu,.slice py ny cy] v us ∧ Rd w' b s.size e (uptoT varT ((words s.data.toList).length + 1) (words s.data.toList)) (fun x => x = us) ∧ w.heap.size ≤ w'.heap.size := by
 refine (all_rd b 0 20 #[.pointer (some ⟨R,0,none⟩),.pointer (some ⟨Fb,0,none⟩)] varT (fun W us => (∃ v,VS w0 W b R Fb lo [v,.slice pu nu cu,.slice py ny cy] v us) ∧ lo ≤ W.heap.size) 2400 1200 (enters_of Tryz.func20 (by kernel_rfl) rfl)
  (fun W W' us hI hf => by
   obtain ⟨⟨v,h1⟩,h2⟩ := hI
   exact ⟨⟨v,h1.step hR hF hl h2 hf⟩,Nat.le_trans h2 hf.size⟩)
  var_less
  (fun W s us hp hn hu hI hB => by
   obtain ⟨⟨v,h1⟩,h2⟩ := hI
   refine (param_rd b R Fb lo hR hF hl pu py nu cu ny cy v us s hn hu w0 W hp h1 h2).mono ?_
   rintro r w' ⟨hr,a,v',k1,k2,k3⟩
   exact ⟨hr,a,⟨⟨v',k1⟩,Nat.le_trans h2 k3⟩,k2,⟨k1.fh.os.trans h1.fh.os.symm,k1.fh.tape.trans h1.fh.tape.symm,k1.fh.output.trans h1.fh.output.symm,k3,fun i hi _ => absurd hi (by omega)⟩⟩)
  s hs (by decide) (size_words s hs) e w h ⟨⟨_,hv⟩,hz⟩ (Nat.zero_le _)).mono ?_
 rintro r w' ⟨hr,us,h1,⟨⟨v,h2⟩,h3⟩,h4,h5⟩
 exact ⟨hr,us,v,h1,h2,h4,h5.size⟩
theorem arrays_all (b R Fb lo : Nat) (hR : b < R) (hF : R < Fb) (hl : Fb < lo) (pu py : Option Addr) (nu cu ny cy : Nat) (s : ByteArray) (hs : s.size ≤ 1200) (e : Int) (w0 w : World) (h : PB w b s e) (hg : GL b) (htf : ∀ W',Fh lo [b,Fb] w0 W' → Tabs W') (hv : VS w0 w b R Fb lo [.slice pu nu cu,.slice none 0 0,.slice py ny cy] (.slice none 0 0) []) (hz : lo ≤ w.heap.size) :
  Calls Tryz.prog 19 #[.pointer (some ⟨b,0,none⟩),.func (.func 23) #[] #[.pointer (some ⟨R,0,none⟩),.pointer (some ⟨Fb,0,none⟩)]] w fun r w' => r = .returned (.tuple #[]) ∧ ∃ (us : List Vr) (v : Value),us.length ≤ 2401 ∧ VS w0 w' b R Fb lo [.slice pu nu cu,v,.slice py ny cy] v us ∧ Rd w' b s.size e (uptoT arrT ((words s.data.toList).length + 1) (words s.data.toList)) (fun x => x = us) ∧ w.heap.size ≤ w'.heap.size := by
 refine (all_rd b 0 23 #[.pointer (some ⟨R,0,none⟩),.pointer (some ⟨Fb,0,none⟩)] arrT (fun W us => (∃ v,VS w0 W b R Fb lo [.slice pu nu cu,v,.slice py ny cy] v us) ∧ lo ≤ W.heap.size) 2400 1200 (enters_of Tryz.func23 (by kernel_rfl) rfl)
  (fun W W' us hI hf => by
   obtain ⟨⟨v,h1⟩,h2⟩ := hI
   exact ⟨⟨v,h1.step hR hF hl h2 hf⟩,Nat.le_trans h2 hf.size⟩)
  arr_less
  (fun W s us hp hn hu hI hB => by
   obtain ⟨⟨v,h1⟩,h2⟩ := hI
   refine (array_rd b R Fb lo hR hF hl pu py nu cu ny cy v us s hn hu w0 W hp hg htf h1 h2).mono ?_
   rintro r w' ⟨hr,a,v',k1,k2,k3⟩
   exact ⟨hr,a,⟨⟨v',k1⟩,Nat.le_trans h2 k3⟩,k2,⟨k1.fh.os.trans h1.fh.os.symm,k1.fh.tape.trans h1.fh.tape.symm,k1.fh.output.trans h1.fh.output.symm,k3,fun i hi _ => absurd hi (by omega)⟩⟩)
  s hs (by decide) (size_words s hs) e w h ⟨⟨_,hv⟩,hz⟩ (Nat.zero_le _)).mono ?_
 rintro r w' ⟨hr,us,h1,⟨⟨v,h2⟩,h3⟩,h4,h5⟩
 exact ⟨hr,us,v,h1,h2,h4,h5.size⟩
def nilFn : Lg.Fn := ⟨[],[],[]⟩
def ofRes (x : Res Lg.Fn) : Lg.Fn × Int := match x with
 | .error x => (nilFn,x)
 | .ok (f,_) => (f,0)
def parseT (l : List UInt8) : Lg.Fn × Int := if 1200 < l.length then (nilFn,4) else ofRes (fnT (words l))
set_option maxHeartbeats 32000000
set_option maxRecDepth 100000
def VrX (w : World) (lo hi : Nat) (vs : List Vr) (sl : Value) : Prop := ∃ (p : Option Addr) (n cap : Nat),sl = .slice p n cap ∧ vs.length = n ∧ n ≤ cap ∧ n ≤ 281474976710656 ∧
  ∀ j v,vs[j]? = some v → ∃ g o,p = some ⟨g,o,none⟩ ∧ lo ≤ g ∧ g < hi ∧ VrAt w g (o + j * 3) v
theorem VrX.keep {w w' : World} {lo hi : Nat} {vs : List Vr} {sl : Value} (h : VrX w lo hi vs sl) (hb : ∀ i,lo ≤ i → i < hi → w'.heap[i]? = w.heap[i]?) : VrX w' lo hi vs sl := by
 obtain ⟨p,n,cap,h1,h2,h3,h4,h5⟩ := h
 refine ⟨p,n,cap,h1,h2,h3,h4,fun j v hj => ?_⟩
 obtain ⟨g,o,k1,k2,k3,k4⟩ := h5 j v hj
 have key : ∀ i,w'.cell? ⟨g,i,none⟩ = w.cell? ⟨g,i,none⟩ := fun i => by unfold World.cell?; simp only [hb g k2 k3]
 exact ⟨g,o,k1,k2,k3,⟨by rw [key]; exact k4.c0,by rw [key]; exact k4.c1,by rw [key]; exact k4.c2⟩⟩
theorem VrX.vrIs {w : World} {lo hi B : Nat} {vs : List Vr} {sl : Value} (h : VrX w lo hi vs sl) (hB : hi ≤ B) : VrIs w B vs sl := by
 obtain ⟨p,n,cap,h1,h2,h3,h4,h5⟩ := h
 refine ⟨p,n,cap,h1,h2,h3,h4,fun j v hj => ?_⟩
 obtain ⟨g,o,k1,k2,k3,k4⟩ := h5 j v hj
 exact ⟨g,o,k1,by omega,k4⟩
theorem RowX.varsX {w : World} {lo : Nat} {v : Value} {es : List Vr} (h : RowV w lo v es) (hl : es.length ≤ 281474976710656) : VrX w lo w.heap.size es v := by
 rcases RowX.form cellsV_len h with ⟨h1,h2⟩ | ⟨g,cap,h1,h2,h3,h4,h5⟩
 ·exact ⟨none,0,0,h2,by rw [h1]; rfl,Nat.le_refl _,by omega,fun j t hj => by rw [h1] at hj; simp at hj⟩
 ·refine ⟨some ⟨g,0,none⟩,_,cap,h1,rfl,h2,hl,fun j p hp => ⟨g,0,rfl,h3,h4,⟨?_,?_,?_⟩⟩⟩
  ·rw [Nat.zero_add]; exact h5 j p 0 _ hp rfl
  ·rw [Nat.zero_add]; exact h5 j p 1 _ hp rfl
  ·rw [Nat.zero_add]; exact h5 j p 2 _ hp rfl
theorem info_F (l : List Value) (h : l.length = 3) : (Tryz.prog.info? 29).map (·.size) = some l.toArray.size := by
 rw [List.size_toArray,h]; kernel_rfl
theorem results_fn {fn : Func} {p u : Tmp} (hf : fn.results = #[.cell p 29,.tmp u]) (tmps : Array Value) (w : World) (g : Nat) (cs : Array Value) (e : Int) (h2 : tmps.getD p undef = .pointer (some ⟨g,0,none⟩)) (h3 : tmps.getD u undef = .int .i64 e) (hg : w.heap[g]? = some (.cells cs 29 (0,0))) (hi : (Tryz.prog.info? 29).map (·.size) = some cs.size) :
  (results fn tmps).run Tryz.prog w = .ok (.tuple #[.agg cs,.int .i64 e]) w := by
 rw [results_cell_tmp hf,h2,h3]
 have := run_loadVar_row (P:=Tryz.prog) w g _ 29 cs _ _ hg Tryz.underlying29 rfl hi
 simp [asAddr,Result.andThen,this]
def FnX (w : World) (lo hi : Nat) (f : Lg.Fn) (v : Value) : Prop := ∃ s1 s2 s3,v = .agg #[s1,s2,s3] ∧ VrX w lo hi f.params s1 ∧ VrX w lo hi f.arrays s2 ∧ StX w (fun i => lo ≤ i ∧ i < hi) 11 f.body s3
theorem FnX.keep {w w' : World} {lo hi : Nat} {f : Lg.Fn} {v : Value} (h : FnX w lo hi f v) (hb : ∀ i,lo ≤ i → i < hi → w'.heap[i]? = w.heap[i]?) : FnX w' lo hi f v := by
 obtain ⟨s1,s2,s3,h0,h1,h2,h3⟩ := h
 exact ⟨s1,s2,s3,h0,h1.keep hb,h2.keep hb,StX.keep (fun i hi => hb i hi.1 hi.2) h3⟩
theorem FnX.fnIs {w : World} {lo hi B : Nat} {f : Lg.Fn} {v : Value} (h : FnX w lo hi f v) (hB : hi ≤ B) : FnIs w B 10 11 f v := by
 obtain ⟨s1,s2,s3,h0,h1,h2,h3⟩ := h
 exact ⟨s1,s2,s3,h0,h1.vrIs hB,h2.vrIs hB,StX.stIs (fun i hi => by omega) h3⟩
theorem nil_x (w : World) (lo hi : Nat) : FnX w lo hi nilFn (.agg #[.slice none 0 0,.slice none 0 0,.slice none 0 0]) :=
 ⟨_,_,_,rfl,⟨none,0,0,rfl,rfl,Nat.le_refl _,by decide,fun j v h => by cases h⟩,⟨none,0,0,rfl,rfl,Nat.le_refl _,by decide,fun j v h => by cases h⟩,StX.none 10⟩
theorem parse_long (s : ByteArray) (hbig : 1200 < s.size) (hs : s.size ≤ 281474976710656) (w : World) :
  Calls Tryz.prog 6 #[.string s] w fun r w' => ∃ (v1 v2 v3 : Value),r = .returned (.tuple #[.agg #[v1,v2,v3],.int .i64 4]) ∧ FnX w' w.heap.size w'.heap.size nilFn (.agg #[v1,v2,v3]) ∧ Below w.heap.size w w' := by
 have d : decide (1200 < (s.size : Int)) = true := decide_eq_true (by omega)
 have HD := keep (Bk.new w [.slice none 0 0,.slice none 0 0,.slice none 0 0] 29)
 go_enter Tryz.func6,Tryz.ntmps6
 go_wp2_with (first
  | refine wpList_store_row rfl 29 (.tmp 2) (.tmp 9) rfl w.heap.size #[.slice none 0 0,.slice none 0 0,.slice none 0 0] rfl rfl 29 #[.slice none 0 0,.slice none 0 0,.slice none 0 0] HD.out (info_F [.slice none 0 0,.slice none 0 0,.slice none 0 0] rfl) rfl (by simp [Value.oneCell']) ?_)
 (try simp only [Exit.inBlock,Exit.then])
 refine bodyPost_ret (results_fn rfl _ _ w.heap.size #[.slice none 0 0,.slice none 0 0,.slice none 0 0] 4 rfl rfl (setRow_heap _ _ _ _ _ _ HD.out) (info_F [.slice none 0 0,.slice none 0 0,.slice none 0 0] rfl)) rfl ?_
 exact ⟨_,_,_,rfl,nil_x _ _ _,below_setRow ((Below.refl _ _).alloc (Nat.le_refl _) _) (Nat.le_refl _) _⟩
end Go.Proofs.YtemdnmfldihalaaGreatDoor.Lr
