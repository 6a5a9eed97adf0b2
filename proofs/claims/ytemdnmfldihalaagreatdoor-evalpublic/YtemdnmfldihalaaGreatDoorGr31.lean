/- Laid together: LdTwo, LdEx. -/
import Derived.Test.YtemdnmfldihalaaGreatDoorGr30
import Derived.Test.YtemdnmfldihalaaGreatDoorGr29
namespace Go.Proofs.YtemdnmfldihalaaGreatDoor.Lr
set_option maxHeartbeats 32000000
set_option maxRecDepth 100000
set_option linter.unusedVariables false
set_option linter.unusedSimpArgs false
open Go.ChangeShapes Go.WideShapes Go.ChangeAt Go.RowKit Lg Rf
theorem made_two (m : Nat) (hm : m ≤ 8) (ih : ExprOK m) (b : Nat) (s : ByteArray) (e : Int) (w : World) (hs : s.size ≤ 1200) (h : PB w b s e) (ht : Tabs w) (hg : GL b) (hop : wd s.data.toList = [40]) (W2 : List UInt8) (hw2 : wd (rs s.data.toList) = W2) (hne1 : ¬ W2 = [115,101,108]) (hne2 : ¬ W2 = [97,116]) (hz : ¬ signOf W2 = 0) :
  Calls Tryz.prog 51 #[.pointer (some ⟨b,0,none⟩),.int .i64 (8 - (m : Int))] w fun r w' => ∃ (ex : Ex) (sl : Value),r = .returned (.agg (exA ex sl)) ∧ ExX w' (New w w') (m + 2) ex sl ∧ Rd w' b s.size e (exprT (m + 1) (words s.data.toList)) (fun a => a = ex) ∧ Fs [b] w w' := by
 have hbl := h.lt
 have HTf : Hid (∀ W,Fs [b] w W → Tabs W) := fun W hW => tabs_fs ht hg hW hbl
 have HEs := keep (exprW_es w b)
 obtain ⟨s1,hs1d,hs1,hpk⟩ := w_pack b s (by omega) _ hop
 have HC1 := keep (hpk e (exprW w) (h.up _))
 have HC2 := keep (fun e1 W (hp : PB W b s1 e1) => w_rd b s1 (by omega) e1 W hp)
 have hw2' := congrArg wd hs1d
 rw [hw2] at hw2'
 rw [hw2'] at HC2
 have hd : decide (8 < 8 - (m : Int)) = false := decide_eq_false (by omega)
 have IH := keep (fun s e w hs h ht => ih b s e w hs h ht hg)
 have hw8 : IntKind.i64.wrap (8 - (m : Int) + 1) = 9 - (m : Int) := wrap_up m (by omega)
 obtain ⟨i0,hi0,hz0,hz1,hz2⟩ := info_parts infoE
 have HEx1 : Hid (exprT (m + 1) (words s.data.toList) = andT (next (words s.data.toList)) fun w r => if w = [40] then andT (next r) fun k q => andT (headT k q) fun h q => andT (manyT (exprT m) (arity h.1) q) fun as_ q => andT (want [41] q) fun _ q => .ok (⟨h.1,h.2.1,h.2.2,as_⟩,q) else if Wd.isNum w = true then .ok (⟨1,(Wd.val w : Int),[],[]⟩,r) else if isName w = true then .ok (⟨2,0,w,[]⟩,r) else .error 7) := rfl
 rw [HEx1.out]
 clear h ht hg ih hpk HEx1 hop hs1d hw2' hw2
 generalize hm9 : 9 - (m : Int) = a9 at *
 generalize hm8 : 8 - (m : Int) = a8 at *
 clear hm8 hm9
 have HN := keep (Nat.le_refl s.size)
 generalize words s.data.toList = Ws at *
 go_enter Tryz.func51,Tryz.ntmps51
 go_wp2_with fail
 change Calls _ _ _ (exprW w) _
 refine HC1.out.mono ?_
 rintro r w1 ⟨rfl,⟨e1,hp1,h11,h12⟩,hf1⟩
 have HE1 := keep (HEs.out.step hbl hf1.fs)
 have HP1 := keep hp1
 have H11 := keep h11
 have H12 := keep h12
 clear hp1 h11 h12 hf1 HC1 HEs
 go_wp2_with fail
 refine (HC2.out e1 w1 HP1.out).mono ?_
 rintro r w2 ⟨rfl,hr2,hf2⟩
 obtain ⟨s2,e2,hp2,hn2,h21,h22⟩ := hr2
 have HE2 := keep (HE1.out.step hbl hf2.fs)
 have H21 := keep h21
 have H22 := keep h22
 have HD := keep (Bk.new w2 [.int .i64 0,.int .i64 0,.string ⟨#[]⟩,.slice none 0 0] 93)
 have hwE : w.heap.size < w2.heap.size := HE2.out.D.lt
 obtain ⟨w3,hw3⟩ : ∃ w3,(w2.alloc (.cells #[.int .i64 0,.int .i64 0,.string ⟨#[]⟩,.slice none 0 0] 93)).setRow w2.heap.size #[.int .i64 0,.int .i64 0,.string ⟨#[]⟩,.slice none 0 0] = w3 := ⟨_,rfl⟩
 have HM3 : Hid (MS w w3 b w2.heap.size [.int .i64 0,.int .i64 0,.string ⟨#[]⟩,.slice none 0 0]) := by
  show MS _ _ _ _ _
  rw [← hw3]
  exact ⟨(HE2.out.fs.up _).row (by omega) _,by have := HE2.out.D.up (.cells #[.int .i64 0,.int .i64 0,.string ⟨#[]⟩,.slice none 0 0] 93); unfold Bk at this ⊢; rw [setRow_other _ _ _ _ (by omega)]; exact this,setRow_heap _ _ _ _ _ _ HD.out⟩
 have HP3 : Hid (PB w3 b s2 e2) := by
  show PB _ _ _ _
  rw [← hw3]; exact (hp2.up _).row (by omega) _
 clear hp2 h21 h22 hf2 HC2 HP1 HE1
 have dn1 : (W2 == [115,101,108]) = false := by simpa using hne1
 have dn2 : (W2 == [97,116]) = false := by simpa using hne2
 have HHd := keep (fun q => head_sign hne1 hne2 q)
 have HSc := keep (fun k h1 h2 => sign_iff W2 k h1 h2)
 have HZz := keep hz
 have h13 := scan_end W2
 clear hne1 hne2 hz
 obtain ⟨w4,hw4⟩ : ∃ w4,w3.setCell ⟨w2.heap.size,0,none⟩ (.int .i64 3) = w4 := ⟨_,rfl⟩
 have HM4 : Hid (MS w w4 b w2.heap.size [.int .i64 3,.int .i64 0,.string ⟨#[]⟩,.slice none 0 0]) := by
  show MS _ _ _ _ _
  rw [← hw4]; exact HM3.out.set hwE 0 _
 have HP4 : Hid (PB w4 b s2 e2) := by
  show PB _ _ _ _
  rw [← hw4]; exact HP3.out.far (by omega) 0 _
 have c0 := HM3.out.E.cell 0 rfl
 have f0 := HM3.out.E.fr 0
 go_wp2_with (first
  | refine wpList_store_row rfl 93 (.tmp 8) (.tmp 38) rfl w2.heap.size #[.int .i64 0,.int .i64 0,.string ⟨#[]⟩,.slice none 0 0] rfl rfl 93 #[.int .i64 0,.int .i64 0,.string ⟨#[]⟩,.slice none 0 0] HD.out (info_E [.int .i64 0,.int .i64 0,.string ⟨#[]⟩,.slice none 0 0] rfl) rfl (by simp [Value.oneCell']) ?_
  | rw [hw3])
 clear hw3 hw4 c0 f0 HD HM3 HP3 HE2
 generalize w2.heap.size = E at *
 refine (signs_any w4).mono ?_
 rintro r w5 ⟨rfl,hw5⟩
 have hb5 : Below w4.heap.size w4 w5 := by rw [hw5]; exact (Below.refl _ _).alloc (Nat.le_refl _) _
 have hSg : Bk w5 w4.heap.size signsA.toList 9 := by rw [hw5]; exact Bk.new w4 signsA.toList 9
 have HSg := keep hSg
 have HM5 := keep (HM4.out.step hbl hwE (Fs.of_below hb5))
 have HP5 := keep (HP4.out.below hb5)
 have hgE : E < w4.heap.size := HM4.out.E.lt
 generalize w4.heap.size = G at *
 clear hw5 hb5 hSg HM4 HP4
 go_wp2_with fail
 go_loopw [43] (fun i wx => ∃ k : Nat,k ≤ 13 ∧ i = .int .i64 (k : Int) ∧ PB wx b s2 e2 ∧ MS w wx b E [.int .i64 3,.int .i64 (scan W2 k),.string ⟨#[]⟩,.slice none 0 0] ∧ Bk wx G signsA.toList 9) (fun i _ => 13 - (intOf i).toNat)
 case atStart => exact ⟨0,by omega,rfl,HP5.out,HM5.out,HSg.out⟩
 case round =>
  obtain ⟨k,hk,rfl,hp,hms,hsg⟩ := hrel
  clear HP5 HM5 HSg
  have HPk := keep hp
  have HMk := keep hms
  have HSk := keep hsg
  by_cases hkl : k < 13
  ·have d1 : decide ((k : Int) < 13) = true := decide_eq_true (by omega)
   have hkz : (k : Int) < 13 := by omega
   have hk0 : (0 : Int) ≤ (k : Int) := by omega
   have hcell : wr.cell? ⟨G,k,none⟩ = some (.string ⟨(sg k).toArray⟩) := hsg.cell k (sg_at k hkl)
   clear hp hms hsg
   by_cases hkp : 0 < k
   ·have d2 : decide ((0 : Int) < (k : Int)) = true := decide_eq_true (by omega)
    have HIf := keep (HSc.out k hkp hkl)
    obtain ⟨q,hq⟩ : ∃ q,sg k = q := ⟨_,rfl⟩
    rw [hq] at hcell HIf
    by_cases hqW : q = W2
    ·have dq : (q == W2) = true := by simpa using hqW
     have HQ := keep hqW
     have HSn := keep (HIf.out.1 hqW)
     have c1 := HMk.out.E.cell 1 rfl
     have f1 := HMk.out.E.fr 1
     clear hqW hq
     go_wp2
     go_roundw
     case rel =>
      refine ⟨k + 1,by omega,by go_num,HPk.out.far (by omega) 1 _,?_,HSk.out.far 1 _ (by omega)⟩
      have h9 := HMk.out.set hwE 1 (.int .i64 (k : Int))
      rw [scan_hit HSn.out]; exact h9
     case measure => simp [intOf]; omega
    ·have dq : (q == W2) = false := by simpa using hqW
     have HSn : Hid (¬ signOf W2 = k) := fun h => hqW (HIf.out.2 h)
     clear hqW hq
     go_wp2
     go_roundw
     case rel =>
      refine ⟨k + 1,by omega,by go_num,HPk.out,?_,HSk.out⟩
      rw [scan_miss HSn.out]; exact HMk.out
     case measure => simp [intOf]; omega
   ·have hk00 : k = 0 := by omega
    subst hk00
    clear hkp
    go_wp2
    go_roundw
    case rel => exact ⟨1,by omega,by go_num,HPk.out,by rw [scan_one]; exact HMk.out,HSk.out⟩
    case measure => simp [intOf]
  ·have hke : k = 13 := by omega
   subst hke
   rw [h13] at hms HMk
   have c1 := hms.E.cell 1 rfl
   clear hp hms hsg hkl hk
   have dz : ((signOf W2 : Int) == 0) = false := beq_eq_false_iff_ne.2 (by have := HZz.out; omega)
   have HPz := keep HPk.out
   have HMz := keep HMk.out
   clear HPk HMk HSk HSc
   go_wp2_with fail
   rw [show ((13 : Nat) : Int) = 13 from rfl]
   clear c1 dz
   go_loopw [73] (fun i wx => ∃ (k : Nat) (s' : ByteArray) (e' : Int) (es : List (Ex × Value)) (v : Value),k ≤ 2 ∧ i = .int .i64 (k : Int) ∧ es.length = k ∧ PB wx b s' e' ∧ s'.size ≤ s.size ∧ MS w wx b E [.int .i64 3,.int .i64 (signOf W2 : Int),.string ⟨#[]⟩,v] ∧ RowE (m + 1) wx (E + 1) v es ∧ Parts (exprT m) 2 k e2 e' (words s2.data.toList) (words s'.data.toList) (es.map (·.1))) (fun i _ => 2 - (intOf i).toNat)
   case atStart => exact ⟨0,s2,e2,[],.slice none 0 0,by omega,rfl,rfl,HPz.out,by omega,HMz.out,RowX.nil _ _,Parts.nil _ _ _ _⟩
   case round =>
    obtain ⟨k,s',e',es,v,hkn,rfl,hlen,hp,hsz,hms,hrow,hparts⟩ := hrel
    obtain ⟨pv,nv,cv,rfl⟩ := hrow.slice
    have hnv := hrow.len
    subst hnv
    subst hlen
    have HP2 := keep hp
    have HRow := keep hrow
    have HMs := keep hms
    have HPt := keep hparts
    have hEl : E < wr.heap.size := hms.E.lt
    clear hp hrow hms hparts HPz HMz
    by_cases hkl : es.length < 2
    ·have d1 : decide ((es.length : Int) < 2) = true := decide_eq_true (by omega)
     have HVo := keep (fun i => HRow.out.own.lt i)
     have HC := keep (fun W hp ht => IH.out s' e' W (by omega) hp ht)
     have HPd : Hid (PB wr.drew b s' e') := HP2.out
     have HMd : Hid (MS w wr.drew b E [.int .i64 3,.int .i64 (signOf W2 : Int),.string ⟨#[]⟩,.slice pv es.length cv]) := ⟨⟨HMs.out.fs.os,HMs.out.fs.tape,HMs.out.fs.output,HMs.out.fs.size,HMs.out.fs.block⟩,HMs.out.D,HMs.out.E⟩
     have HRd0 : Hid (RowE (m + 1) wr.drew (E + 1) (.slice pv es.length cv) es) := RowX.fs (l:=[]) (nestE_nest _) HRow.out ⟨rfl,rfl,rfl,Nat.le_refl _,fun _ _ _ => rfl⟩ (by simp)
     have hS : (fun W' : World => W'.cell? ⟨E,3,none⟩ = some (.slice pv es.length cv)) wr.drew := HMd.out.E.cell 3 rfl
     have hEd : E < wr.drew.heap.size := hEl
     have hWd : wr.drew.heap.size = wr.heap.size := rfl
     clear HP2 HRow HMs
     go_wp2_with fail
     refine wp_region_noPanic ?_
     refine Ord.wpM_begin (fun W' : World => W'.cell? ⟨E,3,none⟩ = some (.slice pv es.length cv)) [0,1,2,3,4,5,6,7] (by kernel_rfl) ?_
     generalize wr.drew = Wd at *
     refine Ord.tk (i:=0) (v:=.pointer (some ⟨E,3,none⟩)) (hy:=Or.inl ⟨by rfl,by intro W' hW; have q0 : W'.cell? ⟨E,3,none⟩ = some (.slice pv es.length cv) := hW; go_simp⟩) (hS:=hS) (h:=?_)
     try simp only [Act.put,Ord.t,Ord.z,Ord.s]
     refine Ord.tk (i:=1) (v:=.slice pv es.length cv) (hy:=Or.inl ⟨by rfl,by intro W' hW; have q0 : W'.cell? ⟨E,3,none⟩ = some (.slice pv es.length cv) := hW; go_simp⟩) (hS:=hS) (h:=?_)
     try simp only [Act.put,Ord.t,Ord.z,Ord.s]
     refine Ord.tk (i:=2) (v:=.pointer (some ⟨b,0,none⟩)) (hy:=Or.inl ⟨by rfl,by intro W' hW; have q0 : W'.cell? ⟨E,3,none⟩ = some (.slice pv es.length cv) := hW; go_simp⟩) (hS:=hS) (h:=?_)
     try simp only [Act.put,Ord.t,Ord.z,Ord.s]
     refine Ord.tk (i:=3) (v:=.int .i64 a8) (hy:=Or.inl ⟨by rfl,by intro W' hW; have q0 : W'.cell? ⟨E,3,none⟩ = some (.slice pv es.length cv) := hW; go_simp⟩) (hS:=hS) (h:=?_)
     try simp only [Act.put,Ord.t,Ord.z,Ord.s]
     refine Ord.tk (i:=4) (v:=.int .i64 a9) (hy:=Or.inl ⟨by rfl,by intro W' hW; have q0 : W'.cell? ⟨E,3,none⟩ = some (.slice pv es.length cv) := hW; go_simp⟩) (hS:=hS) (h:=?_)
     try simp only [Act.put,Ord.t,Ord.z,Ord.s]
     refine Ord.on (i:=5) (h:=fun K hK => ?_)
     go_simp
     refine (HC.out _ HPd.out (HTf.out _ HMd.out.fs)).mono ?_
     rintro r w1 ⟨ex,sl,rfl,hex,hrd,hf1⟩
     obtain ⟨p,q,cap0,rfl⟩ := hex.slice
     have HEx := keep hex
     obtain ⟨s5,e5,hp5,hn5,h51,h52⟩ := hrd
     have HPt5 := keep (HPt.out.more hkl h51 h52)
     have HP5 := keep (hp5.up (.cells #[.int .i64 ex.kind,.int .i64 ex.n,.string ⟨ex.name.toArray⟩,.slice p q cap0] 93))
     have HM1 := keep (HMd.out.step hbl hwE hf1)
     have HRow1 := keep (RowX.fs (nestE_nest (m + 1)) HRd0.out hf1 (by simp; omega))
     have hws1 : Wd.heap.size ≤ w1.heap.size := hf1.size
     clear hex hp5 h51 h52 hf1 HC HPt HRd0 HMd HPd
     unfold exA
     go_simp
     refine hK.out _ _ (fun _ => HM1.out.E.cell 3 rfl) ?_
     clear hK K
     try simp only [Act.put,Ord.t,Ord.z,Ord.s]
     refine Ord.on (i:=6) (h:=fun K hK => ?_)
     go_simp
     have HA := keep (Fs.of_below (l:=[b]) ((Below.refl w1.heap.size w1).alloc (Nat.le_refl _) (.cells #[.int .i64 ex.kind,.int .i64 ex.n,.string ⟨ex.name.toArray⟩,.slice p q cap0] 93)))
     have HMa := keep (HM1.out.step hbl hwE HA.out)
     refine hK.out _ _ (fun _ => HMa.out.E.cell 3 rfl) ?_
     clear hK K
     have hown := (HRow1.out.own).alloc (.cells #[.int .i64 ex.kind,.int .i64 ex.n,.string ⟨ex.name.toArray⟩,.slice p q cap0] 93)
     try simp only [Act.put,Ord.t,Ord.z,Ord.s]
     refine Ord.on (i:=7) (h:=fun K hK => ?_)
     refine step_append_lies _ rfl (.tmp 76) (.tmp 81) 87 rfl (E + 1) 93 i0 _ 4 56 Tryz.underlying87 hi0 hz0 hz1 hz2 rfl (by decide) (.slice pv es.length cv) es.length (es.flatMap cellsE) rfl hown ⟨w1.heap.size,0,none⟩ 1 1 (cellsE (ex,.slice p q cap0)) rfl rfl (fun j u hj => new_cell w1 _ _ j u hj) ?c2 (by decide) ?c3 ?c4 ?c5 (w1.heap.size + 1) (by simp) ?_
     case c2 =>
      intro u hu
      simp only [cellsE,List.mem_cons,List.not_mem_nil,or_false] at hu
      rcases hu with rfl | rfl | rfl | rfl <;> rfl
     case c3 => unfold maxLen; omega
     case c4 => omega
     case c5 => simp; omega
     ·intro g cap w2 hown2 hgrow hat hlt
      have hex2 := ExX.keep (w' := w1.alloc (.cells #[.int .i64 ex.kind,.int .i64 ex.n,.string ⟨ex.name.toArray⟩,.slice p q cap0] 93)) (fun i (hi : New Wd w1 i) => HA.out.block i hi.2 (by have := hi.1; simp; omega)) HEx.out
      have HRow2 := keep (RowX.push (p:=(ex,.slice p q cap0)) (nestE_nest (m + 1)) (RowX.fs (nestE_nest (m + 1)) HRow1.out HA.out (by simp; omega)) (ExX.mono (fun i hi => ⟨by have := hi.1; omega,Nat.lt_of_lt_of_le hi.2 HA.out.size,fun hv => by have := (HVo.out i hv).2; have := hi.1; omega⟩) hex2) hown2 hgrow (by simpa using hat))
      have hk2 : ∀ i,i ≤ E → w2.heap[i]? = (w1.alloc (.cells #[.int .i64 ex.kind,.int .i64 ex.n,.string ⟨ex.name.toArray⟩,.slice p q cap0] 93)).heap[i]? := fun i hi =>
       hgrow.block i (by simp; omega) (fun hv => by have := (HVo.out i hv.symm).1; omega)
      have HM2 := keep (HMa.out.grow hwE hgrow.os hgrow.tape hgrow.output hgrow.size hk2)
      have HP6 : Hid (PB w2 b s5 e5) := by
       have hp := HP5.out
       show PB _ _ _ _
       unfold PB at hp ⊢
       rw [hk2 b (by omega)]; exact hp
      have hgE : E + 1 ≤ g := by
       rcases hat with h | h
       ·exact (HVo.out g h).1
       ·(try simp at h); omega
      refine hK.out _ _ (fun _ => HM2.out.E.cell 3 rfl) ?_
      clear hK K hown2 hgrow hat hown hk2 HMa HM1 HP5 HA HEx HRow1 hex2
      have c3 := HM2.out.E.cell 3 rfl
      have f3 := HM2.out.E.fr 3
      try simp only [Act.put,Ord.t,Ord.z,Ord.s]
      refine Ord.on (i:=8) (h:=fun K hK => ?_)
      go_simp
      refine hK.out _ _ (fun h => absurd h (by decide)) ?_
      clear hK K
      try simp only [Act.put,Ord.t,Ord.z,Ord.s]
      refine Ord.on (i:=9) (h:=fun K hK => ?_)
      go_simp
      refine hK.out _ _ (fun h => absurd h (by decide)) ?_
      clear hK K
      try simp only [Act.put,Ord.t,Ord.z,Ord.s]
      refine Ord.wpM_done (by kernel_rfl) ?_ _
      refine NoPanic.normal ?_
      go_wp2
      go_roundw
      case rel =>
       refine ⟨es.length + 1,s5,e5,es ++ [((ex,Value.slice p q cap0) : Ex × Value)],_,by omega,by go_num,by simp,HP6.out.far (by omega) 3 _,by omega,HM2.out.set hwE 3 _,?_,by rw [List.map_append]; exact HPt5.out⟩
       exact RowX.stay (nestE_nest _) HRow2.out (by simp [World.setCell]) (fun i h1 h2 => by rw [Below.heap_setCell _ _ _ _ (by show i ≠ E; omega)])
      case measure => simp [intOf]; omega
    ·have hke : es.length = 2 := by omega
     have dk : decide ((es.length : Int) < 2) = false := decide_eq_false (by omega)
     rw [hke] at HPt
     clear hke
     have HX := keep (RowX.args HRow.out (by have := hkn; omega))
     have HNz := keep (nz_many (nz_expr m) 2 (words s2.data.toList))
     clear hkl hkn
     go_wp2_with fail
     refine (is_rd b s' (by omega) e' ⟨#[41]⟩ wr HP2.out).mono ?_
     rintro r w6 ⟨rfl,hrd,hf⟩
     obtain ⟨s6,e6,hp6,hn6,h61,h62⟩ := hrd
     have HM6 := keep (HMs.out.step hbl hwE hf.fs)
     have HP6 := keep hp6
     have H61 := keep h61
     have H62 := keep h62
     have HX6 := keep (ExX.keep (w' := w6) (fun i (hi : E + 1 ≤ i ∧ i < wr.heap.size) => hf.fs.block i hi.2 (by have := hi.1; simp; omega)) HX.out)
     have hsz6 : wr.heap.size ≤ w6.heap.size := hf.size
     have HE6 := keep HM6.out.E
     have HD6 := keep HM6.out.D
     obtain ⟨us,hus⟩ : ∃ us,es.map (·.1) = us := ⟨_,rfl⟩
     rw [hus] at HX6 HPt
     clear hp6 hf h61 h62 HX HP2 HMs HRow
     go_wp2_with (first
      | refine wpList_load_row rfl 93 (.tmp 8) rfl E rfl 93 _ (0,0) _ HE6.out Tryz.underlying93 rfl (info_E _ rfl) ?_
      | refine wpList_store_row rfl 93 (.tmp 4) (.tmp 87) rfl w.heap.size #[.int .i64 3,.int .i64 (signOf W2 : Int),.string ⟨#[]⟩,.slice pv es.length cv] rfl rfl 93 #[.int .i64 0,.int .i64 0,.string ⟨#[]⟩,.slice none 0 0] HD6.out (info_E [.int .i64 3,.int .i64 (signOf W2 : Int),.string ⟨#[]⟩,.slice pv es.length cv] rfl) rfl (by simp [Value.oneCell']) ?_)
     (try simp only [Exit.inBlock,Exit.then])
     refine bodyPost_ret (results_cell_row rfl _ _ w.heap.size _ #[.int .i64 3,.int .i64 (signOf W2 : Int),.string ⟨#[]⟩,.slice pv es.length cv] (0,0) _ rfl (setRow_heap _ _ _ _ _ _ HD6.out) Tryz.underlying93 rfl (info_E _ rfl)) rfl ?_
     have hp7 := HP6.out.row (D:=w.heap.size) (by omega) #[.int .i64 3,.int .i64 (signOf W2 : Int),.string ⟨#[]⟩,.slice pv es.length cv]
     obtain ⟨hd1,hd2⟩ := HPt.out.done HNz.out
     refine ⟨⟨3,(signOf W2 : Int),[],us⟩,.slice pv es.length cv,rfl,?_,?_,HM6.out.fs.row (Nat.le_refl _) _⟩
     ·refine ExX.args (e:=ar us) (ExX.mono (X:=fun i => E + 1 ≤ i ∧ i < wr.heap.size) (fun i hi => ⟨by have := hi.1; omega,by have := hi.2; simp; omega⟩) (ExX.keep (fun i hi => setRow_other _ _ _ _ (by have := hi.1; omega)) HX6.out)) rfl
     ·refine rd_then (x:=[40]) (n1:=s.size) H11.out H12.out ?_ (Nat.le_refl _)
      rw [if_pos rfl]
      refine rd_then (x:=W2) (n1:=s.size) H21.out H22.out ?_ (Nat.le_refl _)
      rw [HHd.out,if_neg HZz.out,andT_ok]
      refine rd_then (x:=us) (n1:=s.size) hd1 hd2 ?_ (Nat.le_refl _)
      refine rd_go (n1:=s.size) H61.out H62.out ?_ (Nat.le_refl _)
      exact rd_ok hp7 (by omega) rfl
theorem expr_succ (m : Nat) (hm : m ≤ 8) (ih : ExprOK m) : ExprOK (m + 1) := by
 intro b s e w hs h ht hg
 rw [show (9 : Int) - ((m + 1 : Nat) : Int) = 8 - (m : Int) by push_cast; omega]
 by_cases hop : wd s.data.toList = [40]
 ·by_cases h1 : wd (rs s.data.toList) = [115,101,108]
  ·exact made_sel m hm ih b s e w hs h ht hg hop h1
  ·by_cases h2 : wd (rs s.data.toList) = [97,116]
   ·exact made_at m hm ih b s e w hs h ht hg hop h2
   ·by_cases hz : signOf (wd (rs s.data.toList)) = 0
    ·exact made_bad m hm ih b s e w hs h ht hg hop _ rfl h1 h2 hz
    ·exact made_two m hm ih b s e w hs h ht hg hop _ rfl h1 h2 hz
 ·exact expr_atom m hm b s e w hs h ht hg hop
theorem expr_ok : ∀ m : Nat,m ≤ 9 → ExprOK m
 | 0,_ => expr_zero
 | m + 1,h => expr_succ m (by omega) (expr_ok m (by omega))
end Go.Proofs.YtemdnmfldihalaaGreatDoor.Lr
