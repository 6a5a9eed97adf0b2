/- Laid together: LrLab, RfNum, LrNum, LdRead. -/
import Derived.Test.YtemdnmfldihalaaGreatDoorGr27
import Derived.Test.YtemdnmfldihalaaGreatDoorGr0
import Derived.Test.YtemdnmfldihalaaGreatDoorGr3
import Derived.ProofKit
import Derived.OpenShut
import Derived.Below
import Derived.Lib.AppendIntMem
import Derived.Lib.AtoiErrMem
import Derived.Lib.AtoiAllCases
import Derived.WalkSmall
import Derived.WalkSpells
import Derived.Test.YtemdnmfldihalaaGreatDoorGr2
namespace Go.Proofs.YtemdnmfldihalaaGreatDoor.Lr
set_option maxHeartbeats 32000000
set_option maxRecDepth 100000
set_option linter.unusedVariables false
open Go.ChangeShapes Go.WideShapes Go.ChangeAt Go.RowKit Lg
theorem PB.below {w w' : World} {b : Nat} {s : ByteArray} {e : Int} (h : PB w b s e) (k : Below w.heap.size w w') : PB w' b s e := by
 unfold PB at h ⊢
 rw [k.block b (Array.getElem?_eq_some_iff.1 h).1]; exact h
theorem n_rd (b : Nat) (s : ByteArray) (hs : s.size ≤ 281474976710656) (e : Int) (w : World) (h : PB w b s e) :
  Calls Tryz.prog 22 #[.pointer (some ⟨b,0,none⟩)] w fun r w' => r = .returned (.string ⟨(wd s.data.toList).toArray⟩) ∧ Rd w' b s.size e (nameT (words s.data.toList)) (fun a => a = wd s.data.toList) ∧ Fr b w w' := by
 have HC := keep (w_rd b s hs e w h)
 have hl := wd_len s
 clear h
 have HI : Hid (∃ q,isName (wd s.data.toList) = q) := ⟨_,rfl⟩
 obtain ⟨q,hq⟩ := HI.out
 clear HI
 have HNm : Hid (∀ v,Calls Tryz.prog 37 #[.string ⟨(wd s.data.toList).toArray⟩] v fun r w' => r = .returned (.bool q) ∧ Below v.heap.size v w') := fun v => by
  rw [← hq]; exact name_any ⟨(wd s.data.toList).toArray⟩ (by rw [size_mk]; omega) v
 have HQ := keep hq
 clear hq
 generalize hW : wd s.data.toList = W at *
 have HW := keep hW
 clear hW
 cases q with
 | true =>
  go_enter Tryz.func22,Tryz.ntmps22
  go_wp2_with fail
  refine HC.out.mono ?_
  rintro r w1 ⟨rfl,hr,hf⟩
  obtain ⟨s1,e1,hp,hn,h1,h2⟩ := hr
  have HP := keep hp
  have HF := keep hf
  have H1 := keep h1
  have H2 := keep h2
  clear hp hf h1 h2
  go_wp2_with fail
  refine (HNm.out _).mono ?_
  rintro r w2 ⟨rfl,hb⟩
  have HP2 := keep (HP.out.below hb)
  have HF2 := keep (HF.out.trans (Fr.of_below hb))
  clear hb
  go_wp2
  go_ret
  exact ⟨rfl,rd_look (x:=7) H1.out (by rw [HW.out]; exact H2.out) HP2.out hn (.inr ⟨⟨W,fun r => by rw [HW.out,if_pos HQ.out],rfl⟩,rfl⟩),HF2.out⟩
 | false =>
  go_enter Tryz.func22,Tryz.ntmps22
  go_wp2_with fail
  refine HC.out.mono ?_
  rintro r w1 ⟨rfl,hr,hf⟩
  obtain ⟨s1,e1,hp,hn,h1,h2⟩ := hr
  have HP := keep hp
  have HF := keep hf
  have H1 := keep h1
  have H2 := keep h2
  clear hp hf h1 h2
  go_wp2_with fail
  refine (HNm.out _).mono ?_
  rintro r w2 ⟨rfl,hb⟩
  have HP2 := keep (HP.out.below hb)
  have HF2 := keep (HF.out.trans (Fr.of_below hb))
  clear hb HP HF
  go_wp2_with fail
  refine (bad_any b s1 e1 7 _ HP2.out).mono ?_
  rintro r w3 ⟨rfl,hp3,hf3⟩
  have HP3 := keep hp3
  have HF3 := keep (HF2.out.trans hf3)
  clear hp3 hf3 HP2 HF2
  go_wp2
  go_ret
  exact ⟨rfl,rd_look (x:=7) H1.out (by rw [HW.out]; exact H2.out) HP3.out hn (.inl ⟨fun r => ⟨by rw [HW.out,if_neg (by rw [HQ.out]; decide)],by decide⟩,rfl⟩),HF3.out⟩
theorem l_rd (b : Nat) (s : ByteArray) (hs : s.size ≤ 281474976710656) (e : Int) (w : World) (h : PB w b s e) :
  Calls Tryz.prog 21 #[.pointer (some ⟨b,0,none⟩)] w fun r w' => ∃ v,r = .returned (.bool v) ∧ Rd w' b s.size e (labT (words s.data.toList)) (fun a => a = v) ∧ Fr b w w' := by
 have HC := keep (w_rd b s hs e w h)
 clear h
 generalize hW : wd s.data.toList = W at *
 have HW := keep hW
 clear hW
 by_cases hsec : W = [115,101,99]
 ·subst hsec
  go_enter Tryz.func21,Tryz.ntmps21
  go_wp2_with fail
  refine HC.out.mono ?_
  rintro r w1 ⟨rfl,hr,hf⟩
  obtain ⟨s1,e1,hp,hn,h1,h2⟩ := hr
  have HP := keep hp
  have HF := keep hf
  have H1 := keep h1
  have H2 := keep h2
  clear hp hf h1 h2
  go_wp2
  go_ret
  exact ⟨true,rfl,rd_look (x:=2) H1.out (by rw [HW.out]; exact H2.out) HP.out hn (.inr ⟨⟨true,fun r => by rw [HW.out]; rfl,rfl⟩,rfl⟩),HF.out⟩
 ·by_cases hpub : W = [112,117,98]
  ·subst hpub
   go_enter Tryz.func21,Tryz.ntmps21
   go_wp2_with fail
   refine HC.out.mono ?_
   rintro r w1 ⟨rfl,hr,hf⟩
   obtain ⟨s1,e1,hp,hn,h1,h2⟩ := hr
   have HP := keep hp
   have HF := keep hf
   have H1 := keep h1
   have H2 := keep h2
   clear hp hf h1 h2
   go_wp2
   go_ret
   exact ⟨false,rfl,rd_look (x:=2) H1.out (by rw [HW.out]; exact H2.out) HP.out hn (.inr ⟨⟨false,fun r => by rw [HW.out]; rfl,rfl⟩,rfl⟩),HF.out⟩
  ·have d1 : (W == [115,101,99]) = false := by simpa using hsec
   have d2 : (W == [112,117,98]) = false := by simpa using hpub
   have HS := keep hsec
   have HU := keep hpub
   clear hsec hpub
   go_enter Tryz.func21,Tryz.ntmps21
   go_wp2_with fail
   refine HC.out.mono ?_
   rintro r w1 ⟨rfl,hr,hf⟩
   obtain ⟨s1,e1,hp,hn,h1,h2⟩ := hr
   have HP := keep hp
   have HF := keep hf
   have H1 := keep h1
   have H2 := keep h2
   clear hp hf h1 h2
   go_wp2_with fail
   refine (bad_any b s1 e1 2 _ HP.out).mono ?_
   rintro r w3 ⟨rfl,hp3,hf3⟩
   have HP3 := keep hp3
   have HF3 := keep (HF.out.trans hf3)
   clear hp3 hf3 HP HF
   go_wp2
   go_ret
   exact ⟨false,rfl,rd_look (x:=2) H1.out (by rw [HW.out]; exact H2.out) HP3.out hn (.inl ⟨fun r => ⟨by rw [HW.out,if_neg HS.out,if_neg HU.out],by decide⟩,rfl⟩),HF3.out⟩
end Go.Proofs.YtemdnmfldihalaaGreatDoor.Lr
namespace Go.Proofs.YtemdnmfldihalaaGreatDoor.Rf
set_option linter.unusedVariables false
open Go.ChangeShapes Go.WideShapes Go.ChangeAt Go.RowKit
theorem keepN {p : Prop} (h : p) : Hid p := h
def Tabs (w : World) : Prop :=
 Lib.TabIs Tryz.prog w "internal/strconv.uint64pow10" .u64 Lib.pow10Tab ∧ (∃ tp p, w.var? Tryz.prog "strconv.ErrSyntax" = some #[.iface tp p]) ∧ ∃ tp p, w.var? Tryz.prog "strconv.ErrRange" = some #[.iface tp p]
theorem var_lt {w : World} {n : String} {cs : Array Value} {g : Nat} (hg : Tryz.prog.globalNamed n = some g) (hv : w.var? Tryz.prog n = some cs) : g < w.heap.size := by
 unfold World.var? at hv
 simp only [hg,Option.bind_some] at hv
 by_cases h : g < w.heap.size
 ·exact h
 ·rw [Array.getElem?_eq_none (by omega)] at hv
  simp at hv
theorem gSyn : Tryz.prog.globalNamed "strconv.ErrSyntax" = some 0 := by kernel_rfl
theorem gRan : Tryz.prog.globalNamed "strconv.ErrRange" = some 1 := by kernel_rfl
theorem Tabs.below {w w' : World} (h : Tabs w) (hb : Below w.heap.size w w') : Tabs w' := by
 obtain ⟨h1,⟨t2,p2,h2⟩,t3,p3,h3⟩ := h
 exact ⟨Lib.tabBelow_of_tabIs h1 w' hb,⟨t2,p2,var?_below hb gSyn (var_lt gSyn h2) h2⟩,t3,p3,var?_below hb gRan (var_lt gRan h3) h3⟩
def NumEnds (l : List UInt8) (e : Ending) : Prop := ∃ m : Int,e = .returned (.tuple #[.int .i64 m,.bool (Wd.isNum l)]) ∧ (Wd.isNum l = true → m = Wd.val l)
theorem number_err (s : ByteArray) (w : World) (m : Int) (hn : Wd.isNum s.data.toList = false)
  (hc : ∀ w,Tabs w → Calls Tryz.prog 49 #[.string s] w fun e w' => ∃ N,e = .returned (.tuple #[.int .i64 m,.iface 135 (.pointer (some ⟨N,0,none⟩))]) ∧ Below w.heap.size w w') (ht : Tabs w) :
  Calls Tryz.prog 38 #[.string s] w fun e w' => NumEnds s.data.toList e ∧ Below w.heap.size w w' := by
 have HC := keepN (hc w ht)
 have HF : Hid (∀ m : Int,NumEnds s.data.toList (.returned (.tuple #[.int .i64 m,.bool false]))) := fun m => ⟨m,by rw [hn],fun h => by rw [hn] at h; cases h⟩
 clear hc hn
 go_enter Tryz.func38,Tryz.ntmps38
 go_wp2_with fail
 refine HC.out.mono ?_
 rintro e w' ⟨N,rfl,hb⟩
 go_wp2
 go_ret2
 exact ⟨HF.out m,hb⟩
theorem number_ok (s : ByteArray) (hs : s.size ≤ 281474976710656) (w : World) (v : Int) (h : Lib.atoiAll s.data.toList = .ok v) (v0 : -9223372036854775808 ≤ v) (v1 : v ≤ 9223372036854775807) (ht : Tabs w) :
  Calls Tryz.prog 38 #[.string s] w fun e w' => NumEnds s.data.toList e ∧ Below w.heap.size w w' := by
 have HC : Hid (Calls Tryz.prog 49 #[.string s] w fun e w' => e = .returned (.tuple #[.int .i64 v,.nilIface]) ∧ Below w.heap.size w w') := by
  refine (Tryz.strconv_Atoi_ok s (by omega) v h w).mono ?_
  rintro e w' ⟨rfl,hw⟩
  refine ⟨rfl,?_⟩
  rcases hw with rfl | ⟨t,rfl⟩
  ·exact Below.refl _ _
  ·exact Lib.bytesWorld_below w 5 t
 have HF : Hid (¬ (0 ≤ v ∧ v < 4294967296 ∧ Lib.itoa v = s.data.toList) → NumEnds s.data.toList (.returned (.tuple #[.int .i64 v,.bool false]))) := by
  intro hno
  have hn : Wd.isNum s.data.toList = false := by
   cases hq : Wd.isNum s.data.toList with
   | false => rfl
   | true =>
    exfalso
    have h1 := atoi_of_num hq
    rw [h] at h1
    have h2 : v = (Wd.val s.data.toList : Int) := by injection h1
    obtain ⟨_,_,_,_,h5⟩ := num_parts hq
    exact hno ⟨by omega,by omega,by rw [h2]; exact num_back hq⟩
  exact ⟨v,by rw [hn],fun hh => by rw [hn] at hh; cases hh⟩
 have HT : Hid (0 ≤ v ∧ v < 4294967296 ∧ Lib.itoa v = s.data.toList → NumEnds s.data.toList (.returned (.tuple #[.int .i64 v,.bool true]))) := by
  rintro ⟨h1,h2,h3⟩
  obtain ⟨h4,h5⟩ := num_iff h h1 h2 h3
  exact ⟨v,by rw [h4],fun _ => h5⟩
 have HTab := keepN ht
 clear h ht
 by_cases c0 : 0 ≤ v
 ·by_cases c1 : v < 4294967296
  ·have hE : ∃ c : Bool,(Lib.itoa v == s.toList) = c ∧ NumEnds s.data.toList (.returned (.tuple #[.int .i64 v,.bool c])) := by
    cases hq : (Lib.itoa v == s.toList) with
    | false =>
     refine ⟨false,rfl,HF.out fun hh => ?_⟩
     rw [Lib.toList_data,beq_eq_false_iff_ne] at hq
     exact hq hh.2.2
    | true =>
     refine ⟨true,rfl,HT.out ⟨c0,c1,?_⟩⟩
     rw [Lib.toList_data] at hq
     exact beq_iff_eq.1 hq
   obtain ⟨c,hc,hN⟩ := hE
   have HN := keepN hN
   clear hN HF HT
   go_enter Tryz.func38,Tryz.ntmps38
   go_wp2_with fail
   refine HC.out.mono ?_
   rintro e w1 ⟨rfl,hb⟩
   have HB := keepN hb
   have HT1 := keepN (HTab.out.below hb)
   clear hb
   go_wp2_with fail
   refine (Tryz.strconv_Itoa v (by omega) (by omega) _ HT1.out.1).mono ?_
   rintro e w2 ⟨rfl,k,os,rfl⟩
   go_wp2
   go_ret2
   exact ⟨HN.out,HB.out.trans (Lib.below_grow _ _ HB.out.size _ _)⟩
  ·have HN := keepN (HF.out fun hh => c1 hh.2.1)
   clear HF HT
   go_enter Tryz.func38,Tryz.ntmps38
   go_wp2_with fail
   refine HC.out.mono ?_
   rintro e w1 ⟨rfl,hb⟩
   go_wp2
   go_ret2
   exact ⟨HN.out,hb⟩
 ·have HN := keepN (HF.out fun hh => c0 hh.1)
  clear HF HT
  go_enter Tryz.func38,Tryz.ntmps38
  go_wp2_with fail
  refine HC.out.mono ?_
  rintro e w1 ⟨rfl,hb⟩
  go_wp2
  go_ret2
  exact ⟨HN.out,hb⟩
theorem number_any (s : ByteArray) (hs : s.size ≤ 281474976710656) (w : World) (ht : Tabs w) :
  Calls Tryz.prog 38 #[.string s] w fun e w' => NumEnds s.data.toList e ∧ Below w.heap.size w w' := by
 have hno : (∀ v,Lib.atoiAll s.data.toList ≠ .ok v) → Wd.isNum s.data.toList = false := by
  intro h
  cases hq : Wd.isNum s.data.toList with
  | false => rfl
  | true => exact absurd (atoi_of_num hq) (h _)
 cases h : Lib.atoiAll s.data.toList
 ·rename_i v
  exact number_ok s hs w v h (Lib.atoiAll_bounds h).1 (Lib.atoiAll_bounds h).2 ht
 ·refine number_err s w 0 (hno fun v hv => by rw [h] at hv; cases hv) (fun w ht => ?_) ht
  obtain ⟨_,⟨tp,p,hv⟩,_⟩ := ht
  have c : Calls Tryz.prog 49 #[.string s] w fun e w' => ∃ N,e = .returned (.tuple #[.int .i64 0,.iface 135 (.pointer (some ⟨N,0,none⟩))]) ∧ w.heap.size ≤ N ∧ w'.heap[N]? = some (.cells #[.string ⟨#[65,116,111,105]⟩,.string s,.iface tp p] 150 (0,0)) ∧ Below w.heap.size w w' := Any.strconv_Atoi_syntax_var Tryz.laysC172 s hs h tp p w hv
  exact c.mono fun e w' ⟨N,he,_,_,hb⟩ => ⟨N,he,hb⟩
 ·refine number_err s w (Lib.atoiSat s.data.toList) (hno fun v hv => by rw [h] at hv; cases hv) (fun w ht => ?_) ht
  obtain ⟨_,_,tp,p,hv⟩ := ht
  exact (Tryz.strconv_Atoi_range_var s hs h tp p w hv).mono fun e w' ⟨N,he,_,_,hb⟩ => ⟨N,he,hb⟩
end Go.Proofs.YtemdnmfldihalaaGreatDoor.Rf
namespace Go.Proofs.YtemdnmfldihalaaGreatDoor.Lr
set_option maxHeartbeats 32000000
set_option maxRecDepth 100000
set_option linter.unusedVariables false
open Go.ChangeShapes Go.WideShapes Go.ChangeAt Go.RowKit Lg Rf
def GL (b : Nat) : Prop := 2 < b ∧ 0 < b ∧ 1 < b
theorem gPow : Tryz.prog.globalNamed "internal/strconv.uint64pow10" = some 2 := by kernel_rfl
theorem Fr.below {b : Nat} {w w' : World} (h : Fr b w w') (hb : b ≤ w.heap.size) : Below b w w' := ⟨h.os,h.tape,h.output,h.size,fun k hk => h.block k (by omega) (by omega)⟩
theorem tabs_fr {b : Nat} {w w' : World} (ht : Tabs w) (hg : GL b) (h : Fr b w w') (hb : b ≤ w.heap.size) : Tabs w' := by
 obtain ⟨h1,⟨t2,p2,h2⟩,t3,p3,h3⟩ := ht
 have hB := h.below hb
 exact ⟨var?_below hB gPow hg.1 h1,⟨t2,p2,var?_below hB gSyn hg.2.1 h2⟩,t3,p3,var?_below hB gRan hg.2.2 h3⟩
theorem i_rd (b : Nat) (s : ByteArray) (hs : s.size ≤ 281474976710656) (e lo hi : Int) (w : World) (h : PB w b s e) (ht : Tabs w) (hg : GL b) :
  Calls Tryz.prog 24 #[.pointer (some ⟨b,0,none⟩),.int .i64 lo,.int .i64 hi] w fun r w' => ∃ v : Int,r = .returned (.int .i64 v) ∧ Rd w' b s.size e (numT lo hi (words s.data.toList)) (fun a => a = v) ∧ Fr b w w' := by
 have HC := keep (w_rd b s hs e w h)
 have HLt := keep (Nat.le_of_lt h.lt)
 have HTab := keep (fun (w1 : World) (hf : Fr b w w1) => tabs_fr ht hg hf HLt.out)
 have hl := wd_len s
 have HNm : Hid (∀ v,Tabs v → Calls Tryz.prog 38 #[.string ⟨(wd s.data.toList).toArray⟩] v fun r w' => NumEnds (wd s.data.toList) r ∧ Below v.heap.size v w') := fun v hv =>
  number_any ⟨(wd s.data.toList).toArray⟩ (by rw [size_mk]; omega) v hv
 clear h ht hg hl
 generalize hW : wd s.data.toList = W at *
 have HW := keep hW
 clear hW
 go_enter Tryz.func24,Tryz.ntmps24
 go_wp2_with fail
 refine HC.out.mono ?_
 rintro r w1 ⟨rfl,hr,hf⟩
 obtain ⟨s1,e1,hp,hn,h1,h2⟩ := hr
 have HP := keep hp
 have HF := keep hf
 have H1 := keep h1
 have H2 := keep h2
 clear hp hf h1 h2
 go_wp2_with fail
 refine (HNm.out _ (HTab.out _ HF.out)).mono ?_
 rintro r w2 ⟨⟨m,rfl,hm⟩,hb⟩
 have HP2 := keep (HP.out.below hb)
 have HF2 := keep (HF.out.trans (Fr.of_below hb))
 have HM := keep hm
 clear hb HP HF HNm HTab HC hm
 have HI : Hid (∃ q,Wd.isNum W = q) := ⟨_,rfl⟩
 obtain ⟨q,hq⟩ := HI.out
 have HQ := keep hq
 rw [hq]
 clear HI hq
 cases q with
 | false =>
  go_wp2_with fail
  refine (bad_any b s1 e1 2 _ HP2.out).mono ?_
  rintro r w3 ⟨rfl,hp3,hf3⟩
  have HP3 := keep hp3
  have HF3 := keep (HF2.out.trans hf3)
  clear hp3 hf3 HP2 HF2
  go_wp2
  go_ret
  exact ⟨m,rfl,rd_look (x:=2) H1.out (by rw [HW.out]; exact H2.out) HP3.out hn (.inl ⟨fun r => ⟨by rw [HW.out,if_neg (by rw [HQ.out]; decide)],by decide⟩,rfl⟩),HF3.out⟩
 | true =>
  have hmv := HM.out HQ.out
  have HV := keep hmv
  clear hmv
  by_cases hlo : m < lo
  ·have d1 : decide (m < lo) = true := decide_eq_true hlo
   go_wp2_with fail
   refine (bad_any b s1 e1 3 _ HP2.out).mono ?_
   rintro r w3 ⟨rfl,hp3,hf3⟩
   have HP3 := keep hp3
   have HF3 := keep (HF2.out.trans hf3)
   clear hp3 hf3 HP2 HF2
   go_wp2
   go_ret
   exact ⟨m,rfl,rd_look (x:=3) H1.out (by rw [HW.out]; exact H2.out) HP3.out hn (.inl ⟨fun r => ⟨by rw [HW.out,if_pos HQ.out,if_pos (by have := HV.out; omega)],by decide⟩,rfl⟩),HF3.out⟩
  ·have d1 : decide (m < lo) = false := decide_eq_false hlo
   by_cases hhi : hi < m
   ·have d2 : decide (hi < m) = true := decide_eq_true hhi
    go_wp2_with fail
    refine (bad_any b s1 e1 3 _ HP2.out).mono ?_
    rintro r w3 ⟨rfl,hp3,hf3⟩
    have HP3 := keep hp3
    have HF3 := keep (HF2.out.trans hf3)
    clear hp3 hf3 HP2 HF2
    go_wp2
    go_ret
    exact ⟨m,rfl,rd_look (x:=3) H1.out (by rw [HW.out]; exact H2.out) HP3.out hn (.inl ⟨fun r => ⟨by rw [HW.out,if_pos HQ.out,if_pos (by have := HV.out; omega)],by decide⟩,rfl⟩),HF3.out⟩
   ·have d2 : decide (hi < m) = false := decide_eq_false hhi
    go_wp2
    go_ret
    exact ⟨m,rfl,rd_look (x:=3) H1.out (by rw [HW.out]; exact H2.out) HP2.out hn (.inr ⟨⟨m,fun r => by rw [HW.out,if_pos HQ.out,if_neg (by have := HV.out; omega),HV.out],rfl⟩,rfl⟩),HF2.out⟩
end Go.Proofs.YtemdnmfldihalaaGreatDoor.Lr
namespace Go.Proofs.YtemdnmfldihalaaGreatDoor.Lr
set_option maxHeartbeats 32000000
set_option maxRecDepth 100000
set_option linter.unusedVariables false
set_option linter.unusedSimpArgs false
open Go.ChangeShapes Go.WideShapes Go.ChangeAt Go.RowKit Lg
theorem Fr.fs {b : Nat} {w w' : World} (h : Fr b w w') : Fs [b] w w' := ⟨h.os,h.tape,h.output,h.size,fun k hk hl => h.block k hk (by simpa using hl)⟩
theorem PB.fs {w w' : World} {b : Nat} {s : ByteArray} {e : Int} {l : List Nat} (h : PB w b s e) (k : Fs l w w') (hb : b ∉ l) : PB w' b s e := by
 unfold PB at h ⊢
 rw [k.block b (Array.getElem?_eq_some_iff.1 h).1 hb]; exact h
theorem PB.up {w : World} {b : Nat} {s : ByteArray} {e : Int} (h : PB w b s e) (o : Obj) : PB (w.alloc o) b s e := h.below ((Below.refl _ _).alloc (Nat.le_refl _) o)
theorem PB.far {w : World} {b : Nat} {s : ByteArray} {e : Int} (h : PB w b s e) {k : Nat} (hb : b ≠ k) (i : Nat) (v : Value) : PB (w.setCell ⟨k,i,none⟩ v) b s e := by
 unfold PB at h ⊢
 rw [Below.heap_setCell _ _ _ _ hb]; exact h
theorem PB.row {w : World} {b : Nat} {s : ByteArray} {e : Int} (h : PB w b s e) {D : Nat} (hb : b ≠ D) (cs : Array Value) : PB (w.setRow D cs) b s e := by
 unfold PB at h ⊢
 rw [setRow_other _ _ _ _ hb]; exact h
theorem rd_then {α β : Type} {w2 : World} {b n n1 : Nat} {e e1 : Int} {s1 : ByteArray} {res : Res α} {f : α → List (List UInt8) → Res β} {x : α} {post : β → Prop}
  (h1 : ¬ e = 0 → e1 = e) (h2 : e = 0 → (∀ y,res = .error y → e1 = y ∧ ¬ y = 0) ∧ ∀ a r,res = .ok (a,r) → e1 = 0 ∧ words s1.data.toList = r ∧ a = x)
  (h : Rd w2 b n1 e1 (f x (words s1.data.toList)) post) (hn : n1 ≤ n) : Rd w2 b n e (andT res f) post := by
 obtain ⟨s2,e2,hp,hs,k1,k2⟩ := h
 refine ⟨s2,e2,hp,Nat.le_trans hs hn,fun he => ?_,fun he => ?_⟩
 ·have := h1 he
  rw [k1 (by rw [this]; exact he),this]
 ·obtain ⟨g1,g2⟩ := h2 he
  cases hr : res with
  | error y =>
   obtain ⟨i1,i2⟩ := g1 y hr
   refine ⟨fun z hz => ?_,fun a r hz => by cases hz⟩
   cases hz
   rw [k1 (by rw [i1]; exact i2),i1]; exact ⟨rfl,i2⟩
  | ok p =>
   obtain ⟨a,r⟩ := p
   obtain ⟨i1,i2,i3⟩ := g2 a r hr
   subst i3 i2
   exact k2 i1
theorem rd_ok {β : Type} {w : World} {b n : Nat} {e : Int} {s : ByteArray} {y : β} {post : β → Prop} (hp : PB w b s e) (hs : s.size ≤ n) (h : post y) : Rd w b n e (.ok (y,words s.data.toList)) post :=
 ⟨s,e,hp,hs,fun _ => rfl,fun he => ⟨fun z hz => (by cases hz),fun a r hz => (by cases hz; exact ⟨he,rfl,h⟩)⟩⟩
theorem rd_bad {β : Type} {w : World} {b n : Nat} {e x : Int} {s : ByteArray} {post : β → Prop} (hp : PB w b s (first e x)) (hs : s.size ≤ n) (hx : ¬ x = 0) : Rd (α := β) w b n e (.error x) post :=
 ⟨s,first e x,hp,hs,fun he => first_ne he,fun he => ⟨fun z hz => (by cases hz; rw [he,first_zero]; exact ⟨rfl,hx⟩),fun a r hz => (by cases hz)⟩⟩
theorem Rd.mono {α : Type} {w : World} {b n : Nat} {e : Int} {res : Res α} {p q : α → Prop} (h : Rd w b n e res p) (hq : ∀ a,p a → q a) : Rd w b n e res q := by
 obtain ⟨s,e1,h1,h2,h3,h4⟩ := h
 exact ⟨s,e1,h1,h2,h3,fun he => ⟨(h4 he).1,fun a r hr => ⟨((h4 he).2 a r hr).1,((h4 he).2 a r hr).2.1,hq a ((h4 he).2 a r hr).2.2⟩⟩⟩
def leftW (b : Nat) (w : World) : Nat := match w.cell? ⟨b,1,none⟩,w.cell? ⟨b,0,none⟩ with
 | some (.int _ e),some (.string s) => if e = 0 then (words s.data.toList).length + 1 else 0
 | _,_ => 0
theorem PB.left {w : World} {b : Nat} {s : ByteArray} {e : Int} (h : PB w b s e) : leftW b w = if e = 0 then (words s.data.toList).length + 1 else 0 := by unfold leftW; rw [h.c1,h.c0]
theorem skip_bytes (s : ByteArray) : (⟨(skip s.data.toList).toArray⟩ : ByteArray).data.toList = skip s.data.toList := by simp
theorem skip_size (s : ByteArray) : (⟨(skip s.data.toList).toArray⟩ : ByteArray).size ≤ s.size := by
 rw [size_mk,Lib.size_eq]
 exact (List.dropWhile_sublist Lg.blank (l:=s.data.toList)).length_le
theorem upto_shut {α : Type} {f : List (List UInt8) → Res α} (n : Nat) (r : List (List UInt8)) : uptoT f (n + 1) ([41] :: r) = .ok ([],r) := by
 rw [uptoT,List.head?_cons,if_pos rfl]; rfl
theorem upto_more {α : Type} {f : List (List UInt8) → Res α} (n : Nat) {l : List (List UInt8)} (h : ¬ l.head? = some [41]) : uptoT f (n + 1) l = andT (f l) fun a r => andT (uptoT f n r) fun us q => .ok (a :: us,q) := by
 rw [uptoT,if_neg h]
theorem upto_pre {α : Type} (a : α) (x : Res (List α)) : (andT x fun us q => .ok (a :: us,q)) = pre [a] x := by cases x <;> rfl
theorem all_rd {α : Type} (b B : Nat) (k : FuncId) (binds : Array Value) (f : List (List UInt8) → Res α) (I : World → List α → Prop) (L0 n0 : Nat)
  (eg : ∀ args w,(callFunc k args).run Tryz.prog w = .ok (.enter k args) w)
  (hI : ∀ W W' us,I W us → Fs [b] W W' → I W' us)
  (hf : ∀ l a r,f l = .ok (a,r) → r.length < l.length)
  (hpart : ∀ W s us,PB W b s 0 → s.size ≤ n0 → us.length ≤ L0 → I W us → B ≤ W.heap.size →
   Calls Tryz.prog k binds W fun r w' => r = .returned (.tuple #[]) ∧ ∃ a,I w' (us ++ [a]) ∧ Rd w' b s.size 0 (f (words s.data.toList)) (fun x => x = a) ∧ Fh B [b] W w')
  (s : ByteArray) (hn0 : s.size ≤ n0) (hs : n0 ≤ 281474976710656) (hL : (words s.data.toList).length ≤ L0) (e : Int) (w : World) (h : PB w b s e) (hi : I w []) (hB : B ≤ w.heap.size) :
  Calls Tryz.prog 19 #[.pointer (some ⟨b,0,none⟩),.func (.func k) #[] binds] w fun r w' => r = .returned (.tuple #[]) ∧ ∃ us,us.length ≤ L0 + 1 ∧ I w' us ∧ Rd w' b s.size e (uptoT f ((words s.data.toList).length + 1) (words s.data.toList)) (fun x => x = us) ∧ Fh B [b] w w' := by
 have HPart := keep hpart
 have HI := keep hI
 have HP := keep h
 have Hi := keep hi
 have Hf := keep hf
 clear hpart hI h hi hf
 go_enter Tryz.func19,Tryz.ntmps19
 go_wp2
 go_loopw [] (fun wx => ∃ (s' : ByteArray) (e' : Int) (us : List α),PB wx b s' e' ∧ s'.size ≤ s.size ∧ us.length ≤ L0 + 1 ∧ I wx us ∧ Fh B [b] w wx ∧ (¬ e = 0 → e' = e) ∧
   (e = 0 → (¬ e' = 0 → uptoT f ((words s.data.toList).length + 1) (words s.data.toList) = .error e') ∧ (e' = 0 → ∃ N',(words s'.data.toList).length < N' ∧ (words s'.data.toList).length + us.length ≤ L0 ∧ uptoT f ((words s.data.toList).length + 1) (words s.data.toList) = pre us (uptoT f N' (words s'.data.toList))))) (fun wx => leftW b wx)
 case atStart => exact ⟨s,e,[],HP.out,Nat.le_refl _,by simp,Hi.out,Fh.refl _ _ _,fun _ => rfl,fun he => ⟨fun h => absurd he h,fun _ => ⟨_,Nat.lt_succ_self _,by simpa using hL,pre_nil _⟩⟩⟩
 case round =>
  obtain ⟨s',e',us,hp,hsz,hul,hia,hfh,hne,heq⟩ := hrel
  have hc1 := hp.c1
  have HP2 := keep hp
  have HIa := keep hia
  have HF := keep hfh
  have HNe := keep hne
  have HEq := keep heq
  have HLw := keep hp.left
  have hBr : B ≤ wr.heap.size := Nat.le_trans hB hfh.size
  clear hp hia hfh hne heq HP Hi
  by_cases he' : e' = 0
  ·subst he'
   have he : e = 0 := by
    by_cases h : e = 0
    ·exact h
    ·exact (HNe.out h).symm
   subst he
   obtain ⟨N',hN',hLe,hrest⟩ := (HEq.out rfl).2 rfl
   have HRest := keep hrest
   obtain ⟨m,rfl⟩ : ∃ m,N' = m + 1 := ⟨N' - 1,by omega⟩
   clear hrest HEq HNe
   rw [if_pos rfl] at HLw
   have HPk := keep (peek_any b s' (by omega) 0 wr HP2.out)
   have HWs := keep (words_step s'.data.toList)
   have HWn := keep (wd_none s'.data.toList)
   have hsk := skip_size s'
   have HSk : Hid (words (⟨(skip s'.data.toList).toArray⟩ : ByteArray).data.toList = words s'.data.toList) := by
    show words _ = _
    rw [skip_bytes,words_skip]
   generalize (⟨(skip s'.data.toList).toArray⟩ : ByteArray) = sk at *
   generalize wd s'.data.toList = W at *
   by_cases hshut : W = [41]
   ·subst hshut
    have HHd : Hid (∃ r,words s'.data.toList = [41] :: r) := by
     refine ⟨words (rs s'.data.toList),?_⟩
     rw [HWs.out,if_neg (fun h => by have := HWn.out.2 h; cases this)]
    go_wp2_with fail
    refine HPk.out.mono ?_
    rintro r w1 ⟨rfl,hp1,hf1⟩
    have HP1 := keep hp1
    have HF1 := keep (HF.out.trans (hf1.fs.fh hBr))
    have HI1 := keep (HI.out _ _ _ HIa.out hf1.fs)
    have hB1 : B ≤ w1.heap.size := Nat.le_trans hBr hf1.size
    clear hp1 hf1 HPk HP2 hc1
    go_wp2_with fail
    refine (is_rd b sk (by omega) 0 ⟨#[41]⟩ w1 HP1.out).mono ?_
    rintro r w2 ⟨rfl,hr2,hf2⟩
    have HR2 := keep hr2
    have HF2 := keep (HF1.out.trans (hf2.fs.fh hB1))
    have HI2 := keep (HI.out _ _ _ HI1.out hf2.fs)
    clear hr2 hf2
    go_wp2
    go_end0
    obtain ⟨s2,e2,hp2,hn2,k1,k2⟩ := HR2.out
    obtain ⟨rest,hrw⟩ := HHd.out
    rw [HSk.out,hrw,wantT_toks] at k2
    obtain ⟨k3,k4⟩ := k2 rfl
    obtain ⟨k5,k6,_⟩ := k4 _ _ rfl
    refine ⟨rfl,us,hul,HI2.out,⟨s2,e2,hp2,by omega,fun h => absurd rfl h,fun _ => ?_⟩,HF2.out⟩
    rw [HRest.out,hrw,upto_shut]
    exact ⟨fun x hx => (by cases hx),fun a r hx => (by cases hx; exact ⟨k5,k6,by simp⟩)⟩
   ·have d1 : (W == [41]) = false := by simpa using hshut
    have HHd : Hid (¬ (words s'.data.toList).head? = some [41]) := by
     show ¬ _
     rw [HWs.out]
     intro hh
     split at hh
     ·cases hh
     ·rw [List.head?_cons] at hh; exact hshut (Option.some.inj hh)
    clear hshut
    go_wp2_with fail
    refine HPk.out.mono ?_
    rintro r w1 ⟨rfl,hp1,hf1⟩
    have HP1 := keep hp1
    have HF1 := keep (HF.out.trans (hf1.fs.fh hBr))
    have HC2 := keep (HPart.out w1 sk us hp1 (by omega) (by omega) (HI.out _ _ _ HIa.out hf1.fs) (Nat.le_trans hBr hf1.size))
    clear hp1 hf1 HPk HP2 hc1
    go_wp2_with (go_at_fn k; refine HC2.out.mono ?_; rintro r w2 ⟨rfl,a,hi2,hr2,hf2⟩; have HI2 := keep hi2; have HR2 := keep hr2; have HF2 := keep (HF1.out.trans hf2); clear hi2 hr2 hf2)
    obtain ⟨s2,e2,hp2,hs2,k1,k2⟩ := HR2.out
    rw [HSk.out] at k2
    obtain ⟨k3,k4⟩ := k2 rfl
    go_roundw
    case rel =>
     refine ⟨s2,e2,us ++ [a],hp2,by omega,by rw [List.length_append,List.length_singleton]; omega,HI2.out,HF2.out,fun h => absurd trivial h,fun _ => ⟨fun he2 => ?_,fun he2 => ?_⟩⟩
     ·rw [HRest.out,upto_more m HHd.out]
      cases hfr : f (words s'.data.toList) with
      | error x => rw [(k3 x hfr).1]; rfl
      | ok p =>
       obtain ⟨a',q⟩ := p
       exact absurd (k4 a' q hfr).1 he2
     ·cases hfr : f (words s'.data.toList) with
      | error x => exact absurd ((k3 x hfr).1 ▸ he2) (k3 x hfr).2
      | ok p =>
       obtain ⟨a',q⟩ := p
       obtain ⟨_,g2,g3⟩ := k4 a' q hfr
       have hlt := Hf.out _ _ _ hfr
       refine ⟨m,by rw [g2]; omega,by rw [g2,List.length_append,List.length_singleton]; omega,?_⟩
       rw [HRest.out,upto_more m HHd.out,hfr,andT_ok,upto_pre,pre_pre,g2,g3]
    case measure =>
     rw [HLw.out,hp2.left]
     by_cases he2 : e2 = 0
     ·rw [if_pos he2]
      cases hfr : f (words s'.data.toList) with
      | error x => exact absurd ((k3 x hfr).1 ▸ he2) (k3 x hfr).2
      | ok p =>
       obtain ⟨a',q⟩ := p
       obtain ⟨_,g2,g3⟩ := k4 a' q hfr
       have hlt := Hf.out _ _ _ hfr
       rw [g2]; omega
     ·rw [if_neg he2]; omega
  ·have d : (e' == 0) = false := by simpa using he'
   have HE := keep he'
   clear he'
   go_wp2_with fail
   refine (is_rd b s' (by omega) e' ⟨#[41]⟩ wr HP2.out).mono ?_
   rintro r w2 ⟨rfl,hr2,hf2⟩
   have HR2 := keep hr2
   have HF2 := keep (HF.out.trans (hf2.fs.fh hBr))
   have HI2 := keep (HI.out _ _ _ HIa.out hf2.fs)
   clear hr2 hf2
   go_wp2
   go_end0
   obtain ⟨s2,e2,hp2,hn2,k1,k2⟩ := HR2.out
   have hee := k1 HE.out
   subst hee
   refine ⟨rfl,us,hul,HI2.out,⟨s2,_,hp2,by omega,HNe.out,fun he => ?_⟩,HF2.out⟩
   rw [(HEq.out he).1 HE.out]
   exact ⟨fun x hx => (by cases hx; exact ⟨rfl,HE.out⟩),fun a r hx => (by cases hx)⟩
end Go.Proofs.YtemdnmfldihalaaGreatDoor.Lr
