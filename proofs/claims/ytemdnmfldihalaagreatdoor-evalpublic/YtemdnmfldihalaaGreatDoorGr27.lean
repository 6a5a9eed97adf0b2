/- Laid together: LrLex, LrRead, LrName. -/
import Derived.Test.YtemdnmfldihalaaGreatDoorGr1
import Derived.Great.BuildSlice
namespace Go.Proofs.YtemdnmfldihalaaGreatDoor.Lr
set_option maxHeartbeats 32000000
set_option maxRecDepth 100000
set_option linter.unusedVariables false
open Go.ChangeShapes Go.WideShapes Go.ChangeAt Go.RowKit Lg
def PB (w : World) (b : Nat) (s : ByteArray) (e : Int) : Prop := w.heap[b]? = some (.cells #[.string s,.int .i64 e] 51 (0,0))
theorem PB.c0 {w : World} {b : Nat} {s : ByteArray} {e : Int} (h : PB w b s e) : w.cell? ⟨b,0,none⟩ = some (.string s) := by rw [Lib.cell_of_heap h]; rfl
theorem PB.c1 {w : World} {b : Nat} {s : ByteArray} {e : Int} (h : PB w b s e) : w.cell? ⟨b,1,none⟩ = some (.int .i64 e) := by rw [Lib.cell_of_heap h]; rfl
theorem PB.fr {w : World} {b : Nat} {s : ByteArray} {e : Int} (h : PB w b s e) (k : Nat) : w.frozen? ⟨b,k,none⟩ = false := Lib.frozen_of_heap h k
theorem PB.lt {w : World} {b : Nat} {s : ByteArray} {e : Int} (h : PB w b s e) : b < w.heap.size := (Array.getElem?_eq_some_iff.1 h).1
theorem PB.setS {w : World} {b : Nat} {s : ByteArray} {e : Int} (h : PB w b s e) (s' : ByteArray) : PB (w.setCell ⟨b,0,none⟩ (.string s')) b s' e := by
 unfold PB at h ⊢
 simp [World.setCell,Array.getElem?_modify,h]
theorem PB.setE {w : World} {b : Nat} {s : ByteArray} {e : Int} (h : PB w b s e) (x : Int) : PB (w.setCell ⟨b,1,none⟩ (.int .i64 x)) b s x := by
 unfold PB at h ⊢
 simp [World.setCell,Array.getElem?_modify,h]
structure Fr (b : Nat) (w w' : World) : Prop where
 os : w'.os = w.os
 tape : w'.tape = w.tape
 output : w'.output = w.output
 size : w.heap.size ≤ w'.heap.size
 block : ∀ k,k < w.heap.size → k ≠ b → w'.heap[k]? = w.heap[k]?
theorem Fr.refl (b : Nat) (w : World) : Fr b w w := ⟨rfl,rfl,rfl,Nat.le_refl _,fun _ _ _ => rfl⟩
theorem Fr.trans {b : Nat} {u v w : World} (h : Fr b u v) (k : Fr b v w) : Fr b u w :=
 ⟨k.os.trans h.os,k.tape.trans h.tape,k.output.trans h.output,Nat.le_trans h.size k.size,fun i hi hb => (k.block i (Nat.lt_of_lt_of_le hi h.size) hb).trans (h.block i hi hb)⟩
theorem Fr.of_below {b : Nat} {w w' : World} (h : Below w.heap.size w w') : Fr b w w' := ⟨h.os,h.tape,h.output,h.size,fun k hk _ => h.block k hk⟩
theorem Fr.set {b : Nat} {w w' : World} (h : Fr b w w') (k : Nat) (v : Value) : Fr b w (w'.setCell ⟨b,k,none⟩ v) :=
 ⟨h.os,h.tape,h.output,by rw [show (w'.setCell ⟨b,k,none⟩ v).heap.size = w'.heap.size by simp [World.setCell]]; exact h.size,fun i hi hb => by
  rw [Below.heap_setCell _ _ _ _ hb]; exact h.block i hi hb⟩
theorem bad_any (b : Nat) (s : ByteArray) (e x : Int) (w : World) (h : PB w b s e) :
  Calls Tryz.prog 27 #[.pointer (some ⟨b,0,none⟩),.int .i64 x] w fun r w' => r = .returned (.tuple #[]) ∧ PB w' b s (first e x) ∧ Fr b w w' := by
 have hc := h.c1
 have hf := h.fr 1
 have HP := keep h
 clear h
 by_cases he : e = 0
 ·subst he
  have HF : Hid (first 0 x = x) := if_pos rfl
  go_enter Tryz.func27,Tryz.ntmps27
  go_wp2
  go_end0
  exact ⟨rfl,by rw [HF.out]; exact HP.out.setE x,(Fr.refl b w).set 1 _⟩
 ·have HF : Hid (first e x = e) := if_neg he
  have d : (e == 0) = false := by simpa using he
  go_enter Tryz.func27,Tryz.ntmps27
  go_wp2
  go_end0
  exact ⟨rfl,by rw [HF.out]; exact HP.out,Fr.refl b w⟩
def lenAt (b : Nat) (w : World) : Nat := match w.cell? ⟨b,0,none⟩ with
 | some (.string s) => s.size
 | _ => 0
theorem PB.len {w : World} {b : Nat} {s : ByteArray} {e : Int} (h : PB w b s e) : lenAt b w = s.size := by unfold lenAt; rw [h.c0]
theorem peek_any (b : Nat) (s : ByteArray) (hs : s.size ≤ 281474976710656) (e : Int) (w : World) (h : PB w b s e) :
  Calls Tryz.prog 26 #[.pointer (some ⟨b,0,none⟩)] w fun r w' => r = .returned (.string ⟨(wd s.data.toList).toArray⟩) ∧ PB w' b ⟨(skip s.data.toList).toArray⟩ e ∧ Fr b w w' := by
 have HP := keep h
 clear h
 go_enter Tryz.func26,Tryz.ntmps26
 go_wp2
 go_loopw [4] (fun _ wx => ∃ s' : ByteArray,PB wx b s' e ∧ s'.size ≤ s.size ∧ skip s'.data.toList = skip s.data.toList ∧ Fr b w wx) (fun _ wx => lenAt b wx)
 case atStart => exact ⟨s,HP.out,Nat.le_refl _,rfl,Fr.refl b w⟩
 case round =>
  obtain ⟨s',hp,hsz,hsk,hfr⟩ := hrel
  clear HP
  have HP := keep hp
  have HS := keep hsk
  have HF := keep hfr
  have hc0 := hp.c0
  have hf0 := hp.fr 0
  have HLn := keep hp.len
  clear hp hsk hfr
  by_cases h0 : 0 < s'.size
  ·have d0 : decide ((0 : Int) < (s'.size : Int)) = true := decide_eq_true (by omega)
   have h1z : (1 : Int) ≤ (s'.size : Int) := by omega
   obtain ⟨x,hx⟩ : ∃ x : UInt8,s'[0] = x := ⟨_,rfl⟩
   have hcons := cons_of s' h0
   rw [hx] at hcons
   have HC := keep hcons
   clear hcons
   obtain ⟨q,hq,hqd⟩ : ∃ q : ByteArray,s'.extract 1 s'.size = q ∧ q.data.toList = s'.data.toList.drop 1 := ⟨_,rfl,by rw [Lib.extract_data]; exact List.take_of_length_le (by simp)⟩
   have HQ := keep hqd
   have hqs : q.size + 1 = s'.size := by
    rw [Lib.size_eq,hqd,List.length_drop,← Lib.size_eq]; omega
   have HQS := keep hqs
   clear hqd hqs
   by_cases hb : x = 32 ∨ x = 10
   ·have HB : Hid (Lg.blank x = true) := by
     show Lg.blank x = true
     unfold Lg.blank
     rcases hb with e | e <;> (rw [e]; rfl)
    rcases hb with e32 | e10
    ·subst e32
     go_wp2
     go_roundw
     case rel => exact ⟨q,HP.out.setS q,by have := HQS.out; omega,by rw [HQ.out,← HS.out,HC.out,skip_cons_yes HB.out]; simp,HF.out.set 0 _⟩
     case measure => rw [HLn.out,(HP.out.setS q).len]; have := HQS.out; omega
    ·subst e10
     go_wp2
     go_roundw
     case rel => exact ⟨q,HP.out.setS q,by have := HQS.out; omega,by rw [HQ.out,← HS.out,HC.out,skip_cons_yes HB.out]; simp,HF.out.set 0 _⟩
     case measure => rw [HLn.out,(HP.out.setS q).len]; have := HQS.out; omega
   ·have hbl : Lg.blank x = false := by
     cases hh : Lg.blank x with
     | false => rfl
     | true =>
      exfalso
      have := (stop_iff x).1 (by unfold stop; rw [hh]; rfl)
      unfold Lg.blank at hh
      simp only [Bool.or_eq_true,beq_iff_eq] at hh
      exact hb hh
    have HK : Hid (skip s.data.toList = s'.data.toList) := by
     show skip s.data.toList = _
     rw [← HS.out,HC.out,skip_cons_no hbl]
    have hx32 : ¬ (x.toNat : Int) = 32 := fun e => hb (.inl (UInt8.toNat_inj.1 (by show x.toNat = 32; omega)))
    have hx10 : ¬ (x.toNat : Int) = 10 := fun e => hb (.inr (UInt8.toNat_inj.1 (by show x.toNat = 10; omega)))
    have b32 : ((x.toNat : Int) == 32) = false := beq_eq_false_iff_ne.2 hx32
    have b10 : ((x.toNat : Int) == 10) = false := beq_eq_false_iff_ne.2 hx10
    clear hb hbl HS HC hq HQ HQS hx32 hx10
    have hll : s'.data.toList.length = s'.size := Lib.size_eq s' |>.symm
    go_wp2
    clear hx b32 b10 d0 h1z
    go_loopw [3] (fun s3 wx => ∃ k : Nat,s3 = .int .i64 (k : Nat) ∧ k ≤ s'.size ∧ (∀ c ∈ s'.data.toList.take k,stop c = false) ∧ wx = wr) (fun s3 _ => s'.size - (intOf s3).toNat)
    case atStart => exact ⟨0,rfl,Nat.zero_le _,by simp,rfl⟩
    case round =>
     obtain ⟨k,rfl,hk,hno,rfl⟩ := hrel
     have HN := keep hno
     clear hno
     by_cases hkl : k < s'.size
     ·have dkz : decide ((k : Int) < (s'.size : Int)) = true := decide_eq_true (by omega)
      have hkz : (k : Int) < (s'.size : Int) := by omega
      obtain ⟨y,hy⟩ : ∃ y : UInt8,s'[k] = y := ⟨_,rfl⟩
      have hyl : s'.data.toList[k]? = some y := by rw [← hy]; exact Lib.data_getElem? s' k hkl
      have HY := keep hyl
      clear hyl
      by_cases hst : stop y = true
      ·have HW : Hid (word s'.data.toList = s'.data.toList.take (if k = 0 then 1 else k)) := by
        show word s'.data.toList = _
        by_cases h0k : k = 0
        ·rw [if_pos h0k]
         subst h0k
         exact word_zero HY.out hst
        ·rw [if_neg h0k]
         exact word_at (by omega) (by omega) HN.out (.inr ⟨y,HY.out,hst⟩)
       have hcs := (stop_iff y).1 hst
       clear hst HY HN
       by_cases h0k : k = 0
       ·subst h0k
        rw [if_pos rfl] at HW
        have h1z : (1 : Int) ≤ (s'.size : Int) := by omega
        rcases hcs with rfl | rfl | rfl | rfl
        all_goals
         go_wp2
         go_ret
         refine ⟨?_,by rw [HK.out]; exact HP.out,HF.out⟩
         rw [take_str]
         unfold wd
         rw [HK.out,HW.out]
         rfl
       ·rw [if_neg h0k] at HW
        have d0k : ((k : Int) == 0) = false := beq_eq_false_iff_ne.2 (by omega)
        have hk0 : (0 : Int) ≤ (k : Int) := by omega
        have hkle : (k : Int) ≤ (s'.size : Int) := by omega
        rcases hcs with rfl | rfl | rfl | rfl
        all_goals
         go_wp2
         go_ret
         refine ⟨?_,by rw [HK.out]; exact HP.out,HF.out⟩
         rw [take_str]
         unfold wd
         rw [HK.out,HW.out]
         rfl
      ·have hns : ¬ (y = 32 ∨ y = 10 ∨ y = 40 ∨ y = 41) := fun hh => hst ((stop_iff y).2 hh)
       have hsf : stop y = false := by simpa using hst
       have n1 : ((y.toNat : Int) != 32) = true := by simpa using fun e => hns (.inl (UInt8.toNat_inj.1 (by show y.toNat = 32; omega)))
       have n2 : ((y.toNat : Int) != 10) = true := by simpa using fun e => hns (.inr (.inl (UInt8.toNat_inj.1 (by show y.toNat = 10; omega))))
       have n3 : ((y.toNat : Int) != 40) = true := by simpa using fun e => hns (.inr (.inr (.inl (UInt8.toNat_inj.1 (by show y.toNat = 40; omega)))))
       have n4 : ((y.toNat : Int) != 41) = true := by simpa using fun e => hns (.inr (.inr (.inr (UInt8.toNat_inj.1 (by show y.toNat = 41; omega)))))
       have HN' : Hid (∀ c ∈ s'.data.toList.take (k + 1),stop c = false) := by
        show ∀ c ∈ s'.data.toList.take (k + 1),stop c = false
        rw [List.take_add_one,HY.out]
        intro c hc
        rcases List.mem_append.1 hc with h | h
        ·exact HN.out c h
        ·simp at h; rw [h]; exact hsf
       clear hns hst hsf HY HN
       go_wp2
       go_roundw
       case rel => exact ⟨k + 1,by go_num,by omega,HN'.out,trivial⟩
       case measure => simp [intOf]; omega
     ·have hke : k = s'.size := by omega
      subst hke
      have HW : Hid (word s'.data.toList = s'.data.toList.take s'.size) := word_at (by omega) (by omega) HN.out (.inl hll.symm)
      have d0k : ((s'.size : Int) == 0) = false := beq_eq_false_iff_ne.2 (by omega)
      have dk : decide ((s'.size : Int) < (s'.size : Int)) = false := decide_eq_false (by omega)
      clear HN
      go_wp2
      go_ret
      refine ⟨?_,by rw [HK.out]; exact HP.out,HF.out⟩
      unfold wd
      rw [HK.out,HW.out,← hll,List.take_length]
      rfl
  ·have hz : s'.size = 0 := by omega
   have hnil : s'.data.toList = [] := List.eq_nil_of_length_eq_zero (by rw [← Lib.size_eq]; exact hz)
   have hse : s' = ⟨#[]⟩ := by
    apply ByteArray.ext
    exact Array.toList_inj.1 (by simpa using hnil)
   have HK : Hid (skip s.data.toList = []) := by
    show skip s.data.toList = []
    rw [← HS.out,hnil]; rfl
   clear hnil HS h0 hz
   subst hse
   clear hsz
   go_wp2
   go_loopw [3] (fun s3 wx => s3 = .int .i64 0 ∧ wx = wr) (fun s3 _ => 0)
   case atStart => exact ⟨rfl,rfl⟩
   case round =>
    obtain ⟨rfl,rfl⟩ := hrel
    go_wp2
    go_ret
    refine ⟨?_,by rw [HK.out]; exact HP.out,HF.out⟩
    unfold wd
    rw [HK.out]
    rfl
theorem w_any (b : Nat) (s : ByteArray) (hs : s.size ≤ 281474976710656) (e : Int) (w : World) (h : PB w b s e) :
  Calls Tryz.prog 36 #[.pointer (some ⟨b,0,none⟩)] w fun r w' => r = .returned (.string ⟨(wd s.data.toList).toArray⟩) ∧ PB w' b ⟨(rs s.data.toList).toArray⟩ (if wd s.data.toList = [] then first e 8 else e) ∧ Fr b w w' := by
 have HC := keep (peek_any b s hs e w h)
 clear h
 have hle : (wd s.data.toList).length ≤ (skip s.data.toList).length := by
  unfold wd word
  split
  ·exact List.length_take_le' _ _
  ·exact (List.takeWhile_sublist _).length_le
 have HR : Hid (rs s.data.toList = (skip s.data.toList).drop (wd s.data.toList).length) := rfl
 generalize rs s.data.toList = R at *
 generalize wd s.data.toList = W at *
 generalize skip s.data.toList = K at *
 obtain ⟨kb,hkb,hkd⟩ : ∃ kb : ByteArray,(⟨K.toArray⟩ : ByteArray) = kb ∧ kb.data.toList = K := ⟨_,rfl,rfl⟩
 rw [hkb] at HC
 have hks : kb.size = K.length := by rw [Lib.size_eq,hkd]
 have HRB : Hid (kb.extract W.length kb.size = ⟨R.toArray⟩) := by
  show kb.extract W.length kb.size = _
  rw [Lib.extract_eq,hkd,HR.out,List.take_of_length_le (by simp; omega)]
 have hz1 : (0 : Int) ≤ (W.length : Int) := by omega
 have hz2 : (W.length : Int) ≤ (kb.size : Int) := by omega
 clear hkb hkd HR hks hle
 by_cases hw : W = []
 ·subst hw
  rw [if_pos rfl]
  have HRK : Hid ((⟨R.toArray⟩ : ByteArray) = kb) := by
   show (⟨R.toArray⟩ : ByteArray) = kb
   rw [← HRB.out,Lib.extract_eq]
   apply ByteArray.ext
   apply Array.toList_inj.1
   show List.take _ (List.drop 0 kb.data.toList) = kb.data.toList
   rw [List.drop_zero,List.take_of_length_le (by rw [← Lib.size_eq]; simp)]
  clear hz1 hz2 HRB
  go_enter Tryz.func36,Tryz.ntmps36
  go_wp2_with fail
  refine HC.out.mono ?_
  rintro r w1 ⟨rfl,hp,hf⟩
  have HP := keep hp
  have HF := keep hf
  clear hp hf
  go_wp2_with fail
  refine (bad_any b kb e 8 _ HP.out).mono ?_
  rintro r w2 ⟨rfl,hp,hf⟩
  have HP2 := keep hp
  have HF2 := keep (HF.out.trans hf)
  have hc0 := hp.c0
  have hf0 := hp.fr 0
  clear hp hf HP HF
  go_wp2
  go_ret
  exact ⟨rfl,by rw [HRK.out]; exact HP2.out.setS _,HF2.out.set 0 _⟩
 ·rw [if_neg hw]
  have hwb : (W == []) = false := by simpa using hw
  go_enter Tryz.func36,Tryz.ntmps36
  go_wp2_with fail
  refine HC.out.mono ?_
  rintro r w1 ⟨rfl,hp,hf⟩
  have hc0 := hp.c0
  have hf0 := hp.fr 0
  have HP := keep hp
  have HF := keep hf
  clear hp hf
  go_wp2
  go_ret
  exact ⟨rfl,by rw [← HRB.out]; exact HP.out.setS _,HF.out.set 0 _⟩
def Rd {α : Type} (w : World) (b n : Nat) (e : Int) (res : Res α) (post : α → Prop) : Prop :=
 ∃ (s' : ByteArray) (e' : Int),PB w b s' e' ∧ s'.size ≤ n ∧ (¬ e = 0 → e' = e) ∧ (e = 0 → (∀ x,res = .error x → e' = x ∧ ¬ x = 0) ∧ ∀ a r,res = .ok (a,r) → e' = 0 ∧ words s'.data.toList = r ∧ post a)
theorem w_rd (b : Nat) (s : ByteArray) (hs : s.size ≤ 281474976710656) (e : Int) (w : World) (h : PB w b s e) :
  Calls Tryz.prog 36 #[.pointer (some ⟨b,0,none⟩)] w fun r w' => r = .returned (.string ⟨(wd s.data.toList).toArray⟩) ∧ Rd w' b s.size e (next (words s.data.toList)) (fun a => a = wd s.data.toList) ∧ Fr b w w' := by
 refine (w_any b s hs e w h).mono ?_
 rintro r w' ⟨rfl,hp,hf⟩
 refine ⟨rfl,⟨_,_,hp,rs_len s,fun he => ?_,fun he => ?_⟩,hf⟩
 ·by_cases hw : wd s.data.toList = []
  ·rw [if_pos hw,first_ne he]
  ·rw [if_neg hw]
 ·subst he
  rw [next_words]
  by_cases hw : wd s.data.toList = []
  ·rw [if_pos hw,if_pos hw,first_zero]
   exact ⟨fun x hx => (by cases hx; exact ⟨rfl,by decide⟩),fun a r hx => (by cases hx)⟩
  ·rw [if_neg hw,if_neg hw]
   refine ⟨fun x hx => (by cases hx),fun a r hx => ?_⟩
   cases hx
   exact ⟨rfl,by simp,rfl⟩
theorem rd_look {α : Type} {w' : World} {b n : Nat} {e : Int} {l : List UInt8} {s1 : ByteArray} {e1 x : Int} {e2 : Int} {f : List UInt8 → List (List UInt8) → Res α} {post : α → Prop}
  (h1 : ¬ e = 0 → e1 = e) (h2 : e = 0 → (∀ x,next (words l) = .error x → e1 = x ∧ ¬ x = 0) ∧ ∀ a r,next (words l) = .ok (a,r) → e1 = 0 ∧ words s1.data.toList = r ∧ a = wd l)
  (hp : PB w' b s1 e2) (hn : s1.size ≤ n)
  (hgood : (∀ r,f (wd l) r = .error x ∧ ¬ x = 0) ∧ e2 = first e1 x ∨ (∃ a,(∀ r,f (wd l) r = .ok (a,r)) ∧ post a) ∧ e2 = e1) : Rd w' b n e (andT (next (words l)) f) post := by
 refine ⟨s1,e2,hp,hn,fun he => ?_,fun he => ?_⟩
 ·have := h1 he
  rcases hgood with ⟨_,h⟩ | ⟨_,h⟩
  ·rw [h,this,first_ne he]
  ·rw [h,this]
 ·obtain ⟨g1,g2⟩ := h2 he
  cases hx : next (words l) with
  | error y =>
   obtain ⟨k1,k2⟩ := g1 y hx
   refine ⟨fun z hz => ?_,fun a r hz => by cases hz⟩
   cases hz
   rcases hgood with ⟨_,h⟩ | ⟨_,h⟩
   ·rw [h,k1,first_ne k2]; exact ⟨rfl,k2⟩
   ·rw [h,k1]; exact ⟨rfl,k2⟩
  | ok p =>
   obtain ⟨a,r⟩ := p
   obtain ⟨k1,k2,k3⟩ := g2 a r hx
   subst k3
   rcases hgood with ⟨hb,h⟩ | ⟨⟨c,hc,hpost⟩,h⟩
   ·refine ⟨fun z hz => ?_,fun a' r' hz => ?_⟩
    ·have := (hb r).1
     rw [andT_ok,this] at hz
     cases hz
     rw [h,k1,first_zero]; exact ⟨rfl,(hb r).2⟩
    ·rw [andT_ok,(hb r).1] at hz; cases hz
   ·refine ⟨fun z hz => ?_,fun a' r' hz => ?_⟩
    ·rw [andT_ok,hc r] at hz; cases hz
    ·rw [andT_ok,hc r] at hz
     cases hz
     rw [h,k1]; exact ⟨rfl,k2,hpost⟩
theorem is_rd (b : Nat) (s : ByteArray) (hs : s.size ≤ 281474976710656) (e : Int) (x : ByteArray) (w : World) (h : PB w b s e) :
  Calls Tryz.prog 18 #[.pointer (some ⟨b,0,none⟩),.string x] w fun r w' => r = .returned (.tuple #[]) ∧ Rd w' b s.size e (want x.data.toList (words s.data.toList)) (fun _ => True) ∧ Fr b w w' := by
 have HC := keep (w_rd b s hs e w h)
 clear h
 have HL : Hid (∃ l,s.data.toList = l) := ⟨_,rfl⟩
 by_cases hq : wd s.data.toList = x.data.toList
 ·have dq : (wd s.data.toList == x.toList) = true := by rw [Lib.toList_data]; simpa using hq
  have HQ := keep hq
  clear hq
  generalize hW : wd s.data.toList = W at *
  have HW := keep hW
  clear hW
  go_enter Tryz.func18,Tryz.ntmps18
  go_wp2_with fail
  refine HC.out.mono ?_
  rintro r w1 ⟨rfl,hr,hf⟩
  have HR := keep hr
  have HF := keep hf
  clear hr hf
  go_wp2
  go_end0
  obtain ⟨s1,e1,hp,hn,h1,h2⟩ := HR.out
  refine ⟨rfl,rd_look (x:=2) h1 (by rw [HW.out]; exact h2) hp hn (.inr ⟨⟨(),fun r => by rw [HW.out,if_pos HQ.out],trivial⟩,rfl⟩),HF.out⟩
 ·have dq : (wd s.data.toList == x.toList) = false := by rw [Lib.toList_data]; simpa using hq
  have HQ := keep hq
  clear hq
  generalize hW : wd s.data.toList = W at *
  have HW := keep hW
  clear hW
  go_enter Tryz.func18,Tryz.ntmps18
  go_wp2_with fail
  refine HC.out.mono ?_
  rintro r w1 ⟨rfl,hr,hf⟩
  obtain ⟨s1,e1,hp,hn,h1,h2⟩ := hr
  have HP := keep hp
  have HF := keep hf
  have H1 := keep h1
  have H2 := keep h2
  clear hp hf h1 h2
  go_wp2_with fail
  refine (bad_any b s1 e1 2 _ HP.out).mono ?_
  rintro r w2 ⟨rfl,hp2,hf2⟩
  have HP2 := keep hp2
  have HF2 := keep (HF.out.trans hf2)
  clear hp2 hf2
  go_wp2
  go_end0
  exact ⟨rfl,rd_look (x:=2) H1.out (by rw [HW.out]; exact H2.out) HP2.out hn (.inl ⟨fun r => ⟨by rw [HW.out,if_neg HQ.out],by decide⟩,rfl⟩),HF2.out⟩
def keptA : Array Value := #[.string ⟨#[102,110]⟩,.string ⟨#[112,117,98]⟩,.string ⟨#[115,101,99]⟩,.string ⟨#[108,101,116]⟩,.string ⟨#[115,101,116]⟩,.string ⟨#[112,117,116]⟩,.string ⟨#[105,102]⟩,.string ⟨#[102,111,114]⟩,.string ⟨#[114,101,116]⟩,.string ⟨#[115,101,108]⟩,.string ⟨#[97,116]⟩]
theorem keptA_at (k : Nat) (h : k < 11) : keptA[k]? = some (.string ⟨(kept.getD k []).toArray⟩) := by
 have : ∀ j : Fin 11,keptA[j.val]? = some (.string ⟨(kept.getD j.val []).toArray⟩) := by
  intro j
  match j with
  | ⟨0,_⟩ => rfl
  | ⟨1,_⟩ => rfl
  | ⟨2,_⟩ => rfl
  | ⟨3,_⟩ => rfl
  | ⟨4,_⟩ => rfl
  | ⟨5,_⟩ => rfl
  | ⟨6,_⟩ => rfl
  | ⟨7,_⟩ => rfl
  | ⟨8,_⟩ => rfl
  | ⟨9,_⟩ => rfl
  | ⟨10,_⟩ => rfl
  | ⟨i + 11,h⟩ => exact absurd h (by omega)
 exact this ⟨k,h⟩
theorem kept_cell (w : World) (k : Nat) (h : k < 11) : (w.alloc (.cells keptA 9)).cell? ⟨w.heap.size,k,none⟩ = some (.string ⟨(kept.getD k []).toArray⟩) := by
 rw [Lib.cell_of_heap (MapKept.heap_alloc w (.cells keptA 9)).1]
 exact keptA_at k h
theorem kept_mem (k : Nat) (h : k < 11) : kept.getD k [] ∈ kept := by
 rw [List.getD_eq_getElem?_getD,List.getElem?_eq_getElem (show k < kept.length from h)]
 exact List.getElem_mem _
theorem name_kept {l : List UInt8} (h : l ∈ kept) : isName l = false := decide_eq_false fun hh => hh.2.2.2 h
theorem name_bad {l : List UInt8} {k : Nat} {y : UInt8} (h : l[k]? = some y) (hy : ¬ (97 ≤ y.toNat ∧ y.toNat ≤ 122)) : isName l = false :=
 decide_eq_false fun hh => hy (hh.2.2.1 y (List.mem_of_getElem? h))
theorem name_good {l : List UInt8} (h1 : ∀ k,k < 11 → ¬ kept.getD k [] = l) (h2 : ∀ c ∈ l,97 ≤ c.toNat ∧ c.toNat ≤ 122) : isName l = decide (1 ≤ l.length ∧ l.length ≤ 6) := by
 unfold isName
 refine decide_eq_decide.2 ⟨fun h => ⟨h.1,h.2.1⟩,fun h => ⟨h.1,h.2,h2,fun hm => ?_⟩⟩
 obtain ⟨k,hk,e⟩ := List.getElem_of_mem hm
 refine h1 k hk ?_
 rw [List.getD_eq_getElem?_getD,List.getElem?_eq_getElem hk]
 exact e
theorem name_any (s : ByteArray) (hs : s.size ≤ 281474976710656) (w : World) :
  Calls Tryz.prog 37 #[.string s] w fun r w' => r = .returned (.bool (isName s.data.toList)) ∧ Below w.heap.size w w' := by
 have HCell := keep (kept_cell w)
 have HB : Hid (Below w.heap.size w (w.alloc (.cells keptA 9))) := (Below.refl _ _).alloc (Nat.le_refl _) _
 have HLen : Hid (s.data.toList.length = s.size) := (Lib.size_eq s).symm
 go_enter Tryz.func37,Tryz.ntmps37
 go_wp2
 change Hid (∀ k,k < 11 → _) at HCell
 go_loopw [8] (fun i wx => ∃ k : Nat,k ≤ 11 ∧ i = .int .i64 (k : Int) ∧ (∀ j,j < k → ¬ kept.getD j [] = s.data.toList) ∧ wx = w.alloc (.cells keptA 9)) (fun i _ => 11 - (intOf i).toNat)
 case atStart => exact ⟨0,by omega,rfl,fun j hj => by omega,rfl⟩
 case round =>
  obtain ⟨k,hk,rfl,hno,rfl⟩ := hrel
  have HN := keep hno
  clear hno
  by_cases hkl : k < 11
  ·have d1 : decide ((k : Int) < 11) = true := decide_eq_true (by omega)
   have hkz : (k : Int) < 11 := by omega
   have hk0 : (0 : Int) ≤ (k : Int) := by omega
   have hcell := HCell.out k hkl
   have HM := keep (kept_mem k hkl)
   have HD : Hid (∃ q,kept.getD k [] = q) := ⟨_,rfl⟩
   obtain ⟨q,hq⟩ := HD.out
   rw [hq] at hcell HM
   have HQ := keep hq
   clear hq HD
   by_cases he : q = s.data.toList
   ·have de : (q == s.toList) = true := by rw [Lib.toList_data]; simpa using he
    have HE := keep he
    clear he
    go_wp2
    go_ret
    exact ⟨by rw [name_kept (by rw [← HE.out]; exact HM.out)]; rfl,HB.out⟩
   ·have de : (q == s.toList) = false := by rw [Lib.toList_data]; simpa using he
    have HE := keep he
    clear he
    go_wp2
    go_roundw
    case rel => exact ⟨k + 1,by omega,by go_num,fun j hj => by
     by_cases hjk : j = k
     ·rw [hjk,HQ.out]; exact HE.out
     ·exact HN.out j (by omega),trivial⟩
    case measure => simp [intOf]; omega
  ·have hke : k = 11 := by omega
   subst hke
   clear hkl hk
   go_wp2
   go_loopw [18] (fun i wx => ∃ k : Nat,k ≤ s.size ∧ i = .int .i64 (k : Int) ∧ (∀ c ∈ s.data.toList.take k,97 ≤ c.toNat ∧ c.toNat ≤ 122) ∧ wx = w.alloc (.cells keptA 9)) (fun i _ => s.size - (intOf i).toNat)
   case atStart => exact ⟨0,by omega,rfl,by simp,rfl⟩
   case round =>
    obtain ⟨k,hk,rfl,hall,rfl⟩ := hrel
    have HA := keep hall
    clear hall
    by_cases hkl : k < s.size
    ·have d1 : decide ((k : Int) < (s.size : Int)) = true := decide_eq_true (by omega)
     have hkz : (k : Int) < (s.size : Int) := by omega
     have hk0 : (0 : Int) ≤ (k : Int) := by omega
     obtain ⟨y,hy⟩ : ∃ y : UInt8,s[k] = y := ⟨_,rfl⟩
     have HY : Hid (s.data.toList[k]? = some y) := by rw [← hy]; exact Lib.data_getElem? s k hkl
     by_cases h97 : y.toNat < 97
     ·have d97 : decide ((y.toNat : Int) < 97) = true := decide_eq_true (by omega)
      have HF := keep (name_bad HY.out (show ¬ (97 ≤ y.toNat ∧ y.toNat ≤ 122) by omega))
      clear h97
      go_wp2
      go_ret
      exact ⟨by rw [HF.out]; rfl,HB.out⟩
     ·have d97 : decide ((y.toNat : Int) < 97) = false := decide_eq_false (by omega)
      by_cases h122 : 122 < y.toNat
      ·have d122 : decide ((122 : Int) < (y.toNat : Int)) = true := decide_eq_true (by omega)
       have HF := keep (name_bad HY.out (show ¬ (97 ≤ y.toNat ∧ y.toNat ≤ 122) by omega))
       clear h97 h122
       go_wp2
       go_ret
       exact ⟨by rw [HF.out]; rfl,HB.out⟩
      ·have d122 : decide ((122 : Int) < (y.toNat : Int)) = false := decide_eq_false (by omega)
       have HA' : Hid (∀ c ∈ s.data.toList.take (k + 1),97 ≤ c.toNat ∧ c.toNat ≤ 122) := by
        show ∀ c ∈ s.data.toList.take (k + 1),97 ≤ c.toNat ∧ c.toNat ≤ 122
        rw [List.take_add_one,HY.out]
        intro c hc
        rcases List.mem_append.1 hc with h | h
        ·exact HA.out c h
        ·simp at h; rw [h]; omega
       clear h97 h122 HA
       go_wp2
       go_roundw
       case rel => exact ⟨k + 1,by omega,by go_num,HA'.out,trivial⟩
       case measure => simp [intOf]; omega
    ·have hke : k = s.size := by omega
     subst hke
     have HG : Hid (isName s.data.toList = decide (1 ≤ s.size ∧ s.size ≤ 6)) := by
      show isName s.data.toList = _
      rw [name_good (fun j hj => HN.out j hj) (fun c hc => HA.out c (by rw [← HLen.out,List.take_length]; exact hc)),HLen.out]
     have dk : decide ((s.size : Int) < (s.size : Int)) = false := decide_eq_false (by omega)
     clear hkl hk HA HN
     by_cases h0 : 0 < s.size
     ·have d0 : decide ((0 : Int) < (s.size : Int)) = true := decide_eq_true (by omega)
      by_cases h7 : s.size < 7
      ·have d7 : decide ((s.size : Int) < 7) = true := decide_eq_true (by omega)
       have HR : Hid (isName s.data.toList = true) := by
        show isName _ = true
        rw [HG.out]; exact decide_eq_true (by omega)
       clear h7
       go_wp2
       go_ret
       exact ⟨by rw [HR.out]; rfl,HB.out⟩
      ·have d7 : decide ((s.size : Int) < 7) = false := decide_eq_false (by omega)
       have HR : Hid (isName s.data.toList = false) := by
        show isName _ = false
        rw [HG.out]; exact decide_eq_false (by omega)
       clear h7
       go_wp2
       go_ret
       exact ⟨by rw [HR.out]; rfl,HB.out⟩
     ·have d0 : decide ((0 : Int) < (s.size : Int)) = false := decide_eq_false (by omega)
      have HR : Hid (isName s.data.toList = false) := by
       show isName _ = false
       rw [HG.out]; exact decide_eq_false (by omega)
      go_wp2
      go_ret
      exact ⟨by rw [HR.out]; rfl,HB.out⟩
end Go.Proofs.YtemdnmfldihalaaGreatDoor.Lr
