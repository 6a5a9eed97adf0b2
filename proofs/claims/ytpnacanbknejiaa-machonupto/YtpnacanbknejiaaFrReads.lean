/- The document's Reads and Makes. Written by tools/gen_frreads.py. -/
import Derived.Test.YtpnacanbknejiaaFrForm
import Derived.Test.YtpnacanbknejiaaFlSeen2
import Derived.Laws.IdiomStrings
namespace Go.Proofs.Ytpnacanbknejiaa.Fl
set_option maxHeartbeats 32000000
set_option maxRecDepth 100000
set_option linter.unusedVariables false
set_option linter.unusedSimpArgs false
open Go.ChangeShapes Go.WideShapes Go.ChangeAt Go.RowKit Lg Lr
def letR (i : Ix) (x : UInt8) : Option Int := if x = 65 then some i.a else if x = 66 then some i.b else if x = 67 then some i.c else if x = 68 then some i.d else none
def rdF (l : List UInt8) (i : Ix) : List Int := l.filterMap (letR i)
theorem form_cls (i : Ix) : rdF (formT i.op) i = rds i ∧ (mks i = decide ((formT i.op).getLast? = some 109)) ∧ (∀ x ∈ formT i.op,x = 65 ∨ x = 66 ∨ x = 67 ∨ x = 68 ∨ x = 109) ∧ (formT i.op).length ≤ 4 := by
 obtain ⟨op,d,a,b,c,imm⟩ := i
 have hcl : (1 ≤ op ∧ op ≤ 12) ∨ op = 13 ∨ op = 14 ∨ op = 15 ∨ op = 16 ∨ op = 17 ∨ op = 19 ∨ op = 20 ∨ ((op < 1 ∨ 12 < op) ∧ op ≠ 13 ∧ op ≠ 14 ∧ op ≠ 15 ∧ op ≠ 16 ∧ op ≠ 17 ∧ op ≠ 19 ∧ op ≠ 20) := by omega
 rcases hcl with h | rfl | rfl | rfl | rfl | rfl | rfl | rfl | h
 ·have e : formT op = [65,66,109] := by unfold formT; rw [if_pos h]
  have e2 : rds ⟨op,d,a,b,c,imm⟩ = [a,b] := by unfold rds; rw [if_pos h]
  have e3 : mks ⟨op,d,a,b,c,imm⟩ = true := by unfold mks; dsimp only; rw [decide_eq_true h.1,decide_eq_true (show op ≤ 16 by omega)]; rfl
  dsimp only
  rw [e,e2,e3]
  refine ⟨rfl,rfl,?_,by decide⟩
  intro x hx
  simp at hx
  rcases hx with rfl | rfl | rfl <;> simp
 ·exact ⟨rfl,rfl,by intro x hx; have : x ∈ ([65,66,67,109] : List UInt8) := hx; simp at this; rcases this with rfl | rfl | rfl | rfl <;> simp,by dsimp only; decide⟩
 ·exact ⟨rfl,rfl,by intro x hx; have : x ∈ ([109] : List UInt8) := hx; simp at this; subst this; simp,by dsimp only; decide⟩
 ·exact ⟨rfl,rfl,by intro x hx; have : x ∈ ([65,109] : List UInt8) := hx; simp at this; rcases this with rfl | rfl <;> simp,by dsimp only; decide⟩
 ·exact ⟨rfl,rfl,by intro x hx; have : x ∈ ([65,109] : List UInt8) := hx; simp at this; rcases this with rfl | rfl <;> simp,by dsimp only; decide⟩
 ·exact ⟨rfl,rfl,by intro x hx; have : x ∈ ([65,68] : List UInt8) := hx; simp at this; rcases this with rfl | rfl <;> simp,by dsimp only; decide⟩
 ·exact ⟨rfl,rfl,by intro x hx; have : x ∈ ([65] : List UInt8) := hx; simp at this; subst this; simp,by dsimp only; decide⟩
 ·exact ⟨rfl,rfl,by intro x hx; have : x ∈ ([65] : List UInt8) := hx; simp at this; subst this; simp,by dsimp only; decide⟩
 ·have e : formT op = [] := by unfold formT; rw [if_neg (by omega),if_neg (by omega),if_neg (by omega),if_neg (by omega),if_neg (by omega),if_neg (by omega)]
  have e2 : rds ⟨op,d,a,b,c,imm⟩ = [] := by unfold rds; rw [if_neg (by dsimp only; omega),if_neg (by dsimp only; omega),if_neg (by dsimp only; omega),if_neg (by dsimp only; omega)]
  have e3 : mks ⟨op,d,a,b,c,imm⟩ = false := by unfold mks; dsimp only; rw [Bool.and_eq_false_iff,decide_eq_false_iff_not,decide_eq_false_iff_not]; omega
  dsimp only
  rw [e,e2,e3]
  exact ⟨rfl,rfl,(by intro x hx; cases hx),by decide⟩
theorem rdF_step {l : List UInt8} {i : Ix} {k : Nat} {x : UInt8} (h : l[k]? = some x) : rdF (l.take (k + 1)) i = rdF (l.take k) i ++ (letR i x).toList := by
 unfold rdF
 rw [List.take_add_one,h,Option.toList_some,List.filterMap_append]
 cases hl : letR i x <;> simp [hl]
theorem rdF_len (l : List UInt8) (i : Ix) : (rdF l i).length ≤ l.length := List.length_filterMap_le _ _
def RdN (i : Ix) (w : World) (r : Ending) (w' : World) : Prop := ∃ v,r = .returned v ∧ RowI w' w.heap.size v (rds i) ∧ Below w.heap.size w w'
theorem rreads_any (i : Ix) (w : World) : Calls Try.prog 13 #[.agg (ixA i)] w fun r w' => RdN i w r w' := by
 obtain ⟨hf1,_,hf3,hf4⟩ := form_cls i
 obtain ⟨op,d,a,b,c,imm⟩ := i
 obtain ⟨w1,hw1⟩ : ∃ y,w.alloc (.cells #[.int .i64 op,.int .i64 d,.int .i64 a,.int .i64 b,.int .i64 c,.int .i64 imm] 35) = y := ⟨_,rfl⟩
 obtain ⟨X,hX⟩ : ∃ y,w.heap.size = y := ⟨_,rfl⟩
 have b1 : Below w.heap.size w w1 := by rw [← hw1]; exact (Below.refl _ _).alloc (Nat.le_refl _) _
 have kX : Bk w1 X [.int .i64 op,.int .i64 d,.int .i64 a,.int .i64 b,.int .i64 c,.int .i64 imm] 35 := by rw [← hw1,← hX]; exact Bk.new _ _ _
 have HkX := keep kX
 have HF1 := keep hf1
 have HF3 := keep hf3
 have HB1 := keep b1
 have HW1 := keep hw1
 have HX := keep hX
 have hcv := fun w s => run_bytes_of_string (P:=Try.prog) w 9 64 5 s Try.underlying9 Try.underlying64 Try.underlying5
 have HFm := keep (fun w => form_any op w)
 have x0 := kX.cell 0 rfl
 dsimp only at hf1 hf3 hf4 HF1 HF3
 obtain ⟨fs,hfs⟩ : ∃ y,formT op = y := ⟨_,rfl⟩
 rw [hfs] at HF1 HF3 hf4 HFm
 have HF4 := keep hf4
 unfold ixA
 dsimp only
 clear hw1 hX b1 kX hf1 hf3 hf4 hfs
 go_enter Try.func13,Try.ntmps13
 go_wp2_with (first | rw [HW1.out] | rw [HX.out] | fail)
 refine (HFm.out w1).mono ?_
 rintro r wq ⟨rfl,rfl⟩
 clear HFm
 go_wp2_with fail
 obtain ⟨C,hC⟩ : ∃ y,grownCap wq fs.length 0 5 = y := ⟨_,rfl⟩
 rw [hC]
 obtain ⟨w2,hw2⟩ : ∃ y,(wq.alloc (.cells (bytesRow ⟨fs.toArray⟩ C) 5 ((bytesRow ⟨fs.toArray⟩ C).size,(bytesRow ⟨fs.toArray⟩ C).size + 1))).drew = y := ⟨_,rfl⟩
 rw [hw2]
 have hb2 : Below wq.heap.size wq w2 := by rw [← hw2]; exact Below.drew ((Below.refl _ _).alloc (Nat.le_refl _) _)
 have HBy : Hid (∀ j x,fs[j]? = some x → w2.cell? ⟨wq.heap.size,j,none⟩ = some (.int .u8 (x.toNat : Int))) := fun j x h => by
  obtain ⟨hl,he⟩ := List.getElem?_eq_some_iff.1 h
  rw [← hw2]
  have h1 := World.cell?_alloc_mark wq (bytesRow ⟨fs.toArray⟩ C) 5 ((bytesRow ⟨fs.toArray⟩ C).size,(bytesRow ⟨fs.toArray⟩ C).size + 1) j
  refine Eq.trans h1 ?_
  rw [bytesRow_at ⟨fs.toArray⟩ C j (by simpa using hl)]
  simp [he]
 have HkX2 := keep (HkX.out.fs (Fs.of_below (l:=[]) hb2) (by simp))
 have HB2 := keep (HB1.out.trans (hb2.mono HB1.out.size))
 have HHb : Hid (wq.heap.size < w2.heap.size) := by show _ < _; rw [← hw2]; simp
 generalize wq.heap.size = bb at *
 clear hw2 hC hcv x0 hb2
 go_loopw [11,3] (fun j v wx => ∃ (k : Nat) (es : List Int),k ≤ fs.length ∧ j = .int .i64 (k : Int) ∧ RowI wx w2.heap.size v es ∧ es.length ≤ k ∧ es = rdF (fs.take k) ⟨op,d,a,b,c,imm⟩ ∧ Below w2.heap.size w2 wx) (fun j _ _ => fs.length - (intOf j).toNat)
 case atStart => exact ⟨0,[],by omega,rfl,RowX.nil _ _,Nat.le_refl _,rfl,Below.refl _ _⟩
 case round =>
  obtain ⟨k,es,hkn,rfl,hrow,hlen,hes,hbx⟩ := hrel
  have HRow := keep hrow
  have HL := keep hlen
  have HEs := keep hes
  have HXx := keep hbx
  obtain ⟨po,no,co,rfl⟩ := RowX.slice hrow
  clear hrow hlen hes hbx
  by_cases hkl : k < fs.length
  ·have d1 : decide ((k : Int) < (fs.length : Int)) = true := decide_eq_true (by omega)
   have hkz : (k : Int) < (fs.length : Int) := by omega
   have hk0 : (0 : Int) ≤ (k : Int) := by omega
   have hwr : IntKind.i64.wrap ((k : Int) + 1) = (k : Int) + 1 := by rw [IntKind.wrap_i64]; have := HF4.out; omega
   obtain ⟨x,hx⟩ : ∃ x,fs[k]? = some x := ⟨_,List.getElem?_eq_getElem hkl⟩
   have hst := rdF_step (i:=⟨op,d,a,b,c,imm⟩) hx
   have hcl := HF3.out x (List.mem_of_getElem? hx)
   have hby := HBy.out k x hx
   have a0 : wr.cell? ⟨bb,k,none⟩ = some (.int .u8 (x.toNat : Int)) := by rw [cell_below HXx.out HHb.out]; exact hby
   have HSt := keep hst
   have HMr := keep (rdF_len fs ⟨op,d,a,b,c,imm⟩)
   have kX := HkX2.out.fs (Fs.of_below (l:=[]) HXx.out) (by simp)
   have x1 := kX.cell 1 rfl
   have x2 := kX.cell 2 rfl
   have x3 := kX.cell 3 rfl
   have x4 := kX.cell 4 rfl
   have HWs := keep HXx.out.size
   clear hx hst hby kX
   generalize fs.length = fl at *
   rcases hcl with rfl | rfl | rfl | rfl | rfl
   ·have h0 : ((65 : UInt8).toNat : Int) = 65 := rfl
    rw [h0] at a0
    have HYes : Hid (es ++ [a] = rdF (fs.take (k + 1)) ⟨op,d,a,b,c,imm⟩) := by
     show _ = _
     rw [HSt.out,← HEs.out]; rfl
    obtain ⟨w5,hw5⟩ : ∃ y,wr.alloc (.cells #[.int .i64 a] 3) = y := ⟨_,rfl⟩
    have HB5 : Hid (Below wr.heap.size wr w5) := by show Below _ _ _; rw [← hw5]; exact (Below.refl _ _).alloc (Nat.le_refl _) _
    have HI5 : Hid (IntsIs w5 w5.heap.size [a] (.slice (some ⟨wr.heap.size,0,none⟩) 1 1)) := by
     have h := ints_new wr [a] (by simp)
     show IntsIs _ _ _ _
     rw [← hw5]; exact h
    have HR5 : Hid (RowI w5 w2.heap.size (.slice po no co) es) := RowX.fs (l:=[]) nestI_nest HRow.out (Fs.of_below HB5.out) (by simp)
    have HW5 := keep hw5
    have HWs5 : Hid (w2.heap.size ≤ w5.heap.size) := by have h1 := HWs.out; have h4 := HB5.out.size; show _ ≤ _; omega
    have HLe : Hid (es.length + [a].length ≤ 1048576) := by show _ ≤ _; have := HL.out; have := HF4.out; simp; omega
    clear HSt HEs hw5 h0
    go_wp2_with (first | rw [HW5.out] | (at_builtin; refine wpList_append_ints rfl (.tmp 18) (.tmp 21) rfl w2.heap.size w5.heap.size _ _ es [a] rfl rfl HR5.out HI5.out HWs5.out HLe.out ?_) | fail)
    intro p6 n6 c6 w6 hr6 hb6
    have HR6 := keep hr6
    have HB6 := keep hb6
    clear hr6 hb6
    go_wp2
    go_roundw
    case rel => exact ⟨k + 1,es ++ [a],by omega,by go_num,HR6.out,by have := HL.out; simp; omega,HYes.out,(HXx.out.trans (HB5.out.mono HXx.out.size)).trans HB6.out⟩
    case measure => simp [intOf]; omega
   ·have h0 : ((66 : UInt8).toNat : Int) = 66 := rfl
    rw [h0] at a0
    have HYes : Hid (es ++ [b] = rdF (fs.take (k + 1)) ⟨op,d,a,b,c,imm⟩) := by
     show _ = _
     rw [HSt.out,← HEs.out]; rfl
    obtain ⟨w5,hw5⟩ : ∃ y,wr.alloc (.cells #[.int .i64 b] 3) = y := ⟨_,rfl⟩
    have HB5 : Hid (Below wr.heap.size wr w5) := by show Below _ _ _; rw [← hw5]; exact (Below.refl _ _).alloc (Nat.le_refl _) _
    have HI5 : Hid (IntsIs w5 w5.heap.size [b] (.slice (some ⟨wr.heap.size,0,none⟩) 1 1)) := by
     have h := ints_new wr [b] (by simp)
     show IntsIs _ _ _ _
     rw [← hw5]; exact h
    have HR5 : Hid (RowI w5 w2.heap.size (.slice po no co) es) := RowX.fs (l:=[]) nestI_nest HRow.out (Fs.of_below HB5.out) (by simp)
    have HW5 := keep hw5
    have HWs5 : Hid (w2.heap.size ≤ w5.heap.size) := by have h1 := HWs.out; have h4 := HB5.out.size; show _ ≤ _; omega
    have HLe : Hid (es.length + [b].length ≤ 1048576) := by show _ ≤ _; have := HL.out; have := HF4.out; simp; omega
    clear HSt HEs hw5 h0
    go_wp2_with (first | rw [HW5.out] | (at_builtin; refine wpList_append_ints rfl (.tmp 25) (.tmp 28) rfl w2.heap.size w5.heap.size _ _ es [b] rfl rfl HR5.out HI5.out HWs5.out HLe.out ?_) | fail)
    intro p6 n6 c6 w6 hr6 hb6
    have HR6 := keep hr6
    have HB6 := keep hb6
    clear hr6 hb6
    go_wp2
    go_roundw
    case rel => exact ⟨k + 1,es ++ [b],by omega,by go_num,HR6.out,by have := HL.out; simp; omega,HYes.out,(HXx.out.trans (HB5.out.mono HXx.out.size)).trans HB6.out⟩
    case measure => simp [intOf]; omega
   ·have h0 : ((67 : UInt8).toNat : Int) = 67 := rfl
    rw [h0] at a0
    have HYes : Hid (es ++ [c] = rdF (fs.take (k + 1)) ⟨op,d,a,b,c,imm⟩) := by
     show _ = _
     rw [HSt.out,← HEs.out]; rfl
    obtain ⟨w5,hw5⟩ : ∃ y,wr.alloc (.cells #[.int .i64 c] 3) = y := ⟨_,rfl⟩
    have HB5 : Hid (Below wr.heap.size wr w5) := by show Below _ _ _; rw [← hw5]; exact (Below.refl _ _).alloc (Nat.le_refl _) _
    have HI5 : Hid (IntsIs w5 w5.heap.size [c] (.slice (some ⟨wr.heap.size,0,none⟩) 1 1)) := by
     have h := ints_new wr [c] (by simp)
     show IntsIs _ _ _ _
     rw [← hw5]; exact h
    have HR5 : Hid (RowI w5 w2.heap.size (.slice po no co) es) := RowX.fs (l:=[]) nestI_nest HRow.out (Fs.of_below HB5.out) (by simp)
    have HW5 := keep hw5
    have HWs5 : Hid (w2.heap.size ≤ w5.heap.size) := by have h1 := HWs.out; have h4 := HB5.out.size; show _ ≤ _; omega
    have HLe : Hid (es.length + [c].length ≤ 1048576) := by show _ ≤ _; have := HL.out; have := HF4.out; simp; omega
    clear HSt HEs hw5 h0
    go_wp2_with (first | rw [HW5.out] | (at_builtin; refine wpList_append_ints rfl (.tmp 32) (.tmp 35) rfl w2.heap.size w5.heap.size _ _ es [c] rfl rfl HR5.out HI5.out HWs5.out HLe.out ?_) | fail)
    intro p6 n6 c6 w6 hr6 hb6
    have HR6 := keep hr6
    have HB6 := keep hb6
    clear hr6 hb6
    go_wp2
    go_roundw
    case rel => exact ⟨k + 1,es ++ [c],by omega,by go_num,HR6.out,by have := HL.out; simp; omega,HYes.out,(HXx.out.trans (HB5.out.mono HXx.out.size)).trans HB6.out⟩
    case measure => simp [intOf]; omega
   ·have h0 : ((68 : UInt8).toNat : Int) = 68 := rfl
    rw [h0] at a0
    have HYes : Hid (es ++ [d] = rdF (fs.take (k + 1)) ⟨op,d,a,b,c,imm⟩) := by
     show _ = _
     rw [HSt.out,← HEs.out]; rfl
    obtain ⟨w5,hw5⟩ : ∃ y,wr.alloc (.cells #[.int .i64 d] 3) = y := ⟨_,rfl⟩
    have HB5 : Hid (Below wr.heap.size wr w5) := by show Below _ _ _; rw [← hw5]; exact (Below.refl _ _).alloc (Nat.le_refl _) _
    have HI5 : Hid (IntsIs w5 w5.heap.size [d] (.slice (some ⟨wr.heap.size,0,none⟩) 1 1)) := by
     have h := ints_new wr [d] (by simp)
     show IntsIs _ _ _ _
     rw [← hw5]; exact h
    have HR5 : Hid (RowI w5 w2.heap.size (.slice po no co) es) := RowX.fs (l:=[]) nestI_nest HRow.out (Fs.of_below HB5.out) (by simp)
    have HW5 := keep hw5
    have HWs5 : Hid (w2.heap.size ≤ w5.heap.size) := by have h1 := HWs.out; have h4 := HB5.out.size; show _ ≤ _; omega
    have HLe : Hid (es.length + [d].length ≤ 1048576) := by show _ ≤ _; have := HL.out; have := HF4.out; simp; omega
    clear HSt HEs hw5 h0
    go_wp2_with (first | rw [HW5.out] | (at_builtin; refine wpList_append_ints rfl (.tmp 39) (.tmp 42) rfl w2.heap.size w5.heap.size _ _ es [d] rfl rfl HR5.out HI5.out HWs5.out HLe.out ?_) | fail)
    intro p6 n6 c6 w6 hr6 hb6
    have HR6 := keep hr6
    have HB6 := keep hb6
    clear hr6 hb6
    go_wp2
    go_roundw
    case rel => exact ⟨k + 1,es ++ [d],by omega,by go_num,HR6.out,by have := HL.out; simp; omega,HYes.out,(HXx.out.trans (HB5.out.mono HXx.out.size)).trans HB6.out⟩
    case measure => simp [intOf]; omega
   ·have h0 : ((109 : UInt8).toNat : Int) = 109 := rfl
    rw [h0] at a0
    have HNo : Hid (es = rdF (fs.take (k + 1)) ⟨op,d,a,b,c,imm⟩) := by
     show _ = _
     rw [HSt.out,← HEs.out]
     exact (List.append_nil _).symm
    clear HSt HEs h0
    go_wp2
    go_roundw
    case rel => exact ⟨k + 1,es,by omega,by go_num,HRow.out,by have := HL.out; omega,HNo.out,HXx.out⟩
    case measure => simp [intOf]; omega
  ·have hke : k = fs.length := by omega
   subst hke
   have dl : decide ((fs.length : Int) < (fs.length : Int)) = false := decide_eq_false (by omega)
   have HE : Hid (es = rds ⟨op,d,a,b,c,imm⟩) := by
    show _ = _
    rw [HEs.out,List.take_length]; exact HF1.out
   have HG : Hid (RdN ⟨op,d,a,b,c,imm⟩ w (.returned (.slice po no co)) wr) := by
    refine ⟨_,rfl,?_,HB2.out.trans (HXx.out.mono HB2.out.size)⟩
    rw [← HE.out]
    exact RowI_lower HRow.out HB2.out.size
   clear hkl HBy
   generalize fs.length = fl at *
   go_wp2
   go_ret
   first | exact HG.out | (rw [← HX.out]; exact HG.out)
theorem rmakes_any (i : Ix) (w : World) : Calls Try.prog 15 #[.agg (ixA i)] w fun r w' => r = .returned (.bool (mks i)) ∧ Below w.heap.size w w' := by
 obtain ⟨_,hf2,_,hf4⟩ := form_cls i
 obtain ⟨op,d,a,b,c,imm⟩ := i
 have HF2 := keep hf2
 obtain ⟨w1,hw1⟩ : ∃ y,w.alloc (.cells #[.int .i64 op,.int .i64 d,.int .i64 a,.int .i64 b,.int .i64 c,.int .i64 imm] 35) = y := ⟨_,rfl⟩
 obtain ⟨X,hX⟩ : ∃ y,w.heap.size = y := ⟨_,rfl⟩
 have b1 : Below w.heap.size w w1 := by rw [← hw1]; exact (Below.refl _ _).alloc (Nat.le_refl _) _
 have kX : Bk w1 X [.int .i64 op,.int .i64 d,.int .i64 a,.int .i64 b,.int .i64 c,.int .i64 imm] 35 := by rw [← hw1,← hX]; exact Bk.new _ _ _
 have HB1 := keep b1
 have HW1 := keep hw1
 have HX := keep hX
 have HFm := keep (fun w => form_any op w)
 have x0 := kX.cell 0 rfl
 unfold ixA
 dsimp only at HF2 ⊢
 clear hw1 hX b1 kX hf2 hf4
 have hcl : (1 ≤ op ∧ op ≤ 12) ∨ op = 13 ∨ op = 14 ∨ op = 15 ∨ op = 16 ∨ op = 17 ∨ op = 19 ∨ op = 20 ∨ ((op < 1 ∨ 12 < op) ∧ op ≠ 13 ∧ op ≠ 14 ∧ op ≠ 15 ∧ op ≠ 16 ∧ op ≠ 17 ∧ op ≠ 19 ∧ op ≠ 20) := by omega
 have hfs : formT op = [65,66,109] ∨ formT op = [65,66,67,109] ∨ formT op = [109] ∨ formT op = [65,109] ∨ formT op = [65,68] ∨ formT op = [65] ∨ formT op = [] := by
  rcases hcl with h | rfl | rfl | rfl | rfl | rfl | rfl | rfl | h
  ·left; unfold formT; rw [if_pos h]
  ·right; left; rfl
  ·right; right; left; rfl
  ·right; right; right; left; rfl
  ·right; right; right; left; rfl
  ·right; right; right; right; left; rfl
  ·right; right; right; right; right; left; rfl
  ·right; right; right; right; right; left; rfl
  ·right; right; right; right; right; right
   unfold formT; rw [if_neg (by omega),if_neg (by omega),if_neg (by omega),if_neg (by omega),if_neg (by omega),if_neg (by omega)]
 clear hcl
 rcases hfs with e | e | e | e | e | e | e
 all_goals
  rw [e] at HFm HF2
  clear e
  go_enter Try.func15,Try.ntmps15
  go_wp2_with (first | rw [HW1.out] | rw [HX.out] | fail)
  refine (HFm.out w1).mono ?_
  rintro r wq ⟨rfl,rfl⟩
  clear HFm
  go_wp2
  go_ret
  exact ⟨by rw [HF2.out]; rfl,by first | exact HB1.out | (rw [← HX.out]; exact HB1.out)⟩
end Go.Proofs.Ytpnacanbknejiaa.Fl
