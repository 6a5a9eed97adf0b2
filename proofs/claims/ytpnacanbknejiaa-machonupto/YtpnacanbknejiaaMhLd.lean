/- Images read, in plain words; rows of instructions. -/
import Derived.Test.YtpnacanbknejiaaGr14
import Derived.Test.YtpnacanbknejiaaGr16
import Derived.Test.YtpnacanbknejiaaFlOwn
namespace Go.Proofs.Ytpnacanbknejiaa.Mh
set_option linter.unusedVariables false
set_option linter.unusedSimpArgs false
open Go.ChangeShapes Go.WideShapes Go.ChangeAt Go.RowKit Lg Lr Fl
def ixC (c : Cd.Cx) : Ix := ⟨c.op,c.d,c.a,c.b,c.c,c.imm⟩
def chunk (l : List Int) (k : Nat) : List Int := (l.drop (8 * k)).take 8
def ldI (l : List Int) (k : Nat) : Ix := ixC (Cd.parseM (chunk l k)).1
def ldP (l : List Int) (k : Nat) : Int := (Cd.parseM (chunk l k)).2
def ldE (m : Int) (l : List Int) (k : Nat) : Int := if ldP l k ≠ 0 then ldP l k else if okM m (ldI l k) = true then 0 else 3
def loadM (m : Int) (l : List Int) : List Ix × Int := if l.length = 0 ∨ l.length % 8 ≠ 0 then ([],2) else match (List.range (l.length / 8)).find? (fun k => decide (ldE m l k ≠ 0)) with
 | none => ((List.range (l.length / 8)).map (ldI l),0)
 | some k => ([],ldE m l k)
theorem loadM_form {m : Int} {l : List Int} (h : l.length = 0 ∨ l.length % 8 ≠ 0) : loadM m l = ([],2) := if_pos h
theorem loadM_bad {m : Int} {l : List Int} {k : Nat} (h0 : ¬ (l.length = 0 ∨ l.length % 8 ≠ 0)) (hk : k < l.length / 8) (hno : ∀ j,j < k → ldE m l j = 0) (he : ldE m l k ≠ 0) : loadM m l = ([],ldE m l k) := by
 unfold loadM
 rw [if_neg h0]
 have : (List.range (l.length / 8)).find? (fun k => decide (ldE m l k ≠ 0)) = some k := by
  rw [List.find?_range_eq_some]
  refine ⟨by simpa using he,by simpa using hk,fun j hj => by simp [hno j hj]⟩
 rw [this]
theorem loadM_all {m : Int} {l : List Int} (h0 : ¬ (l.length = 0 ∨ l.length % 8 ≠ 0)) (hno : ∀ j,j < l.length / 8 → ldE m l j = 0) : loadM m l = ((List.range (l.length / 8)).map (ldI l),0) := by
 unfold loadM
 rw [if_neg h0]
 have : (List.range (l.length / 8)).find? (fun k => decide (ldE m l k ≠ 0)) = none := by
  rw [List.find?_range_eq_none]
  intro j hj
  simp [hno j hj]
 rw [this]
theorem chunk_eight {l : List Int} {k : Nat} (hk : 8 * k + 8 ≤ l.length) : ∃ b0 b1 b2 b3 b4 b5 b6 b7,chunk l k = [b0,b1,b2,b3,b4,b5,b6,b7] ∧ ∀ j x,[b0,b1,b2,b3,b4,b5,b6,b7][j]? = some x → l[8 * k + j]? = some x := by
 have hl : (chunk l k).length = 8 := by unfold chunk; rw [List.length_take,List.length_drop]; omega
 have key : ∀ j,(chunk l k)[j]? = if j < 8 then l[8 * k + j]? else none := fun j => by
  unfold chunk
  rw [List.getElem?_take,List.getElem?_drop]
 match hc : chunk l k,hl with
 | [b0,b1,b2,b3,b4,b5,b6,b7],_ =>
  refine ⟨b0,b1,b2,b3,b4,b5,b6,b7,rfl,fun j x hj => ?_⟩
  rw [← hc] at hj
  have h := key j
  rw [hj] at h
  have hj8 : j < 8 := by have := (List.getElem?_eq_some_iff.1 hj).1; omega
  rw [if_pos hj8] at h
  exact h.symm
theorem num4_up (l : List Int) (hl : l.length = 4) (h : ∀ x ∈ l,0 ≤ x ∧ x < 256) : 0 ≤ Cd.num4 l ∧ Cd.num4 l ≤ 4294967295 := by
 match l,hl with
 | [a,b,c,d],_ =>
  have ha := h a (by simp)
  have hb := h b (by simp)
  have hc := h c (by simp)
  have hd := h d (by simp)
  show 0 ≤ (((0 * 256 + a) * 256 + b) * 256 + c) * 256 + d ∧ (((0 * 256 + a) * 256 + b) * 256 + c) * 256 + d ≤ 4294967295
  omega
theorem ldI_fit {m : Nat} {l : List Int} {k : Nat} (hb : ∀ x ∈ l,0 ≤ x ∧ x < 256) (hk : 8 * k + 8 ≤ l.length) (he : ldE m l k = 0) : FitI 120 m (ldI l k) := by
 obtain ⟨b0,b1,b2,b3,b4,b5,b6,b7,hc,hx⟩ := chunk_eight hk
 have hby : ∀ x ∈ [b0,b1,b2,b3,b4,b5,b6,b7],0 ≤ x ∧ x < 256 := fun x hm => by
  obtain ⟨j,hj⟩ := List.getElem?_of_mem hm
  exact hb x (List.mem_of_getElem? (hx j x hj))
 have h0 := hby b0 (by simp)
 have h1 := hby b1 (by simp)
 have h2 := hby b2 (by simp)
 have h3 := hby b3 (by simp)
 have h4 := num4_up [b4,b5,b6,b7] rfl (fun x hm => hby x (by simp at hm ⊢; omega))
 unfold ldE at he
 have hP : ldP l k = 0 := by
  by_cases h : ldP l k = 0
  ·exact h
  ·rw [if_pos h] at he; exact absurd he h
 rw [if_neg (by simpa using hP)] at he
 have hok : okM m (ldI l k) = true := by
  cases h : okM m (ldI l k) with
  | true => rfl
  | false => rw [h] at he; simp at he
 have hI : ldI l k = ixC (Cd.parseM [b0,b1,b2,b3,b4,b5,b6,b7]).1 := by unfold ldI; rw [hc]
 have hP' : (Cd.parseM [b0,b1,b2,b3,b4,b5,b6,b7]).2 = 0 := by unfold ldP at hP; rw [hc] at hP; exact hP
 have hop : Cd.isOp b0 = true := by
  cases h : Cd.isOp b0 with
  | true => rfl
  | false => rw [Cd.parse_noop h] at hP'; cases hP'
 have ho : 1 ≤ b0 ∧ b0 ≤ 23 := by unfold Cd.isOp at hop; simpa using hop
 have hform : ∃ c imm,ldI l k = ⟨b0,b1,b2,b3,c,imm⟩ ∧ isW c ∧ isW imm := by
  rw [hI]
  by_cases h13 : b0 = 13
  ·cases hn : Cd.nb (Cd.num4 [b4,b5,b6,b7]) with
   | true => rw [Cd.parse_nobyte hop h13 hn] at hP'; cases hP'
   | false => rw [Cd.parse_sel hop h13 hn]; exact ⟨_,_,rfl,⟨h4.1,h4.2⟩,⟨by show (0 : Int) ≤ 0; decide,by show (0 : Int) ≤ 4294967295; decide⟩⟩
  ·rw [Cd.parse_imm hop h13]; exact ⟨_,_,rfl,⟨by show (0 : Int) ≤ 0; decide,by show (0 : Int) ≤ 4294967295; decide⟩,⟨h4.1,h4.2⟩⟩
 obtain ⟨c,imm,e,hcw,hiw⟩ := hform
 rw [e] at hok ⊢
 unfold okM at hok
 simp only [Bool.and_eq_true,Bool.not_eq_true',Bool.or_eq_false_iff,Bool.or_eq_true,decide_eq_true_eq] at hok
 obtain ⟨⟨d1,r1⟩,b1'⟩ := hok
 have hns : ∀ n,ns n = false → n < 120 := fun n h => by unfold ns at h; rw [decide_eq_false_iff_not] at h; omega
 have hr : ∀ p ∈ rdM ⟨b0,b1,b2,b3,c,imm⟩,p < 120 := fun p hp => hns p (by
  rw [List.any_eq_false] at r1
  have := r1 p hp
  simpa using this)
 refine ⟨ho.1,ho.2,h1.1,hns _ d1,fun p hp => ⟨?_,?_⟩,fun h => ⟨h3.1,by
  rcases b1' with q | q
  ·exfalso; dsimp only at h; omega
  ·exact q⟩,fun h => ⟨h2.1,hr b2 (by unfold rdM; rw [if_pos h]; simp)⟩,hiw⟩
 ·have hpp : p = b2 ∨ p = b3 ∨ p = c ∨ p = b1 := by
   unfold rds at hp
   split at hp
   ·simp at hp; omega
   ·split at hp
    ·simp at hp; omega
    ·split at hp
     ·simp at hp; omega
     ·split at hp
      ·simp at hp; omega
      ·simp at hp
  rcases hpp with q | q | q | q <;> rw [q]
  ·exact h2.1
  ·exact h3.1
  ·exact hcw.1
  ·exact h1.1
 ·refine hr p ?_
  unfold rdM
  split
  ·rename_i h23
   exfalso
   dsimp only at h23
   unfold rds at hp
   dsimp only at hp
   rw [if_neg (by omega),if_neg (by omega),if_neg (by omega),if_neg (by omega)] at hp
   simp at hp
  ·exact hp
def BysW (w : World) (B : Nat) (l : List Int) (sl : Value) : Prop := ∃ (p : Option Addr) (cap : Nat),sl = .slice p l.length cap ∧ l.length ≤ cap ∧
 (∀ x ∈ l,0 ≤ x ∧ x < 256) ∧ (l ≠ [] → ∃ g o,p = some ⟨g,o,none⟩ ∧ g < B ∧ ∀ (j : Nat) (x : Int),l[j]? = some x → w.cell? ⟨g,o + j,none⟩ = some (.int .u8 x))
theorem BysW.below {w w' : World} {B : Nat} {l : List Int} {sl : Value} (h : BysW w B l sl) (hb : Below B w w') : BysW w' B l sl := by
 obtain ⟨p,cap,h1,h2,h3,h4⟩ := h
 refine ⟨p,cap,h1,h2,h3,fun hn => ?_⟩
 obtain ⟨g,o,e,hg,hc⟩ := h4 hn
 exact ⟨g,o,e,hg,fun j x hj => by rw [cell_below hb hg]; exact hc j x hj⟩
def RowC (w : World) (lo : Nat) (v : Value) (es : List Ix) : Prop := RowX nest0 cellsX 6 35 w lo v es
theorem make_code (k : Nat) (hk : k ≤ 1000000) (w : World) : ∃ cur,(Instr.makeSlice 22 (.int .i64 0) (.int .i64 (k : Int))).run Try.prog w = .ok (.slice (some ⟨w.heap.size,0,none⟩) 0 k) (w.alloc (.cells cur 35)) ∧ cur.size = k * 6 := by
 obtain ⟨i,hi,hz0,hz1,hz2⟩ := info_parts info_X
 have h := run_make (P:=Try.prog) w 22 35 i _ (by kernel_rfl) hi hz0 .i64 .i64 0 (k : Int) (Int.le_refl _) (by omega) (by rw [hz2]; omega) (by omega)
 rw [h,hz1,Int.toNat_natCast]
 exact ⟨_,rfl,by simp [madeCells,Value.cells]⟩
def LdP (m : Int) (l : List Int) (w : World) (r : Ending) (w' : World) : Prop := ∃ v lo,r = .returned (.tuple #[v,.int .i64 (loadM m l).2]) ∧ w.heap.size ≤ lo ∧ lo ≤ w'.heap.size ∧ RowC w' lo v (loadM m l).1 ∧ Below w.heap.size w w'
theorem row_nil (w : World) : RowC w w.heap.size (.slice none 0 0) [] := RowX.nil _ _
theorem LdP.no {m : Int} {l : List Int} {w w' : World} {e : Int} (h : loadM m l = ([],e)) (hb : Below w.heap.size w w') : LdP m l w (.returned (.tuple #[.slice none 0 0,.int .i64 e])) w' :=
 ⟨_,w'.heap.size,by rw [h],hb.size,Nat.le_refl _,by rw [h]; exact row_nil w',hb⟩
end Go.Proofs.Ytpnacanbknejiaa.Mh
