/- The document's Check of instructions: whether what it mentions is there. Written by tools/gen_frchk.py. -/
import Derived.Test.YtpnacanbknejiaaFrPre
namespace Go.Proofs.Ytpnacanbknejiaa.Fl
set_option maxHeartbeats 32000000
set_option maxRecDepth 100000
set_option linter.unusedVariables false
set_option linter.unusedSimpArgs false
open Go.ChangeShapes Go.WideShapes Go.ChangeAt Go.RowKit Lg Lr
theorem k5 {aa : Act} (F n1 n2 k c1 : Nat) (p1 : Option Addr) (X : Nat) (pl : Option Addr) (nl cl : Nat) (hF : FM aa F n1 n2 k c1 p1 X pl nl cl) (w : World) (l : List Int) (hl : IntsIs w w.heap.size l (.slice pl nl cl)) (hn : nl ≤ 4) :
  (fstC kT5).wp Try.prog (OnB fun a' w' => FB a' F n1 n2 k c1 p1 X (l.any fun p => !wi p n2) ∧ w' = w) aa w := by
 obtain ⟨gg,rfl⟩ := hF.opens
 have HL := keep hl
 have hnl : l.length = nl := by obtain ⟨q1,q2,q3,q4,q5,_⟩ := hl; cases q4; exact q5
 have HNL := keep hnl
 have HN := keep hn
 clear hF hl hnl
 conv => arg 2; whnf
 go_wp2
 go_loopw [68,8] (fun j q wx => w = wx ∧ ∃ i : Nat,i ≤ nl ∧ j = .int .i64 (i : Int) ∧ q = .bool ((l.take i).any fun p => !wi p n2)) (fun j _ _ => nl - (intOf j).toNat)
 case atStart => exact ⟨rfl,0,by omega,rfl,rfl⟩
 case round =>
  obtain ⟨rfl,i,hin,rfl,rfl⟩ := hrel
  by_cases hil : i < nl
  ·have d1 : decide ((i : Int) < (nl : Int)) = true := decide_eq_true (by omega)
   have hiz : (i : Int) < (nl : Int) := by omega
   have hi0 : (0 : Int) ≤ (i : Int) := by omega
   have hwr : IntKind.i64.wrap ((i : Int) + 1) = (i : Int) + 1 := by rw [IntKind.wrap_i64]; have := HN.out; omega
   obtain ⟨p,hp⟩ : ∃ p,l[i]? = some p := ⟨_,List.getElem?_eq_getElem (by rw [HNL.out]; exact hil)⟩
   obtain ⟨g,o,rfl,hgB,hc⟩ := int_at HL.out (k:=i) (by rw [HNL.out]; exact hil)
   have e : gI l (i : Int) = p := by unfold gI; rw [Int.toNat_natCast,List.getD_eq_getElem?_getD,hp]; rfl
   rw [e] at hc
   have HSt : Hid (((l.take (i + 1)).any fun p => !wi p n2) = (((l.take i).any fun p => !wi p n2) || !wi p n2)) := by
    show _ = _
    rw [List.take_add_one,hp,Option.toList_some,List.any_append]
    simp
   clear hp e hgB
   generalize ((l.take i).any fun p => !wi p n2) = q at *
   cases q with
   | true =>
    go_wp2
    go_roundw
    case rel => exact ⟨by first | rfl | trivial,i + 1,by omega,by go_num,by rw [HSt.out]; rfl⟩
    case measure => simp [intOf]; omega
   | false =>
    by_cases h0 : p < 0
    ·have d0 : decide (p < 0) = true := decide_eq_true h0
     have HQ : Hid (wi p n2 = false) := by show _ = _; unfold wi; rw [Bool.and_eq_false_iff,decide_eq_false_iff_not,decide_eq_false_iff_not]; omega
     clear h0
     go_wp2
     go_roundw
     case rel => exact ⟨by first | rfl | trivial,i + 1,by omega,by go_num,by rw [HSt.out,HQ.out]; rfl⟩
     case measure => simp [intOf]; omega
    ·have d0 : decide (p < 0) = false := decide_eq_false h0
     by_cases h2 : (n2 : Int) ≤ p
     ·have d2 : decide ((n2 : Int) ≤ p) = true := decide_eq_true h2
      have HQ : Hid (wi p n2 = false) := by show _ = _; unfold wi; rw [Bool.and_eq_false_iff,decide_eq_false_iff_not,decide_eq_false_iff_not]; omega
      clear h0 h2
      go_wp2
      go_roundw
      case rel => exact ⟨by first | rfl | trivial,i + 1,by omega,by go_num,by rw [HSt.out,HQ.out]; rfl⟩
      case measure => simp [intOf]; omega
     ·have d2 : decide ((n2 : Int) ≤ p) = false := decide_eq_false h2
      have HQ : Hid (wi p n2 = true) := wi_iff.2 ⟨by omega,by omega⟩
      clear h0 h2
      go_wp2
      go_roundw
      case rel => exact ⟨by first | rfl | trivial,i + 1,by omega,by go_num,by rw [HSt.out,HQ.out]; rfl⟩
      case measure => simp [intOf]; omega
  ·have hie : i = nl := by omega
   subst hie
   have dl : decide ((i : Int) < (i : Int)) = false := decide_eq_false (by omega)
   have HE : Hid (((l.take i).any fun p => !wi p n2) = (l.any fun p => !wi p n2)) := by show _ = _; rw [← HNL.out,List.take_length]
   generalize ((l.take i).any fun p => !wi p n2) = q at *
   clear hil
   go_wp2
   exact ⟨rfl,by rw [← HE.out]; exact ⟨⟨rfl,rfl⟩,rfl,rfl,rfl,rfl,rfl,rfl,rfl,rfl⟩,rfl⟩
theorem k6 {aa : Act} (F n1 n2 k c1 : Nat) (p1 : Option Addr) (X B : Nat) (f : Fx) (p2 p3 : Option Addr) (c2 n3 c3 : Nat) (op d a b c imm : Int) (q : Bool) (hF : FB aa F n1 n2 k c1 p1 X q) (w : World) (hC : CW w F B f (.slice p1 n1 c1) (.slice p2 n2 c2) (.slice p3 n3 c3) X op d a b c imm) :
  (fstC kT6).wp Try.prog (OnB fun a' w' => FB a' F n1 n2 k c1 p1 X (q || (decide (op = 14) && !(decide (0 ≤ imm) && decide (imm ≤ 4294967295)))) ∧ w' = w) aa w := by
 obtain ⟨gg,rfl⟩ := hF.opens
 have x0 := hC.x.cell 0 rfl
 have x3 := hC.x.cell 3 rfl
 have x5 := hC.x.cell 5 rfl
 have y0 := hC.f.box.cell 0 rfl
 have y3 := hC.f.box.cell 3 rfl
 obtain ⟨R,hR⟩ : ∃ R,(q || (decide (op = 14) && !(decide (0 ≤ imm) && decide (imm ≤ 4294967295)))) = R := ⟨_,rfl⟩
 rw [hR]
 have HR := keep hR
 clear hF hC hR
 conv => arg 2; whnf
 cases q with
 | true =>
  have HE : Hid (R = true) := by show _ = _; rw [← HR.out]; rfl
  go_wp2
  exact ⟨rfl,by rw [HE.out]; exact ⟨⟨rfl,rfl⟩,rfl,rfl,rfl,rfl,rfl,rfl,rfl,rfl⟩,rfl⟩
 | false =>
  by_cases h14 : op = 14
  ·subst h14
   by_cases h0 : imm < 0
   ·have d0 : decide (imm < 0) = true := decide_eq_true h0
    have HE : Hid (R = true) := by show _ = _; rw [← HR.out]; simp; omega
    clear h0
    go_wp2
    exact ⟨rfl,by rw [HE.out]; exact ⟨⟨rfl,rfl⟩,rfl,rfl,rfl,rfl,rfl,rfl,rfl,rfl⟩,rfl⟩
   ·have d0 : decide (imm < 0) = false := decide_eq_false h0
    by_cases h1 : 4294967296 ≤ imm
    ·have d1 : decide (4294967296 ≤ imm) = true := decide_eq_true h1
     have HE : Hid (R = true) := by show _ = _; rw [← HR.out]; simp; omega
     clear h0 h1
     go_wp2
     exact ⟨rfl,by rw [HE.out]; exact ⟨⟨rfl,rfl⟩,rfl,rfl,rfl,rfl,rfl,rfl,rfl,rfl⟩,rfl⟩
    ·have d1 : decide (4294967296 ≤ imm) = false := decide_eq_false h1
     have HE : Hid (R = false) := by show _ = _; rw [← HR.out]; simp; omega
     clear h0 h1
     go_wp2
     exact ⟨rfl,by rw [HE.out]; exact ⟨⟨rfl,rfl⟩,rfl,rfl,rfl,rfl,rfl,rfl,rfl,rfl⟩,rfl⟩
  ·have k14 : (op == 14) = false := by simpa using h14
   have HE : Hid (R = false) := by show _ = _; rw [← HR.out,decide_eq_false h14]; rfl
   clear h14
   go_wp2
   exact ⟨rfl,by rw [HE.out]; exact ⟨⟨rfl,rfl⟩,rfl,rfl,rfl,rfl,rfl,rfl,rfl,rfl⟩,rfl⟩
theorem k7 {aa : Act} (F n1 n2 k c1 : Nat) (p1 : Option Addr) (X B : Nat) (f : Fx) (p2 p3 : Option Addr) (c2 n3 c3 : Nat) (op d a b c imm : Int) (q : Bool) (hF : FB aa F n1 n2 k c1 p1 X q) (w : World) (hC : CW w F B f (.slice p1 n1 c1) (.slice p2 n2 c2) (.slice p3 n3 c3) X op d a b c imm) :
  (fstC kT7).wp Try.prog (OnB fun a' w' => FB a' F n1 n2 k c1 p1 X (q || ((decide (op = 16) || decide (op = 17)) && !wi b n3)) ∧ w' = w) aa w := by
 obtain ⟨gg,rfl⟩ := hF.opens
 have x0 := hC.x.cell 0 rfl
 have x3 := hC.x.cell 3 rfl
 have x5 := hC.x.cell 5 rfl
 have y0 := hC.f.box.cell 0 rfl
 have y3 := hC.f.box.cell 3 rfl
 obtain ⟨R,hR⟩ : ∃ R,(q || ((decide (op = 16) || decide (op = 17)) && !wi b n3)) = R := ⟨_,rfl⟩
 rw [hR]
 have HR := keep hR
 clear hF hC hR
 conv => arg 2; whnf
 cases q with
 | true =>
  have HE : Hid (R = true) := by show _ = _; rw [← HR.out]; rfl
  go_wp2
  exact ⟨rfl,by rw [HE.out]; exact ⟨⟨rfl,rfl⟩,rfl,rfl,rfl,rfl,rfl,rfl,rfl,rfl⟩,rfl⟩
 | false =>
  have hcl : op = 16 ∨ op = 17 ∨ (op ≠ 16 ∧ op ≠ 17) := by omega
  rcases hcl with rfl | rfl | ⟨h6,h7⟩
  iterate 2
   by_cases h0 : b < 0
   ·have d0 : decide (b < 0) = true := decide_eq_true h0
    have HQ : Hid (wi b n3 = false) := by show _ = _; unfold wi; rw [Bool.and_eq_false_iff,decide_eq_false_iff_not,decide_eq_false_iff_not]; omega
    clear h0
    go_wp2
    exact ⟨rfl,by rw [← HR.out,HQ.out]; exact ⟨⟨rfl,rfl⟩,rfl,rfl,rfl,rfl,rfl,rfl,rfl,rfl⟩,rfl⟩
   ·have d0 : decide (b < 0) = false := decide_eq_false h0
    by_cases h1 : (n3 : Int) ≤ b
    ·have d1 : decide ((n3 : Int) ≤ b) = true := decide_eq_true h1
     have HQ : Hid (wi b n3 = false) := by show _ = _; unfold wi; rw [Bool.and_eq_false_iff,decide_eq_false_iff_not,decide_eq_false_iff_not]; omega
     clear h0 h1
     go_wp2
     exact ⟨rfl,by rw [← HR.out,HQ.out]; exact ⟨⟨rfl,rfl⟩,rfl,rfl,rfl,rfl,rfl,rfl,rfl,rfl⟩,rfl⟩
    ·have d1 : decide ((n3 : Int) ≤ b) = false := decide_eq_false h1
     have HQ : Hid (wi b n3 = true) := wi_iff.2 ⟨by omega,by omega⟩
     clear h0 h1
     go_wp2
     exact ⟨rfl,by rw [← HR.out,HQ.out]; exact ⟨⟨rfl,rfl⟩,rfl,rfl,rfl,rfl,rfl,rfl,rfl,rfl⟩,rfl⟩
  ·have k6 : (op == 16) = false := by simpa using h6
   have k7 : (op == 17) = false := by simpa using h7
   have HE : Hid (R = false) := by show _ = _; rw [← HR.out,decide_eq_false h6,decide_eq_false h7]; rfl
   clear h6 h7
   go_wp2
   exact ⟨rfl,by rw [HE.out]; exact ⟨⟨rfl,rfl⟩,rfl,rfl,rfl,rfl,rfl,rfl,rfl,rfl⟩,rfl⟩
theorem k8 {aa : Act} (F n1 n2 k c1 : Nat) (p1 : Option Addr) (X B : Nat) (f : Fx) (p2 p3 : Option Addr) (c2 n3 c3 : Nat) (op d a b c imm : Int) (q : Bool) (hF : FB aa F n1 n2 k c1 p1 X q) (w : World) (hC : CW w F B f (.slice p1 n1 c1) (.slice p2 n2 c2) (.slice p3 n3 c3) X op d a b c imm) :
  (fstC kT8).wp Try.prog (OnB fun a' w' => FB a' F n1 n2 k c1 p1 X (q || ((decide (op = 18) || decide (op = 19)) && !(decide ((k : Int) < imm) && decide (imm < (n1 : Int))))) ∧ w' = w) aa w := by
 obtain ⟨gg,rfl⟩ := hF.opens
 have x0 := hC.x.cell 0 rfl
 have x3 := hC.x.cell 3 rfl
 have x5 := hC.x.cell 5 rfl
 have y0 := hC.f.box.cell 0 rfl
 have y3 := hC.f.box.cell 3 rfl
 obtain ⟨R,hR⟩ : ∃ R,(q || ((decide (op = 18) || decide (op = 19)) && !(decide ((k : Int) < imm) && decide (imm < (n1 : Int))))) = R := ⟨_,rfl⟩
 rw [hR]
 have HR := keep hR
 clear hF hC hR
 conv => arg 2; whnf
 cases q with
 | true =>
  have HE : Hid (R = true) := by show _ = _; rw [← HR.out]; rfl
  go_wp2
  exact ⟨rfl,by rw [HE.out]; exact ⟨⟨rfl,rfl⟩,rfl,rfl,rfl,rfl,rfl,rfl,rfl,rfl⟩,rfl⟩
 | false =>
  have hcl : op = 18 ∨ op = 19 ∨ (op ≠ 18 ∧ op ≠ 19) := by omega
  rcases hcl with rfl | rfl | ⟨h6,h7⟩
  iterate 2
   by_cases h0 : imm ≤ (k : Int)
   ·have d0 : decide (imm ≤ (k : Int)) = true := decide_eq_true h0
    have HQ : Hid (decide ((k : Int) < imm) = false) := decide_eq_false (by omega)
    clear h0
    go_wp2
    exact ⟨rfl,by rw [← HR.out,HQ.out]; exact ⟨⟨rfl,rfl⟩,rfl,rfl,rfl,rfl,rfl,rfl,rfl,rfl⟩,rfl⟩
   ·have d0 : decide (imm ≤ (k : Int)) = false := decide_eq_false h0
    have HQ : Hid (decide ((k : Int) < imm) = true) := decide_eq_true (by omega)
    by_cases h1 : (n1 : Int) ≤ imm
    ·have d1 : decide ((n1 : Int) ≤ imm) = true := decide_eq_true h1
     have HQ2 : Hid (decide (imm < (n1 : Int)) = false) := decide_eq_false (by omega)
     clear h0 h1
     go_wp2
     exact ⟨rfl,by rw [← HR.out,HQ.out,HQ2.out]; exact ⟨⟨rfl,rfl⟩,rfl,rfl,rfl,rfl,rfl,rfl,rfl,rfl⟩,rfl⟩
    ·have d1 : decide ((n1 : Int) ≤ imm) = false := decide_eq_false h1
     have HQ2 : Hid (decide (imm < (n1 : Int)) = true) := decide_eq_true (by omega)
     clear h0 h1
     go_wp2
     exact ⟨rfl,by rw [← HR.out,HQ.out,HQ2.out]; exact ⟨⟨rfl,rfl⟩,rfl,rfl,rfl,rfl,rfl,rfl,rfl,rfl⟩,rfl⟩
  ·have k6 : (op == 18) = false := by simpa using h6
   have k7 : (op == 19) = false := by simpa using h7
   have HE : Hid (R = false) := by show _ = _; rw [← HR.out,decide_eq_false h6,decide_eq_false h7]; rfl
   clear h6 h7
   go_wp2
   exact ⟨rfl,by rw [HE.out]; exact ⟨⟨rfl,rfl⟩,rfl,rfl,rfl,rfl,rfl,rfl,rfl,rfl⟩,rfl⟩
theorem k9 {aa : Act} (F n1 n2 k c1 : Nat) (p1 : Option Addr) (X : Nat) (q : Bool) (hF : FB aa F n1 n2 k c1 p1 X q) (w : World) :
  (fstC kT9).wp Try.prog (OnR (fun a' w' => FO a' F n1 n2 k c1 p1 X ∧ w' = w ∧ q = false) (fun a' w' => FE a' 3 (k : Int) ∧ w' = w ∧ q = true)) aa w := by
 obtain ⟨gg,rfl⟩ := hF.opens
 clear hF
 conv => arg 2; whnf
 cases q with
 | true =>
  go_wp2
  first | exact .inr ⟨rfl,⟨⟨rfl,rfl⟩,rfl,rfl⟩,rfl,rfl⟩ | exact .inr ⟨rfl,⟨⟨rfl,rfl⟩,rfl,rfl⟩,rfl⟩
 | false =>
  go_wp2
  first | exact .inl ⟨rfl,⟨⟨rfl,rfl⟩,rfl,rfl,rfl,rfl,rfl,rfl,rfl⟩,rfl,rfl⟩ | exact .inl ⟨rfl,⟨⟨rfl,rfl⟩,rfl,rfl,rfl,rfl,rfl,rfl,rfl⟩,rfl⟩
end Go.Proofs.Ytpnacanbknejiaa.Fl
