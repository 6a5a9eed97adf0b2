/- The document's Check of instructions: its parts, and its frame. Written by tools/gen_frchk.py. -/
import Derived.Test.YtfbmkcogkiejnaaFlChk
import Derived.Test.YtfbmkcogkiejnaaLmCode
import Derived.Test.YtfbmkcogkiejnaaLfRfit
namespace Go.Proofs.Ytfbmkcogkiejnaa.Fl
set_option linter.unusedVariables false
set_option linter.unusedSimpArgs false
open Go.ChangeShapes Go.WideShapes Go.ChangeAt Go.RowKit Lg Lr

noncomputable def kAll : Code := Try.f17.body.getD .skip
noncomputable def kRest : Code := sndC (sndC (sndC kAll))
/-- A round over the instructions. -/
noncomputable def kRound : Code := rndC (inC (sndC (fstC kRest)))
/-- What is done with one. -/
noncomputable def kOne : Code := inC (fstC (sndC (sndC kRound)))
/-- On it goes. -/
def OnB (Q : Act → World → Prop) (e : Exit) (a : Act) (w : World) : Prop := e = .normal ∧ Q a w
theorem OnB.go {P : Program} {c1 c2 : Code} {Q : Act → World → Prop} {R : Exit → Act → World → Prop} {a : Act} {w : World} (h : c1.wp P (OnB Q) a w) (k : ∀ a' w', Q a' w' → c2.wp P R a' w') : (Code.seq c1 c2).wp P R a w := by
  refine wp_seq (wp_mono h ?_)
  rintro e a' w' ⟨rfl, hq⟩
  exact k a' w' hq
/-- On it goes, or it ends. -/
def OnR (Q R : Act → World → Prop) (e : Exit) (a : Act) (w : World) : Prop := (e = .normal ∧ Q a w) ∨ (e = .ret ∧ R a w)
theorem OnR.go {P : Program} {c1 c2 : Code} {Q R : Act → World → Prop} {S : Exit → Act → World → Prop} {a : Act} {w : World} (h : c1.wp P (OnR Q R) a w) (k : ∀ a' w', Q a' w' → c2.wp P S a' w') (r : ∀ a' w', R a' w' → S .ret a' w') : (Code.seq c1 c2).wp P S a w := by
  refine wp_seq (wp_mono h ?_)
  rintro e a' w' (⟨rfl, hq⟩ | ⟨rfl, hq⟩)
  · exact k a' w' hq
  · exact r a' w' hq
structure WdC (a : Act) : Prop where
  len : a.tmps.toList.length = 258
  dfr : a.defers = []
structure FC (a : Act) (F n1 n2 k c1 : Nat) (p1 : Option Addr) : Prop where
  wide : WdC a
  s1 : slot a 1 = .pointer (some ⟨F, 0, none⟩)
  s4 : slot a 4 = .int .i64 (n2 : Int)
  s41 : slot a 41 = .slice p1 n1 c1
  s42 : slot a 42 = .int .i64 (n1 : Int)
  s43 : slot a 43 = .int .i64 (k : Int)
structure FO (a : Act) (F n1 n2 k c1 : Nat) (p1 : Option Addr) (X : Nat) : Prop where
  wide : WdC a
  s1 : slot a 1 = .pointer (some ⟨F, 0, none⟩)
  s4 : slot a 4 = .int .i64 (n2 : Int)
  s5 : slot a 5 = .int .i64 (k : Int)
  s6 : slot a 6 = .pointer (some ⟨X, 0, none⟩)
  s41 : slot a 41 = .slice p1 n1 c1
  s42 : slot a 42 = .int .i64 (n1 : Int)
  s43 : slot a 43 = .int .i64 (k : Int)
structure FL (a : Act) (F n1 n2 k c1 : Nat) (p1 : Option Addr) (X : Nat) (pl : Option Addr) (nl cl : Nat) : Prop where
  wide : WdC a
  s1 : slot a 1 = .pointer (some ⟨F, 0, none⟩)
  s4 : slot a 4 = .int .i64 (n2 : Int)
  s5 : slot a 5 = .int .i64 (k : Int)
  s6 : slot a 6 = .pointer (some ⟨X, 0, none⟩)
  s7 : slot a 7 = .slice pl nl cl
  s41 : slot a 41 = .slice p1 n1 c1
  s42 : slot a 42 = .int .i64 (n1 : Int)
  s43 : slot a 43 = .int .i64 (k : Int)
structure FM (a : Act) (F n1 n2 k c1 : Nat) (p1 : Option Addr) (X : Nat) (pl : Option Addr) (nl cl : Nat) : Prop where
  wide : WdC a
  s1 : slot a 1 = .pointer (some ⟨F, 0, none⟩)
  s4 : slot a 4 = .int .i64 (n2 : Int)
  s5 : slot a 5 = .int .i64 (k : Int)
  s6 : slot a 6 = .pointer (some ⟨X, 0, none⟩)
  s7 : slot a 7 = .slice pl nl cl
  s8 : slot a 8 = .bool false
  s41 : slot a 41 = .slice p1 n1 c1
  s42 : slot a 42 = .int .i64 (n1 : Int)
  s43 : slot a 43 = .int .i64 (k : Int)
structure FB (a : Act) (F n1 n2 k c1 : Nat) (p1 : Option Addr) (X : Nat) (q : Bool) : Prop where
  wide : WdC a
  s1 : slot a 1 = .pointer (some ⟨F, 0, none⟩)
  s4 : slot a 4 = .int .i64 (n2 : Int)
  s5 : slot a 5 = .int .i64 (k : Int)
  s6 : slot a 6 = .pointer (some ⟨X, 0, none⟩)
  s8 : slot a 8 = .bool q
  s41 : slot a 41 = .slice p1 n1 c1
  s42 : slot a 42 = .int .i64 (n1 : Int)
  s43 : slot a 43 = .int .i64 (k : Int)
structure FS (a : Act) (F n1 n2 k c1 : Nat) (p1 : Option Addr) (X : Nat) (q : Bool) : Prop where
  wide : WdC a
  s1 : slot a 1 = .pointer (some ⟨F, 0, none⟩)
  s4 : slot a 4 = .int .i64 (n2 : Int)
  s5 : slot a 5 = .int .i64 (k : Int)
  s6 : slot a 6 = .pointer (some ⟨X, 0, none⟩)
  s11 : slot a 11 = .bool q
  s41 : slot a 41 = .slice p1 n1 c1
  s42 : slot a 42 = .int .i64 (n1 : Int)
  s43 : slot a 43 = .int .i64 (k : Int)
structure FT (a : Act) (F n1 n2 k c1 : Nat) (p1 : Option Addr) (X : Nat) (q t : Bool) : Prop where
  wide : WdC a
  s1 : slot a 1 = .pointer (some ⟨F, 0, none⟩)
  s4 : slot a 4 = .int .i64 (n2 : Int)
  s5 : slot a 5 = .int .i64 (k : Int)
  s6 : slot a 6 = .pointer (some ⟨X, 0, none⟩)
  s11 : slot a 11 = .bool q
  s14 : slot a 14 = .bool t
  s41 : slot a 41 = .slice p1 n1 c1
  s42 : slot a 42 = .int .i64 (n1 : Int)
  s43 : slot a 43 = .int .i64 (k : Int)
/-- What stays: the flat instructions' box, the instruction's. -/
structure CW (w : World) (F B : Nat) (f : Fx) (s1 s2 s3 : Value) (X : Nat) (op d a b c imm : Int) : Prop where
  f : BoxF w F B f s1 s2 s3
  x : Bk w X [.int .i64 op, .int .i64 d, .int .i64 a, .int .i64 b, .int .i64 c, .int .i64 imm] 35
/-- It ends so. -/
structure FE (a : Act) (e k : Int) : Prop where
  wide : WdC a
  s2 : slot a 2 = .int .i64 e
  s3 : slot a 3 = .int .i64 k
end Go.Proofs.Ytfbmkcogkiejnaa.Fl
