/- Laid together: WdNumPlain, RfNumPlain, LgPlain, LgTree. -/
import Derived.Lib.Strings
import Derived.WalkKit
import Derived.Lib.AtoiAll
import Derived.Lib.ItoaNum
import Derived.Lib.ItoaMem
namespace Go.Proofs.Ytfbmkcogkiejnaa.Wd
set_option linter.unusedVariables false

end Go.Proofs.Ytfbmkcogkiejnaa.Wd
namespace Go.Proofs.Ytfbmkcogkiejnaa.Rf
set_option linter.unusedVariables false
open Wd

end Go.Proofs.Ytfbmkcogkiejnaa.Rf
namespace Go.Proofs.Ytfbmkcogkiejnaa.Lg
set_option linter.unusedVariables false
open Wd Rf

/-- A blank, or a line feed; what ends a word. -/
def blank (c : UInt8) : Bool := c == 32 || c == 10
def brack (c : UInt8) : Bool := c == 40 || c == 41
def stop (c : UInt8) : Bool := blank c || brack c
/-- The next word, blanks passed by; and what is behind it. -/
def skip (l : List UInt8) : List UInt8 := l.dropWhile blank
def word (l : List UInt8) : List UInt8 := if l.takeWhile (fun c => !stop c) = [] then l.take 1 else l.takeWhile (fun c => !stop c)
def wd (l : List UInt8) : List UInt8 := word (skip l)
def rs (l : List UInt8) : List UInt8 := (skip l).drop (wd l).length

/-- An expression, a statement, a variable, a program. -/
structure Ex where
  kind : Int
  n : Int
  name : List UInt8
  args : List Ex
structure St where
  kind : Int
  n : Int
  name : List UInt8
  secret : Bool
  args : List Ex
  thn : List St
  els : List St
structure Vr where
  name : List UInt8
  secret : Bool
  size : Int
end Go.Proofs.Ytfbmkcogkiejnaa.Lg
