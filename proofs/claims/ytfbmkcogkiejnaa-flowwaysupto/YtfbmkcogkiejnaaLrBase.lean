/- Facts on words and bytes that the readers' walks lean on. -/
import Derived.Test.YtfbmkcogkiejnaaProg
import Derived.Test.YtfbmkcogkiejnaaGr0
import Derived.ProofKit
import Derived.OpenShut
import Derived.Below
import Derived.Lib.Strings
import Derived.Lib.FrozenHead
import Derived.Lib.Builder
import Derived.Lib.Walk
import Derived.Lib.IndexBytes
import Derived.Deep.QuietTactic
import Derived.BigQuiet
namespace Go.Proofs.Ytfbmkcogkiejnaa.Lr
set_option linter.unusedVariables false
open Go.ChangeShapes Go.WideShapes Go.ChangeAt Go.RowKit Lg

theorem keep {p : Prop} (h : p) : Hid p := h
/-- The first thing that is wrong counts. -/
def first (e x : Int) : Int := if e = 0 then x else e
end Go.Proofs.Ytfbmkcogkiejnaa.Lr
