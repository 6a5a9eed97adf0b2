/- Laid together: TbBits, TbWrong. -/
import Derived.WalkKit
import Derived.Laws.BitsLemmas
import Derived.Test.YtfbmkcogkiejnaaGr4
import Derived.Test.YtfbmkcogkiejnaaTbWalks
namespace Go.Proofs.Ytfbmkcogkiejnaa.Tb
set_option linter.unusedVariables false

end Go.Proofs.Ytfbmkcogkiejnaa.Tb
namespace Go.Proofs.Ytfbmkcogkiejnaa.Tb
set_option linter.unusedVariables false
open Go.ChangeShapes Go.WideShapes Go.ChangeAt Go.RowKit

/-- A table's cells. -/
abbrev tabA (t : Nat → Int) : Array Value := #[.int .i64 (t 0), .int .i64 (t 1), .int .i64 (t 2), .int .i64 (t 3), .int .i64 (t 4), .int .i64 (t 5), .int .i64 (t 6), .int .i64 (t 7), .int .i64 (t 8), .int .i64 (t 9), .int .i64 (t 10), .int .i64 (t 11), .int .i64 (t 12), .int .i64 (t 13), .int .i64 (t 14), .int .i64 (t 15), .int .i64 (t 16), .int .i64 (t 17)]
end Go.Proofs.Ytfbmkcogkiejnaa.Tb
