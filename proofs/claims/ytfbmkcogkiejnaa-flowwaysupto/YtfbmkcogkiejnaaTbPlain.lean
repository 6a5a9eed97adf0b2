/- Tables of what is seen, as plain lists and numbers: the names, what is right, a table's text, and what a text is read as. No Go in it. -/
import Derived.Lib.AtoiAll
import Derived.Lib.ItoaNum
import Derived.Lib.Bytealg
namespace Go.Proofs.Ytfbmkcogkiejnaa.Tb
set_option linter.unusedVariables false

/-- What a right table may tell of an op at most: all of its bits. -/
def most (op : Nat) : Int := ([0, 3, 3, 3, 3, 3, 3, 3, 3, 3, 3, 3, 3, 7, 0, 1, 1, 3] : List Int).getD op 0

end Go.Proofs.Ytfbmkcogkiejnaa.Tb
