/- How instructions run, as the document tells it: its Run. Written by tools/gen_frrun.py. -/
import Derived.Test.YtpnacanbknejiaaFrDo
import Derived.Test.YtpnacanbknejiaaFrNew
import Derived.Test.YtpnacanbknejiaaFrEnd
import Derived.Test.YtpnacanbknejiaaFrSeen
namespace Go.Proofs.Ytpnacanbknejiaa.Fl
set_option linter.unusedVariables false
set_option linter.unusedSimpArgs false
open Go.ChangeShapes Go.WideShapes Go.ChangeAt Go.RowKit Lg Lr
end Go.Proofs.Ytpnacanbknejiaa.Fl
