/- A function's code, taken apart; a frame's places. Written by tools/gen_mcode.py. -/
import Derived.Test.YtfbmkcogkiejnaaGr5
namespace Go.Proofs.Ytfbmkcogkiejnaa.Lr
set_option linter.unusedVariables false
open Go.RowKit

def fstC : Code → Code
  | .seq a _ => a
  | _ => .skip
def sndC : Code → Code
  | .seq _ b => b
  | _ => .skip
def inC : Code → Code
  | .block _ c => c
  | _ => .skip
def rndC : Code → Code
  | .loop c => c
  | _ => .skip
def slot (a : Act) (i : Nat) : Value := a.tmps.toList.getD i undef
end Go.Proofs.Ytfbmkcogkiejnaa.Lr
