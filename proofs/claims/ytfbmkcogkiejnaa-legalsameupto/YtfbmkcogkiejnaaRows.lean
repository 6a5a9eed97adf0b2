/-
  No cell of these rows narrows 'for every input' (looked for: loops, veiled, ifaces, maps, wideKeys, modest, calm, conditions, laid).
  DERIVED. THE GIVEN ROWS OF THIS SEAT. 6 by the template 'for every input the law returns true; each argument reads behind the call as it read before'; 0 by the template 'total and deterministic' (their statements: YtfbmkcogkiejnaaTotals.lean).
  GIVEN WITH THE SEED: the statements are not yours to turn. If you find one false, say at which input.
  Laid BY PROGRAM, IN A SANDBOX (cutbox-rows.mjs): the forced cells as the released guide's own fill.sh prints them over the translation c26b124904c2149b… (all of the seat's roots in one cut). By AI agents, Wed Nov 11 2026. No macro, syntax, notation, axiom, sorry.
-/
import Derived.Test.YtfbmkcogkiejnaaChecked
import GoSem.Claim
import GoSem.ClaimJoined
import GoSem.ClaimMapViews
import Derived.JoinedTies
import Derived.KernelRfl
namespace Go.Proofs.Ytfbmkcogkiejnaa
/- THE CELL 'sum', in the pinned program and in every row, IS THE sha256 OF THE DUMP (.gsa) THAT YtfbmkcogkiejnaaProg.lean LOADS. Nothing in Lean hashes anything: it is a label: what it is worth is what the hold of that sum in a sandbox is worth. -/
noncomputable def Try.pinned : Pinned := { name := "ytfbmkcogkiejnaa", sum := "c26b124904c2149b51391c6558f95b091a79ed3afbd9f38d8db47515645432d4", checked := Try.checked }
namespace Rows
def none {H : Type} : Left H := { results := [], args := [] }

/-- 'evlaw7.FlowTells': WHATEVER THE INPUT: true; the input reads as it did. -/
def flowTellsSpec : ChangeSpec := { name := "flowTells", fn := fun _ => fun
  | [d1, d2, d3, d4, d5, d6] => { results := [.lit (.bool true)], args := [d1, d2, d3, d4, d5, d6] }
  | _ => none }
def flowTellsRow : OpenClaim := { program := "ytfbmkcogkiejnaa", sum := "c26b124904c2149b51391c6558f95b091a79ed3afbd9f38d8db47515645432d4", func := "evenpace/evlaw7.FlowTells", spec := "flowTells", unfollowed := true, recurses := true, apart := false }
def FlowTellsSaid : Prop := flowTellsRow.holds Try.pinned (OpenSpec.ofChange flowTellsSpec)

/-- ITS FALSE NEIGHBOUR: 'it returns false'. Refute it at one input. -/
def flowTellsWrong : ChangeSpec := { name := "flowTells", fn := fun _ => fun
  | [d1, d2, d3, d4, d5, d6] => { results := [.lit (.bool false)], args := [d1, d2, d3, d4, d5, d6] }
  | _ => none }
def FlowTellsWrongFalsely : Prop := flowTellsRow.holds Try.pinned (OpenSpec.ofChange flowTellsWrong)

/-- 'evlaw7.FlowWays': WHATEVER THE INPUT: true; the input reads as it did. -/
def flowWaysSpec : ChangeSpec := { name := "flowWays", fn := fun _ => fun
  | [d1, d2, d3] => { results := [.lit (.bool true)], args := [d1, d2, d3] }
  | _ => none }
def flowWaysRow : OpenClaim := { program := "ytfbmkcogkiejnaa", sum := "c26b124904c2149b51391c6558f95b091a79ed3afbd9f38d8db47515645432d4", func := "evenpace/evlaw7.FlowWays", spec := "flowWays", unfollowed := true, recurses := true, apart := false }
def FlowWaysSaid : Prop := flowWaysRow.holds Try.pinned (OpenSpec.ofChange flowWaysSpec)

/-- ITS FALSE NEIGHBOUR: 'it returns false'. Refute it at one input. -/
def flowWaysWrong : ChangeSpec := { name := "flowWays", fn := fun _ => fun
  | [d1, d2, d3] => { results := [.lit (.bool false)], args := [d1, d2, d3] }
  | _ => none }
def FlowWaysWrongFalsely : Prop := flowWaysRow.holds Try.pinned (OpenSpec.ofChange flowWaysWrong)

/-- 'evlaw7.FlowEven': WHATEVER THE INPUT: true; the input reads as it did. -/
def flowEvenSpec : ChangeSpec := { name := "flowEven", fn := fun _ => fun
  | [d1, d2, d3, d4] => { results := [.lit (.bool true)], args := [d1, d2, d3, d4] }
  | _ => none }
def flowEvenRow : OpenClaim := { program := "ytfbmkcogkiejnaa", sum := "c26b124904c2149b51391c6558f95b091a79ed3afbd9f38d8db47515645432d4", func := "evenpace/evlaw7.FlowEven", spec := "flowEven", unfollowed := true, recurses := true, apart := false }
def FlowEvenSaid : Prop := flowEvenRow.holds Try.pinned (OpenSpec.ofChange flowEvenSpec)

/-- ITS FALSE NEIGHBOUR: 'it returns false'. Refute it at one input. -/
def flowEvenWrong : ChangeSpec := { name := "flowEven", fn := fun _ => fun
  | [d1, d2, d3, d4] => { results := [.lit (.bool false)], args := [d1, d2, d3, d4] }
  | _ => none }
def FlowEvenWrongFalsely : Prop := flowEvenRow.holds Try.pinned (OpenSpec.ofChange flowEvenWrong)

/-- 'evlaw8.LegalShows': WHATEVER THE INPUT: true; the input reads as it did. -/
def legalShowsSpec : ChangeSpec := { name := "legalShows", fn := fun _ => fun
  | [d1, d2] => { results := [.lit (.bool true)], args := [d1, d2] }
  | _ => none }
def legalShowsRow : OpenClaim := { program := "ytfbmkcogkiejnaa", sum := "c26b124904c2149b51391c6558f95b091a79ed3afbd9f38d8db47515645432d4", func := "evenpace/evlaw8.LegalShows", spec := "legalShows", unfollowed := true, recurses := true, apart := false }
def LegalShowsSaid : Prop := legalShowsRow.holds Try.pinned (OpenSpec.ofChange legalShowsSpec)

/-- ITS FALSE NEIGHBOUR: 'it returns false'. Refute it at one input. -/
def legalShowsWrong : ChangeSpec := { name := "legalShows", fn := fun _ => fun
  | [d1, d2] => { results := [.lit (.bool false)], args := [d1, d2] }
  | _ => none }
def LegalShowsWrongFalsely : Prop := legalShowsRow.holds Try.pinned (OpenSpec.ofChange legalShowsWrong)

/-- 'evlaw8.LegalSame': WHATEVER THE INPUT: true; the input reads as it did. -/
def legalSameSpec : ChangeSpec := { name := "legalSame", fn := fun _ => fun
  | [d1, d2, d3] => { results := [.lit (.bool true)], args := [d1, d2, d3] }
  | _ => none }
def legalSameRow : OpenClaim := { program := "ytfbmkcogkiejnaa", sum := "c26b124904c2149b51391c6558f95b091a79ed3afbd9f38d8db47515645432d4", func := "evenpace/evlaw8.LegalSame", spec := "legalSame", unfollowed := true, recurses := true, apart := false }
def LegalSameSaid : Prop := legalSameRow.holds Try.pinned (OpenSpec.ofChange legalSameSpec)

/-- ITS FALSE NEIGHBOUR: 'it returns false'. Refute it at one input. -/
def legalSameWrong : ChangeSpec := { name := "legalSame", fn := fun _ => fun
  | [d1, d2, d3] => { results := [.lit (.bool false)], args := [d1, d2, d3] }
  | _ => none }
def LegalSameWrongFalsely : Prop := legalSameRow.holds Try.pinned (OpenSpec.ofChange legalSameWrong)

/-- 'evlaw8.LegalWhen': WHATEVER THE INPUT: true; the input reads as it did. -/
def legalWhenSpec : ChangeSpec := { name := "legalWhen", fn := fun _ => fun
  | [d1, d2] => { results := [.lit (.bool true)], args := [d1, d2] }
  | _ => none }
def legalWhenRow : OpenClaim := { program := "ytfbmkcogkiejnaa", sum := "c26b124904c2149b51391c6558f95b091a79ed3afbd9f38d8db47515645432d4", func := "evenpace/evlaw8.LegalWhen", spec := "legalWhen", unfollowed := true, recurses := true, apart := false }
def LegalWhenSaid : Prop := legalWhenRow.holds Try.pinned (OpenSpec.ofChange legalWhenSpec)

/-- ITS FALSE NEIGHBOUR: 'it returns false'. Refute it at one input. -/
def legalWhenWrong : ChangeSpec := { name := "legalWhen", fn := fun _ => fun
  | [d1, d2] => { results := [.lit (.bool false)], args := [d1, d2] }
  | _ => none }
def LegalWhenWrongFalsely : Prop := legalWhenRow.holds Try.pinned (OpenSpec.ofChange legalWhenWrong)

/- THE SECOND FORM. 'bulk': how many values and letters a reading holds, each counted each time it is reached (what is shared counts as often as it is met; a slice's spare places count too). A statement '..UptoSaid' is the law's where the arguments, and the package variables that the reading takes, are together of bulk at most 1048576: NARROWER than '..Said'. Prove '..Said' where nothing that the law and all that it calls make is longer than what came in: it says more and counts as full. Else prove '..UptoSaid'. A law counts once. -/
mutual
def uptoBulk {H : Type} : DataW H → Nat
  | .lit (.string bytes) => bytes.length + 1
  | .lit _ => 1
  | .nil => 1
  | .ptr d => uptoBulk d + 1
  | .slice elems spare => uptoBulkAll elems + uptoBulkAll spare + 1
  | .agg parts => uptoBulkAll parts + 1
  | .iface _ d => uptoBulk d + 1
  | .map entries => uptoBulkEntries entries + 1
  | .held _ => 1
def uptoBulkAll {H : Type} : List (DataW H) → Nat
  | [] => 0
  | d :: r => uptoBulk d + uptoBulkAll r
def uptoBulkEntries {H : Type} : List (Lit × DataW H) → Nat
  | [] => 0
  | x :: r => uptoBulkEntry x + uptoBulkEntries r
def uptoBulkEntry {H : Type} : Lit × DataW H → Nat
  | (.string bytes, d) => bytes.length + uptoBulk d + 1
  | (_, d) => uptoBulk d + 1
 end
def uptoSmall : (H : Type) → List (DataW H) → Bool := fun _ ds => decide (uptoBulkAll ds ≤ 1048576)
def OpenSpec.upto (s : _root_.Go.ChangeSpec) : _root_.Go.OpenSpec := { _root_.Go.OpenSpec.ofChange s with cond := some uptoSmall }

/-- 'evlaw7.FlowTells', WHERE WHAT IT READS IS OF BULK AT MOST 1048576: true; the input reads as it did. -/
def flowTellsUptoRow : OpenClaim := { program := "ytfbmkcogkiejnaa", sum := "c26b124904c2149b51391c6558f95b091a79ed3afbd9f38d8db47515645432d4", func := "evenpace/evlaw7.FlowTells", spec := "flowTells", unfollowed := true, recurses := true, apart := false, narrowed := true }
def FlowTellsUptoSaid : Prop := flowTellsUptoRow.holds Try.pinned (OpenSpec.upto flowTellsSpec)

/-- 'evlaw7.FlowWays', WHERE WHAT IT READS IS OF BULK AT MOST 1048576: true; the input reads as it did. -/
def flowWaysUptoRow : OpenClaim := { program := "ytfbmkcogkiejnaa", sum := "c26b124904c2149b51391c6558f95b091a79ed3afbd9f38d8db47515645432d4", func := "evenpace/evlaw7.FlowWays", spec := "flowWays", unfollowed := true, recurses := true, apart := false, narrowed := true }
def FlowWaysUptoSaid : Prop := flowWaysUptoRow.holds Try.pinned (OpenSpec.upto flowWaysSpec)

/-- 'evlaw7.FlowEven', WHERE WHAT IT READS IS OF BULK AT MOST 1048576: true; the input reads as it did. -/
def flowEvenUptoRow : OpenClaim := { program := "ytfbmkcogkiejnaa", sum := "c26b124904c2149b51391c6558f95b091a79ed3afbd9f38d8db47515645432d4", func := "evenpace/evlaw7.FlowEven", spec := "flowEven", unfollowed := true, recurses := true, apart := false, narrowed := true }
def FlowEvenUptoSaid : Prop := flowEvenUptoRow.holds Try.pinned (OpenSpec.upto flowEvenSpec)

/-- 'evlaw8.LegalShows', WHERE WHAT IT READS IS OF BULK AT MOST 1048576: true; the input reads as it did. -/
def legalShowsUptoRow : OpenClaim := { program := "ytfbmkcogkiejnaa", sum := "c26b124904c2149b51391c6558f95b091a79ed3afbd9f38d8db47515645432d4", func := "evenpace/evlaw8.LegalShows", spec := "legalShows", unfollowed := true, recurses := true, apart := false, narrowed := true }
def LegalShowsUptoSaid : Prop := legalShowsUptoRow.holds Try.pinned (OpenSpec.upto legalShowsSpec)

/-- 'evlaw8.LegalSame', WHERE WHAT IT READS IS OF BULK AT MOST 1048576: true; the input reads as it did. -/
def legalSameUptoRow : OpenClaim := { program := "ytfbmkcogkiejnaa", sum := "c26b124904c2149b51391c6558f95b091a79ed3afbd9f38d8db47515645432d4", func := "evenpace/evlaw8.LegalSame", spec := "legalSame", unfollowed := true, recurses := true, apart := false, narrowed := true }
def LegalSameUptoSaid : Prop := legalSameUptoRow.holds Try.pinned (OpenSpec.upto legalSameSpec)

/-- 'evlaw8.LegalWhen', WHERE WHAT IT READS IS OF BULK AT MOST 1048576: true; the input reads as it did. -/
def legalWhenUptoRow : OpenClaim := { program := "ytfbmkcogkiejnaa", sum := "c26b124904c2149b51391c6558f95b091a79ed3afbd9f38d8db47515645432d4", func := "evenpace/evlaw8.LegalWhen", spec := "legalWhen", unfollowed := true, recurses := true, apart := false, narrowed := true }
def LegalWhenUptoSaid : Prop := legalWhenUptoRow.holds Try.pinned (OpenSpec.upto legalWhenSpec)

end Rows
end Go.Proofs.Ytfbmkcogkiejnaa
