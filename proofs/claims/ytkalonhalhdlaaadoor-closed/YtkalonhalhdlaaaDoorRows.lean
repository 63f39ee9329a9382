/-
  NARROWER THAN 'FOR EVERY INPUT', by the rows' own cells (each row's printed sentence says how): Written: laid · Within: laid · Closed: laid · Ordered: laid · Arrives: laid.
  DERIVED. THE GIVEN ROWS OF THIS SEAT. 5 by the template 'for every input the law returns true; each argument reads behind the call as it read before'; 0 by the template 'total and deterministic' (their statements: YtkalonhalhdlaaaDoorTotals.lean).
  GIVEN WITH THE SEED: the statements are not yours to turn. If you find one false, say at which input.
  Laid BY PROGRAM, IN A SANDBOX (cutbox-rows.mjs): the forced cells as the released guide's own fill.sh prints them over the translation 9afdaee98c5b7011… (all of the seat's roots in one cut). By AI agents, Wed Nov 11 2026. No macro, syntax, notation, axiom, sorry.
-/
import Derived.Test.YtkalonhalhdlaaaDoorChecked
import GoSem.Claim
import GoSem.ClaimJoined
import GoSem.ClaimMapViews
import Derived.JoinedTies
import Derived.KernelRfl
namespace Go.Proofs.YtkalonhalhdlaaaDoor
/- THE CELL 'sum', in the pinned program and in every row, IS THE sha256 OF THE DUMP (.gsa) THAT YtkalonhalhdlaaaDoorProg.lean LOADS. Nothing in Lean hashes anything: it is a label: what it is worth is what the hold of that sum in a sandbox is worth. -/
noncomputable def Tryd.pinned : Pinned := { name := "ytkalonhalhdlaaadoor", sum := "9afdaee98c5b7011a05d3e44a3ba30ab618393e08eaf85cfe65337e5e4f4b67b", checked := Tryd.checked }
namespace Rows
def none {H : Type} : Left H := { results := [], args := [] }

/- WHAT THE LISTED PACKAGE-LEVEL VARIABLES READ AS WHEN THE CALL BEGINS. Each datum BY PROGRAM (the guide's laid-datum.mjs) off the statement by which the dump's own 'gosem.cut.vars' lays the variable. In a bare row this is a premise. The card (YtkalonhalhdlaaaDoorCards.lean) ties it to the program's text. -/
def laid_tether_tether_controls {H : Type} : DataW H := .agg [.lit (.int .u8 0), .lit (.int .u8 0), .lit (.int .u8 1), .lit (.int .u8 5), .lit (.int .u8 9), .lit (.int .u8 47), .lit (.int .u8 67), .lit (.int .u8 99), .lit (.int .u8 15), .lit (.int .u8 135)]

/-- 'tetherkeep.Written': WHATEVER THE INPUT: true; the input reads as it did. -/
def writtenSpec : ChangeSpec := { name := "written", fn := fun _ => fun
  | [d1, d2, d3, d4, d5, d6, d7] => { results := [.lit (.bool true)], args := [d1, d2, d3, d4, d5, d6, d7] }
  | _ => none }
def writtenRow : OpenClaim := { program := "ytkalonhalhdlaaadoor", sum := "9afdaee98c5b7011a05d3e44a3ba30ab618393e08eaf85cfe65337e5e4f4b67b", func := "tether/tetherkeep.Written", spec := "written", named := ["tether/tether.controls"], apart := false, laid := [("tether/tether.controls", laid_tether_tether_controls)] }
def WrittenSaid : Prop := writtenRow.holds Tryd.pinned (OpenSpec.ofChange writtenSpec)

/-- ITS FALSE NEIGHBOUR: 'it returns false'. Refute it at one input. -/
def writtenWrong : ChangeSpec := { name := "written", fn := fun _ => fun
  | [d1, d2, d3, d4, d5, d6, d7] => { results := [.lit (.bool false)], args := [d1, d2, d3, d4, d5, d6, d7] }
  | _ => none }
def WrittenWrongFalsely : Prop := writtenRow.holds Tryd.pinned (OpenSpec.ofChange writtenWrong)

/-- 'tetherkeep.Within': WHATEVER THE INPUT: true; the input reads as it did. -/
def withinSpec : ChangeSpec := { name := "within", fn := fun _ => fun
  | [d1, d2, d3] => { results := [.lit (.bool true)], args := [d1, d2, d3] }
  | _ => none }
def withinRow : OpenClaim := { program := "ytkalonhalhdlaaadoor", sum := "9afdaee98c5b7011a05d3e44a3ba30ab618393e08eaf85cfe65337e5e4f4b67b", func := "tether/tetherkeep.Within", spec := "within", named := ["tether/tether.controls"], apart := false, laid := [("tether/tether.controls", laid_tether_tether_controls)] }
def WithinSaid : Prop := withinRow.holds Tryd.pinned (OpenSpec.ofChange withinSpec)

/-- ITS FALSE NEIGHBOUR: 'it returns false'. Refute it at one input. -/
def withinWrong : ChangeSpec := { name := "within", fn := fun _ => fun
  | [d1, d2, d3] => { results := [.lit (.bool false)], args := [d1, d2, d3] }
  | _ => none }
def WithinWrongFalsely : Prop := withinRow.holds Tryd.pinned (OpenSpec.ofChange withinWrong)

/-- 'tetherkeep.Closed': WHATEVER THE INPUT: true; the input reads as it did. -/
def closedSpec : ChangeSpec := { name := "closed", fn := fun _ => fun
  | [d1, d2] => { results := [.lit (.bool true)], args := [d1, d2] }
  | _ => none }
def closedRow : OpenClaim := { program := "ytkalonhalhdlaaadoor", sum := "9afdaee98c5b7011a05d3e44a3ba30ab618393e08eaf85cfe65337e5e4f4b67b", func := "tether/tetherkeep.Closed", spec := "closed", named := ["tether/tether.controls"], apart := false, laid := [("tether/tether.controls", laid_tether_tether_controls)] }
def ClosedSaid : Prop := closedRow.holds Tryd.pinned (OpenSpec.ofChange closedSpec)

/-- ITS FALSE NEIGHBOUR: 'it returns false'. Refute it at one input. -/
def closedWrong : ChangeSpec := { name := "closed", fn := fun _ => fun
  | [d1, d2] => { results := [.lit (.bool false)], args := [d1, d2] }
  | _ => none }
def ClosedWrongFalsely : Prop := closedRow.holds Tryd.pinned (OpenSpec.ofChange closedWrong)

/-- 'tetherkeep.Ordered': WHATEVER THE INPUT: true; the input reads as it did. -/
def orderedSpec : ChangeSpec := { name := "ordered", fn := fun _ => fun
  | [d1, d2] => { results := [.lit (.bool true)], args := [d1, d2] }
  | _ => none }
def orderedRow : OpenClaim := { program := "ytkalonhalhdlaaadoor", sum := "9afdaee98c5b7011a05d3e44a3ba30ab618393e08eaf85cfe65337e5e4f4b67b", func := "tether/tetherkeep.Ordered", spec := "ordered", named := ["tether/tether.controls"], apart := false, laid := [("tether/tether.controls", laid_tether_tether_controls)] }
def OrderedSaid : Prop := orderedRow.holds Tryd.pinned (OpenSpec.ofChange orderedSpec)

/-- ITS FALSE NEIGHBOUR: 'it returns false'. Refute it at one input. -/
def orderedWrong : ChangeSpec := { name := "ordered", fn := fun _ => fun
  | [d1, d2] => { results := [.lit (.bool false)], args := [d1, d2] }
  | _ => none }
def OrderedWrongFalsely : Prop := orderedRow.holds Tryd.pinned (OpenSpec.ofChange orderedWrong)

/-- 'tetherkeep.Arrives': WHATEVER THE INPUT: true; the input reads as it did. -/
def arrivesSpec : ChangeSpec := { name := "arrives", fn := fun _ => fun
  | [d1, d2] => { results := [.lit (.bool true)], args := [d1, d2] }
  | _ => none }
def arrivesRow : OpenClaim := { program := "ytkalonhalhdlaaadoor", sum := "9afdaee98c5b7011a05d3e44a3ba30ab618393e08eaf85cfe65337e5e4f4b67b", func := "tether/tetherkeep.Arrives", spec := "arrives", named := ["tether/tether.controls"], apart := false, laid := [("tether/tether.controls", laid_tether_tether_controls)] }
def ArrivesSaid : Prop := arrivesRow.holds Tryd.pinned (OpenSpec.ofChange arrivesSpec)

/-- ITS FALSE NEIGHBOUR: 'it returns false'. Refute it at one input. -/
def arrivesWrong : ChangeSpec := { name := "arrives", fn := fun _ => fun
  | [d1, d2] => { results := [.lit (.bool false)], args := [d1, d2] }
  | _ => none }
def ArrivesWrongFalsely : Prop := arrivesRow.holds Tryd.pinned (OpenSpec.ofChange arrivesWrong)

/- THE SECOND FORM. 'bulk': how many values and letters a reading holds, each counted each time it is reached (what is shared counts as often as it is met; a slice's spare places count too). A statement '..UptoSaid' is the law's where the arguments, and the package variables that the reading takes, are together of bulk at most 1048576: NARROWER than '..Said'. Prove '..Said' where nothing that the law and all that it calls make is longer than what came in: it says more and counts as full. Else prove '..UptoSaid'. A law counts once. -/
mutual
def uptoBulk {H : Type} : DataW H → Nat
  | .lit (.string bytes) => bytes.length + 1
  | .lit _ => 1
  | .nil => 1
  | .ptr d => uptoBulk d + 1
  | .slice elems spare => uptoBulkAll elems + uptoBulkAll spare + 1
  | .agg parts => uptoBulkAll parts + 1
  | .iface _ d => uptoBulk d + 1
  | .map entries => uptoBulkEntries entries + 1
  | .held _ => 1
def uptoBulkAll {H : Type} : List (DataW H) → Nat
  | [] => 0
  | d :: r => uptoBulk d + uptoBulkAll r
def uptoBulkEntries {H : Type} : List (Lit × DataW H) → Nat
  | [] => 0
  | x :: r => uptoBulkEntry x + uptoBulkEntries r
def uptoBulkEntry {H : Type} : Lit × DataW H → Nat
  | (.string bytes, d) => bytes.length + uptoBulk d + 1
  | (_, d) => uptoBulk d + 1
 end
def uptoSmall : (H : Type) → List (DataW H) → Bool := fun _ ds => decide (uptoBulkAll ds ≤ 1048576)
def OpenSpec.upto (s : _root_.Go.ChangeSpec) : _root_.Go.OpenSpec := { _root_.Go.OpenSpec.ofChange s with cond := some uptoSmall }

/-- 'tetherkeep.Written', WHERE WHAT IT READS IS OF BULK AT MOST 1048576: true; the input reads as it did. -/
def writtenUptoRow : OpenClaim := { program := "ytkalonhalhdlaaadoor", sum := "9afdaee98c5b7011a05d3e44a3ba30ab618393e08eaf85cfe65337e5e4f4b67b", func := "tether/tetherkeep.Written", spec := "written", named := ["tether/tether.controls"], apart := false, laid := [("tether/tether.controls", laid_tether_tether_controls)], narrowed := true }
def WrittenUptoSaid : Prop := writtenUptoRow.holds Tryd.pinned (OpenSpec.upto writtenSpec)

/-- 'tetherkeep.Within', WHERE WHAT IT READS IS OF BULK AT MOST 1048576: true; the input reads as it did. -/
def withinUptoRow : OpenClaim := { program := "ytkalonhalhdlaaadoor", sum := "9afdaee98c5b7011a05d3e44a3ba30ab618393e08eaf85cfe65337e5e4f4b67b", func := "tether/tetherkeep.Within", spec := "within", named := ["tether/tether.controls"], apart := false, laid := [("tether/tether.controls", laid_tether_tether_controls)], narrowed := true }
def WithinUptoSaid : Prop := withinUptoRow.holds Tryd.pinned (OpenSpec.upto withinSpec)

/-- 'tetherkeep.Closed', WHERE WHAT IT READS IS OF BULK AT MOST 1048576: true; the input reads as it did. -/
def closedUptoRow : OpenClaim := { program := "ytkalonhalhdlaaadoor", sum := "9afdaee98c5b7011a05d3e44a3ba30ab618393e08eaf85cfe65337e5e4f4b67b", func := "tether/tetherkeep.Closed", spec := "closed", named := ["tether/tether.controls"], apart := false, laid := [("tether/tether.controls", laid_tether_tether_controls)], narrowed := true }
def ClosedUptoSaid : Prop := closedUptoRow.holds Tryd.pinned (OpenSpec.upto closedSpec)

/-- 'tetherkeep.Ordered', WHERE WHAT IT READS IS OF BULK AT MOST 1048576: true; the input reads as it did. -/
def orderedUptoRow : OpenClaim := { program := "ytkalonhalhdlaaadoor", sum := "9afdaee98c5b7011a05d3e44a3ba30ab618393e08eaf85cfe65337e5e4f4b67b", func := "tether/tetherkeep.Ordered", spec := "ordered", named := ["tether/tether.controls"], apart := false, laid := [("tether/tether.controls", laid_tether_tether_controls)], narrowed := true }
def OrderedUptoSaid : Prop := orderedUptoRow.holds Tryd.pinned (OpenSpec.upto orderedSpec)

/-- 'tetherkeep.Arrives', WHERE WHAT IT READS IS OF BULK AT MOST 1048576: true; the input reads as it did. -/
def arrivesUptoRow : OpenClaim := { program := "ytkalonhalhdlaaadoor", sum := "9afdaee98c5b7011a05d3e44a3ba30ab618393e08eaf85cfe65337e5e4f4b67b", func := "tether/tetherkeep.Arrives", spec := "arrives", named := ["tether/tether.controls"], apart := false, laid := [("tether/tether.controls", laid_tether_tether_controls)], narrowed := true }
def ArrivesUptoSaid : Prop := arrivesUptoRow.holds Tryd.pinned (OpenSpec.upto arrivesSpec)

end Rows
end Go.Proofs.YtkalonhalhdlaaaDoor
