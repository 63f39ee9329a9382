/-
  NARROWER THAN 'FOR EVERY INPUT', by the rows' own cells (each row's printed sentence says how): Lines: laid · Frames: laid · Handshakes: laid · Stations: laid · All: laid.
  DERIVED. THE GIVEN ROWS OF THIS SEAT. 5 by the template 'for every input the law returns true; each argument reads behind the call as it read before'; 0 by the template 'total and deterministic' (their statements: YtkalonhalhdlaaaGreatDoorTotals.lean).
  GIVEN WITH THE SEED: the statements are not yours to turn. If you find one false, say at which input.
  Laid BY PROGRAM, IN A SANDBOX (cutbox-rows.mjs): the forced cells as the released guide's own fill.sh prints them over the translation dbaed0a3d1593ace… (all of the seat's roots in one cut). By AI agents, Wed Nov 11 2026. No macro, syntax, notation, axiom, sorry.
-/
import Derived.Test.YtkalonhalhdlaaaGreatDoorChecked
import GoSem.Claim
import GoSem.ClaimJoined
import GoSem.ClaimMapViews
import Derived.JoinedTies
import Derived.KernelRfl
namespace Go.Proofs.YtkalonhalhdlaaaGreatDoor
/- THE CELL 'sum', in the pinned program and in every row, IS THE sha256 OF THE DUMP (.gsa) THAT YtkalonhalhdlaaaGreatDoorProg.lean LOADS. Nothing in Lean hashes anything: it is a label: what it is worth is what the hold of that sum in a sandbox is worth. -/
noncomputable def Tryz.pinned : Pinned := { name := "ytkalonhalhdlaaagreatdoor", sum := "dbaed0a3d1593ace9eaabe388a82db63e6a1271833cea5bbb3b5747deeb7a666", checked := Tryz.checked }
namespace Rows
def none {H : Type} : Left H := { results := [], args := [] }

/- WHAT THE LISTED PACKAGE-LEVEL VARIABLES READ AS WHEN THE CALL BEGINS. Each datum BY PROGRAM (the guide's laid-datum.mjs) off the statement by which the dump's own 'gosem.cut.vars' lays the variable. In a bare row this is a premise. The card (YtkalonhalhdlaaaGreatDoorCards.lean) ties it to the program's text. -/
def laid_tether_tether_controls {H : Type} : DataW H := .agg [.lit (.int .u8 0), .lit (.int .u8 0), .lit (.int .u8 1), .lit (.int .u8 5), .lit (.int .u8 9), .lit (.int .u8 47), .lit (.int .u8 67), .lit (.int .u8 99), .lit (.int .u8 15), .lit (.int .u8 135)]

/-- 'tetherlaw.Lines': WHATEVER THE INPUT: true; the input reads as it did. -/
def linesSpec : ChangeSpec := { name := "lines", fn := fun _ => fun
  | [d] => { results := [.lit (.bool true)], args := [d] }
  | _ => none }
def linesRow : OpenClaim := { program := "ytkalonhalhdlaaagreatdoor", sum := "dbaed0a3d1593ace9eaabe388a82db63e6a1271833cea5bbb3b5747deeb7a666", func := "tether/tetherlaw.Lines", spec := "lines", inPlace := ["internal/abi.NoEscape"], named := ["tether/tether.controls"], apart := false, laid := [("tether/tether.controls", laid_tether_tether_controls)] }
def LinesSaid : Prop := linesRow.holds Tryz.pinned (OpenSpec.ofChange linesSpec)

/-- ITS FALSE NEIGHBOUR: 'it returns false'. Refute it at one input. -/
def linesWrong : ChangeSpec := { name := "lines", fn := fun _ => fun
  | [d] => { results := [.lit (.bool false)], args := [d] }
  | _ => none }
def LinesWrongFalsely : Prop := linesRow.holds Tryz.pinned (OpenSpec.ofChange linesWrong)

/-- 'tetherlaw.Frames': WHATEVER THE INPUT: true; the input reads as it did. -/
def framesSpec : ChangeSpec := { name := "frames", fn := fun _ => fun
  | [d] => { results := [.lit (.bool true)], args := [d] }
  | _ => none }
def framesRow : OpenClaim := { program := "ytkalonhalhdlaaagreatdoor", sum := "dbaed0a3d1593ace9eaabe388a82db63e6a1271833cea5bbb3b5747deeb7a666", func := "tether/tetherlaw.Frames", spec := "frames", inPlace := ["internal/abi.NoEscape"], named := ["tether/tether.controls"], apart := false, laid := [("tether/tether.controls", laid_tether_tether_controls)] }
def FramesSaid : Prop := framesRow.holds Tryz.pinned (OpenSpec.ofChange framesSpec)

/-- ITS FALSE NEIGHBOUR: 'it returns false'. Refute it at one input. -/
def framesWrong : ChangeSpec := { name := "frames", fn := fun _ => fun
  | [d] => { results := [.lit (.bool false)], args := [d] }
  | _ => none }
def FramesWrongFalsely : Prop := framesRow.holds Tryz.pinned (OpenSpec.ofChange framesWrong)

/-- 'tetherlaw.Handshakes': WHATEVER THE INPUT: true; the input reads as it did. -/
def handshakesSpec : ChangeSpec := { name := "handshakes", fn := fun _ => fun
  | [d] => { results := [.lit (.bool true)], args := [d] }
  | _ => none }
def handshakesRow : OpenClaim := { program := "ytkalonhalhdlaaagreatdoor", sum := "dbaed0a3d1593ace9eaabe388a82db63e6a1271833cea5bbb3b5747deeb7a666", func := "tether/tetherlaw.Handshakes", spec := "handshakes", inPlace := ["internal/abi.NoEscape"], named := ["tether/tether.controls"], apart := false, laid := [("tether/tether.controls", laid_tether_tether_controls)] }
def HandshakesSaid : Prop := handshakesRow.holds Tryz.pinned (OpenSpec.ofChange handshakesSpec)

/-- ITS FALSE NEIGHBOUR: 'it returns false'. Refute it at one input. -/
def handshakesWrong : ChangeSpec := { name := "handshakes", fn := fun _ => fun
  | [d] => { results := [.lit (.bool false)], args := [d] }
  | _ => none }
def HandshakesWrongFalsely : Prop := handshakesRow.holds Tryz.pinned (OpenSpec.ofChange handshakesWrong)

/-- 'tetherlaw.Stations': WHATEVER THE INPUT: true; the input reads as it did. -/
def stationsSpec : ChangeSpec := { name := "stations", fn := fun _ => fun
  | [d] => { results := [.lit (.bool true)], args := [d] }
  | _ => none }
def stationsRow : OpenClaim := { program := "ytkalonhalhdlaaagreatdoor", sum := "dbaed0a3d1593ace9eaabe388a82db63e6a1271833cea5bbb3b5747deeb7a666", func := "tether/tetherlaw.Stations", spec := "stations", inPlace := ["internal/abi.NoEscape"], named := ["tether/tether.controls"], apart := false, laid := [("tether/tether.controls", laid_tether_tether_controls)] }
def StationsSaid : Prop := stationsRow.holds Tryz.pinned (OpenSpec.ofChange stationsSpec)

/-- ITS FALSE NEIGHBOUR: 'it returns false'. Refute it at one input. -/
def stationsWrong : ChangeSpec := { name := "stations", fn := fun _ => fun
  | [d] => { results := [.lit (.bool false)], args := [d] }
  | _ => none }
def StationsWrongFalsely : Prop := stationsRow.holds Tryz.pinned (OpenSpec.ofChange stationsWrong)

/-- 'tetherlaw.All': WHATEVER THE INPUT: true; the input reads as it did. -/
def allSpec : ChangeSpec := { name := "all", fn := fun _ => fun
  | [d] => { results := [.lit (.bool true)], args := [d] }
  | _ => none }
def allRow : OpenClaim := { program := "ytkalonhalhdlaaagreatdoor", sum := "dbaed0a3d1593ace9eaabe388a82db63e6a1271833cea5bbb3b5747deeb7a666", func := "tether/tetherlaw.All", spec := "all", inPlace := ["internal/abi.NoEscape"], named := ["tether/tether.controls"], apart := false, laid := [("tether/tether.controls", laid_tether_tether_controls)] }
def AllSaid : Prop := allRow.holds Tryz.pinned (OpenSpec.ofChange allSpec)

/-- ITS FALSE NEIGHBOUR: 'it returns false'. Refute it at one input. -/
def allWrong : ChangeSpec := { name := "all", fn := fun _ => fun
  | [d] => { results := [.lit (.bool false)], args := [d] }
  | _ => none }
def AllWrongFalsely : Prop := allRow.holds Tryz.pinned (OpenSpec.ofChange allWrong)

/- THE SECOND FORM. 'bulk': how many values and letters a reading holds, each counted each time it is reached (what is shared counts as often as it is met; a slice's spare places count too). A statement '..UptoSaid' is the law's where the arguments, and the package variables that the reading takes, are together of bulk at most 1048576: NARROWER than '..Said'. Prove '..Said' where nothing that the law and all that it calls make is longer than what came in: it says more and counts as full. Else prove '..UptoSaid'. A law counts once. -/
mutual
def uptoBulk {H : Type} : DataW H → Nat
  | .lit (.string bytes) => bytes.length + 1
  | .lit _ => 1
  | .nil => 1
  | .ptr d => uptoBulk d + 1
  | .slice elems spare => uptoBulkAll elems + uptoBulkAll spare + 1
  | .agg parts => uptoBulkAll parts + 1
  | .iface _ d => uptoBulk d + 1
  | .map entries => uptoBulkEntries entries + 1
  | .held _ => 1
def uptoBulkAll {H : Type} : List (DataW H) → Nat
  | [] => 0
  | d :: r => uptoBulk d + uptoBulkAll r
def uptoBulkEntries {H : Type} : List (Lit × DataW H) → Nat
  | [] => 0
  | x :: r => uptoBulkEntry x + uptoBulkEntries r
def uptoBulkEntry {H : Type} : Lit × DataW H → Nat
  | (.string bytes, d) => bytes.length + uptoBulk d + 1
  | (_, d) => uptoBulk d + 1
 end
def uptoSmall : (H : Type) → List (DataW H) → Bool := fun _ ds => decide (uptoBulkAll ds ≤ 1048576)
def OpenSpec.upto (s : _root_.Go.ChangeSpec) : _root_.Go.OpenSpec := { _root_.Go.OpenSpec.ofChange s with cond := some uptoSmall }

/-- 'tetherlaw.Lines', WHERE WHAT IT READS IS OF BULK AT MOST 1048576: true; the input reads as it did. -/
def linesUptoRow : OpenClaim := { program := "ytkalonhalhdlaaagreatdoor", sum := "dbaed0a3d1593ace9eaabe388a82db63e6a1271833cea5bbb3b5747deeb7a666", func := "tether/tetherlaw.Lines", spec := "lines", inPlace := ["internal/abi.NoEscape"], named := ["tether/tether.controls"], apart := false, laid := [("tether/tether.controls", laid_tether_tether_controls)], narrowed := true }
def LinesUptoSaid : Prop := linesUptoRow.holds Tryz.pinned (OpenSpec.upto linesSpec)

/-- 'tetherlaw.Frames', WHERE WHAT IT READS IS OF BULK AT MOST 1048576: true; the input reads as it did. -/
def framesUptoRow : OpenClaim := { program := "ytkalonhalhdlaaagreatdoor", sum := "dbaed0a3d1593ace9eaabe388a82db63e6a1271833cea5bbb3b5747deeb7a666", func := "tether/tetherlaw.Frames", spec := "frames", inPlace := ["internal/abi.NoEscape"], named := ["tether/tether.controls"], apart := false, laid := [("tether/tether.controls", laid_tether_tether_controls)], narrowed := true }
def FramesUptoSaid : Prop := framesUptoRow.holds Tryz.pinned (OpenSpec.upto framesSpec)

/-- 'tetherlaw.Handshakes', WHERE WHAT IT READS IS OF BULK AT MOST 1048576: true; the input reads as it did. -/
def handshakesUptoRow : OpenClaim := { program := "ytkalonhalhdlaaagreatdoor", sum := "dbaed0a3d1593ace9eaabe388a82db63e6a1271833cea5bbb3b5747deeb7a666", func := "tether/tetherlaw.Handshakes", spec := "handshakes", inPlace := ["internal/abi.NoEscape"], named := ["tether/tether.controls"], apart := false, laid := [("tether/tether.controls", laid_tether_tether_controls)], narrowed := true }
def HandshakesUptoSaid : Prop := handshakesUptoRow.holds Tryz.pinned (OpenSpec.upto handshakesSpec)

/-- 'tetherlaw.Stations', WHERE WHAT IT READS IS OF BULK AT MOST 1048576: true; the input reads as it did. -/
def stationsUptoRow : OpenClaim := { program := "ytkalonhalhdlaaagreatdoor", sum := "dbaed0a3d1593ace9eaabe388a82db63e6a1271833cea5bbb3b5747deeb7a666", func := "tether/tetherlaw.Stations", spec := "stations", inPlace := ["internal/abi.NoEscape"], named := ["tether/tether.controls"], apart := false, laid := [("tether/tether.controls", laid_tether_tether_controls)], narrowed := true }
def StationsUptoSaid : Prop := stationsUptoRow.holds Tryz.pinned (OpenSpec.upto stationsSpec)

/-- 'tetherlaw.All', WHERE WHAT IT READS IS OF BULK AT MOST 1048576: true; the input reads as it did. -/
def allUptoRow : OpenClaim := { program := "ytkalonhalhdlaaagreatdoor", sum := "dbaed0a3d1593ace9eaabe388a82db63e6a1271833cea5bbb3b5747deeb7a666", func := "tether/tetherlaw.All", spec := "all", inPlace := ["internal/abi.NoEscape"], named := ["tether/tether.controls"], apart := false, laid := [("tether/tether.controls", laid_tether_tether_controls)], narrowed := true }
def AllUptoSaid : Prop := allUptoRow.holds Tryz.pinned (OpenSpec.upto allSpec)

end Rows
end Go.Proofs.YtkalonhalhdlaaaGreatDoor
