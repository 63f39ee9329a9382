/-
  DERIVED. GIVEN WITH THE SEED: THE CARDS: each row of YtkalonhalhdlaaaGreatDoorRows.lean that lists a variable, with what it lists TIED to the program's text (the seventh form; the later family's looks); each row that meets fmt, with fmt's text TOLD by the authors' own Lean function (tested against real Go, not proved from fmt's source: count such statements apart). THE CARD IS WHAT COUNTS. Prove the row's statement (the work); the ties are given (YtkalonhalhdlaaaGreatDoorTie.lean); close each card by the builder's one call (the guide's Derived/Test/ToyasCard.lean, 'card_holds'). Laid BY PROGRAM, IN A SANDBOX (cutbox-door.mjs). By AI agents, Wed Nov 11 2026. No macro, syntax, notation, axiom, sorry.
-/
import Derived.Test.YtkalonhalhdlaaaGreatDoorRows
import GoSem.ClaimSeven
namespace Go.Proofs.YtkalonhalhdlaaaGreatDoor
namespace Rows

/-- THE TIED CARD OF 'tetherlaw.Lines'. -/
def linesCard : Claim7 := { stood := { row := linesRow, standIns := [], harness := (true, "c01fb3b600700e38e8b2eed9c125639e09b6946e12d87716db03fdbabe5c374b"), looks := false }, kinds := [], alts := [], laidByText := true, laidKinds := [.data], laidTests := true, laidLooks := .later }
def LinesCardSaid : Prop := Claim7.holds Tryz.pinned (.plain (OpenSpec.ofChange linesSpec)) linesCard

/-- THE TIED CARD OF 'tetherlaw.Frames'. -/
def framesCard : Claim7 := { stood := { row := framesRow, standIns := [], harness := (true, "c01fb3b600700e38e8b2eed9c125639e09b6946e12d87716db03fdbabe5c374b"), looks := false }, kinds := [], alts := [], laidByText := true, laidKinds := [.data], laidTests := true, laidLooks := .later }
def FramesCardSaid : Prop := Claim7.holds Tryz.pinned (.plain (OpenSpec.ofChange framesSpec)) framesCard

/-- THE TIED CARD OF 'tetherlaw.Handshakes'. -/
def handshakesCard : Claim7 := { stood := { row := handshakesRow, standIns := [], harness := (true, "c01fb3b600700e38e8b2eed9c125639e09b6946e12d87716db03fdbabe5c374b"), looks := false }, kinds := [], alts := [], laidByText := true, laidKinds := [.data], laidTests := true, laidLooks := .later }
def HandshakesCardSaid : Prop := Claim7.holds Tryz.pinned (.plain (OpenSpec.ofChange handshakesSpec)) handshakesCard

/-- THE TIED CARD OF 'tetherlaw.Stations'. -/
def stationsCard : Claim7 := { stood := { row := stationsRow, standIns := [], harness := (true, "c01fb3b600700e38e8b2eed9c125639e09b6946e12d87716db03fdbabe5c374b"), looks := false }, kinds := [], alts := [], laidByText := true, laidKinds := [.data], laidTests := true, laidLooks := .later }
def StationsCardSaid : Prop := Claim7.holds Tryz.pinned (.plain (OpenSpec.ofChange stationsSpec)) stationsCard

/-- THE TIED CARD OF 'tetherlaw.All'. -/
def allCard : Claim7 := { stood := { row := allRow, standIns := [], harness := (true, "c01fb3b600700e38e8b2eed9c125639e09b6946e12d87716db03fdbabe5c374b"), looks := false }, kinds := [], alts := [], laidByText := true, laidKinds := [.data], laidTests := true, laidLooks := .later }
def AllCardSaid : Prop := Claim7.holds Tryz.pinned (.plain (OpenSpec.ofChange allSpec)) allCard

/-- THE SECOND FORM's CARD OF 'tetherlaw.Lines'. -/
def linesUptoCard : Claim7 := { stood := { row := linesUptoRow, standIns := [], harness := (true, "c01fb3b600700e38e8b2eed9c125639e09b6946e12d87716db03fdbabe5c374b"), looks := false }, kinds := [], alts := [], laidByText := true, laidKinds := [.data], laidTests := true, laidLooks := .later }
def LinesUptoCardSaid : Prop := Claim7.holds Tryz.pinned (.plain (OpenSpec.upto linesSpec)) linesUptoCard

/-- THE SECOND FORM's CARD OF 'tetherlaw.Frames'. -/
def framesUptoCard : Claim7 := { stood := { row := framesUptoRow, standIns := [], harness := (true, "c01fb3b600700e38e8b2eed9c125639e09b6946e12d87716db03fdbabe5c374b"), looks := false }, kinds := [], alts := [], laidByText := true, laidKinds := [.data], laidTests := true, laidLooks := .later }
def FramesUptoCardSaid : Prop := Claim7.holds Tryz.pinned (.plain (OpenSpec.upto framesSpec)) framesUptoCard

/-- THE SECOND FORM's CARD OF 'tetherlaw.Handshakes'. -/
def handshakesUptoCard : Claim7 := { stood := { row := handshakesUptoRow, standIns := [], harness := (true, "c01fb3b600700e38e8b2eed9c125639e09b6946e12d87716db03fdbabe5c374b"), looks := false }, kinds := [], alts := [], laidByText := true, laidKinds := [.data], laidTests := true, laidLooks := .later }
def HandshakesUptoCardSaid : Prop := Claim7.holds Tryz.pinned (.plain (OpenSpec.upto handshakesSpec)) handshakesUptoCard

/-- THE SECOND FORM's CARD OF 'tetherlaw.Stations'. -/
def stationsUptoCard : Claim7 := { stood := { row := stationsUptoRow, standIns := [], harness := (true, "c01fb3b600700e38e8b2eed9c125639e09b6946e12d87716db03fdbabe5c374b"), looks := false }, kinds := [], alts := [], laidByText := true, laidKinds := [.data], laidTests := true, laidLooks := .later }
def StationsUptoCardSaid : Prop := Claim7.holds Tryz.pinned (.plain (OpenSpec.upto stationsSpec)) stationsUptoCard

/-- THE SECOND FORM's CARD OF 'tetherlaw.All'. -/
def allUptoCard : Claim7 := { stood := { row := allUptoRow, standIns := [], harness := (true, "c01fb3b600700e38e8b2eed9c125639e09b6946e12d87716db03fdbabe5c374b"), looks := false }, kinds := [], alts := [], laidByText := true, laidKinds := [.data], laidTests := true, laidLooks := .later }
def AllUptoCardSaid : Prop := Claim7.holds Tryz.pinned (.plain (OpenSpec.upto allSpec)) allUptoCard
end Rows
end Go.Proofs.YtkalonhalhdlaaaGreatDoor
