/-
  DERIVED. GIVEN WITH THE SEED: THE CARDS: each row of YtkalonhalhdlaaaDoorRows.lean that lists a variable, with what it lists TIED to the program's text (the seventh form; the later family's looks); each row that meets fmt, with fmt's text TOLD by the authors' own Lean function (tested against real Go, not proved from fmt's source: count such statements apart). THE CARD IS WHAT COUNTS. Prove the row's statement (the work); the ties are given (YtkalonhalhdlaaaDoorTie.lean); close each card by the builder's one call (the guide's Derived/Test/ToyasCard.lean, 'card_holds'). Laid BY PROGRAM, IN A SANDBOX (cutbox-door.mjs). By AI agents, Wed Nov 11 2026. No macro, syntax, notation, axiom, sorry.
-/
import Derived.Test.YtkalonhalhdlaaaDoorRows
import GoSem.ClaimSeven
namespace Go.Proofs.YtkalonhalhdlaaaDoor
namespace Rows

/-- THE TIED CARD OF 'tetherkeep.Written'. -/
def writtenCard : Claim7 := { stood := { row := writtenRow, standIns := [], harness := (true, "a1cc4cf099b0808cd8db6676b4f20a2f7e8a93ee35bd38258f340e6703dfdb14"), looks := false }, kinds := [], alts := [], laidByText := true, laidKinds := [.data], laidTests := true, laidLooks := .later }
def WrittenCardSaid : Prop := Claim7.holds Tryd.pinned (.plain (OpenSpec.ofChange writtenSpec)) writtenCard

/-- THE TIED CARD OF 'tetherkeep.Within'. -/
def withinCard : Claim7 := { stood := { row := withinRow, standIns := [], harness := (true, "a1cc4cf099b0808cd8db6676b4f20a2f7e8a93ee35bd38258f340e6703dfdb14"), looks := false }, kinds := [], alts := [], laidByText := true, laidKinds := [.data], laidTests := true, laidLooks := .later }
def WithinCardSaid : Prop := Claim7.holds Tryd.pinned (.plain (OpenSpec.ofChange withinSpec)) withinCard

/-- THE TIED CARD OF 'tetherkeep.Closed'. -/
def closedCard : Claim7 := { stood := { row := closedRow, standIns := [], harness := (true, "a1cc4cf099b0808cd8db6676b4f20a2f7e8a93ee35bd38258f340e6703dfdb14"), looks := false }, kinds := [], alts := [], laidByText := true, laidKinds := [.data], laidTests := true, laidLooks := .later }
def ClosedCardSaid : Prop := Claim7.holds Tryd.pinned (.plain (OpenSpec.ofChange closedSpec)) closedCard

/-- THE TIED CARD OF 'tetherkeep.Ordered'. -/
def orderedCard : Claim7 := { stood := { row := orderedRow, standIns := [], harness := (true, "a1cc4cf099b0808cd8db6676b4f20a2f7e8a93ee35bd38258f340e6703dfdb14"), looks := false }, kinds := [], alts := [], laidByText := true, laidKinds := [.data], laidTests := true, laidLooks := .later }
def OrderedCardSaid : Prop := Claim7.holds Tryd.pinned (.plain (OpenSpec.ofChange orderedSpec)) orderedCard

/-- THE TIED CARD OF 'tetherkeep.Arrives'. -/
def arrivesCard : Claim7 := { stood := { row := arrivesRow, standIns := [], harness := (true, "a1cc4cf099b0808cd8db6676b4f20a2f7e8a93ee35bd38258f340e6703dfdb14"), looks := false }, kinds := [], alts := [], laidByText := true, laidKinds := [.data], laidTests := true, laidLooks := .later }
def ArrivesCardSaid : Prop := Claim7.holds Tryd.pinned (.plain (OpenSpec.ofChange arrivesSpec)) arrivesCard

/-- THE SECOND FORM's CARD OF 'tetherkeep.Written'. -/
def writtenUptoCard : Claim7 := { stood := { row := writtenUptoRow, standIns := [], harness := (true, "a1cc4cf099b0808cd8db6676b4f20a2f7e8a93ee35bd38258f340e6703dfdb14"), looks := false }, kinds := [], alts := [], laidByText := true, laidKinds := [.data], laidTests := true, laidLooks := .later }
def WrittenUptoCardSaid : Prop := Claim7.holds Tryd.pinned (.plain (OpenSpec.upto writtenSpec)) writtenUptoCard

/-- THE SECOND FORM's CARD OF 'tetherkeep.Within'. -/
def withinUptoCard : Claim7 := { stood := { row := withinUptoRow, standIns := [], harness := (true, "a1cc4cf099b0808cd8db6676b4f20a2f7e8a93ee35bd38258f340e6703dfdb14"), looks := false }, kinds := [], alts := [], laidByText := true, laidKinds := [.data], laidTests := true, laidLooks := .later }
def WithinUptoCardSaid : Prop := Claim7.holds Tryd.pinned (.plain (OpenSpec.upto withinSpec)) withinUptoCard

/-- THE SECOND FORM's CARD OF 'tetherkeep.Closed'. -/
def closedUptoCard : Claim7 := { stood := { row := closedUptoRow, standIns := [], harness := (true, "a1cc4cf099b0808cd8db6676b4f20a2f7e8a93ee35bd38258f340e6703dfdb14"), looks := false }, kinds := [], alts := [], laidByText := true, laidKinds := [.data], laidTests := true, laidLooks := .later }
def ClosedUptoCardSaid : Prop := Claim7.holds Tryd.pinned (.plain (OpenSpec.upto closedSpec)) closedUptoCard

/-- THE SECOND FORM's CARD OF 'tetherkeep.Ordered'. -/
def orderedUptoCard : Claim7 := { stood := { row := orderedUptoRow, standIns := [], harness := (true, "a1cc4cf099b0808cd8db6676b4f20a2f7e8a93ee35bd38258f340e6703dfdb14"), looks := false }, kinds := [], alts := [], laidByText := true, laidKinds := [.data], laidTests := true, laidLooks := .later }
def OrderedUptoCardSaid : Prop := Claim7.holds Tryd.pinned (.plain (OpenSpec.upto orderedSpec)) orderedUptoCard

/-- THE SECOND FORM's CARD OF 'tetherkeep.Arrives'. -/
def arrivesUptoCard : Claim7 := { stood := { row := arrivesUptoRow, standIns := [], harness := (true, "a1cc4cf099b0808cd8db6676b4f20a2f7e8a93ee35bd38258f340e6703dfdb14"), looks := false }, kinds := [], alts := [], laidByText := true, laidKinds := [.data], laidTests := true, laidLooks := .later }
def ArrivesUptoCardSaid : Prop := Claim7.holds Tryd.pinned (.plain (OpenSpec.upto arrivesSpec)) arrivesUptoCard
end Rows
end Go.Proofs.YtkalonhalhdlaaaDoor
