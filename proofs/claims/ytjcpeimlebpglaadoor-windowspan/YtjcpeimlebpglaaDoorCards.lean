/-
  DERIVED. GIVEN WITH THE SEED: THE CARDS: each row of YtjcpeimlebpglaaDoorRows.lean that lists a variable, with what it lists TIED to the program's text (the seventh form; the later family's looks); each row that meets fmt, with fmt's text TOLD by the authors' own Lean function (tested against real Go, not proved from fmt's source: count such statements apart). THE CARD IS WHAT COUNTS. Prove the row's statement (the work); the ties are given (YtjcpeimlebpglaaDoorTie.lean); close each card by the builder's one call (the guide's Derived/Test/ToyasCard.lean, 'card_holds'). Laid BY PROGRAM, IN A SANDBOX (cutbox-door.mjs). By AI agents, Wed Nov 11 2026. No macro, syntax, notation, axiom, sorry.
-/
import Derived.Test.YtjcpeimlebpglaaDoorRows
import GoSem.ClaimSeven
namespace Go.Proofs.YtjcpeimlebpglaaDoor
namespace Rows

/-- THE TIED CARD OF 'mootbelllaw12.WindowTells'. -/
def windowTellsCard : Claim7 := { stood := { row := windowTellsRow, standIns := [], harness := (true, "fee4489961040c3a721d8ad8d2c587ad0f9dbfe194f8e6dc91d271610ece46b8"), looks := false }, kinds := [], alts := [], laidByText := true, laidKinds := [.data], laidTests := true, laidLooks := .later }
def WindowTellsCardSaid : Prop := Claim7.holds Tryd.pinned (.plain (OpenSpec.ofChange windowTellsSpec)) windowTellsCard

/-- THE TIED CARD OF 'mootbelllaw12.WindowSpan'. -/
def windowSpanCard : Claim7 := { stood := { row := windowSpanRow, standIns := [], harness := (true, "fee4489961040c3a721d8ad8d2c587ad0f9dbfe194f8e6dc91d271610ece46b8"), looks := false }, kinds := [], alts := [], laidByText := true, laidKinds := [.data], laidTests := true, laidLooks := .later }
def WindowSpanCardSaid : Prop := Claim7.holds Tryd.pinned (.plain (OpenSpec.ofChange windowSpanSpec)) windowSpanCard

/-- THE TIED CARD OF 'mootbelllaw12.WindowTurns'. -/
def windowTurnsCard : Claim7 := { stood := { row := windowTurnsRow, standIns := [], harness := (true, "fee4489961040c3a721d8ad8d2c587ad0f9dbfe194f8e6dc91d271610ece46b8"), looks := false }, kinds := [], alts := [], laidByText := true, laidKinds := [.data], laidTests := true, laidLooks := .later }
def WindowTurnsCardSaid : Prop := Claim7.holds Tryd.pinned (.plain (OpenSpec.ofChange windowTurnsSpec)) windowTurnsCard

/-- THE TIED CARD OF 'mootbelllaw12.WindowLater'. -/
def windowLaterCard : Claim7 := { stood := { row := windowLaterRow, standIns := [], harness := (true, "fee4489961040c3a721d8ad8d2c587ad0f9dbfe194f8e6dc91d271610ece46b8"), looks := false }, kinds := [], alts := [], laidByText := true, laidKinds := [.data], laidTests := true, laidLooks := .later }
def WindowLaterCardSaid : Prop := Claim7.holds Tryd.pinned (.plain (OpenSpec.ofChange windowLaterSpec)) windowLaterCard

/-- THE TIED CARD OF 'mootbelllaw12.WindowEdges'. -/
def windowEdgesCard : Claim7 := { stood := { row := windowEdgesRow, standIns := [], harness := (true, "fee4489961040c3a721d8ad8d2c587ad0f9dbfe194f8e6dc91d271610ece46b8"), looks := false }, kinds := [], alts := [], laidByText := true, laidKinds := [.data], laidTests := true, laidLooks := .later }
def WindowEdgesCardSaid : Prop := Claim7.holds Tryd.pinned (.plain (OpenSpec.ofChange windowEdgesSpec)) windowEdgesCard

/-- THE SECOND FORM's CARD OF 'mootbelllaw12.WindowTells'. -/
def windowTellsUptoCard : Claim7 := { stood := { row := windowTellsUptoRow, standIns := [], harness := (true, "fee4489961040c3a721d8ad8d2c587ad0f9dbfe194f8e6dc91d271610ece46b8"), looks := false }, kinds := [], alts := [], laidByText := true, laidKinds := [.data], laidTests := true, laidLooks := .later }
def WindowTellsUptoCardSaid : Prop := Claim7.holds Tryd.pinned (.plain (OpenSpec.upto windowTellsSpec)) windowTellsUptoCard

/-- THE SECOND FORM's CARD OF 'mootbelllaw12.WindowSpan'. -/
def windowSpanUptoCard : Claim7 := { stood := { row := windowSpanUptoRow, standIns := [], harness := (true, "fee4489961040c3a721d8ad8d2c587ad0f9dbfe194f8e6dc91d271610ece46b8"), looks := false }, kinds := [], alts := [], laidByText := true, laidKinds := [.data], laidTests := true, laidLooks := .later }
def WindowSpanUptoCardSaid : Prop := Claim7.holds Tryd.pinned (.plain (OpenSpec.upto windowSpanSpec)) windowSpanUptoCard

/-- THE SECOND FORM's CARD OF 'mootbelllaw12.WindowTurns'. -/
def windowTurnsUptoCard : Claim7 := { stood := { row := windowTurnsUptoRow, standIns := [], harness := (true, "fee4489961040c3a721d8ad8d2c587ad0f9dbfe194f8e6dc91d271610ece46b8"), looks := false }, kinds := [], alts := [], laidByText := true, laidKinds := [.data], laidTests := true, laidLooks := .later }
def WindowTurnsUptoCardSaid : Prop := Claim7.holds Tryd.pinned (.plain (OpenSpec.upto windowTurnsSpec)) windowTurnsUptoCard

/-- THE SECOND FORM's CARD OF 'mootbelllaw12.WindowLater'. -/
def windowLaterUptoCard : Claim7 := { stood := { row := windowLaterUptoRow, standIns := [], harness := (true, "fee4489961040c3a721d8ad8d2c587ad0f9dbfe194f8e6dc91d271610ece46b8"), looks := false }, kinds := [], alts := [], laidByText := true, laidKinds := [.data], laidTests := true, laidLooks := .later }
def WindowLaterUptoCardSaid : Prop := Claim7.holds Tryd.pinned (.plain (OpenSpec.upto windowLaterSpec)) windowLaterUptoCard

/-- THE SECOND FORM's CARD OF 'mootbelllaw12.WindowEdges'. -/
def windowEdgesUptoCard : Claim7 := { stood := { row := windowEdgesUptoRow, standIns := [], harness := (true, "fee4489961040c3a721d8ad8d2c587ad0f9dbfe194f8e6dc91d271610ece46b8"), looks := false }, kinds := [], alts := [], laidByText := true, laidKinds := [.data], laidTests := true, laidLooks := .later }
def WindowEdgesUptoCardSaid : Prop := Claim7.holds Tryd.pinned (.plain (OpenSpec.upto windowEdgesSpec)) windowEdgesUptoCard
end Rows
end Go.Proofs.YtjcpeimlebpglaaDoor
