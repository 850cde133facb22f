/-
  DERIVED. GIVEN WITH THE SEED: THE CARDS: each row of YtnibfcoecfppnaaDoorRows.lean that lists a variable, with what it lists TIED to the program's text (the seventh form; the later family's looks); each row that meets fmt, with fmt's text TOLD by the authors' own Lean function (tested against real Go, not proved from fmt's source: count such statements apart). THE CARD IS WHAT COUNTS. Prove the row's statement (the work); the ties are given (YtnibfcoecfppnaaDoorTie.lean); close each card by the builder's one call (the guide's Derived/Test/ToyasCard.lean, 'card_holds'). Laid BY PROGRAM, IN A SANDBOX (cutbox-door.mjs). By AI agents, Wed Nov 11 2026. No macro, syntax, notation, axiom, sorry.
-/
import Derived.Test.YtnibfcoecfppnaaDoorRows
import GoSem.ClaimSeven
namespace Go.Proofs.YtnibfcoecfppnaaDoor
namespace Rows

/-- THE TIED CARD OF 'mootbelllaw08.ClockTells'. -/
def clockTellsCard : Claim7 := { stood := { row := clockTellsRow, standIns := [], harness := (true, "051e2c8afc06f8f905979c2401e8c2eb81a8f8955c2fb7a9820a8436345b48eb"), looks := false }, kinds := [], alts := [], laidByText := true, laidKinds := [.data], laidTests := true, laidLooks := .later }
def ClockTellsCardSaid : Prop := Claim7.holds Tryd.pinned (.plain (OpenSpec.ofChange clockTellsSpec)) clockTellsCard

/-- THE TIED CARD OF 'mootbelllaw08.ClockSlots'. -/
def clockSlotsCard : Claim7 := { stood := { row := clockSlotsRow, standIns := [], harness := (true, "051e2c8afc06f8f905979c2401e8c2eb81a8f8955c2fb7a9820a8436345b48eb"), looks := false }, kinds := [], alts := [], laidByText := true, laidKinds := [.data], laidTests := true, laidLooks := .later }
def ClockSlotsCardSaid : Prop := Claim7.holds Tryd.pinned (.plain (OpenSpec.ofChange clockSlotsSpec)) clockSlotsCard

/-- THE TIED CARD OF 'mootbelllaw08.ClockEpochs'. -/
def clockEpochsCard : Claim7 := { stood := { row := clockEpochsRow, standIns := [], harness := (true, "051e2c8afc06f8f905979c2401e8c2eb81a8f8955c2fb7a9820a8436345b48eb"), looks := false }, kinds := [], alts := [], laidByText := true, laidKinds := [.data], laidTests := true, laidLooks := .later }
def ClockEpochsCardSaid : Prop := Claim7.holds Tryd.pinned (.plain (OpenSpec.ofChange clockEpochsSpec)) clockEpochsCard

/-- THE TIED CARD OF 'mootbelllaw08.ClockForward'. -/
def clockForwardCard : Claim7 := { stood := { row := clockForwardRow, standIns := [], harness := (true, "051e2c8afc06f8f905979c2401e8c2eb81a8f8955c2fb7a9820a8436345b48eb"), looks := false }, kinds := [], alts := [], laidByText := true, laidKinds := [.data], laidTests := true, laidLooks := .later }
def ClockForwardCardSaid : Prop := Claim7.holds Tryd.pinned (.plain (OpenSpec.ofChange clockForwardSpec)) clockForwardCard

/-- THE TIED CARD OF 'mootbelllaw08.ClockRises'. -/
def clockRisesCard : Claim7 := { stood := { row := clockRisesRow, standIns := [], harness := (true, "051e2c8afc06f8f905979c2401e8c2eb81a8f8955c2fb7a9820a8436345b48eb"), looks := false }, kinds := [], alts := [], laidByText := true, laidKinds := [.data], laidTests := true, laidLooks := .later }
def ClockRisesCardSaid : Prop := Claim7.holds Tryd.pinned (.plain (OpenSpec.ofChange clockRisesSpec)) clockRisesCard

/-- THE SECOND FORM's CARD OF 'mootbelllaw08.ClockTells'. -/
def clockTellsUptoCard : Claim7 := { stood := { row := clockTellsUptoRow, standIns := [], harness := (true, "051e2c8afc06f8f905979c2401e8c2eb81a8f8955c2fb7a9820a8436345b48eb"), looks := false }, kinds := [], alts := [], laidByText := true, laidKinds := [.data], laidTests := true, laidLooks := .later }
def ClockTellsUptoCardSaid : Prop := Claim7.holds Tryd.pinned (.plain (OpenSpec.upto clockTellsSpec)) clockTellsUptoCard

/-- THE SECOND FORM's CARD OF 'mootbelllaw08.ClockSlots'. -/
def clockSlotsUptoCard : Claim7 := { stood := { row := clockSlotsUptoRow, standIns := [], harness := (true, "051e2c8afc06f8f905979c2401e8c2eb81a8f8955c2fb7a9820a8436345b48eb"), looks := false }, kinds := [], alts := [], laidByText := true, laidKinds := [.data], laidTests := true, laidLooks := .later }
def ClockSlotsUptoCardSaid : Prop := Claim7.holds Tryd.pinned (.plain (OpenSpec.upto clockSlotsSpec)) clockSlotsUptoCard

/-- THE SECOND FORM's CARD OF 'mootbelllaw08.ClockEpochs'. -/
def clockEpochsUptoCard : Claim7 := { stood := { row := clockEpochsUptoRow, standIns := [], harness := (true, "051e2c8afc06f8f905979c2401e8c2eb81a8f8955c2fb7a9820a8436345b48eb"), looks := false }, kinds := [], alts := [], laidByText := true, laidKinds := [.data], laidTests := true, laidLooks := .later }
def ClockEpochsUptoCardSaid : Prop := Claim7.holds Tryd.pinned (.plain (OpenSpec.upto clockEpochsSpec)) clockEpochsUptoCard

/-- THE SECOND FORM's CARD OF 'mootbelllaw08.ClockForward'. -/
def clockForwardUptoCard : Claim7 := { stood := { row := clockForwardUptoRow, standIns := [], harness := (true, "051e2c8afc06f8f905979c2401e8c2eb81a8f8955c2fb7a9820a8436345b48eb"), looks := false }, kinds := [], alts := [], laidByText := true, laidKinds := [.data], laidTests := true, laidLooks := .later }
def ClockForwardUptoCardSaid : Prop := Claim7.holds Tryd.pinned (.plain (OpenSpec.upto clockForwardSpec)) clockForwardUptoCard

/-- THE SECOND FORM's CARD OF 'mootbelllaw08.ClockRises'. -/
def clockRisesUptoCard : Claim7 := { stood := { row := clockRisesUptoRow, standIns := [], harness := (true, "051e2c8afc06f8f905979c2401e8c2eb81a8f8955c2fb7a9820a8436345b48eb"), looks := false }, kinds := [], alts := [], laidByText := true, laidKinds := [.data], laidTests := true, laidLooks := .later }
def ClockRisesUptoCardSaid : Prop := Claim7.holds Tryd.pinned (.plain (OpenSpec.upto clockRisesSpec)) clockRisesUptoCard
end Rows
end Go.Proofs.YtnibfcoecfppnaaDoor
