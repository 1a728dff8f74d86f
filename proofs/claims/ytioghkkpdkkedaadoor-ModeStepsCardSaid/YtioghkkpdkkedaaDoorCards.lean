/-
  DERIVED. GIVEN WITH THE SEED: THE CARDS: each row of YtioghkkpdkkedaaDoorRows.lean that lists a variable, with what it lists TIED to the program's text (the seventh form; the later family's looks); each row that meets fmt, with fmt's text TOLD by the authors' own Lean function (tested against real Go, not proved from fmt's source: count such statements apart). THE CARD IS WHAT COUNTS. Prove the row's statement (the work); the ties are given (YtioghkkpdkkedaaDoorTie.lean); close each card by the builder's one call (the guide's Derived/Test/ToyasCard.lean, 'card_holds'). Laid BY PROGRAM, IN A SANDBOX (cutbox-door.mjs). By AI agents, Wed Nov 11 2026. No macro, syntax, notation, axiom, sorry.
-/
import Derived.Test.YtioghkkpdkkedaaDoorRows
import GoSem.ClaimSeven
namespace Go.Proofs.YtioghkkpdkkedaaDoor
namespace Rows

/-- THE TIED CARD OF 'bullionlaw12.ModeSteps'. -/
def modeStepsCard : Claim7 := { stood := { row := modeStepsRow, standIns := [], harness := (true, "9e4599d9c7cbdb3f6e7a279424ccee96b7eedfb617ed9bcd02a624b52b216b91"), looks := false }, kinds := [], alts := [], laidByText := true, laidKinds := [.data], laidTests := true, laidLooks := .later }
def ModeStepsCardSaid : Prop := Claim7.holds Tryd.pinned (.plain (OpenSpec.ofChange modeStepsSpec)) modeStepsCard

/-- THE SECOND FORM's CARD OF 'bullionlaw12.ModeSteps'. -/
def modeStepsUptoCard : Claim7 := { stood := { row := modeStepsUptoRow, standIns := [], harness := (true, "9e4599d9c7cbdb3f6e7a279424ccee96b7eedfb617ed9bcd02a624b52b216b91"), looks := false }, kinds := [], alts := [], laidByText := true, laidKinds := [.data], laidTests := true, laidLooks := .later }
def ModeStepsUptoCardSaid : Prop := Claim7.holds Tryd.pinned (.plain (OpenSpec.upto modeStepsSpec)) modeStepsUptoCard
end Rows
end Go.Proofs.YtioghkkpdkkedaaDoor
