/-
  DERIVED. GIVEN WITH THE SEED: THE CARDS: each row of YtfidnpchkfpoeabDoorRows.lean that lists a variable, with what it lists TIED to the program's text (the seventh form; the later family's looks); each row that meets fmt, with fmt's text TOLD by the authors' own Lean function (tested against real Go, not proved from fmt's source: count such statements apart). THE CARD IS WHAT COUNTS. Prove the row's statement (the work); the ties are given (YtfidnpchkfpoeabDoorTie.lean); close each card by the builder's one call (the guide's Derived/Test/ToyasCard.lean, 'card_holds'). Laid BY PROGRAM, IN A SANDBOX (cutbox-door.mjs). By AI agents, Wed Nov 11 2026. No macro, syntax, notation, axiom, sorry.
-/
import Derived.Test.YtfidnpchkfpoeabDoorRows
import GoSem.ClaimSeven
namespace Go.Proofs.YtfidnpchkfpoeabDoor
namespace Rows

/-- THE TIED CARD OF 'strongboxkeep.Seals'. -/
def sealsCard : Claim7 := { stood := { row := sealsRow, standIns := [], harness := (true, "f1e8f221bf00507fe6594f1adb773f64c7a29d50f2d0785c3882fad1012078d2"), looks := false }, kinds := [], alts := [], laidByText := true, laidKinds := [.data, .data], laidTests := true, laidLooks := .later }
def SealsCardSaid : Prop := Claim7.holds Tryd.pinned (.plain (OpenSpec.ofChange sealsSpec)) sealsCard

/-- THE SECOND FORM's CARD OF 'strongboxkeep.Seals'. -/
def sealsUptoCard : Claim7 := { stood := { row := sealsUptoRow, standIns := [], harness := (true, "f1e8f221bf00507fe6594f1adb773f64c7a29d50f2d0785c3882fad1012078d2"), looks := false }, kinds := [], alts := [], laidByText := true, laidKinds := [.data, .data], laidTests := true, laidLooks := .later }
def SealsUptoCardSaid : Prop := Claim7.holds Tryd.pinned (.plain (OpenSpec.upto sealsSpec)) sealsUptoCard
end Rows
end Go.Proofs.YtfidnpchkfpoeabDoor
