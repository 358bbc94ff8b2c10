/-
  DERIVED. GIVEN WITH THE SEED: THE CARDS: each row of YtjgaffpccjoglaaGreatDoorRows.lean that lists a variable, with what it lists TIED to the program's text (the seventh form; the later family's looks); each row that meets fmt, with fmt's text TOLD by the authors' own Lean function (tested against real Go, not proved from fmt's source: count such statements apart). THE CARD IS WHAT COUNTS. Prove the row's statement (the work); the ties are given (YtjgaffpccjoglaaGreatDoorTie.lean); close each card by the builder's one call (the guide's Derived/Test/ToyasCard.lean, 'card_holds'). Laid BY PROGRAM, IN A SANDBOX (cutbox-door.mjs). By AI agents, Wed Nov 11 2026. No macro, syntax, notation, axiom, sorry.
-/
import Derived.Test.YtjgaffpccjoglaaGreatDoorRows
import GoSem.ClaimSeven
namespace Go.Proofs.YtjgaffpccjoglaaGreatDoor
namespace Rows

/-- THE TIED CARD OF 'strongboxkeep.Back'. -/
def backCard : Claim7 := { stood := { row := backRow, standIns := [], harness := (true, "f6dc24702a8a194bea8c64d4c60c60029fd77c05c89f874d1321427dacec7750"), looks := false }, kinds := [], alts := [], laidByText := true, laidKinds := [.data, .data], laidTests := true, laidLooks := .later }
def BackCardSaid : Prop := Claim7.holds Tryz.pinned (.plain (OpenSpec.ofChange backSpec)) backCard

/-- THE TIED CARD OF 'strongboxkeep.Bends'. -/
def bendsCard : Claim7 := { stood := { row := bendsRow, standIns := [], harness := (true, "f6dc24702a8a194bea8c64d4c60c60029fd77c05c89f874d1321427dacec7750"), looks := false }, kinds := [], alts := [], laidByText := true, laidKinds := [.data, .data], laidTests := true, laidLooks := .later }
def BendsCardSaid : Prop := Claim7.holds Tryz.pinned (.plain (OpenSpec.ofChange bendsSpec)) bendsCard

/-- THE TIED CARD OF 'strongboxkeep.Bent'. -/
def bentCard : Claim7 := { stood := { row := bentRow, standIns := [], harness := (true, "f6dc24702a8a194bea8c64d4c60c60029fd77c05c89f874d1321427dacec7750"), looks := false }, kinds := [], alts := [], laidByText := true, laidKinds := [.data, .data], laidTests := true, laidLooks := .later }
def BentCardSaid : Prop := Claim7.holds Tryz.pinned (.plain (OpenSpec.ofChange bentSpec)) bentCard

/-- THE SECOND FORM's CARD OF 'strongboxkeep.Back'. -/
def backUptoCard : Claim7 := { stood := { row := backUptoRow, standIns := [], harness := (true, "f6dc24702a8a194bea8c64d4c60c60029fd77c05c89f874d1321427dacec7750"), looks := false }, kinds := [], alts := [], laidByText := true, laidKinds := [.data, .data], laidTests := true, laidLooks := .later }
def BackUptoCardSaid : Prop := Claim7.holds Tryz.pinned (.plain (OpenSpec.upto backSpec)) backUptoCard

/-- THE SECOND FORM's CARD OF 'strongboxkeep.Bends'. -/
def bendsUptoCard : Claim7 := { stood := { row := bendsUptoRow, standIns := [], harness := (true, "f6dc24702a8a194bea8c64d4c60c60029fd77c05c89f874d1321427dacec7750"), looks := false }, kinds := [], alts := [], laidByText := true, laidKinds := [.data, .data], laidTests := true, laidLooks := .later }
def BendsUptoCardSaid : Prop := Claim7.holds Tryz.pinned (.plain (OpenSpec.upto bendsSpec)) bendsUptoCard

/-- THE SECOND FORM's CARD OF 'strongboxkeep.Bent'. -/
def bentUptoCard : Claim7 := { stood := { row := bentUptoRow, standIns := [], harness := (true, "f6dc24702a8a194bea8c64d4c60c60029fd77c05c89f874d1321427dacec7750"), looks := false }, kinds := [], alts := [], laidByText := true, laidKinds := [.data, .data], laidTests := true, laidLooks := .later }
def BentUptoCardSaid : Prop := Claim7.holds Tryz.pinned (.plain (OpenSpec.upto bentSpec)) bentUptoCard
end Rows
end Go.Proofs.YtjgaffpccjoglaaGreatDoor
