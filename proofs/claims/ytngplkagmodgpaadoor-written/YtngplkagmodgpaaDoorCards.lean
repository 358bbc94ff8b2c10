/-
  DERIVED. GIVEN WITH THE SEED: THE CARDS: each row of YtngplkagmodgpaaDoorRows.lean that lists a variable, with what it lists TIED to the program's text (the seventh form; the later family's looks); each row that meets fmt, with fmt's text TOLD by the authors' own Lean function (tested against real Go, not proved from fmt's source: count such statements apart). THE CARD IS WHAT COUNTS. Prove the row's statement (the work); the ties are given (YtngplkagmodgpaaDoorTie.lean); close each card by the builder's one call (the guide's Derived/Test/ToyasCard.lean, 'card_holds'). Laid BY PROGRAM, IN A SANDBOX (cutbox-door.mjs). By AI agents, Wed Nov 11 2026. No macro, syntax, notation, axiom, sorry.
-/
import Derived.Test.YtngplkagmodgpaaDoorRows
import GoSem.ClaimSeven
namespace Go.Proofs.YtngplkagmodgpaaDoor
namespace Rows

/-- THE TIED CARD OF 'strongboxkeep.Written'. -/
def writtenCard : Claim7 := { stood := { row := writtenRow, standIns := [], harness := (true, "f5214f40135e148e2a9e40d45f0cb584d1c877a9b0dfc98fd7fb66b8c194f557"), looks := false }, kinds := [], alts := [], laidByText := true, laidKinds := [.data, .data], laidTests := true, laidLooks := .later }
def WrittenCardSaid : Prop := Claim7.holds Tryd.pinned (.plain (OpenSpec.ofChange writtenSpec)) writtenCard

/-- THE TIED CARD OF 'strongboxkeep.Fails'. -/
def failsCard : Claim7 := { stood := { row := failsRow, standIns := [], harness := (true, "f5214f40135e148e2a9e40d45f0cb584d1c877a9b0dfc98fd7fb66b8c194f557"), looks := false }, kinds := [], alts := [], laidByText := true, laidKinds := [.data, .data], laidTests := true, laidLooks := .later }
def FailsCardSaid : Prop := Claim7.holds Tryd.pinned (.plain (OpenSpec.ofChange failsSpec)) failsCard

/-- THE SECOND FORM's CARD OF 'strongboxkeep.Written'. -/
def writtenUptoCard : Claim7 := { stood := { row := writtenUptoRow, standIns := [], harness := (true, "f5214f40135e148e2a9e40d45f0cb584d1c877a9b0dfc98fd7fb66b8c194f557"), looks := false }, kinds := [], alts := [], laidByText := true, laidKinds := [.data, .data], laidTests := true, laidLooks := .later }
def WrittenUptoCardSaid : Prop := Claim7.holds Tryd.pinned (.plain (OpenSpec.upto writtenSpec)) writtenUptoCard

/-- THE SECOND FORM's CARD OF 'strongboxkeep.Fails'. -/
def failsUptoCard : Claim7 := { stood := { row := failsUptoRow, standIns := [], harness := (true, "f5214f40135e148e2a9e40d45f0cb584d1c877a9b0dfc98fd7fb66b8c194f557"), looks := false }, kinds := [], alts := [], laidByText := true, laidKinds := [.data, .data], laidTests := true, laidLooks := .later }
def FailsUptoCardSaid : Prop := Claim7.holds Tryd.pinned (.plain (OpenSpec.upto failsSpec)) failsUptoCard
end Rows
end Go.Proofs.YtngplkagmodgpaaDoor
