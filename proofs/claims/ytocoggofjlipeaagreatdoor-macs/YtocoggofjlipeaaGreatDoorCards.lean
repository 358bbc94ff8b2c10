/-
  DERIVED. GIVEN WITH THE SEED: THE CARDS: each row of YtocoggofjlipeaaGreatDoorRows.lean that lists a variable, with what it lists TIED to the program's text (the seventh form; the later family's looks); each row that meets fmt, with fmt's text TOLD by the authors' own Lean function (tested against real Go, not proved from fmt's source: count such statements apart). THE CARD IS WHAT COUNTS. Prove the row's statement (the work); the ties are given (YtocoggofjlipeaaGreatDoorTie.lean); close each card by the builder's one call (the guide's Derived/Test/ToyasCard.lean, 'card_holds'). Laid BY PROGRAM, IN A SANDBOX (cutbox-door.mjs). By AI agents, Wed Nov 11 2026. No macro, syntax, notation, axiom, sorry.
-/
import Derived.Test.YtocoggofjlipeaaGreatDoorRows
import GoSem.ClaimSeven
namespace Go.Proofs.YtocoggofjlipeaaGreatDoor
namespace Rows

/-- THE TIED CARD OF 'strongboxlaw.Hashes'. -/
def hashesCard : Claim7 := { stood := { row := hashesRow, standIns := [], harness := (true, "537605ca745db696e2165834268f77d1e2b187f45c61ca7eaea3acdd90c616e6"), looks := false }, kinds := [], alts := [], laidByText := true, laidKinds := [.data, .data], laidTests := true, laidLooks := .later }
def HashesCardSaid : Prop := Claim7.holds Tryz.pinned (.plain (OpenSpec.ofChange hashesSpec)) hashesCard

/-- THE TIED CARD OF 'strongboxlaw.Macs'. -/
def macsCard : Claim7 := { stood := { row := macsRow, standIns := [], harness := (true, "537605ca745db696e2165834268f77d1e2b187f45c61ca7eaea3acdd90c616e6"), looks := false }, kinds := [], alts := [], laidByText := true, laidKinds := [.data, .data], laidTests := true, laidLooks := .later }
def MacsCardSaid : Prop := Claim7.holds Tryz.pinned (.plain (OpenSpec.ofChange macsSpec)) macsCard

/-- THE SECOND FORM's CARD OF 'strongboxlaw.Hashes'. -/
def hashesUptoCard : Claim7 := { stood := { row := hashesUptoRow, standIns := [], harness := (true, "537605ca745db696e2165834268f77d1e2b187f45c61ca7eaea3acdd90c616e6"), looks := false }, kinds := [], alts := [], laidByText := true, laidKinds := [.data, .data], laidTests := true, laidLooks := .later }
def HashesUptoCardSaid : Prop := Claim7.holds Tryz.pinned (.plain (OpenSpec.upto hashesSpec)) hashesUptoCard

/-- THE SECOND FORM's CARD OF 'strongboxlaw.Macs'. -/
def macsUptoCard : Claim7 := { stood := { row := macsUptoRow, standIns := [], harness := (true, "537605ca745db696e2165834268f77d1e2b187f45c61ca7eaea3acdd90c616e6"), looks := false }, kinds := [], alts := [], laidByText := true, laidKinds := [.data, .data], laidTests := true, laidLooks := .later }
def MacsUptoCardSaid : Prop := Claim7.holds Tryz.pinned (.plain (OpenSpec.upto macsSpec)) macsUptoCard
end Rows
end Go.Proofs.YtocoggofjlipeaaGreatDoor
