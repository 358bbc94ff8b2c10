/-
  DERIVED. GIVEN WITH THE SEED: THE CARDS: each row of YtoifalcpfnacnaaGreatDoorRows.lean that lists a variable, with what it lists TIED to the program's text (the seventh form; the later family's looks); each row that meets fmt, with fmt's text TOLD by the authors' own Lean function (tested against real Go, not proved from fmt's source: count such statements apart). THE CARD IS WHAT COUNTS. Prove the row's statement (the work); the ties are given (YtoifalcpfnacnaaGreatDoorTie.lean); close each card by the builder's one call (the guide's Derived/Test/ToyasCard.lean, 'card_holds'). Laid BY PROGRAM, IN A SANDBOX (cutbox-door.mjs). By AI agents, Wed Nov 11 2026. No macro, syntax, notation, axiom, sorry.
-/
import Derived.Test.YtoifalcpfnacnaaGreatDoorRows
import GoSem.ClaimSeven
namespace Go.Proofs.YtoifalcpfnacnaaGreatDoor
namespace Rows

/-- THE TIED CARD OF 'strongboxkeep.Back'. -/
def backCard : Claim7 := { stood := { row := backRow, standIns := [], harness := (true, "6f50ad0b2a1ffaef0790eb93950ae972885363be05f354495c38106ff0d3585d"), looks := false }, kinds := [], alts := [], laidByText := true, laidKinds := [.data, .data], laidTests := true, laidLooks := .later }
def BackCardSaid : Prop := Claim7.holds Tryz.pinned (.plain (OpenSpec.ofChange backSpec)) backCard

/-- THE TIED CARD OF 'strongboxkeep.Spots'. -/
def spotsCard : Claim7 := { stood := { row := spotsRow, standIns := [], harness := (true, "6f50ad0b2a1ffaef0790eb93950ae972885363be05f354495c38106ff0d3585d"), looks := false }, kinds := [], alts := [], laidByText := true, laidKinds := [.data, .data], laidTests := true, laidLooks := .later }
def SpotsCardSaid : Prop := Claim7.holds Tryz.pinned (.plain (OpenSpec.ofChange spotsSpec)) spotsCard

/-- THE TIED CARD OF 'strongboxkeep.Bends'. -/
def bendsCard : Claim7 := { stood := { row := bendsRow, standIns := [], harness := (true, "6f50ad0b2a1ffaef0790eb93950ae972885363be05f354495c38106ff0d3585d"), looks := false }, kinds := [], alts := [], laidByText := true, laidKinds := [.data, .data], laidTests := true, laidLooks := .later }
def BendsCardSaid : Prop := Claim7.holds Tryz.pinned (.plain (OpenSpec.ofChange bendsSpec)) bendsCard

/-- THE TIED CARD OF 'strongboxkeep.Bent'. -/
def bentCard : Claim7 := { stood := { row := bentRow, standIns := [], harness := (true, "6f50ad0b2a1ffaef0790eb93950ae972885363be05f354495c38106ff0d3585d"), looks := false }, kinds := [], alts := [], laidByText := true, laidKinds := [.data, .data], laidTests := true, laidLooks := .later }
def BentCardSaid : Prop := Claim7.holds Tryz.pinned (.plain (OpenSpec.ofChange bentSpec)) bentCard

/-- THE SECOND FORM's CARD OF 'strongboxkeep.Back'. -/
def backUptoCard : Claim7 := { stood := { row := backUptoRow, standIns := [], harness := (true, "6f50ad0b2a1ffaef0790eb93950ae972885363be05f354495c38106ff0d3585d"), looks := false }, kinds := [], alts := [], laidByText := true, laidKinds := [.data, .data], laidTests := true, laidLooks := .later }
def BackUptoCardSaid : Prop := Claim7.holds Tryz.pinned (.plain (OpenSpec.upto backSpec)) backUptoCard

/-- THE SECOND FORM's CARD OF 'strongboxkeep.Spots'. -/
def spotsUptoCard : Claim7 := { stood := { row := spotsUptoRow, standIns := [], harness := (true, "6f50ad0b2a1ffaef0790eb93950ae972885363be05f354495c38106ff0d3585d"), looks := false }, kinds := [], alts := [], laidByText := true, laidKinds := [.data, .data], laidTests := true, laidLooks := .later }
def SpotsUptoCardSaid : Prop := Claim7.holds Tryz.pinned (.plain (OpenSpec.upto spotsSpec)) spotsUptoCard

/-- THE SECOND FORM's CARD OF 'strongboxkeep.Bends'. -/
def bendsUptoCard : Claim7 := { stood := { row := bendsUptoRow, standIns := [], harness := (true, "6f50ad0b2a1ffaef0790eb93950ae972885363be05f354495c38106ff0d3585d"), looks := false }, kinds := [], alts := [], laidByText := true, laidKinds := [.data, .data], laidTests := true, laidLooks := .later }
def BendsUptoCardSaid : Prop := Claim7.holds Tryz.pinned (.plain (OpenSpec.upto bendsSpec)) bendsUptoCard

/-- THE SECOND FORM's CARD OF 'strongboxkeep.Bent'. -/
def bentUptoCard : Claim7 := { stood := { row := bentUptoRow, standIns := [], harness := (true, "6f50ad0b2a1ffaef0790eb93950ae972885363be05f354495c38106ff0d3585d"), looks := false }, kinds := [], alts := [], laidByText := true, laidKinds := [.data, .data], laidTests := true, laidLooks := .later }
def BentUptoCardSaid : Prop := Claim7.holds Tryz.pinned (.plain (OpenSpec.upto bentSpec)) bentUptoCard
end Rows
end Go.Proofs.YtoifalcpfnacnaaGreatDoor
