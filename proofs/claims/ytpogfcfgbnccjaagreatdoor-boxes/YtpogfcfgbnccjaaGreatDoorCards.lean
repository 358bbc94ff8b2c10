/-
  DERIVED. GIVEN WITH THE SEED: THE CARDS: each row of YtpogfcfgbnccjaaGreatDoorRows.lean that lists a variable, with what it lists TIED to the program's text (the seventh form; the later family's looks); each row that meets fmt, with fmt's text TOLD by the authors' own Lean function (tested against real Go, not proved from fmt's source: count such statements apart). THE CARD IS WHAT COUNTS. Prove the row's statement (the work); the ties are given (YtpogfcfgbnccjaaGreatDoorTie.lean); close each card by the builder's one call (the guide's Derived/Test/ToyasCard.lean, 'card_holds'). Laid BY PROGRAM, IN A SANDBOX (cutbox-door.mjs). By AI agents, Wed Nov 11 2026. No macro, syntax, notation, axiom, sorry.
-/
import Derived.Test.YtpogfcfgbnccjaaGreatDoorRows
import GoSem.ClaimSeven
namespace Go.Proofs.YtpogfcfgbnccjaaGreatDoor
namespace Rows

/-- THE TIED CARD OF 'strongboxlaw.Hashes'. -/
def hashesCard : Claim7 := { stood := { row := hashesRow, standIns := [], harness := (true, "07b3dc858e77d3029fde4c792484c60fbe4b4977d9bdb73d19a591205f40bec3"), looks := false }, kinds := [], alts := [], laidByText := true, laidKinds := [.data, .data], laidTests := true, laidLooks := .later }
def HashesCardSaid : Prop := Claim7.holds Tryz.pinned (.plain (OpenSpec.ofChange hashesSpec)) hashesCard

/-- THE TIED CARD OF 'strongboxlaw.Macs'. -/
def macsCard : Claim7 := { stood := { row := macsRow, standIns := [], harness := (true, "07b3dc858e77d3029fde4c792484c60fbe4b4977d9bdb73d19a591205f40bec3"), looks := false }, kinds := [], alts := [], laidByText := true, laidKinds := [.data, .data], laidTests := true, laidLooks := .later }
def MacsCardSaid : Prop := Claim7.holds Tryz.pinned (.plain (OpenSpec.ofChange macsSpec)) macsCard

/-- THE TIED CARD OF 'strongboxlaw.Ciphers'. -/
def ciphersCard : Claim7 := { stood := { row := ciphersRow, standIns := [], harness := (true, "07b3dc858e77d3029fde4c792484c60fbe4b4977d9bdb73d19a591205f40bec3"), looks := false }, kinds := [], alts := [], laidByText := true, laidKinds := [.data, .data], laidTests := true, laidLooks := .later }
def CiphersCardSaid : Prop := Claim7.holds Tryz.pinned (.plain (OpenSpec.ofChange ciphersSpec)) ciphersCard

/-- THE TIED CARD OF 'strongboxlaw.Tags'. -/
def tagsCard : Claim7 := { stood := { row := tagsRow, standIns := [], harness := (true, "07b3dc858e77d3029fde4c792484c60fbe4b4977d9bdb73d19a591205f40bec3"), looks := false }, kinds := [], alts := [], laidByText := true, laidKinds := [.data, .data], laidTests := true, laidLooks := .later }
def TagsCardSaid : Prop := Claim7.holds Tryz.pinned (.plain (OpenSpec.ofChange tagsSpec)) tagsCard

/-- THE TIED CARD OF 'strongboxlaw.Boxes'. -/
def boxesCard : Claim7 := { stood := { row := boxesRow, standIns := [], harness := (true, "07b3dc858e77d3029fde4c792484c60fbe4b4977d9bdb73d19a591205f40bec3"), looks := false }, kinds := [], alts := [], laidByText := true, laidKinds := [.data, .data], laidTests := true, laidLooks := .later }
def BoxesCardSaid : Prop := Claim7.holds Tryz.pinned (.plain (OpenSpec.ofChange boxesSpec)) boxesCard

/-- THE TIED CARD OF 'strongboxlaw.Heads'. -/
def headsCard : Claim7 := { stood := { row := headsRow, standIns := [], harness := (true, "07b3dc858e77d3029fde4c792484c60fbe4b4977d9bdb73d19a591205f40bec3"), looks := false }, kinds := [], alts := [], laidByText := true, laidKinds := [.data, .data], laidTests := true, laidLooks := .later }
def HeadsCardSaid : Prop := Claim7.holds Tryz.pinned (.plain (OpenSpec.ofChange headsSpec)) headsCard

/-- THE TIED CARD OF 'strongboxlaw.Writes'. -/
def writesCard : Claim7 := { stood := { row := writesRow, standIns := [], harness := (true, "07b3dc858e77d3029fde4c792484c60fbe4b4977d9bdb73d19a591205f40bec3"), looks := false }, kinds := [], alts := [], laidByText := true, laidKinds := [.data, .data], laidTests := true, laidLooks := .later }
def WritesCardSaid : Prop := Claim7.holds Tryz.pinned (.plain (OpenSpec.ofChange writesSpec)) writesCard

/-- THE TIED CARD OF 'strongboxlaw.Reads'. -/
def readsCard : Claim7 := { stood := { row := readsRow, standIns := [], harness := (true, "07b3dc858e77d3029fde4c792484c60fbe4b4977d9bdb73d19a591205f40bec3"), looks := false }, kinds := [], alts := [], laidByText := true, laidKinds := [.data, .data], laidTests := true, laidLooks := .later }
def ReadsCardSaid : Prop := Claim7.holds Tryz.pinned (.plain (OpenSpec.ofChange readsSpec)) readsCard

/-- THE TIED CARD OF 'strongboxlaw.Places'. -/
def placesCard : Claim7 := { stood := { row := placesRow, standIns := [], harness := (true, "07b3dc858e77d3029fde4c792484c60fbe4b4977d9bdb73d19a591205f40bec3"), looks := false }, kinds := [], alts := [], laidByText := true, laidKinds := [.data, .data], laidTests := true, laidLooks := .later }
def PlacesCardSaid : Prop := Claim7.holds Tryz.pinned (.plain (OpenSpec.ofChange placesSpec)) placesCard

/-- THE TIED CARD OF 'strongboxlaw.All'. -/
def allCard : Claim7 := { stood := { row := allRow, standIns := [], harness := (true, "07b3dc858e77d3029fde4c792484c60fbe4b4977d9bdb73d19a591205f40bec3"), looks := false }, kinds := [], alts := [], laidByText := true, laidKinds := [.data, .data], laidTests := true, laidLooks := .later }
def AllCardSaid : Prop := Claim7.holds Tryz.pinned (.plain (OpenSpec.ofChange allSpec)) allCard

/-- THE SECOND FORM's CARD OF 'strongboxlaw.Hashes'. -/
def hashesUptoCard : Claim7 := { stood := { row := hashesUptoRow, standIns := [], harness := (true, "07b3dc858e77d3029fde4c792484c60fbe4b4977d9bdb73d19a591205f40bec3"), looks := false }, kinds := [], alts := [], laidByText := true, laidKinds := [.data, .data], laidTests := true, laidLooks := .later }
def HashesUptoCardSaid : Prop := Claim7.holds Tryz.pinned (.plain (OpenSpec.upto hashesSpec)) hashesUptoCard

/-- THE SECOND FORM's CARD OF 'strongboxlaw.Macs'. -/
def macsUptoCard : Claim7 := { stood := { row := macsUptoRow, standIns := [], harness := (true, "07b3dc858e77d3029fde4c792484c60fbe4b4977d9bdb73d19a591205f40bec3"), looks := false }, kinds := [], alts := [], laidByText := true, laidKinds := [.data, .data], laidTests := true, laidLooks := .later }
def MacsUptoCardSaid : Prop := Claim7.holds Tryz.pinned (.plain (OpenSpec.upto macsSpec)) macsUptoCard

/-- THE SECOND FORM's CARD OF 'strongboxlaw.Ciphers'. -/
def ciphersUptoCard : Claim7 := { stood := { row := ciphersUptoRow, standIns := [], harness := (true, "07b3dc858e77d3029fde4c792484c60fbe4b4977d9bdb73d19a591205f40bec3"), looks := false }, kinds := [], alts := [], laidByText := true, laidKinds := [.data, .data], laidTests := true, laidLooks := .later }
def CiphersUptoCardSaid : Prop := Claim7.holds Tryz.pinned (.plain (OpenSpec.upto ciphersSpec)) ciphersUptoCard

/-- THE SECOND FORM's CARD OF 'strongboxlaw.Tags'. -/
def tagsUptoCard : Claim7 := { stood := { row := tagsUptoRow, standIns := [], harness := (true, "07b3dc858e77d3029fde4c792484c60fbe4b4977d9bdb73d19a591205f40bec3"), looks := false }, kinds := [], alts := [], laidByText := true, laidKinds := [.data, .data], laidTests := true, laidLooks := .later }
def TagsUptoCardSaid : Prop := Claim7.holds Tryz.pinned (.plain (OpenSpec.upto tagsSpec)) tagsUptoCard

/-- THE SECOND FORM's CARD OF 'strongboxlaw.Boxes'. -/
def boxesUptoCard : Claim7 := { stood := { row := boxesUptoRow, standIns := [], harness := (true, "07b3dc858e77d3029fde4c792484c60fbe4b4977d9bdb73d19a591205f40bec3"), looks := false }, kinds := [], alts := [], laidByText := true, laidKinds := [.data, .data], laidTests := true, laidLooks := .later }
def BoxesUptoCardSaid : Prop := Claim7.holds Tryz.pinned (.plain (OpenSpec.upto boxesSpec)) boxesUptoCard

/-- THE SECOND FORM's CARD OF 'strongboxlaw.Heads'. -/
def headsUptoCard : Claim7 := { stood := { row := headsUptoRow, standIns := [], harness := (true, "07b3dc858e77d3029fde4c792484c60fbe4b4977d9bdb73d19a591205f40bec3"), looks := false }, kinds := [], alts := [], laidByText := true, laidKinds := [.data, .data], laidTests := true, laidLooks := .later }
def HeadsUptoCardSaid : Prop := Claim7.holds Tryz.pinned (.plain (OpenSpec.upto headsSpec)) headsUptoCard

/-- THE SECOND FORM's CARD OF 'strongboxlaw.Writes'. -/
def writesUptoCard : Claim7 := { stood := { row := writesUptoRow, standIns := [], harness := (true, "07b3dc858e77d3029fde4c792484c60fbe4b4977d9bdb73d19a591205f40bec3"), looks := false }, kinds := [], alts := [], laidByText := true, laidKinds := [.data, .data], laidTests := true, laidLooks := .later }
def WritesUptoCardSaid : Prop := Claim7.holds Tryz.pinned (.plain (OpenSpec.upto writesSpec)) writesUptoCard

/-- THE SECOND FORM's CARD OF 'strongboxlaw.Reads'. -/
def readsUptoCard : Claim7 := { stood := { row := readsUptoRow, standIns := [], harness := (true, "07b3dc858e77d3029fde4c792484c60fbe4b4977d9bdb73d19a591205f40bec3"), looks := false }, kinds := [], alts := [], laidByText := true, laidKinds := [.data, .data], laidTests := true, laidLooks := .later }
def ReadsUptoCardSaid : Prop := Claim7.holds Tryz.pinned (.plain (OpenSpec.upto readsSpec)) readsUptoCard

/-- THE SECOND FORM's CARD OF 'strongboxlaw.Places'. -/
def placesUptoCard : Claim7 := { stood := { row := placesUptoRow, standIns := [], harness := (true, "07b3dc858e77d3029fde4c792484c60fbe4b4977d9bdb73d19a591205f40bec3"), looks := false }, kinds := [], alts := [], laidByText := true, laidKinds := [.data, .data], laidTests := true, laidLooks := .later }
def PlacesUptoCardSaid : Prop := Claim7.holds Tryz.pinned (.plain (OpenSpec.upto placesSpec)) placesUptoCard

/-- THE SECOND FORM's CARD OF 'strongboxlaw.All'. -/
def allUptoCard : Claim7 := { stood := { row := allUptoRow, standIns := [], harness := (true, "07b3dc858e77d3029fde4c792484c60fbe4b4977d9bdb73d19a591205f40bec3"), looks := false }, kinds := [], alts := [], laidByText := true, laidKinds := [.data, .data], laidTests := true, laidLooks := .later }
def AllUptoCardSaid : Prop := Claim7.holds Tryz.pinned (.plain (OpenSpec.upto allSpec)) allUptoCard
end Rows
end Go.Proofs.YtpogfcfgbnccjaaGreatDoor
