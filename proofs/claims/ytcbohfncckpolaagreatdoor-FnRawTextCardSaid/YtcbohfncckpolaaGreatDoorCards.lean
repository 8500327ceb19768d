/-
  DERIVED. GIVEN WITH THE SEED: THE CARDS: each row of YtcbohfncckpolaaGreatDoorRows.lean that lists a variable, with what it lists TIED to the program's text (the seventh form; the later family's looks); each row that meets fmt, with fmt's text TOLD by the authors' own Lean function (tested against real Go, not proved from fmt's source: count such statements apart). THE CARD IS WHAT COUNTS. Prove the row's statement (the work); the ties are given (YtcbohfncckpolaaGreatDoorTie.lean); close each card by the builder's one call (the guide's Derived/Test/ToyasCard.lean, 'card_holds'). Laid BY PROGRAM, IN A SANDBOX (cutbox-door.mjs). By AI agents, Wed Nov 11 2026. No macro, syntax, notation, axiom, sorry.
-/
import Derived.Test.YtcbohfncckpolaaGreatDoorRows
import GoSem.ClaimSeven
namespace Go.Proofs.YtcbohfncckpolaaGreatDoor
namespace Rows

/-- THE TIED CARD OF 'laws.FnRawText'. -/
def fnRawTextCard : Claim7 := { stood := { row := fnRawTextRow, standIns := [], harness := (true, "715c017682d42a2f381052cc04b240909452018c52fc2a39f4835c6afa52deb7"), looks := true }, kinds := [], alts := [], laidByText := true, laidKinds := [.data, .data, .data, .data, .sentinel, .pinned], laidTests := true, laidLooks := .later }
def FnRawTextCardSaid : Prop := Claim7.holds Tryz.pinned (.plain (OpenSpec.ofChange fnRawTextSpec)) fnRawTextCard

/-- THE TIED CARD OF 'laws.FnExactReadRaw'. -/
def fnExactReadRawCard : Claim7 := { stood := { row := fnExactReadRawRow, standIns := [], harness := (true, "715c017682d42a2f381052cc04b240909452018c52fc2a39f4835c6afa52deb7"), looks := true }, kinds := [], alts := [], laidByText := true, laidKinds := [.data, .sentinel, .pinned], laidTests := true, laidLooks := .later }
def FnExactReadRawCardSaid : Prop := Claim7.holds Tryz.pinned (.plain (OpenSpec.ofChange fnExactReadRawSpec)) fnExactReadRawCard

/-- THE SECOND FORM's CARD OF 'laws.FnRawText'. -/
def fnRawTextUptoCard : Claim7 := { stood := { row := fnRawTextUptoRow, standIns := [], harness := (true, "715c017682d42a2f381052cc04b240909452018c52fc2a39f4835c6afa52deb7"), looks := true }, kinds := [], alts := [], laidByText := true, laidKinds := [.data, .data, .data, .data, .sentinel, .pinned], laidTests := true, laidLooks := .later }
def FnRawTextUptoCardSaid : Prop := Claim7.holds Tryz.pinned (.plain (OpenSpec.upto fnRawTextSpec)) fnRawTextUptoCard

/-- THE SECOND FORM's CARD OF 'laws.FnExactReadRaw'. -/
def fnExactReadRawUptoCard : Claim7 := { stood := { row := fnExactReadRawUptoRow, standIns := [], harness := (true, "715c017682d42a2f381052cc04b240909452018c52fc2a39f4835c6afa52deb7"), looks := true }, kinds := [], alts := [], laidByText := true, laidKinds := [.data, .sentinel, .pinned], laidTests := true, laidLooks := .later }
def FnExactReadRawUptoCardSaid : Prop := Claim7.holds Tryz.pinned (.plain (OpenSpec.upto fnExactReadRawSpec)) fnExactReadRawUptoCard
end Rows
end Go.Proofs.YtcbohfncckpolaaGreatDoor
