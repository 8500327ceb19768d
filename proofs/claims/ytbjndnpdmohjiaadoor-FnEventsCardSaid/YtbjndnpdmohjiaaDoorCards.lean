/-
  DERIVED. GIVEN WITH THE SEED: THE CARDS: each row of YtbjndnpdmohjiaaDoorRows.lean that lists a variable, with what it lists TIED to the program's text (the seventh form; the later family's looks); each row that meets fmt, with fmt's text TOLD by the authors' own Lean function (tested against real Go, not proved from fmt's source: count such statements apart). THE CARD IS WHAT COUNTS. Prove the row's statement (the work); the ties are given (YtbjndnpdmohjiaaDoorTie.lean); close each card by the builder's one call (the guide's Derived/Test/ToyasCard.lean, 'card_holds'). Laid BY PROGRAM, IN A SANDBOX (cutbox-door.mjs). By AI agents, Wed Nov 11 2026. No macro, syntax, notation, axiom, sorry.
-/
import Derived.Test.YtbjndnpdmohjiaaDoorRows
import GoSem.ClaimSeven
namespace Go.Proofs.YtbjndnpdmohjiaaDoor
namespace Rows

/-- THE TIED CARD OF 'laws.FnEvents'. -/
def fnEventsCard : Claim7 := { stood := { row := fnEventsRow, standIns := [], harness := (true, "87e5eb246f163286f542a590449cc487ef81984d054d0c370fb8d30ba7020f25"), looks := true }, kinds := [], alts := [], laidByText := true, laidKinds := [.data], laidTests := true, laidLooks := .later }
def FnEventsCardSaid : Prop := Claim7.holds Tryd.pinned (.plain (OpenSpec.ofChange fnEventsSpec)) fnEventsCard

/-- THE TIED CARD OF 'laws.FnWords'. -/
def fnWordsCard : Claim7 := { stood := { row := fnWordsRow, standIns := [], harness := (true, "87e5eb246f163286f542a590449cc487ef81984d054d0c370fb8d30ba7020f25"), looks := true }, kinds := [], alts := [], laidByText := true, laidKinds := [.data, .data], laidTests := true, laidLooks := .later }
def FnWordsCardSaid : Prop := Claim7.holds Tryd.pinned (.plain (OpenSpec.ofChange fnWordsSpec)) fnWordsCard

/-- THE TIED CARD OF 'laws.FnExactEventWord'. -/
def fnExactEventWordCard : Claim7 := { stood := { row := fnExactEventWordRow, standIns := [], harness := (true, "87e5eb246f163286f542a590449cc487ef81984d054d0c370fb8d30ba7020f25"), looks := true }, kinds := [], alts := [], laidByText := true, laidKinds := [.data], laidTests := true, laidLooks := .later }
def FnExactEventWordCardSaid : Prop := Claim7.holds Tryd.pinned (.plain (OpenSpec.ofChange fnExactEventWordSpec)) fnExactEventWordCard

/-- THE TIED CARD OF 'laws.FnExactErrorWord'. -/
def fnExactErrorWordCard : Claim7 := { stood := { row := fnExactErrorWordRow, standIns := [], harness := (true, "87e5eb246f163286f542a590449cc487ef81984d054d0c370fb8d30ba7020f25"), looks := true }, kinds := [], alts := [], laidByText := true, laidKinds := [.data], laidTests := true, laidLooks := .later }
def FnExactErrorWordCardSaid : Prop := Claim7.holds Tryd.pinned (.plain (OpenSpec.ofChange fnExactErrorWordSpec)) fnExactErrorWordCard

/-- THE SECOND FORM's CARD OF 'laws.FnEvents'. -/
def fnEventsUptoCard : Claim7 := { stood := { row := fnEventsUptoRow, standIns := [], harness := (true, "87e5eb246f163286f542a590449cc487ef81984d054d0c370fb8d30ba7020f25"), looks := true }, kinds := [], alts := [], laidByText := true, laidKinds := [.data], laidTests := true, laidLooks := .later }
def FnEventsUptoCardSaid : Prop := Claim7.holds Tryd.pinned (.plain (OpenSpec.upto fnEventsSpec)) fnEventsUptoCard

/-- THE SECOND FORM's CARD OF 'laws.FnWords'. -/
def fnWordsUptoCard : Claim7 := { stood := { row := fnWordsUptoRow, standIns := [], harness := (true, "87e5eb246f163286f542a590449cc487ef81984d054d0c370fb8d30ba7020f25"), looks := true }, kinds := [], alts := [], laidByText := true, laidKinds := [.data, .data], laidTests := true, laidLooks := .later }
def FnWordsUptoCardSaid : Prop := Claim7.holds Tryd.pinned (.plain (OpenSpec.upto fnWordsSpec)) fnWordsUptoCard

/-- THE SECOND FORM's CARD OF 'laws.FnExactEventWord'. -/
def fnExactEventWordUptoCard : Claim7 := { stood := { row := fnExactEventWordUptoRow, standIns := [], harness := (true, "87e5eb246f163286f542a590449cc487ef81984d054d0c370fb8d30ba7020f25"), looks := true }, kinds := [], alts := [], laidByText := true, laidKinds := [.data], laidTests := true, laidLooks := .later }
def FnExactEventWordUptoCardSaid : Prop := Claim7.holds Tryd.pinned (.plain (OpenSpec.upto fnExactEventWordSpec)) fnExactEventWordUptoCard

/-- THE SECOND FORM's CARD OF 'laws.FnExactErrorWord'. -/
def fnExactErrorWordUptoCard : Claim7 := { stood := { row := fnExactErrorWordUptoRow, standIns := [], harness := (true, "87e5eb246f163286f542a590449cc487ef81984d054d0c370fb8d30ba7020f25"), looks := true }, kinds := [], alts := [], laidByText := true, laidKinds := [.data], laidTests := true, laidLooks := .later }
def FnExactErrorWordUptoCardSaid : Prop := Claim7.holds Tryd.pinned (.plain (OpenSpec.upto fnExactErrorWordSpec)) fnExactErrorWordUptoCard
end Rows
end Go.Proofs.YtbjndnpdmohjiaaDoor
