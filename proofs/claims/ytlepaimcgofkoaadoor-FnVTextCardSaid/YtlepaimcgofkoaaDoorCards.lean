/-
  DERIVED. GIVEN WITH THE SEED: THE CARDS: each row of YtlepaimcgofkoaaDoorRows.lean that lists a variable, with what it lists TIED to the program's text (the seventh form; the later family's looks); each row that meets fmt, with fmt's text TOLD by the authors' own Lean function (tested against real Go, not proved from fmt's source: count such statements apart). THE CARD IS WHAT COUNTS. Prove the row's statement (the work); the ties are given (YtlepaimcgofkoaaDoorTie.lean); close each card by the builder's one call (the guide's Derived/Test/ToyasCard.lean, 'card_holds'). Laid BY PROGRAM, IN A SANDBOX (cutbox-door.mjs). By AI agents, Wed Nov 11 2026. No macro, syntax, notation, axiom, sorry.
-/
import Derived.Test.YtlepaimcgofkoaaDoorRows
import GoSem.ClaimSeven
namespace Go.Proofs.YtlepaimcgofkoaaDoor
namespace Rows

/-- THE TIED CARD OF 'laws.FnFirst'. -/
def fnFirstCard : Claim7 := { stood := { row := fnFirstRow, standIns := [], harness := (true, "56e80d53d5b95f12f86bf52d8af2758a16a1b994c7d7ba4aed1aa9100ab4b283"), looks := true }, kinds := [], alts := [], laidByText := true, laidKinds := [.handle], laidTests := true, laidLooks := .later }
def FnFirstCardSaid : Prop := Claim7.holds Tryd.pinned (.plain (OpenSpec.ofChange fnFirstSpec)) fnFirstCard

/-- THE TIED CARD OF 'laws.FnVText'. -/
def fnVTextCard : Claim7 := { stood := { row := fnVTextRow, standIns := [], harness := (true, "56e80d53d5b95f12f86bf52d8af2758a16a1b994c7d7ba4aed1aa9100ab4b283"), looks := true }, kinds := [], alts := [], laidByText := true, laidKinds := [.data, .data, .data, .data], laidTests := true, laidLooks := .later }
def FnVTextCardSaid : Prop := Claim7.holds Tryd.pinned (.plain (OpenSpec.ofChange fnVTextSpec)) fnVTextCard

/-- THE TIED CARD OF 'laws.FnExactFirstViolation'. -/
def fnExactFirstViolationCard : Claim7 := { stood := { row := fnExactFirstViolationRow, standIns := [], harness := (true, "56e80d53d5b95f12f86bf52d8af2758a16a1b994c7d7ba4aed1aa9100ab4b283"), looks := true }, kinds := [], alts := [], laidByText := true, laidKinds := [.handle], laidTests := true, laidLooks := .later }
def FnExactFirstViolationCardSaid : Prop := Claim7.holds Tryd.pinned (.plain (OpenSpec.ofChange fnExactFirstViolationSpec)) fnExactFirstViolationCard

/-- THE TIED CARD OF 'laws.FnExactViolationText'. -/
def fnExactViolationTextCard : Claim7 := { stood := { row := fnExactViolationTextRow, standIns := [], harness := (true, "56e80d53d5b95f12f86bf52d8af2758a16a1b994c7d7ba4aed1aa9100ab4b283"), looks := true }, kinds := [], alts := [], laidByText := true, laidKinds := [.data, .data, .data, .data], laidTests := true, laidLooks := .later }
def FnExactViolationTextCardSaid : Prop := Claim7.holds Tryd.pinned (.plain (OpenSpec.ofChange fnExactViolationTextSpec)) fnExactViolationTextCard

/-- THE SECOND FORM's CARD OF 'laws.FnFirst'. -/
def fnFirstUptoCard : Claim7 := { stood := { row := fnFirstUptoRow, standIns := [], harness := (true, "56e80d53d5b95f12f86bf52d8af2758a16a1b994c7d7ba4aed1aa9100ab4b283"), looks := true }, kinds := [], alts := [], laidByText := true, laidKinds := [.handle], laidTests := true, laidLooks := .later }
def FnFirstUptoCardSaid : Prop := Claim7.holds Tryd.pinned (.plain (OpenSpec.upto fnFirstSpec)) fnFirstUptoCard

/-- THE SECOND FORM's CARD OF 'laws.FnVText'. -/
def fnVTextUptoCard : Claim7 := { stood := { row := fnVTextUptoRow, standIns := [], harness := (true, "56e80d53d5b95f12f86bf52d8af2758a16a1b994c7d7ba4aed1aa9100ab4b283"), looks := true }, kinds := [], alts := [], laidByText := true, laidKinds := [.data, .data, .data, .data], laidTests := true, laidLooks := .later }
def FnVTextUptoCardSaid : Prop := Claim7.holds Tryd.pinned (.plain (OpenSpec.upto fnVTextSpec)) fnVTextUptoCard

/-- THE SECOND FORM's CARD OF 'laws.FnExactFirstViolation'. -/
def fnExactFirstViolationUptoCard : Claim7 := { stood := { row := fnExactFirstViolationUptoRow, standIns := [], harness := (true, "56e80d53d5b95f12f86bf52d8af2758a16a1b994c7d7ba4aed1aa9100ab4b283"), looks := true }, kinds := [], alts := [], laidByText := true, laidKinds := [.handle], laidTests := true, laidLooks := .later }
def FnExactFirstViolationUptoCardSaid : Prop := Claim7.holds Tryd.pinned (.plain (OpenSpec.upto fnExactFirstViolationSpec)) fnExactFirstViolationUptoCard

/-- THE SECOND FORM's CARD OF 'laws.FnExactViolationText'. -/
def fnExactViolationTextUptoCard : Claim7 := { stood := { row := fnExactViolationTextUptoRow, standIns := [], harness := (true, "56e80d53d5b95f12f86bf52d8af2758a16a1b994c7d7ba4aed1aa9100ab4b283"), looks := true }, kinds := [], alts := [], laidByText := true, laidKinds := [.data, .data, .data, .data], laidTests := true, laidLooks := .later }
def FnExactViolationTextUptoCardSaid : Prop := Claim7.holds Tryd.pinned (.plain (OpenSpec.upto fnExactViolationTextSpec)) fnExactViolationTextUptoCard
end Rows
end Go.Proofs.YtlepaimcgofkoaaDoor
