/-
  DERIVED. GIVEN WITH THE SEED: THE CARDS: each row of YthjnpipincpkgaaGreatDoorRows.lean that lists a variable, with what it lists TIED to the program's text (the seventh form; the later family's looks); each row that meets fmt, with fmt's text TOLD by the authors' own Lean function (tested against real Go, not proved from fmt's source: count such statements apart). THE CARD IS WHAT COUNTS. Prove the row's statement (the work); the ties are given (YthjnpipincpkgaaGreatDoorTie.lean); close each card by the builder's one call (the guide's Derived/Test/ToyasCard.lean, 'card_holds'). Laid BY PROGRAM, IN A SANDBOX (cutbox-door.mjs). By AI agents, Wed Nov 11 2026. No macro, syntax, notation, axiom, sorry.
-/
import Derived.Test.YthjnpipincpkgaaGreatDoorRows
import GoSem.ClaimSeven
namespace Go.Proofs.YthjnpipincpkgaaGreatDoor
namespace Rows

/-- THE TIED CARD OF 'laws.FnCompiled'. -/
def fnCompiledCard : Claim7 := { stood := { row := fnCompiledRow, standIns := [], harness := (true, "41ecea99f026b3b03bf06b02f1f59199e7ef122f1eae5a12b803e9cf83798e58"), looks := true }, kinds := [], alts := [], laidByText := true, laidKinds := [.handle], laidTests := true, laidLooks := .later }
def FnCompiledCardSaid : Prop := Claim7.holds Tryz.pinned (.plain (OpenSpec.ofChange fnCompiledSpec)) fnCompiledCard

/-- THE TIED CARD OF 'laws.FnRawBack'. -/
def fnRawBackCard : Claim7 := { stood := { row := fnRawBackRow, standIns := [], harness := (true, "41ecea99f026b3b03bf06b02f1f59199e7ef122f1eae5a12b803e9cf83798e58"), looks := true }, kinds := [], alts := [], laidByText := true, laidKinds := [.handle], laidTests := true, laidLooks := .later }
def FnRawBackCardSaid : Prop := Claim7.holds Tryz.pinned (.plain (OpenSpec.ofChange fnRawBackSpec)) fnRawBackCard

/-- THE TIED CARD OF 'laws.FnExactCompile'. -/
def fnExactCompileCard : Claim7 := { stood := { row := fnExactCompileRow, standIns := [], harness := (true, "41ecea99f026b3b03bf06b02f1f59199e7ef122f1eae5a12b803e9cf83798e58"), looks := true }, kinds := [], alts := [], laidByText := true, laidKinds := [.handle], laidTests := true, laidLooks := .later }
def FnExactCompileCardSaid : Prop := Claim7.holds Tryz.pinned (.plain (OpenSpec.ofChange fnExactCompileSpec)) fnExactCompileCard

/-- THE SECOND FORM's CARD OF 'laws.FnCompiled'. -/
def fnCompiledUptoCard : Claim7 := { stood := { row := fnCompiledUptoRow, standIns := [], harness := (true, "41ecea99f026b3b03bf06b02f1f59199e7ef122f1eae5a12b803e9cf83798e58"), looks := true }, kinds := [], alts := [], laidByText := true, laidKinds := [.handle], laidTests := true, laidLooks := .later }
def FnCompiledUptoCardSaid : Prop := Claim7.holds Tryz.pinned (.plain (OpenSpec.upto fnCompiledSpec)) fnCompiledUptoCard

/-- THE SECOND FORM's CARD OF 'laws.FnRawBack'. -/
def fnRawBackUptoCard : Claim7 := { stood := { row := fnRawBackUptoRow, standIns := [], harness := (true, "41ecea99f026b3b03bf06b02f1f59199e7ef122f1eae5a12b803e9cf83798e58"), looks := true }, kinds := [], alts := [], laidByText := true, laidKinds := [.handle], laidTests := true, laidLooks := .later }
def FnRawBackUptoCardSaid : Prop := Claim7.holds Tryz.pinned (.plain (OpenSpec.upto fnRawBackSpec)) fnRawBackUptoCard

/-- THE SECOND FORM's CARD OF 'laws.FnExactCompile'. -/
def fnExactCompileUptoCard : Claim7 := { stood := { row := fnExactCompileUptoRow, standIns := [], harness := (true, "41ecea99f026b3b03bf06b02f1f59199e7ef122f1eae5a12b803e9cf83798e58"), looks := true }, kinds := [], alts := [], laidByText := true, laidKinds := [.handle], laidTests := true, laidLooks := .later }
def FnExactCompileUptoCardSaid : Prop := Claim7.holds Tryz.pinned (.plain (OpenSpec.upto fnExactCompileSpec)) fnExactCompileUptoCard
end Rows
end Go.Proofs.YthjnpipincpkgaaGreatDoor
