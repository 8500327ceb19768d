/-
  NARROWER THAN 'FOR EVERY INPUT', by the rows' own cells (each row's printed sentence says how): FnEvents: laid · FnWords: laid · FnExactEventWord: laid · FnExactErrorWord: laid.
  DERIVED. THE GIVEN ROWS OF THIS SEAT. 4 by the template 'for every input the law returns true; each argument reads behind the call as it read before'; 0 by the template 'total and deterministic' (their statements: YtbjndnpdmohjiaaDoorTotals.lean).
  GIVEN WITH THE SEED: the statements are not yours to turn. If you find one false, say at which input.
  Laid BY PROGRAM, IN A SANDBOX (cutbox-rows.mjs): the forced cells as the released guide's own fill.sh prints them over the translation 8cb986b41da20c88… (all of the seat's roots in one cut). By AI agents, Wed Nov 11 2026. No macro, syntax, notation, axiom, sorry.
-/
import Derived.Test.YtbjndnpdmohjiaaDoorChecked
import GoSem.Claim
import GoSem.ClaimJoined
import GoSem.ClaimMapViews
import Derived.JoinedTies
import Derived.KernelRfl
namespace Go.Proofs.YtbjndnpdmohjiaaDoor
/- THE CELL 'sum', in the pinned program and in every row, IS THE sha256 OF THE DUMP (.gsa) THAT YtbjndnpdmohjiaaDoorProg.lean LOADS. Nothing in Lean hashes anything: it is a label: what it is worth is what the hold of that sum in a sandbox is worth. -/
noncomputable def Tryd.pinned : Pinned := { name := "ytbjndnpdmohjiaadoor", sum := "8cb986b41da20c88fa3fcd1bd94f7988e939f175f1f362d479ea91306842b442", checked := Tryd.checked }
namespace Rows
def none {H : Type} : Left H := { results := [], args := [] }

/- WHAT THE LISTED PACKAGE-LEVEL VARIABLES READ AS WHEN THE CALL BEGINS. Each datum BY PROGRAM (the guide's laid-datum.mjs) off the statement by which the dump's own 'gosem.cut.vars' lays the variable. In a bare row this is a premise. The card (YtbjndnpdmohjiaaDoorCards.lean) ties it to the program's text. -/
def laid_loop_example_g00498_impl_eventWords {H : Type} : DataW H := .agg [.lit (.string []), .lit (.string [102, 114, 97, 109, 101]), .lit (.string [110, 117, 109]), .lit (.string [111, 112, 101, 110]), .lit (.string [112, 97, 114, 116]), .lit (.string [115, 104, 117, 116]), .lit (.string [100, 111, 119, 110]), .lit (.string [117, 112]), .lit (.string [101, 110, 100]), .lit (.string [100, 111, 110, 101]), .lit (.string [102, 97, 105, 108])]
def laid_loop_example_g00498_impl_errorWords {H : Type} : DataW H := .agg [.lit (.string []), .lit (.string [118, 97, 114, 105, 110, 116]), .lit (.string [116, 97, 103]), .lit (.string [119, 105, 114, 101]), .lit (.string [107, 105, 110, 100]), .lit (.string [117, 116, 102]), .lit (.string [100, 101, 101, 112]), .lit (.string [102, 114, 97, 109, 101]), .lit (.string [108, 101, 110, 103, 116, 104]), .lit (.string [101, 110, 100]), .lit (.string [99, 117, 116])]

/-- 'laws.FnEvents': WHATEVER THE INPUT: true; the input reads as it did. -/
def fnEventsSpec : ChangeSpec := { name := "fnEvents", vars := ["loop.example/g00498/impl.eventWords"], fn := fun _ => fun
  | [d, g1] => { results := [.lit (.bool true)], args := [d], vars := [g1] }
  | _ => none }
def fnEventsRow : OpenClaim := { program := "ytbjndnpdmohjiaadoor", sum := "8cb986b41da20c88fa3fcd1bd94f7988e939f175f1f362d479ea91306842b442", func := "loop.example/g00498/laws.FnEvents", spec := "fnEvents", unfollowed := true, recurses := true, named := ["loop.example/g00498/impl.eventWords"], apart := false, laid := [("loop.example/g00498/impl.eventWords", laid_loop_example_g00498_impl_eventWords)] }
def FnEventsSaid : Prop := fnEventsRow.holds Tryd.pinned (OpenSpec.ofChange fnEventsSpec)

/-- ITS FALSE NEIGHBOUR: 'it returns false'. Refute it at one input. -/
def fnEventsWrong : ChangeSpec := { name := "fnEvents", vars := ["loop.example/g00498/impl.eventWords"], fn := fun _ => fun
  | [d, g1] => { results := [.lit (.bool false)], args := [d], vars := [g1] }
  | _ => none }
def FnEventsWrongFalsely : Prop := fnEventsRow.holds Tryd.pinned (OpenSpec.ofChange fnEventsWrong)

/-- 'laws.FnWords': WHATEVER THE INPUT: true; the input reads as it did. -/
def fnWordsSpec : ChangeSpec := { name := "fnWords", vars := ["loop.example/g00498/impl.eventWords", "loop.example/g00498/impl.errorWords"], fn := fun _ => fun
  | [d, g1, g2] => { results := [.lit (.bool true)], args := [d], vars := [g1, g2] }
  | _ => none }
def fnWordsRow : OpenClaim := { program := "ytbjndnpdmohjiaadoor", sum := "8cb986b41da20c88fa3fcd1bd94f7988e939f175f1f362d479ea91306842b442", func := "loop.example/g00498/laws.FnWords", spec := "fnWords", named := ["loop.example/g00498/impl.eventWords", "loop.example/g00498/impl.errorWords"], apart := false, laid := [("loop.example/g00498/impl.eventWords", laid_loop_example_g00498_impl_eventWords), ("loop.example/g00498/impl.errorWords", laid_loop_example_g00498_impl_errorWords)] }
def FnWordsSaid : Prop := fnWordsRow.holds Tryd.pinned (OpenSpec.ofChange fnWordsSpec)

/-- ITS FALSE NEIGHBOUR: 'it returns false'. Refute it at one input. -/
def fnWordsWrong : ChangeSpec := { name := "fnWords", vars := ["loop.example/g00498/impl.eventWords", "loop.example/g00498/impl.errorWords"], fn := fun _ => fun
  | [d, g1, g2] => { results := [.lit (.bool false)], args := [d], vars := [g1, g2] }
  | _ => none }
def FnWordsWrongFalsely : Prop := fnWordsRow.holds Tryd.pinned (OpenSpec.ofChange fnWordsWrong)

/-- 'laws.FnExactEventWord': WHATEVER THE INPUT: true; the input reads as it did. -/
def fnExactEventWordSpec : ChangeSpec := { name := "fnExactEventWord", vars := ["loop.example/g00498/impl.eventWords"], fn := fun _ => fun
  | [d, g1] => { results := [.lit (.bool true)], args := [d], vars := [g1] }
  | _ => none }
def fnExactEventWordRow : OpenClaim := { program := "ytbjndnpdmohjiaadoor", sum := "8cb986b41da20c88fa3fcd1bd94f7988e939f175f1f362d479ea91306842b442", func := "loop.example/g00498/laws.FnExactEventWord", spec := "fnExactEventWord", named := ["loop.example/g00498/impl.eventWords"], apart := false, laid := [("loop.example/g00498/impl.eventWords", laid_loop_example_g00498_impl_eventWords)] }
def FnExactEventWordSaid : Prop := fnExactEventWordRow.holds Tryd.pinned (OpenSpec.ofChange fnExactEventWordSpec)

/-- ITS FALSE NEIGHBOUR: 'it returns false'. Refute it at one input. -/
def fnExactEventWordWrong : ChangeSpec := { name := "fnExactEventWord", vars := ["loop.example/g00498/impl.eventWords"], fn := fun _ => fun
  | [d, g1] => { results := [.lit (.bool false)], args := [d], vars := [g1] }
  | _ => none }
def FnExactEventWordWrongFalsely : Prop := fnExactEventWordRow.holds Tryd.pinned (OpenSpec.ofChange fnExactEventWordWrong)

/-- 'laws.FnExactErrorWord': WHATEVER THE INPUT: true; the input reads as it did. -/
def fnExactErrorWordSpec : ChangeSpec := { name := "fnExactErrorWord", vars := ["loop.example/g00498/impl.errorWords"], fn := fun _ => fun
  | [d, g1] => { results := [.lit (.bool true)], args := [d], vars := [g1] }
  | _ => none }
def fnExactErrorWordRow : OpenClaim := { program := "ytbjndnpdmohjiaadoor", sum := "8cb986b41da20c88fa3fcd1bd94f7988e939f175f1f362d479ea91306842b442", func := "loop.example/g00498/laws.FnExactErrorWord", spec := "fnExactErrorWord", named := ["loop.example/g00498/impl.errorWords"], apart := false, laid := [("loop.example/g00498/impl.errorWords", laid_loop_example_g00498_impl_errorWords)] }
def FnExactErrorWordSaid : Prop := fnExactErrorWordRow.holds Tryd.pinned (OpenSpec.ofChange fnExactErrorWordSpec)

/-- ITS FALSE NEIGHBOUR: 'it returns false'. Refute it at one input. -/
def fnExactErrorWordWrong : ChangeSpec := { name := "fnExactErrorWord", vars := ["loop.example/g00498/impl.errorWords"], fn := fun _ => fun
  | [d, g1] => { results := [.lit (.bool false)], args := [d], vars := [g1] }
  | _ => none }
def FnExactErrorWordWrongFalsely : Prop := fnExactErrorWordRow.holds Tryd.pinned (OpenSpec.ofChange fnExactErrorWordWrong)

/- THE SECOND FORM. 'bulk': how many values and letters a reading holds, each counted each time it is reached (what is shared counts as often as it is met; a slice's spare places count too). A statement '..UptoSaid' is the law's where the arguments, and the package variables that the reading takes, are together of bulk at most 1048576: NARROWER than '..Said'. Prove '..Said' where nothing that the law and all that it calls make is longer than what came in: it says more and counts as full. Else prove '..UptoSaid'. A law counts once. -/
mutual
def uptoBulk {H : Type} : DataW H → Nat
  | .lit (.string bytes) => bytes.length + 1
  | .lit _ => 1
  | .nil => 1
  | .ptr d => uptoBulk d + 1
  | .slice elems spare => uptoBulkAll elems + uptoBulkAll spare + 1
  | .agg parts => uptoBulkAll parts + 1
  | .iface _ d => uptoBulk d + 1
  | .map entries => uptoBulkEntries entries + 1
  | .held _ => 1
def uptoBulkAll {H : Type} : List (DataW H) → Nat
  | [] => 0
  | d :: r => uptoBulk d + uptoBulkAll r
def uptoBulkEntries {H : Type} : List (Lit × DataW H) → Nat
  | [] => 0
  | x :: r => uptoBulkEntry x + uptoBulkEntries r
def uptoBulkEntry {H : Type} : Lit × DataW H → Nat
  | (.string bytes, d) => bytes.length + uptoBulk d + 1
  | (_, d) => uptoBulk d + 1
 end
def uptoSmall : (H : Type) → List (DataW H) → Bool := fun _ ds => decide (uptoBulkAll ds ≤ 1048576)
def OpenSpec.upto (s : _root_.Go.ChangeSpec) : _root_.Go.OpenSpec := { _root_.Go.OpenSpec.ofChange s with cond := some uptoSmall }

/-- 'laws.FnEvents', WHERE WHAT IT READS IS OF BULK AT MOST 1048576: true; the input reads as it did. -/
def fnEventsUptoRow : OpenClaim := { program := "ytbjndnpdmohjiaadoor", sum := "8cb986b41da20c88fa3fcd1bd94f7988e939f175f1f362d479ea91306842b442", func := "loop.example/g00498/laws.FnEvents", spec := "fnEvents", unfollowed := true, recurses := true, named := ["loop.example/g00498/impl.eventWords"], apart := false, laid := [("loop.example/g00498/impl.eventWords", laid_loop_example_g00498_impl_eventWords)], narrowed := true }
def FnEventsUptoSaid : Prop := fnEventsUptoRow.holds Tryd.pinned (OpenSpec.upto fnEventsSpec)

/-- 'laws.FnWords', WHERE WHAT IT READS IS OF BULK AT MOST 1048576: true; the input reads as it did. -/
def fnWordsUptoRow : OpenClaim := { program := "ytbjndnpdmohjiaadoor", sum := "8cb986b41da20c88fa3fcd1bd94f7988e939f175f1f362d479ea91306842b442", func := "loop.example/g00498/laws.FnWords", spec := "fnWords", named := ["loop.example/g00498/impl.eventWords", "loop.example/g00498/impl.errorWords"], apart := false, laid := [("loop.example/g00498/impl.eventWords", laid_loop_example_g00498_impl_eventWords), ("loop.example/g00498/impl.errorWords", laid_loop_example_g00498_impl_errorWords)], narrowed := true }
def FnWordsUptoSaid : Prop := fnWordsUptoRow.holds Tryd.pinned (OpenSpec.upto fnWordsSpec)

/-- 'laws.FnExactEventWord', WHERE WHAT IT READS IS OF BULK AT MOST 1048576: true; the input reads as it did. -/
def fnExactEventWordUptoRow : OpenClaim := { program := "ytbjndnpdmohjiaadoor", sum := "8cb986b41da20c88fa3fcd1bd94f7988e939f175f1f362d479ea91306842b442", func := "loop.example/g00498/laws.FnExactEventWord", spec := "fnExactEventWord", named := ["loop.example/g00498/impl.eventWords"], apart := false, laid := [("loop.example/g00498/impl.eventWords", laid_loop_example_g00498_impl_eventWords)], narrowed := true }
def FnExactEventWordUptoSaid : Prop := fnExactEventWordUptoRow.holds Tryd.pinned (OpenSpec.upto fnExactEventWordSpec)

/-- 'laws.FnExactErrorWord', WHERE WHAT IT READS IS OF BULK AT MOST 1048576: true; the input reads as it did. -/
def fnExactErrorWordUptoRow : OpenClaim := { program := "ytbjndnpdmohjiaadoor", sum := "8cb986b41da20c88fa3fcd1bd94f7988e939f175f1f362d479ea91306842b442", func := "loop.example/g00498/laws.FnExactErrorWord", spec := "fnExactErrorWord", named := ["loop.example/g00498/impl.errorWords"], apart := false, laid := [("loop.example/g00498/impl.errorWords", laid_loop_example_g00498_impl_errorWords)], narrowed := true }
def FnExactErrorWordUptoSaid : Prop := fnExactErrorWordUptoRow.holds Tryd.pinned (OpenSpec.upto fnExactErrorWordSpec)

end Rows
end Go.Proofs.YtbjndnpdmohjiaaDoor
