/-
  No cell of these rows narrows 'for every input' (looked for: loops, veiled, ifaces, maps, wideKeys, modest, calm, conditions, laid).
  DERIVED. THE GIVEN ROWS OF THIS SEAT. 10 by the template 'for every input the law returns true; each argument reads behind the call as it read before'; 0 by the template 'total and deterministic' (their statements: YtbehomeoiegeaaaTotals.lean).
  GIVEN WITH THE SEED: the statements are not yours to turn. If you find one false, say at which input.
  Laid BY PROGRAM, IN A SANDBOX (cutbox-rows.mjs): the forced cells as the released guide's own fill.sh prints them over the translation 02547e90aab57e2e… (all of the seat's roots in one cut). By AI agents, Wed Nov 11 2026. No macro, syntax, notation, axiom, sorry.
-/
import Derived.Test.YtbehomeoiegeaaaChecked
import GoSem.Claim
import GoSem.ClaimJoined
import GoSem.ClaimMapViews
import Derived.JoinedTies
import Derived.KernelRfl
namespace Go.Proofs.Ytbehomeoiegeaaa
/- THE CELL 'sum', in the pinned program and in every row, IS THE sha256 OF THE DUMP (.gsa) THAT YtbehomeoiegeaaaProg.lean LOADS. Nothing in Lean hashes anything: it is a label: what it is worth is what the hold of that sum in a sandbox is worth. -/
noncomputable def Try.pinned : Pinned := { name := "ytbehomeoiegeaaa", sum := "02547e90aab57e2e7c726600a477fc62f03c025d7f8fb0083d5cd6d042da8dfc", checked := Try.checked }
namespace Rows
def none {H : Type} : Left H := { results := [], args := [] }

/-- 'laws.FnTag': WHATEVER THE INPUT: true; the input reads as it did. -/
def fnTagSpec : ChangeSpec := { name := "fnTag", fn := fun _ => fun
  | [d] => { results := [.lit (.bool true)], args := [d] }
  | _ => none }
def fnTagRow : OpenClaim := { program := "ytbehomeoiegeaaa", sum := "02547e90aab57e2e7c726600a477fc62f03c025d7f8fb0083d5cd6d042da8dfc", func := "loop.example/g00498/laws.FnTag", spec := "fnTag", apart := false }
def FnTagSaid : Prop := fnTagRow.holds Try.pinned (OpenSpec.ofChange fnTagSpec)

/-- ITS FALSE NEIGHBOUR: 'it returns false'. Refute it at one input. -/
def fnTagWrong : ChangeSpec := { name := "fnTag", fn := fun _ => fun
  | [d] => { results := [.lit (.bool false)], args := [d] }
  | _ => none }
def FnTagWrongFalsely : Prop := fnTagRow.holds Try.pinned (OpenSpec.ofChange fnTagWrong)

/-- 'laws.FnZig': WHATEVER THE INPUT: true; the input reads as it did. -/
def fnZigSpec : ChangeSpec := { name := "fnZig", fn := fun _ => fun
  | [d] => { results := [.lit (.bool true)], args := [d] }
  | _ => none }
def fnZigRow : OpenClaim := { program := "ytbehomeoiegeaaa", sum := "02547e90aab57e2e7c726600a477fc62f03c025d7f8fb0083d5cd6d042da8dfc", func := "loop.example/g00498/laws.FnZig", spec := "fnZig", apart := false }
def FnZigSaid : Prop := fnZigRow.holds Try.pinned (OpenSpec.ofChange fnZigSpec)

/-- ITS FALSE NEIGHBOUR: 'it returns false'. Refute it at one input. -/
def fnZigWrong : ChangeSpec := { name := "fnZig", fn := fun _ => fun
  | [d] => { results := [.lit (.bool false)], args := [d] }
  | _ => none }
def FnZigWrongFalsely : Prop := fnZigRow.holds Try.pinned (OpenSpec.ofChange fnZigWrong)

/-- 'laws.FnNumbers': WHATEVER THE INPUT: true; the input reads as it did. -/
def fnNumbersSpec : ChangeSpec := { name := "fnNumbers", fn := fun _ => fun
  | [d] => { results := [.lit (.bool true)], args := [d] }
  | _ => none }
def fnNumbersRow : OpenClaim := { program := "ytbehomeoiegeaaa", sum := "02547e90aab57e2e7c726600a477fc62f03c025d7f8fb0083d5cd6d042da8dfc", func := "loop.example/g00498/laws.FnNumbers", spec := "fnNumbers", apart := false }
def FnNumbersSaid : Prop := fnNumbersRow.holds Try.pinned (OpenSpec.ofChange fnNumbersSpec)

/-- ITS FALSE NEIGHBOUR: 'it returns false'. Refute it at one input. -/
def fnNumbersWrong : ChangeSpec := { name := "fnNumbers", fn := fun _ => fun
  | [d] => { results := [.lit (.bool false)], args := [d] }
  | _ => none }
def FnNumbersWrongFalsely : Prop := fnNumbersRow.holds Try.pinned (OpenSpec.ofChange fnNumbersWrong)

/-- 'laws.FnExactNumberOk': WHATEVER THE INPUT: true; the input reads as it did. -/
def fnExactNumberOkSpec : ChangeSpec := { name := "fnExactNumberOk", fn := fun _ => fun
  | [d] => { results := [.lit (.bool true)], args := [d] }
  | _ => none }
def fnExactNumberOkRow : OpenClaim := { program := "ytbehomeoiegeaaa", sum := "02547e90aab57e2e7c726600a477fc62f03c025d7f8fb0083d5cd6d042da8dfc", func := "loop.example/g00498/laws.FnExactNumberOk", spec := "fnExactNumberOk", apart := false }
def FnExactNumberOkSaid : Prop := fnExactNumberOkRow.holds Try.pinned (OpenSpec.ofChange fnExactNumberOkSpec)

/-- ITS FALSE NEIGHBOUR: 'it returns false'. Refute it at one input. -/
def fnExactNumberOkWrong : ChangeSpec := { name := "fnExactNumberOk", fn := fun _ => fun
  | [d] => { results := [.lit (.bool false)], args := [d] }
  | _ => none }
def FnExactNumberOkWrongFalsely : Prop := fnExactNumberOkRow.holds Try.pinned (OpenSpec.ofChange fnExactNumberOkWrong)

/-- 'laws.FnExactWireOk': WHATEVER THE INPUT: true; the input reads as it did. -/
def fnExactWireOkSpec : ChangeSpec := { name := "fnExactWireOk", fn := fun _ => fun
  | [d] => { results := [.lit (.bool true)], args := [d] }
  | _ => none }
def fnExactWireOkRow : OpenClaim := { program := "ytbehomeoiegeaaa", sum := "02547e90aab57e2e7c726600a477fc62f03c025d7f8fb0083d5cd6d042da8dfc", func := "loop.example/g00498/laws.FnExactWireOk", spec := "fnExactWireOk", apart := false }
def FnExactWireOkSaid : Prop := fnExactWireOkRow.holds Try.pinned (OpenSpec.ofChange fnExactWireOkSpec)

/-- ITS FALSE NEIGHBOUR: 'it returns false'. Refute it at one input. -/
def fnExactWireOkWrong : ChangeSpec := { name := "fnExactWireOk", fn := fun _ => fun
  | [d] => { results := [.lit (.bool false)], args := [d] }
  | _ => none }
def FnExactWireOkWrongFalsely : Prop := fnExactWireOkRow.holds Try.pinned (OpenSpec.ofChange fnExactWireOkWrong)

/-- 'laws.FnExactTagOf': WHATEVER THE INPUT: true; the input reads as it did. -/
def fnExactTagOfSpec : ChangeSpec := { name := "fnExactTagOf", fn := fun _ => fun
  | [d1, d2] => { results := [.lit (.bool true)], args := [d1, d2] }
  | _ => none }
def fnExactTagOfRow : OpenClaim := { program := "ytbehomeoiegeaaa", sum := "02547e90aab57e2e7c726600a477fc62f03c025d7f8fb0083d5cd6d042da8dfc", func := "loop.example/g00498/laws.FnExactTagOf", spec := "fnExactTagOf", apart := false }
def FnExactTagOfSaid : Prop := fnExactTagOfRow.holds Try.pinned (OpenSpec.ofChange fnExactTagOfSpec)

/-- ITS FALSE NEIGHBOUR: 'it returns false'. Refute it at one input. -/
def fnExactTagOfWrong : ChangeSpec := { name := "fnExactTagOf", fn := fun _ => fun
  | [d1, d2] => { results := [.lit (.bool false)], args := [d1, d2] }
  | _ => none }
def FnExactTagOfWrongFalsely : Prop := fnExactTagOfRow.holds Try.pinned (OpenSpec.ofChange fnExactTagOfWrong)

/-- 'laws.FnExactTagIn': WHATEVER THE INPUT: true; the input reads as it did. -/
def fnExactTagInSpec : ChangeSpec := { name := "fnExactTagIn", fn := fun _ => fun
  | [d] => { results := [.lit (.bool true)], args := [d] }
  | _ => none }
def fnExactTagInRow : OpenClaim := { program := "ytbehomeoiegeaaa", sum := "02547e90aab57e2e7c726600a477fc62f03c025d7f8fb0083d5cd6d042da8dfc", func := "loop.example/g00498/laws.FnExactTagIn", spec := "fnExactTagIn", apart := false }
def FnExactTagInSaid : Prop := fnExactTagInRow.holds Try.pinned (OpenSpec.ofChange fnExactTagInSpec)

/-- ITS FALSE NEIGHBOUR: 'it returns false'. Refute it at one input. -/
def fnExactTagInWrong : ChangeSpec := { name := "fnExactTagIn", fn := fun _ => fun
  | [d] => { results := [.lit (.bool false)], args := [d] }
  | _ => none }
def FnExactTagInWrongFalsely : Prop := fnExactTagInRow.holds Try.pinned (OpenSpec.ofChange fnExactTagInWrong)

/-- 'laws.FnExactZig': WHATEVER THE INPUT: true; the input reads as it did. -/
def fnExactZigSpec : ChangeSpec := { name := "fnExactZig", fn := fun _ => fun
  | [d] => { results := [.lit (.bool true)], args := [d] }
  | _ => none }
def fnExactZigRow : OpenClaim := { program := "ytbehomeoiegeaaa", sum := "02547e90aab57e2e7c726600a477fc62f03c025d7f8fb0083d5cd6d042da8dfc", func := "loop.example/g00498/laws.FnExactZig", spec := "fnExactZig", apart := false }
def FnExactZigSaid : Prop := fnExactZigRow.holds Try.pinned (OpenSpec.ofChange fnExactZigSpec)

/-- ITS FALSE NEIGHBOUR: 'it returns false'. Refute it at one input. -/
def fnExactZigWrong : ChangeSpec := { name := "fnExactZig", fn := fun _ => fun
  | [d] => { results := [.lit (.bool false)], args := [d] }
  | _ => none }
def FnExactZigWrongFalsely : Prop := fnExactZigRow.holds Try.pinned (OpenSpec.ofChange fnExactZigWrong)

/-- 'laws.FnExactUnzig': WHATEVER THE INPUT: true; the input reads as it did. -/
def fnExactUnzigSpec : ChangeSpec := { name := "fnExactUnzig", fn := fun _ => fun
  | [d] => { results := [.lit (.bool true)], args := [d] }
  | _ => none }
def fnExactUnzigRow : OpenClaim := { program := "ytbehomeoiegeaaa", sum := "02547e90aab57e2e7c726600a477fc62f03c025d7f8fb0083d5cd6d042da8dfc", func := "loop.example/g00498/laws.FnExactUnzig", spec := "fnExactUnzig", apart := false }
def FnExactUnzigSaid : Prop := fnExactUnzigRow.holds Try.pinned (OpenSpec.ofChange fnExactUnzigSpec)

/-- ITS FALSE NEIGHBOUR: 'it returns false'. Refute it at one input. -/
def fnExactUnzigWrong : ChangeSpec := { name := "fnExactUnzig", fn := fun _ => fun
  | [d] => { results := [.lit (.bool false)], args := [d] }
  | _ => none }
def FnExactUnzigWrongFalsely : Prop := fnExactUnzigRow.holds Try.pinned (OpenSpec.ofChange fnExactUnzigWrong)

/-- 'laws.FnExactWidthOf': WHATEVER THE INPUT: true; the input reads as it did. -/
def fnExactWidthOfSpec : ChangeSpec := { name := "fnExactWidthOf", fn := fun _ => fun
  | [d] => { results := [.lit (.bool true)], args := [d] }
  | _ => none }
def fnExactWidthOfRow : OpenClaim := { program := "ytbehomeoiegeaaa", sum := "02547e90aab57e2e7c726600a477fc62f03c025d7f8fb0083d5cd6d042da8dfc", func := "loop.example/g00498/laws.FnExactWidthOf", spec := "fnExactWidthOf", apart := false }
def FnExactWidthOfSaid : Prop := fnExactWidthOfRow.holds Try.pinned (OpenSpec.ofChange fnExactWidthOfSpec)

/-- ITS FALSE NEIGHBOUR: 'it returns false'. Refute it at one input. -/
def fnExactWidthOfWrong : ChangeSpec := { name := "fnExactWidthOf", fn := fun _ => fun
  | [d] => { results := [.lit (.bool false)], args := [d] }
  | _ => none }
def FnExactWidthOfWrongFalsely : Prop := fnExactWidthOfRow.holds Try.pinned (OpenSpec.ofChange fnExactWidthOfWrong)

/- THE SECOND FORM. 'bulk': how many values and letters a reading holds, each counted each time it is reached (what is shared counts as often as it is met; a slice's spare places count too). A statement '..UptoSaid' is the law's where the arguments, and the package variables that the reading takes, are together of bulk at most 1048576: NARROWER than '..Said'. Prove '..Said' where nothing that the law and all that it calls make is longer than what came in: it says more and counts as full. Else prove '..UptoSaid'. A law counts once. -/
mutual
def uptoBulk {H : Type} : DataW H → Nat
  | .lit (.string bytes) => bytes.length + 1
  | .lit _ => 1
  | .nil => 1
  | .ptr d => uptoBulk d + 1
  | .slice elems spare => uptoBulkAll elems + uptoBulkAll spare + 1
  | .agg parts => uptoBulkAll parts + 1
  | .iface _ d => uptoBulk d + 1
  | .map entries => uptoBulkEntries entries + 1
  | .held _ => 1
def uptoBulkAll {H : Type} : List (DataW H) → Nat
  | [] => 0
  | d :: r => uptoBulk d + uptoBulkAll r
def uptoBulkEntries {H : Type} : List (Lit × DataW H) → Nat
  | [] => 0
  | x :: r => uptoBulkEntry x + uptoBulkEntries r
def uptoBulkEntry {H : Type} : Lit × DataW H → Nat
  | (.string bytes, d) => bytes.length + uptoBulk d + 1
  | (_, d) => uptoBulk d + 1
 end
def uptoSmall : (H : Type) → List (DataW H) → Bool := fun _ ds => decide (uptoBulkAll ds ≤ 1048576)
def OpenSpec.upto (s : _root_.Go.ChangeSpec) : _root_.Go.OpenSpec := { _root_.Go.OpenSpec.ofChange s with cond := some uptoSmall }

/-- 'laws.FnTag', WHERE WHAT IT READS IS OF BULK AT MOST 1048576: true; the input reads as it did. -/
def fnTagUptoRow : OpenClaim := { program := "ytbehomeoiegeaaa", sum := "02547e90aab57e2e7c726600a477fc62f03c025d7f8fb0083d5cd6d042da8dfc", func := "loop.example/g00498/laws.FnTag", spec := "fnTag", apart := false, narrowed := true }
def FnTagUptoSaid : Prop := fnTagUptoRow.holds Try.pinned (OpenSpec.upto fnTagSpec)

/-- 'laws.FnZig', WHERE WHAT IT READS IS OF BULK AT MOST 1048576: true; the input reads as it did. -/
def fnZigUptoRow : OpenClaim := { program := "ytbehomeoiegeaaa", sum := "02547e90aab57e2e7c726600a477fc62f03c025d7f8fb0083d5cd6d042da8dfc", func := "loop.example/g00498/laws.FnZig", spec := "fnZig", apart := false, narrowed := true }
def FnZigUptoSaid : Prop := fnZigUptoRow.holds Try.pinned (OpenSpec.upto fnZigSpec)

/-- 'laws.FnNumbers', WHERE WHAT IT READS IS OF BULK AT MOST 1048576: true; the input reads as it did. -/
def fnNumbersUptoRow : OpenClaim := { program := "ytbehomeoiegeaaa", sum := "02547e90aab57e2e7c726600a477fc62f03c025d7f8fb0083d5cd6d042da8dfc", func := "loop.example/g00498/laws.FnNumbers", spec := "fnNumbers", apart := false, narrowed := true }
def FnNumbersUptoSaid : Prop := fnNumbersUptoRow.holds Try.pinned (OpenSpec.upto fnNumbersSpec)

/-- 'laws.FnExactNumberOk', WHERE WHAT IT READS IS OF BULK AT MOST 1048576: true; the input reads as it did. -/
def fnExactNumberOkUptoRow : OpenClaim := { program := "ytbehomeoiegeaaa", sum := "02547e90aab57e2e7c726600a477fc62f03c025d7f8fb0083d5cd6d042da8dfc", func := "loop.example/g00498/laws.FnExactNumberOk", spec := "fnExactNumberOk", apart := false, narrowed := true }
def FnExactNumberOkUptoSaid : Prop := fnExactNumberOkUptoRow.holds Try.pinned (OpenSpec.upto fnExactNumberOkSpec)

/-- 'laws.FnExactWireOk', WHERE WHAT IT READS IS OF BULK AT MOST 1048576: true; the input reads as it did. -/
def fnExactWireOkUptoRow : OpenClaim := { program := "ytbehomeoiegeaaa", sum := "02547e90aab57e2e7c726600a477fc62f03c025d7f8fb0083d5cd6d042da8dfc", func := "loop.example/g00498/laws.FnExactWireOk", spec := "fnExactWireOk", apart := false, narrowed := true }
def FnExactWireOkUptoSaid : Prop := fnExactWireOkUptoRow.holds Try.pinned (OpenSpec.upto fnExactWireOkSpec)

/-- 'laws.FnExactTagOf', WHERE WHAT IT READS IS OF BULK AT MOST 1048576: true; the input reads as it did. -/
def fnExactTagOfUptoRow : OpenClaim := { program := "ytbehomeoiegeaaa", sum := "02547e90aab57e2e7c726600a477fc62f03c025d7f8fb0083d5cd6d042da8dfc", func := "loop.example/g00498/laws.FnExactTagOf", spec := "fnExactTagOf", apart := false, narrowed := true }
def FnExactTagOfUptoSaid : Prop := fnExactTagOfUptoRow.holds Try.pinned (OpenSpec.upto fnExactTagOfSpec)

/-- 'laws.FnExactTagIn', WHERE WHAT IT READS IS OF BULK AT MOST 1048576: true; the input reads as it did. -/
def fnExactTagInUptoRow : OpenClaim := { program := "ytbehomeoiegeaaa", sum := "02547e90aab57e2e7c726600a477fc62f03c025d7f8fb0083d5cd6d042da8dfc", func := "loop.example/g00498/laws.FnExactTagIn", spec := "fnExactTagIn", apart := false, narrowed := true }
def FnExactTagInUptoSaid : Prop := fnExactTagInUptoRow.holds Try.pinned (OpenSpec.upto fnExactTagInSpec)

/-- 'laws.FnExactZig', WHERE WHAT IT READS IS OF BULK AT MOST 1048576: true; the input reads as it did. -/
def fnExactZigUptoRow : OpenClaim := { program := "ytbehomeoiegeaaa", sum := "02547e90aab57e2e7c726600a477fc62f03c025d7f8fb0083d5cd6d042da8dfc", func := "loop.example/g00498/laws.FnExactZig", spec := "fnExactZig", apart := false, narrowed := true }
def FnExactZigUptoSaid : Prop := fnExactZigUptoRow.holds Try.pinned (OpenSpec.upto fnExactZigSpec)

/-- 'laws.FnExactUnzig', WHERE WHAT IT READS IS OF BULK AT MOST 1048576: true; the input reads as it did. -/
def fnExactUnzigUptoRow : OpenClaim := { program := "ytbehomeoiegeaaa", sum := "02547e90aab57e2e7c726600a477fc62f03c025d7f8fb0083d5cd6d042da8dfc", func := "loop.example/g00498/laws.FnExactUnzig", spec := "fnExactUnzig", apart := false, narrowed := true }
def FnExactUnzigUptoSaid : Prop := fnExactUnzigUptoRow.holds Try.pinned (OpenSpec.upto fnExactUnzigSpec)

/-- 'laws.FnExactWidthOf', WHERE WHAT IT READS IS OF BULK AT MOST 1048576: true; the input reads as it did. -/
def fnExactWidthOfUptoRow : OpenClaim := { program := "ytbehomeoiegeaaa", sum := "02547e90aab57e2e7c726600a477fc62f03c025d7f8fb0083d5cd6d042da8dfc", func := "loop.example/g00498/laws.FnExactWidthOf", spec := "fnExactWidthOf", apart := false, narrowed := true }
def FnExactWidthOfUptoSaid : Prop := fnExactWidthOfUptoRow.holds Try.pinned (OpenSpec.upto fnExactWidthOfSpec)

end Rows
end Go.Proofs.Ytbehomeoiegeaaa
