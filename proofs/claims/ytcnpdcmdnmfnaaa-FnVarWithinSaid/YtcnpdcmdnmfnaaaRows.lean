/-
  No cell of these rows narrows 'for every input' (looked for: loops, veiled, ifaces, maps, wideKeys, modest, calm, conditions, laid).
  DERIVED. THE GIVEN ROWS OF THIS SEAT. 5 by the template 'for every input the law returns true; each argument reads behind the call as it read before'; 0 by the template 'total and deterministic' (their statements: YtcnpdcmdnmfnaaaTotals.lean).
  GIVEN WITH THE SEED: the statements are not yours to turn. If you find one false, say at which input.
  Laid BY PROGRAM, IN A SANDBOX (cutbox-rows.mjs): the forced cells as the released guide's own fill.sh prints them over the translation 4f130567eba41296… (all of the seat's roots in one cut). By AI agents, Wed Nov 11 2026. No macro, syntax, notation, axiom, sorry.
-/
import Derived.Test.YtcnpdcmdnmfnaaaChecked
import GoSem.Claim
import GoSem.ClaimJoined
import GoSem.ClaimMapViews
import Derived.JoinedTies
import Derived.KernelRfl
namespace Go.Proofs.Ytcnpdcmdnmfnaaa
/- THE CELL 'sum', in the pinned program and in every row, IS THE sha256 OF THE DUMP (.gsa) THAT YtcnpdcmdnmfnaaaProg.lean LOADS. Nothing in Lean hashes anything: it is a label: what it is worth is what the hold of that sum in a sandbox is worth. -/
noncomputable def Try.pinned : Pinned := { name := "ytcnpdcmdnmfnaaa", sum := "4f130567eba41296d51e52f8b6a53efb743edbebd0bcd4b507356e86f0b98b18", checked := Try.checked }
namespace Rows
def none {H : Type} : Left H := { results := [], args := [] }

/-- 'laws.FnVarWithin': WHATEVER THE INPUT: true; the input reads as it did. -/
def fnVarWithinSpec : ChangeSpec := { name := "fnVarWithin", fn := fun _ => fun
  | [d] => { results := [.lit (.bool true)], args := [d] }
  | _ => none }
def fnVarWithinRow : OpenClaim := { program := "ytcnpdcmdnmfnaaa", sum := "4f130567eba41296d51e52f8b6a53efb743edbebd0bcd4b507356e86f0b98b18", func := "loop.example/g00498/laws.FnVarWithin", spec := "fnVarWithin", apart := false }
def FnVarWithinSaid : Prop := fnVarWithinRow.holds Try.pinned (OpenSpec.ofChange fnVarWithinSpec)

/-- ITS FALSE NEIGHBOUR: 'it returns false'. Refute it at one input. -/
def fnVarWithinWrong : ChangeSpec := { name := "fnVarWithin", fn := fun _ => fun
  | [d] => { results := [.lit (.bool false)], args := [d] }
  | _ => none }
def FnVarWithinWrongFalsely : Prop := fnVarWithinRow.holds Try.pinned (OpenSpec.ofChange fnVarWithinWrong)

/-- 'laws.FnNumEvent': WHATEVER THE INPUT: true; the input reads as it did. -/
def fnNumEventSpec : ChangeSpec := { name := "fnNumEvent", fn := fun _ => fun
  | [d] => { results := [.lit (.bool true)], args := [d] }
  | _ => none }
def fnNumEventRow : OpenClaim := { program := "ytcnpdcmdnmfnaaa", sum := "4f130567eba41296d51e52f8b6a53efb743edbebd0bcd4b507356e86f0b98b18", func := "loop.example/g00498/laws.FnNumEvent", spec := "fnNumEvent", apart := false }
def FnNumEventSaid : Prop := fnNumEventRow.holds Try.pinned (OpenSpec.ofChange fnNumEventSpec)

/-- ITS FALSE NEIGHBOUR: 'it returns false'. Refute it at one input. -/
def fnNumEventWrong : ChangeSpec := { name := "fnNumEvent", fn := fun _ => fun
  | [d] => { results := [.lit (.bool false)], args := [d] }
  | _ => none }
def FnNumEventWrongFalsely : Prop := fnNumEventRow.holds Try.pinned (OpenSpec.ofChange fnNumEventWrong)

/-- 'laws.FnExactPlanOk': WHATEVER THE INPUT: true; the input reads as it did. -/
def fnExactPlanOkSpec : ChangeSpec := { name := "fnExactPlanOk", fn := fun _ => fun
  | [d] => { results := [.lit (.bool true)], args := [d] }
  | _ => none }
def fnExactPlanOkRow : OpenClaim := { program := "ytcnpdcmdnmfnaaa", sum := "4f130567eba41296d51e52f8b6a53efb743edbebd0bcd4b507356e86f0b98b18", func := "loop.example/g00498/laws.FnExactPlanOk", spec := "fnExactPlanOk", apart := false }
def FnExactPlanOkSaid : Prop := fnExactPlanOkRow.holds Try.pinned (OpenSpec.ofChange fnExactPlanOkSpec)

/-- ITS FALSE NEIGHBOUR: 'it returns false'. Refute it at one input. -/
def fnExactPlanOkWrong : ChangeSpec := { name := "fnExactPlanOk", fn := fun _ => fun
  | [d] => { results := [.lit (.bool false)], args := [d] }
  | _ => none }
def FnExactPlanOkWrongFalsely : Prop := fnExactPlanOkRow.holds Try.pinned (OpenSpec.ofChange fnExactPlanOkWrong)

/-- 'laws.FnExactVarWithin': WHATEVER THE INPUT: true; the input reads as it did. -/
def fnExactVarWithinSpec : ChangeSpec := { name := "fnExactVarWithin", fn := fun _ => fun
  | [d1, d2, d3] => { results := [.lit (.bool true)], args := [d1, d2, d3] }
  | _ => none }
def fnExactVarWithinRow : OpenClaim := { program := "ytcnpdcmdnmfnaaa", sum := "4f130567eba41296d51e52f8b6a53efb743edbebd0bcd4b507356e86f0b98b18", func := "loop.example/g00498/laws.FnExactVarWithin", spec := "fnExactVarWithin", apart := false }
def FnExactVarWithinSaid : Prop := fnExactVarWithinRow.holds Try.pinned (OpenSpec.ofChange fnExactVarWithinSpec)

/-- ITS FALSE NEIGHBOUR: 'it returns false'. Refute it at one input. -/
def fnExactVarWithinWrong : ChangeSpec := { name := "fnExactVarWithin", fn := fun _ => fun
  | [d1, d2, d3] => { results := [.lit (.bool false)], args := [d1, d2, d3] }
  | _ => none }
def FnExactVarWithinWrongFalsely : Prop := fnExactVarWithinRow.holds Try.pinned (OpenSpec.ofChange fnExactVarWithinWrong)

/-- 'laws.FnExactNumEvent': WHATEVER THE INPUT: true; the input reads as it did. -/
def fnExactNumEventSpec : ChangeSpec := { name := "fnExactNumEvent", fn := fun _ => fun
  | [d1, d2] => { results := [.lit (.bool true)], args := [d1, d2] }
  | _ => none }
def fnExactNumEventRow : OpenClaim := { program := "ytcnpdcmdnmfnaaa", sum := "4f130567eba41296d51e52f8b6a53efb743edbebd0bcd4b507356e86f0b98b18", func := "loop.example/g00498/laws.FnExactNumEvent", spec := "fnExactNumEvent", apart := false }
def FnExactNumEventSaid : Prop := fnExactNumEventRow.holds Try.pinned (OpenSpec.ofChange fnExactNumEventSpec)

/-- ITS FALSE NEIGHBOUR: 'it returns false'. Refute it at one input. -/
def fnExactNumEventWrong : ChangeSpec := { name := "fnExactNumEvent", fn := fun _ => fun
  | [d1, d2] => { results := [.lit (.bool false)], args := [d1, d2] }
  | _ => none }
def FnExactNumEventWrongFalsely : Prop := fnExactNumEventRow.holds Try.pinned (OpenSpec.ofChange fnExactNumEventWrong)

/- THE SECOND FORM. 'bulk': how many values and letters a reading holds, each counted each time it is reached (what is shared counts as often as it is met; a slice's spare places count too). A statement '..UptoSaid' is the law's where the arguments, and the package variables that the reading takes, are together of bulk at most 1048576: NARROWER than '..Said'. Prove '..Said' where nothing that the law and all that it calls make is longer than what came in: it says more and counts as full. Else prove '..UptoSaid'. A law counts once. -/
mutual
def uptoBulk {H : Type} : DataW H → Nat
  | .lit (.string bytes) => bytes.length + 1
  | .lit _ => 1
  | .nil => 1
  | .ptr d => uptoBulk d + 1
  | .slice elems spare => uptoBulkAll elems + uptoBulkAll spare + 1
  | .agg parts => uptoBulkAll parts + 1
  | .iface _ d => uptoBulk d + 1
  | .map entries => uptoBulkEntries entries + 1
  | .held _ => 1
def uptoBulkAll {H : Type} : List (DataW H) → Nat
  | [] => 0
  | d :: r => uptoBulk d + uptoBulkAll r
def uptoBulkEntries {H : Type} : List (Lit × DataW H) → Nat
  | [] => 0
  | x :: r => uptoBulkEntry x + uptoBulkEntries r
def uptoBulkEntry {H : Type} : Lit × DataW H → Nat
  | (.string bytes, d) => bytes.length + uptoBulk d + 1
  | (_, d) => uptoBulk d + 1
 end
def uptoSmall : (H : Type) → List (DataW H) → Bool := fun _ ds => decide (uptoBulkAll ds ≤ 1048576)
def OpenSpec.upto (s : _root_.Go.ChangeSpec) : _root_.Go.OpenSpec := { _root_.Go.OpenSpec.ofChange s with cond := some uptoSmall }

/-- 'laws.FnVarWithin', WHERE WHAT IT READS IS OF BULK AT MOST 1048576: true; the input reads as it did. -/
def fnVarWithinUptoRow : OpenClaim := { program := "ytcnpdcmdnmfnaaa", sum := "4f130567eba41296d51e52f8b6a53efb743edbebd0bcd4b507356e86f0b98b18", func := "loop.example/g00498/laws.FnVarWithin", spec := "fnVarWithin", apart := false, narrowed := true }
def FnVarWithinUptoSaid : Prop := fnVarWithinUptoRow.holds Try.pinned (OpenSpec.upto fnVarWithinSpec)

/-- 'laws.FnNumEvent', WHERE WHAT IT READS IS OF BULK AT MOST 1048576: true; the input reads as it did. -/
def fnNumEventUptoRow : OpenClaim := { program := "ytcnpdcmdnmfnaaa", sum := "4f130567eba41296d51e52f8b6a53efb743edbebd0bcd4b507356e86f0b98b18", func := "loop.example/g00498/laws.FnNumEvent", spec := "fnNumEvent", apart := false, narrowed := true }
def FnNumEventUptoSaid : Prop := fnNumEventUptoRow.holds Try.pinned (OpenSpec.upto fnNumEventSpec)

/-- 'laws.FnExactPlanOk', WHERE WHAT IT READS IS OF BULK AT MOST 1048576: true; the input reads as it did. -/
def fnExactPlanOkUptoRow : OpenClaim := { program := "ytcnpdcmdnmfnaaa", sum := "4f130567eba41296d51e52f8b6a53efb743edbebd0bcd4b507356e86f0b98b18", func := "loop.example/g00498/laws.FnExactPlanOk", spec := "fnExactPlanOk", apart := false, narrowed := true }
def FnExactPlanOkUptoSaid : Prop := fnExactPlanOkUptoRow.holds Try.pinned (OpenSpec.upto fnExactPlanOkSpec)

/-- 'laws.FnExactVarWithin', WHERE WHAT IT READS IS OF BULK AT MOST 1048576: true; the input reads as it did. -/
def fnExactVarWithinUptoRow : OpenClaim := { program := "ytcnpdcmdnmfnaaa", sum := "4f130567eba41296d51e52f8b6a53efb743edbebd0bcd4b507356e86f0b98b18", func := "loop.example/g00498/laws.FnExactVarWithin", spec := "fnExactVarWithin", apart := false, narrowed := true }
def FnExactVarWithinUptoSaid : Prop := fnExactVarWithinUptoRow.holds Try.pinned (OpenSpec.upto fnExactVarWithinSpec)

/-- 'laws.FnExactNumEvent', WHERE WHAT IT READS IS OF BULK AT MOST 1048576: true; the input reads as it did. -/
def fnExactNumEventUptoRow : OpenClaim := { program := "ytcnpdcmdnmfnaaa", sum := "4f130567eba41296d51e52f8b6a53efb743edbebd0bcd4b507356e86f0b98b18", func := "loop.example/g00498/laws.FnExactNumEvent", spec := "fnExactNumEvent", apart := false, narrowed := true }
def FnExactNumEventUptoSaid : Prop := fnExactNumEventUptoRow.holds Try.pinned (OpenSpec.upto fnExactNumEventSpec)

end Rows
end Go.Proofs.Ytcnpdcmdnmfnaaa
