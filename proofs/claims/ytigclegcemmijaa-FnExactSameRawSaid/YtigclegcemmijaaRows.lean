/-
  No cell of these rows narrows 'for every input' (looked for: loops, veiled, ifaces, maps, wideKeys, modest, calm, conditions, laid).
  DERIVED. THE GIVEN ROWS OF THIS SEAT. 6 by the template 'for every input the law returns true; each argument reads behind the call as it read before'; 0 by the template 'total and deterministic' (their statements: YtigclegcemmijaaTotals.lean).
  GIVEN WITH THE SEED: the statements are not yours to turn. If you find one false, say at which input.
  Laid BY PROGRAM, IN A SANDBOX (cutbox-rows.mjs): the forced cells as the released guide's own fill.sh prints them over the translation e3ec79dc1a178eec… (all of the seat's roots in one cut). By AI agents, Wed Nov 11 2026. No macro, syntax, notation, axiom, sorry.
-/
import Derived.Test.YtigclegcemmijaaChecked
import GoSem.Claim
import GoSem.ClaimJoined
import GoSem.ClaimMapViews
import Derived.JoinedTies
import Derived.KernelRfl
namespace Go.Proofs.Ytigclegcemmijaa
/- THE CELL 'sum', in the pinned program and in every row, IS THE sha256 OF THE DUMP (.gsa) THAT YtigclegcemmijaaProg.lean LOADS. Nothing in Lean hashes anything: it is a label: what it is worth is what the hold of that sum in a sandbox is worth. -/
noncomputable def Try.pinned : Pinned := { name := "ytigclegcemmijaa", sum := "e3ec79dc1a178eec996deb754843472aced727237b82fca13cdbf4c9d5fdd2a1", checked := Try.checked }
namespace Rows
def none {H : Type} : Left H := { results := [], args := [] }

/-- 'laws.FnKinds': WHATEVER THE INPUT: true; the input reads as it did. -/
def fnKindsSpec : ChangeSpec := { name := "fnKinds", fn := fun _ => fun
  | [d] => { results := [.lit (.bool true)], args := [d] }
  | _ => none }
def fnKindsRow : OpenClaim := { program := "ytigclegcemmijaa", sum := "e3ec79dc1a178eec996deb754843472aced727237b82fca13cdbf4c9d5fdd2a1", func := "loop.example/g00498/laws.FnKinds", spec := "fnKinds", apart := false }
def FnKindsSaid : Prop := fnKindsRow.holds Try.pinned (OpenSpec.ofChange fnKindsSpec)

/-- ITS FALSE NEIGHBOUR: 'it returns false'. Refute it at one input. -/
def fnKindsWrong : ChangeSpec := { name := "fnKinds", fn := fun _ => fun
  | [d] => { results := [.lit (.bool false)], args := [d] }
  | _ => none }
def FnKindsWrongFalsely : Prop := fnKindsRow.holds Try.pinned (OpenSpec.ofChange fnKindsWrong)

/-- 'laws.FnExactKindWord': WHATEVER THE INPUT: true; the input reads as it did. -/
def fnExactKindWordSpec : ChangeSpec := { name := "fnExactKindWord", fn := fun _ => fun
  | [d] => { results := [.lit (.bool true)], args := [d] }
  | _ => none }
def fnExactKindWordRow : OpenClaim := { program := "ytigclegcemmijaa", sum := "e3ec79dc1a178eec996deb754843472aced727237b82fca13cdbf4c9d5fdd2a1", func := "loop.example/g00498/laws.FnExactKindWord", spec := "fnExactKindWord", apart := false }
def FnExactKindWordSaid : Prop := fnExactKindWordRow.holds Try.pinned (OpenSpec.ofChange fnExactKindWordSpec)

/-- ITS FALSE NEIGHBOUR: 'it returns false'. Refute it at one input. -/
def fnExactKindWordWrong : ChangeSpec := { name := "fnExactKindWord", fn := fun _ => fun
  | [d] => { results := [.lit (.bool false)], args := [d] }
  | _ => none }
def FnExactKindWordWrongFalsely : Prop := fnExactKindWordRow.holds Try.pinned (OpenSpec.ofChange fnExactKindWordWrong)

/-- 'laws.FnExactNumeric': WHATEVER THE INPUT: true; the input reads as it did. -/
def fnExactNumericSpec : ChangeSpec := { name := "fnExactNumeric", fn := fun _ => fun
  | [d] => { results := [.lit (.bool true)], args := [d] }
  | _ => none }
def fnExactNumericRow : OpenClaim := { program := "ytigclegcemmijaa", sum := "e3ec79dc1a178eec996deb754843472aced727237b82fca13cdbf4c9d5fdd2a1", func := "loop.example/g00498/laws.FnExactNumeric", spec := "fnExactNumeric", apart := false }
def FnExactNumericSaid : Prop := fnExactNumericRow.holds Try.pinned (OpenSpec.ofChange fnExactNumericSpec)

/-- ITS FALSE NEIGHBOUR: 'it returns false'. Refute it at one input. -/
def fnExactNumericWrong : ChangeSpec := { name := "fnExactNumeric", fn := fun _ => fun
  | [d] => { results := [.lit (.bool false)], args := [d] }
  | _ => none }
def FnExactNumericWrongFalsely : Prop := fnExactNumericRow.holds Try.pinned (OpenSpec.ofChange fnExactNumericWrong)

/-- 'laws.FnExactWireOf': WHATEVER THE INPUT: true; the input reads as it did. -/
def fnExactWireOfSpec : ChangeSpec := { name := "fnExactWireOf", fn := fun _ => fun
  | [d] => { results := [.lit (.bool true)], args := [d] }
  | _ => none }
def fnExactWireOfRow : OpenClaim := { program := "ytigclegcemmijaa", sum := "e3ec79dc1a178eec996deb754843472aced727237b82fca13cdbf4c9d5fdd2a1", func := "loop.example/g00498/laws.FnExactWireOf", spec := "fnExactWireOf", apart := false }
def FnExactWireOfSaid : Prop := fnExactWireOfRow.holds Try.pinned (OpenSpec.ofChange fnExactWireOfSpec)

/-- ITS FALSE NEIGHBOUR: 'it returns false'. Refute it at one input. -/
def fnExactWireOfWrong : ChangeSpec := { name := "fnExactWireOf", fn := fun _ => fun
  | [d] => { results := [.lit (.bool false)], args := [d] }
  | _ => none }
def FnExactWireOfWrongFalsely : Prop := fnExactWireOfRow.holds Try.pinned (OpenSpec.ofChange fnExactWireOfWrong)

/-- 'laws.FnExactBitsFit': WHATEVER THE INPUT: true; the input reads as it did. -/
def fnExactBitsFitSpec : ChangeSpec := { name := "fnExactBitsFit", fn := fun _ => fun
  | [d1, d2] => { results := [.lit (.bool true)], args := [d1, d2] }
  | _ => none }
def fnExactBitsFitRow : OpenClaim := { program := "ytigclegcemmijaa", sum := "e3ec79dc1a178eec996deb754843472aced727237b82fca13cdbf4c9d5fdd2a1", func := "loop.example/g00498/laws.FnExactBitsFit", spec := "fnExactBitsFit", apart := false }
def FnExactBitsFitSaid : Prop := fnExactBitsFitRow.holds Try.pinned (OpenSpec.ofChange fnExactBitsFitSpec)

/-- ITS FALSE NEIGHBOUR: 'it returns false'. Refute it at one input. -/
def fnExactBitsFitWrong : ChangeSpec := { name := "fnExactBitsFit", fn := fun _ => fun
  | [d1, d2] => { results := [.lit (.bool false)], args := [d1, d2] }
  | _ => none }
def FnExactBitsFitWrongFalsely : Prop := fnExactBitsFitRow.holds Try.pinned (OpenSpec.ofChange fnExactBitsFitWrong)

/-- 'laws.FnExactSameRaw': WHATEVER THE INPUT: true; the input reads as it did. -/
def fnExactSameRawSpec : ChangeSpec := { name := "fnExactSameRaw", fn := fun _ => fun
  | [d1, d2] => { results := [.lit (.bool true)], args := [d1, d2] }
  | _ => none }
def fnExactSameRawRow : OpenClaim := { program := "ytigclegcemmijaa", sum := "e3ec79dc1a178eec996deb754843472aced727237b82fca13cdbf4c9d5fdd2a1", func := "loop.example/g00498/laws.FnExactSameRaw", spec := "fnExactSameRaw", unfollowed := true, recurses := true, apart := false }
def FnExactSameRawSaid : Prop := fnExactSameRawRow.holds Try.pinned (OpenSpec.ofChange fnExactSameRawSpec)

/-- ITS FALSE NEIGHBOUR: 'it returns false'. Refute it at one input. -/
def fnExactSameRawWrong : ChangeSpec := { name := "fnExactSameRaw", fn := fun _ => fun
  | [d1, d2] => { results := [.lit (.bool false)], args := [d1, d2] }
  | _ => none }
def FnExactSameRawWrongFalsely : Prop := fnExactSameRawRow.holds Try.pinned (OpenSpec.ofChange fnExactSameRawWrong)

/- THE SECOND FORM. 'bulk': how many values and letters a reading holds, each counted each time it is reached (what is shared counts as often as it is met; a slice's spare places count too). A statement '..UptoSaid' is the law's where the arguments, and the package variables that the reading takes, are together of bulk at most 1048576: NARROWER than '..Said'. Prove '..Said' where nothing that the law and all that it calls make is longer than what came in: it says more and counts as full. Else prove '..UptoSaid'. A law counts once. -/
mutual
def uptoBulk {H : Type} : DataW H → Nat
  | .lit (.string bytes) => bytes.length + 1
  | .lit _ => 1
  | .nil => 1
  | .ptr d => uptoBulk d + 1
  | .slice elems spare => uptoBulkAll elems + uptoBulkAll spare + 1
  | .agg parts => uptoBulkAll parts + 1
  | .iface _ d => uptoBulk d + 1
  | .map entries => uptoBulkEntries entries + 1
  | .held _ => 1
def uptoBulkAll {H : Type} : List (DataW H) → Nat
  | [] => 0
  | d :: r => uptoBulk d + uptoBulkAll r
def uptoBulkEntries {H : Type} : List (Lit × DataW H) → Nat
  | [] => 0
  | x :: r => uptoBulkEntry x + uptoBulkEntries r
def uptoBulkEntry {H : Type} : Lit × DataW H → Nat
  | (.string bytes, d) => bytes.length + uptoBulk d + 1
  | (_, d) => uptoBulk d + 1
 end
def uptoSmall : (H : Type) → List (DataW H) → Bool := fun _ ds => decide (uptoBulkAll ds ≤ 1048576)
def OpenSpec.upto (s : _root_.Go.ChangeSpec) : _root_.Go.OpenSpec := { _root_.Go.OpenSpec.ofChange s with cond := some uptoSmall }

/-- 'laws.FnKinds', WHERE WHAT IT READS IS OF BULK AT MOST 1048576: true; the input reads as it did. -/
def fnKindsUptoRow : OpenClaim := { program := "ytigclegcemmijaa", sum := "e3ec79dc1a178eec996deb754843472aced727237b82fca13cdbf4c9d5fdd2a1", func := "loop.example/g00498/laws.FnKinds", spec := "fnKinds", apart := false, narrowed := true }
def FnKindsUptoSaid : Prop := fnKindsUptoRow.holds Try.pinned (OpenSpec.upto fnKindsSpec)

/-- 'laws.FnExactKindWord', WHERE WHAT IT READS IS OF BULK AT MOST 1048576: true; the input reads as it did. -/
def fnExactKindWordUptoRow : OpenClaim := { program := "ytigclegcemmijaa", sum := "e3ec79dc1a178eec996deb754843472aced727237b82fca13cdbf4c9d5fdd2a1", func := "loop.example/g00498/laws.FnExactKindWord", spec := "fnExactKindWord", apart := false, narrowed := true }
def FnExactKindWordUptoSaid : Prop := fnExactKindWordUptoRow.holds Try.pinned (OpenSpec.upto fnExactKindWordSpec)

/-- 'laws.FnExactNumeric', WHERE WHAT IT READS IS OF BULK AT MOST 1048576: true; the input reads as it did. -/
def fnExactNumericUptoRow : OpenClaim := { program := "ytigclegcemmijaa", sum := "e3ec79dc1a178eec996deb754843472aced727237b82fca13cdbf4c9d5fdd2a1", func := "loop.example/g00498/laws.FnExactNumeric", spec := "fnExactNumeric", apart := false, narrowed := true }
def FnExactNumericUptoSaid : Prop := fnExactNumericUptoRow.holds Try.pinned (OpenSpec.upto fnExactNumericSpec)

/-- 'laws.FnExactWireOf', WHERE WHAT IT READS IS OF BULK AT MOST 1048576: true; the input reads as it did. -/
def fnExactWireOfUptoRow : OpenClaim := { program := "ytigclegcemmijaa", sum := "e3ec79dc1a178eec996deb754843472aced727237b82fca13cdbf4c9d5fdd2a1", func := "loop.example/g00498/laws.FnExactWireOf", spec := "fnExactWireOf", apart := false, narrowed := true }
def FnExactWireOfUptoSaid : Prop := fnExactWireOfUptoRow.holds Try.pinned (OpenSpec.upto fnExactWireOfSpec)

/-- 'laws.FnExactBitsFit', WHERE WHAT IT READS IS OF BULK AT MOST 1048576: true; the input reads as it did. -/
def fnExactBitsFitUptoRow : OpenClaim := { program := "ytigclegcemmijaa", sum := "e3ec79dc1a178eec996deb754843472aced727237b82fca13cdbf4c9d5fdd2a1", func := "loop.example/g00498/laws.FnExactBitsFit", spec := "fnExactBitsFit", apart := false, narrowed := true }
def FnExactBitsFitUptoSaid : Prop := fnExactBitsFitUptoRow.holds Try.pinned (OpenSpec.upto fnExactBitsFitSpec)

/-- 'laws.FnExactSameRaw', WHERE WHAT IT READS IS OF BULK AT MOST 1048576: true; the input reads as it did. -/
def fnExactSameRawUptoRow : OpenClaim := { program := "ytigclegcemmijaa", sum := "e3ec79dc1a178eec996deb754843472aced727237b82fca13cdbf4c9d5fdd2a1", func := "loop.example/g00498/laws.FnExactSameRaw", spec := "fnExactSameRaw", unfollowed := true, recurses := true, apart := false, narrowed := true }
def FnExactSameRawUptoSaid : Prop := fnExactSameRawUptoRow.holds Try.pinned (OpenSpec.upto fnExactSameRawSpec)

end Rows
end Go.Proofs.Ytigclegcemmijaa
