/-
  No cell of these rows narrows 'for every input' (looked for: loops, veiled, ifaces, maps, wideKeys, modest, calm, conditions, laid).
  DERIVED. THE GIVEN ROWS OF THIS SEAT. 11 by the template 'for every input the law returns true; each argument reads behind the call as it read before'; 0 by the template 'total and deterministic' (their statements: YtdnpambdonhliaaTotals.lean).
  GIVEN WITH THE SEED: the statements are not yours to turn. If you find one false, say at which input.
  Laid BY PROGRAM, IN A SANDBOX (cutbox-rows.mjs): the forced cells as the released guide's own fill.sh prints them over the translation 3120625c96d4beed… (all of the seat's roots in one cut). By AI agents, Wed Nov 11 2026. No macro, syntax, notation, axiom, sorry.
-/
import Derived.Test.YtdnpambdonhliaaChecked
import GoSem.Claim
import GoSem.ClaimJoined
import GoSem.ClaimMapViews
import Derived.JoinedTies
import Derived.KernelRfl
namespace Go.Proofs.Ytdnpambdonhliaa
/- THE CELL 'sum', in the pinned program and in every row, IS THE sha256 OF THE DUMP (.gsa) THAT YtdnpambdonhliaaProg.lean LOADS. Nothing in Lean hashes anything: it is a label: what it is worth is what the hold of that sum in a sandbox is worth. -/
noncomputable def Try.pinned : Pinned := { name := "ytdnpambdonhliaa", sum := "3120625c96d4beedd37c4915e9a4306e424d2a96916ff721cbb5c826c41d8fed", checked := Try.checked }
namespace Rows
def none {H : Type} : Left H := { results := [], args := [] }

/-- 'laws.FnScan': WHATEVER THE INPUT: true; the input reads as it did. -/
def fnScanSpec : ChangeSpec := { name := "fnScan", fn := fun _ => fun
  | [d] => { results := [.lit (.bool true)], args := [d] }
  | _ => none }
def fnScanRow : OpenClaim := { program := "ytdnpambdonhliaa", sum := "3120625c96d4beedd37c4915e9a4306e424d2a96916ff721cbb5c826c41d8fed", func := "loop.example/g00498/laws.FnScan", spec := "fnScan", apart := false }
def FnScanSaid : Prop := fnScanRow.holds Try.pinned (OpenSpec.ofChange fnScanSpec)

/-- ITS FALSE NEIGHBOUR: 'it returns false'. Refute it at one input. -/
def fnScanWrong : ChangeSpec := { name := "fnScan", fn := fun _ => fun
  | [d] => { results := [.lit (.bool false)], args := [d] }
  | _ => none }
def FnScanWrongFalsely : Prop := fnScanRow.holds Try.pinned (OpenSpec.ofChange fnScanWrong)

/-- 'laws.FnScanCut': WHATEVER THE INPUT: true; the input reads as it did. -/
def fnScanCutSpec : ChangeSpec := { name := "fnScanCut", fn := fun _ => fun
  | [d] => { results := [.lit (.bool true)], args := [d] }
  | _ => none }
def fnScanCutRow : OpenClaim := { program := "ytdnpambdonhliaa", sum := "3120625c96d4beedd37c4915e9a4306e424d2a96916ff721cbb5c826c41d8fed", func := "loop.example/g00498/laws.FnScanCut", spec := "fnScanCut", apart := false }
def FnScanCutSaid : Prop := fnScanCutRow.holds Try.pinned (OpenSpec.ofChange fnScanCutSpec)

/-- ITS FALSE NEIGHBOUR: 'it returns false'. Refute it at one input. -/
def fnScanCutWrong : ChangeSpec := { name := "fnScanCut", fn := fun _ => fun
  | [d] => { results := [.lit (.bool false)], args := [d] }
  | _ => none }
def FnScanCutWrongFalsely : Prop := fnScanCutRow.holds Try.pinned (OpenSpec.ofChange fnScanCutWrong)

/-- 'laws.FnScanRight': WHATEVER THE INPUT: true; the input reads as it did. -/
def fnScanRightSpec : ChangeSpec := { name := "fnScanRight", fn := fun _ => fun
  | [d] => { results := [.lit (.bool true)], args := [d] }
  | _ => none }
def fnScanRightRow : OpenClaim := { program := "ytdnpambdonhliaa", sum := "3120625c96d4beedd37c4915e9a4306e424d2a96916ff721cbb5c826c41d8fed", func := "loop.example/g00498/laws.FnScanRight", spec := "fnScanRight", apart := false }
def FnScanRightSaid : Prop := fnScanRightRow.holds Try.pinned (OpenSpec.ofChange fnScanRightSpec)

/-- ITS FALSE NEIGHBOUR: 'it returns false'. Refute it at one input. -/
def fnScanRightWrong : ChangeSpec := { name := "fnScanRight", fn := fun _ => fun
  | [d] => { results := [.lit (.bool false)], args := [d] }
  | _ => none }
def FnScanRightWrongFalsely : Prop := fnScanRightRow.holds Try.pinned (OpenSpec.ofChange fnScanRightWrong)

/-- 'laws.FnFix': WHATEVER THE INPUT: true; the input reads as it did. -/
def fnFixSpec : ChangeSpec := { name := "fnFix", fn := fun _ => fun
  | [d] => { results := [.lit (.bool true)], args := [d] }
  | _ => none }
def fnFixRow : OpenClaim := { program := "ytdnpambdonhliaa", sum := "3120625c96d4beedd37c4915e9a4306e424d2a96916ff721cbb5c826c41d8fed", func := "loop.example/g00498/laws.FnFix", spec := "fnFix", apart := false }
def FnFixSaid : Prop := fnFixRow.holds Try.pinned (OpenSpec.ofChange fnFixSpec)

/-- ITS FALSE NEIGHBOUR: 'it returns false'. Refute it at one input. -/
def fnFixWrong : ChangeSpec := { name := "fnFix", fn := fun _ => fun
  | [d] => { results := [.lit (.bool false)], args := [d] }
  | _ => none }
def FnFixWrongFalsely : Prop := fnFixRow.holds Try.pinned (OpenSpec.ofChange fnFixWrong)

/-- 'laws.FnGetFix': WHATEVER THE INPUT: true; the input reads as it did. -/
def fnGetFixSpec : ChangeSpec := { name := "fnGetFix", fn := fun _ => fun
  | [d] => { results := [.lit (.bool true)], args := [d] }
  | _ => none }
def fnGetFixRow : OpenClaim := { program := "ytdnpambdonhliaa", sum := "3120625c96d4beedd37c4915e9a4306e424d2a96916ff721cbb5c826c41d8fed", func := "loop.example/g00498/laws.FnGetFix", spec := "fnGetFix", apart := false }
def FnGetFixSaid : Prop := fnGetFixRow.holds Try.pinned (OpenSpec.ofChange fnGetFixSpec)

/-- ITS FALSE NEIGHBOUR: 'it returns false'. Refute it at one input. -/
def fnGetFixWrong : ChangeSpec := { name := "fnGetFix", fn := fun _ => fun
  | [d] => { results := [.lit (.bool false)], args := [d] }
  | _ => none }
def FnGetFixWrongFalsely : Prop := fnGetFixRow.holds Try.pinned (OpenSpec.ofChange fnGetFixWrong)

/-- 'laws.FnExactScanOk': WHATEVER THE INPUT: true; the input reads as it did. -/
def fnExactScanOkSpec : ChangeSpec := { name := "fnExactScanOk", fn := fun _ => fun
  | [d] => { results := [.lit (.bool true)], args := [d] }
  | _ => none }
def fnExactScanOkRow : OpenClaim := { program := "ytdnpambdonhliaa", sum := "3120625c96d4beedd37c4915e9a4306e424d2a96916ff721cbb5c826c41d8fed", func := "loop.example/g00498/laws.FnExactScanOk", spec := "fnExactScanOk", apart := false }
def FnExactScanOkSaid : Prop := fnExactScanOkRow.holds Try.pinned (OpenSpec.ofChange fnExactScanOkSpec)

/-- ITS FALSE NEIGHBOUR: 'it returns false'. Refute it at one input. -/
def fnExactScanOkWrong : ChangeSpec := { name := "fnExactScanOk", fn := fun _ => fun
  | [d] => { results := [.lit (.bool false)], args := [d] }
  | _ => none }
def FnExactScanOkWrongFalsely : Prop := fnExactScanOkRow.holds Try.pinned (OpenSpec.ofChange fnExactScanOkWrong)

/-- 'laws.FnExactScanByte': WHATEVER THE INPUT: true; the input reads as it did. -/
def fnExactScanByteSpec : ChangeSpec := { name := "fnExactScanByte", fn := fun _ => fun
  | [d1, d2] => { results := [.lit (.bool true)], args := [d1, d2] }
  | _ => none }
def fnExactScanByteRow : OpenClaim := { program := "ytdnpambdonhliaa", sum := "3120625c96d4beedd37c4915e9a4306e424d2a96916ff721cbb5c826c41d8fed", func := "loop.example/g00498/laws.FnExactScanByte", spec := "fnExactScanByte", apart := false }
def FnExactScanByteSaid : Prop := fnExactScanByteRow.holds Try.pinned (OpenSpec.ofChange fnExactScanByteSpec)

/-- ITS FALSE NEIGHBOUR: 'it returns false'. Refute it at one input. -/
def fnExactScanByteWrong : ChangeSpec := { name := "fnExactScanByte", fn := fun _ => fun
  | [d1, d2] => { results := [.lit (.bool false)], args := [d1, d2] }
  | _ => none }
def FnExactScanByteWrongFalsely : Prop := fnExactScanByteRow.holds Try.pinned (OpenSpec.ofChange fnExactScanByteWrong)

/-- 'laws.FnExactScanText': WHATEVER THE INPUT: true; the input reads as it did. -/
def fnExactScanTextSpec : ChangeSpec := { name := "fnExactScanText", fn := fun _ => fun
  | [d1, d2] => { results := [.lit (.bool true)], args := [d1, d2] }
  | _ => none }
def fnExactScanTextRow : OpenClaim := { program := "ytdnpambdonhliaa", sum := "3120625c96d4beedd37c4915e9a4306e424d2a96916ff721cbb5c826c41d8fed", func := "loop.example/g00498/laws.FnExactScanText", spec := "fnExactScanText", apart := false }
def FnExactScanTextSaid : Prop := fnExactScanTextRow.holds Try.pinned (OpenSpec.ofChange fnExactScanTextSpec)

/-- ITS FALSE NEIGHBOUR: 'it returns false'. Refute it at one input. -/
def fnExactScanTextWrong : ChangeSpec := { name := "fnExactScanText", fn := fun _ => fun
  | [d1, d2] => { results := [.lit (.bool false)], args := [d1, d2] }
  | _ => none }
def FnExactScanTextWrongFalsely : Prop := fnExactScanTextRow.holds Try.pinned (OpenSpec.ofChange fnExactScanTextWrong)

/-- 'laws.FnExactFixByte': WHATEVER THE INPUT: true; the input reads as it did. -/
def fnExactFixByteSpec : ChangeSpec := { name := "fnExactFixByte", fn := fun _ => fun
  | [d1, d2] => { results := [.lit (.bool true)], args := [d1, d2] }
  | _ => none }
def fnExactFixByteRow : OpenClaim := { program := "ytdnpambdonhliaa", sum := "3120625c96d4beedd37c4915e9a4306e424d2a96916ff721cbb5c826c41d8fed", func := "loop.example/g00498/laws.FnExactFixByte", spec := "fnExactFixByte", apart := false }
def FnExactFixByteSaid : Prop := fnExactFixByteRow.holds Try.pinned (OpenSpec.ofChange fnExactFixByteSpec)

/-- ITS FALSE NEIGHBOUR: 'it returns false'. Refute it at one input. -/
def fnExactFixByteWrong : ChangeSpec := { name := "fnExactFixByte", fn := fun _ => fun
  | [d1, d2] => { results := [.lit (.bool false)], args := [d1, d2] }
  | _ => none }
def FnExactFixByteWrongFalsely : Prop := fnExactFixByteRow.holds Try.pinned (OpenSpec.ofChange fnExactFixByteWrong)

/-- 'laws.FnExactPutFix': WHATEVER THE INPUT: true; the input reads as it did. -/
def fnExactPutFixSpec : ChangeSpec := { name := "fnExactPutFix", fn := fun _ => fun
  | [d1, d2] => { results := [.lit (.bool true)], args := [d1, d2] }
  | _ => none }
def fnExactPutFixRow : OpenClaim := { program := "ytdnpambdonhliaa", sum := "3120625c96d4beedd37c4915e9a4306e424d2a96916ff721cbb5c826c41d8fed", func := "loop.example/g00498/laws.FnExactPutFix", spec := "fnExactPutFix", apart := false }
def FnExactPutFixSaid : Prop := fnExactPutFixRow.holds Try.pinned (OpenSpec.ofChange fnExactPutFixSpec)

/-- ITS FALSE NEIGHBOUR: 'it returns false'. Refute it at one input. -/
def fnExactPutFixWrong : ChangeSpec := { name := "fnExactPutFix", fn := fun _ => fun
  | [d1, d2] => { results := [.lit (.bool false)], args := [d1, d2] }
  | _ => none }
def FnExactPutFixWrongFalsely : Prop := fnExactPutFixRow.holds Try.pinned (OpenSpec.ofChange fnExactPutFixWrong)

/-- 'laws.FnExactGetFix': WHATEVER THE INPUT: true; the input reads as it did. -/
def fnExactGetFixSpec : ChangeSpec := { name := "fnExactGetFix", fn := fun _ => fun
  | [d1, d2, d3] => { results := [.lit (.bool true)], args := [d1, d2, d3] }
  | _ => none }
def fnExactGetFixRow : OpenClaim := { program := "ytdnpambdonhliaa", sum := "3120625c96d4beedd37c4915e9a4306e424d2a96916ff721cbb5c826c41d8fed", func := "loop.example/g00498/laws.FnExactGetFix", spec := "fnExactGetFix", apart := false }
def FnExactGetFixSaid : Prop := fnExactGetFixRow.holds Try.pinned (OpenSpec.ofChange fnExactGetFixSpec)

/-- ITS FALSE NEIGHBOUR: 'it returns false'. Refute it at one input. -/
def fnExactGetFixWrong : ChangeSpec := { name := "fnExactGetFix", fn := fun _ => fun
  | [d1, d2, d3] => { results := [.lit (.bool false)], args := [d1, d2, d3] }
  | _ => none }
def FnExactGetFixWrongFalsely : Prop := fnExactGetFixRow.holds Try.pinned (OpenSpec.ofChange fnExactGetFixWrong)

/- THE SECOND FORM. 'bulk': how many values and letters a reading holds, each counted each time it is reached (what is shared counts as often as it is met; a slice's spare places count too). A statement '..UptoSaid' is the law's where the arguments, and the package variables that the reading takes, are together of bulk at most 1048576: NARROWER than '..Said'. Prove '..Said' where nothing that the law and all that it calls make is longer than what came in: it says more and counts as full. Else prove '..UptoSaid'. A law counts once. -/
mutual
def uptoBulk {H : Type} : DataW H → Nat
  | .lit (.string bytes) => bytes.length + 1
  | .lit _ => 1
  | .nil => 1
  | .ptr d => uptoBulk d + 1
  | .slice elems spare => uptoBulkAll elems + uptoBulkAll spare + 1
  | .agg parts => uptoBulkAll parts + 1
  | .iface _ d => uptoBulk d + 1
  | .map entries => uptoBulkEntries entries + 1
  | .held _ => 1
def uptoBulkAll {H : Type} : List (DataW H) → Nat
  | [] => 0
  | d :: r => uptoBulk d + uptoBulkAll r
def uptoBulkEntries {H : Type} : List (Lit × DataW H) → Nat
  | [] => 0
  | x :: r => uptoBulkEntry x + uptoBulkEntries r
def uptoBulkEntry {H : Type} : Lit × DataW H → Nat
  | (.string bytes, d) => bytes.length + uptoBulk d + 1
  | (_, d) => uptoBulk d + 1
 end
def uptoSmall : (H : Type) → List (DataW H) → Bool := fun _ ds => decide (uptoBulkAll ds ≤ 1048576)
def OpenSpec.upto (s : _root_.Go.ChangeSpec) : _root_.Go.OpenSpec := { _root_.Go.OpenSpec.ofChange s with cond := some uptoSmall }

/-- 'laws.FnScan', WHERE WHAT IT READS IS OF BULK AT MOST 1048576: true; the input reads as it did. -/
def fnScanUptoRow : OpenClaim := { program := "ytdnpambdonhliaa", sum := "3120625c96d4beedd37c4915e9a4306e424d2a96916ff721cbb5c826c41d8fed", func := "loop.example/g00498/laws.FnScan", spec := "fnScan", apart := false, narrowed := true }
def FnScanUptoSaid : Prop := fnScanUptoRow.holds Try.pinned (OpenSpec.upto fnScanSpec)

/-- 'laws.FnScanCut', WHERE WHAT IT READS IS OF BULK AT MOST 1048576: true; the input reads as it did. -/
def fnScanCutUptoRow : OpenClaim := { program := "ytdnpambdonhliaa", sum := "3120625c96d4beedd37c4915e9a4306e424d2a96916ff721cbb5c826c41d8fed", func := "loop.example/g00498/laws.FnScanCut", spec := "fnScanCut", apart := false, narrowed := true }
def FnScanCutUptoSaid : Prop := fnScanCutUptoRow.holds Try.pinned (OpenSpec.upto fnScanCutSpec)

/-- 'laws.FnScanRight', WHERE WHAT IT READS IS OF BULK AT MOST 1048576: true; the input reads as it did. -/
def fnScanRightUptoRow : OpenClaim := { program := "ytdnpambdonhliaa", sum := "3120625c96d4beedd37c4915e9a4306e424d2a96916ff721cbb5c826c41d8fed", func := "loop.example/g00498/laws.FnScanRight", spec := "fnScanRight", apart := false, narrowed := true }
def FnScanRightUptoSaid : Prop := fnScanRightUptoRow.holds Try.pinned (OpenSpec.upto fnScanRightSpec)

/-- 'laws.FnFix', WHERE WHAT IT READS IS OF BULK AT MOST 1048576: true; the input reads as it did. -/
def fnFixUptoRow : OpenClaim := { program := "ytdnpambdonhliaa", sum := "3120625c96d4beedd37c4915e9a4306e424d2a96916ff721cbb5c826c41d8fed", func := "loop.example/g00498/laws.FnFix", spec := "fnFix", apart := false, narrowed := true }
def FnFixUptoSaid : Prop := fnFixUptoRow.holds Try.pinned (OpenSpec.upto fnFixSpec)

/-- 'laws.FnGetFix', WHERE WHAT IT READS IS OF BULK AT MOST 1048576: true; the input reads as it did. -/
def fnGetFixUptoRow : OpenClaim := { program := "ytdnpambdonhliaa", sum := "3120625c96d4beedd37c4915e9a4306e424d2a96916ff721cbb5c826c41d8fed", func := "loop.example/g00498/laws.FnGetFix", spec := "fnGetFix", apart := false, narrowed := true }
def FnGetFixUptoSaid : Prop := fnGetFixUptoRow.holds Try.pinned (OpenSpec.upto fnGetFixSpec)

/-- 'laws.FnExactScanOk', WHERE WHAT IT READS IS OF BULK AT MOST 1048576: true; the input reads as it did. -/
def fnExactScanOkUptoRow : OpenClaim := { program := "ytdnpambdonhliaa", sum := "3120625c96d4beedd37c4915e9a4306e424d2a96916ff721cbb5c826c41d8fed", func := "loop.example/g00498/laws.FnExactScanOk", spec := "fnExactScanOk", apart := false, narrowed := true }
def FnExactScanOkUptoSaid : Prop := fnExactScanOkUptoRow.holds Try.pinned (OpenSpec.upto fnExactScanOkSpec)

/-- 'laws.FnExactScanByte', WHERE WHAT IT READS IS OF BULK AT MOST 1048576: true; the input reads as it did. -/
def fnExactScanByteUptoRow : OpenClaim := { program := "ytdnpambdonhliaa", sum := "3120625c96d4beedd37c4915e9a4306e424d2a96916ff721cbb5c826c41d8fed", func := "loop.example/g00498/laws.FnExactScanByte", spec := "fnExactScanByte", apart := false, narrowed := true }
def FnExactScanByteUptoSaid : Prop := fnExactScanByteUptoRow.holds Try.pinned (OpenSpec.upto fnExactScanByteSpec)

/-- 'laws.FnExactScanText', WHERE WHAT IT READS IS OF BULK AT MOST 1048576: true; the input reads as it did. -/
def fnExactScanTextUptoRow : OpenClaim := { program := "ytdnpambdonhliaa", sum := "3120625c96d4beedd37c4915e9a4306e424d2a96916ff721cbb5c826c41d8fed", func := "loop.example/g00498/laws.FnExactScanText", spec := "fnExactScanText", apart := false, narrowed := true }
def FnExactScanTextUptoSaid : Prop := fnExactScanTextUptoRow.holds Try.pinned (OpenSpec.upto fnExactScanTextSpec)

/-- 'laws.FnExactFixByte', WHERE WHAT IT READS IS OF BULK AT MOST 1048576: true; the input reads as it did. -/
def fnExactFixByteUptoRow : OpenClaim := { program := "ytdnpambdonhliaa", sum := "3120625c96d4beedd37c4915e9a4306e424d2a96916ff721cbb5c826c41d8fed", func := "loop.example/g00498/laws.FnExactFixByte", spec := "fnExactFixByte", apart := false, narrowed := true }
def FnExactFixByteUptoSaid : Prop := fnExactFixByteUptoRow.holds Try.pinned (OpenSpec.upto fnExactFixByteSpec)

/-- 'laws.FnExactPutFix', WHERE WHAT IT READS IS OF BULK AT MOST 1048576: true; the input reads as it did. -/
def fnExactPutFixUptoRow : OpenClaim := { program := "ytdnpambdonhliaa", sum := "3120625c96d4beedd37c4915e9a4306e424d2a96916ff721cbb5c826c41d8fed", func := "loop.example/g00498/laws.FnExactPutFix", spec := "fnExactPutFix", apart := false, narrowed := true }
def FnExactPutFixUptoSaid : Prop := fnExactPutFixUptoRow.holds Try.pinned (OpenSpec.upto fnExactPutFixSpec)

/-- 'laws.FnExactGetFix', WHERE WHAT IT READS IS OF BULK AT MOST 1048576: true; the input reads as it did. -/
def fnExactGetFixUptoRow : OpenClaim := { program := "ytdnpambdonhliaa", sum := "3120625c96d4beedd37c4915e9a4306e424d2a96916ff721cbb5c826c41d8fed", func := "loop.example/g00498/laws.FnExactGetFix", spec := "fnExactGetFix", apart := false, narrowed := true }
def FnExactGetFixUptoSaid : Prop := fnExactGetFixUptoRow.holds Try.pinned (OpenSpec.upto fnExactGetFixSpec)

end Rows
end Go.Proofs.Ytdnpambdonhliaa
