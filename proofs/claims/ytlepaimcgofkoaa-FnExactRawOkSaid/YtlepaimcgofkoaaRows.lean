/-
  No cell of these rows narrows 'for every input' (looked for: loops, veiled, ifaces, maps, wideKeys, modest, calm, conditions, laid).
  DERIVED. THE GIVEN ROWS OF THIS SEAT. 3 by the template 'for every input the law returns true; each argument reads behind the call as it read before'; 0 by the template 'total and deterministic' (their statements: YtlepaimcgofkoaaTotals.lean).
  GIVEN WITH THE SEED: the statements are not yours to turn. If you find one false, say at which input.
  Laid BY PROGRAM, IN A SANDBOX (cutbox-rows.mjs): the forced cells as the released guide's own fill.sh prints them over the translation b6692881f5a0e827… (all of the seat's roots in one cut). By AI agents, Wed Nov 11 2026. No macro, syntax, notation, axiom, sorry.
-/
import Derived.Test.YtlepaimcgofkoaaChecked
import GoSem.Claim
import GoSem.ClaimJoined
import GoSem.ClaimMapViews
import Derived.JoinedTies
import Derived.KernelRfl
namespace Go.Proofs.Ytlepaimcgofkoaa
/- THE CELL 'sum', in the pinned program and in every row, IS THE sha256 OF THE DUMP (.gsa) THAT YtlepaimcgofkoaaProg.lean LOADS. Nothing in Lean hashes anything: it is a label: what it is worth is what the hold of that sum in a sandbox is worth. -/
noncomputable def Try.pinned : Pinned := { name := "ytlepaimcgofkoaa", sum := "b6692881f5a0e827154f4d804930a4db39bd8273ebb9d62c591ddf4d246b05f9", checked := Try.checked }
namespace Rows
def none {H : Type} : Left H := { results := [], args := [] }

/-- 'laws.FnExactMsgCode': WHATEVER THE INPUT: true; the input reads as it did. -/
def fnExactMsgCodeSpec : ChangeSpec := { name := "fnExactMsgCode", fn := fun _ => fun
  | [d1, d2] => { results := [.lit (.bool true)], args := [d1, d2] }
  | _ => none }
def fnExactMsgCodeRow : OpenClaim := { program := "ytlepaimcgofkoaa", sum := "b6692881f5a0e827154f4d804930a4db39bd8273ebb9d62c591ddf4d246b05f9", func := "loop.example/g00498/laws.FnExactMsgCode", spec := "fnExactMsgCode", unfollowed := true, recurses := true, apart := false }
def FnExactMsgCodeSaid : Prop := fnExactMsgCodeRow.holds Try.pinned (OpenSpec.ofChange fnExactMsgCodeSpec)

/-- ITS FALSE NEIGHBOUR: 'it returns false'. Refute it at one input. -/
def fnExactMsgCodeWrong : ChangeSpec := { name := "fnExactMsgCode", fn := fun _ => fun
  | [d1, d2] => { results := [.lit (.bool false)], args := [d1, d2] }
  | _ => none }
def FnExactMsgCodeWrongFalsely : Prop := fnExactMsgCodeRow.holds Try.pinned (OpenSpec.ofChange fnExactMsgCodeWrong)

/-- 'laws.FnExactFieldCode': WHATEVER THE INPUT: true; the input reads as it did. -/
def fnExactFieldCodeSpec : ChangeSpec := { name := "fnExactFieldCode", fn := fun _ => fun
  | [d1, d2, d3] => { results := [.lit (.bool true)], args := [d1, d2, d3] }
  | _ => none }
def fnExactFieldCodeRow : OpenClaim := { program := "ytlepaimcgofkoaa", sum := "b6692881f5a0e827154f4d804930a4db39bd8273ebb9d62c591ddf4d246b05f9", func := "loop.example/g00498/laws.FnExactFieldCode", spec := "fnExactFieldCode", unfollowed := true, recurses := true, apart := false }
def FnExactFieldCodeSaid : Prop := fnExactFieldCodeRow.holds Try.pinned (OpenSpec.ofChange fnExactFieldCodeSpec)

/-- ITS FALSE NEIGHBOUR: 'it returns false'. Refute it at one input. -/
def fnExactFieldCodeWrong : ChangeSpec := { name := "fnExactFieldCode", fn := fun _ => fun
  | [d1, d2, d3] => { results := [.lit (.bool false)], args := [d1, d2, d3] }
  | _ => none }
def FnExactFieldCodeWrongFalsely : Prop := fnExactFieldCodeRow.holds Try.pinned (OpenSpec.ofChange fnExactFieldCodeWrong)

/-- 'laws.FnExactRawOk': WHATEVER THE INPUT: true; the input reads as it did. -/
def fnExactRawOkSpec : ChangeSpec := { name := "fnExactRawOk", fn := fun _ => fun
  | [d] => { results := [.lit (.bool true)], args := [d] }
  | _ => none }
def fnExactRawOkRow : OpenClaim := { program := "ytlepaimcgofkoaa", sum := "b6692881f5a0e827154f4d804930a4db39bd8273ebb9d62c591ddf4d246b05f9", func := "loop.example/g00498/laws.FnExactRawOk", spec := "fnExactRawOk", unfollowed := true, recurses := true, apart := false }
def FnExactRawOkSaid : Prop := fnExactRawOkRow.holds Try.pinned (OpenSpec.ofChange fnExactRawOkSpec)

/-- ITS FALSE NEIGHBOUR: 'it returns false'. Refute it at one input. -/
def fnExactRawOkWrong : ChangeSpec := { name := "fnExactRawOk", fn := fun _ => fun
  | [d] => { results := [.lit (.bool false)], args := [d] }
  | _ => none }
def FnExactRawOkWrongFalsely : Prop := fnExactRawOkRow.holds Try.pinned (OpenSpec.ofChange fnExactRawOkWrong)

/- THE SECOND FORM. 'bulk': how many values and letters a reading holds, each counted each time it is reached (what is shared counts as often as it is met; a slice's spare places count too). A statement '..UptoSaid' is the law's where the arguments, and the package variables that the reading takes, are together of bulk at most 1048576: NARROWER than '..Said'. Prove '..Said' where nothing that the law and all that it calls make is longer than what came in: it says more and counts as full. Else prove '..UptoSaid'. A law counts once. -/
mutual
def uptoBulk {H : Type} : DataW H → Nat
  | .lit (.string bytes) => bytes.length + 1
  | .lit _ => 1
  | .nil => 1
  | .ptr d => uptoBulk d + 1
  | .slice elems spare => uptoBulkAll elems + uptoBulkAll spare + 1
  | .agg parts => uptoBulkAll parts + 1
  | .iface _ d => uptoBulk d + 1
  | .map entries => uptoBulkEntries entries + 1
  | .held _ => 1
def uptoBulkAll {H : Type} : List (DataW H) → Nat
  | [] => 0
  | d :: r => uptoBulk d + uptoBulkAll r
def uptoBulkEntries {H : Type} : List (Lit × DataW H) → Nat
  | [] => 0
  | x :: r => uptoBulkEntry x + uptoBulkEntries r
def uptoBulkEntry {H : Type} : Lit × DataW H → Nat
  | (.string bytes, d) => bytes.length + uptoBulk d + 1
  | (_, d) => uptoBulk d + 1
 end
def uptoSmall : (H : Type) → List (DataW H) → Bool := fun _ ds => decide (uptoBulkAll ds ≤ 1048576)
def OpenSpec.upto (s : _root_.Go.ChangeSpec) : _root_.Go.OpenSpec := { _root_.Go.OpenSpec.ofChange s with cond := some uptoSmall }

/-- 'laws.FnExactMsgCode', WHERE WHAT IT READS IS OF BULK AT MOST 1048576: true; the input reads as it did. -/
def fnExactMsgCodeUptoRow : OpenClaim := { program := "ytlepaimcgofkoaa", sum := "b6692881f5a0e827154f4d804930a4db39bd8273ebb9d62c591ddf4d246b05f9", func := "loop.example/g00498/laws.FnExactMsgCode", spec := "fnExactMsgCode", unfollowed := true, recurses := true, apart := false, narrowed := true }
def FnExactMsgCodeUptoSaid : Prop := fnExactMsgCodeUptoRow.holds Try.pinned (OpenSpec.upto fnExactMsgCodeSpec)

/-- 'laws.FnExactFieldCode', WHERE WHAT IT READS IS OF BULK AT MOST 1048576: true; the input reads as it did. -/
def fnExactFieldCodeUptoRow : OpenClaim := { program := "ytlepaimcgofkoaa", sum := "b6692881f5a0e827154f4d804930a4db39bd8273ebb9d62c591ddf4d246b05f9", func := "loop.example/g00498/laws.FnExactFieldCode", spec := "fnExactFieldCode", unfollowed := true, recurses := true, apart := false, narrowed := true }
def FnExactFieldCodeUptoSaid : Prop := fnExactFieldCodeUptoRow.holds Try.pinned (OpenSpec.upto fnExactFieldCodeSpec)

/-- 'laws.FnExactRawOk', WHERE WHAT IT READS IS OF BULK AT MOST 1048576: true; the input reads as it did. -/
def fnExactRawOkUptoRow : OpenClaim := { program := "ytlepaimcgofkoaa", sum := "b6692881f5a0e827154f4d804930a4db39bd8273ebb9d62c591ddf4d246b05f9", func := "loop.example/g00498/laws.FnExactRawOk", spec := "fnExactRawOk", unfollowed := true, recurses := true, apart := false, narrowed := true }
def FnExactRawOkUptoSaid : Prop := fnExactRawOkUptoRow.holds Try.pinned (OpenSpec.upto fnExactRawOkSpec)

end Rows
end Go.Proofs.Ytlepaimcgofkoaa
