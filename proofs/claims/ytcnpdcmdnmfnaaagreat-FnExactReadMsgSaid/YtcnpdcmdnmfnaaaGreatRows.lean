/-
  No cell of these rows narrows 'for every input' (looked for: loops, veiled, ifaces, maps, wideKeys, modest, calm, conditions, laid).
  DERIVED. THE GIVEN ROWS OF THIS SEAT. 4 by the template 'for every input the law returns true; each argument reads behind the call as it read before'; 0 by the template 'total and deterministic' (their statements: YtcnpdcmdnmfnaaaGreatTotals.lean).
  GIVEN WITH THE SEED: the statements are not yours to turn. If you find one false, say at which input.
  Laid BY PROGRAM, IN A SANDBOX (cutbox-rows.mjs): the forced cells as the released guide's own fill.sh prints them over the translation 45e0a668aa178125… (all of the seat's roots in one cut). By AI agents, Wed Nov 11 2026. No macro, syntax, notation, axiom, sorry.
-/
import Derived.Test.YtcnpdcmdnmfnaaaGreatChecked
import GoSem.Claim
import GoSem.ClaimJoined
import GoSem.ClaimMapViews
import Derived.JoinedTies
import Derived.KernelRfl
namespace Go.Proofs.YtcnpdcmdnmfnaaaGreat
/- THE CELL 'sum', in the pinned program and in every row, IS THE sha256 OF THE DUMP (.gsa) THAT YtcnpdcmdnmfnaaaGreatProg.lean LOADS. Nothing in Lean hashes anything: it is a label: what it is worth is what the hold of that sum in a sandbox is worth. -/
noncomputable def Tryz.pinned : Pinned := { name := "ytcnpdcmdnmfnaaagreat", sum := "45e0a668aa17812572c68d1559503eb28ec0a77dbe326944450790b728fe5389", checked := Tryz.checked }
namespace Rows
def none {H : Type} : Left H := { results := [], args := [] }

/-- 'laws.FnMsgTwice': WHATEVER THE INPUT: true; the input reads as it did. -/
def fnMsgTwiceSpec : ChangeSpec := { name := "fnMsgTwice", fn := fun _ => fun
  | [d] => { results := [.lit (.bool true)], args := [d] }
  | _ => none }
def fnMsgTwiceRow : OpenClaim := { program := "ytcnpdcmdnmfnaaagreat", sum := "45e0a668aa17812572c68d1559503eb28ec0a77dbe326944450790b728fe5389", func := "loop.example/g00498/laws.FnMsgTwice", spec := "fnMsgTwice", unfollowed := true, recurses := true, apart := false }
def FnMsgTwiceSaid : Prop := fnMsgTwiceRow.holds Tryz.pinned (OpenSpec.ofChange fnMsgTwiceSpec)

/-- ITS FALSE NEIGHBOUR: 'it returns false'. Refute it at one input. -/
def fnMsgTwiceWrong : ChangeSpec := { name := "fnMsgTwice", fn := fun _ => fun
  | [d] => { results := [.lit (.bool false)], args := [d] }
  | _ => none }
def FnMsgTwiceWrongFalsely : Prop := fnMsgTwiceRow.holds Tryz.pinned (OpenSpec.ofChange fnMsgTwiceWrong)

/-- 'laws.FnMsgCut': WHATEVER THE INPUT: true; the input reads as it did. -/
def fnMsgCutSpec : ChangeSpec := { name := "fnMsgCut", fn := fun _ => fun
  | [d] => { results := [.lit (.bool true)], args := [d] }
  | _ => none }
def fnMsgCutRow : OpenClaim := { program := "ytcnpdcmdnmfnaaagreat", sum := "45e0a668aa17812572c68d1559503eb28ec0a77dbe326944450790b728fe5389", func := "loop.example/g00498/laws.FnMsgCut", spec := "fnMsgCut", unfollowed := true, recurses := true, apart := false }
def FnMsgCutSaid : Prop := fnMsgCutRow.holds Tryz.pinned (OpenSpec.ofChange fnMsgCutSpec)

/-- ITS FALSE NEIGHBOUR: 'it returns false'. Refute it at one input. -/
def fnMsgCutWrong : ChangeSpec := { name := "fnMsgCut", fn := fun _ => fun
  | [d] => { results := [.lit (.bool false)], args := [d] }
  | _ => none }
def FnMsgCutWrongFalsely : Prop := fnMsgCutRow.holds Tryz.pinned (OpenSpec.ofChange fnMsgCutWrong)

/-- 'laws.FnMsgDeep': WHATEVER THE INPUT: true; the input reads as it did. -/
def fnMsgDeepSpec : ChangeSpec := { name := "fnMsgDeep", fn := fun _ => fun
  | [d] => { results := [.lit (.bool true)], args := [d] }
  | _ => none }
def fnMsgDeepRow : OpenClaim := { program := "ytcnpdcmdnmfnaaagreat", sum := "45e0a668aa17812572c68d1559503eb28ec0a77dbe326944450790b728fe5389", func := "loop.example/g00498/laws.FnMsgDeep", spec := "fnMsgDeep", unfollowed := true, recurses := true, apart := false }
def FnMsgDeepSaid : Prop := fnMsgDeepRow.holds Tryz.pinned (OpenSpec.ofChange fnMsgDeepSpec)

/-- ITS FALSE NEIGHBOUR: 'it returns false'. Refute it at one input. -/
def fnMsgDeepWrong : ChangeSpec := { name := "fnMsgDeep", fn := fun _ => fun
  | [d] => { results := [.lit (.bool false)], args := [d] }
  | _ => none }
def FnMsgDeepWrongFalsely : Prop := fnMsgDeepRow.holds Tryz.pinned (OpenSpec.ofChange fnMsgDeepWrong)

/-- 'laws.FnExactReadMsg': WHATEVER THE INPUT: true; the input reads as it did. -/
def fnExactReadMsgSpec : ChangeSpec := { name := "fnExactReadMsg", fn := fun _ => fun
  | [d1, d2, d3, d4, d5, d6] => { results := [.lit (.bool true)], args := [d1, d2, d3, d4, d5, d6] }
  | _ => none }
def fnExactReadMsgRow : OpenClaim := { program := "ytcnpdcmdnmfnaaagreat", sum := "45e0a668aa17812572c68d1559503eb28ec0a77dbe326944450790b728fe5389", func := "loop.example/g00498/laws.FnExactReadMsg", spec := "fnExactReadMsg", unfollowed := true, recurses := true, apart := false }
def FnExactReadMsgSaid : Prop := fnExactReadMsgRow.holds Tryz.pinned (OpenSpec.ofChange fnExactReadMsgSpec)

/-- ITS FALSE NEIGHBOUR: 'it returns false'. Refute it at one input. -/
def fnExactReadMsgWrong : ChangeSpec := { name := "fnExactReadMsg", fn := fun _ => fun
  | [d1, d2, d3, d4, d5, d6] => { results := [.lit (.bool false)], args := [d1, d2, d3, d4, d5, d6] }
  | _ => none }
def FnExactReadMsgWrongFalsely : Prop := fnExactReadMsgRow.holds Tryz.pinned (OpenSpec.ofChange fnExactReadMsgWrong)

/- THE SECOND FORM. 'bulk': how many values and letters a reading holds, each counted each time it is reached (what is shared counts as often as it is met; a slice's spare places count too). A statement '..UptoSaid' is the law's where the arguments, and the package variables that the reading takes, are together of bulk at most 1048576: NARROWER than '..Said'. Prove '..Said' where nothing that the law and all that it calls make is longer than what came in: it says more and counts as full. Else prove '..UptoSaid'. A law counts once. -/
mutual
def uptoBulk {H : Type} : DataW H → Nat
  | .lit (.string bytes) => bytes.length + 1
  | .lit _ => 1
  | .nil => 1
  | .ptr d => uptoBulk d + 1
  | .slice elems spare => uptoBulkAll elems + uptoBulkAll spare + 1
  | .agg parts => uptoBulkAll parts + 1
  | .iface _ d => uptoBulk d + 1
  | .map entries => uptoBulkEntries entries + 1
  | .held _ => 1
def uptoBulkAll {H : Type} : List (DataW H) → Nat
  | [] => 0
  | d :: r => uptoBulk d + uptoBulkAll r
def uptoBulkEntries {H : Type} : List (Lit × DataW H) → Nat
  | [] => 0
  | x :: r => uptoBulkEntry x + uptoBulkEntries r
def uptoBulkEntry {H : Type} : Lit × DataW H → Nat
  | (.string bytes, d) => bytes.length + uptoBulk d + 1
  | (_, d) => uptoBulk d + 1
 end
def uptoSmall : (H : Type) → List (DataW H) → Bool := fun _ ds => decide (uptoBulkAll ds ≤ 1048576)
def OpenSpec.upto (s : _root_.Go.ChangeSpec) : _root_.Go.OpenSpec := { _root_.Go.OpenSpec.ofChange s with cond := some uptoSmall }

/-- 'laws.FnMsgTwice', WHERE WHAT IT READS IS OF BULK AT MOST 1048576: true; the input reads as it did. -/
def fnMsgTwiceUptoRow : OpenClaim := { program := "ytcnpdcmdnmfnaaagreat", sum := "45e0a668aa17812572c68d1559503eb28ec0a77dbe326944450790b728fe5389", func := "loop.example/g00498/laws.FnMsgTwice", spec := "fnMsgTwice", unfollowed := true, recurses := true, apart := false, narrowed := true }
def FnMsgTwiceUptoSaid : Prop := fnMsgTwiceUptoRow.holds Tryz.pinned (OpenSpec.upto fnMsgTwiceSpec)

/-- 'laws.FnMsgCut', WHERE WHAT IT READS IS OF BULK AT MOST 1048576: true; the input reads as it did. -/
def fnMsgCutUptoRow : OpenClaim := { program := "ytcnpdcmdnmfnaaagreat", sum := "45e0a668aa17812572c68d1559503eb28ec0a77dbe326944450790b728fe5389", func := "loop.example/g00498/laws.FnMsgCut", spec := "fnMsgCut", unfollowed := true, recurses := true, apart := false, narrowed := true }
def FnMsgCutUptoSaid : Prop := fnMsgCutUptoRow.holds Tryz.pinned (OpenSpec.upto fnMsgCutSpec)

/-- 'laws.FnMsgDeep', WHERE WHAT IT READS IS OF BULK AT MOST 1048576: true; the input reads as it did. -/
def fnMsgDeepUptoRow : OpenClaim := { program := "ytcnpdcmdnmfnaaagreat", sum := "45e0a668aa17812572c68d1559503eb28ec0a77dbe326944450790b728fe5389", func := "loop.example/g00498/laws.FnMsgDeep", spec := "fnMsgDeep", unfollowed := true, recurses := true, apart := false, narrowed := true }
def FnMsgDeepUptoSaid : Prop := fnMsgDeepUptoRow.holds Tryz.pinned (OpenSpec.upto fnMsgDeepSpec)

/-- 'laws.FnExactReadMsg', WHERE WHAT IT READS IS OF BULK AT MOST 1048576: true; the input reads as it did. -/
def fnExactReadMsgUptoRow : OpenClaim := { program := "ytcnpdcmdnmfnaaagreat", sum := "45e0a668aa17812572c68d1559503eb28ec0a77dbe326944450790b728fe5389", func := "loop.example/g00498/laws.FnExactReadMsg", spec := "fnExactReadMsg", unfollowed := true, recurses := true, apart := false, narrowed := true }
def FnExactReadMsgUptoSaid : Prop := fnExactReadMsgUptoRow.holds Tryz.pinned (OpenSpec.upto fnExactReadMsgSpec)

end Rows
end Go.Proofs.YtcnpdcmdnmfnaaaGreat
