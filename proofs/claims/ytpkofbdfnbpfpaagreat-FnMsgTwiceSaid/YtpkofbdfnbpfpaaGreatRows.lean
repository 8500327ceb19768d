/-
  No cell of these rows narrows 'for every input' (looked for: loops, veiled, ifaces, maps, wideKeys, modest, calm, conditions, laid).
  DERIVED. THE GIVEN ROWS OF THIS SEAT. 13 by the template 'for every input the law returns true; each argument reads behind the call as it read before'; 0 by the template 'total and deterministic' (their statements: YtpkofbdfnbpfpaaGreatTotals.lean).
  GIVEN WITH THE SEED: the statements are not yours to turn. If you find one false, say at which input.
  Laid BY PROGRAM, IN A SANDBOX (cutbox-rows.mjs): the forced cells as the released guide's own fill.sh prints them over the translation e4b808cd7522eb8f… (all of the seat's roots in one cut). By AI agents, Wed Nov 11 2026. No macro, syntax, notation, axiom, sorry.
-/
import Derived.Test.YtpkofbdfnbpfpaaGreatChecked
import GoSem.Claim
import GoSem.ClaimJoined
import GoSem.ClaimMapViews
import Derived.JoinedTies
import Derived.KernelRfl
namespace Go.Proofs.YtpkofbdfnbpfpaaGreat
/- THE CELL 'sum', in the pinned program and in every row, IS THE sha256 OF THE DUMP (.gsa) THAT YtpkofbdfnbpfpaaGreatProg.lean LOADS. Nothing in Lean hashes anything: it is a label: what it is worth is what the hold of that sum in a sandbox is worth. -/
noncomputable def Tryz.pinned : Pinned := { name := "ytpkofbdfnbpfpaagreat", sum := "e4b808cd7522eb8f3643412d31c767461cd5a62fd8f7edd9d19b3d4a5bdf60a6", checked := Tryz.checked }
namespace Rows
def none {H : Type} : Left H := { results := [], args := [] }

/-- 'laws.FnMsgTwice': WHATEVER THE INPUT: true; the input reads as it did. -/
def fnMsgTwiceSpec : ChangeSpec := { name := "fnMsgTwice", fn := fun _ => fun
  | [d] => { results := [.lit (.bool true)], args := [d] }
  | _ => none }
def fnMsgTwiceRow : OpenClaim := { program := "ytpkofbdfnbpfpaagreat", sum := "e4b808cd7522eb8f3643412d31c767461cd5a62fd8f7edd9d19b3d4a5bdf60a6", func := "loop.example/g00498/laws.FnMsgTwice", spec := "fnMsgTwice", unfollowed := true, recurses := true, apart := false }
def FnMsgTwiceSaid : Prop := fnMsgTwiceRow.holds Tryz.pinned (OpenSpec.ofChange fnMsgTwiceSpec)

/-- ITS FALSE NEIGHBOUR: 'it returns false'. Refute it at one input. -/
def fnMsgTwiceWrong : ChangeSpec := { name := "fnMsgTwice", fn := fun _ => fun
  | [d] => { results := [.lit (.bool false)], args := [d] }
  | _ => none }
def FnMsgTwiceWrongFalsely : Prop := fnMsgTwiceRow.holds Tryz.pinned (OpenSpec.ofChange fnMsgTwiceWrong)

/-- 'laws.FnMsgCut': WHATEVER THE INPUT: true; the input reads as it did. -/
def fnMsgCutSpec : ChangeSpec := { name := "fnMsgCut", fn := fun _ => fun
  | [d] => { results := [.lit (.bool true)], args := [d] }
  | _ => none }
def fnMsgCutRow : OpenClaim := { program := "ytpkofbdfnbpfpaagreat", sum := "e4b808cd7522eb8f3643412d31c767461cd5a62fd8f7edd9d19b3d4a5bdf60a6", func := "loop.example/g00498/laws.FnMsgCut", spec := "fnMsgCut", unfollowed := true, recurses := true, apart := false }
def FnMsgCutSaid : Prop := fnMsgCutRow.holds Tryz.pinned (OpenSpec.ofChange fnMsgCutSpec)

/-- ITS FALSE NEIGHBOUR: 'it returns false'. Refute it at one input. -/
def fnMsgCutWrong : ChangeSpec := { name := "fnMsgCut", fn := fun _ => fun
  | [d] => { results := [.lit (.bool false)], args := [d] }
  | _ => none }
def FnMsgCutWrongFalsely : Prop := fnMsgCutRow.holds Tryz.pinned (OpenSpec.ofChange fnMsgCutWrong)

/-- 'laws.FnMsgDeep': WHATEVER THE INPUT: true; the input reads as it did. -/
def fnMsgDeepSpec : ChangeSpec := { name := "fnMsgDeep", fn := fun _ => fun
  | [d] => { results := [.lit (.bool true)], args := [d] }
  | _ => none }
def fnMsgDeepRow : OpenClaim := { program := "ytpkofbdfnbpfpaagreat", sum := "e4b808cd7522eb8f3643412d31c767461cd5a62fd8f7edd9d19b3d4a5bdf60a6", func := "loop.example/g00498/laws.FnMsgDeep", spec := "fnMsgDeep", unfollowed := true, recurses := true, apart := false }
def FnMsgDeepSaid : Prop := fnMsgDeepRow.holds Tryz.pinned (OpenSpec.ofChange fnMsgDeepSpec)

/-- ITS FALSE NEIGHBOUR: 'it returns false'. Refute it at one input. -/
def fnMsgDeepWrong : ChangeSpec := { name := "fnMsgDeep", fn := fun _ => fun
  | [d] => { results := [.lit (.bool false)], args := [d] }
  | _ => none }
def FnMsgDeepWrongFalsely : Prop := fnMsgDeepRow.holds Tryz.pinned (OpenSpec.ofChange fnMsgDeepWrong)

/-- 'laws.FnWhole': WHATEVER THE INPUT: true; the input reads as it did. -/
def fnWholeSpec : ChangeSpec := { name := "fnWhole", fn := fun _ => fun
  | [d] => { results := [.lit (.bool true)], args := [d] }
  | _ => none }
def fnWholeRow : OpenClaim := { program := "ytpkofbdfnbpfpaagreat", sum := "e4b808cd7522eb8f3643412d31c767461cd5a62fd8f7edd9d19b3d4a5bdf60a6", func := "loop.example/g00498/laws.FnWhole", spec := "fnWhole", unfollowed := true, recurses := true, apart := false }
def FnWholeSaid : Prop := fnWholeRow.holds Tryz.pinned (OpenSpec.ofChange fnWholeSpec)

/-- ITS FALSE NEIGHBOUR: 'it returns false'. Refute it at one input. -/
def fnWholeWrong : ChangeSpec := { name := "fnWhole", fn := fun _ => fun
  | [d] => { results := [.lit (.bool false)], args := [d] }
  | _ => none }
def FnWholeWrongFalsely : Prop := fnWholeRow.holds Tryz.pinned (OpenSpec.ofChange fnWholeWrong)

/-- 'laws.FnBoundary': WHATEVER THE INPUT: true; the input reads as it did. -/
def fnBoundarySpec : ChangeSpec := { name := "fnBoundary", fn := fun _ => fun
  | [d] => { results := [.lit (.bool true)], args := [d] }
  | _ => none }
def fnBoundaryRow : OpenClaim := { program := "ytpkofbdfnbpfpaagreat", sum := "e4b808cd7522eb8f3643412d31c767461cd5a62fd8f7edd9d19b3d4a5bdf60a6", func := "loop.example/g00498/laws.FnBoundary", spec := "fnBoundary", unfollowed := true, recurses := true, apart := false }
def FnBoundarySaid : Prop := fnBoundaryRow.holds Tryz.pinned (OpenSpec.ofChange fnBoundarySpec)

/-- ITS FALSE NEIGHBOUR: 'it returns false'. Refute it at one input. -/
def fnBoundaryWrong : ChangeSpec := { name := "fnBoundary", fn := fun _ => fun
  | [d] => { results := [.lit (.bool false)], args := [d] }
  | _ => none }
def FnBoundaryWrongFalsely : Prop := fnBoundaryRow.holds Tryz.pinned (OpenSpec.ofChange fnBoundaryWrong)

/-- 'laws.FnWholeCut': WHATEVER THE INPUT: true; the input reads as it did. -/
def fnWholeCutSpec : ChangeSpec := { name := "fnWholeCut", fn := fun _ => fun
  | [d] => { results := [.lit (.bool true)], args := [d] }
  | _ => none }
def fnWholeCutRow : OpenClaim := { program := "ytpkofbdfnbpfpaagreat", sum := "e4b808cd7522eb8f3643412d31c767461cd5a62fd8f7edd9d19b3d4a5bdf60a6", func := "loop.example/g00498/laws.FnWholeCut", spec := "fnWholeCut", unfollowed := true, recurses := true, apart := false }
def FnWholeCutSaid : Prop := fnWholeCutRow.holds Tryz.pinned (OpenSpec.ofChange fnWholeCutSpec)

/-- ITS FALSE NEIGHBOUR: 'it returns false'. Refute it at one input. -/
def fnWholeCutWrong : ChangeSpec := { name := "fnWholeCut", fn := fun _ => fun
  | [d] => { results := [.lit (.bool false)], args := [d] }
  | _ => none }
def FnWholeCutWrongFalsely : Prop := fnWholeCutRow.holds Tryz.pinned (OpenSpec.ofChange fnWholeCutWrong)

/-- 'laws.FnFrameOf': WHATEVER THE INPUT: true; the input reads as it did. -/
def fnFrameOfSpec : ChangeSpec := { name := "fnFrameOf", fn := fun _ => fun
  | [d] => { results := [.lit (.bool true)], args := [d] }
  | _ => none }
def fnFrameOfRow : OpenClaim := { program := "ytpkofbdfnbpfpaagreat", sum := "e4b808cd7522eb8f3643412d31c767461cd5a62fd8f7edd9d19b3d4a5bdf60a6", func := "loop.example/g00498/laws.FnFrameOf", spec := "fnFrameOf", unfollowed := true, recurses := true, apart := false }
def FnFrameOfSaid : Prop := fnFrameOfRow.holds Tryz.pinned (OpenSpec.ofChange fnFrameOfSpec)

/-- ITS FALSE NEIGHBOUR: 'it returns false'. Refute it at one input. -/
def fnFrameOfWrong : ChangeSpec := { name := "fnFrameOf", fn := fun _ => fun
  | [d] => { results := [.lit (.bool false)], args := [d] }
  | _ => none }
def FnFrameOfWrongFalsely : Prop := fnFrameOfRow.holds Tryz.pinned (OpenSpec.ofChange fnFrameOfWrong)

/-- 'laws.FnWholeJoin': WHATEVER THE INPUT: true; the input reads as it did. -/
def fnWholeJoinSpec : ChangeSpec := { name := "fnWholeJoin", fn := fun _ => fun
  | [d] => { results := [.lit (.bool true)], args := [d] }
  | _ => none }
def fnWholeJoinRow : OpenClaim := { program := "ytpkofbdfnbpfpaagreat", sum := "e4b808cd7522eb8f3643412d31c767461cd5a62fd8f7edd9d19b3d4a5bdf60a6", func := "loop.example/g00498/laws.FnWholeJoin", spec := "fnWholeJoin", unfollowed := true, recurses := true, apart := false }
def FnWholeJoinSaid : Prop := fnWholeJoinRow.holds Tryz.pinned (OpenSpec.ofChange fnWholeJoinSpec)

/-- ITS FALSE NEIGHBOUR: 'it returns false'. Refute it at one input. -/
def fnWholeJoinWrong : ChangeSpec := { name := "fnWholeJoin", fn := fun _ => fun
  | [d] => { results := [.lit (.bool false)], args := [d] }
  | _ => none }
def FnWholeJoinWrongFalsely : Prop := fnWholeJoinRow.holds Tryz.pinned (OpenSpec.ofChange fnWholeJoinWrong)

/-- 'laws.FnDeeper': WHATEVER THE INPUT: true; the input reads as it did. -/
def fnDeeperSpec : ChangeSpec := { name := "fnDeeper", fn := fun _ => fun
  | [d] => { results := [.lit (.bool true)], args := [d] }
  | _ => none }
def fnDeeperRow : OpenClaim := { program := "ytpkofbdfnbpfpaagreat", sum := "e4b808cd7522eb8f3643412d31c767461cd5a62fd8f7edd9d19b3d4a5bdf60a6", func := "loop.example/g00498/laws.FnDeeper", spec := "fnDeeper", unfollowed := true, recurses := true, apart := false }
def FnDeeperSaid : Prop := fnDeeperRow.holds Tryz.pinned (OpenSpec.ofChange fnDeeperSpec)

/-- ITS FALSE NEIGHBOUR: 'it returns false'. Refute it at one input. -/
def fnDeeperWrong : ChangeSpec := { name := "fnDeeper", fn := fun _ => fun
  | [d] => { results := [.lit (.bool false)], args := [d] }
  | _ => none }
def FnDeeperWrongFalsely : Prop := fnDeeperRow.holds Tryz.pinned (OpenSpec.ofChange fnDeeperWrong)

/-- 'laws.FnExactReadMsg': WHATEVER THE INPUT: true; the input reads as it did. -/
def fnExactReadMsgSpec : ChangeSpec := { name := "fnExactReadMsg", fn := fun _ => fun
  | [d1, d2, d3, d4, d5, d6] => { results := [.lit (.bool true)], args := [d1, d2, d3, d4, d5, d6] }
  | _ => none }
def fnExactReadMsgRow : OpenClaim := { program := "ytpkofbdfnbpfpaagreat", sum := "e4b808cd7522eb8f3643412d31c767461cd5a62fd8f7edd9d19b3d4a5bdf60a6", func := "loop.example/g00498/laws.FnExactReadMsg", spec := "fnExactReadMsg", unfollowed := true, recurses := true, apart := false }
def FnExactReadMsgSaid : Prop := fnExactReadMsgRow.holds Tryz.pinned (OpenSpec.ofChange fnExactReadMsgSpec)

/-- ITS FALSE NEIGHBOUR: 'it returns false'. Refute it at one input. -/
def fnExactReadMsgWrong : ChangeSpec := { name := "fnExactReadMsg", fn := fun _ => fun
  | [d1, d2, d3, d4, d5, d6] => { results := [.lit (.bool false)], args := [d1, d2, d3, d4, d5, d6] }
  | _ => none }
def FnExactReadMsgWrongFalsely : Prop := fnExactReadMsgRow.holds Tryz.pinned (OpenSpec.ofChange fnExactReadMsgWrong)

/-- 'laws.FnExactWhole': WHATEVER THE INPUT: true; the input reads as it did. -/
def fnExactWholeSpec : ChangeSpec := { name := "fnExactWhole", fn := fun _ => fun
  | [d1, d2] => { results := [.lit (.bool true)], args := [d1, d2] }
  | _ => none }
def fnExactWholeRow : OpenClaim := { program := "ytpkofbdfnbpfpaagreat", sum := "e4b808cd7522eb8f3643412d31c767461cd5a62fd8f7edd9d19b3d4a5bdf60a6", func := "loop.example/g00498/laws.FnExactWhole", spec := "fnExactWhole", unfollowed := true, recurses := true, apart := false }
def FnExactWholeSaid : Prop := fnExactWholeRow.holds Tryz.pinned (OpenSpec.ofChange fnExactWholeSpec)

/-- ITS FALSE NEIGHBOUR: 'it returns false'. Refute it at one input. -/
def fnExactWholeWrong : ChangeSpec := { name := "fnExactWhole", fn := fun _ => fun
  | [d1, d2] => { results := [.lit (.bool false)], args := [d1, d2] }
  | _ => none }
def FnExactWholeWrongFalsely : Prop := fnExactWholeRow.holds Tryz.pinned (OpenSpec.ofChange fnExactWholeWrong)

/-- 'laws.FnExactFramesIn': WHATEVER THE INPUT: true; the input reads as it did. -/
def fnExactFramesInSpec : ChangeSpec := { name := "fnExactFramesIn", fn := fun _ => fun
  | [d1, d2] => { results := [.lit (.bool true)], args := [d1, d2] }
  | _ => none }
def fnExactFramesInRow : OpenClaim := { program := "ytpkofbdfnbpfpaagreat", sum := "e4b808cd7522eb8f3643412d31c767461cd5a62fd8f7edd9d19b3d4a5bdf60a6", func := "loop.example/g00498/laws.FnExactFramesIn", spec := "fnExactFramesIn", unfollowed := true, recurses := true, apart := false }
def FnExactFramesInSaid : Prop := fnExactFramesInRow.holds Tryz.pinned (OpenSpec.ofChange fnExactFramesInSpec)

/-- ITS FALSE NEIGHBOUR: 'it returns false'. Refute it at one input. -/
def fnExactFramesInWrong : ChangeSpec := { name := "fnExactFramesIn", fn := fun _ => fun
  | [d1, d2] => { results := [.lit (.bool false)], args := [d1, d2] }
  | _ => none }
def FnExactFramesInWrongFalsely : Prop := fnExactFramesInRow.holds Tryz.pinned (OpenSpec.ofChange fnExactFramesInWrong)

/-- 'laws.FnExactBoundaries': WHATEVER THE INPUT: true; the input reads as it did. -/
def fnExactBoundariesSpec : ChangeSpec := { name := "fnExactBoundaries", fn := fun _ => fun
  | [d1, d2] => { results := [.lit (.bool true)], args := [d1, d2] }
  | _ => none }
def fnExactBoundariesRow : OpenClaim := { program := "ytpkofbdfnbpfpaagreat", sum := "e4b808cd7522eb8f3643412d31c767461cd5a62fd8f7edd9d19b3d4a5bdf60a6", func := "loop.example/g00498/laws.FnExactBoundaries", spec := "fnExactBoundaries", unfollowed := true, recurses := true, apart := false }
def FnExactBoundariesSaid : Prop := fnExactBoundariesRow.holds Tryz.pinned (OpenSpec.ofChange fnExactBoundariesSpec)

/-- ITS FALSE NEIGHBOUR: 'it returns false'. Refute it at one input. -/
def fnExactBoundariesWrong : ChangeSpec := { name := "fnExactBoundaries", fn := fun _ => fun
  | [d1, d2] => { results := [.lit (.bool false)], args := [d1, d2] }
  | _ => none }
def FnExactBoundariesWrongFalsely : Prop := fnExactBoundariesRow.holds Tryz.pinned (OpenSpec.ofChange fnExactBoundariesWrong)

/- THE SECOND FORM. 'bulk': how many values and letters a reading holds, each counted each time it is reached (what is shared counts as often as it is met; a slice's spare places count too). A statement '..UptoSaid' is the law's where the arguments, and the package variables that the reading takes, are together of bulk at most 1048576: NARROWER than '..Said'. Prove '..Said' where nothing that the law and all that it calls make is longer than what came in: it says more and counts as full. Else prove '..UptoSaid'. A law counts once. -/
mutual
def uptoBulk {H : Type} : DataW H → Nat
  | .lit (.string bytes) => bytes.length + 1
  | .lit _ => 1
  | .nil => 1
  | .ptr d => uptoBulk d + 1
  | .slice elems spare => uptoBulkAll elems + uptoBulkAll spare + 1
  | .agg parts => uptoBulkAll parts + 1
  | .iface _ d => uptoBulk d + 1
  | .map entries => uptoBulkEntries entries + 1
  | .held _ => 1
def uptoBulkAll {H : Type} : List (DataW H) → Nat
  | [] => 0
  | d :: r => uptoBulk d + uptoBulkAll r
def uptoBulkEntries {H : Type} : List (Lit × DataW H) → Nat
  | [] => 0
  | x :: r => uptoBulkEntry x + uptoBulkEntries r
def uptoBulkEntry {H : Type} : Lit × DataW H → Nat
  | (.string bytes, d) => bytes.length + uptoBulk d + 1
  | (_, d) => uptoBulk d + 1
 end
def uptoSmall : (H : Type) → List (DataW H) → Bool := fun _ ds => decide (uptoBulkAll ds ≤ 1048576)
def OpenSpec.upto (s : _root_.Go.ChangeSpec) : _root_.Go.OpenSpec := { _root_.Go.OpenSpec.ofChange s with cond := some uptoSmall }

/-- 'laws.FnMsgTwice', WHERE WHAT IT READS IS OF BULK AT MOST 1048576: true; the input reads as it did. -/
def fnMsgTwiceUptoRow : OpenClaim := { program := "ytpkofbdfnbpfpaagreat", sum := "e4b808cd7522eb8f3643412d31c767461cd5a62fd8f7edd9d19b3d4a5bdf60a6", func := "loop.example/g00498/laws.FnMsgTwice", spec := "fnMsgTwice", unfollowed := true, recurses := true, apart := false, narrowed := true }
def FnMsgTwiceUptoSaid : Prop := fnMsgTwiceUptoRow.holds Tryz.pinned (OpenSpec.upto fnMsgTwiceSpec)

/-- 'laws.FnMsgCut', WHERE WHAT IT READS IS OF BULK AT MOST 1048576: true; the input reads as it did. -/
def fnMsgCutUptoRow : OpenClaim := { program := "ytpkofbdfnbpfpaagreat", sum := "e4b808cd7522eb8f3643412d31c767461cd5a62fd8f7edd9d19b3d4a5bdf60a6", func := "loop.example/g00498/laws.FnMsgCut", spec := "fnMsgCut", unfollowed := true, recurses := true, apart := false, narrowed := true }
def FnMsgCutUptoSaid : Prop := fnMsgCutUptoRow.holds Tryz.pinned (OpenSpec.upto fnMsgCutSpec)

/-- 'laws.FnMsgDeep', WHERE WHAT IT READS IS OF BULK AT MOST 1048576: true; the input reads as it did. -/
def fnMsgDeepUptoRow : OpenClaim := { program := "ytpkofbdfnbpfpaagreat", sum := "e4b808cd7522eb8f3643412d31c767461cd5a62fd8f7edd9d19b3d4a5bdf60a6", func := "loop.example/g00498/laws.FnMsgDeep", spec := "fnMsgDeep", unfollowed := true, recurses := true, apart := false, narrowed := true }
def FnMsgDeepUptoSaid : Prop := fnMsgDeepUptoRow.holds Tryz.pinned (OpenSpec.upto fnMsgDeepSpec)

/-- 'laws.FnWhole', WHERE WHAT IT READS IS OF BULK AT MOST 1048576: true; the input reads as it did. -/
def fnWholeUptoRow : OpenClaim := { program := "ytpkofbdfnbpfpaagreat", sum := "e4b808cd7522eb8f3643412d31c767461cd5a62fd8f7edd9d19b3d4a5bdf60a6", func := "loop.example/g00498/laws.FnWhole", spec := "fnWhole", unfollowed := true, recurses := true, apart := false, narrowed := true }
def FnWholeUptoSaid : Prop := fnWholeUptoRow.holds Tryz.pinned (OpenSpec.upto fnWholeSpec)

/-- 'laws.FnBoundary', WHERE WHAT IT READS IS OF BULK AT MOST 1048576: true; the input reads as it did. -/
def fnBoundaryUptoRow : OpenClaim := { program := "ytpkofbdfnbpfpaagreat", sum := "e4b808cd7522eb8f3643412d31c767461cd5a62fd8f7edd9d19b3d4a5bdf60a6", func := "loop.example/g00498/laws.FnBoundary", spec := "fnBoundary", unfollowed := true, recurses := true, apart := false, narrowed := true }
def FnBoundaryUptoSaid : Prop := fnBoundaryUptoRow.holds Tryz.pinned (OpenSpec.upto fnBoundarySpec)

/-- 'laws.FnWholeCut', WHERE WHAT IT READS IS OF BULK AT MOST 1048576: true; the input reads as it did. -/
def fnWholeCutUptoRow : OpenClaim := { program := "ytpkofbdfnbpfpaagreat", sum := "e4b808cd7522eb8f3643412d31c767461cd5a62fd8f7edd9d19b3d4a5bdf60a6", func := "loop.example/g00498/laws.FnWholeCut", spec := "fnWholeCut", unfollowed := true, recurses := true, apart := false, narrowed := true }
def FnWholeCutUptoSaid : Prop := fnWholeCutUptoRow.holds Tryz.pinned (OpenSpec.upto fnWholeCutSpec)

/-- 'laws.FnFrameOf', WHERE WHAT IT READS IS OF BULK AT MOST 1048576: true; the input reads as it did. -/
def fnFrameOfUptoRow : OpenClaim := { program := "ytpkofbdfnbpfpaagreat", sum := "e4b808cd7522eb8f3643412d31c767461cd5a62fd8f7edd9d19b3d4a5bdf60a6", func := "loop.example/g00498/laws.FnFrameOf", spec := "fnFrameOf", unfollowed := true, recurses := true, apart := false, narrowed := true }
def FnFrameOfUptoSaid : Prop := fnFrameOfUptoRow.holds Tryz.pinned (OpenSpec.upto fnFrameOfSpec)

/-- 'laws.FnWholeJoin', WHERE WHAT IT READS IS OF BULK AT MOST 1048576: true; the input reads as it did. -/
def fnWholeJoinUptoRow : OpenClaim := { program := "ytpkofbdfnbpfpaagreat", sum := "e4b808cd7522eb8f3643412d31c767461cd5a62fd8f7edd9d19b3d4a5bdf60a6", func := "loop.example/g00498/laws.FnWholeJoin", spec := "fnWholeJoin", unfollowed := true, recurses := true, apart := false, narrowed := true }
def FnWholeJoinUptoSaid : Prop := fnWholeJoinUptoRow.holds Tryz.pinned (OpenSpec.upto fnWholeJoinSpec)

/-- 'laws.FnDeeper', WHERE WHAT IT READS IS OF BULK AT MOST 1048576: true; the input reads as it did. -/
def fnDeeperUptoRow : OpenClaim := { program := "ytpkofbdfnbpfpaagreat", sum := "e4b808cd7522eb8f3643412d31c767461cd5a62fd8f7edd9d19b3d4a5bdf60a6", func := "loop.example/g00498/laws.FnDeeper", spec := "fnDeeper", unfollowed := true, recurses := true, apart := false, narrowed := true }
def FnDeeperUptoSaid : Prop := fnDeeperUptoRow.holds Tryz.pinned (OpenSpec.upto fnDeeperSpec)

/-- 'laws.FnExactReadMsg', WHERE WHAT IT READS IS OF BULK AT MOST 1048576: true; the input reads as it did. -/
def fnExactReadMsgUptoRow : OpenClaim := { program := "ytpkofbdfnbpfpaagreat", sum := "e4b808cd7522eb8f3643412d31c767461cd5a62fd8f7edd9d19b3d4a5bdf60a6", func := "loop.example/g00498/laws.FnExactReadMsg", spec := "fnExactReadMsg", unfollowed := true, recurses := true, apart := false, narrowed := true }
def FnExactReadMsgUptoSaid : Prop := fnExactReadMsgUptoRow.holds Tryz.pinned (OpenSpec.upto fnExactReadMsgSpec)

/-- 'laws.FnExactWhole', WHERE WHAT IT READS IS OF BULK AT MOST 1048576: true; the input reads as it did. -/
def fnExactWholeUptoRow : OpenClaim := { program := "ytpkofbdfnbpfpaagreat", sum := "e4b808cd7522eb8f3643412d31c767461cd5a62fd8f7edd9d19b3d4a5bdf60a6", func := "loop.example/g00498/laws.FnExactWhole", spec := "fnExactWhole", unfollowed := true, recurses := true, apart := false, narrowed := true }
def FnExactWholeUptoSaid : Prop := fnExactWholeUptoRow.holds Tryz.pinned (OpenSpec.upto fnExactWholeSpec)

/-- 'laws.FnExactFramesIn', WHERE WHAT IT READS IS OF BULK AT MOST 1048576: true; the input reads as it did. -/
def fnExactFramesInUptoRow : OpenClaim := { program := "ytpkofbdfnbpfpaagreat", sum := "e4b808cd7522eb8f3643412d31c767461cd5a62fd8f7edd9d19b3d4a5bdf60a6", func := "loop.example/g00498/laws.FnExactFramesIn", spec := "fnExactFramesIn", unfollowed := true, recurses := true, apart := false, narrowed := true }
def FnExactFramesInUptoSaid : Prop := fnExactFramesInUptoRow.holds Tryz.pinned (OpenSpec.upto fnExactFramesInSpec)

/-- 'laws.FnExactBoundaries', WHERE WHAT IT READS IS OF BULK AT MOST 1048576: true; the input reads as it did. -/
def fnExactBoundariesUptoRow : OpenClaim := { program := "ytpkofbdfnbpfpaagreat", sum := "e4b808cd7522eb8f3643412d31c767461cd5a62fd8f7edd9d19b3d4a5bdf60a6", func := "loop.example/g00498/laws.FnExactBoundaries", spec := "fnExactBoundaries", unfollowed := true, recurses := true, apart := false, narrowed := true }
def FnExactBoundariesUptoSaid : Prop := fnExactBoundariesUptoRow.holds Tryz.pinned (OpenSpec.upto fnExactBoundariesSpec)

end Rows
end Go.Proofs.YtpkofbdfnbpfpaaGreat
