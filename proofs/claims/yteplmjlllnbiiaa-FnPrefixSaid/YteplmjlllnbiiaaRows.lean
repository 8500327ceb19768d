/-
  No cell of these rows narrows 'for every input' (looked for: loops, veiled, ifaces, maps, wideKeys, modest, calm, conditions, laid).
  DERIVED. THE GIVEN ROWS OF THIS SEAT. 8 by the template 'for every input the law returns true; each argument reads behind the call as it read before'; 0 by the template 'total and deterministic' (their statements: YteplmjlllnbiiaaTotals.lean).
  GIVEN WITH THE SEED: the statements are not yours to turn. If you find one false, say at which input.
  Laid BY PROGRAM, IN A SANDBOX (cutbox-rows.mjs): the forced cells as the released guide's own fill.sh prints them over the translation e9a4ad59d00cdd1b… (all of the seat's roots in one cut). By AI agents, Wed Nov 11 2026. No macro, syntax, notation, axiom, sorry.
-/
import Derived.Test.YteplmjlllnbiiaaChecked
import GoSem.Claim
import GoSem.ClaimJoined
import GoSem.ClaimMapViews
import Derived.JoinedTies
import Derived.KernelRfl
namespace Go.Proofs.Yteplmjlllnbiiaa
/- THE CELL 'sum', in the pinned program and in every row, IS THE sha256 OF THE DUMP (.gsa) THAT YteplmjlllnbiiaaProg.lean LOADS. Nothing in Lean hashes anything: it is a label: what it is worth is what the hold of that sum in a sandbox is worth. -/
noncomputable def Try.pinned : Pinned := { name := "yteplmjlllnbiiaa", sum := "e9a4ad59d00cdd1bac3efde17ab1e0e56b7ac89cb6aecf6d5721982568f8f7f9", checked := Try.checked }
namespace Rows
def none {H : Type} : Left H := { results := [], args := [] }

/-- 'laws.FnMerged': WHATEVER THE INPUT: true; the input reads as it did. -/
def fnMergedSpec : ChangeSpec := { name := "fnMerged", fn := fun _ => fun
  | [d] => { results := [.lit (.bool true)], args := [d] }
  | _ => none }
def fnMergedRow : OpenClaim := { program := "yteplmjlllnbiiaa", sum := "e9a4ad59d00cdd1bac3efde17ab1e0e56b7ac89cb6aecf6d5721982568f8f7f9", func := "loop.example/g00498/laws.FnMerged", spec := "fnMerged", unfollowed := true, recurses := true, apart := false }
def FnMergedSaid : Prop := fnMergedRow.holds Try.pinned (OpenSpec.ofChange fnMergedSpec)

/-- ITS FALSE NEIGHBOUR: 'it returns false'. Refute it at one input. -/
def fnMergedWrong : ChangeSpec := { name := "fnMerged", fn := fun _ => fun
  | [d] => { results := [.lit (.bool false)], args := [d] }
  | _ => none }
def FnMergedWrongFalsely : Prop := fnMergedRow.holds Try.pinned (OpenSpec.ofChange fnMergedWrong)

/-- 'laws.FnShattered': WHATEVER THE INPUT: true; the input reads as it did. -/
def fnShatteredSpec : ChangeSpec := { name := "fnShattered", fn := fun _ => fun
  | [d] => { results := [.lit (.bool true)], args := [d] }
  | _ => none }
def fnShatteredRow : OpenClaim := { program := "yteplmjlllnbiiaa", sum := "e9a4ad59d00cdd1bac3efde17ab1e0e56b7ac89cb6aecf6d5721982568f8f7f9", func := "loop.example/g00498/laws.FnShattered", spec := "fnShattered", unfollowed := true, recurses := true, apart := false }
def FnShatteredSaid : Prop := fnShatteredRow.holds Try.pinned (OpenSpec.ofChange fnShatteredSpec)

/-- ITS FALSE NEIGHBOUR: 'it returns false'. Refute it at one input. -/
def fnShatteredWrong : ChangeSpec := { name := "fnShattered", fn := fun _ => fun
  | [d] => { results := [.lit (.bool false)], args := [d] }
  | _ => none }
def FnShatteredWrongFalsely : Prop := fnShatteredRow.holds Try.pinned (OpenSpec.ofChange fnShatteredWrong)

/-- 'laws.FnPrefix': WHATEVER THE INPUT: true; the input reads as it did. -/
def fnPrefixSpec : ChangeSpec := { name := "fnPrefix", fn := fun _ => fun
  | [d] => { results := [.lit (.bool true)], args := [d] }
  | _ => none }
def fnPrefixRow : OpenClaim := { program := "yteplmjlllnbiiaa", sum := "e9a4ad59d00cdd1bac3efde17ab1e0e56b7ac89cb6aecf6d5721982568f8f7f9", func := "loop.example/g00498/laws.FnPrefix", spec := "fnPrefix", unfollowed := true, recurses := true, apart := false }
def FnPrefixSaid : Prop := fnPrefixRow.holds Try.pinned (OpenSpec.ofChange fnPrefixSpec)

/-- ITS FALSE NEIGHBOUR: 'it returns false'. Refute it at one input. -/
def fnPrefixWrong : ChangeSpec := { name := "fnPrefix", fn := fun _ => fun
  | [d] => { results := [.lit (.bool false)], args := [d] }
  | _ => none }
def FnPrefixWrongFalsely : Prop := fnPrefixRow.holds Try.pinned (OpenSpec.ofChange fnPrefixWrong)

/-- 'laws.FnExactMerged': WHATEVER THE INPUT: true; the input reads as it did. -/
def fnExactMergedSpec : ChangeSpec := { name := "fnExactMerged", fn := fun _ => fun
  | [d] => { results := [.lit (.bool true)], args := [d] }
  | _ => none }
def fnExactMergedRow : OpenClaim := { program := "yteplmjlllnbiiaa", sum := "e9a4ad59d00cdd1bac3efde17ab1e0e56b7ac89cb6aecf6d5721982568f8f7f9", func := "loop.example/g00498/laws.FnExactMerged", spec := "fnExactMerged", unfollowed := true, recurses := true, apart := false }
def FnExactMergedSaid : Prop := fnExactMergedRow.holds Try.pinned (OpenSpec.ofChange fnExactMergedSpec)

/-- ITS FALSE NEIGHBOUR: 'it returns false'. Refute it at one input. -/
def fnExactMergedWrong : ChangeSpec := { name := "fnExactMerged", fn := fun _ => fun
  | [d] => { results := [.lit (.bool false)], args := [d] }
  | _ => none }
def FnExactMergedWrongFalsely : Prop := fnExactMergedRow.holds Try.pinned (OpenSpec.ofChange fnExactMergedWrong)

/-- 'laws.FnExactShattered': WHATEVER THE INPUT: true; the input reads as it did. -/
def fnExactShatteredSpec : ChangeSpec := { name := "fnExactShattered", fn := fun _ => fun
  | [d1, d2] => { results := [.lit (.bool true)], args := [d1, d2] }
  | _ => none }
def fnExactShatteredRow : OpenClaim := { program := "yteplmjlllnbiiaa", sum := "e9a4ad59d00cdd1bac3efde17ab1e0e56b7ac89cb6aecf6d5721982568f8f7f9", func := "loop.example/g00498/laws.FnExactShattered", spec := "fnExactShattered", apart := false }
def FnExactShatteredSaid : Prop := fnExactShatteredRow.holds Try.pinned (OpenSpec.ofChange fnExactShatteredSpec)

/-- ITS FALSE NEIGHBOUR: 'it returns false'. Refute it at one input. -/
def fnExactShatteredWrong : ChangeSpec := { name := "fnExactShattered", fn := fun _ => fun
  | [d1, d2] => { results := [.lit (.bool false)], args := [d1, d2] }
  | _ => none }
def FnExactShatteredWrongFalsely : Prop := fnExactShatteredRow.holds Try.pinned (OpenSpec.ofChange fnExactShatteredWrong)

/-- 'laws.FnExactPrefixOf': WHATEVER THE INPUT: true; the input reads as it did. -/
def fnExactPrefixOfSpec : ChangeSpec := { name := "fnExactPrefixOf", fn := fun _ => fun
  | [d1, d2] => { results := [.lit (.bool true)], args := [d1, d2] }
  | _ => none }
def fnExactPrefixOfRow : OpenClaim := { program := "yteplmjlllnbiiaa", sum := "e9a4ad59d00cdd1bac3efde17ab1e0e56b7ac89cb6aecf6d5721982568f8f7f9", func := "loop.example/g00498/laws.FnExactPrefixOf", spec := "fnExactPrefixOf", unfollowed := true, recurses := true, apart := false }
def FnExactPrefixOfSaid : Prop := fnExactPrefixOfRow.holds Try.pinned (OpenSpec.ofChange fnExactPrefixOfSpec)

/-- ITS FALSE NEIGHBOUR: 'it returns false'. Refute it at one input. -/
def fnExactPrefixOfWrong : ChangeSpec := { name := "fnExactPrefixOf", fn := fun _ => fun
  | [d1, d2] => { results := [.lit (.bool false)], args := [d1, d2] }
  | _ => none }
def FnExactPrefixOfWrongFalsely : Prop := fnExactPrefixOfRow.holds Try.pinned (OpenSpec.ofChange fnExactPrefixOfWrong)

/-- 'laws.FnExactPartBytes': WHATEVER THE INPUT: true; the input reads as it did. -/
def fnExactPartBytesSpec : ChangeSpec := { name := "fnExactPartBytes", fn := fun _ => fun
  | [d] => { results := [.lit (.bool true)], args := [d] }
  | _ => none }
def fnExactPartBytesRow : OpenClaim := { program := "yteplmjlllnbiiaa", sum := "e9a4ad59d00cdd1bac3efde17ab1e0e56b7ac89cb6aecf6d5721982568f8f7f9", func := "loop.example/g00498/laws.FnExactPartBytes", spec := "fnExactPartBytes", apart := false }
def FnExactPartBytesSaid : Prop := fnExactPartBytesRow.holds Try.pinned (OpenSpec.ofChange fnExactPartBytesSpec)

/-- ITS FALSE NEIGHBOUR: 'it returns false'. Refute it at one input. -/
def fnExactPartBytesWrong : ChangeSpec := { name := "fnExactPartBytes", fn := fun _ => fun
  | [d] => { results := [.lit (.bool false)], args := [d] }
  | _ => none }
def FnExactPartBytesWrongFalsely : Prop := fnExactPartBytesRow.holds Try.pinned (OpenSpec.ofChange fnExactPartBytesWrong)

/-- 'laws.FnExactLongestPart': WHATEVER THE INPUT: true; the input reads as it did. -/
def fnExactLongestPartSpec : ChangeSpec := { name := "fnExactLongestPart", fn := fun _ => fun
  | [d] => { results := [.lit (.bool true)], args := [d] }
  | _ => none }
def fnExactLongestPartRow : OpenClaim := { program := "yteplmjlllnbiiaa", sum := "e9a4ad59d00cdd1bac3efde17ab1e0e56b7ac89cb6aecf6d5721982568f8f7f9", func := "loop.example/g00498/laws.FnExactLongestPart", spec := "fnExactLongestPart", apart := false }
def FnExactLongestPartSaid : Prop := fnExactLongestPartRow.holds Try.pinned (OpenSpec.ofChange fnExactLongestPartSpec)

/-- ITS FALSE NEIGHBOUR: 'it returns false'. Refute it at one input. -/
def fnExactLongestPartWrong : ChangeSpec := { name := "fnExactLongestPart", fn := fun _ => fun
  | [d] => { results := [.lit (.bool false)], args := [d] }
  | _ => none }
def FnExactLongestPartWrongFalsely : Prop := fnExactLongestPartRow.holds Try.pinned (OpenSpec.ofChange fnExactLongestPartWrong)

/- THE SECOND FORM. 'bulk': how many values and letters a reading holds, each counted each time it is reached (what is shared counts as often as it is met; a slice's spare places count too). A statement '..UptoSaid' is the law's where the arguments, and the package variables that the reading takes, are together of bulk at most 1048576: NARROWER than '..Said'. Prove '..Said' where nothing that the law and all that it calls make is longer than what came in: it says more and counts as full. Else prove '..UptoSaid'. A law counts once. -/
mutual
def uptoBulk {H : Type} : DataW H → Nat
  | .lit (.string bytes) => bytes.length + 1
  | .lit _ => 1
  | .nil => 1
  | .ptr d => uptoBulk d + 1
  | .slice elems spare => uptoBulkAll elems + uptoBulkAll spare + 1
  | .agg parts => uptoBulkAll parts + 1
  | .iface _ d => uptoBulk d + 1
  | .map entries => uptoBulkEntries entries + 1
  | .held _ => 1
def uptoBulkAll {H : Type} : List (DataW H) → Nat
  | [] => 0
  | d :: r => uptoBulk d + uptoBulkAll r
def uptoBulkEntries {H : Type} : List (Lit × DataW H) → Nat
  | [] => 0
  | x :: r => uptoBulkEntry x + uptoBulkEntries r
def uptoBulkEntry {H : Type} : Lit × DataW H → Nat
  | (.string bytes, d) => bytes.length + uptoBulk d + 1
  | (_, d) => uptoBulk d + 1
 end
def uptoSmall : (H : Type) → List (DataW H) → Bool := fun _ ds => decide (uptoBulkAll ds ≤ 1048576)
def OpenSpec.upto (s : _root_.Go.ChangeSpec) : _root_.Go.OpenSpec := { _root_.Go.OpenSpec.ofChange s with cond := some uptoSmall }

/-- 'laws.FnMerged', WHERE WHAT IT READS IS OF BULK AT MOST 1048576: true; the input reads as it did. -/
def fnMergedUptoRow : OpenClaim := { program := "yteplmjlllnbiiaa", sum := "e9a4ad59d00cdd1bac3efde17ab1e0e56b7ac89cb6aecf6d5721982568f8f7f9", func := "loop.example/g00498/laws.FnMerged", spec := "fnMerged", unfollowed := true, recurses := true, apart := false, narrowed := true }
def FnMergedUptoSaid : Prop := fnMergedUptoRow.holds Try.pinned (OpenSpec.upto fnMergedSpec)

/-- 'laws.FnShattered', WHERE WHAT IT READS IS OF BULK AT MOST 1048576: true; the input reads as it did. -/
def fnShatteredUptoRow : OpenClaim := { program := "yteplmjlllnbiiaa", sum := "e9a4ad59d00cdd1bac3efde17ab1e0e56b7ac89cb6aecf6d5721982568f8f7f9", func := "loop.example/g00498/laws.FnShattered", spec := "fnShattered", unfollowed := true, recurses := true, apart := false, narrowed := true }
def FnShatteredUptoSaid : Prop := fnShatteredUptoRow.holds Try.pinned (OpenSpec.upto fnShatteredSpec)

/-- 'laws.FnPrefix', WHERE WHAT IT READS IS OF BULK AT MOST 1048576: true; the input reads as it did. -/
def fnPrefixUptoRow : OpenClaim := { program := "yteplmjlllnbiiaa", sum := "e9a4ad59d00cdd1bac3efde17ab1e0e56b7ac89cb6aecf6d5721982568f8f7f9", func := "loop.example/g00498/laws.FnPrefix", spec := "fnPrefix", unfollowed := true, recurses := true, apart := false, narrowed := true }
def FnPrefixUptoSaid : Prop := fnPrefixUptoRow.holds Try.pinned (OpenSpec.upto fnPrefixSpec)

/-- 'laws.FnExactMerged', WHERE WHAT IT READS IS OF BULK AT MOST 1048576: true; the input reads as it did. -/
def fnExactMergedUptoRow : OpenClaim := { program := "yteplmjlllnbiiaa", sum := "e9a4ad59d00cdd1bac3efde17ab1e0e56b7ac89cb6aecf6d5721982568f8f7f9", func := "loop.example/g00498/laws.FnExactMerged", spec := "fnExactMerged", unfollowed := true, recurses := true, apart := false, narrowed := true }
def FnExactMergedUptoSaid : Prop := fnExactMergedUptoRow.holds Try.pinned (OpenSpec.upto fnExactMergedSpec)

/-- 'laws.FnExactShattered', WHERE WHAT IT READS IS OF BULK AT MOST 1048576: true; the input reads as it did. -/
def fnExactShatteredUptoRow : OpenClaim := { program := "yteplmjlllnbiiaa", sum := "e9a4ad59d00cdd1bac3efde17ab1e0e56b7ac89cb6aecf6d5721982568f8f7f9", func := "loop.example/g00498/laws.FnExactShattered", spec := "fnExactShattered", apart := false, narrowed := true }
def FnExactShatteredUptoSaid : Prop := fnExactShatteredUptoRow.holds Try.pinned (OpenSpec.upto fnExactShatteredSpec)

/-- 'laws.FnExactPrefixOf', WHERE WHAT IT READS IS OF BULK AT MOST 1048576: true; the input reads as it did. -/
def fnExactPrefixOfUptoRow : OpenClaim := { program := "yteplmjlllnbiiaa", sum := "e9a4ad59d00cdd1bac3efde17ab1e0e56b7ac89cb6aecf6d5721982568f8f7f9", func := "loop.example/g00498/laws.FnExactPrefixOf", spec := "fnExactPrefixOf", unfollowed := true, recurses := true, apart := false, narrowed := true }
def FnExactPrefixOfUptoSaid : Prop := fnExactPrefixOfUptoRow.holds Try.pinned (OpenSpec.upto fnExactPrefixOfSpec)

/-- 'laws.FnExactPartBytes', WHERE WHAT IT READS IS OF BULK AT MOST 1048576: true; the input reads as it did. -/
def fnExactPartBytesUptoRow : OpenClaim := { program := "yteplmjlllnbiiaa", sum := "e9a4ad59d00cdd1bac3efde17ab1e0e56b7ac89cb6aecf6d5721982568f8f7f9", func := "loop.example/g00498/laws.FnExactPartBytes", spec := "fnExactPartBytes", apart := false, narrowed := true }
def FnExactPartBytesUptoSaid : Prop := fnExactPartBytesUptoRow.holds Try.pinned (OpenSpec.upto fnExactPartBytesSpec)

/-- 'laws.FnExactLongestPart', WHERE WHAT IT READS IS OF BULK AT MOST 1048576: true; the input reads as it did. -/
def fnExactLongestPartUptoRow : OpenClaim := { program := "yteplmjlllnbiiaa", sum := "e9a4ad59d00cdd1bac3efde17ab1e0e56b7ac89cb6aecf6d5721982568f8f7f9", func := "loop.example/g00498/laws.FnExactLongestPart", spec := "fnExactLongestPart", apart := false, narrowed := true }
def FnExactLongestPartUptoSaid : Prop := fnExactLongestPartUptoRow.holds Try.pinned (OpenSpec.upto fnExactLongestPartSpec)

end Rows
end Go.Proofs.Yteplmjlllnbiiaa
