/-
  Two descriptions held in two local variables, as the exact laws hold their arguments: what each call of the laws leaves of them.
-/
import Derived.Test.YtcnpdcmdnmfnaaaEqSch
namespace Go.Proofs.Ytcnpdcmdnmfnaaa.Num.Sch
open Go.RowKit Go.Proofs
set_option linter.unusedVariables false

theorem toRaw_held {w : World} {g C : Nat} {a : Value} {r : List RM} (h : Holds w g C a r) (hl : Small r) :
    Calls Try.prog 35 #[.agg #[a]] w fun e w' => ∃ x cap, e = .returned (.agg #[.slice x r.length cap]) ∧ RawAt w' (· < w'.heap.size) (.agg #[.slice x r.length cap]) r ∧ Below w.heap.size w w' :=
  (toRaw_any _ r w h.raw hl).mono fun e w' ⟨u, he, hu, hb⟩ => by
    obtain ⟨y, rfl, hy⟩ := hu
    obtain ⟨x, cap, rfl⟩ := hy.len
    exact ⟨x, cap, he, (show RawAt w' _ _ r from ⟨_, rfl, hy⟩).keep (fun _ _ _ => rfl) fun b hb' => hb'.2, hb⟩
end Go.Proofs.Ytcnpdcmdnmfnaaa.Num.Sch
