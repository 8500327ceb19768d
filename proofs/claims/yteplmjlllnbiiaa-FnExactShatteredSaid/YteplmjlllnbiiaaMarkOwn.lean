/-
  A list of events of the call's own, nil or in a block of its own: marked and found again by the laws' markEventS and heldEventS; blocks below it stay.
-/
import Derived.Test.YteplmjlllnbiiaaMarkEv
namespace Go.Proofs.Yteplmjlllnbiiaa.Num
open Go.RowKit Go.Proofs
set_option linter.unusedVariables false

def MarkedO (w : World) (v : Value) (n : Nat) : Prop := (v = .slice none 0 0 ∧ n = 0) ∨ ∃ g cap, v = .slice (some ⟨g, 0, none⟩) n cap ∧ g < w.heap.size ∧ MarkedE w g 1 (n * 7)
theorem MarkedO.below {w w' : World} {v : Value} {n : Nat} (h : MarkedO w v n) (hb : Below w.heap.size w w') : MarkedO w' v n := by
  rcases h with h | ⟨g, cap, h1, h2, h3⟩
  · exact .inl h
  · exact .inr ⟨g, cap, h1, Nat.lt_of_lt_of_le h2 hb.size, h3.below hb h2⟩
theorem grown_below {w w' : World} {B g : Nat} (h : w.grownBy w' (some g)) (hg : B ≤ g) (hB : B ≤ w.heap.size) : Below B w w' := Only.below h hg hB
theorem EvsAt.under {w w' : World} {B : Nat} {v : Value} {l : List Ev} (h : EvsAt w (· < B) v l) (hb : Below B w w') : EvsAt w' (· < B) v l := h.below hb fun _ h => h
theorem markEvs_nil (w : World) : Calls Try.prog 28 #[.slice none 0 0, .int .i64 1] w fun e w' => e = .returned (.int .i64 1) ∧ w = w' := by
  go_enter Try.func28, Try.ntmps28
  go_wp2_with fail
  refine wp_loop_rounds 1 ?_
  rw [rounds_succ]
  go_wp2_with fail
  go_ret
  exact ⟨rfl, rfl⟩
theorem heldEvs_nil (w : World) : Calls Try.prog 29 #[.slice none 0 0, .int .i64 1] w fun e w' => e = .returned (.int .i64 1) ∧ w = w' := by
  go_enter Try.func29, Try.ntmps29
  go_wp2_with fail
  refine wp_loop_rounds 1 ?_
  rw [rounds_succ]
  go_wp2_with fail
  go_ret
  exact ⟨rfl, rfl⟩
theorem markOwn_any {B : Nat} {T : TypeId} {v : Value} {l : List Ev} (w : World) (h : OwnE w B T v l) (hB : B ≤ w.heap.size) (hl : l.length ≤ 4194304) :
    Calls Try.prog 28 #[v, .int .i64 1] w fun e w' => e = .returned (.int .i64 (1 + 7 * (l.length : Int))) ∧ MarkedO w' v l.length ∧ Below B w w' := by
  rcases h.form with ⟨rfl, rfl⟩ | ⟨g, cap, rfl, hg, hlt, hf⟩
  · exact (markEvs_nil w).mono fun e w' ⟨he, hw⟩ => ⟨by rw [he]; rfl, .inl ⟨rfl, rfl⟩, by subst hw; exact Below.refl _ _⟩
  · exact (markEvs_any g l.length cap 1 w hf hl (by omega)).mono fun e w' ⟨he, hm, hf', hgr⟩ => ⟨he, .inr ⟨g, cap, rfl, hf'.1, hm⟩, grown_below hgr hg hB⟩
theorem heldOwn_any {v : Value} {n : Nat} (w : World) (h : MarkedO w v n) (hl : n ≤ 4194304) :
    Calls Try.prog 29 #[v, .int .i64 1] w fun e w' => e = .returned (.int .i64 (1 + 7 * (n : Int))) ∧ Below w.heap.size w w' := by
  rcases h with ⟨rfl, rfl⟩ | ⟨g, cap, rfl, hg, hm⟩
  · exact (heldEvs_nil w).mono fun e w' ⟨he, hw⟩ => ⟨by rw [he]; rfl, by subst hw; exact Below.refl _ _⟩
  · exact heldEvs_any g n cap 1 w hg hm hl (by omega)
end Go.Proofs.Yteplmjlllnbiiaa.Num
