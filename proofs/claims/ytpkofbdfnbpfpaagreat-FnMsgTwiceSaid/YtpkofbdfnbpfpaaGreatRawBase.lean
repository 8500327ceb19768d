/-
  What is said of descriptions in memory beside Raw: their sizes, a variable that holds one, and equality. For any program.
-/
import Derived.Test.YtpkofbdfnbpfpaaGreatRaw
import Derived.Test.YtpkofbdfnbpfpaaGreatBox
namespace Go.Proofs.YtpkofbdfnbpfpaaGreat.Num
open Go.RowKit Go.Proofs
set_option linter.unusedVariables false

theorem below_sees {w w' : World} (hb : Below w.heap.size w w') : Kept (· < w.heap.size) w w' := .of_below hb fun _ h => h
/-- No list of it is longer than the laws' bound. -/
def Small (r : List RM) : Prop := r.length ≤ 1048576 ∧ ∀ m ∈ r, m.2.length ≤ 1048576
theorem Box.one {w : World} {g : Nat} {a : Value} (h : Box w g [a]) : w.cell? ⟨g, 0, none⟩ = some a ∧ w.frozen? ⟨g, 0, none⟩ = false := h.2 0 (by simp)
theorem MsgsAt.raw {w : World} {S : Nat → Prop} {u : Value} {r : List RM} (h : MsgsAt w S u r) : RawAt w S (.agg #[u]) r := ⟨u, rfl, h⟩
def inMem (r : List RM) : Prop := r.length ≤ 9223372036854775807 ∧ ∀ m ∈ r, m.2.length ≤ 9223372036854775807
theorem neI {x c : Int} (h : x ≠ c) : (x == c) = false := by rw [beq_eq_false_iff_ne]; exact h
theorem neN {x c : Nat} (h : x ≠ c) : (x == c) = false := by rw [beq_eq_false_iff_ne]; exact h
theorem neBool {x c : Bool} (h : x ≠ c) : (x == c) = false := by rw [beq_eq_false_iff_ne]; exact h
noncomputable def sameB (r s : List RM) : Bool := @decide (r = s) (Classical.propDecidable _)
theorem same_yes {r s : List RM} (h : r = s) : sameB r s = true := by unfold sameB; exact @decide_eq_true _ (Classical.propDecidable _) h
theorem same_no {r s : List RM} (h : r ≠ s) : sameB r s = false := by unfold sameB; exact @decide_eq_false _ (Classical.propDecidable _) h
/-- A variable in block g holds the description r, its lists in blocks below C. -/
def Holds (w : World) (g C : Nat) (a : Value) (r : List RM) : Prop := Box w g [a] ∧ RawAt w (· < C) (.agg #[a]) r ∧ g < w.heap.size ∧ C ≤ w.heap.size ∧ ∃ x cap, a = .slice x r.length cap
theorem Holds.below {w w' : World} {g C D : Nat} {a : Value} {r : List RM} (h : Holds w g C a r) (hb : Below D w w') (hg : g < D) (hC : C ≤ D) : Holds w' g C a r := by
  obtain ⟨h1, h2, h3, h4, h5⟩ := h
  exact ⟨h1.below hb hg, h2.below hb fun b hb' => by omega, Nat.lt_of_lt_of_le h3 hb.size, Nat.le_trans h4 hb.size, h5⟩
theorem Holds.all {w w' : World} {g C : Nat} {a : Value} {r : List RM} (h : Holds w g C a r) (hb : Below w.heap.size w w') : Holds w' g C a r := h.below hb h.2.2.1 h.2.2.2.1
theorem Holds.drew {w : World} {g C : Nat} {a : Value} {r : List RM} (h : Holds w g C a r) : Holds w.drew g C a r := h
theorem Holds.raw {w : World} {g C : Nat} {a : Value} {r : List RM} (h : Holds w g C a r) : RawAt w (· < w.heap.size) (.agg #[a]) r := h.2.1.keep (fun _ _ _ => rfl) fun b hb => Nat.lt_of_lt_of_le hb h.2.2.2.1
theorem Holds.one {w : World} {g C : Nat} {a : Value} {r : List RM} (h : Holds w g C a r) : w.cell? ⟨g, 0, none⟩ = some a ∧ w.frozen? ⟨g, 0, none⟩ = false := h.1.one
theorem Holds.fresh {w : World} {u : Value} {r : List RM} (T : TypeId) (h : RawAt w (· < w.heap.size) (.agg #[u]) r) : Holds (w.alloc (.cells #[u] T)) w.heap.size w.heap.size u r := by
  have hb : Below w.heap.size w (w.alloc (.cells #[u] T)) := (Below.refl _ _).alloc (Nat.le_refl _) _
  obtain ⟨y, hy, hm⟩ := h
  injection hy with hy; injection hy with hy; injection hy with hy
  subst hy
  obtain ⟨x, cap, rfl⟩ := hm.len
  exact ⟨Box.fresh _ _ _, (show RawAt w (· < w.heap.size) _ r from ⟨_, rfl, hm⟩).below hb fun _ h => h, by simp, hb.size, x, cap, rfl⟩
theorem RawAt.all {w w' : World} {v : Value} {r : List RM} (h : RawAt w (· < w.heap.size) v r) (hb : Below w.heap.size w w') : RawAt w' (· < w'.heap.size) v r := h.keep (below_sees hb) fun b hb' => Nat.lt_of_lt_of_le hb' hb.size
end Go.Proofs.YtpkofbdfnbpfpaaGreat.Num
