/-
  Two descriptions held in two local variables, as the exact laws hold their arguments: what each call of the laws leaves of them.
-/
import Derived.Test.YtigclegcemmijaaEqRaw
namespace Go.Proofs.Ytigclegcemmijaa.Num
open Go.RowKit Go.Proofs
set_option linter.unusedVariables false

/-- A variable in block g holds the description r, its lists in blocks below C. -/
def Holds (w : World) (g C : Nat) (a : Value) (r : List RM) : Prop := Box w g [a] ∧ RawAt w (· < C) (.agg #[a]) r ∧ g < w.heap.size ∧ C ≤ w.heap.size ∧ ∃ x cap, a = .slice x r.length cap
theorem Holds.below {w w' : World} {g C D : Nat} {a : Value} {r : List RM} (h : Holds w g C a r) (hb : Below D w w') (hg : g < D) (hC : C ≤ D) : Holds w' g C a r := by
  obtain ⟨h1, h2, h3, h4, h5⟩ := h
  exact ⟨h1.below hb hg, h2.below hb fun b hb' => by omega, Nat.lt_of_lt_of_le h3 hb.size, Nat.le_trans h4 hb.size, h5⟩
theorem Holds.all {w w' : World} {g C : Nat} {a : Value} {r : List RM} (h : Holds w g C a r) (hb : Below w.heap.size w w') : Holds w' g C a r := h.below hb h.2.2.1 h.2.2.2.1
theorem Holds.drew {w : World} {g C : Nat} {a : Value} {r : List RM} (h : Holds w g C a r) : Holds w.drew g C a r := h
theorem Holds.raw {w : World} {g C : Nat} {a : Value} {r : List RM} (h : Holds w g C a r) : RawAt w (· < w.heap.size) (.agg #[a]) r := h.2.1.keep (fun _ _ _ => rfl) fun b hb => Nat.lt_of_lt_of_le hb h.2.2.2.1
theorem Holds.one {w : World} {g C : Nat} {a : Value} {r : List RM} (h : Holds w g C a r) : w.cell? ⟨g, 0, none⟩ = some a ∧ w.frozen? ⟨g, 0, none⟩ = false := h.1.one
theorem Holds.fresh {w : World} {u : Value} {r : List RM} (T : TypeId) (h : RawAt w (· < w.heap.size) (.agg #[u]) r) : Holds (w.alloc (.cells #[u] T)) w.heap.size w.heap.size u r := by
  have hb : Below w.heap.size w (w.alloc (.cells #[u] T)) := (Below.refl _ _).alloc (Nat.le_refl _) _
  obtain ⟨y, hy, hm⟩ := h
  injection hy with hy; injection hy with hy; injection hy with hy
  subst hy
  obtain ⟨x, cap, rfl⟩ := hm.len
  exact ⟨Box.fresh _ _ _, (show RawAt w (· < w.heap.size) _ r from ⟨_, rfl, hm⟩).below hb fun _ h => h, by simp, hb.size, x, cap, rfl⟩
theorem toRaw_held {w : World} {g C : Nat} {a : Value} {r : List RM} (h : Holds w g C a r) (hl : Small r) :
    Calls Try.prog 24 #[.agg #[a]] w fun e w' => ∃ x cap, e = .returned (.agg #[.slice x r.length cap]) ∧ RawAt w' (· < w'.heap.size) (.agg #[.slice x r.length cap]) r ∧ Below w.heap.size w w' :=
  (toRaw_any _ r w h.raw hl).mono fun e w' ⟨u, he, hu, hb⟩ => by
    obtain ⟨y, rfl, hy⟩ := hu
    obtain ⟨x, cap, rfl⟩ := hy.len
    exact ⟨x, cap, he, (show RawAt w' _ _ r from ⟨_, rfl, hy⟩).keep (fun _ _ _ => rfl) fun b hb' => hb'.2, hb⟩
theorem RawAt.all {w w' : World} {v : Value} {r : List RM} (h : RawAt w (· < w.heap.size) v r) (hb : Below w.heap.size w w') : RawAt w' (· < w'.heap.size) v r := h.keep (below_sees hb) fun b hb' => Nat.lt_of_lt_of_le hb' hb.size
end Go.Proofs.Ytigclegcemmijaa.Num
