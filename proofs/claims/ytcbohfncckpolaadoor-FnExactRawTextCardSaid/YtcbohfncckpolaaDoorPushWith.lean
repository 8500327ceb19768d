/-
  A message with its fields appended to a description that the call owns. For any program.
-/
import Derived.Test.YtcbohfncckpolaaDoorOwnRead
import Derived.Below
namespace Go.Proofs.YtcbohfncckpolaaDoor.Num
open Go.RowKit Go.Proofs
set_option linter.unusedVariables false

theorem ownsRow_below {w w' : World} {C B : Nat} {T : TypeId} {sz n : Nat} {v : Value} {xs : List Value} (h : w.ownsRow B T sz v n xs) (hb : Below C w w') (hC : ∀ k, v.ownBlock = some k → k < C) : w'.ownsRow B T sz v n xs := by
  obtain ⟨h1, h2⟩ := h
  refine ⟨h1, ?_⟩
  rcases h2 with h2 | ⟨g, cap, cur, rfl, a, b, c⟩
  · exact .inl h2
  · exact .inr ⟨g, cap, cur, rfl, a, (hb.block g (hC g rfl)).trans b, c⟩
theorem ownsRow_base {w : World} {B B' : Nat} {T : TypeId} {sz n : Nat} {v : Value} {xs : List Value} (h : w.ownsRow B T sz v n xs) (hB : B' ≤ B) : w.ownsRow B' T sz v n xs := by
  obtain ⟨h1, h2⟩ := h
  refine ⟨h1, ?_⟩
  rcases h2 with h2 | ⟨g, cap, cur, e, a, b⟩
  · exact .inl h2
  · exact .inr ⟨g, cap, cur, e, Nat.le_trans hB a, b⟩
theorem ownsRow_form {w : World} {B : Nat} {T : TypeId} {sz n : Nat} {v : Value} {xs : List Value} (h : w.ownsRow B T sz v n xs) : ∃ a c, v = .slice a n c := by
  rcases h.2 with ⟨rfl, rfl⟩ | ⟨g, cap, cur, e, _⟩
  · exact ⟨_, _, rfl⟩
  · exact ⟨_, _, e⟩
section
variable {w w' : World} {B : Nat} {TM TF : TypeId} {v : Value} {ms : List OM}
theorem OwnRaw.pushWith {v' u : Value} {id : Int} {l : List RF} (h : OwnRaw w B TM TF v ms) (hB : B ≤ w.heap.size) (hu : FOwn w B TF (id, u, l)) (ha1 : ∀ i (hi : i < ms.length), Apart ms[i].2.1 u) (ha2 : ∀ i (hi : i < ms.length), Apart u ms[i].2.1) (huv : Apart u v)
    (h2 : w'.ownsRow B TM 2 v' (ms.length + 1) (ms.flatMap msgC ++ [.int .i64 id, u])) (hg : w.grownBy w' v.ownBlock) (hb : v'.ownBlock = v.ownBlock ∨ v'.ownBlock = some w.heap.size) :
    OwnRaw w' B TM TF v' (ms ++ [(id, u, l)]) := by
  have away : ∀ {x : Value} {m : OM}, FOwn w B TF (m.1, x, m.2.2) → Apart x v → Apart x v' := by
    intro x m hf ha
    rcases ha with e | e
    · exact .inl e
    · rcases hb with hb | hb
      · exact .inr (by rw [hb]; exact e)
      · refine .inr fun c => ?_
        have := (World.ownsRow.lt hf _ (c.trans hb)).2
        omega
  refine ⟨by simpa [msgC] using h2, fun i hi => ?_, fun i hi => ?_, fun i j hi hj hij => ?_⟩
  · by_cases e : i < ms.length
    · rw [List.getElem_append_left e]; exact World.ownsRow.kept (h.fields i e) hg (h.apart i e)
    · obtain rfl : i = ms.length := by simp at hi; omega
      rw [List.getElem_append_right (by omega)]
      simp only [Nat.sub_self, List.getElem_cons_zero]
      exact World.ownsRow.kept hu hg huv
  · by_cases e : i < ms.length
    · rw [List.getElem_append_left e]; exact away (m := ms[i]) (h.fields i e) (h.apart i e)
    · obtain rfl : i = ms.length := by simp at hi; omega
      rw [List.getElem_append_right (by omega)]
      simp only [Nat.sub_self, List.getElem_cons_zero]
      exact away (m := (id, u, l)) hu huv
  · by_cases e : i < ms.length
    · by_cases e2 : j < ms.length
      · rw [List.getElem_append_left e, List.getElem_append_left e2]; exact h.each i j e e2 hij
      · obtain rfl : j = ms.length := by simp at hj; omega
        rw [List.getElem_append_left e, List.getElem_append_right (by omega)]
        simp only [Nat.sub_self, List.getElem_cons_zero]
        exact ha1 i e
    · obtain rfl : i = ms.length := by simp at hi; omega
      rw [List.getElem_append_right (by omega)]
      simp only [Nat.sub_self, List.getElem_cons_zero]
      by_cases e2 : j < ms.length
      · rw [List.getElem_append_left e2]; exact ha2 j e2
      · obtain rfl : j = ms.length := by simp at hj; omega
        exact absurd rfl hij
end
end Go.Proofs.YtcbohfncckpolaaDoor.Num
