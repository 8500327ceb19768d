/-
  A list of events that the call owns: appended to, its last text written; what it holds, read. For any program.
-/
import Derived.Test.YtcnpdcmdnmfnaaaGreatEv
import Derived.Test.YtcnpdcmdnmfnaaaGreatOwnRead
import Derived.Laws.OwnMore
import Derived.OwnWalk
namespace Go.Proofs.YtcnpdcmdnmfnaaaGreat.Num
open Go.RowKit Go.Proofs
set_option linter.unusedVariables false

def OwnE (w : World) (B : Nat) (T : TypeId) (v : Value) (l : List Ev) : Prop := w.ownsRow B T 7 v l.length (l.flatMap evC)
section
variable {w w' : World} {B : Nat} {T : TypeId} {v : Value} {l : List Ev}
theorem OwnE.nil (w : World) (B : Nat) (T : TypeId) : OwnE w B T (.slice none 0 0) [] := World.ownsRow_nil _ _ _ _
theorem OwnE.start (w : World) (B : Nat) (T : TypeId) (hB : B ≤ w.heap.size) : OwnE (w.alloc (.cells #[] T)) B T (.slice (some ⟨w.heap.size, 0, none⟩) 0 0) [] :=
  World.ownsRow_lit w #[] 0 hB (by unfold maxLen; omega) rfl
theorem OwnE.one (w : World) (B : Nat) (T : TypeId) (e : Ev) (hB : B ≤ w.heap.size) : OwnE (w.alloc (.cells (evC e).toArray T)) B T (.slice (some ⟨w.heap.size, 0, none⟩) 1 1) [e] := by
  have := World.ownsRow_lit (e := T) (size := 7) w (evC e).toArray 1 hB (by unfold maxLen; omega) rfl
  simpa [OwnE] using this
theorem OwnE.lt (h : OwnE w B T v l) : ∀ k, v.ownBlock = some k → B ≤ k ∧ k < w.heap.size := World.ownsRow.lt h
theorem OwnE.below {C : Nat} (h : OwnE w B T v l) (hb : Below C w w') (hC : w.heap.size ≤ C) : OwnE w' B T v l := by
  obtain ⟨h1, h2⟩ := h
  refine ⟨h1, ?_⟩
  rcases h2 with h2 | ⟨g, cap, cur, hv, hB, hg, h3⟩
  · exact .inl h2
  · have hlt : g < w.heap.size := by
      rcases Nat.lt_or_ge g w.heap.size with h | h
      · exact h
      · rw [Array.getElem?_eq_none h] at hg; cases hg
    exact .inr ⟨g, cap, cur, hv, hB, (hb.block g (Nat.lt_of_lt_of_le hlt hC)).trans hg, h3⟩
theorem OwnE.drew (h : OwnE w B T v l) : OwnE w.drew B T v l := h
theorem OwnE.drewN (h : OwnE w B T v l) (n : Nat) : OwnE (w.drewN n) B T v l := h
theorem OwnE.alloc (h : OwnE w B T v l) (o : Obj) : OwnE (w.alloc o) B T v l := World.ownsRow.alloc h o
theorem OwnE.kept {row : Option Nat} (h : OwnE w B T v l) (hg : w.grownBy w' row) (hne : v.ownBlock = none ∨ v.ownBlock ≠ row) : OwnE w' B T v l := World.ownsRow.kept h hg hne
theorem OwnE.other (h : OwnE w B T v l) {p : Addr} (hp : p.block < B) (u : Value) : OwnE (w.setCell p u) B T v l := by
  refine h.kept (row := some p.block) ⟨rfl, rfl, rfl, by simp [World.setCell], fun k _ hk => Below.heap_setCell _ _ _ _ (fun e => hk (by rw [e]))⟩ ?_
  cases hv : v.ownBlock with
  | none => exact .inl rfl
  | some k => exact .inr fun e => by have := (h.lt k hv).1; have := Option.some.inj e; omega
theorem OwnE.wide (h : OwnE w B T v l) {C : Nat} (hC : C ≤ B) : OwnE w C T v l := by
  obtain ⟨h1, h2⟩ := h
  refine ⟨h1, ?_⟩
  rcases h2 with h2 | ⟨g, cap, cur, hv, hB, h3⟩
  · exact .inl h2
  · exact .inr ⟨g, cap, cur, hv, by omega, h3⟩
theorem OwnE.evsAt (h : OwnE w B T v l) : EvsAt w (fun b => B ≤ b ∧ b < w.heap.size) v l := rowAt_of_owns (f := evC) (fun _ => rfl) h (fun k hk => h.lt k hk) fun _ _ => rfl
theorem OwnE.evsAll (h : OwnE w B T v l) : EvsAt w (· < w.heap.size) v l := h.evsAt.wide fun _ h => h.2
theorem OwnE.form (h : OwnE w B T v l) : (v = .slice none 0 0 ∧ l = []) ∨ ∃ g cap, v = .slice (some ⟨g, 0, none⟩) l.length cap ∧ B ≤ g ∧ g < w.heap.size ∧ Fill w g (l.length * 7) := by
  rcases h.2 with ⟨h1, h2⟩ | ⟨g, cap, cur, rfl, hB, hg, h3⟩
  · exact .inl ⟨h1, List.length_eq_zero_iff.1 h2⟩
  · have hlt := (h.lt g rfl).2
    refine .inr ⟨g, cap, rfl, hB, hlt, hlt, fun j hj => ⟨?_, World.ownsRow.frozenAt h j⟩⟩
    rw [World.ownsRow.cellAt h j hj, List.getElem?_eq_getElem (by rw [h.1]; exact hj)]
    exact ⟨_, rfl⟩
theorem OwnE.slice (h : OwnE w B T v l) : ∃ a cap, v = .slice a l.length cap := h.evsAt.len
/-- The i-th event's cells. -/
theorem OwnE.cellsAt {g cap n : Nat} (h : OwnE w B T (.slice (some ⟨g, 0, none⟩) n cap) l) (i : Nat) (hi : i < l.length) : cells7 w g (i * 7) l[i] := by
  obtain ⟨b, o, e1, _, hc⟩ := h.evsAt.cellsAt i hi
  injection e1 with e1
  injection e1 with e1 e2
  subst e1 e2
  rw [Nat.zero_add] at hc
  exact hc
theorem flat_setText : ∀ (i : List Ev) (x : Ev) (s : ByteArray), ((i ++ [x]).flatMap evC).set (i.length * 7 + 4) (.string s) = (i ++ [{ x with text := s }]).flatMap evC
  | [], x, s => rfl
  | a :: i, x, s => by
    have := flat_setText i x s
    rw [List.cons_append, List.flatMap_cons, List.cons_append, List.flatMap_cons, ← this, show (a :: i).length * 7 + 4 = (evC a).length + (i.length * 7 + 4) by simp [evC]; omega]
    rw [List.set_append_right _ _ (by omega), Nat.add_sub_cancel_left]
/-- The last event's text written. -/
theorem OwnE.setText {g cap : Nat} {i : List Ev} {x : Ev} (h : OwnE w B T (.slice (some ⟨g, 0, none⟩) (i.length + 1) cap) (i ++ [x])) (s : ByteArray) : OwnE (w.setCell ⟨g, i.length * 7 + 4, none⟩ (.string s)) B T (.slice (some ⟨g, 0, none⟩) (i.length + 1) cap) (i ++ [{ x with text := s }]) := by
  have hl : (i ++ [x]).length = i.length + 1 := by simp
  have hl2 : (i ++ [{ x with text := s }]).length = i.length + 1 := by simp
  have h0 := h
  unfold OwnE at h0 ⊢
  rw [hl] at h0
  rw [hl2]
  have := (World.ownsRow.stored h0 (i.length * 7 + 4) (.string s)).1
  rwa [flat_setText] at this
end
theorem flat_snoc (l : List Ev) (e : Ev) : (l ++ [e]).flatMap evC = l.flatMap evC ++ evC e := by simp
end Go.Proofs.YtcnpdcmdnmfnaaaGreat.Num
