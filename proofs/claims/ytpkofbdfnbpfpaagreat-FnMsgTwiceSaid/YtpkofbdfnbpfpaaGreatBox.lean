/-
  Lemmas on a block of memory whose cells are known and may be written: a local struct. For any program.
-/
import Derived.WalkKit
import Derived.Below
import Derived.Lib.Hide
import Derived.Laws.Rows
import Derived.Test.YtpkofbdfnbpfpaaGreatDraw
namespace Go.Proofs.YtpkofbdfnbpfpaaGreat.Num
open Go.RowKit Go.Proofs

/-- Block g holds just the values vs at its head, and each may be written. -/
def Box (w : World) (g : Nat) (vs : List Value) : Prop := g < w.heap.size ∧ ∀ j (h : j < vs.length), w.cell? ⟨g, j, none⟩ = some vs[j] ∧ w.frozen? ⟨g, j, none⟩ = false
section
variable {w w' : World} {g : Nat} {vs : List Value}
theorem Box.lt (h : Box w g vs) : g < w.heap.size := h.1
theorem Box.below {B : Nat} (h : Box w g vs) (hb : Below B w w') (hg : g < B) : Box w' g vs :=
  ⟨Nat.lt_of_lt_of_le h.1 hb.size, fun j hj => ⟨(hb.cell (p := ⟨g, j, none⟩) hg).trans (h.2 j hj).1, (hb.frozen (p := ⟨g, j, none⟩) hg).trans (h.2 j hj).2⟩⟩
theorem Box.alloc (h : Box w g vs) (o : Obj) : Box (w.alloc o) g vs := h.below (Below.alloc (Below.refl w.heap.size w) (Nat.le_refl _) o) h.1
theorem Box.drew (h : Box w g vs) : Box w.drew g vs := h
theorem Box.drewN (h : Box w g vs) (n : Nat) : Box (w.drewN n) g vs := h
theorem Box.other (h : Box w g vs) {a : Addr} (ha : a.block ≠ g) (v : Value) : Box (w.setCell a v) g vs :=
  ⟨by simpa [World.setCell] using h.1, fun j hj => ⟨by rw [World.cell?_setCell_other _ _ _ _ (by rintro rfl; exact ha rfl)]; exact (h.2 j hj).1, by rw [World.frozen?_setCell]; exact (h.2 j hj).2⟩⟩
theorem Box.set (h : Box w g vs) (j : Nat) (v : Value) : Box (w.setCell ⟨g, j, none⟩ v) g (vs.set j v) := by
  refine ⟨by simpa [World.setCell] using h.1, fun i hi => ?_⟩
  rw [List.length_set] at hi
  rw [World.frozen?_setCell]
  refine ⟨?_, (h.2 i hi).2⟩
  by_cases e : j = i
  · subst e
    rw [World.cell?_setCell_same _ _ _ (by rw [(h.2 j hi).1])]; simp
  · rw [World.cell?_setCell_other _ _ _ _ (by intro h; injection h with _ h; exact e h), (h.2 i hi).1, List.getElem_set_ne e]
theorem Box.fresh (w : World) (cs : Array Value) (t : TypeId) : Box (w.alloc (.cells cs t)) w.heap.size cs.toList := by
  have hb : (w.alloc (.cells cs t)).heap[w.heap.size]? = some (.cells cs t (0, 0)) := heap_alloc_new _ _
  refine ⟨by simp, fun j hj => ⟨?_, by simp [World.frozen?_alloc_new]⟩⟩
  rw [cell_of_row _ _ _ _ _ _ hb, Array.getElem?_eq_getElem (by simpa using hj)]
  simp
theorem Box.two {a b : Value} (h : Box w g [a, b]) : w.cell? ⟨g, 0, none⟩ = some a ∧ w.cell? ⟨g, 1, none⟩ = some b ∧ w.frozen? ⟨g, 0, none⟩ = false ∧ w.frozen? ⟨g, 1, none⟩ = false :=
  ⟨(h.2 0 (by simp)).1, (h.2 1 (by simp)).1, (h.2 0 (by simp)).2, (h.2 1 (by simp)).2⟩
theorem Box.three {a b c : Value} (h : Box w g [a, b, c]) : w.cell? ⟨g, 0, none⟩ = some a ∧ w.cell? ⟨g, 1, none⟩ = some b ∧ w.cell? ⟨g, 2, none⟩ = some c ∧ w.frozen? ⟨g, 0, none⟩ = false ∧ w.frozen? ⟨g, 1, none⟩ = false ∧ w.frozen? ⟨g, 2, none⟩ = false :=
  ⟨(h.2 0 (by simp)).1, (h.2 1 (by simp)).1, (h.2 2 (by simp)).1, (h.2 0 (by simp)).2, (h.2 1 (by simp)).2, (h.2 2 (by simp)).2⟩
end
/-- Behind new memory: the block that was new is old now. -/
theorem alloc_lt {w w1 : World} {o : Obj} {B : Nat} (hb : Below B (w.alloc o) w1) : w.heap.size < w1.heap.size := by have := hb.size; simp at this; omega
theorem alloc_lt2 {w w1 : World} {o o2 : Obj} {B : Nat} (hb : Below B ((w.alloc o).alloc o2) w1) : w.heap.size + 1 < w1.heap.size := by have := hb.size; simp at this; omega
theorem from_alloc {w w1 : World} {o : Obj} (hb : Below (w.alloc o).heap.size (w.alloc o) w1) : Below w.heap.size w w1 := ((Below.refl _ _).alloc (Nat.le_refl _) o).trans (hb.mono (by simp))
end Go.Proofs.YtpkofbdfnbpfpaaGreat.Num
