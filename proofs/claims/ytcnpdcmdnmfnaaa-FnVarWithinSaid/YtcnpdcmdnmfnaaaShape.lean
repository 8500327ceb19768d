/-
  The walks of the reference's ShapeAt, FieldAt and Runs: they give what the plain definitions here say; only new memory is written.
-/
import Derived.Test.YtcnpdcmdnmfnaaaZeroF
import Derived.Test.YtcnpdcmdnmfnaaaRawBase
import Derived.Test.YtcnpdcmdnmfnaaaKind
namespace Go.Proofs.Ytcnpdcmdnmfnaaa.Num
open Go.RowKit Go.Proofs
set_option linter.unusedVariables false
set_option linter.unusedSimpArgs false

def shapeAtR (s : List RM) (id : Int) : Int := match s.findIdx? (fun m => m.1 == id) with | some i => (i : Int) | none => -1
theorem shapeAt_yes {s : List RM} {id : Int} {k : Nat} (hk : k < s.length) (h : s[k].1 = id) (hno : ∀ j (hj : j < s.length), j < k → s[j].1 ≠ id) : shapeAtR s id = (k : Int) := by
  unfold shapeAtR
  rw [List.findIdx?_eq_some_iff_getElem.2 ⟨hk, by simpa using h, fun j hj => by simpa using hno j (by omega) hj⟩]
theorem shapeAt_no {s : List RM} {id : Int} (hno : ∀ j (hj : j < s.length), s[j].1 ≠ id) : shapeAtR s id = -1 := by
  unfold shapeAtR
  rw [List.findIdx?_eq_none_iff.2 (fun m hm => by obtain ⟨j, hj, rfl⟩ := List.getElem_of_mem hm; simpa using hno j hj)]
def fieldIn (l : List RF) (x : Int) : RF × Bool := match l.find? (fun f => f.1 == x) with | some f => (f, true) | none => (zeroF, false)
def fieldAtR (s : List RM) (shape x : Int) : RF × Bool := if h : 0 ≤ shape ∧ shape.toNat < s.length then fieldIn (s[shape.toNat]'h.2).2 x else (zeroF, false)
theorem fieldIn_yes {l : List RF} {x : Int} {k : Nat} (hk : k < l.length) (h : l[k].1 = x) (hno : ∀ j (hj : j < l.length), j < k → l[j].1 ≠ x) : fieldIn l x = (l[k], true) := by
  unfold fieldIn
  rw [List.find?_eq_some_iff_getElem.2 ⟨by simpa using h, k, hk, rfl, fun j hj => by simpa using hno j (by omega) hj⟩]
theorem fieldIn_no {l : List RF} {x : Int} (hno : ∀ j (hj : j < l.length), l[j].1 ≠ x) : fieldIn l x = (zeroF, false) := by
  unfold fieldIn
  rw [List.find?_eq_none.2 (fun m hm => by obtain ⟨j, hj, rfl⟩ := List.getElem_of_mem hm; simpa using hno j hj)]
theorem fieldAt_in {s : List RM} {k : Nat} {x : Int} (h : k < s.length) : fieldAtR s (k : Int) x = fieldIn s[k].2 x := by
  unfold fieldAtR
  rw [dif_pos ⟨by omega, by simpa using h⟩]
  simp
theorem fieldAt_out {s : List RM} {shape x : Int} (h : ¬ (0 ≤ shape ∧ shape ≤ (s.length : Int) - 1)) : fieldAtR s shape x = (zeroF, false) := by
  unfold fieldAtR
  rw [dif_neg (by omega)]
def runsB (f : RF) : Bool := f.2.2.1 && numericB f.2.1
theorem Box.five {w : World} {g : Nat} {a b c d e : Value} (h : Box w g [a, b, c, d, e]) : (w.cell? ⟨g, 0, none⟩ = some a ∧ w.cell? ⟨g, 1, none⟩ = some b ∧ w.cell? ⟨g, 2, none⟩ = some c ∧ w.cell? ⟨g, 3, none⟩ = some d ∧ w.cell? ⟨g, 4, none⟩ = some e) ∧
    w.frozen? ⟨g, 0, none⟩ = false ∧ w.frozen? ⟨g, 1, none⟩ = false ∧ w.frozen? ⟨g, 2, none⟩ = false ∧ w.frozen? ⟨g, 3, none⟩ = false ∧ w.frozen? ⟨g, 4, none⟩ = false :=
  ⟨⟨(h.2 0 (by simp)).1, (h.2 1 (by simp)).1, (h.2 2 (by simp)).1, (h.2 3 (by simp)).1, (h.2 4 (by simp)).1⟩, (h.2 0 (by simp)).2, (h.2 1 (by simp)).2, (h.2 2 (by simp)).2, (h.2 3 (by simp)).2, (h.2 4 (by simp)).2⟩
theorem neS {x c : Int} (h : x ≠ c) : (x == c) = false := by rw [beq_eq_false_iff_ne]; exact h
end Go.Proofs.Ytcnpdcmdnmfnaaa.Num
