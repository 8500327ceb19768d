/-
  The walks of the reference's SameEvents, Terminal and Many; two events compared.
-/
import Derived.Test.YtcnpdcmdnmfnaaaToEv
import Derived.Test.YtcnpdcmdnmfnaaaRawBase
import Derived.Deep.QuietTactic
import Derived.BigQuiet
import Derived.WideShapes
namespace Go.Proofs.Ytcnpdcmdnmfnaaa.Num
open Go.RowKit Go.Proofs
set_option linter.unusedVariables false
set_option linter.unusedSimpArgs false

theorem Box.seven {w : World} {g : Nat} {a b c d e f h : Value} (hx : Box w g [a, b, c, d, e, f, h]) : (w.cell? ⟨g, 0, none⟩ = some a ∧ w.cell? ⟨g, 1, none⟩ = some b ∧ w.cell? ⟨g, 2, none⟩ = some c ∧ w.cell? ⟨g, 3, none⟩ = some d ∧ w.cell? ⟨g, 4, none⟩ = some e ∧ w.cell? ⟨g, 5, none⟩ = some f ∧ w.cell? ⟨g, 6, none⟩ = some h) ∧
    w.frozen? ⟨g, 0, none⟩ = false ∧ w.frozen? ⟨g, 1, none⟩ = false ∧ w.frozen? ⟨g, 2, none⟩ = false ∧ w.frozen? ⟨g, 3, none⟩ = false ∧ w.frozen? ⟨g, 4, none⟩ = false ∧ w.frozen? ⟨g, 5, none⟩ = false ∧ w.frozen? ⟨g, 6, none⟩ = false :=
  ⟨⟨(hx.2 0 (by simp)).1, (hx.2 1 (by simp)).1, (hx.2 2 (by simp)).1, (hx.2 3 (by simp)).1, (hx.2 4 (by simp)).1, (hx.2 5 (by simp)).1, (hx.2 6 (by simp)).1⟩,
    (hx.2 0 (by simp)).2, (hx.2 1 (by simp)).2, (hx.2 2 (by simp)).2, (hx.2 3 (by simp)).2, (hx.2 4 (by simp)).2, (hx.2 5 (by simp)).2, (hx.2 6 (by simp)).2⟩
theorem ba_inj {a b : ByteArray} (h : a.toList = b.toList) : a = b := by
  rw [ByteArray.toList_eq, ByteArray.toList_eq] at h
  exact Go.WideShapes.bytes_inj (by simpa using h)
theorem neBA {a b : ByteArray} (h : a ≠ b) : (a.toList == b.toList) = false := by rw [beq_eq_false_iff_ne]; exact fun e => h (ba_inj e)
/-- Two events compared by the program's '=='. -/
theorem evEq (a b : Ev) (w : World) : (Op.equalIn 10000 35 (evV a) (evV b)).run Try.prog w = .ok (decide (a = b)) w := by
  obtain ⟨k, f, b', l, t, c, p⟩ := a
  obtain ⟨k', f', b'', l', t', c', p'⟩ := b
  unfold evV
  simp only
  have key : decide ((⟨k, f, b', l, t, c, p⟩ : Ev) = ⟨k', f', b'', l', t', c', p'⟩) = ((k == k') && ((f == f') && ((b' == b'') && ((l == l') && ((t.toList == t'.toList) && ((c == c') && (p == p'))))))) := by
    rw [Bool.eq_iff_iff]
    simp only [decide_eq_true_eq, Bool.and_eq_true, beq_iff_eq]
    rw [Ev.same]
    simp only
    constructor
    · rintro ⟨h1, h2, h3, h4, h5, h6, h7⟩; exact ⟨h1, h2, h3, h4, by rw [h5], h6, h7⟩
    · rintro ⟨h1, h2, h3, h4, h5, h6, h7⟩; exact ⟨h1, h2, h3, h4, ba_inj h5, h6, h7⟩
  rw [key]
  clear key
  cases h1 : (k == k')
  · go_simp
  · cases h2 : (f == f')
    · go_simp
    · cases h3 : (b' == b'')
      · go_simp
      · cases h4 : (l == l')
        · go_simp
        · cases h5 : (t.toList == t'.toList)
          · go_simp
          · cases h6 : (c == c')
            · go_simp
            · cases h7 : (p == p')
              · go_simp
              · go_simp
theorem evEq_as {a b : Ev} {Q : Bool} (h : decide (a = b) = Q) (w : World) : (Op.equalIn 10000 35 (evV a) (evV b)).run Try.prog w = .ok Q w := h ▸ evEq a b w
def termB (e : Ev) : Bool := decide (e.kind = 9 ∨ e.kind = 10)
def manyN (l : List Ev) (k : Int) : Nat := l.countP fun e => decide (e.kind = k)
theorem manyN_take (l : List Ev) (k : Int) (i : Nat) (hi : i < l.length) : manyN (l.take (i + 1)) k = manyN (l.take i) k + (if l[i].kind = k then 1 else 0) := by
  unfold manyN
  rw [List.take_succ_eq_append_getElem hi, List.countP_append, List.countP_singleton]
  by_cases h : l[i].kind = k <;> simp [h]
theorem manyN_le (l : List Ev) (k : Int) : manyN l k ≤ l.length := List.countP_le_length
end Go.Proofs.Ytcnpdcmdnmfnaaa.Num
