/-
  A plan that came in, opened: its schema some description, in memory that was there, and three numbers.
-/
import Derived.Test.YtcnpdcmdnmfnaaaOpenSch
import Derived.Test.YtcnpdcmdnmfnaaaPlanW
namespace Go.Proofs.Ytcnpdcmdnmfnaaa.Num
open Go.RowKit Go.Proofs Go.ChangeShapes Go.WideShapes Go.Deep
set_option linter.unusedVariables false
section
variable {H : Type} {enc : TypeId × Value → H} {w : World} {base : Nat} {spare : Nat → Bool} {held : Bool}
set_option maxRecDepth 100000 in
theorem open_rowSch {n : Nat} {c0 : Value} {y : DataW H × List MemPlace} (h : DataW.trod enc Try.prog w base spare held n 40 [c0] = some y) : ∃ r : List RM, MsgsAt w (· < w.heap.size) c0 r ∧ inMem r := by
  obtain ⟨hl, n', hfs⟩ := open_fields Try.underlying40 (by kernel_rfl) (by kernel_rfl) h
  obtain ⟨y0, h0⟩ := hfs 0 _ rfl (by simp)
  obtain ⟨v, ms, e1, hrow, hlen⟩ := open_row (sz := 2) (α := RM) Try.underlying38 (by kernel_rfl) (by omega) (fun m cs => msgR w (· < w.heap.size) m cs ∧ m.2.length ≤ maxLen) (fun n cs' y hl h => Sch.open_rawMsg hl h) h0
  simp at e1
  subst e1
  refine ⟨ms, hrow.keep (fun _ _ _ => rfl) (fun _ h => h) fun m cs h => h.1, by unfold maxLen at hlen; omega, fun m hm => ?_⟩
  obtain ⟨i, hi, rfl⟩ := List.getElem_of_mem hm
  rcases hrow with ⟨rfl, _⟩ | ⟨b, o, cap, _, _, _, hc⟩
  · simp at hi
  · obtain ⟨_, _, ⟨_, h2⟩, _⟩ := hc i hi
    unfold maxLen at h2; omega
set_option maxRecDepth 100000 in
theorem open_plan {r0 : Reach} {b0 : Nat} {v : Value} {d : DataW H} {p : List MemPlace} (hv : Value.okWide Try.prog w r0 b0 42 v) (h : DataW.Trod enc Try.prog w base spare held 42 v d p) :
    ∃ (y : Value) (r : List RM) (A B C : Int), v = planV y A B C ∧ MsgsAt w (· < w.heap.size) y r ∧ inMem r := by
  obtain ⟨cs, rfl, hsz⟩ := okWide_struct Try.underlying42 hv
  obtain ⟨fuel, hf⟩ := h
  obtain ⟨hl, n', hfs⟩ := open_fields Try.underlying42 (by kernel_rfl) (by kernel_rfl) hf
  have hc : (Value.agg cs).cells = cs := rfl
  rw [hc] at hl hfs
  obtain ⟨l⟩ := cs
  simp only at hl hfs
  match l, hl with
  | [c0, c1, c2, c3], _ =>
    obtain ⟨y0, h0⟩ := hfs 0 _ rfl (by simp)
    obtain ⟨y1, h1⟩ := hfs 1 _ rfl (by simp)
    obtain ⟨y2, h2⟩ := hfs 2 _ rfl (by simp)
    obtain ⟨y3, h3⟩ := hfs 3 _ rfl (by simp)
    obtain ⟨a1, e1, _⟩ := DataW.trod_int Try.underlying3 h1
    obtain ⟨a2, e2, _⟩ := DataW.trod_int Try.underlying3 h2
    obtain ⟨a3, e3, _⟩ := DataW.trod_int Try.underlying3 h3
    obtain ⟨r, hr, hm⟩ := open_rowSch h0
    simp at e1 e2 e3
    subst e1 e2 e3
    exact ⟨c0, r, a1, a2, a3, rfl, hr, hm⟩
end
end Go.Proofs.Ytcnpdcmdnmfnaaa.Num
