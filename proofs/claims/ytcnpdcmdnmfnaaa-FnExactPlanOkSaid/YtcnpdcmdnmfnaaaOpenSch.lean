/-
  A description that came in, opened: the value holds some description, in memory that was there.
-/
import Derived.Test.YtcnpdcmdnmfnaaaOpenRow
import Derived.Test.YtcnpdcmdnmfnaaaSzSch
import Derived.Test.YtcnpdcmdnmfnaaaChecked
import Derived.ProofKit
namespace Go.Proofs.Ytcnpdcmdnmfnaaa.Num.Sch
open Go.RowKit Go.Proofs Go.ChangeShapes Go.WideShapes Go.Deep
set_option linter.unusedVariables false

section
variable {H : Type} {enc : TypeId × Value → H} {w : World} {base : Nat} {spare : Nat → Bool} {held : Bool}
set_option maxRecDepth 100000 in
theorem open_rawField {n : Nat} {cs : List Value} {y : DataW H × List MemPlace} (hl : cs.length = 5) (h : DataW.trod enc Try.prog w base spare held n 54 cs = some y) : ∃ f : RF, fieldR f cs := by
  obtain ⟨_, n', hf⟩ := open_fields Try.underlying54 (by kernel_rfl) (by kernel_rfl) h
  match cs, hl with
  | [c0, c1, c2, c3, c4], _ =>
    obtain ⟨y0, h0⟩ := hf 0 _ rfl (by simp)
    obtain ⟨y1, h1⟩ := hf 1 _ rfl (by simp)
    obtain ⟨y2, h2⟩ := hf 2 _ rfl (by simp)
    obtain ⟨y3, h3⟩ := hf 3 _ rfl (by simp)
    obtain ⟨y4, h4⟩ := hf 4 _ rfl (by simp)
    obtain ⟨a0, e0, _⟩ := DataW.trod_int Try.underlying3 h0
    obtain ⟨a1, e1, _⟩ := DataW.trod_int Try.underlying3 h1
    obtain ⟨a2, e2, _⟩ := DataW.trod_bool Try.underlying4 h2
    obtain ⟨a3, e3, _⟩ := DataW.trod_bool Try.underlying4 h3
    obtain ⟨a4, e4, _⟩ := DataW.trod_int Try.underlying3 h4
    simp at e0 e1 e2 e3 e4
    subst e0 e1 e2 e3 e4
    exact ⟨(a0, a1, a2, a3, a4), rfl⟩
set_option maxRecDepth 100000 in
theorem open_rawMsg {n : Nat} {cs : List Value} {y : DataW H × List MemPlace} (hl : cs.length = 2) (h : DataW.trod enc Try.prog w base spare held n 106 cs = some y) : ∃ m : RM, msgR w (· < w.heap.size) m cs ∧ m.2.length ≤ maxLen := by
  obtain ⟨_, n', hf⟩ := open_fields Try.underlying106 (by kernel_rfl) (by kernel_rfl) h
  match cs, hl with
  | [c0, c1], _ =>
    obtain ⟨y0, h0⟩ := hf 0 _ rfl (by simp)
    obtain ⟨y1, h1⟩ := hf 1 _ rfl (by simp)
    obtain ⟨a0, e0, _⟩ := DataW.trod_int Try.underlying3 h0
    obtain ⟨v, l, e1, hrow, hlen⟩ := open_row (sz := 5) (α := RF) Try.underlying104 (by kernel_rfl) (by omega) fieldR (fun n cs' y hl h => open_rawField hl h) h1
    simp at e0 e1
    subst e0 e1
    exact ⟨(a0, l), ⟨c1, rfl, hrow⟩, hlen⟩
set_option maxRecDepth 100000 in
theorem open_raw {r0 : Reach} {b0 : Nat} {v : Value} {d : DataW H} {p : List MemPlace} (hv : Value.okWide Try.prog w r0 b0 40 v) (h : DataW.Trod enc Try.prog w base spare held 40 v d p) :
    ∃ (y : Value) (r : List RM), v = .agg #[y] ∧ MsgsAt w (· < w.heap.size) y r ∧ inMem r := by
  obtain ⟨cs, rfl, hsz⟩ := okWide_struct Try.underlying40 hv
  obtain ⟨fuel, hf⟩ := h
  obtain ⟨hl, n', hfs⟩ := open_fields Try.underlying40 (by kernel_rfl) (by kernel_rfl) hf
  have hc : (Value.agg cs).cells = cs := rfl
  rw [hc] at hl hfs
  obtain ⟨l⟩ := cs
  simp only at hl hfs
  match l, hl with
  | [c0], _ =>
    obtain ⟨y0, h0⟩ := hfs 0 _ rfl (by simp)
    obtain ⟨v, ms, e1, hrow, hlen⟩ := open_row (sz := 2) (α := RM) Try.underlying38 (by kernel_rfl) (by omega) (fun m cs => msgR w (· < w.heap.size) m cs ∧ m.2.length ≤ maxLen) (fun n cs' y hl h => open_rawMsg hl h) h0
    simp at e1
    subst e1
    refine ⟨c0, ms, rfl, hrow.keep (fun _ _ _ => rfl) (fun _ h => h) fun m cs h => h.1, by unfold maxLen at hlen; omega, fun m hm => ?_⟩
    obtain ⟨i, hi, rfl⟩ := List.getElem_of_mem hm
    rcases hrow with ⟨rfl, _⟩ | ⟨b, o, cap, _, _, _, hc⟩
    · simp at hi
    · obtain ⟨_, _, ⟨_, h2⟩, _⟩ := hc i hi
      unfold maxLen at h2; omega
set_option maxRecDepth 100000 in
theorem open_field {r0 : Reach} {b0 : Nat} {v : Value} {d : DataW H} {p : List MemPlace} (hv : Value.okWide Try.prog w r0 b0 54 v) (h : DataW.Trod enc Try.prog w base spare held 54 v d p) : ∃ f : RF, v = fieldV f := by
  obtain ⟨cs, rfl, hsz⟩ := okWide_struct Try.underlying54 hv
  obtain ⟨fuel, hf⟩ := h
  obtain ⟨hl, _, _⟩ := open_fields Try.underlying54 (by kernel_rfl) (by kernel_rfl) hf
  have hc : (Value.agg cs).cells = cs := rfl
  rw [hc] at hl hf
  obtain ⟨l⟩ := cs
  obtain ⟨f, hf⟩ := open_rawField hl hf
  exact ⟨f, by unfold fieldR at hf; simp only at hf; rw [hf]; rfl⟩
end
end Go.Proofs.Ytcnpdcmdnmfnaaa.Num.Sch
