/-
  Events that came in, opened: a struct, and a slice of them, in memory that was there.
-/
import Derived.Test.YteplmjlllnbiiaaOpenRow
import Derived.Test.YteplmjlllnbiiaaEv
import Derived.Test.YteplmjlllnbiiaaChecked
import Derived.ProofKit
import Derived.OpenShut
namespace Go.Proofs.Yteplmjlllnbiiaa.Num
open Go.RowKit Go.Proofs Go.ChangeShapes Go.WideShapes Go.Deep
set_option linter.unusedVariables false

section
variable {H : Type} {enc : TypeId × Value → H} {w : World} {base : Nat} {spare : Nat → Bool} {held : Bool}
set_option maxRecDepth 100000 in
theorem open_ev {n : Nat} {cs : List Value} {y : DataW H × List MemPlace} (hl : cs.length = 7) (h : DataW.trod enc Try.prog w base spare held n 59 cs = some y) : ∃ e : Ev, evR e cs ∧ e.Wf := by
  obtain ⟨_, n', hf⟩ := open_fields Try.underlying59 (by kernel_rfl) (by kernel_rfl) h
  match cs, hl with
  | [c0, c1, c2, c3, c4, c5, c6], _ =>
    obtain ⟨y0, h0⟩ := hf 0 _ rfl (by simp)
    obtain ⟨y1, h1⟩ := hf 1 _ rfl (by simp)
    obtain ⟨y2, h2⟩ := hf 2 _ rfl (by simp)
    obtain ⟨y3, h3⟩ := hf 3 _ rfl (by simp)
    obtain ⟨y4, h4⟩ := hf 4 _ rfl (by simp)
    obtain ⟨y5, h5⟩ := hf 5 _ rfl (by simp)
    obtain ⟨y6, h6⟩ := hf 6 _ rfl (by simp)
    obtain ⟨a0, e0, _, w0⟩ := DataW.trod_int Try.underlying3 h0
    obtain ⟨a1, e1, _, w1⟩ := DataW.trod_int Try.underlying3 h1
    obtain ⟨a2, e2, _, w2⟩ := DataW.trod_int Try.underlying29 h2
    obtain ⟨a3, e3, _, w3⟩ := DataW.trod_int Try.underlying3 h3
    obtain ⟨a4, e4, _, w4⟩ := DataW.trod_string Try.underlying9 h4
    obtain ⟨a5, e5, _, w5⟩ := DataW.trod_int Try.underlying3 h5
    obtain ⟨a6, e6, _, w6⟩ := DataW.trod_int Try.underlying3 h6
    simp at e0 e1 e2 e3 e4 e5 e6
    subst e0 e1 e2 e3 e4 e5 e6
    exact ⟨⟨a0, a1, a2, a3, a4, a5, a6⟩, rfl, bounds_i64 w0, bounds_i64 w1, bounds_u64 w2, bounds_i64 w3, by unfold maxLen at w4; simp only; omega, bounds_i64 w5, bounds_i64 w6⟩
set_option maxRecDepth 100000 in
theorem open_events {r0 : Reach} {b0 : Nat} {v : Value} {d : DataW H} {p : List MemPlace} (hv : Value.okWide Try.prog w r0 b0 37 v) (h : DataW.Trod enc Try.prog w base spare held 37 v d p) :
    ∃ (a : Option Addr) (cap : Nat) (l : List Ev), v = .slice a l.length cap ∧ EvsAt w (· < w.heap.size) (.slice a l.length cap) l ∧ EvsWf l ∧ l.length ≤ 9223372036854775807 := by
  obtain ⟨fuel, hf⟩ := h
  obtain ⟨v', l, e1, hrow, hlen⟩ := open_row (sz := 7) (α := Ev) Try.underlying37 (by kernel_rfl) (by omega) (fun e cs => evR e cs ∧ e.Wf) (fun n cs' y hl h => open_ev hl h) hf
  have hwf : EvsWf l := fun e he => by
    obtain ⟨i, hi, rfl⟩ := List.getElem_of_mem he
    rcases hrow with ⟨rfl, _⟩ | ⟨b, o, cap, _, _, _, hc⟩
    · simp at hi
    · obtain ⟨_, _, ⟨_, h2⟩, _⟩ := hc i hi
      exact h2
  have hat : EvsAt w (· < w.heap.size) v' l := hrow.keep (fun _ _ _ => rfl) (fun _ h => h) fun m cs h => h.1
  obtain ⟨a, cap, rfl⟩ := hat.len
  obtain ⟨a2, n2, c2, rfl⟩ := okWide_slice Try.underlying37 hv
  have hv2 : Value.slice a2 n2 c2 = .slice a l.length cap := by simpa [Value.cells] using e1
  exact ⟨a, cap, l, hv2, hat, hwf, by unfold maxLen at hlen; omega⟩
set_option maxRecDepth 100000 in
theorem open_event {r0 : Reach} {b0 : Nat} {v : Value} {d : DataW H} {p : List MemPlace} (hv : Value.okWide Try.prog w r0 b0 59 v) (h : DataW.Trod enc Try.prog w base spare held 59 v d p) : ∃ e : Ev, v = evV e ∧ e.Wf := by
  obtain ⟨cs, rfl, hsz⟩ := okWide_struct Try.underlying59 hv
  obtain ⟨fuel, hf⟩ := h
  obtain ⟨hl, _, _⟩ := open_fields Try.underlying59 (by kernel_rfl) (by kernel_rfl) hf
  have hc : (Value.agg cs).cells = cs := rfl
  rw [hc] at hl hf
  obtain ⟨l⟩ := cs
  obtain ⟨e, hf, hw⟩ := open_ev hl hf
  exact ⟨e, by unfold evR at hf; simp only at hf; rw [hf]; rfl, hw⟩
end
end Go.Proofs.Yteplmjlllnbiiaa.Num
