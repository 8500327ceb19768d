/-
  Data that came in, opened: a slice of structs as a row of known cells; a struct of one-cell fields field by field. For any program.
-/
import Derived.Test.YtcnpdcmdnmfnaaaRaw
import Derived.Deep.Slices
import Derived.Deep.Fields
import Derived.ChangeSame
import Derived.ChangeArms
namespace Go.Proofs.Ytcnpdcmdnmfnaaa.Num
open Go.RowKit Go.Proofs Go.ChangeShapes Go.WideShapes Go.Deep
set_option linter.unusedVariables false

theorem exists_list {α : Type} {Q : Nat → α → Prop} : ∀ n, (∀ i, i < n → ∃ x, Q i x) → ∃ l : List α, l.length = n ∧ ∀ i (h : i < l.length), Q i l[i]
  | 0, _ => ⟨[], rfl, fun i h => by simp at h⟩
  | n + 1, h => by
    obtain ⟨l, hl, hq⟩ := exists_list n fun i hi => h i (by omega)
    obtain ⟨x, hx⟩ := h n (by omega)
    refine ⟨l ++ [x], by simp [hl], fun i hi => ?_⟩
    by_cases e : i < l.length
    · rw [List.getElem_append_left e]; exact hq i e
    · have hi2 : i < l.length + 1 := by simpa using hi
      obtain rfl : i = l.length := by omega
      rw [List.getElem_append_right (by omega)]
      simp only [Nat.sub_self, List.getElem_cons_zero]
      rw [hl]; exact hx
theorem add_none (b o n : Nat) : (⟨b, o, none⟩ : Addr).add n = ⟨b, o + n, none⟩ := by
  unfold Addr.add
  split
  · next h => subst h; rfl
  · rfl
theorem cell_lt {w : World} {p : Addr} {v : Value} (h : w.cell? p = some v) : p.block < w.heap.size := by
  rcases Nat.lt_or_ge p.block w.heap.size with hlt | hge
  · exact hlt
  · unfold World.cell? at h
    rw [Array.getElem?_eq_none hge] at h
    simp at h
section
variable {H : Type} {enc : TypeId × Value → H} {P : Program} {w : World} {base : Nat} {spare : Nat → Bool} {held : Bool}
/-- A struct of one-cell fields: each field's cell by itself. -/
theorem open_fields {t : TypeId} {fs : Array Field} {fuel : Nat} {cs : List Value} {x : DataW H × List MemPlace} (hs : P.underlying t = some (.struct fs)) (hone : oneCellFields P fs = true) (hC : P.cellsOf t = fs.size)
    (h : DataW.trod enc P w base spare held fuel t cs = some x) : cs.length = fs.size ∧ ∃ n, ∀ (j : Nat) (f : Field) (hf : fs[j]? = some f) (hj : j < cs.length), ∃ y, DataW.trod enc P w base spare held n f.type [cs[j]] = some y := by
  obtain ⟨xs, n, _, _, hl, hxl, hf⟩ := DataW.trod_struct hs h
  refine ⟨hl.trans hC, n, fun j f hj hlt => ?_⟩
  obtain ⟨ho, hk⟩ := hone_of hone j f hj
  have h1 := hf j f hj
  have hjl : j < fs.size := (Array.getElem?_eq_some_iff.1 hj).1
  rw [ho, hk, show (cs.drop j).take 1 = [cs[j]] by rw [List.drop_eq_getElem_cons hlt]; rfl] at h1
  rw [List.getElem?_eq_getElem (show j < xs.length by omega)] at h1
  exact ⟨_, h1⟩
/-- A slice: a row of elements of sz cells each, of which R tells what reading one of them tells. -/
theorem open_row {α : Type} {t e : TypeId} {sz fuel : Nat} {cs : List Value} {x : DataW H × List MemPlace} (ht : P.underlying t = some (.slice e)) (hsz : P.cellsOf e = sz) (hpos : 0 < sz) (R : α → List Value → Prop)
    (hR : ∀ (n : Nat) (cs' : List Value) (y : DataW H × List MemPlace), cs'.length = sz → DataW.trod enc P w base spare held n e cs' = some y → ∃ z : α, R z cs') (h : DataW.trod enc P w base spare held fuel t cs = some x) :
    ∃ (v : Value) (l : List α), cs = [v] ∧ RowAt w (· < w.heap.size) sz R v l ∧ l.length ≤ maxLen := by
  rcases open_slice ht h with ⟨hcs, _⟩ | ⟨a, len, cap, m, n, D, Pl, hcs, hb, hl, hm, hmm, hx, hi⟩
  · exact ⟨_, [], hcs, .inl ⟨rfl, none, 0, rfl⟩, by simp⟩
  · have hlm : len ≤ m := by rw [hmm]; split <;> omega
    have key : ∀ i, i < len → ∃ zc : α × List Value, R zc.1 zc.2 ∧ zc.2.length = sz ∧ ∀ j (hj : j < zc.2.length), w.cell? ((a.add (i * sz)).add j) = some zc.2[j] := by
      intro i hilt
      obtain ⟨cs', hc, ht'⟩ := hi i (by omega)
      rw [hsz] at hc
      obtain ⟨_, hcl, hat⟩ := World.cells?_some hc
      obtain ⟨z, hz⟩ := hR n cs' _ hcl ht'
      exact ⟨(z, cs'), hz, hcl, fun j hj => by rw [hat j (by rw [← hcl]; exact hj), List.getElem?_eq_getElem hj]⟩
    obtain ⟨l, hll, hq⟩ := exists_list len key
    by_cases h0 : len = 0
    · subst h0
      exact ⟨_, [], hcs, .inl ⟨rfl, some a, cap, rfl⟩, by simp⟩
    · obtain ⟨_, hz, hc0⟩ := hq 0 (by omega)
      have hfirst := hc0 0 (by omega)
      rw [Nat.zero_mul] at hfirst
      have hsp : a.spot = none := by simpa [Addr.add] using World.cell?_spot hfirst
      obtain ⟨b, o, sp⟩ := a
      simp only at hsp
      subst hsp
      have hblt := cell_lt hfirst
      rw [add_none, add_none] at hblt
      refine ⟨_, l.map (·.1), hcs, .inr ⟨b, o, cap, by rw [List.length_map, hll], ⟨by rw [List.length_map]; omega, by rw [List.length_map]; omega⟩, hblt, fun i hilt => ?_⟩, by rw [List.length_map]; omega⟩
      rw [List.length_map] at hilt
      obtain ⟨hR1, hl1, hc1⟩ := hq i hilt
      refine ⟨l[i].2, hl1, by rw [List.getElem_map]; exact hR1, fun j hj => ?_⟩
      have := hc1 j hj
      rw [add_none, add_none] at this
      rw [← Nat.add_assoc]; exact this
end
end Go.Proofs.Ytcnpdcmdnmfnaaa.Num
