/-
  The program's table of words (violationWords): what the row's listed condition says of its cells; it stays where only new memory is written.
-/
import Derived.Test.YtlepaimcgofkoaaDoorViolText
import Derived.Test.YtlepaimcgofkoaaDoorRows
import Derived.Lib.LaidTab
import Derived.ChangeArms
import Derived.Stop.LaidErr
import Derived.Below
namespace Go.Proofs.YtlepaimcgofkoaaDoor.Num
open Go.RowKit Go.Proofs Go
set_option linter.unusedVariables false

/-- A list of words as a row lists it. -/
def wordsData (zs : List (List UInt8)) : DataW Unit := .agg (zs.map fun z => .lit (.string z))
/-- An array of strings that reads as these words holds them, cell for cell. -/
theorem cells_of_words {P : Program} {w : World} {base : Nat} {sp : Nat → Bool} {held : Bool} {fuel : Nat} {enc : TypeId × Value → Unit} {t e : TypeId} {n : Nat} {cs : List Value} {zs : List (List UInt8)} {p : List MemPlace}
    (ht : P.underlying t = some (.array n e)) (he : P.underlying e = some .string) (hce : P.cellsOf e = 1) (hct : P.cellsOf t = n) (hn : zs.length = n)
    (h : DataW.trod enc P w base sp held fuel t cs = some (wordsData zs, p)) (i : Nat) (hi : i < zs.length) : cs[i]? = some (.string ⟨zs[i].toArray⟩) := by
  cases fuel with
  | zero => simp [DataW.trod] at h
  | succ fuel =>
    simp only [DataW.trod, ht, hce, hct, Nat.mul_one] at h
    split at h
    · rename_i hl
      obtain ⟨xs, hm, hx⟩ := Option.map_eq_some_iff.1 h
      have hxs : xs.map (·.1) = zs.map fun z => (DataW.lit (.string z) : DataW Unit) := by
        have := congrArg Prod.fst hx
        simpa [wordsData] using this
      have hi2 : i < n := by omega
      obtain ⟨b, hb, hf⟩ := Go.Lib.mapM_at hm i i (by simp [hi2])
      obtain ⟨s, hc, rfl, _⟩ := DataW.trod_string he hf
      have h1 : cs[i]? = some (.string s) := by
        have := congrArg (·[0]?) hc
        simpa [List.getElem?_take, List.getElem?_drop] using this
      have h2 : (xs.map (·.1))[i]? = some (DataW.lit (.string s.data.toList) : DataW Unit) := by simp [hb]
      rw [hxs] at h2
      simp only [List.getElem?_map, Option.map_eq_some_iff, DataW.lit.injEq, Lit.string.injEq] at h2
      obtain ⟨z', hz', hzs⟩ := h2
      rw [List.getElem?_eq_getElem hi] at hz'
      obtain rfl := Option.some.inj hz'
      rw [h1, hzs]
    · cases h
def wordTab : List (List UInt8) := [[111, 107], [109, 115, 103, 115], [105, 100], [116, 119, 105, 99, 101], [102, 105, 101, 108, 100, 115], [110, 117, 109, 98, 101, 114], [115, 97, 109, 101], [107, 105, 110, 100], [112, 97, 99, 107, 101, 100], [114, 101, 102]]
/-- The table holds the ten words. -/
def WordsIs (w : World) : Prop := ∀ i (h : i < wordTab.length), w.cell? ⟨0, i, none⟩ = some (.string ⟨wordTab[i].toArray⟩)
theorem wt_global : Tryd.prog.globalNamed "loop.example/g00498/impl.violationWords" = some 0 := by kernel_rfl
theorem wt_type : (Tryd.prog.globals[0]?).map (·.type) = some 69 := by kernel_rfl
theorem wt_cells : Tryd.prog.cellsOf 69 = 10 := by kernel_rfl
theorem wt_one : Tryd.prog.cellsOf 9 = 1 := by kernel_rfl
theorem words_of {W : World} {d : DataW Unit} {rest : List (String × DataW Unit)} (h : laidMet Tryd.prog (("loop.example/g00498/impl.violationWords", d) :: rest) W) (hd : d = wordsData wordTab := by rfl) : WordsIs W := by
  subst hd
  obtain ⟨ps, ⟨g', t', cs, fuel, p, q, hg', ht', hvar, hdat, _, _⟩, _⟩ := h
  obtain rfl := Option.some.inj (wt_global.symm.trans hg')
  obtain rfl := Option.some.inj (wt_type.symm.trans ht')
  intro i hi
  have hc := cells_of_words Tryd.underlying69 Tryd.underlying9 wt_one wt_cells rfl hdat i hi
  have := World.var?_cell wt_global hvar i
  rw [this]
  simpa using hc
theorem WordsIs.lt {w : World} (h : WordsIs w) : 0 < w.heap.size := by
  have h0 := h 0 (by decide)
  unfold World.cell? at h0
  rcases Nat.lt_or_ge 0 w.heap.size with h' | h'
  · exact h'
  · simp [Array.getElem?_eq_none h'] at h0
theorem WordsIs.below {w w' : World} {B : Nat} (h : WordsIs w) (hb : Below B w w') (hB : 0 < B) : WordsIs w' :=
  fun i hi => (hb.cell (p := ⟨0, i, none⟩) hB).trans (h i hi)
theorem WordsIs.all {w w' : World} (h : WordsIs w) (hb : Below w.heap.size w w') : WordsIs w' := h.below hb h.lt
theorem wordV_tab {c : Int} (h : 0 ≤ c) (h9 : c < 10) : wordV c = wordTab[c.toNat]'(by show c.toNat < 10; omega) := by
  obtain ⟨k, rfl⟩ := Int.eq_ofNat_of_zero_le h
  have hk : k < 10 := by omega
  match k, hk with
  | 0, _ => rfl
  | 1, _ => rfl
  | 2, _ => rfl
  | 3, _ => rfl
  | 4, _ => rfl
  | 5, _ => rfl
  | 6, _ => rfl
  | 7, _ => rfl
  | 8, _ => rfl
  | 9, _ => rfl
end Go.Proofs.YtlepaimcgofkoaaDoor.Num
