/-
  The program's tables of words for events and errors (eventWords, errorWords) as the rows list them, and the walks of EventWord and ErrorWord, the reference's and the program's; only new memory is written.
-/
import Derived.Test.YtbjndnpdmohjiaaDoorIn
import Derived.Test.YtbjndnpdmohjiaaDoorRows
import Derived.Lib.LaidTab
import Derived.Lib.Hide
import Derived.ChangeArms
import Derived.Stop.LaidErr
import Derived.Below
namespace Go.Proofs.YtbjndnpdmohjiaaDoor.Num
open Go.RowKit Go.Proofs Go
set_option linter.unusedVariables false
set_option linter.unusedSimpArgs false

/-- A list of words as a row lists it. -/
def tabData (zs : List (List UInt8)) : DataW Unit := .agg (zs.map fun z => .lit (.string z))
/-- An array of strings that reads as these words holds them, cell for cell. -/
theorem cells_of_tab {P : Program} {w : World} {base : Nat} {sp : Nat → Bool} {held : Bool} {fuel : Nat} {enc : TypeId × Value → Unit} {t e : TypeId} {n : Nat} {cs : List Value} {zs : List (List UInt8)} {p : List MemPlace}
    (ht : P.underlying t = some (.array n e)) (he : P.underlying e = some .string) (hce : P.cellsOf e = 1) (hct : P.cellsOf t = n) (hn : zs.length = n)
    (h : DataW.trod enc P w base sp held fuel t cs = some (tabData zs, p)) (i : Nat) (hi : i < zs.length) : cs[i]? = some (.string ⟨zs[i].toArray⟩) := by
  cases fuel with
  | zero => simp [DataW.trod] at h
  | succ fuel =>
    simp only [DataW.trod, ht, hce, hct, Nat.mul_one] at h
    split at h
    · rename_i hl
      obtain ⟨xs, hm, hx⟩ := Option.map_eq_some_iff.1 h
      have hxs : xs.map (·.1) = zs.map fun z => (DataW.lit (.string z) : DataW Unit) := by
        have := congrArg Prod.fst hx
        simpa [tabData] using this
      have hi2 : i < n := by omega
      obtain ⟨b, hb, hf⟩ := Go.Lib.mapM_at hm i i (by simp [hi2])
      obtain ⟨s, hc, rfl, _⟩ := DataW.trod_string he hf
      have h1 : cs[i]? = some (.string s) := by
        have := congrArg (·[0]?) hc
        simpa [List.getElem?_take, List.getElem?_drop] using this
      have h2 : (xs.map (·.1))[i]? = some (DataW.lit (.string s.data.toList) : DataW Unit) := by simp [hb]
      rw [hxs] at h2
      simp only [List.getElem?_map, Option.map_eq_some_iff, DataW.lit.injEq, Lit.string.injEq] at h2
      obtain ⟨z', hz', hzs⟩ := h2
      rw [List.getElem?_eq_getElem hi] at hz'
      obtain rfl := Option.some.inj hz'
      rw [h1, hzs]
    · cases h
/-- Block g holds these words. -/
def TabAt (w : World) (g : Nat) (zs : List (List UInt8)) : Prop := ∀ i (h : i < zs.length), w.cell? ⟨g, i, none⟩ = some (.string ⟨zs[i].toArray⟩)
theorem tab_of {P : Program} {n : String} {g : Nat} {t e : TypeId} {zs : List (List UInt8)} {W : World} {d : DataW Unit} {rest : List (String × DataW Unit)} (hg : P.globalNamed n = some g) (ht : (P.globals[g]?).map (·.type) = some t)
    (hu : P.underlying t = some (.array zs.length e)) (he : P.underlying e = some .string) (hce : P.cellsOf e = 1) (hct : P.cellsOf t = zs.length) (h : laidMet P ((n, d) :: rest) W) (hd : d = tabData zs) : TabAt W g zs := by
  subst hd
  obtain ⟨ps, ⟨g', t', cs, fuel, p, q, hg', ht', hvar, hdat, _, _⟩, _⟩ := h
  obtain rfl := Option.some.inj (hg.symm.trans hg')
  obtain rfl := Option.some.inj (ht.symm.trans ht')
  intro i hi
  have hc := cells_of_tab hu he hce hct rfl hdat i hi
  have := World.var?_cell hg hvar i
  rw [this]
  simpa using hc
theorem TabAt.lt {w : World} {g : Nat} {zs : List (List UInt8)} (h : TabAt w g zs) (h0 : 0 < zs.length) : g < w.heap.size := by
  have h0 := h 0 h0
  unfold World.cell? at h0
  rcases Nat.lt_or_ge g w.heap.size with h' | h'
  · exact h'
  · simp [Array.getElem?_eq_none h'] at h0
theorem TabAt.below {w w' : World} {B g : Nat} {zs : List (List UInt8)} (h : TabAt w g zs) (hb : Below B w w') (hB : g < B) : TabAt w' g zs :=
  fun i hi => (hb.cell (p := ⟨g, i, none⟩) hB).trans (h i hi)
theorem TabAt.all {w w' : World} {g : Nat} {zs : List (List UInt8)} (h : TabAt w g zs) (h0 : 0 < zs.length) (hb : Below w.heap.size w w') : TabAt w' g zs := h.below hb (h.lt h0)
def eventTab : List (List UInt8) := [[], [102, 114, 97, 109, 101], [110, 117, 109], [111, 112, 101, 110], [112, 97, 114, 116], [115, 104, 117, 116], [100, 111, 119, 110], [117, 112], [101, 110, 100], [100, 111, 110, 101], [102, 97, 105, 108]]
def errorTab : List (List UInt8) := [[], [118, 97, 114, 105, 110, 116], [116, 97, 103], [119, 105, 114, 101], [107, 105, 110, 100], [117, 116, 102], [100, 101, 101, 112], [102, 114, 97, 109, 101], [108, 101, 110, 103, 116, 104], [101, 110, 100], [99, 117, 116]]
/-- The word of a number in such a table. -/
def tabWord (zs : List (List UInt8)) (k : Int) : ByteArray := if 1 ≤ k ∧ k ≤ 10 then ⟨(zs.getD k.toNat []).toArray⟩ else ⟨#[]⟩
theorem tabWord_no {zs : List (List UInt8)} {k : Int} (h : ¬ (1 ≤ k ∧ k ≤ 10)) : tabWord zs k = ⟨#[]⟩ := if_neg h
theorem tabWord_nat {zs : List (List UInt8)} {k : Nat} (hk : k < 11) (hl : zs.length = 11) (h0 : zs.getD 0 [] = []) : tabWord zs (k : Int) = ⟨(zs[k]'(by omega)).toArray⟩ := by
  by_cases h : k = 0
  · subst h
    rw [tabWord_no (by omega)]
    have : zs[0]'(by omega) = [] := by rw [← h0, List.getD_eq_getElem?_getD, List.getElem?_eq_getElem]; rfl
    rw [this]
  · unfold tabWord
    rw [if_pos (by omega)]
    simp [List.getD_eq_getElem?_getD, List.getElem?_eq_getElem (show k < zs.length by omega)]
theorem ten_kinds {k : Int} (h : 1 ≤ k ∧ k ≤ 10) : k = 1 ∨ k = 2 ∨ k = 3 ∨ k = 4 ∨ k = 5 ∨ k = 6 ∨ k = 7 ∨ k = 8 ∨ k = 9 ∨ k = 10 := by omega
/-- Two numbers, one of them with a word, have one word just if they are one. -/
theorem event_inj {a b : Int} (ha : 1 ≤ a ∧ a ≤ 10) (hb : 1 ≤ b ∧ b ≤ 10) : ((tabWord eventTab a).toList == (tabWord eventTab b).toList) = (a == b) := by
  rw [ByteArray.toList_eq, ByteArray.toList_eq]
  rcases ten_kinds ha with rfl | rfl | rfl | rfl | rfl | rfl | rfl | rfl | rfl | rfl <;> rcases ten_kinds hb with rfl | rfl | rfl | rfl | rfl | rfl | rfl | rfl | rfl | rfl <;> decide
theorem error_inj {a b : Int} (ha : 1 ≤ a ∧ a ≤ 10) (hb : 1 ≤ b ∧ b ≤ 10) : ((tabWord errorTab a).toList == (tabWord errorTab b).toList) = (a == b) := by
  rw [ByteArray.toList_eq, ByteArray.toList_eq]
  rcases ten_kinds ha with rfl | rfl | rfl | rfl | rfl | rfl | rfl | rfl | rfl | rfl <;> rcases ten_kinds hb with rfl | rfl | rfl | rfl | rfl | rfl | rfl | rfl | rfl | rfl <;> decide
theorem event_some {a : Int} (ha : 1 ≤ a ∧ a ≤ 10) : (tabWord eventTab a).toList.isEmpty = false := by
  rw [ByteArray.toList_eq]
  rcases ten_kinds ha with rfl | rfl | rfl | rfl | rfl | rfl | rfl | rfl | rfl | rfl <;> decide
theorem tIndex_yes (i n : Int) (w : World) (h : 0 ≤ i ∧ i < n) : Calls Tryd.prog 23 #[.int .i64 i, .int .i64 n] w fun e w' => e = .returned (.bool true) ∧ w = w' := by
  obtain ⟨h1, h2⟩ := h
  have d1 : decide (0 ≤ i) = true := decide_eq_true h1
  have d2 : decide (i < n) = true := decide_eq_true h2
  go_enter Tryd.func23, Tryd.ntmps23
  go_wp2_with fail
  go_ret
  exact ⟨rfl, rfl⟩
theorem tIndex_no (i n : Int) (w : World) (h : ¬ (0 ≤ i ∧ i < n)) : Calls Tryd.prog 23 #[.int .i64 i, .int .i64 n] w fun e w' => e = .returned (.bool false) ∧ w = w' := by
  by_cases h1 : 0 ≤ i
  · have d1 : decide (0 ≤ i) = true := decide_eq_true h1
    have d2 : decide (i < n) = false := decide_eq_false (by omega)
    clear h
    go_enter Tryd.func23, Tryd.ntmps23
    go_wp2_with fail
    go_ret
    exact ⟨rfl, rfl⟩
  · have d1 : decide (0 ≤ i) = false := decide_eq_false h1
    clear h h1
    go_enter Tryd.func23, Tryd.ntmps23
    go_wp2_with fail
    go_ret
    exact ⟨rfl, rfl⟩
set_option maxHeartbeats 4000000 in
theorem specEventWord_any (k : Int) (w : World) : Calls Tryd.prog 15 #[.int .i64 k] w fun e w' => e = .returned (.string (tabWord eventTab k)) ∧ Below w.heap.size w w' := by
  by_cases h : 1 ≤ k ∧ k ≤ 10
  · rcases ten_kinds h with rfl | rfl | rfl | rfl | rfl | rfl | rfl | rfl | rfl | rfl
    all_goals
      go_enter Tryd.func15, Tryd.ntmps15
      go_wp2_with fail
      refine (specIn_any _ _ _ _).mono ?_
      rintro e w1 ⟨rfl, rfl⟩
      go_wp2_with fail
      go_ret
      exact ⟨rfl, (Below.refl _ _).alloc (Nat.le_refl _) _⟩
  · rw [tabWord_no h]
    have H := Lib.hid (decide_eq_false h); clear h
    go_enter Tryd.func15, Tryd.ntmps15
    go_wp2_with fail
    refine (specIn_any _ _ _ _).mono ?_
    rw [H.out]
    rintro e w1 ⟨rfl, rfl⟩
    go_wp2_with fail
    go_ret
    exact ⟨rfl, Below.refl _ _⟩
def EventTabIs (w : World) : Prop := TabAt w 0 eventTab
theorem EventTabIs.all {w w' : World} (h : EventTabIs w) (hb : Below w.heap.size w w') : EventTabIs w' := TabAt.all h (by decide) hb
theorem eventTab_of {W : World} {d : DataW Unit} {rest : List (String × DataW Unit)} (h : laidMet Tryd.prog (("loop.example/g00498/impl.eventWords", d) :: rest) W) (hd : d = tabData eventTab := by rfl) : EventTabIs W :=
  tab_of (t := 43) (e := 9) (by kernel_rfl) (by kernel_rfl) Tryd.underlying43 Tryd.underlying9 (by kernel_rfl) (by kernel_rfl) h hd
theorem implEventWord_any (k : Int) (w : World) (hT : EventTabIs w) : Calls Tryd.prog 12 #[.int .i64 k] w fun e w' => e = .returned (.string (tabWord eventTab k)) ∧ w = w' := by
  by_cases h : 0 ≤ k ∧ k < 11
  · obtain ⟨n, rfl⟩ := Int.eq_ofNat_of_zero_le h.1
    have hn : n < 11 := by omega
    have Hw := Lib.hid (tabWord_nat (zs := eventTab) hn rfl rfl)
    have hc : w.cell? ⟨0, n, none⟩ = some (.string (tabWord eventTab (n : Int))) := by rw [Hw.out]; exact hT n hn
    have Hi := Lib.hid (tIndex_yes (n : Int) 11 · h)
    have hlt : 0 < w.heap.size := TabAt.lt hT (by decide)
    generalize tabWord eventTab (n : Int) = s at hc ⊢
    clear hT h Hw
    go_enter Tryd.func12, Tryd.ntmps12
    go_wp2_with fail
    refine (Hi.out _).mono ?_
    rintro e w1 ⟨rfl, rfl⟩
    go_wp2_with fail
    go_ret
    exact ⟨rfl, rfl⟩
  · rw [tabWord_no (by omega)]
    have Hi := Lib.hid (tIndex_no k 11 · h)
    clear h hT
    go_enter Tryd.func12, Tryd.ntmps12
    go_wp2_with fail
    refine (Hi.out _).mono ?_
    rintro e w1 ⟨rfl, rfl⟩
    go_wp2_with fail
    go_ret
    exact ⟨rfl, rfl⟩
set_option maxHeartbeats 4000000 in
theorem specErrorWord_any (k : Int) (w : World) : Calls Tryd.prog 17 #[.int .i64 k] w fun e w' => e = .returned (.string (tabWord errorTab k)) ∧ Below w.heap.size w w' := by
  by_cases h : 1 ≤ k ∧ k ≤ 10
  · rcases ten_kinds h with rfl | rfl | rfl | rfl | rfl | rfl | rfl | rfl | rfl | rfl
    all_goals
      go_enter Tryd.func17, Tryd.ntmps17
      go_wp2_with fail
      refine (specIn_any _ _ _ _).mono ?_
      rintro e w1 ⟨rfl, rfl⟩
      go_wp2_with fail
      go_ret
      exact ⟨rfl, (Below.refl _ _).alloc (Nat.le_refl _) _⟩
  · rw [tabWord_no h]
    have H := Lib.hid (decide_eq_false h); clear h
    go_enter Tryd.func17, Tryd.ntmps17
    go_wp2_with fail
    refine (specIn_any _ _ _ _).mono ?_
    rw [H.out]
    rintro e w1 ⟨rfl, rfl⟩
    go_wp2_with fail
    go_ret
    exact ⟨rfl, Below.refl _ _⟩
def ErrorTabIs (w : World) : Prop := TabAt w 1 errorTab
theorem ErrorTabIs.all {w w' : World} (h : ErrorTabIs w) (hb : Below w.heap.size w w') : ErrorTabIs w' := TabAt.all h (by decide) hb
theorem errorTab_of {W : World} {d : DataW Unit} {rest : List (String × DataW Unit)} (h : laidMet Tryd.prog (("loop.example/g00498/impl.errorWords", d) :: rest) W) (hd : d = tabData errorTab := by rfl) : ErrorTabIs W :=
  tab_of (t := 43) (e := 9) (by kernel_rfl) (by kernel_rfl) Tryd.underlying43 Tryd.underlying9 (by kernel_rfl) (by kernel_rfl) h hd
theorem implErrorWord_any (k : Int) (w : World) (hT : ErrorTabIs w) : Calls Tryd.prog 16 #[.int .i64 k] w fun e w' => e = .returned (.string (tabWord errorTab k)) ∧ w = w' := by
  by_cases h : 0 ≤ k ∧ k < 11
  · obtain ⟨n, rfl⟩ := Int.eq_ofNat_of_zero_le h.1
    have hn : n < 11 := by omega
    have Hw := Lib.hid (tabWord_nat (zs := errorTab) hn rfl rfl)
    have hc : w.cell? ⟨1, n, none⟩ = some (.string (tabWord errorTab (n : Int))) := by rw [Hw.out]; exact hT n hn
    have Hi := Lib.hid (tIndex_yes (n : Int) 11 · h)
    have hlt : 1 < w.heap.size := TabAt.lt hT (by decide)
    generalize tabWord errorTab (n : Int) = s at hc ⊢
    clear hT h Hw
    go_enter Tryd.func16, Tryd.ntmps16
    go_wp2_with fail
    refine (Hi.out _).mono ?_
    rintro e w1 ⟨rfl, rfl⟩
    go_wp2_with fail
    go_ret
    exact ⟨rfl, rfl⟩
  · rw [tabWord_no (by omega)]
    have Hi := Lib.hid (tIndex_no k 11 · h)
    clear h hT
    go_enter Tryd.func16, Tryd.ntmps16
    go_wp2_with fail
    refine (Hi.out _).mono ?_
    rintro e w1 ⟨rfl, rfl⟩
    go_wp2_with fail
    go_ret
    exact ⟨rfl, rfl⟩
end Go.Proofs.YtbjndnpdmohjiaaDoor.Num
