/-
  The walk of the library's FormatUint at base 10, and of impl.Long: the shortest decimal numeral; only new memory is written.
-/
import Derived.Test.YtcbohfncckpolaaGreatDoorShelf
import Derived.Test.YtcbohfncckpolaaGreatDoorNumMath
import Derived.WalkKit
import Derived.WalkLawsBesides
import Derived.Outline
import Derived.Lib.ItoaMem
import Derived.Lib.LaidTab
import Derived.Lib.Hide
import Derived.Below
namespace Go.Proofs.YtcbohfncckpolaaGreatDoor.Num
open Go.RowKit Go.Proofs Go.Sort

theorem decDigits_dec (u : Nat) : Go.Lib.decDigits u = dec u := by
  induction u using dec_induct with
  | hs u h => rw [Go.Lib.decDigits, dif_pos (by omega), dec_small h]; rfl
  | hb u h ih => rw [Go.Lib.decDigits, dif_neg (by omega), dec_big h, ih]; rfl
theorem below_grow (w : World) (k : Nat) (os : Array Obj) : Below w.heap.size w (grow (w.drewN k) os) :=
  ⟨rfl, rfl, rfl, by simp [grow], fun i hi => by show (w.heap ++ os)[i]? = _; rw [Array.getElem?_append, if_pos hi]⟩
theorem g10 : Tryz.prog.globalNamed "internal/strconv.uint64pow10" = some 2 := by kernel_rfl
theorem g10Type : (Tryz.prog.globals[2]?).map (·.type) = some 158 := by kernel_rfl
theorem c20 : Tryz.prog.cellsOf 158 = 20 := by kernel_rfl
theorem c1 : Tryz.prog.cellsOf 89 = 1 := by kernel_rfl
/-- The listed table of powers of ten, out of the row's condition. -/
theorem pow10_of {W : World} {d : DataW Unit} {rest : List (String × DataW Unit)} (h : laidMet Tryz.prog (("internal/strconv.uint64pow10", d) :: rest) W) (hd : d = Go.Lib.tabData .u64 Go.Lib.pow10Tab := by rfl) : Go.Lib.TabIs Tryz.prog W "internal/strconv.uint64pow10" .u64 Go.Lib.pow10Tab := by
  subst hd
  exact Go.Lib.tabIs_of_head (rest := rest) g10 g10Type Tryz.underlying158 Tryz.underlying89 c1 c20 h
/-- A listed table stays where nothing below the heap's size has turned. -/
theorem tabIs_below {P : Program} {w w' : World} {name : String} {k : IntKind} {zs : List Int} (h : Go.Lib.TabIs P w name k zs) (hb : Below w.heap.size w w') : Go.Lib.TabIs P w' name k zs := by
  unfold Go.Lib.TabIs World.var? at *
  cases hg : P.globalNamed name with
  | none => simp [hg] at h
  | some g =>
    simp only [hg, Option.bind_some] at h ⊢
    have hlt : g < w.heap.size := by
      rcases Nat.lt_or_ge g w.heap.size with h' | h'
      · exact h'
      · rw [Array.getElem?_eq_none h'] at h; simp at h
    rw [hb.block g hlt]
    exact h
end Go.Proofs.YtcbohfncckpolaaGreatDoor.Num
