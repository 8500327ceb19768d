/-
  What the listed condition says of errors.errorType.
-/
import Derived.Test.YtlepaimcgofkoaaDoorAsViol
import Derived.Test.YtlepaimcgofkoaaDoorRows
import Derived.ChangeVars
import Derived.LaidLaws
import Derived.LaidHandle
namespace Go.Proofs.YtlepaimcgofkoaaDoor.Num
open Go.RowKit Go.Proofs Go

theorem et_global : Tryd.prog.globalNamed "errors.errorType" = some 1 := by kernel_rfl
theorem et_rt : (Tryd.prog.cutTypes.find? (·.1 == "internal/reflectlite.rtype")).map (·.2) = some 109 := by kernel_rfl
theorem et_one : ((List.range 176).filter fun t => Tryd.prog.rowNamed t [101, 114, 114, 111, 114]) = [58] := by kernel_rfl
theorem et_size : Tryd.prog.types.size = 176 := by kernel_rfl
theorem errType_of {W : World} (h : laidMetH Tryd.prog [("errors.errorType", Rows.laid_errors_errorType)] W) : ErrType W := by
  have h' : laidMet Tryd.prog [] W ∧ handlesMet Tryd.prog [("errors.errorType", Rows.laid_errors_errorType)] W := h
  obtain ⟨name, u, ty, e1, e2, e3, e4, e5⟩ := h'.2 _ (List.mem_singleton.2 rfl)
  have en : name = [101, 114, 114, 111, 114] := (Option.some.inj e1).symm
  subst en
  obtain rfl := Option.some.inj (et_rt.symm.trans e2)
  have hm : ty ∈ (List.range 176).filter fun t => Tryd.prog.rowNamed t [101, 114, 114, 111, 114] := List.mem_filter.2 ⟨List.mem_range.2 (by rw [← et_size]; exact e3), e4⟩
  rw [et_one] at hm
  obtain rfl := List.mem_singleton.1 hm
  have hh : typeHandle Tryd.prog 58 = .pointer (some ⟨5, 58, none⟩) := by kernel_rfl
  rw [hh] at e5
  unfold ErrType errorTypeV
  simpa using World.var?_cell et_global e5 0
theorem ErrType.lt {w : World} (h : ErrType w) : 1 < w.heap.size := by
  unfold ErrType World.cell? at h
  rcases Nat.lt_or_ge 1 w.heap.size with h' | h'
  · exact h'
  · simp [Array.getElem?_eq_none h'] at h
theorem ErrType.below {w w' : World} {B : Nat} (h : ErrType w) (hb : Below B w w') (hB : 1 < B) : ErrType w' := (hb.cell (p := ⟨1, 0, none⟩) hB).trans h
theorem ErrType.all {w w' : World} (h : ErrType w) (hb : Below w.heap.size w w') : ErrType w' := h.below hb h.lt
theorem ErrType.drew {w : World} (h : ErrType w) : ErrType w.drew := h
end Go.Proofs.YtlepaimcgofkoaaDoor.Num
