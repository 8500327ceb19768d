/-
  What the listed condition says of the program's sentinel: it lies in its variable.
-/
import Derived.Test.YtcbohfncckpolaaDoorParseI
import Derived.Test.YtcbohfncckpolaaDoorRows
import Derived.Stop.LaidErr
import Derived.LaidLaws
namespace Go.Proofs.YtcbohfncckpolaaDoor.Num
open Go.RowKit Go.Proofs Go
theorem tx_global : Tryd.prog.globalNamed "loop.example/g00498/impl.errText" = some 0 := by kernel_rfl
theorem tx_type : (Tryd.prog.globals[0]?).map (fun (x : Go.Global) => x.type) = some 57 := by kernel_rfl
theorem tx_star : "*" ++ "errors.errorString" = "*errors.errorString" := by decide
theorem tx_row (u : TypeId) (h : Tryd.prog.typeName? 3 u = some "*errors.errorString") : u = 178 :=
  typeName_ptr_named (nm := "errors.errorString") (by rw [tx_star]; kernel_rfl) (by kernel_rfl) (by decide) u (by rw [tx_star]; exact h)
theorem tx_c1 : Tryd.prog.cellsOf 201 = 1 := by kernel_rfl
theorem tx_c2 : Tryd.prog.cellsOf 9 = 1 := by kernel_rfl
theorem errText_of {W : World} {d : DataW Unit} {text : List UInt8} {r : List (String × DataW Unit)} (h : laidMet Tryd.prog (("loop.example/g00498/impl.errText", d) :: r) W) (hd : d = .iface "*errors.errorString" (.ptr (.agg [.lit (.string text)])) := by rfl) : ∃ a, ErrText W a := by
  subst hd
  obtain ⟨a, s, hv, _⟩ := laid_sentinel h tx_global tx_type Tryd.underlying57 tx_row Tryd.underlying178 Tryd.underlying201 rfl rfl Tryd.underlying9 tx_c1 tx_c2
  have hc := World.var?_cell tx_global hv 0
  refine ⟨a, by simpa [sentV] using hc, ?_⟩
  unfold World.var? at hv
  simp only [tx_global, Option.bind_some] at hv
  rcases Nat.lt_or_ge 0 W.heap.size with h' | h'
  · exact h'
  · simp [Array.getElem?_eq_none h'] at hv
end Go.Proofs.YtcbohfncckpolaaDoor.Num
