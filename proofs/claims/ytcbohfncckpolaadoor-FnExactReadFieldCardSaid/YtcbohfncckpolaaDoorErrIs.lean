/-
  errors.Is, as the program calls it: with nil, and with the very sentinel that it is asked for. And what it says that the program's sentinel lies in its variable.
-/
import Derived.Test.YtcbohfncckpolaaDoorProg
import Derived.WalkKit
import Derived.LaidEql
import Derived.Stop.Asserts
import Derived.RowKitTokens
import Derived.LaidHandle
import Derived.Stop.LaidErr
import Derived.Test.YtcbohfncckpolaaDoorBox
namespace Go.Proofs.YtcbohfncckpolaaDoor.Num
open Go.RowKit Go.Proofs Go Go.Extern.Stop Go.Stop Go.Extern
set_option linter.unusedVariables false

/-- What the model has for (rtype).Comparable, under a name that no rewriting opens. -/
def isCmp (t : TypeId) : Sem Value := do Rtype.noPackHeld "Comparable" t; pure (.bool (← typeInfo t).comparable)
theorem is_typeOf (v : Value) (w : World) : (Extern.ReflectliteType.typeOf #[.iface 178 v]).run Tryd.prog w = .ok (.iface 115 (.agg #[.pointer (some ⟨7, 178, none⟩)])) w := by kernel_rfl
theorem is_comparable (w : World) : ((Extern.ReflectliteType.method isCmp) #[.agg #[.pointer (some ⟨7, 178, none⟩)]]).run Tryd.prog w = .ok (.bool true) w := by kernel_rfl
theorem is_mComparable (v : Value) (w : World) : (Go.method 312 115 v "Comparable").run Tryd.prog w = .ok (152, v) w := by kernel_rfl
theorem is_comp : (Tryd.prog.info? 178).map (·.comparable) = some true := by kernel_rfl
theorem is_size : (Tryd.prog.info? 201).map (·.size) = some 1 := by kernel_rfl
/-- errors.Is(x, x), x a pointer to an errors.errorString. -/
theorem is_same (a : Addr) (w : World) :
    Calls Tryd.prog 32 #[.iface 178 (.pointer (some a)), .iface 178 (.pointer (some a))] w fun e w' => e = .returned (.bool true) ∧ w = w' := by
  obtain ⟨i, hi, hcmp⟩ := Option.map_eq_some_iff.1 is_comp
  obtain ⟨j, hj, hjs⟩ := Option.map_eq_some_iff.1 is_size
  have h8 := @run_callFunc_extern Tryd.prog 56 _ Extern.ReflectliteType.typeOf Tryd.func56 (by kernel_rfl) (by kernel_rfl) (by kernel_rfl) (by kernel_rfl)
  have h32 := @run_callFunc_extern Tryd.prog 152 _ (Extern.ReflectliteType.method isCmp) Tryd.func152 (by kernel_rfl) (by kernel_rfl) (by kernel_rfl) (by kernel_rfl)
  have tT := is_typeOf
  have cT := is_comparable
  have mR := is_mComparable
  have heq := run_eql_iface_ptr_same (P := Tryd.prog) w a Tryd.underlying57 Tryd.underlying178 hi hcmp hj
  go_enter Tryd.func32, Tryd.ntmps32
  go_wp2
  refine wp_loop_rounds 1 ?_
  rw [rounds_succ]
  go_wp2
  go_ret
  exact ⟨rfl, rfl⟩
/-- errors.Is(nil, x). -/
theorem is_nil (b : Addr) (w : World) :
    Calls Tryd.prog 32 #[.nilIface, .iface 178 (.pointer (some b))] w fun e w' => e = .returned (.bool false) ∧ w = w' := by
  have hn := run_eql_iface_nil_left (P := Tryd.prog) w 178 (.pointer (some b)) Tryd.underlying57
  go_enter Tryd.func32, Tryd.ntmps32
  go_wp2
  go_ret
  exact ⟨rfl, rfl⟩
end Go.Proofs.YtcbohfncckpolaaDoor.Num
