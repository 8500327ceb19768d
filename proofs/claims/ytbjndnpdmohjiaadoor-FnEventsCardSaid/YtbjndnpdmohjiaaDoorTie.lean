/-
  DERIVED. GIVEN WITH THE SEED: THE PROGRAM's TIES (one call each: nine closed facts by the kernel) AND EACH ROW's TIE, after the 31st guide's Derived/Test/Toyas{Tie, Card}.lean. No idea stands in it: it is a product of the set-up. Laid BY PROGRAM, IN A SANDBOX (cutbox-door.mjs). By AI agents, Wed Nov 11 2026. No macro, syntax, notation, axiom, sorry.
-/
import Derived.Test.YtbjndnpdmohjiaaDoorRows
import Derived.LaidByTextLater
import Derived.SevenTiedAt
import Derived.LaidSub
import Derived.LaidOnce
namespace Go.Proofs.YtbjndnpdmohjiaaDoor
open Go
set_option maxRecDepth 100000
theorem seatTie1 : Tryd.prog.laidByTextLater [("loop.example/g00498/impl.eventWords", Rows.laid_loop_example_g00498_impl_eventWords), ("loop.example/g00498/impl.errorWords", Rows.laid_loop_example_g00498_impl_errorWords)] [.data, .data] true :=
  Program.laidByTextLater_by_one 19 8 12 (by kernel_rfl) (by kernel_rfl) (by kernel_rfl) (by kernel_rfl) (by kernel_rfl) (by kernel_rfl) (fun _ _ => by kernel_rfl)
theorem noOwnUnsafe : Tryd.pinned.checked.prog.headLifts.contains "ownunsafe" = false := by kernel_rfl
theorem tie : Tryd.prog.laidByTextLater [("loop.example/g00498/impl.eventWords", Rows.laid_loop_example_g00498_impl_eventWords)] [.data] true :=
  Program.laidByTextLater.sub seatTie1 ["loop.example/g00498/impl.eventWords"] (by kernel_rfl) (by kernel_rfl)
theorem fnEvents_row_tie : Rows.fnEventsRow.laidByTextAt .later Tryd.pinned [.data] true :=
  OpenClaim.laidByTextAt_later rfl rfl tie noOwnUnsafe
theorem fnExactEventWord_row_tie : Rows.fnExactEventWordRow.laidByTextAt .later Tryd.pinned [.data] true :=
  OpenClaim.laidByTextAt_later rfl rfl tie noOwnUnsafe
theorem tie2 : Tryd.prog.laidByTextLater [("loop.example/g00498/impl.eventWords", Rows.laid_loop_example_g00498_impl_eventWords), ("loop.example/g00498/impl.errorWords", Rows.laid_loop_example_g00498_impl_errorWords)] [.data, .data] true :=
  Program.laidByTextLater.sub seatTie1 ["loop.example/g00498/impl.eventWords", "loop.example/g00498/impl.errorWords"] (by kernel_rfl) (by kernel_rfl)
theorem fnWords_row_tie : Rows.fnWordsRow.laidByTextAt .later Tryd.pinned [.data, .data] true :=
  OpenClaim.laidByTextAt_later rfl rfl tie2 noOwnUnsafe
theorem tie3 : Tryd.prog.laidByTextLater [("loop.example/g00498/impl.errorWords", Rows.laid_loop_example_g00498_impl_errorWords)] [.data] true :=
  Program.laidByTextLater.sub seatTie1 ["loop.example/g00498/impl.errorWords"] (by kernel_rfl) (by kernel_rfl)
theorem fnExactErrorWord_row_tie : Rows.fnExactErrorWordRow.laidByTextAt .later Tryd.pinned [.data] true :=
  OpenClaim.laidByTextAt_later rfl rfl tie3 noOwnUnsafe
theorem fnEventsUpto_row_tie : Rows.fnEventsUptoRow.laidByTextAt .later Tryd.pinned [.data] true :=
  OpenClaim.laidByTextAt_later rfl rfl tie noOwnUnsafe
theorem fnWordsUpto_row_tie : Rows.fnWordsUptoRow.laidByTextAt .later Tryd.pinned [.data, .data] true :=
  OpenClaim.laidByTextAt_later rfl rfl tie2 noOwnUnsafe
theorem fnExactEventWordUpto_row_tie : Rows.fnExactEventWordUptoRow.laidByTextAt .later Tryd.pinned [.data] true :=
  OpenClaim.laidByTextAt_later rfl rfl tie noOwnUnsafe
theorem fnExactErrorWordUpto_row_tie : Rows.fnExactErrorWordUptoRow.laidByTextAt .later Tryd.pinned [.data] true :=
  OpenClaim.laidByTextAt_later rfl rfl tie3 noOwnUnsafe
end Go.Proofs.YtbjndnpdmohjiaaDoor
