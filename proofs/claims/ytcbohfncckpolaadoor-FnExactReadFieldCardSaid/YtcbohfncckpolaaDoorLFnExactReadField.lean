/-
  For every string, laws.FnExactReadField returns true: the program's ReadField answers as the reference's. The card ties the listed tables and the program's sentinel to the program's text. No other condition.
-/
import Derived.Test.YtcbohfncckpolaaDoorRows
import Derived.WalkKit
import Derived.ProofKit
import Derived.OpenShut
import Derived.ShutString
import Derived.Below
import Derived.ChangeOld
import Derived.Lib.SmallJoins
import Derived.Test.YtcbohfncckpolaaDoorFrame
import Derived.Test.YtcbohfncckpolaaDoorCards
import Derived.Test.YtcbohfncckpolaaDoorTie
import Derived.Deep.DeepHandedRow
import Derived.Lib.LaidTab
import Derived.LaidMore
import Derived.LaidHandle
import Derived.Stop.LaidErr
import Derived.Test.YtcbohfncckpolaaDoorReadFieldS
import Derived.Test.YtcbohfncckpolaaDoorReadFieldI
import Derived.Test.YtcbohfncckpolaaDoorErrTextOf
import Derived.Test.YtcbohfncckpolaaDoorEqRaw
import Derived.Test.YtcbohfncckpolaaDoorVars
import Derived.Deep.DeepCutAuto
namespace Go.Proofs.YtcbohfncckpolaaDoor.fnExactReadField
open Go.ChangeShapes Go.WideShapes Go.ChangeAt Go.RowKit Go.Joins
open Go.ChangeMaps (open_string shut_string)
set_option linter.unusedVariables false

theorem own : ownKnob Tryd.prog.godebug = none := by kernel_rfl
open Num in
set_option maxHeartbeats 2000000 in
theorem walk (w : World) (a0 : ByteArray) (w0 : a0.size ≤ maxLen) (hE0 : ∃ a, Num.ErrText w a) (hsh : w.ShapedOpen Tryd.prog) :
    Calls Tryd.prog 6 #[.string a0] w fun e w' => e = .returned (.bool true) ∧ Below w.heap.size w w' := by
  obtain ⟨a, hE⟩ := hE0
  by_cases hs : 1048576 < a0.size
  · have hsi : (1048576 : Int) < (a0.size : Int) := by omega
    clear hs hE hsh w0
    go_enter Tryd.func6, Tryd.ntmps6
    go_wp2_with fail
    go_ret
    exact ⟨rfl, Below.refl _ _⟩
  · have hsi : ¬ ((1048576 : Int) < (a0.size : Int)) := by omega
    have hsz : a0.size ≤ 1048576 := by omega
    have HS := specReadField_any a0 w hsz
    have HI : ∀ wx, Below w.heap.size w wx → Calls Tryd.prog 11 #[.string a0] wx fun e w' => e = .returned (.tuple #[fieldV ((readF a0.data.toList).getD zeroF), .bool (readF a0.data.toList).isSome]) ∧ Below wx.heap.size wx w' := fun wx hb => implReadField_any a0 a wx hsz (shaped_below hsh hb) (hE.below hb)
    generalize (readF a0.data.toList).getD zeroF = f at HS HI
    generalize (readF a0.data.toList).isSome = b at HS HI
    have HE := eqRawField_same f
    obtain ⟨A1, A2, A3, A4, A5⟩ := f
    unfold fieldV at *
    simp only at HS HI HE
    have HS := Lib.hid HS
    have HI := Lib.hid HI
    have HE := Lib.hid HE
    clear hs hE hsh w0
    go_enter Tryd.func6, Tryd.ntmps6
    go_wp2_with fail
    refine HS.out.mono ?_
    rintro e w1 ⟨rfl, hb1⟩
    have hx2 := Box.fresh w1 #[.int .i64 A1, .int .i64 A2, .bool A3, .bool A4, .int .i64 A5] 25
    have hl2 : Below w.heap.size w (w1.alloc (.cells #[.int .i64 A1, .int .i64 A2, .bool A3, .bool A4, .int .i64 A5] 25)) := hb1.alloc hb1.size _
    clear hb1
    go_wp2_with fail
    generalize w1.alloc (.cells #[.int .i64 A1, .int .i64 A2, .bool A3, .bool A4, .int .i64 A5] 25) = w2 at hx2 hl2 ⊢
    refine (HI.out _ hl2).mono ?_
    rintro e w3 ⟨rfl, hb3⟩
    have hx3 := (hx2.below hb3 hx2.lt).alloc (.cells #[.int .i64 A1, .int .i64 A2, .bool A3, .bool A4, .int .i64 A5] 25)
    have hy3 := Box.fresh w3 #[.int .i64 A1, .int .i64 A2, .bool A3, .bool A4, .int .i64 A5] 25
    have hl3 := hl2.trans (hb3.mono hl2.size)
    have hl4 : Below w.heap.size w (w3.alloc (.cells #[.int .i64 A1, .int .i64 A2, .bool A3, .bool A4, .int .i64 A5] 25)) := hl3.alloc hl3.size _
    clear hx2 hl2 hb3 hl3
    obtain ⟨v0, v1, v2, v3, v4⟩ := Box.five' hx3
    obtain ⟨u0, u1, u2, u3, u4⟩ := Box.five' hy3
    clear hx3 hy3
    have hbn : (b != b) = false := by simp
    go_upto_region 5 with fail
    generalize w3.alloc (.cells #[.int .i64 A1, .int .i64 A2, .bool A3, .bool A4, .int .i64 A5] 25) = w4 at v0 v1 v2 v3 v4 u0 u1 u2 u3 u4 hl4 ⊢
    go_wp2_with fail
    refine (HE.out _).mono ?_
    rintro e w5 ⟨rfl, hb5⟩
    have hl5 := hl4.trans (hb5.mono hl4.size)
    clear hl4 hb5 v0 v1 v2 v3 v4 u0 u1 u2 u3 u4
    go_wp2_with fail
    go_ret
    exact ⟨rfl, hl5⟩

/-- The cells of a pinned table of numbers, for the witness. -/
def pinCells : DataW Unit → Array Value
  | .agg ds => (ds.map fun d => match d with | .lit (.int k n) => Value.int k n | _ => Value.int .u8 0).toArray
  | _ => #[]
noncomputable def witWorld0 (os : Os) : World :=
  { (World.doorLaid Tryd.prog 53 os) with heap := (World.doorLaid Tryd.prog 53 os).heap.modify 5 fun o => match o with | .cells _ t fr => .cells (pinCells Go.Pinned.utf8First) t fr | o => o }
set_option maxHeartbeats 1000000 in
set_option maxRecDepth 100000 in
theorem contract (H : Type) (enc : TypeId × Value → H) (W : World) (base : Nat) (args : Array Value) (ds gs : List (DataW H)) (before : List MemPlace)
    (hval : ∀ (j : Nat) t v, Tryd.f6.params[j]? = some t → args[j]? = some v → Value.okWide Tryd.prog W .any base t v)
    (hW : DataW.Whole enc Tryd.prog Tryd.f6.params.toList Rows.fnExactReadFieldSpec.vars false W args.toList ds gs before) (hL : laidMetH Tryd.prog Rows.fnExactReadFieldRow.laid W) (hsh : W.ShapedOpen Tryd.prog) :
    Calls Tryd.prog 6 args W fun e W' => ∃ v, e = .returned v ∧ Rows.fnExactReadFieldSpec.post enc Tryd.prog Tryd.f6 false true false false W args v W' := by
  have hW' := hW
  obtain ⟨p, q, hA0, hV, rfl, hfz, hnd⟩ := hW
  have hA : DataW.TrodAll enc Tryd.prog W 0 (fun _ => true) true Tryd.f6.params.toList args.toList ds p := hA0
  have hAk := hA
  rw [Tryd.params6] at hA hval
  obtain ⟨v0, vs0, d0, ds0, p0, q0, hargs, rfl, rfl, h0, r0⟩ := trodAll_cons hA
  obtain ⟨rfl, rfl, rfl⟩ := trodAll_nil r0
  obtain rfl : args = #[v0] := by cases args; simp_all
  have hVk := hV
  obtain ⟨_, _, _, _, _, _, rfl, _, _, _, _, _⟩ := trodVars_one hV
  obtain ⟨a0, rfl, rfl, rfl, w0⟩ := open_string Tryd.underlying9 (hval 0 9 v0 rfl rfl) h0
  clear hA0
  refine (walk W a0 w0 (Num.errText_of hL.tail) (hsh)).mono fun e W' ⟨he, hg⟩ => ?_
  subst he
  exact ⟨_, rfl, _, _, _, [], _, _, hW', (trodAll_cons_mk (shut_bool Tryd.underlying4 _) trodAll_mk0), Num.args_again (by rw [Tryd.params6]; decide) hAk hg, Num.vars_again hg hVk, hg.frame _, fun h => by cases h⟩

set_option maxRecDepth 100000 in
theorem laid_met (os : Os) : laidMet Tryd.prog Rows.fnExactReadFieldRow.laid ((witWorld0 os).forCall (fun _ _ => 0) ⟨#[], #[.string ByteArray.empty], []⟩).memory :=
  laidMet_of_run' 8 (by kernel_rfl) (by kernel_rfl)
set_option maxRecDepth 100000 in
theorem reads (os : Os) {H : Type} (enc : TypeId × Value → H) : ∃ gs places, DataW.whole enc Tryd.prog ((witWorld0 os).forCall (fun _ _ => 0) ⟨#[], #[.string ByteArray.empty], []⟩).memory Tryd.f6.params.toList Rows.fnExactReadFieldSpec.vars false (#[.string ByteArray.empty] : Array Value).toList 8 = some ([.lit (.string [])], gs, places) := by
  have h : (DataW.whole enc Tryd.prog ((witWorld0 os).forCall (fun _ _ => 0) ⟨#[], #[.string ByteArray.empty], []⟩).memory Tryd.f6.params.toList Rows.fnExactReadFieldSpec.vars false (#[.string ByteArray.empty] : Array Value).toList 8).map (fun x => x.1) = some ([.lit (.string [])] ) := by kernel_rfl
  obtain ⟨⟨a, b, p⟩, hx, e⟩ := Option.map_eq_some_iff.1 h
  simp only at e
  subst e
  exact ⟨b, p, hx⟩

set_option maxRecDepth 100000 in
theorem lifted (os : Os) (started : os.Started) (H : Type) (enc : TypeId × Value → H) (F : Stop.Interp) :
    ReturnsInHanded {} Tryd.checked os 6 .any ((OpenSpec.ofChange Rows.fnExactReadFieldSpec).preRow enc Tryd.prog Tryd.f6 Rows.fnExactReadFieldRow.domain false Rows.fnExactReadFieldRow.laid) (((OpenSpec.ofChange Rows.fnExactReadFieldSpec).at F).post enc Tryd.prog Tryd.f6 false true false false) := by
  obtain ⟨gs0, places, hx⟩ := reads os enc
  refine returnsInHanded_of_row (C := Tryd.checked) (s := OpenSpec.ofChange Rows.fnExactReadFieldSpec) own started (by kernel_rfl) Tryd.func6
    (witness_row_at (enc := enc) (C := Tryd.checked) false (witWorld0 os) #[.string ByteArray.empty] rfl (by kernel_rfl) (by kernel_rfl) (by kernel_rfl)
      (OpenSpec.preRow_of_cond 8 hx (by kernel_rfl) (fun k hk => by cases hk) (by kernel_rfl) (laid_met os))) ?_
  intro W base args ds gs before hval hW _ _ _ hL hsh _
  exact contract H enc W base args ds gs before hval hW hL hsh
theorem said : Rows.fnExactReadFieldRow.holds Tryd.pinned (OpenSpec.ofChange Rows.fnExactReadFieldSpec) :=
  OpenClaim.holds_of_cond 6 Tryd.f6 rfl rfl rfl rfl rfl rfl rfl ⟨rfl, rfl, rfl, rfl, rfl⟩ rfl rfl rfl rfl rfl (by kernel_rfl) Tryd.func6 (by kernel_rfl)
    (of_decide_eq_true (by kernel_rfl)) (by unfold Func.isWrapper; first | (rw [if_pos (by decide +kernel)]; kernel_rfl) | (rw [if_neg (by decide +kernel)]; exact ⟨rfl, rfl⟩))
    (fun os started H enc _ F => by rw [OpenClaim.pre_eq_preRow]; exact lifted os started H enc F)
theorem plain (f : FuncId) (fn : Func) (hf : Tryd.pinned.checked.prog.funcNamed "loop.example/g00498/laws.FnExactReadField" = some f) (hfn : Tryd.pinned.checked.prog.funcs[f]? = some fn) :
    true = Tryd.pinned.checked.prog.looks [] ∧ ∀ (j : Nat) t, fn.params[j]? = some t → Tryd.pinned.checked.prog.wantsStandIn t = false := by
  obtain rfl : f = 6 := Option.some.inj ((show Tryd.prog.funcNamed "loop.example/g00498/laws.FnExactReadField" = some 6 by kernel_rfl).symm.trans hf) |>.symm
  obtain rfl : fn = Tryd.f6 := (Option.some.inj (Tryd.func6.symm.trans hfn)).symm
  refine ⟨by kernel_rfl, fun j t ht => ?_⟩
  rw [Tryd.params6] at ht
  obtain rfl : t = 9 := by simpa using Array.mem_of_getElem? ht
  exact (show Tryd.prog.wantsStandIn 9 = false by kernel_rfl)
theorem proved : Rows.FnExactReadFieldCardSaid :=
  Claim7.holds_tied_plain_at .later [] _ _ _ _ said (fun _ h => by cases h) (by kernel_rfl) (fun _ h => by cases h) fnExactReadField_row_tie rfl ⟨rfl, rfl⟩ (by kernel_rfl) rfl plain (by kernel_rfl)
end Go.Proofs.YtcbohfncckpolaaDoor.fnExactReadField
