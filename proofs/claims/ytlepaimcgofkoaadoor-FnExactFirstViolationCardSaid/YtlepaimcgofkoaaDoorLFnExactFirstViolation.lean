/-
  For every description, laws.FnExactFirstViolation returns true: the program's FirstViolation answers as the reference's, and the description is left as it was. No condition.
-/
import Derived.Test.YtlepaimcgofkoaaDoorRows
import Derived.WalkKit
import Derived.ProofKit
import Derived.OpenShut
import Derived.ShutString
import Derived.Below
import Derived.ChangeOld
import Derived.Lib.SmallJoins
import Derived.Test.YtlepaimcgofkoaaDoorFrame
import Derived.Test.YtlepaimcgofkoaaDoorCards
import Derived.Test.YtlepaimcgofkoaaDoorTie
import Derived.Deep.DeepHandedRow
import Derived.Lib.LaidTab
import Derived.LaidMore
import Derived.LaidHandle
import Derived.Stop.LaidErr
import Derived.Test.YtlepaimcgofkoaaDoorFirstImpl
import Derived.Test.YtlepaimcgofkoaaDoorTwoRaw
import Derived.Test.YtlepaimcgofkoaaDoorOpenRaw
import Derived.Test.YtlepaimcgofkoaaDoorErrType
namespace Go.Proofs.YtlepaimcgofkoaaDoor.fnExactFirstViolation
open Go.ChangeShapes Go.WideShapes Go.ChangeAt Go.RowKit Go.Joins
open Go.ChangeMaps (open_string shut_string)
set_option linter.unusedVariables false

theorem own : ownKnob Tryd.prog.godebug = none := by kernel_rfl
theorem cells42 : Tryd.prog.cellsOf 42 = 1 := by kernel_rfl
attribute [local go_sem] Region.wanted yielded
open Num in
theorem eqViolation_same (a b c : Int) (w : World) : Calls Tryd.prog 20 #[.agg #[.int .i64 a, .int .i64 b, .int .i64 c], .agg #[.int .i64 a, .int .i64 b, .int .i64 c]] w fun e w' => e = .returned (.bool true) ∧ Below w.heap.size w w' := by
  go_enter Tryd.func20, Tryd.ntmps20
  go_wp2_with fail
  go_ret
  refine ⟨rfl, ?_⟩
  repeat (first | exact Below.refl _ _ | refine Below.setCell ?_ (by simp) _ | refine Below.alloc ?_ (by simp <;> omega) _)
open Num in
set_option maxHeartbeats 4000000 in
theorem walk (w : World) (y0 : Value) (t0 : List Num.RM) (H0 : Num.MsgsAt w (· < w.heap.size) y0 t0) (M0 : Num.inMem t0) (hE : Num.ErrType w) :
    Calls Tryd.prog 5 #[.agg #[y0]] w fun e w' => e = .returned (.bool true) ∧ Below w.heap.size w w' := by
  have HE := Lib.hid hE
  clear hE
  have h0 := H0
  clear H0 
  obtain ⟨a, cap, rfl⟩ := h0.len
  have G0 := Lib.hid h0
  have M0 := Lib.hid M0
  clear h0
  go_enter Tryd.func5, Tryd.ntmps5
  go_wp2_with fail
  have hl : Below w.heap.size w (w.alloc (.cells #[.slice a t0.length cap] 42)) := (Below.refl _ _).alloc (Nat.le_refl _) _
  have hA : Holds (w.alloc (.cells #[.slice a t0.length cap] 42)) w.heap.size w.heap.size (.slice a t0.length cap) t0 :=
    ⟨Box.fresh _ _ _, (show RawAt w (· < w.heap.size) _ t0 from ⟨_, rfl, G0.out⟩).below hl fun _ h => h, by simp, hl.size, a, cap, rfl⟩
  generalize w.alloc (.cells #[.slice a t0.length cap] 42) = w1 at hl hA ⊢
  have HA := Lib.hid hA
  clear hA G0
  refine (szRaw_any _ t0 1048576 _ HA.out.raw M0.out (by omega) (by omega)).mono ?_
  rintro e w2 ⟨x, rfl, hx0, hx1, hx, hb2⟩
  have hl2 := hl.trans (hb2.mono hl.size)
  have HA2 := Lib.hid (HA.out.all hb2)
  have Hx := Lib.hid hx
  clear hl hb2 HA hx
  obtain ⟨c0, _⟩ := HA2.out.one
  by_cases hneg : x < 0
  · go_wp2_with fail
    go_ret
    exact ⟨rfl, hl2⟩
  · have hneg2 : decide (x < 0) = false := decide_eq_false hneg
    have S0 := Lib.hid (Hx.out (by omega))
    clear hneg Hx hx0 hx1
    go_wp2_with fail
    refine (toRaw_held HA2.out S0.out).mono ?_
    rintro e w3 ⟨p, pc, rfl, hr3, hb3⟩
    have hl3 := hl2.trans (hb3.mono hl2.size)
    have HA3 := Lib.hid (HA2.out.all hb3)
    clear hl2 hb3 HA2 c0
    obtain ⟨c0, _⟩ := HA3.out.one
    have hqA := HA3.out.2.2.1
    go_wp2_with fail
    refine (specFirst_any _ t0 _ hr3 S0.out).mono ?_
    rintro e w4 ⟨f, hf, rfl, hb4⟩
    have Hf := Lib.hid hf
    obtain ⟨F1, F2, F3⟩ := f
    clear hf
    unfold violV
    have hl4 := hl3.trans (hb4.mono hl3.size)
    have HA4 := Lib.hid (HA3.out.all hb4)
    clear hl3 hb4 HA3 hr3 c0 hqA
    have hb5 : Below w4.heap.size w4 (w4.alloc (.cells #[.int .i64 F1, .int .i64 F2, .int .i64 F3] 29)) := (Below.refl _ _).alloc (Nat.le_refl _) _
    have hx5 := Box.fresh w4 #[.int .i64 F1, .int .i64 F2, .int .i64 F3] 29
    have hA5 := HA4.out.all hb5
    have hl5 := hl4.trans (hb5.mono hl4.size)
    obtain ⟨c0, _⟩ := HA4.out.one
    have hqA := HA4.out.2.2.1
    go_wp2_with fail
    generalize w4.alloc (.cells #[.int .i64 F1, .int .i64 F2, .int .i64 F3] 29) = w5 at hx5 hA5 hl5 ⊢
    generalize w4.heap.size = gv at hx5 ⊢
    clear hb5 HA4 hl4 c0 hqA
    refine (toRaw_held hA5 S0.out).mono ?_
    rintro e w6 ⟨q, qc, rfl, hr6, hb6⟩
    have hA6 := hA5.all hb6
    have hl6 := hl5.trans (hb6.mono hl5.size)
    have hX7 := Holds.fresh 26 hr6
    have hb7 : Below w6.heap.size w6 (w6.alloc (.cells #[.slice q t0.length qc] 26)) := (Below.refl _ _).alloc (Nat.le_refl _) _
    have hA7 := hA6.all hb7
    have hl7 := hl6.trans (hb7.mono hl6.size)
    have hx7 := (hx5.below hb6 hx5.lt).alloc (.cells #[.slice q t0.length qc] 26)
    go_wp2_with fail
    generalize w6.alloc (.cells #[.slice q t0.length qc] 26) = w7 at hX7 hA7 hl7 hx7 ⊢
    generalize w6.heap.size = gx at hX7 ⊢
    clear hb7 hA6 hl6 hr6 hb6 hA5 hl5 hx5
    refine (implFirst_any _ t0 _ hX7.raw S0.out (HE.out.all hl7)).mono ?_
    rintro e w8 ⟨f, hf, rfl, hb8⟩
    obtain rfl := hf.one Hf.out
    clear hf
    unfold violV
    have HA8 := Lib.hid (hA7.all hb8)
    have HX8 := Lib.hid (hX7.all hb8)
    have hl8 := hl7.trans (hb8.mono hl7.size)
    have hx8 := hx7.below hb8 hx7.lt
    clear hA7 hX7 hb8 hl7 hx7
    obtain ⟨v0, v1, v2, _, _, _⟩ := hx8.three
    have hqv := hx8.lt
    have hb9 : Below w8.heap.size w8 (w8.alloc (.cells #[.int .i64 F1, .int .i64 F2, .int .i64 F3] 29)) := (Below.refl _ _).alloc (Nat.le_refl _) _
    have hA9 := HA8.out.all hb9
    have hX9 := HX8.out.all hb9
    have hl9 := hl8.trans (hb9.mono hl8.size)
    go_wp2_with fail
    generalize w8.alloc (.cells #[.int .i64 F1, .int .i64 F2, .int .i64 F3] 29) = w9 at hA9 hX9 hl9 ⊢
    clear HA8 HX8 hl8 hx8 v0 v1 v2 hqv hb9
    refine (eqViolation_same F1 F2 F3 _).mono ?_
    rintro e w10 ⟨rfl, hb10⟩
    have HA8 := Lib.hid (hA9.all hb10)
    have HX8 := Lib.hid (hX9.all hb10)
    have hl8 := hl9.trans (hb10.mono hl9.size)
    clear hA9 hX9 hl9 hb10
    have cA := HA8.out.one.1
    have cX := HX8.out.one.1
    go_wp2_with fail
    go_region_with (first
      | (go_at_call 19; refine (toRaw_held HA8.out.drew S0.out).mono ?_; rintro e w12 ⟨ka, kc, rfl, hr12, hb12⟩; have hX12 := HX8.out.drew.all hb12; have hl12 := hl8.drew.trans (hb12.mono hl8.size); obtain ⟨d0, _⟩ := hX12.one)
      | (go_at_call 21; refine (eqRaw_same _ _ t0 _ hX12.raw hr12 S0.out).mono ?_; rintro e w13 ⟨rfl, hb13⟩; have hl13 := hl12.trans (hb13.mono hl12.size)))
    all_goals
      go_wp2_with fail
      go_ret
      exact ⟨rfl, hl13⟩

set_option maxHeartbeats 1000000 in
set_option maxRecDepth 100000 in
theorem contract (H : Type) (enc : TypeId × Value → H) (W : World) (base : Nat) (args : Array Value) (ds gs : List (DataW H)) (before : List MemPlace)
    (hval : ∀ (j : Nat) t v, Tryd.f5.params[j]? = some t → args[j]? = some v → Value.okWide Tryd.prog W .any base t v)
    (hW : DataW.Whole enc Tryd.prog Tryd.f5.params.toList Rows.fnExactFirstViolationSpec.vars false W args.toList ds gs before) (hL : laidMetH Tryd.prog Rows.fnExactFirstViolationRow.laid W) (hsh : W.ShapedOpen Tryd.prog) :
    Calls Tryd.prog 5 args W fun e W' => ∃ v, e = .returned v ∧ Rows.fnExactFirstViolationSpec.post enc Tryd.prog Tryd.f5 false true false false W args v W' := by
  have hW' := hW
  obtain ⟨p, q, hA0, hV, rfl, hfz, hnd⟩ := hW
  have hA : DataW.TrodAll enc Tryd.prog W 0 (fun _ => true) true Tryd.f5.params.toList args.toList ds p := hA0
  have hAk := hA
  rw [Tryd.params5] at hA hval
  obtain ⟨v0, vs0, d0, ds0, p0, q0, hargs, rfl, rfl, h0, r0⟩ := trodAll_cons hA
  obtain ⟨rfl, rfl, rfl⟩ := trodAll_nil r0
  obtain rfl : args = #[v0] := by cases args; simp_all
  obtain ⟨rfl, rfl⟩ := trodVars_none hV
  obtain ⟨y0, t0, rfl, H0, M0⟩ := Num.open_raw (hval 0 42 v0 rfl rfl) h0
  clear hA0
  refine (walk W y0 t0 H0 M0 (Num.errType_of hL)).mono fun e W' ⟨he, hg⟩ => ?_
  subst he
  exact ⟨_, rfl, _, _, _, [], _, [], hW', (trodAll_cons_mk (shut_bool Tryd.underlying4 _) trodAll_mk0), Num.args_again (by rw [Tryd.params5]; decide) hAk hg, rfl, hg.frame _, fun h => by cases h⟩

set_option maxRecDepth 100000 in
theorem laid_met (os : Os) : laidMetH Tryd.prog Rows.fnExactFirstViolationRow.laid ((World.doorLaid Tryd.prog 36 os).forCall (fun _ _ => 0) ⟨#[], #[.agg #[.slice none 0 0]], []⟩).memory :=
  laidMetH_of_parts (laidMet_of_run' 8 (by kernel_rfl) (by kernel_rfl)) (by kernel_rfl)
theorem reads (os : Os) {H : Type} (enc : TypeId × Value → H) : ∃ places, DataW.whole enc Tryd.prog ((World.doorLaid Tryd.prog 36 os).forCall (fun _ _ => 0) ⟨#[], #[.agg #[.slice none 0 0]], []⟩).memory Tryd.f5.params.toList Rows.fnExactFirstViolationSpec.vars false (#[.agg #[.slice none 0 0]] : Array Value).toList 8 = some ([.agg [.nil]], [], places) :=
  ⟨[], by kernel_rfl⟩
set_option maxRecDepth 100000 in
theorem lifted (os : Os) (started : os.Started) (H : Type) (enc : TypeId × Value → H) (F : Stop.Interp) :
    ReturnsInHanded {} Tryd.checked os 5 .any ((OpenSpec.ofChange Rows.fnExactFirstViolationSpec).preRow enc Tryd.prog Tryd.f5 Rows.fnExactFirstViolationRow.domain false Rows.fnExactFirstViolationRow.laid) (((OpenSpec.ofChange Rows.fnExactFirstViolationSpec).at F).post enc Tryd.prog Tryd.f5 false true false false) := by
  obtain ⟨places, hx⟩ := reads os enc
  refine returnsInHanded_of_row (C := Tryd.checked) (s := OpenSpec.ofChange Rows.fnExactFirstViolationSpec) own started (by kernel_rfl) Tryd.func5
    (witness_row_at (enc := enc) (C := Tryd.checked) false (World.doorLaid Tryd.prog 36 os) #[.agg #[.slice none 0 0]] rfl (by kernel_rfl) (by kernel_rfl) (by kernel_rfl)
      (OpenSpec.preRow_of_cond 8 hx (by kernel_rfl) (fun k hk => by cases hk) (by kernel_rfl) (laid_met os))) ?_
  intro W base args ds gs before hval hW _ _ _ hL hsh _
  exact contract H enc W base args ds gs before hval hW hL hsh
theorem said : Rows.fnExactFirstViolationRow.holds Tryd.pinned (OpenSpec.ofChange Rows.fnExactFirstViolationSpec) :=
  OpenClaim.holds_of_cond 5 Tryd.f5 rfl rfl rfl rfl rfl rfl rfl ⟨rfl, rfl, rfl, rfl, rfl⟩ rfl rfl rfl rfl rfl (by kernel_rfl) Tryd.func5 (by kernel_rfl)
    (of_decide_eq_true (by kernel_rfl)) (by unfold Func.isWrapper; first | (rw [if_pos (by decide +kernel)]; kernel_rfl) | (rw [if_neg (by decide +kernel)]; exact ⟨rfl, rfl⟩))
    (fun os started H enc _ F => by rw [OpenClaim.pre_eq_preRow]; exact lifted os started H enc F)
theorem plain (f : FuncId) (fn : Func) (hf : Tryd.pinned.checked.prog.funcNamed "loop.example/g00498/laws.FnExactFirstViolation" = some f) (hfn : Tryd.pinned.checked.prog.funcs[f]? = some fn) :
    true = Tryd.pinned.checked.prog.looks [] ∧ ∀ (j : Nat) t, fn.params[j]? = some t → Tryd.pinned.checked.prog.wantsStandIn t = false := by
  obtain rfl : f = 5 := Option.some.inj ((show Tryd.prog.funcNamed "loop.example/g00498/laws.FnExactFirstViolation" = some 5 by kernel_rfl).symm.trans hf) |>.symm
  obtain rfl : fn = Tryd.f5 := (Option.some.inj (Tryd.func5.symm.trans hfn)).symm
  refine ⟨by kernel_rfl, fun j t ht => ?_⟩
  rw [Tryd.params5] at ht
  obtain rfl : t = 42 := by simpa using Array.mem_of_getElem? ht
  exact (show Tryd.prog.wantsStandIn 42 = false by kernel_rfl)
theorem proved : Rows.FnExactFirstViolationCardSaid :=
  Claim7.holds_tied_plain_at .later [] _ _ _ _ said (fun _ h => by cases h) (by kernel_rfl) (fun _ h => by cases h) fnExactFirstViolation_row_tie rfl ⟨rfl, rfl⟩ (by kernel_rfl) rfl plain (by kernel_rfl)
end Go.Proofs.YtlepaimcgofkoaaDoor.fnExactFirstViolation
