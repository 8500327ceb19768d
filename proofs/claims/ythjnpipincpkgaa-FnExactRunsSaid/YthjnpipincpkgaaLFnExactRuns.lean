/-
  For every field, laws.FnExactRuns returns true: the program's Runs answers as the reference's. No condition.
-/
import Derived.Test.YthjnpipincpkgaaRows
import Derived.WalkKit
import Derived.ProofKit
import Derived.OpenShut
import Derived.ShutString
import Derived.Below
import Derived.ChangeOld
import Derived.Lib.SmallJoins
import Derived.Test.YthjnpipincpkgaaFrame
import Derived.Test.YthjnpipincpkgaaShapeImpl
import Derived.Test.YthjnpipincpkgaaTwoSch
import Derived.Test.YthjnpipincpkgaaOpenSch
namespace Go.Proofs.Ythjnpipincpkgaa.fnExactRuns
open Go.ChangeShapes Go.WideShapes Go.ChangeAt Go.RowKit Go.Joins
open Go.ChangeMaps (open_string shut_string)
set_option linter.unusedVariables false

theorem own : ownKnob Try.prog.godebug = none := by kernel_rfl
theorem cells56 : Try.prog.cellsOf 56 = 5 := by kernel_rfl
open Num in
set_option maxHeartbeats 2000000 in
theorem walk (w : World) (f0 : Num.RF)  :
    Calls Try.prog 9 #[Num.fieldV f0] w fun e w' => e = .returned (.bool true) ∧ Below w.heap.size w w' := by
  obtain ⟨A1, A2, A3, A4, A5⟩ := f0
  have hT := Sch.toRawField_any (A1, A2, A3, A4, A5)
  have hS := specRuns_any (A1, A2, A3, A4, A5)
  have hI := implRuns_any (A1, A2, A3, A4, A5)
  generalize runsB (A1, A2, A3, A4, A5) = R at hS hI
  unfold fieldV at *
  simp only at *
  have HT := Lib.hid hT
  have HS := Lib.hid hS
  have HI := Lib.hid hI
  clear hT hS hI
  have hx := Box.fresh w #[.int .i64 A1, .int .i64 A2, .bool A3, .bool A4, .int .i64 A5] 56
  have hl : Below w.heap.size w (w.alloc (.cells #[.int .i64 A1, .int .i64 A2, .bool A3, .bool A4, .int .i64 A5] 56)) := (Below.refl _ _).alloc (Nat.le_refl _) _
  go_enter Try.func9, Try.ntmps9
  go_wp2_with fail
  generalize w.alloc (.cells #[.int .i64 A1, .int .i64 A2, .bool A3, .bool A4, .int .i64 A5] 56) = w1 at hx hl ⊢
  refine (HT.out _).mono ?_
  rintro e w2 ⟨rfl, hb2⟩
  have hx2 := hx.below hb2 hx.lt
  have hl2 := hl.trans (hb2.mono hl.size)
  clear hx hl hb2
  go_wp2_with fail
  refine (HS.out _).mono ?_
  rintro e w3 ⟨rfl, hb3⟩
  have hx3 := hx2.below hb3 hx2.lt
  have hl3 := hl2.trans (hb3.mono hl2.size)
  clear hx2 hl2 hb3
  obtain ⟨⟨v0, v1, v2, v3, v4⟩, _⟩ := Box.five hx3
  go_wp2_with fail
  refine (HT.out _).mono ?_
  rintro e w4 ⟨rfl, hb4⟩
  have hl4 := hl3.trans (hb4.mono hl3.size)
  clear hx3 hl3 hb4 v0 v1 v2 v3 v4
  go_wp2_with fail
  refine (HI.out _).mono ?_
  rintro e w5 ⟨rfl, hb5⟩
  have hl5 := hl4.trans (hb5.mono hl4.size)
  clear hl4 hb5
  have hR : (R != R) = false := by simp
  go_wp2_with fail
  go_ret
  exact ⟨rfl, hl5⟩

set_option maxHeartbeats 1000000 in
set_option maxRecDepth 100000 in
theorem lifted (os : Os) (started : os.Started) (H : Type) (enc : TypeId × Value → H) :
    ReturnsInHanded {} Try.checked os 9 .any (Rows.fnExactRunsSpec.pre6 enc Try.prog Try.f9 Rows.fnExactRunsRow.domain false) (Rows.fnExactRunsSpec.post enc Try.prog Try.f9 false true false false) := by
  refine returnsInHanded_of_change (C := Try.checked) own started (by kernel_rfl) Try.func9
    (ChangeSpec.witness6 (enc := enc) (C := Try.checked) false ⟨#[], #[.agg #[.int .i64 0, .int .i64 0, .bool false, .bool false, .int .i64 0]], []⟩ 8 (by kernel_rfl) (by kernel_rfl) (by kernel_rfl) (by kernel_rfl)) ?_
  intro W base args ds gs before hval0 hW hcnd _
  have hval : ∀ (j : Nat) t v, Try.f9.params[j]? = some t → args[j]? = some v → Value.okWide Try.prog W .any base t v := hval0
  have hW' := hW
  obtain ⟨p, q, hA0, hV, rfl, hfz, hnd⟩ := hW
  have hA : DataW.TrodAll enc Try.prog W 0 (fun _ => true) true Try.f9.params.toList args.toList ds p := hA0
  have hAk := hA
  rw [Try.params9] at hA hval
  obtain ⟨v0, vs0, d0, ds0, p0, q0, hargs, rfl, rfl, h0, r0⟩ := trodAll_cons hA
  obtain ⟨rfl, rfl, rfl⟩ := trodAll_nil r0
  obtain rfl : args = #[v0] := by cases args; simp_all
  obtain ⟨rfl, rfl⟩ := trodVars_none hV
  obtain ⟨f0, rfl⟩ := Num.Sch.open_field (hval 0 56 v0 rfl rfl) h0
  clear hA0 hval0
  refine (walk W f0).mono fun e W' ⟨he, hg⟩ => ?_
  subst he
  exact ⟨_, rfl, _, _, _, [], _, [], hW', (trodAll_cons_mk (shut_bool Try.underlying4 _) trodAll_mk0), Num.args_again (by rw [Try.params9]; decide) hAk hg, rfl, hg.frame _, fun h => by cases h⟩

theorem over : Rows.fnExactRunsRow.holds Try.pinned (OpenSpec.ofChange Rows.fnExactRunsSpec) :=
  OpenClaim.holds_of_wide 9 Try.f9 rfl rfl rfl rfl rfl rfl rfl ⟨rfl, rfl, rfl, rfl, rfl⟩ rfl rfl rfl rfl rfl (by kernel_rfl) Try.func9 (by kernel_rfl)
    (of_decide_eq_true (by kernel_rfl)) (by unfold Func.isWrapper; first | (rw [if_pos (by decide +kernel)]; kernel_rfl) | (rw [if_neg (by decide +kernel)]; exact ⟨rfl, rfl⟩))
    (fun os started H enc _ => lifted os started H enc)

theorem proved : Rows.FnExactRunsSaid :=
  over
end Go.Proofs.Ythjnpipincpkgaa.fnExactRuns
