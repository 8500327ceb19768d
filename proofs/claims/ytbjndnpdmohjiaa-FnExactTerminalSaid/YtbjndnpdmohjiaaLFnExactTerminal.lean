/-
  For every event, laws.FnExactTerminal returns true: the program's Terminal answers as the reference's. No condition.
-/
import Derived.Test.YtbjndnpdmohjiaaRows
import Derived.WalkKit
import Derived.ProofKit
import Derived.OpenShut
import Derived.ShutString
import Derived.Below
import Derived.ChangeOld
import Derived.Lib.SmallJoins
import Derived.Test.YtbjndnpdmohjiaaFrame
import Derived.Test.YtbjndnpdmohjiaaEvSameI
import Derived.Test.YtbjndnpdmohjiaaOpenEv
import Derived.Test.YtbjndnpdmohjiaaEvOk
namespace Go.Proofs.Ytbjndnpdmohjiaa.fnExactTerminal
open Go.ChangeShapes Go.WideShapes Go.ChangeAt Go.RowKit Go.Joins
open Go.ChangeMaps (open_string shut_string)
set_option linter.unusedVariables false

theorem own : ownKnob Try.prog.godebug = none := by kernel_rfl
theorem cells24 : Try.prog.cellsOf 24 = 7 := by kernel_rfl
open Num in
theorem walk (w : World) (e0 : Num.Ev) (W0 : e0.Wf) :
    Calls Try.prog 5 #[Num.evV e0] w fun e w' => e = .returned (.bool true) ∧ Below w.heap.size w w' := by
  have Hs := Lib.hid W0.text
  clear W0
  have HZ := Lib.hid (szEvent_any e0 1048576 · Hs.out (by omega) (by omega))
  have HT := Lib.hid (toEvent_any e0)
  have HP := Lib.hid (specTerminal_any e0)
  have HI := Lib.hid (implTerminal_any e0)
  obtain ⟨q, hq⟩ : ∃ q : Int, (if (1048576 : Int) - (e0.text.size : Int) < 0 then -1 else (1048576 : Int) - (e0.text.size : Int)) = q := ⟨_, rfl⟩
  rw [hq] at HZ
  clear hq Hs
  obtain ⟨R, hR⟩ : ∃ R, termB e0 = R := ⟨_, rfl⟩
  rw [hR] at HP HI
  clear hR
  obtain ⟨k, f, b, l, t, c, p⟩ := e0
  unfold evV at HZ HT HP HI ⊢
  simp only at HZ HT HP HI ⊢
  have hx := Box.fresh w #[.int .i64 k, .int .i64 f, .int .u64 b, .int .i64 l, .string t, .int .i64 c, .int .i64 p] 24
  have hl : Below w.heap.size w (w.alloc (.cells #[.int .i64 k, .int .i64 f, .int .u64 b, .int .i64 l, .string t, .int .i64 c, .int .i64 p] 24)) := (Below.refl _ _).alloc (Nat.le_refl _) _
  go_enter Try.func5, Try.ntmps5
  go_wp2_with fail
  generalize (w.alloc (.cells #[.int .i64 k, .int .i64 f, .int .u64 b, .int .i64 l, .string t, .int .i64 c, .int .i64 p] 24)) = w0 at hx hl ⊢
  refine (HZ.out _).mono ?_
  rintro e w1 ⟨rfl, hb1⟩
  have hx1 := Lib.hid (hx.below hb1 hx.lt)
  have hb1 := hl.trans (hb1.mono hl.size)
  clear hx hl
  obtain ⟨⟨x0, x1, x2, x3, x4, x5, x6⟩, _⟩ := Box.seven hx1.out
  by_cases hneg : q < 0
  · go_wp2_with fail
    go_ret
    exact ⟨rfl, hb1⟩
  · have hneg2 : decide (q < 0) = false := decide_eq_false hneg
    go_wp2_with fail
    refine (HT.out _).mono ?_
    rintro e w2 ⟨rfl, hb2⟩
    have hl2 := hb1.trans (hb2.mono hb1.size)
    have hx2 := Lib.hid ((hx1.out).below hb2 hx1.out.lt)
    clear hb1 hb2 hx1
    go_wp2_with fail
    refine (HP.out _).mono ?_
    rintro e w3 ⟨rfl, hb3⟩
    have hl3 := hl2.trans (hb3.mono hl2.size)
    have hx3 := Lib.hid ((hx2.out).below hb3 hx2.out.lt)
    clear hl2 hb3 hx2 x0 x1 x2 x3 x4 x5 x6
    obtain ⟨⟨x0, x1, x2, x3, x4, x5, x6⟩, _⟩ := Box.seven hx3.out
    go_wp2_with fail
    refine (HT.out _).mono ?_
    rintro e w4 ⟨rfl, hb4⟩
    have hl4 := hl3.trans (hb4.mono hl3.size)
    clear hl3 hb4
    go_wp2_with fail
    refine (HI.out _).mono ?_
    rintro e w5 ⟨rfl, hb5⟩
    have hl5 := hl4.trans (hb5.mono hl4.size)
    clear hl4 hb5
    go_wp2_with fail
    go_ret
    exact ⟨rfl, hl5⟩

set_option maxHeartbeats 1000000 in
set_option maxRecDepth 100000 in
theorem lifted (os : Os) (started : os.Started) (H : Type) (enc : TypeId × Value → H) :
    ReturnsInHanded {} Try.checked os 5 .any (Rows.fnExactTerminalSpec.pre6 enc Try.prog Try.f5 Rows.fnExactTerminalRow.domain false) (Rows.fnExactTerminalSpec.post enc Try.prog Try.f5 false true false false) := by
  refine returnsInHanded_of_change (C := Try.checked) own started (by kernel_rfl) Try.func5
    (ChangeSpec.witness6 (enc := enc) (C := Try.checked) false ⟨#[], #[.agg #[.int .i64 0, .int .i64 0, .int .u64 0, .int .i64 0, .string ByteArray.empty, .int .i64 0, .int .i64 0]], []⟩ 8 (by kernel_rfl) (by kernel_rfl) (by kernel_rfl) (by kernel_rfl)) ?_
  intro W base args ds gs before hval0 hW hcnd _
  have hval : ∀ (j : Nat) t v, Try.f5.params[j]? = some t → args[j]? = some v → Value.okWide Try.prog W .any base t v := hval0
  have hW' := hW
  obtain ⟨p, q, hA0, hV, rfl, hfz, hnd⟩ := hW
  have hA : DataW.TrodAll enc Try.prog W 0 (fun _ => true) true Try.f5.params.toList args.toList ds p := hA0
  have hAk := hA
  rw [Try.params5] at hA hval
  obtain ⟨v0, vs0, d0, ds0, p0, q0, hargs, rfl, rfl, h0, r0⟩ := trodAll_cons hA
  obtain ⟨rfl, rfl, rfl⟩ := trodAll_nil r0
  obtain rfl : args = #[v0] := by cases args; simp_all
  obtain ⟨rfl, rfl⟩ := trodVars_none hV
  obtain ⟨e0, rfl, W0⟩ := Num.open_event (hval 0 24 v0 rfl rfl) h0
  clear hA0 hval0
  refine (walk W e0 W0).mono fun e W' ⟨he, hg⟩ => ?_
  subst he
  exact ⟨_, rfl, _, _, _, [], _, [], hW', (trodAll_cons_mk (shut_bool Try.underlying4 _) trodAll_mk0), Num.args_again (by rw [Try.params5]; decide) hAk hg, rfl, hg.frame _, fun h => by cases h⟩

theorem over : Rows.fnExactTerminalRow.holds Try.pinned (OpenSpec.ofChange Rows.fnExactTerminalSpec) :=
  OpenClaim.holds_of_wide 5 Try.f5 rfl rfl rfl rfl rfl rfl rfl ⟨rfl, rfl, rfl, rfl, rfl⟩ rfl rfl rfl rfl rfl (by kernel_rfl) Try.func5 (by kernel_rfl)
    (of_decide_eq_true (by kernel_rfl)) (by unfold Func.isWrapper; first | (rw [if_pos (by decide +kernel)]; kernel_rfl) | (rw [if_neg (by decide +kernel)]; exact ⟨rfl, rfl⟩))
    (fun os started H enc _ => lifted os started H enc)

theorem proved : Rows.FnExactTerminalSaid :=
  over
end Go.Proofs.Ytbjndnpdmohjiaa.fnExactTerminal
