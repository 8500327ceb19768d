/-
  For every state and string, laws.FnExactUtfText returns true: the program's UtfText answers as the reference's, state and place. No condition.
-/
import Derived.Test.YtoohcepobbbejaaRows
import Derived.WalkKit
import Derived.ProofKit
import Derived.OpenShut
import Derived.ShutString
import Derived.Below
import Derived.ChangeOld
import Derived.Lib.SmallJoins
import Derived.Test.YtoohcepobbbejaaFrame
import Derived.Test.YtoohcepobbbejaaUtfImpl
import Derived.Test.YtoohcepobbbejaaUtfLaw
namespace Go.Proofs.Ytoohcepobbbejaa.fnExactUtfText
open Go.ChangeShapes Go.WideShapes Go.ChangeAt Go.RowKit Go.Joins
open Go.ChangeMaps (open_string shut_string)
set_option linter.unusedVariables false

theorem own : ownKnob Try.prog.godebug = none := by kernel_rfl
theorem cells38 : Try.prog.cellsOf 38 = 3 := by kernel_rfl
open Num in
theorem text_form (r : Utf.St × Option Nat) : ∃ W L H k : Int, textV r = .tuple #[.agg #[.int .i64 W, .int .i64 L, .int .i64 H], .int .i64 k] := ⟨r.1.1, r.1.2.1, r.1.2.2, offI r.2, rfl⟩
open Num in
set_option maxHeartbeats 1000000 in
theorem walk (w : World) (a0_0 : Int) (w0_0 : (Lit.int .i64 a0_0).wf = true) (a0_1 : Int) (w0_1 : (Lit.int .i64 a0_1).wf = true) (a0_2 : Int) (w0_2 : (Lit.int .i64 a0_2).wf = true) (a1 : ByteArray) (w1 : a1.size ≤ maxLen) :
    Calls Try.prog 9 #[.agg #[.int .i64 a0_0, .int .i64 a0_1, .int .i64 a0_2], .string a1] w fun e w' => e = .returned (.bool true) ∧ Below w.heap.size w w' := by
  have hs : a1.size ≤ 9223372036854775807 := by unfold maxLen at w1; omega
  clear w0_0 w0_1 w0_2 w1
  by_cases hbig : 1048576 < a1.size
  · go_enter Try.func9, Try.ntmps9
    go_wp2_with fail
    go_ret
    refine ⟨rfl, ?_⟩
    repeat (first | exact Below.refl _ _ | refine Below.alloc ?_ (by simp <;> omega) _)
  · obtain ⟨W, L, H, k, hR⟩ := text_form (Utf.run (a0_0, a0_1, a0_2) a1.data.toList)
    have Hs := Lib.hid (specUtfText_any a0_0 a0_1 a0_2 a1 · (by omega))
    have Hi := Lib.hid (implUtfText_any a0_0 a0_1 a0_2 a1 · (by omega))
    rw [hR] at Hs Hi
    clear hR
    go_enter Try.func9, Try.ntmps9
    go_wp2_with fail
    refine (toUtf_any a0_0 a0_1 a0_2 _).mono ?_
    rintro e w1 ⟨rfl, hb1⟩
    obtain ⟨hc1, _⟩ := bcellU hb1
    go_wp2_with fail
    refine (Hs.out _).mono ?_
    rintro e w2 ⟨rfl, hb2⟩
    have hb12 := hb1.trans (hb2.mono hb1.size)
    have hz2 := alloc_lt hb12
    clear hb1 hb2 hc1
    obtain ⟨hc1, _⟩ := bcellU hb12
    go_wp2_with fail
    refine (toUtf_any a0_0 a0_1 a0_2 _).mono ?_
    rintro e w3 ⟨rfl, hb3⟩
    clear hc1
    go_wp2_with fail
    refine (Hi.out _).mono ?_
    rintro e w4 ⟨rfl, hb4⟩
    have hb34 := hb3.trans (hb4.mono hb3.size)
    have hz4 := alloc_lt hb34
    obtain ⟨hc3, _⟩ := bcellU hb34
    have hw4 : Below w.heap.size w w4 := (from_alloc hb12).trans ((from_alloc hb34).mono (by omega))
    clear hb3 hb4 hb12 hb34
    go_wp2_with fail
    refine (eqUtf_same W L H _).mono ?_
    rintro e w5 ⟨rfl, hb5⟩
    have hz5 := alloc_lt hb5
    have hw5 := hw4.trans ((from_alloc hb5).mono (by omega))
    clear hc3 hb5
    go_wp2_with fail
    go_ret
    exact ⟨rfl, hw5⟩

set_option maxHeartbeats 1000000 in
set_option maxRecDepth 100000 in
theorem lifted (os : Os) (started : os.Started) (H : Type) (enc : TypeId × Value → H) :
    ReturnsInHanded {} Try.checked os 9 .any (Rows.fnExactUtfTextSpec.pre6 enc Try.prog Try.f9 Rows.fnExactUtfTextRow.domain false) (Rows.fnExactUtfTextSpec.post enc Try.prog Try.f9 false true false false) := by
  refine returnsInHanded_of_change (C := Try.checked) own started (by kernel_rfl) Try.func9
    (ChangeSpec.witness6 (enc := enc) (C := Try.checked) false ⟨#[], #[.agg #[.int .i64 0, .int .i64 0, .int .i64 0], .string ByteArray.empty], []⟩ 8 (by kernel_rfl) (by kernel_rfl) (by kernel_rfl) (by kernel_rfl)) ?_
  intro W base args ds gs before hval0 hW hcnd _
  have hval : ∀ (j : Nat) t v, Try.f9.params[j]? = some t → args[j]? = some v → Value.okWide Try.prog W .any base t v := hval0
  have hW' := hW
  obtain ⟨p, q, hA0, hV, rfl, hfz, hnd⟩ := hW
  have hA : DataW.TrodAll enc Try.prog W 0 (fun _ => true) true Try.f9.params.toList args.toList ds p := hA0
  have hAk := hA
  rw [Try.params9] at hA hval
  obtain ⟨v0, vs0, d0, ds0, p0, q0, hargs, rfl, rfl, h0, r0⟩ := trodAll_cons hA
  obtain ⟨v1, vs1, d1, ds1, p1, q1, rfl, rfl, rfl, h1, r1⟩ := trodAll_cons r0
  obtain ⟨rfl, rfl, rfl⟩ := trodAll_nil r1
  obtain rfl : args = #[v0, v1] := by cases args; simp_all
  obtain ⟨rfl, rfl⟩ := trodVars_none hV
  obtain ⟨c0_0, c0_1, c0_2, y0_0, y0_1, y0_2, fu0, rfl, rfl, rfl, hy0_0, hy0_1, hy0_2⟩ := open_agg3 Try.underlying38 (by kernel_rfl) cells38 (hval 0 38 v0 rfl rfl) h0
  obtain ⟨a0_0, e0_0, rfl, w0_0⟩ := DataW.trod_int Try.underlying3 hy0_0
  simp at e0_0; subst e0_0
  obtain ⟨a0_1, e0_1, rfl, w0_1⟩ := DataW.trod_int Try.underlying3 hy0_1
  simp at e0_1; subst e0_1
  obtain ⟨a0_2, e0_2, rfl, w0_2⟩ := DataW.trod_int Try.underlying3 hy0_2
  simp at e0_2; subst e0_2
  obtain ⟨a1, rfl, rfl, rfl, w1⟩ := open_string Try.underlying9 (hval 1 9 v1 rfl rfl) h1
  clear hA0 hval0
  refine (walk W a0_0 w0_0 a0_1 w0_1 a0_2 w0_2 a1 w1).mono fun e W' ⟨he, hg⟩ => ?_
  subst he
  exact ⟨_, rfl, _, _, _, [], _, [], hW', (trodAll_cons_mk (shut_bool Try.underlying4 _) trodAll_mk0), Num.args_again (by rw [Try.params9]; decide) hAk hg, rfl, hg.frame _, fun h => by cases h⟩

theorem over : Rows.fnExactUtfTextRow.holds Try.pinned (OpenSpec.ofChange Rows.fnExactUtfTextSpec) :=
  OpenClaim.holds_of_wide 9 Try.f9 rfl rfl rfl rfl rfl rfl rfl ⟨rfl, rfl, rfl, rfl, rfl⟩ rfl rfl rfl rfl rfl (by kernel_rfl) Try.func9 (by kernel_rfl)
    (of_decide_eq_true (by kernel_rfl)) (by unfold Func.isWrapper; first | (rw [if_pos (by decide +kernel)]; kernel_rfl) | (rw [if_neg (by decide +kernel)]; exact ⟨rfl, rfl⟩))
    (fun os started H enc _ => lifted os started H enc)

theorem proved : Rows.FnExactUtfTextSaid :=
  over
end Go.Proofs.Ytoohcepobbbejaa.fnExactUtfText
