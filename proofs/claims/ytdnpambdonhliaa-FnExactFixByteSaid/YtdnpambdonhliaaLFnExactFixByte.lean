/-
  For every state and number, laws.FnExactFixByte returns true: the program's FixByte answers as the reference's. No condition.
-/
import Derived.Test.YtdnpambdonhliaaRows
import Derived.WalkKit
import Derived.ProofKit
import Derived.OpenShut
import Derived.ShutString
import Derived.Below
import Derived.ChangeOld
import Derived.Lib.SmallJoins
import Derived.Test.YtdnpambdonhliaaFrame
import Derived.Test.YtdnpambdonhliaaFixByte
import Derived.Test.YtdnpambdonhliaaScanLaw
namespace Go.Proofs.Ytdnpambdonhliaa.fnExactFixByte
open Go.ChangeShapes Go.WideShapes Go.ChangeAt Go.RowKit Go.Joins
open Go.ChangeMaps (open_string shut_string)
set_option linter.unusedVariables false

theorem own : ownKnob Try.prog.godebug = none := by kernel_rfl
theorem cells48 : Try.prog.cellsOf 48 = 2 := by kernel_rfl
open Num in
theorem u64_nat (x : Int) : ∃ n : Nat, IntKind.u64.wrap x = (n : Int) := ⟨(IntKind.u64.wrap x).toNat, by rw [IntKind.wrap_u64]; omega⟩
open Num in
theorem fix_nat (b : Nat) (h x : Int) : ∃ (n : Nat) (H : Int), fixByteR b h x = ((n : Int), H) := by
  unfold fixByteR
  split
  · obtain ⟨n, hn⟩ := u64_nat ((b : Int) + IntKind.u64.wrap (x * 2 ^ (8 * h.toNat)))
    exact ⟨n, h + 1, by rw [hn]⟩
  · exact ⟨b, h, rfl⟩
open Num in
set_option maxHeartbeats 1000000 in
theorem walk (a0_0 : Int) (w0_0 : (Lit.int .u64 a0_0).wf = true) (a0_1 : Int) (w0_1 : (Lit.int .i64 a0_1).wf = true) (a1 : Int) (w1 : (Lit.int .i64 a1).wf = true) (w : World) :
    Calls Try.prog 11 #[.agg #[.int .u64 a0_0, .int .i64 a0_1], .int .i64 a1] w fun e w' => e = .returned (.bool true) ∧ Below w.heap.size w w' := by
  obtain ⟨b, rfl⟩ := Int.eq_ofNat_of_zero_le (bounds_u64 w0_0).1
  obtain ⟨V, H, hR⟩ := fix_nat b a0_1 a1
  have HR := Lib.hid hR; clear hR
  clear w0_0 w0_1 w1
  go_enter Try.func11, Try.ntmps11
  go_wp2_with fail
  refine (toScan_any b a0_1 _).mono ?_
  rintro e w1 ⟨rfl, hb1⟩
  obtain ⟨hc1, _⟩ := bcell hb1
  go_wp2_with fail
  refine (specFixByte_any b a0_1 a1 _).mono ?_
  rw [HR.out]
  rintro e w2 ⟨rfl, hb2⟩
  have hb12 := hb1.trans (hb2.mono hb1.size)
  have hz2 := alloc_lt hb12
  clear hb1 hb2 hc1
  obtain ⟨hc1, _⟩ := bcell hb12
  go_wp2_with fail
  refine (toScan_any b a0_1 _).mono ?_
  rintro e w3 ⟨rfl, hb3⟩
  clear hc1
  go_wp2_with fail
  refine (implFixByte_any b a0_1 a1 _).mono ?_
  rw [HR.out]
  rintro e w4 ⟨rfl, hb4⟩
  have hb34 := hb3.trans (hb4.mono hb3.size)
  have hz4 := alloc_lt hb34
  obtain ⟨hc3, _⟩ := bcell hb34
  have hw4 : Below w.heap.size w w4 := (from_alloc hb12).trans ((from_alloc hb34).mono (by omega))
  clear hb3 hb4 hb12 hb34
  go_wp2_with fail
  refine (eqScan_same V H _).mono ?_
  rintro e w5 ⟨rfl, hb5⟩
  have hz5 := alloc_lt hb5
  have hw5 := hw4.trans ((from_alloc hb5).mono (by omega))
  clear hc3 hb5
  go_wp2_with fail
  go_ret
  exact ⟨rfl, hw5⟩

set_option maxRecDepth 100000 in
theorem lifted (os : Os) (started : os.Started) (H : Type) (enc : TypeId × Value → H) :
    ReturnsInHanded {} Try.checked os 11 .any (Rows.fnExactFixByteSpec.pre6 enc Try.prog Try.f11 Rows.fnExactFixByteRow.domain false) (Rows.fnExactFixByteSpec.post enc Try.prog Try.f11 false true false false) := by
  refine returnsInHanded_of_change (C := Try.checked) own started (by kernel_rfl) Try.func11
    (ChangeSpec.witness6 (enc := enc) (C := Try.checked) false ⟨#[], #[.agg #[.int .u64 0, .int .i64 0], .int .i64 0], []⟩ 8 (by kernel_rfl) (by kernel_rfl) (by kernel_rfl) (by kernel_rfl)) ?_
  intro W base args ds gs before hval0 hW hcnd _
  have hval : ∀ (j : Nat) t v, Try.f11.params[j]? = some t → args[j]? = some v → Value.okWide Try.prog W .any base t v := hval0
  have hW' := hW
  obtain ⟨p, q, hA0, hV, rfl, hfz, hnd⟩ := hW
  have hA : DataW.TrodAll enc Try.prog W 0 (fun _ => true) true Try.f11.params.toList args.toList ds p := hA0
  have hAk := hA
  rw [Try.params11] at hA hval
  obtain ⟨v0, vs0, d0, ds0, p0, q0, hargs, rfl, rfl, h0, r0⟩ := trodAll_cons hA
  obtain ⟨v1, vs1, d1, ds1, p1, q1, rfl, rfl, rfl, h1, r1⟩ := trodAll_cons r0
  obtain ⟨rfl, rfl, rfl⟩ := trodAll_nil r1
  obtain rfl : args = #[v0, v1] := by cases args; simp_all
  obtain ⟨rfl, rfl⟩ := trodVars_none hV
  obtain ⟨c0_0, c0_1, y0_0, y0_1, fu0, rfl, rfl, rfl, hy0_0, hy0_1⟩ := open_agg2 Try.underlying48 (by kernel_rfl) cells48 (hval 0 48 v0 rfl rfl) h0
  obtain ⟨a0_0, e0_0, rfl, w0_0⟩ := DataW.trod_int Try.underlying26 hy0_0
  simp at e0_0; subst e0_0
  obtain ⟨a0_1, e0_1, rfl, w0_1⟩ := DataW.trod_int Try.underlying3 hy0_1
  simp at e0_1; subst e0_1
  obtain ⟨a1, rfl, rfl, rfl, w1⟩ := open_int Try.underlying3 (hval 1 3 v1 rfl rfl) h1
  clear hA0 hval0
  refine (walk a0_0 w0_0 a0_1 w0_1 a1 w1 W).mono fun e W' ⟨he, hg⟩ => ?_
  subst he
  exact ⟨_, rfl, _, _, _, [], _, [], hW', (trodAll_cons_mk (shut_bool Try.underlying4 _) trodAll_mk0), Num.args_again (by rw [Try.params11]; decide) hAk hg, rfl, hg.frame _, fun h => by cases h⟩

theorem over : Rows.fnExactFixByteRow.holds Try.pinned (OpenSpec.ofChange Rows.fnExactFixByteSpec) :=
  OpenClaim.holds_of_wide 11 Try.f11 rfl rfl rfl rfl rfl rfl rfl ⟨rfl, rfl, rfl, rfl, rfl⟩ rfl rfl rfl rfl rfl (by kernel_rfl) Try.func11 (by kernel_rfl)
    (of_decide_eq_true (by kernel_rfl)) (by unfold Func.isWrapper; first | (rw [if_pos (by decide +kernel)]; kernel_rfl) | (rw [if_neg (by decide +kernel)]; exact ⟨rfl, rfl⟩))
    (fun os started H enc _ => lifted os started H enc)

theorem proved : Rows.FnExactFixByteSaid :=
  over
end Go.Proofs.Ytdnpambdonhliaa.fnExactFixByte
