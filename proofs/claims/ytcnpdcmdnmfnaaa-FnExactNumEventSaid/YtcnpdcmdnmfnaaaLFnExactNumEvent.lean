/-
  For every field and number, laws.FnExactNumEvent returns true: the program's NumEvent gives the reference's event. No condition.
-/
import Derived.Test.YtcnpdcmdnmfnaaaRows
import Derived.WalkKit
import Derived.ProofKit
import Derived.OpenShut
import Derived.ShutString
import Derived.Below
import Derived.ChangeOld
import Derived.Lib.SmallJoins
import Derived.Test.YtcnpdcmdnmfnaaaFrame
import Derived.Test.YtcnpdcmdnmfnaaaGramI
import Derived.Test.YtcnpdcmdnmfnaaaToEv
import Derived.Test.YtcnpdcmdnmfnaaaEvSame
import Derived.Test.YtcnpdcmdnmfnaaaTwoSch
import Derived.Test.YtcnpdcmdnmfnaaaOpenSch
namespace Go.Proofs.Ytcnpdcmdnmfnaaa.fnExactNumEvent
open Go.ChangeShapes Go.WideShapes Go.ChangeAt Go.RowKit Go.Joins
open Go.ChangeMaps (open_string shut_string)
set_option linter.unusedVariables false

theorem own : ownKnob Try.prog.godebug = none := by kernel_rfl
theorem cells54 : Try.prog.cellsOf 54 = 5 := by kernel_rfl
open Num in
set_option maxHeartbeats 2000000 in
theorem walk (w : World) (f0 : Num.RF)  (a1 : Int) (w1 : (Lit.int .u64 a1).wf = true) :
    Calls Try.prog 7 #[Num.fieldV f0, .int .u64 a1] w fun e w' => e = .returned (.bool true) ∧ Below w.heap.size w w' := by
  have hb := bounds_u64 w1
  obtain ⟨u, rfl⟩ := Int.eq_ofNat_of_zero_le hb.1
  clear hb w1
  obtain ⟨A1, A2, A3, A4, A5⟩ := f0
  have hT := Sch.toRawField_any (A1, A2, A3, A4, A5)
  have hS := specNumEvent_any (A1, A2, A3, A4, A5) u
  have hI := implNumEvent_any (A1, A2, A3, A4, A5) u
  have hE := eqEvent_same (numE (A1, A2, A3, A4, A5) u)
  unfold numE evV at hS hI hE
  simp only at hS hI hE
  generalize numB A2 u = n at hS hI hE
  unfold fieldV at *
  simp only at *
  have HT := Lib.hid hT
  have HS := Lib.hid hS
  have HI := Lib.hid hI
  have HE := Lib.hid hE
  clear hT hS hI hE
  have hx := Box.fresh w #[.int .i64 A1, .int .i64 A2, .bool A3, .bool A4, .int .i64 A5] 54
  have hl : Below w.heap.size w (w.alloc (.cells #[.int .i64 A1, .int .i64 A2, .bool A3, .bool A4, .int .i64 A5] 54)) := (Below.refl _ _).alloc (Nat.le_refl _) _
  go_enter Try.func7, Try.ntmps7
  go_wp2_with fail
  generalize w.alloc (.cells #[.int .i64 A1, .int .i64 A2, .bool A3, .bool A4, .int .i64 A5] 54) = w1 at hx hl ⊢
  refine (HT.out _).mono ?_
  rintro e w2 ⟨rfl, hb2⟩
  have hx2 := hx.below hb2 hx.lt
  have hl2 := hl.trans (hb2.mono hl.size)
  clear hx hl hb2
  go_wp2_with fail
  refine (HS.out _).mono ?_
  rintro e w3 ⟨rfl, hb3⟩
  have hx3 := (hx2.below hb3 hx2.lt).alloc (.cells #[.int .i64 2, .int .i64 A1, .int .u64 n, .int .i64 0, .string ⟨#[]⟩, .int .i64 0, .int .i64 0] 35)
  have hl3 := (hl2.trans (hb3.mono hl2.size)).alloc (hl2.trans (hb3.mono hl2.size)).size (.cells #[.int .i64 2, .int .i64 A1, .int .u64 n, .int .i64 0, .string ⟨#[]⟩, .int .i64 0, .int .i64 0] 35)
  have hy3 : Box (w3.alloc (.cells #[.int .i64 2, .int .i64 A1, .int .u64 n, .int .i64 0, .string ⟨#[]⟩, .int .i64 0, .int .i64 0] 35)) w3.heap.size [.int .i64 2, .int .i64 A1, .int .u64 n, .int .i64 0, .string ⟨#[]⟩, .int .i64 0, .int .i64 0] := Box.fresh w3 #[.int .i64 2, .int .i64 A1, .int .u64 n, .int .i64 0, .string ⟨#[]⟩, .int .i64 0, .int .i64 0] _
  clear hx2 hl2 hb3
  obtain ⟨⟨v0, v1, v2, v3, v4⟩, _⟩ := Box.five hx3
  go_wp2_with fail
  generalize w3.alloc (.cells #[.int .i64 2, .int .i64 A1, .int .u64 n, .int .i64 0, .string ⟨#[]⟩, .int .i64 0, .int .i64 0] 35) = wa at hx3 hl3 hy3 v0 v1 v2 v3 v4 ⊢
  generalize w3.heap.size = ga at hy3 ⊢
  refine (HT.out _).mono ?_
  rintro e w4 ⟨rfl, hb4⟩
  have hl4 := hl3.trans (hb4.mono hl3.size)
  have hy4 := hy3.below hb4 hy3.lt
  clear hx3 hl3 hb4 hy3 v0 v1 v2 v3 v4
  go_wp2_with fail
  refine (HI.out _).mono ?_
  rintro e w5 ⟨rfl, hb5⟩
  have hl5 := (hl4.trans (hb5.mono hl4.size)).alloc (hl4.trans (hb5.mono hl4.size)).size (.cells #[.int .i64 2, .int .i64 A1, .int .u64 n, .int .i64 0, .string ⟨#[]⟩, .int .i64 0, .int .i64 0] 35)
  have hy5 := (hy4.below hb5 hy4.lt).alloc (.cells #[.int .i64 2, .int .i64 A1, .int .u64 n, .int .i64 0, .string ⟨#[]⟩, .int .i64 0, .int .i64 0] 35)
  clear hl4 hb5 hy4
  obtain ⟨⟨v0, v1, v2, v3, v4, v5, v6⟩, _⟩ := Box.seven hy5
  go_wp2_with fail
  refine (HE.out _).mono ?_
  rintro e w6 ⟨rfl, hb6⟩
  have hl6 := hl5.trans (hb6.mono hl5.size)
  clear hl5 hb6 hy5 v0 v1 v2 v3 v4 v5 v6
  go_wp2_with fail
  go_ret
  exact ⟨rfl, hl6⟩

set_option maxHeartbeats 1000000 in
set_option maxRecDepth 100000 in
theorem lifted (os : Os) (started : os.Started) (H : Type) (enc : TypeId × Value → H) :
    ReturnsInHanded {} Try.checked os 7 .any (Rows.fnExactNumEventSpec.pre6 enc Try.prog Try.f7 Rows.fnExactNumEventRow.domain false) (Rows.fnExactNumEventSpec.post enc Try.prog Try.f7 false true false false) := by
  refine returnsInHanded_of_change (C := Try.checked) own started (by kernel_rfl) Try.func7
    (ChangeSpec.witness6 (enc := enc) (C := Try.checked) false ⟨#[], #[.agg #[.int .i64 0, .int .i64 0, .bool false, .bool false, .int .i64 0], .int .u64 0], []⟩ 8 (by kernel_rfl) (by kernel_rfl) (by kernel_rfl) (by kernel_rfl)) ?_
  intro W base args ds gs before hval0 hW hcnd _
  have hval : ∀ (j : Nat) t v, Try.f7.params[j]? = some t → args[j]? = some v → Value.okWide Try.prog W .any base t v := hval0
  have hW' := hW
  obtain ⟨p, q, hA0, hV, rfl, hfz, hnd⟩ := hW
  have hA : DataW.TrodAll enc Try.prog W 0 (fun _ => true) true Try.f7.params.toList args.toList ds p := hA0
  have hAk := hA
  rw [Try.params7] at hA hval
  obtain ⟨v0, vs0, d0, ds0, p0, q0, hargs, rfl, rfl, h0, r0⟩ := trodAll_cons hA
  obtain ⟨v1, vs1, d1, ds1, p1, q1, rfl, rfl, rfl, h1, r1⟩ := trodAll_cons r0
  obtain ⟨rfl, rfl, rfl⟩ := trodAll_nil r1
  obtain rfl : args = #[v0, v1] := by cases args; simp_all
  obtain ⟨rfl, rfl⟩ := trodVars_none hV
  obtain ⟨f0, rfl⟩ := Num.Sch.open_field (hval 0 54 v0 rfl rfl) h0
  obtain ⟨a1, rfl, rfl, rfl, w1⟩ := open_int Try.underlying26 (hval 1 26 v1 rfl rfl) h1
  clear hA0 hval0
  refine (walk W f0 a1 w1).mono fun e W' ⟨he, hg⟩ => ?_
  subst he
  exact ⟨_, rfl, _, _, _, [], _, [], hW', (trodAll_cons_mk (shut_bool Try.underlying4 _) trodAll_mk0), Num.args_again (by rw [Try.params7]; decide) hAk hg, rfl, hg.frame _, fun h => by cases h⟩

theorem over : Rows.fnExactNumEventRow.holds Try.pinned (OpenSpec.ofChange Rows.fnExactNumEventSpec) :=
  OpenClaim.holds_of_wide 7 Try.f7 rfl rfl rfl rfl rfl rfl rfl ⟨rfl, rfl, rfl, rfl, rfl⟩ rfl rfl rfl rfl rfl (by kernel_rfl) Try.func7 (by kernel_rfl)
    (of_decide_eq_true (by kernel_rfl)) (by unfold Func.isWrapper; first | (rw [if_pos (by decide +kernel)]; kernel_rfl) | (rw [if_neg (by decide +kernel)]; exact ⟨rfl, rfl⟩))
    (fun os started H enc _ => lifted os started H enc)

theorem proved : Rows.FnExactNumEventSaid :=
  over
end Go.Proofs.Ytcnpdcmdnmfnaaa.fnExactNumEvent
