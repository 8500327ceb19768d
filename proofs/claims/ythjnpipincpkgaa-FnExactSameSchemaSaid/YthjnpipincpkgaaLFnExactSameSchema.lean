/-
  For every two schemas, laws.FnExactSameSchema returns true: the program's SameSchema answers as the reference's, and its arguments are left as they were. No condition.
-/
import Derived.Test.YthjnpipincpkgaaRows
import Derived.WalkKit
import Derived.ProofKit
import Derived.OpenShut
import Derived.ShutString
import Derived.Below
import Derived.ChangeOld
import Derived.Lib.SmallJoins
import Derived.Test.YthjnpipincpkgaaFrame
import Derived.Test.YthjnpipincpkgaaSameSchI
import Derived.Test.YthjnpipincpkgaaTwoSch
import Derived.Test.YthjnpipincpkgaaOpenSch
import Derived.Deep.DeepCutAuto
namespace Go.Proofs.Ythjnpipincpkgaa.fnExactSameSchema
open Go.ChangeShapes Go.WideShapes Go.ChangeAt Go.RowKit Go.Joins
open Go.ChangeMaps (open_string shut_string)
set_option linter.unusedVariables false

theorem own : ownKnob Try.prog.godebug = none := by kernel_rfl
theorem cells41 : Try.prog.cellsOf 41 = 1 := by kernel_rfl
open Num in
set_option maxHeartbeats 4000000 in
theorem walk (w : World) (y0 : Value) (t0 : List Num.RM) (H0 : Num.MsgsAt w (· < w.heap.size) y0 t0) (M0 : Num.inMem t0) (y1 : Value) (t1 : List Num.RM) (H1 : Num.MsgsAt w (· < w.heap.size) y1 t1) (M1 : Num.inMem t1) :
    Calls Try.prog 5 #[.agg #[y0], .agg #[y1]] w fun e w' => e = .returned (.bool true) ∧ Below w.heap.size w w' := by
  have h0 := H0
  have h1 := H1
  clear H0 H1
  obtain ⟨a, cap, rfl⟩ := h0.len
  obtain ⟨a', cap', rfl⟩ := h1.len
  have G0 := Lib.hid h0
  have G1 := Lib.hid h1
  have M0 := Lib.hid M0
  have M1 := Lib.hid M1
  clear h0 h1
  go_enter Try.func5, Try.ntmps5
  go_wp2_with fail
  have hl : Below w.heap.size w ((w.alloc (.cells #[.slice a t0.length cap] 41)).alloc (.cells #[.slice a' t1.length cap'] 41)) := ((Below.refl _ _).alloc (Nat.le_refl _) _).alloc (by simp) _
  have hA : Holds ((w.alloc (.cells #[.slice a t0.length cap] 41)).alloc (.cells #[.slice a' t1.length cap'] 41)) w.heap.size w.heap.size (.slice a t0.length cap) t0 :=
    ⟨(Box.fresh _ _ _).alloc _, (show RawAt w (· < w.heap.size) _ t0 from ⟨_, rfl, G0.out⟩).below hl fun _ h => h, by simp; omega, hl.size, a, cap, rfl⟩
  have hB : Holds ((w.alloc (.cells #[.slice a t0.length cap] 41)).alloc (.cells #[.slice a' t1.length cap'] 41)) (w.heap.size + 1) w.heap.size (.slice a' t1.length cap') t1 :=
    ⟨by
      have h := Box.fresh (w.alloc (.cells #[.slice a t0.length cap] 41)) #[.slice a' t1.length cap'] 41
      rwa [show (w.alloc (.cells #[.slice a t0.length cap] 41)).heap.size = w.heap.size + 1 by simp] at h, (show RawAt w (· < w.heap.size) _ t1 from ⟨_, rfl, G1.out⟩).below hl fun _ h => h, by simp, hl.size, a', cap', rfl⟩
  generalize (w.alloc (.cells #[.slice a t0.length cap] 41)).alloc (.cells #[.slice a' t1.length cap'] 41) = w1 at hl hA hB ⊢
  have HA := Lib.hid hA
  have HB := Lib.hid hB
  clear hA hB G0 G1
  refine (Sch.szRaw_any _ t0 1048576 _ HA.out.raw M0.out (by omega) (by omega)).mono ?_
  rintro e w2 ⟨x, rfl, hx0, hx1, hx, hb2⟩
  have hl2 := hl.trans (hb2.mono hl.size)
  have HA2 := Lib.hid (HA.out.all hb2)
  have HB2 := Lib.hid (HB.out.all hb2)
  have Hx := Lib.hid hx
  clear hl hb2 HA HB hx
  obtain ⟨c0, _⟩ := HA2.out.one
  obtain ⟨c1, _⟩ := HB2.out.one
  by_cases hneg : x < 0
  · go_wp2_with fail
    go_ret
    exact ⟨rfl, hl2⟩
  · have hneg2 : decide (x < 0) = false := decide_eq_false hneg
    have S0 := Lib.hid (Hx.out (by omega))
    have hx00 : 0 ≤ x := by omega
    clear hneg Hx
    go_wp2_with fail
    refine (Sch.szRaw_any _ t1 x _ HB2.out.raw M1.out hx00 hx1).mono ?_
    rintro e w3 ⟨y, rfl, hy0, hy1, hy, hb3⟩
    have hl3 := hl2.trans (hb3.mono hl2.size)
    have HA3 := Lib.hid (HA2.out.all hb3)
    have HB3 := Lib.hid (HB2.out.all hb3)
    have Hy := Lib.hid hy
    clear hl2 hb3 HA2 HB2 hy c0 c1
    obtain ⟨c0, _⟩ := HA3.out.one
    obtain ⟨c1, _⟩ := HB3.out.one
    by_cases hneg3 : y < 0
    · go_wp2_with fail
      go_ret
      exact ⟨rfl, hl3⟩
    · have hneg4 : decide (y < 0) = false := decide_eq_false hneg3
      have S1 := Lib.hid (Hy.out (by omega))
      clear hneg3 Hy hx0 hx1 hy0 hy1 hx00
      have hq1 := HA3.out.2.2.1
      have hq2 := HB3.out.2.2.1
      obtain ⟨R, hR⟩ : ∃ R, sameB t0 t1 = R := ⟨_, rfl⟩
      have HR := Lib.hid hR
      clear hR
      go_upto_region 8 with fail
      go_cut [6] from 20 to 24 (fun s6 wx => s6 = .bool R ∧ Hid (Holds wx w.heap.size w.heap.size (.slice a t0.length cap) t0) ∧ Hid (Holds wx (w.heap.size + 1) w.heap.size (.slice a' t1.length cap') t1) ∧ Below w.heap.size w wx)
      case first =>
        go_region_with (first
          | (go_at_call_of 19 (Value.slice a t0.length cap); refine (Sch.toRaw_held HA3.out.drew S0.out).mono ?_; rintro e w4 ⟨ya, ycap, rfl, hr4, hb4⟩; have hA4 := HA3.out.drew.all hb4; have hB4 := HB3.out.drew.all hb4; have hl4 := hl3.drew.trans (hb4.mono hl3.size); obtain ⟨d0, _⟩ := hA4.one; obtain ⟨d1, _⟩ := hB4.one)
          | (go_at_call_of 19 (Value.slice a' t1.length cap'); refine (Sch.toRaw_held hB4 S1.out).mono ?_; rintro e w5 ⟨za, zcap, rfl, hr5, hb5⟩; have hA5 := hA4.all hb5; have hB5 := hB4.all hb5; have hr45 := hr4.all hb5; have hl5 := hl4.trans (hb5.mono hl4.size))
          | (go_at_call 21; refine (Sch.specSameRaw_any _ _ t0 t1 _ hr45 hr5 S0.out S1.out).mono ?_; rintro e w6 ⟨rfl, hb6⟩; have hA6 := hA5.all hb6; have hB6 := hB5.all hb6; have hl6 := hl5.trans (hb6.mono hl5.size)))
        all_goals
          rw [HR.out]
          have HA6 := Lib.hid hA6
          have HB6 := Lib.hid hB6
          clear hA4 hB4 hA5 hB5 hA6 hB6 hr4 hr5 hr45 hb4 hb5 hb6 hl4 hl5 d0 d1 c0 c1 HA3 HB3 hq1 hq2
          go_wp2_with fail
          go_meet
          exact ⟨rfl, HA6, HB6, hl6⟩
      case rest =>
      obtain ⟨rfl, HA6, HB6, hl6⟩ := hcut
      clear hl3 c0 c1 HA3 HB3 hq1 hq2
      obtain ⟨c0, _⟩ := HA6.out.one
      obtain ⟨c1, _⟩ := HB6.out.one
      go_wp2_with fail
      refine (Sch.toRaw_held HA6.out S0.out).mono ?_
      rintro e w7 ⟨p, pc, rfl, hr7, hb7⟩
      have hA7 := HA6.out.all hb7
      have hB7 := HB6.out.all hb7
      have hl7 := hl6.trans (hb7.mono hl6.size)
      have hX8 := Holds.fresh 26 hr7
      have hb8 : Below w7.heap.size w7 (w7.alloc (.cells #[.slice p t0.length pc] 26)) := (Below.refl _ _).alloc (Nat.le_refl _) _
      have hA8 := hA7.all hb8
      have hB8 := hB7.all hb8
      have hl8 := hl7.trans (hb8.mono hl7.size)
      have c1 := hB7.one.1
      have hzB := hB7.2.2.1
      clear hb7 hr7 hA7 hl7 hl6 HA6 HB6 c0
      go_wp2_with fail
      generalize w7.alloc (.cells #[.slice p t0.length pc] 26) = w8 at hX8 hA8 hB8 hl8 ⊢
      generalize w7.heap.size = gx at hX8 ⊢
      clear hb8 hB7 c1 hzB
      refine (Sch.toRaw_held hB8 S1.out).mono ?_
      rintro e w9 ⟨q, qc, rfl, hr9, hb9⟩
      have hA9 := hA8.all hb9
      have hB9 := hB8.all hb9
      have hX9 := hX8.all hb9
      have hl9 := hl8.trans (hb9.mono hl8.size)
      have hY10 := Holds.fresh 26 hr9
      have hb10 : Below w9.heap.size w9 (w9.alloc (.cells #[.slice q t1.length qc] 26)) := (Below.refl _ _).alloc (Nat.le_refl _) _
      have hA10 := hA9.all hb10
      have hB10 := hB9.all hb10
      have hX10 := hX9.all hb10
      have hl10 := hl9.trans (hb10.mono hl9.size)
      have cX := hX9.one.1
      have hzX := hX9.2.2.1
      clear hb9 hr9 hA9 hB9 hl9 hA8 hB8 hX8 hl8
      go_wp2_with fail
      generalize w9.alloc (.cells #[.slice q t1.length qc] 26) = w10 at hX10 hA10 hB10 hY10 hl10 ⊢
      generalize w9.heap.size = gy at hY10 ⊢
      clear hb10 hX9 cX hzX
      refine (Sch.implSameRaw_any _ _ t0 t1 _ hX10.raw hY10.raw S0.out S1.out).mono ?_
      rw [HR.out]
      rintro e w11 ⟨rfl, hb11⟩
      have hA11 := hA10.all hb11
      have HB11 := Lib.hid (hB10.all hb11)
      have hX11 := hX10.all hb11
      have HY11 := Lib.hid (hY10.all hb11)
      have hl11 := hl10.trans (hb11.mono hl10.size)
      have HA11 := Lib.hid hA11
      have HX11 := Lib.hid hX11
      have cA := hA11.one.1
      have cX := hX11.one.1
      clear hb11 hA10 hB10 hX10 hY10 hl10 hA11 hX11
      go_upto_region 14 with fail
      go_cut [39] from 35 to 38 (fun s39 wx => s39 = .bool false ∧ Hid (Holds wx (w.heap.size + 1) w.heap.size (.slice a' t1.length cap') t1) ∧ Hid (Holds wx gy gy (.slice q t1.length qc) t1) ∧ Below w.heap.size w wx)
      case first =>
        go_region_with (first
          | (go_at_call 19; refine (Sch.toRaw_held HA11.out.drew S0.out).mono ?_; rintro e w12 ⟨ka, kc, rfl, hr12, hb12⟩; have hX12 := HX11.out.drew.all hb12; have hB12 := HB11.out.drew.all hb12; have hY12 := HY11.out.drew.all hb12; have hl12 := hl11.drew.trans (hb12.mono hl11.size); obtain ⟨d0, _⟩ := hX12.one)
          | (go_at_call 20; refine (Sch.eqRaw_same _ _ t0 _ hX12.raw hr12 S0.out).mono ?_; rintro e w13 ⟨rfl, hb13⟩; have hB13 := hB12.all hb13; have hY13 := hY12.all hb13; have hl13 := hl12.trans (hb13.mono hl12.size)))
        all_goals
          have HB13 := Lib.hid hB13
          have HY13 := Lib.hid hY13
          clear hB12 hY12 hX12 hr12 hb12 hb13 hl12 hB13 hY13 d0 cA cX HA11 HB11 HX11 HY11 hl11
          go_wp2_with fail
          go_meet
          exact ⟨rfl, HB13, HY13, hl13⟩
      case rest =>
      obtain ⟨rfl, HB13, HY13, hl13'⟩ := hcut
      clear cA cX HA11 HB11 HX11 HY11 hl11
      have cB := HB13.out.one.1
      have cY := HY13.out.one.1
      go_wp2_with fail
      go_region_with (first
        | (go_at_call 19; refine (Sch.toRaw_held HB13.out.drew S1.out).mono ?_; rintro e w14 ⟨ka, kc, rfl, hr14, hb14⟩; have hY14 := HY13.out.drew.all hb14; have hl14 := hl13'.drew.trans (hb14.mono hl13'.size); obtain ⟨d0, _⟩ := hY14.one)
        | (go_at_call 20; refine (Sch.eqRaw_same _ _ t1 _ hY14.raw hr14 S1.out).mono ?_; rintro e w15 ⟨rfl, hb15⟩; have hl15 := hl14.trans (hb15.mono hl14.size)))
      all_goals
        go_wp2_with fail
        go_ret
        exact ⟨rfl, hl15⟩

set_option maxHeartbeats 1000000 in
set_option maxRecDepth 100000 in
theorem lifted (os : Os) (started : os.Started) (H : Type) (enc : TypeId × Value → H) :
    ReturnsInHanded {} Try.checked os 5 .any (Rows.fnExactSameSchemaSpec.pre6 enc Try.prog Try.f5 Rows.fnExactSameSchemaRow.domain false) (Rows.fnExactSameSchemaSpec.post enc Try.prog Try.f5 false true false false) := by
  refine returnsInHanded_of_change (C := Try.checked) own started (by kernel_rfl) Try.func5
    (ChangeSpec.witness6 (enc := enc) (C := Try.checked) false ⟨#[], #[.agg #[.slice none 0 0], .agg #[.slice none 0 0]], []⟩ 8 (by kernel_rfl) (by kernel_rfl) (by kernel_rfl) (by kernel_rfl)) ?_
  intro W base args ds gs before hval0 hW hcnd _
  have hval : ∀ (j : Nat) t v, Try.f5.params[j]? = some t → args[j]? = some v → Value.okWide Try.prog W .any base t v := hval0
  have hW' := hW
  obtain ⟨p, q, hA0, hV, rfl, hfz, hnd⟩ := hW
  have hA : DataW.TrodAll enc Try.prog W 0 (fun _ => true) true Try.f5.params.toList args.toList ds p := hA0
  have hAk := hA
  rw [Try.params5] at hA hval
  obtain ⟨v0, vs0, d0, ds0, p0, q0, hargs, rfl, rfl, h0, r0⟩ := trodAll_cons hA
  obtain ⟨v1, vs1, d1, ds1, p1, q1, rfl, rfl, rfl, h1, r1⟩ := trodAll_cons r0
  obtain ⟨rfl, rfl, rfl⟩ := trodAll_nil r1
  obtain rfl : args = #[v0, v1] := by cases args; simp_all
  obtain ⟨rfl, rfl⟩ := trodVars_none hV
  obtain ⟨y0, t0, rfl, H0, M0⟩ := Num.Sch.open_raw (hval 0 41 v0 rfl rfl) h0
  obtain ⟨y1, t1, rfl, H1, M1⟩ := Num.Sch.open_raw (hval 1 41 v1 rfl rfl) h1
  clear hA0 hval0
  refine (walk W y0 t0 H0 M0 y1 t1 H1 M1).mono fun e W' ⟨he, hg⟩ => ?_
  subst he
  exact ⟨_, rfl, _, _, _, [], _, [], hW', (trodAll_cons_mk (shut_bool Try.underlying4 _) trodAll_mk0), Num.args_again (by rw [Try.params5]; decide) hAk hg, rfl, hg.frame _, fun h => by cases h⟩

theorem over : Rows.fnExactSameSchemaRow.holds Try.pinned (OpenSpec.ofChange Rows.fnExactSameSchemaSpec) :=
  OpenClaim.holds_of_wide 5 Try.f5 rfl rfl rfl rfl rfl rfl rfl ⟨rfl, rfl, rfl, rfl, rfl⟩ rfl rfl rfl rfl rfl (by kernel_rfl) Try.func5 (by kernel_rfl)
    (of_decide_eq_true (by kernel_rfl)) (by unfold Func.isWrapper; first | (rw [if_pos (by decide +kernel)]; kernel_rfl) | (rw [if_neg (by decide +kernel)]; exact ⟨rfl, rfl⟩))
    (fun os started H enc _ => lifted os started H enc)

theorem proved : Rows.FnExactSameSchemaSaid :=
  over
end Go.Proofs.Ythjnpipincpkgaa.fnExactSameSchema
