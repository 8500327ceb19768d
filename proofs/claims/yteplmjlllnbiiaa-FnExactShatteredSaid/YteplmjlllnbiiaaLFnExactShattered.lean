/-
  For every list of events and every length, laws.FnExactShattered returns true: the program's Shattered answers as the reference's, the list is left as it was, and the answer shares no memory with it or with another answer. No condition.
-/
import Derived.Test.YteplmjlllnbiiaaRows
import Derived.WalkKit
import Derived.ProofKit
import Derived.OpenShut
import Derived.ShutString
import Derived.Below
import Derived.ChangeOld
import Derived.Lib.SmallJoins
import Derived.Test.YteplmjlllnbiiaaFrame
import Derived.Test.YteplmjlllnbiiaaElevI
import Derived.Test.YteplmjlllnbiiaaOpenEv
import Derived.Test.YteplmjlllnbiiaaMarkOwn
namespace Go.Proofs.Yteplmjlllnbiiaa.fnExactShattered
open Go.ChangeShapes Go.WideShapes Go.ChangeAt Go.RowKit Go.Joins
open Go.ChangeMaps (open_string shut_string)
set_option linter.unusedVariables false

theorem own : ownKnob Try.prog.godebug = none := by kernel_rfl
open Num in
set_option maxHeartbeats 4000000 in
theorem walk (w : World) (a0 : Option Addr) (c0 : Nat) (l0 : List Num.Ev) (H0 : Num.EvsAt w (· < w.heap.size) (.slice a0 l0.length c0) l0) (W0 : Num.EvsWf l0) (M0 : l0.length ≤ 9223372036854775807) (a1 : Int) (w1 : (Lit.int .i64 a1).wf = true) :
    Calls Try.prog 7 #[.slice a0 l0.length c0, .int .i64 a1] w fun e w' => e = .returned (.bool true) ∧ Below w.heap.size w w' := by
  have HA := Lib.hid H0
  have HW := Lib.hid W0
  clear H0 W0
  have Hn := Lib.hid (bounds_i64 w1)
  clear w1
  go_enter Try.func7, Try.ntmps7
  go_wp2_with fail
  refine (szEventS_any _ l0 1048576 _ HA.out M0 HW.out (by omega) (by omega)).mono ?_
  rintro e w1 ⟨x, rfl, hx0, hx1, hx, hb1⟩
  have Hx := Lib.hid hx
  clear hx
  by_cases hneg : x < 0
  · go_wp2_with fail
    go_ret
    exact ⟨rfl, hb1⟩
  · have hneg2 : decide (x < 0) = false := decide_eq_false hneg
    have Hsm := Lib.hid (Hx.out (by omega))
    have hsm := Hsm.out.1
    have HA1 := Lib.hid (HA.out.grow hb1 (Nat.le_refl _))
    clear hneg hx0 hx1 Hx HW M0
    go_wp2_with fail
    refine (toEventS_own _ l0 _ HA1.out hsm).mono ?_
    rintro e w2 ⟨rfl, hr2, hf2, hb2⟩
    have hl2 := hb1.trans (hb2.mono hb1.size)
    have Hr2 : Hid (EvsAt w2 (· < w2.heap.size) _ l0) := Lib.hid (hr2.wide fun b hb' => by subst hb'; exact hf2.1)
    generalize w1.heap.size = g2 at Hr2 ⊢
    clear hb1 hb2 hr2 hf2 HA1
    go_wp2_with fail
    have hRl : (shatteredE l0 a1).length ≤ 4194304 := by have := shattered_len l0 a1; have := Hsm.out.1; have := Hsm.out.2; omega
    have HRl := Lib.hid hRl
    refine (specShattered_any _ l0 a1 _ Hr2.out Hsm.out Hn.out (.inr ⟨_, _, _, rfl⟩)).mono ?_
    rintro e w3 ⟨gS, cS, rfl, hS, hb3⟩
    have HS3 := Lib.hid hS.evsAll
    have hl3 := hl2.trans (hb3.mono hl2.size)
    have HA3 := Lib.hid (HA.out.grow hl3 (Nat.le_refl _))
    obtain ⟨IC, hIC⟩ : ∃ IC : Prop, IC = (∀ (v : Value) (wx : World), EvsAt wx (· < wx.heap.size) v l0 → (v = .slice none 0 0 ∨ ∃ ad m c, v = .slice (some ad) m c) → Calls Try.prog 14 #[v, .int .i64 a1] wx fun e w' => ∃ a cap, e = .returned (.slice a (shatteredE l0 a1).length cap) ∧ OwnE w' wx.heap.size 31 (.slice a (shatteredE l0 a1).length cap) (shatteredE l0 a1) ∧ Below wx.heap.size wx w') := ⟨_, rfl⟩
    have HI : IC := hIC ▸ fun v wx hv hn => implShattered_any v l0 a1 wx hv Hsm.out Hn.out hn
    clear hl2 hb3 Hr2 hS hRl
    generalize shatteredE l0 a1 = r at HS3 hIC HRl ⊢
    subst hIC
    have HI := Lib.hid HI
    have hRl := HRl.out
    go_wp2_with fail
    refine (toEventS_own _ l0 _ HA3.out hsm).mono ?_
    rintro e w4 ⟨rfl, hx4, hf4, hb4⟩
    obtain ⟨gX, hgX⟩ : ∃ gX, w3.heap.size = gX := ⟨_, rfl⟩
    rw [hgX] at hx4 hf4 hb4 ⊢
    have HS3' : EvsAt w3 (· < gX) (.slice (some ⟨gS, 0, none⟩) r.length cS) r := by rw [← hgX]; exact HS3.out
    have HS4 := Lib.hid (HS3'.under hb4)
    have HX4 := Lib.hid (And.intro hx4 hf4)
    have hwX : w.heap.size ≤ gX := by rw [← hgX]; exact hl3.size
    have hl4 : Below w.heap.size w w4 := hl3.trans (hb4.mono hwX)
    have hX4 : gX < w4.heap.size := hf4.1
    have Hx4 : Hid (EvsAt w4 (· < w4.heap.size) (.slice (some ⟨gX, 0, none⟩) l0.length l0.length) l0) := Lib.hid (hx4.wide fun b hb' => by subst hb'; exact hX4)
    clear hl3 hb4 HS3 HS3' HA3 hx4 hf4 hgX
    go_wp2_with fail
    refine (HI.out _ _ Hx4.out (.inr ⟨_, _, _, rfl⟩)).mono ?_
    rintro e w5 ⟨aG, cG, rfl, hG, hb5⟩
    obtain ⟨B, hB⟩ : ∃ B, w4.heap.size = B := ⟨_, rfl⟩
    rw [hB] at hG hb5 hX4
    have hBl : B ≤ w5.heap.size := Nat.le_trans (Nat.le_of_eq hB.symm) hb5.size
    have HG5 := Lib.hid hG
    have HX5 : Hid (EvsAt w5 (· = gX) (.slice (some ⟨gX, 0, none⟩) l0.length l0.length) l0 ∧ Fill w5 gX (l0.length * 7)) := Lib.hid ⟨HX4.out.1.below hb5 fun b hb' => by subst hb'; exact hX4, HX4.out.2.below hb5 hX4⟩
    have HS5 := Lib.hid (HS4.out.under (hb5.mono (Nat.le_of_lt hX4)))
    have hl5 : Below w.heap.size w w5 := hl4.trans (hb5.mono (by omega))
    have hX5 := HX5.out.2.1
    clear hl4 hb5 HS4 HX4 Hx4 hG hB
    go_wp2_with fail
    refine (eqEventS_same _ _ r _ HG5.out.evsAll (HS5.out.wide fun b hb' => Nat.lt_trans hb' hX5) (by omega)).mono ?_
    rintro e w6 ⟨rfl, hb6⟩
    have HG6 := Lib.hid (HG5.out.below hb6 (Nat.le_refl _))
    have HX6 : Hid (EvsAt w6 (· = gX) (.slice (some ⟨gX, 0, none⟩) l0.length l0.length) l0 ∧ Fill w6 gX (l0.length * 7)) := Lib.hid ⟨HX5.out.1.below hb6 fun b hb' => by subst hb'; exact hX5, HX5.out.2.below hb6 hX5⟩
    have HS6 := Lib.hid (HS5.out.under (hb6.mono (Nat.le_of_lt hX5)))
    have hl6 : Below w.heap.size w w6 := hl5.trans (hb6.mono hl5.size)
    have HA6 := Lib.hid (HA.out.grow hl6 (Nat.le_refl _))
    have hB6 : B ≤ w6.heap.size := Nat.le_trans hBl hb6.size
    clear hl5 hb6 HG5 HX5 HS5 hX5 hBl
    go_wp2_with fail
    refine (toEventS_any _ l0 _ HA6.out hsm).mono ?_
    rintro e w7 ⟨p7, k7, rfl, hr7, hb7⟩
    have hX6 := HX6.out.2.1
    have HG7 := Lib.hid (HG6.out.below hb7 (Nat.le_refl _))
    have HX7 : Hid (EvsAt w7 (· = gX) (.slice (some ⟨gX, 0, none⟩) l0.length l0.length) l0 ∧ Fill w7 gX (l0.length * 7)) := Lib.hid ⟨HX6.out.1.below hb7 fun b hb' => by subst hb'; exact hX6, HX6.out.2.below hb7 hX6⟩
    have HS7 := Lib.hid (HS6.out.under (hb7.mono (Nat.le_of_lt hX6)))
    have hl7 : Below w.heap.size w w7 := hl6.trans (hb7.mono hl6.size)
    have hB7 : B ≤ w7.heap.size := Nat.le_trans hB6 hb7.size
    have Hr7 := Lib.hid hr7
    clear hl6 hb7 HG6 HX6 HS6 hX6 hB6 HA6 hr7
    have hX7 := HX7.out.2.1
    go_wp2_with fail
    refine (eqEventS_same _ _ l0 _ (HX7.out.1.wide fun b hb' => by subst hb'; exact hX7) Hr7.out (by omega)).mono ?_
    rintro e w8 ⟨rfl, hb8⟩
    have HG8 := Lib.hid (HG7.out.below hb8 (Nat.le_refl _))
    have HF8 := Lib.hid (HX7.out.2.below hb8 hX7)
    have HS8 := Lib.hid (HS7.out.under (hb8.mono (Nat.le_of_lt hX7)))
    have hl8 : Below w.heap.size w w8 := hl7.trans (hb8.mono hl7.size)
    have hB8 : B ≤ w8.heap.size := Nat.le_trans hB7 hb8.size
    clear hl7 hb8 HG7 HX7 HS7 hX7 hB7 Hr7
    go_wp2_with fail
    refine (markEvs_any gX l0.length _ 1 _ HF8.out (by omega) (by omega)).mono ?_
    rintro e w9 ⟨rfl, hm9, hf9, hg9⟩
    have hbX : Below gX w8 w9 := grown_below hg9 (Nat.le_refl _) (by omega)
    have HG9 := Lib.hid (HG8.out.kept hg9 (by
      cases hv : (Value.slice aG r.length cG).ownBlock with
      | none => exact .inl rfl
      | some k => exact .inr fun e => by have := (HG8.out.lt k hv).1; have := Option.some.inj e; omega))
    have HS9 := Lib.hid (HS8.out.under hbX)
    have hl9 : Below w.heap.size w w9 := hl8.trans (hbX.mono hwX)
    have hB9 : B ≤ w9.heap.size := Nat.le_trans hB8 hg9.size
    clear hl8 hbX HG8 HS8 hB8 HF8 hm9 hf9 hg9
    have hp9 : decide (1 + 7 * (l0.length : Int) < 0) = false := decide_eq_false (by omega)
    have hX9 : gX < w9.heap.size := by omega
    go_wp2_with fail
    refine (eqEventS_same _ _ r _ HG9.out.evsAll (HS9.out.wide fun b hb' => Nat.lt_trans hb' hX9) (by omega)).mono ?_
    rintro e w10 ⟨rfl, hb10⟩
    have HG10 := Lib.hid (HG9.out.below hb10 (Nat.le_refl _))
    have HS10 := Lib.hid (HS9.out.under (hb10.mono (by omega)))
    have hl10 : Below w.heap.size w w10 := hl9.trans (hb10.mono hl9.size)
    have hB10 : B ≤ w10.heap.size := Nat.le_trans hB9 hb10.size
    clear hl9 hb10 HG9 HS9 hB9 hp9 hX9
    go_wp2_with fail
    refine (markOwn_any _ HG10.out hB10 (by omega)).mono ?_
    rintro e w11 ⟨rfl, hm11, hb11⟩
    have HM11 := Lib.hid hm11
    have HS11 := Lib.hid (HS10.out.under (hb11.mono (by omega)))
    have hl11 : Below w.heap.size w w11 := hl10.trans (hb11.mono (by omega))
    have hB11 : B ≤ w11.heap.size := Nat.le_trans hB10 hb11.size
    clear hl10 hb11 HG10 HS10 hB10 hm11
    obtain ⟨M, hM⟩ : ∃ M : Int, 1 + 7 * (r.length : Int) = M := ⟨_, rfl⟩
    have HM := Lib.hid hM
    have hp : decide (M < 0) = false := decide_eq_false (by omega)
    rw [hM]
    clear hM
    go_wp2_with fail
    refine (heldOwn_any _ HM11.out (by omega)).mono ?_
    rw [HM.out]
    rintro e w12 ⟨rfl, hb12⟩
    have HM12 := Lib.hid (HM11.out.below hb12)
    have HS12 := Lib.hid (HS11.out.under (hb12.mono (by omega)))
    have hl12 : Below w.heap.size w w12 := hl11.trans (hb12.mono hl11.size)
    have HA12 := Lib.hid (HA.out.grow hl12 (Nat.le_refl _))
    have hB12 : B ≤ w12.heap.size := Nat.le_trans hB11 hb12.size
    clear hl11 hb12 HM11 HS11 hB11
    go_wp2_with fail
    refine (toEventS_own _ l0 _ HA12.out hsm).mono ?_
    rintro e w13 ⟨rfl, hr13, hf13, hb13⟩
    have HM13 := Lib.hid (HM12.out.below hb13)
    have HS13 := Lib.hid (HS12.out.under (hb13.mono (by omega)))
    have hl13 : Below w.heap.size w w13 := hl12.trans (hb13.mono hl12.size)
    have hB13 : B ≤ w13.heap.size := Nat.le_trans hB12 hb13.size
    have Hr13 : Hid (EvsAt w13 (· < w13.heap.size) _ l0) := Lib.hid (hr13.wide fun b hb' => by subst hb'; exact hf13.1)
    generalize w12.heap.size = g13 at Hr13 ⊢
    clear hl12 hb13 HM12 HS12 hB12 HA12 hr13 hf13
    go_wp2_with fail
    refine (HI.out _ _ Hr13.out (.inr ⟨_, _, _, rfl⟩)).mono ?_
    rintro e w14 ⟨aH, cH, rfl, hH, hb14⟩
    have HM14 := Lib.hid (HM13.out.below hb14)
    have HS14 := Lib.hid (HS13.out.under (hb14.mono (by omega)))
    have hl14 : Below w.heap.size w w14 := hl13.trans (hb14.mono hl13.size)
    have hB14 : B ≤ w14.heap.size := Nat.le_trans hB13 hb14.size
    have HH := Lib.hid hH.evsAll
    clear hl13 hb14 HM13 HS13 hB13 hH Hr13
    have hX14 : gX < w14.heap.size := by omega
    go_wp2_with fail
    refine (eqEventS_same _ _ r _ HH.out (HS14.out.wide fun b hb' => Nat.lt_trans hb' hX14) (by omega)).mono ?_
    rintro e w15 ⟨rfl, hb15⟩
    have HM15 := Lib.hid (HM14.out.below hb15)
    have hl15 : Below w.heap.size w w15 := hl14.trans (hb15.mono hl14.size)
    clear hl14 hb15 HM14 HS14 hB14 HH hX14
    go_wp2_with fail
    refine (heldOwn_any _ HM15.out (by omega)).mono ?_
    rw [HM.out]
    rintro e w16 ⟨rfl, hb16⟩
    have hl16 : Below w.heap.size w w16 := hl15.trans (hb16.mono hl15.size)
    clear hl15 hb16 HM15
    go_wp2_with fail
    go_ret
    exact ⟨rfl, hl16⟩

set_option maxHeartbeats 1000000 in
set_option maxRecDepth 100000 in
theorem lifted (os : Os) (started : os.Started) (H : Type) (enc : TypeId × Value → H) :
    ReturnsInHanded {} Try.checked os 7 .any (Rows.fnExactShatteredSpec.pre6 enc Try.prog Try.f7 Rows.fnExactShatteredRow.domain false) (Rows.fnExactShatteredSpec.post enc Try.prog Try.f7 false true false false) := by
  refine returnsInHanded_of_change (C := Try.checked) own started (by kernel_rfl) Try.func7
    (ChangeSpec.witness6 (enc := enc) (C := Try.checked) false ⟨#[], #[.slice none 0 0, .int .i64 0], []⟩ 8 (by kernel_rfl) (by kernel_rfl) (by kernel_rfl) (by kernel_rfl)) ?_
  intro W base args ds gs before hval0 hW hcnd _
  have hval : ∀ (j : Nat) t v, Try.f7.params[j]? = some t → args[j]? = some v → Value.okWide Try.prog W .any base t v := hval0
  have hW' := hW
  obtain ⟨p, q, hA0, hV, rfl, hfz, hnd⟩ := hW
  have hA : DataW.TrodAll enc Try.prog W 0 (fun _ => true) true Try.f7.params.toList args.toList ds p := hA0
  have hAk := hA
  rw [Try.params7] at hA hval
  obtain ⟨v0, vs0, d0, ds0, p0, q0, hargs, rfl, rfl, h0, r0⟩ := trodAll_cons hA
  obtain ⟨v1, vs1, d1, ds1, p1, q1, rfl, rfl, rfl, h1, r1⟩ := trodAll_cons r0
  obtain ⟨rfl, rfl, rfl⟩ := trodAll_nil r1
  obtain rfl : args = #[v0, v1] := by cases args; simp_all
  obtain ⟨rfl, rfl⟩ := trodVars_none hV
  obtain ⟨a0, c0, l0, rfl, H0, W0, M0⟩ := Num.open_events (hval 0 37 v0 rfl rfl) h0
  obtain ⟨a1, rfl, rfl, rfl, w1⟩ := open_int Try.underlying3 (hval 1 3 v1 rfl rfl) h1
  clear hA0 hval0
  refine (walk W a0 c0 l0 H0 W0 M0 a1 w1).mono fun e W' ⟨he, hg⟩ => ?_
  subst he
  exact ⟨_, rfl, _, _, _, [], _, [], hW', (trodAll_cons_mk (shut_bool Try.underlying4 _) trodAll_mk0), Num.args_again (by rw [Try.params7]; decide) hAk hg, rfl, hg.frame _, fun h => by cases h⟩

theorem over : Rows.fnExactShatteredRow.holds Try.pinned (OpenSpec.ofChange Rows.fnExactShatteredSpec) :=
  OpenClaim.holds_of_wide 7 Try.f7 rfl rfl rfl rfl rfl rfl rfl ⟨rfl, rfl, rfl, rfl, rfl⟩ rfl rfl rfl rfl rfl (by kernel_rfl) Try.func7 (by kernel_rfl)
    (of_decide_eq_true (by kernel_rfl)) (by unfold Func.isWrapper; first | (rw [if_pos (by decide +kernel)]; kernel_rfl) | (rw [if_neg (by decide +kernel)]; exact ⟨rfl, rfl⟩))
    (fun os started H enc _ => lifted os started H enc)

theorem proved : Rows.FnExactShatteredSaid :=
  over
end Go.Proofs.Yteplmjlllnbiiaa.fnExactShattered
