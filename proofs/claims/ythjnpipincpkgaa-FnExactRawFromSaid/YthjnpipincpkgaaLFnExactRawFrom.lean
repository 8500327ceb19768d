/-
  For every schema, laws.FnExactRawFrom returns true: the program's RawFrom answers as the reference's, the schema is left as it was, and the answer's memory is its own. No condition.
-/
import Derived.Test.YthjnpipincpkgaaRows
import Derived.WalkKit
import Derived.ProofKit
import Derived.OpenShut
import Derived.ShutString
import Derived.Below
import Derived.ChangeOld
import Derived.Lib.SmallJoins
import Derived.Test.YthjnpipincpkgaaFrame
import Derived.Test.YthjnpipincpkgaaRawFromI
import Derived.Test.YthjnpipincpkgaaTwoSch
import Derived.Test.YthjnpipincpkgaaEqRaw
import Derived.Test.YthjnpipincpkgaaMarkRaw
import Derived.Test.YthjnpipincpkgaaMarkSch
import Derived.Test.YthjnpipincpkgaaOpenSch
namespace Go.Proofs.Ythjnpipincpkgaa.fnExactRawFrom
open Go.ChangeShapes Go.WideShapes Go.ChangeAt Go.RowKit Go.Joins
open Go.ChangeMaps (open_string shut_string)
set_option linter.unusedVariables false

theorem own : ownKnob Try.prog.godebug = none := by kernel_rfl
theorem cells41 : Try.prog.cellsOf 41 = 1 := by kernel_rfl
attribute [local go_sem] Region.wanted yielded
open Num in
set_option maxHeartbeats 8000000 in
set_option maxRecDepth 100000 in
theorem walk (w : World) (y0 : Value) (t0 : List Num.RM) (H0 : Num.MsgsAt w (· < w.heap.size) y0 t0) (M0 : Num.inMem t0) :
    Calls Try.prog 6 #[.agg #[y0]] w fun e w' => e = .returned (.bool true) ∧ Below w.heap.size w w' := by
  have h0 := H0
  clear H0
  obtain ⟨a, cap, rfl⟩ := h0.len
  have G0 := Lib.hid h0
  have M0 := Lib.hid M0
  clear h0
  go_enter Try.func6, Try.ntmps6
  go_wp2_with fail
  have hl : Below w.heap.size w (w.alloc (.cells #[.slice a t0.length cap] 41)) := (Below.refl _ _).alloc (Nat.le_refl _) _
  have hA : Holds (w.alloc (.cells #[.slice a t0.length cap] 41)) w.heap.size w.heap.size (.slice a t0.length cap) t0 :=
    ⟨Box.fresh _ _ _, (show RawAt w (· < w.heap.size) _ t0 from ⟨_, rfl, G0.out⟩).below hl fun _ h => h, by simp, hl.size, a, cap, rfl⟩
  generalize w.alloc (.cells #[.slice a t0.length cap] 41) = w1 at hl hA ⊢
  have HA := Lib.hid hA
  clear hA G0
  refine (Sch.szRaw_any _ t0 1048576 _ HA.out.raw M0.out (by omega) (by omega)).mono ?_
  rintro e w2 ⟨x, rfl, hx0, hx1, hx, hb2⟩
  have hl2 := hl.trans (hb2.mono hl.size)
  have HA2 := Lib.hid (HA.out.all hb2)
  have Hx := Lib.hid hx
  clear hl hb2 HA hx
  obtain ⟨c0, _⟩ := HA2.out.one
  by_cases hneg : x < 0
  · go_wp2_with fail
    go_ret
    exact ⟨rfl, hl2⟩
  · have hneg2 : decide (x < 0) = false := decide_eq_false hneg
    have S0 := Lib.hid (Hx.out (by omega))
    have S1 := Lib.hid (small_rawFrom S0.out)
    clear hneg Hx hx0 hx1
    go_wp2_with fail
    -- w0
    refine (Sch.toRaw_held HA2.out S0.out).mono ?_
    rintro e w3 ⟨p, pc, rfl, hr3, hb3⟩
    have hl3 := hl2.trans (hb3.mono hl2.size)
    have HA3 := Lib.hid (HA2.out.all hb3)
    clear hl2 hb3 HA2 c0
    obtain ⟨c0, _⟩ := HA3.out.one
    go_wp2_with fail
    refine (specRawFrom_any _ t0 _ hr3 S0.out).mono ?_
    rintro e w4 ⟨u4, rfl, hu4, hb4⟩
    obtain ⟨y4, rfl, hy4⟩ := hu4
    obtain ⟨ya, yc, rfl⟩ := hy4.len
    have hl4 := hl3.trans (hb4.mono hl3.size)
    have HA4 := HA3.out.all hb4
    have hW5 := Holds.fresh 49 ((show RawAt w4 _ _ _ from ⟨_, rfl, hy4⟩).keep (fun _ _ _ => rfl) fun b hb' => hb'.2)
    have hb5 : Below w4.heap.size w4 (w4.alloc (.cells #[.slice ya (rawFromR t0).length yc] 49)) := (Below.refl _ _).alloc (Nat.le_refl _) _
    have HA5 := Lib.hid (HA4.all hb5)
    have HW5 := Lib.hid hW5
    have hl5 := hl4.trans (hb5.mono hl4.size)
    have hz5 : (w4.alloc (.cells #[.slice ya (rawFromR t0).length yc] 49)).heap.size = w4.heap.size + 1 := by simp
    have hA4 := HA4.2.2.1
    clear c0
    obtain ⟨c0, _⟩ := HA4.one
    clear hl3 HA3 hr3 hl4 HA4 hb4 hb5 hy4 hW5
    go_wp2_with fail
    clear c0
    generalize w4.alloc (.cells #[.slice ya (rawFromR t0).length yc] 49) = w5 at HA5 HW5 hl5 hz5 ⊢
    generalize w4.heap.size = gW at HW5 hz5 hA4 ⊢
    obtain ⟨c0, _⟩ := HA5.out.one
    -- x0
    refine (Sch.toRaw_own _ t0 _ HA5.out.raw S0.out).mono ?_
    rintro e w6 ⟨vx, mx, hpx, rfl, hox, hb6⟩
    obtain ⟨xa, xc, rfl⟩ := hox.at_.len
    rw [show (plain mx).length = t0.length by rw [hpx]] at hox ⊢
    have hz6 := hb6.size
    have HA6 := HA5.out.all hb6
    have HW6 := HW5.out.all hb6
    have hl6 := hl5.trans (hb6.mono hl5.size)
    have hb7 : Below w6.heap.size w6 (w6.alloc (.cells #[.slice xa t0.length xc] 26)) := (Below.refl _ _).alloc (Nat.le_refl _) _
    have HA7 := Lib.hid (HA6.all hb7)
    have HW7 := Lib.hid (HW6.all hb7)
    have HX7 := Lib.hid (Box.fresh w6 #[.slice xa t0.length xc] 26)
    have HO7 := Lib.hid (hox.below hb7 (Nat.le_refl _))
    have hl7 := hl6.trans (hb7.mono hl6.size)
    have hz7 : (w6.alloc (.cells #[.slice xa t0.length xc] 26)).heap.size = w6.heap.size + 1 := by simp
    have hgx : w.heap.size < w5.heap.size := by have := HA5.out.2.2.1; omega
    have hgw : gW < w5.heap.size := by omega
    clear hl5 HA5 HW5 hox hb6 HA6 HW6 hl6 hb7 c0 hA4 hz5
    go_wp2_with fail
    generalize w6.alloc (.cells #[.slice xa t0.length xc] 26) = w7 at HA7 HW7 HX7 HO7 hl7 hz7 ⊢
    generalize w6.heap.size = gX at HX7 HO7 hz7 hz6 ⊢
    generalize w5.heap.size = loX at HO7 hgx hgw hz6
    obtain ⟨c0, _⟩ := HX7.out.one
    -- g0
    have HR7 : Hid (RawAt w7 (· < w7.heap.size) (.agg #[.slice xa t0.length xc]) t0) := Lib.hid (by
      have := HO7.out.raw; rw [hpx] at this; exact this.keep (fun _ _ _ => rfl) fun b hb => by omega)
    refine (implRawFrom_any _ t0 _ HR7.out S0.out).mono ?_
    rintro e w8 ⟨vg, mg, hpg, rfl, hog, hb8⟩
    obtain ⟨ga, gc, rfl⟩ := hog.at_.len
    rw [show (plain mg).length = (rawFromR t0).length by rw [hpg]] at hog ⊢
    have hz8 := hb8.size
    have HA8 := HA7.out.all hb8
    have HW8 := HW7.out.all hb8
    have HX8 := HX7.out.below hb8 HX7.out.lt
    have HO8 := HO7.out.below hb8 (by omega)
    have hl8 := hl7.trans (hb8.mono hl7.size)
    have hb9 : Below w8.heap.size w8 (w8.alloc (.cells #[.slice ga (rawFromR t0).length gc] 49)) := (Below.refl _ _).alloc (Nat.le_refl _) _
    have HA9 := Lib.hid (HA8.all hb9)
    have HW9 := Lib.hid (HW8.all hb9)
    have HX9 := Lib.hid (HX8.below hb9 HX8.lt)
    have HO9 := Lib.hid (HO8.below hb9 (by omega))
    have HG9 := Lib.hid (Box.fresh w8 #[.slice ga (rawFromR t0).length gc] 49)
    have HQ9 := Lib.hid (hog.below hb9 (Nat.le_refl _))
    have hl9 := hl8.trans (hb9.mono hl8.size)
    have hz9 : (w8.alloc (.cells #[.slice ga (rawFromR t0).length gc] 49)).heap.size = w8.heap.size + 1 := by simp
    clear c0
    obtain ⟨c0, _⟩ := HW8.one
    have hW8 := HW8.2.2.1
    clear hl7 HA7 HW7 HX7 HO7 HR7 hog hb8 HA8 HW8 HX8 HO8 hl8 hb9
    go_wp2_with fail
    clear c0 hW8
    generalize w8.alloc (.cells #[.slice ga (rawFromR t0).length gc] 49) = w9 at HA9 HW9 HX9 HO9 HG9 HQ9 hl9 hz9 ⊢
    generalize w8.heap.size = gG at HG9 HQ9 hz9 hz8 ⊢
    rw [hz7] at HQ9 hz8
    clear hz7
    -- g0 == w0
    obtain ⟨c0, _⟩ := HG9.out.one
    obtain ⟨d0, _⟩ := HW9.out.one
    have HR9 : Hid (∀ wx : World, OwnIn wx (gX + 1) gG (.slice ga (rawFromR t0).length gc) mg → gG ≤ wx.heap.size → RawAt wx (· < wx.heap.size) (.agg #[.slice ga (rawFromR t0).length gc]) (rawFromR t0)) := Lib.hid fun wx h hw => by
      have := h.raw; rw [hpg] at this; exact this.keep (fun _ _ _ => rfl) fun b hb => by omega
    refine (eqRaw_same _ _ (rawFromR t0) _ (HR9.out _ HQ9.out (by omega)) HW9.out.raw S1.out).mono ?_
    rintro e w10 ⟨rfl, hb10⟩
    have HA10 := Lib.hid (HA9.out.all hb10)
    have HW10 := Lib.hid (HW9.out.all hb10)
    have HX10 := Lib.hid (HX9.out.below hb10 HX9.out.lt)
    have HO10 := Lib.hid (HO9.out.below hb10 (by omega))
    have HG10 := Lib.hid (HG9.out.below hb10 HG9.out.lt)
    have HQ10 := Lib.hid (HQ9.out.below hb10 (by omega))
    have hl10 := hl9.trans (hb10.mono hl9.size)
    have hz10 : gG + 1 ≤ w10.heap.size := by have := hb10.size; omega
    clear hl9 HA9 HW9 HX9 HO9 HG9 HQ9 hb10 c0 d0 hz9
    go_upto_region 10 with fail
    -- x0 is as it was
    obtain ⟨c0, _⟩ := HA10.out.one
    obtain ⟨d0, _⟩ := HX10.out.one
    go_cut [31] from 27 to 31 (fun s wx => s = .bool false ∧ Hid (Holds wx w.heap.size w.heap.size (.slice a t0.length cap) t0) ∧ Hid (Holds wx gW gW (.slice ya (rawFromR t0).length yc) (rawFromR t0)) ∧ Hid (Box wx gX [.slice xa t0.length xc]) ∧ Hid (OwnIn wx loX gX (.slice xa t0.length xc) mx) ∧ Hid (Box wx gG [.slice ga (rawFromR t0).length gc]) ∧ Hid (OwnIn wx (gX + 1) gG (.slice ga (rawFromR t0).length gc) mg) ∧ gG + 1 ≤ wx.heap.size ∧ Below w.heap.size w wx)
    case first =>
      go_region_with (first
        | (go_at_call 19; refine (Sch.toRaw_held HA10.out.drew S0.out).mono ?_; rintro e w12 ⟨ka, kc, rfl, hr12, hb12⟩; have HA12 := HA10.out.drew.all hb12; have HW12 := HW10.out.drew.all hb12; have HX12 := HX10.out.drew.below hb12 HX10.out.lt; have HO12 := HO10.out.drew.below hb12 (by show gX ≤ w10.heap.size; omega); have HG12 := HG10.out.drew.below hb12 HG10.out.lt; have HQ12 := HQ10.out.drew.below hb12 (by show gG ≤ w10.heap.size; omega); have hl12 := hl10.drew.trans (hb12.mono hl10.size); have hz12 : gG + 1 ≤ w12.heap.size := Nat.le_trans hz10 hb12.size; obtain ⟨d1, _⟩ := HX12.one; have HR12 : RawAt w12 (· < w12.heap.size) (.agg #[.slice xa t0.length xc]) t0 := (by have h := HO12.raw; rw [hpx] at h; exact h.keep (fun _ _ _ => rfl) fun b hb => by omega))
        | (go_at_call 20; refine (Sch.eqRaw_same _ _ t0 _ HR12 hr12 S0.out).mono ?_; rintro e w13 ⟨rfl, hb13⟩; have HA13 := Lib.hid (HA12.all hb13); have HW13 := Lib.hid (HW12.all hb13); have HX13 := Lib.hid (HX12.below hb13 HX12.lt); have HO13 := Lib.hid (HO12.below hb13 (by omega)); have HG13 := Lib.hid (HG12.below hb13 HG12.lt); have HQ13 := Lib.hid (HQ12.below hb13 (by omega)); have hl13 := hl12.trans (hb13.mono hl12.size); have hz13 : gG + 1 ≤ w13.heap.size := Nat.le_trans hz12 hb13.size))
      all_goals
        go_wp2_with fail
        go_meet
        exact ⟨rfl, HA13, HW13, HX13, HO13, HG13, HQ13, hz13, hl13⟩
    case rest =>
    obtain ⟨rfl, HA, HW, HX, HO, HG, HQ, hz, hl⟩ := hcut
    clear HA10 HW10 HX10 HO10 HG10 HQ10 hz10 hl10 c0 d0
    obtain ⟨c0, _⟩ := HX.out.one
    have smX := Lib.hid (small_own hpx S0.out)
    have smG := Lib.hid (small_own hpg S1.out)
    -- marks on x0
    go_wp2_with fail
    refine (Sch.markRaw_any _ mx 1 _ HO.out (by omega) smX.out.1 smX.out.2 (by omega)).mono ?_
    rintro e w14 ⟨rfl, _, hzn⟩
    obtain ⟨K, hK⟩ : ∃ K, kAt 1 mx mx.length = K := ⟨_, rfl⟩
    have hK0 : decide (K < 0) = false := decide_eq_false (by have := kAt_le (k := 1) smX.out.2 mx.length (Nat.le_refl _); omega)
    rw [hK]
    have HA14 := Lib.hid (HA.out.zone hzn (by omega) (by omega))
    have HW14 := Lib.hid (HW.out.zone hzn (by omega) (by omega))
    have HG14 := Lib.hid (HG.out.zone hzn (by omega))
    have HQ14 := Lib.hid (HQ.out.zone hzn (.inr (by omega)) (by omega))
    have hl14 := hl.trans ((hzn.below (B := w.heap.size) (by omega) (by omega)))
    have hz14 : gG + 1 ≤ w14.heap.size := Nat.le_trans hz hzn.size
    clear HA HW HX HO HG HQ hz hl c0 hzn hK smX
    obtain ⟨c0, _⟩ := HG14.out.one
    obtain ⟨d0, _⟩ := HW14.out.one
    go_wp2_with fail
    refine (eqRaw_same _ _ (rawFromR t0) _ (HR9.out _ HQ14.out (by omega)) HW14.out.raw S1.out).mono ?_
    rintro e w15 ⟨rfl, hb15⟩
    have HA15 := Lib.hid (HA14.out.all hb15)
    have HW15 := Lib.hid (HW14.out.all hb15)
    have HG15 := Lib.hid (HG14.out.below hb15 HG14.out.lt)
    have HQ15 := Lib.hid (HQ14.out.below hb15 (by omega))
    have hl15 := hl14.trans (hb15.mono hl14.size)
    have hz15 : gG + 1 ≤ w15.heap.size := Nat.le_trans hz14 hb15.size
    clear HA14 HW14 HG14 HQ14 hl14 hz14 hb15 c0 d0
    obtain ⟨c0, _⟩ := HG15.out.one
    -- marks on g0
    go_wp2_with fail
    refine (markRaw_any _ mg 1 _ HQ15.out (by omega) smG.out.1 smG.out.2 (by omega)).mono ?_
    rintro e w16 ⟨rfl, hmk, hzn⟩
    have Hk := Lib.hid (kAt_le (k := 1) smG.out.2 mg.length (Nat.le_refl _))
    have HA16 := Lib.hid (HA15.out.zone hzn (by omega) (by omega))
    have HW16 := Lib.hid (HW15.out.zone hzn (by omega) (by omega))
    have HG16 := Lib.hid (HG15.out.zone hzn (.inr (by omega)))
    have HM16 := Lib.hid hmk
    have hl16 := hl15.trans ((hzn.below (B := w.heap.size) (by omega) (by omega)))
    have hz16 : gG + 1 ≤ w16.heap.size := Nat.le_trans hz15 hzn.size
    clear HA15 HW15 HG15 HQ15 hl15 hz15 hzn hmk c0
    obtain ⟨c0, _⟩ := HG16.out.one
    go_wp2_with fail
    refine (heldRaw_any _ mg 1 _ HM16.out (by omega) smG.out.1 smG.out.2 (by omega)).mono ?_
    obtain ⟨M, hM⟩ : ∃ M, kAt 1 mg mg.length = M := ⟨_, rfl⟩
    have HMM := Lib.hid hM
    rw [hM]
    have hM0 : decide (M < 0) = false := decide_eq_false (by have := Hk.out; omega)
    have hMM : (M != M) = false := by simp
    have hMM2 : (M == M) = true := by simp
    clear hM
    rintro e w17 ⟨rfl, hb17⟩
    have HA17 := Lib.hid (HA16.out.all hb17)
    have HW17 := Lib.hid (HW16.out.all hb17)
    have HG17 := Lib.hid (HG16.out.below hb17 HG16.out.lt)
    have HM17 := Lib.hid (HM16.out.below hb17 (by omega))
    have hl17 := hl16.trans (hb17.mono hl16.size)
    have hz17 : gG + 1 ≤ w17.heap.size := Nat.le_trans hz16 hb17.size
    clear HA16 HW16 HG16 HM16 hl16 hz16 hb17 c0
    obtain ⟨c0, _⟩ := HA17.out.one
    -- h0
    go_wp2_with fail
    refine (Sch.toRaw_held HA17.out S0.out).mono ?_
    rintro e w18 ⟨ka, kc, rfl, hr18, hb18⟩
    have HW18 := Lib.hid (HW17.out.all hb18)
    have HG18 := Lib.hid (HG17.out.below hb18 HG17.out.lt)
    have HM18 := Lib.hid (HM17.out.below hb18 (by omega))
    have hl18 := hl17.trans (hb18.mono hl17.size)
    have hz18 : gG + 1 ≤ w18.heap.size := Nat.le_trans hz17 hb18.size
    clear HA17 HW17 HG17 HM17 hl17 hz17 hb18 c0
    go_wp2_with fail
    refine (implRawFrom_any _ t0 _ hr18 S0.out).mono ?_
    rintro e w19 ⟨vh, mh, hph, rfl, hoh, hb19⟩
    obtain ⟨ha, hc, rfl⟩ := hoh.at_.len
    rw [show (plain mh).length = (rawFromR t0).length by rw [hph]] at hoh ⊢
    have hb20 : Below w19.heap.size w19 (w19.alloc (.cells #[.slice ha (rawFromR t0).length hc] 49)) := (Below.refl _ _).alloc (Nat.le_refl _) _
    have HW20 := Lib.hid ((HW18.out.all hb19).all hb20)
    have hGb := HG18.out.below hb19 HG18.out.lt
    have HG20 := Lib.hid (hGb.below hb20 hGb.lt)
    have hMb := HM18.out.below hb19 (by omega)
    have hz19 : gG + 1 ≤ w19.heap.size := Nat.le_trans hz18 hb19.size
    have HM20 := Lib.hid (hMb.below hb20 (by omega))
    have HH20 := Lib.hid (Box.fresh w19 #[.slice ha (rawFromR t0).length hc] 49)
    have hoh2 := hoh.below hb20 (Nat.le_refl _)
    have hl20 := (hl18.trans (hb19.mono hl18.size)).trans (hb20.mono (by have := hl18.size; have := hb19.size; omega))
    have hz20 : w19.heap.size + 1 ≤ (w19.alloc (.cells #[.slice ha (rawFromR t0).length hc] 49)).heap.size := by simp
    have HR20 : Hid (RawAt (w19.alloc (.cells #[.slice ha (rawFromR t0).length hc] 49)) (· < (w19.alloc (.cells #[.slice ha (rawFromR t0).length hc] 49)).heap.size) (.agg #[.slice ha (rawFromR t0).length hc]) (rawFromR t0)) := Lib.hid (by
      have h := hoh2.raw; rw [hph] at h; exact h.keep (fun _ _ _ => rfl) fun b hb => by omega)
    obtain ⟨c0, _⟩ := (HW18.out.all hb19).one
    have hW19 := (HW18.out.all hb19).2.2.1
    clear HW18 HG18 HM18 hl18 hz18 hr18 hoh hb19 hb20 hGb hMb hoh2
    go_wp2_with fail
    clear c0 hW19
    generalize w19.alloc (.cells #[.slice ha (rawFromR t0).length hc] 49) = w20 at HW20 HG20 HM20 HH20 hl20 hz20 HR20 ⊢
    generalize w19.heap.size = gH at HH20 hz19 hz20 ⊢
    obtain ⟨c0, _⟩ := HH20.out.one
    obtain ⟨d0, _⟩ := HW20.out.one
    refine (eqRaw_same _ _ (rawFromR t0) _ HR20.out HW20.out.raw S1.out).mono ?_
    rintro e w21 ⟨rfl, hb21⟩
    have HG21 := Lib.hid (HG20.out.below hb21 HG20.out.lt)
    have HM21 := Lib.hid (HM20.out.below hb21 (by omega))
    have hl21 := hl20.trans (hb21.mono hl20.size)
    have hz21 : gG + 1 ≤ w21.heap.size := by have := hb21.size; omega
    clear HW20 HG20 HM20 HH20 hl20 HR20 hb21 c0 d0
    obtain ⟨c0, _⟩ := HG21.out.one
    go_wp2_with fail
    refine (heldRaw_any _ mg 1 _ HM21.out (by omega) smG.out.1 smG.out.2 (by omega)).mono ?_
    rw [HMM.out]
    rintro e w22 ⟨rfl, hb22⟩
    have hl22 := hl21.trans (hb22.mono hl21.size)
    go_wp2_with fail
    go_ret
    exact ⟨rfl, hl22⟩

set_option maxHeartbeats 1000000 in
set_option maxRecDepth 100000 in
theorem lifted (os : Os) (started : os.Started) (H : Type) (enc : TypeId × Value → H) :
    ReturnsInHanded {} Try.checked os 6 .any (Rows.fnExactRawFromSpec.pre6 enc Try.prog Try.f6 Rows.fnExactRawFromRow.domain false) (Rows.fnExactRawFromSpec.post enc Try.prog Try.f6 false true false false) := by
  refine returnsInHanded_of_change (C := Try.checked) own started (by kernel_rfl) Try.func6
    (ChangeSpec.witness6 (enc := enc) (C := Try.checked) false ⟨#[], #[.agg #[.slice none 0 0]], []⟩ 8 (by kernel_rfl) (by kernel_rfl) (by kernel_rfl) (by kernel_rfl)) ?_
  intro W base args ds gs before hval0 hW hcnd _
  have hval : ∀ (j : Nat) t v, Try.f6.params[j]? = some t → args[j]? = some v → Value.okWide Try.prog W .any base t v := hval0
  have hW' := hW
  obtain ⟨p, q, hA0, hV, rfl, hfz, hnd⟩ := hW
  have hA : DataW.TrodAll enc Try.prog W 0 (fun _ => true) true Try.f6.params.toList args.toList ds p := hA0
  have hAk := hA
  rw [Try.params6] at hA hval
  obtain ⟨v0, vs0, d0, ds0, p0, q0, hargs, rfl, rfl, h0, r0⟩ := trodAll_cons hA
  obtain ⟨rfl, rfl, rfl⟩ := trodAll_nil r0
  obtain rfl : args = #[v0] := by cases args; simp_all
  obtain ⟨rfl, rfl⟩ := trodVars_none hV
  obtain ⟨y0, t0, rfl, H0, M0⟩ := Num.Sch.open_raw (hval 0 41 v0 rfl rfl) h0
  clear hA0 hval0
  refine (walk W y0 t0 H0 M0).mono fun e W' ⟨he, hg⟩ => ?_
  subst he
  exact ⟨_, rfl, _, _, _, [], _, [], hW', (trodAll_cons_mk (shut_bool Try.underlying4 _) trodAll_mk0), Num.args_again (by rw [Try.params6]; decide) hAk hg, rfl, hg.frame _, fun h => by cases h⟩

theorem over : Rows.fnExactRawFromRow.holds Try.pinned (OpenSpec.ofChange Rows.fnExactRawFromSpec) :=
  OpenClaim.holds_of_wide 6 Try.f6 rfl rfl rfl rfl rfl rfl rfl ⟨rfl, rfl, rfl, rfl, rfl⟩ rfl rfl rfl rfl rfl (by kernel_rfl) Try.func6 (by kernel_rfl)
    (of_decide_eq_true (by kernel_rfl)) (by unfold Func.isWrapper; first | (rw [if_pos (by decide +kernel)]; kernel_rfl) | (rw [if_neg (by decide +kernel)]; exact ⟨rfl, rfl⟩))
    (fun os started H enc _ => lifted os started H enc)

theorem proved : Rows.FnExactRawFromSaid :=
  over
end Go.Proofs.Ythjnpipincpkgaa.fnExactRawFrom
