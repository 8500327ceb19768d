/-
  For every description, laws.FnExactCompile returns true: the program's Compile answers as the reference's, the description is left as it was, and the answer's memory is its own. No condition.
-/
import Derived.Test.YthjnpipincpkgaaGreatDoorRows
import Derived.WalkKit
import Derived.ProofKit
import Derived.OpenShut
import Derived.ShutString
import Derived.Below
import Derived.ChangeOld
import Derived.Lib.SmallJoins
import Derived.Test.YthjnpipincpkgaaGreatDoorFrame
import Derived.Test.YthjnpipincpkgaaGreatDoorCards
import Derived.Test.YthjnpipincpkgaaGreatDoorTie
import Derived.Deep.DeepHandedRow
import Derived.Lib.LaidTab
import Derived.LaidMore
import Derived.LaidHandle
import Derived.Stop.LaidErr
import Derived.Test.YthjnpipincpkgaaGreatDoorCompAll
import Derived.Test.YthjnpipincpkgaaGreatDoorCompOwn
import Derived.Test.YthjnpipincpkgaaGreatDoorComp
import Derived.Test.YthjnpipincpkgaaGreatDoorMarkAll
import Derived.Test.YthjnpipincpkgaaGreatDoorErrType
import Derived.Deep.DeepCutAuto
namespace Go.Proofs.YthjnpipincpkgaaGreatDoor.fnExactCompile
open Go.ChangeShapes Go.WideShapes Go.ChangeAt Go.RowKit Go.Joins
open Go.ChangeMaps (open_string shut_string)
set_option linter.unusedVariables false

theorem own : ownKnob Tryz.prog.godebug = none := by kernel_rfl
theorem cells57 : Tryz.prog.cellsOf 57 = 1 := by kernel_rfl
attribute [local go_sem] Region.wanted yielded
open Num in
theorem eqViol_same (a b c : Int) (w : World) : Calls Tryz.prog 25 #[.agg #[.int .i64 a, .int .i64 b, .int .i64 c], .agg #[.int .i64 a, .int .i64 b, .int .i64 c]] w fun e w' => e = .returned (.bool true) ∧ Below w.heap.size w w' := by
  go_enter Tryz.func25, Tryz.ntmps25
  go_wp2_with fail
  go_ret
  refine ⟨rfl, ?_⟩
  repeat (first | exact Below.refl _ _ | refine Below.setCell ?_ (by simp) _ | refine Below.alloc ?_ (by simp <;> omega) _)
open Num in
set_option maxHeartbeats 8000000 in
set_option maxRecDepth 100000 in
theorem walk (w : World) (y0 : Value) (t0 : List Num.RM) (H0 : Num.MsgsAt w (· < w.heap.size) y0 t0) (M0 : Num.inMem t0) (hE : Num.ErrType w) :
    Calls Tryz.prog 5 #[.agg #[y0]] w fun e w' => e = .returned (.bool true) ∧ Below w.heap.size w w' := by
  have HE := Lib.hid hE
  clear hE
  have h0 := H0
  clear H0
  obtain ⟨a, cap, rfl⟩ := h0.len
  have G0 := Lib.hid h0
  have M0 := Lib.hid M0
  clear h0
  go_enter Tryz.func5, Tryz.ntmps5
  go_wp2_with fail
  have hl : Below w.heap.size w (w.alloc (.cells #[.slice a t0.length cap] 57)) := (Below.refl _ _).alloc (Nat.le_refl _) _
  have hA : Holds (w.alloc (.cells #[.slice a t0.length cap] 57)) w.heap.size w.heap.size (.slice a t0.length cap) t0 :=
    ⟨Box.fresh _ _ _, (show RawAt w (· < w.heap.size) _ t0 from ⟨_, rfl, G0.out⟩).below hl fun _ h => h, by simp, hl.size, a, cap, rfl⟩
  generalize w.alloc (.cells #[.slice a t0.length cap] 57) = w1 at hl hA ⊢
  have HA := Lib.hid hA
  clear hA G0
  refine (szRaw_any _ t0 1048576 _ HA.out.raw M0.out (by omega) (by omega)).mono ?_
  rintro e w2 ⟨x, rfl, hx0, hx1, hx, hb2⟩
  have hl2 := hl.trans (hb2.mono hl.size)
  have HA2 := Lib.hid (HA.out.all hb2)
  have Hx := Lib.hid hx
  clear hl hb2 HA hx
  obtain ⟨c0, _⟩ := HA2.out.one
  by_cases hneg : x < 0
  · go_wp2_with fail
    go_ret
    exact ⟨rfl, hl2⟩
  · have hneg2 : decide (x < 0) = false := decide_eq_false hneg
    have S0 := Lib.hid (Hx.out (by omega))
    clear hneg Hx hx0 hx1
    go_wp2_with fail
    -- w0, w1
    refine (toRaw_held HA2.out S0.out).mono ?_
    rintro e w3 ⟨p, pc, rfl, hr3, hb3⟩
    have hl3 := hl2.trans (hb3.mono hl2.size)
    have HA3 := Lib.hid (HA2.out.all hb3)
    clear hl2 hb3 HA2 c0
    obtain ⟨c0, _⟩ := HA3.out.one
    go_wp2_with fail
    refine (specCompile_any _ t0 _ hr3 S0.out).mono ?_
    rintro e w4 ⟨⟨F1, F2, F3⟩, u4, hcomp, rfl, hb4⟩
    obtain ⟨hf, m4, hp4, ho4⟩ := hcomp.own
    have Hf := Lib.hid hf
    obtain ⟨ya, yc, rfl⟩ := ho4.at_.len
    have S1 := Lib.hid (small_res (f := (F1, F2, F3)) S0.out)
    obtain ⟨R, hR⟩ : ∃ R, resS t0 (F1, F2, F3) = R := ⟨_, rfl⟩
    have HR := Lib.hid hR
    rw [hR] at hp4 S1
    rw [show (plain m4).length = R.length by rw [hp4]] at ho4 ⊢
    unfold violV
    have hl4 := hl3.trans (hb4.mono hl3.size)
    have HA4 := HA3.out.all hb4
    have hu4 : RawAt w4 (· < w4.heap.size) (.agg #[.slice ya R.length yc]) R := by
      have h := ho4.raw; rw [hp4] at h; exact h.keep (fun _ _ _ => rfl) fun b hb => hb.2
    have hb5 : Below w4.heap.size w4 ((w4.alloc (.cells #[.slice ya R.length yc] 30)).alloc (.cells #[.int .i64 F1, .int .i64 F2, .int .i64 F3] 32)) := ((Below.refl _ _).alloc (Nat.le_refl _) _).alloc (by simp) _
    have hW5 : Holds ((w4.alloc (.cells #[.slice ya R.length yc] 30)).alloc (.cells #[.int .i64 F1, .int .i64 F2, .int .i64 F3] 32)) w4.heap.size w4.heap.size (.slice ya R.length yc) R :=
      (Holds.fresh 30 hu4).all ((Below.refl _ _).alloc (Nat.le_refl _) _)
    have hV5 : Box ((w4.alloc (.cells #[.slice ya R.length yc] 30)).alloc (.cells #[.int .i64 F1, .int .i64 F2, .int .i64 F3] 32)) (w4.heap.size + 1) [.int .i64 F1, .int .i64 F2, .int .i64 F3] := by
      have h := Box.fresh (w4.alloc (.cells #[.slice ya R.length yc] 30)) #[.int .i64 F1, .int .i64 F2, .int .i64 F3] 32
      rwa [show (w4.alloc (.cells #[.slice ya R.length yc] 30)).heap.size = w4.heap.size + 1 by simp] at h
    have HA5 := Lib.hid (HA4.all hb5)
    have HW5 := Lib.hid hW5
    have HV5 := Lib.hid hV5
    have hl5 := hl4.trans (hb5.mono hl4.size)
    have hz5 : ((w4.alloc (.cells #[.slice ya R.length yc] 30)).alloc (.cells #[.int .i64 F1, .int .i64 F2, .int .i64 F3] 32)).heap.size = w4.heap.size + 2 := by simp
    have hA4 := HA4.2.2.1
    clear c0
    obtain ⟨c0, _⟩ := HA4.one
    clear hl3 HA3 hr3 hl4 HA4 hb4 hb5 hW5 hV5 hcomp hf ho4 hp4 hu4
    go_wp2_with fail
    clear c0
    generalize (w4.alloc (.cells #[.slice ya R.length yc] 30)).alloc (.cells #[.int .i64 F1, .int .i64 F2, .int .i64 F3] 32) = w5 at HA5 HW5 HV5 hl5 hz5 ⊢
    generalize w4.heap.size = gW at HW5 HV5 hz5 hA4 ⊢
    -- x0
    refine (toRaw_own _ t0 _ HA5.out.raw S0.out).mono ?_
    rintro e w6 ⟨vx, mx, hpx, rfl, hox, hb6⟩
    obtain ⟨xa, xc, rfl⟩ := hox.at_.len
    rw [show (plain mx).length = t0.length by rw [hpx]] at hox ⊢
    have hz6 := hb6.size
    have HA6 := HA5.out.all hb6
    have HW6 := HW5.out.all hb6
    have HV6 := HV5.out.below hb6 HV5.out.1
    have hl6 := hl5.trans (hb6.mono hl5.size)
    have hb7 : Below w6.heap.size w6 (w6.alloc (.cells #[.slice xa t0.length xc] 26)) := (Below.refl _ _).alloc (Nat.le_refl _) _
    have HA7 := Lib.hid (HA6.all hb7)
    have HW7 := Lib.hid (HW6.all hb7)
    have HV7 := Lib.hid (HV6.below hb7 HV6.1)
    have HX7 := Lib.hid (Box.fresh w6 #[.slice xa t0.length xc] 26)
    have HO7 := Lib.hid (hox.below hb7 (Nat.le_refl _))
    have hl7 := hl6.trans (hb7.mono hl6.size)
    have hz7 : (w6.alloc (.cells #[.slice xa t0.length xc] 26)).heap.size = w6.heap.size + 1 := by simp
    have hgx : w.heap.size < w5.heap.size := by omega
    have hgw : gW + 1 < w5.heap.size := by omega
    clear hl5 HA5 HW5 HV5 hox hb6 HA6 HW6 HV6 hl6 hb7 hA4 hz5
    go_wp2_with fail
    generalize w6.alloc (.cells #[.slice xa t0.length xc] 26) = w7 at HA7 HW7 HV7 HX7 HO7 hl7 hz7 ⊢
    generalize w6.heap.size = gX at HX7 HO7 hz7 hz6 ⊢
    generalize w5.heap.size = loX at HO7 hgx hgw hz6
    -- g0, g1
    have HR7 : Hid (RawAt w7 (· < w7.heap.size) (.agg #[.slice xa t0.length xc]) t0) := Lib.hid (by
      have := HO7.out.raw; rw [hpx] at this; exact this.keep (fun _ _ _ => rfl) fun b hb => by omega)
    refine (implCompile_any _ t0 _ HR7.out S0.out (HE.out.all hl7)).mono ?_
    rintro e w8 ⟨f8, u8, hcomp, rfl, hb8⟩
    obtain ⟨hf8, mg, hpg, hog⟩ := hcomp.own
    obtain rfl := hf8.one Hf.out
    obtain ⟨ga, gc, rfl⟩ := hog.at_.len
    rw [HR.out] at hpg
    rw [show (plain mg).length = R.length by rw [hpg]] at hog ⊢
    unfold violV
    have hz8 := hb8.size
    have HL9 : Hid (LC ((w8.alloc (.cells #[.slice ga R.length gc] 30)).alloc (.cells #[.int .i64 F1, .int .i64 F2, .int .i64 F3] 32)) w.heap.size gW loX gX w8.heap.size (.slice a t0.length cap) t0 (.slice ya R.length yc) R (.slice xa t0.length xc) mx (.slice ga R.length gc) mg F1 F2 F3) := by
      have hb9 : Below w8.heap.size w8 ((w8.alloc (.cells #[.slice ga R.length gc] 30)).alloc (.cells #[.int .i64 F1, .int .i64 F2, .int .i64 F3] 32)) := ((Below.refl _ _).alloc (Nat.le_refl _) _).alloc (by simp) _
      have hX8 := HX7.out.below hb8 HX7.out.1
      have hV8 := HV7.out.below hb8 HV7.out.1
      refine Lib.hid ⟨(HA7.out.all hb8).all hb9, (HW7.out.all hb8).all hb9, hV8.below hb9 hV8.1, hX8.below hb9 hX8.1, (HO7.out.below hb8 (by omega)).below hb9 (by omega), (Box.fresh _ _ _).alloc _, ?_, ?_, by simp; omega⟩
      · have h := Box.fresh (w8.alloc (.cells #[.slice ga R.length gc] 30)) #[.int .i64 F1, .int .i64 F2, .int .i64 F3] 32
        rwa [show (w8.alloc (.cells #[.slice ga R.length gc] 30)).heap.size = w8.heap.size + 1 by simp] at h
      · rw [← hz7]; exact hog.below hb9 (Nat.le_refl _)
    have hl9 : Below w.heap.size w ((w8.alloc (.cells #[.slice ga R.length gc] 30)).alloc (.cells #[.int .i64 F1, .int .i64 F2, .int .i64 F3] 32)) := ((hl7.trans (hb8.mono hl7.size)).alloc (by have := hl7.size; omega) _).alloc (by have := hl7.size; simp; omega) _
    obtain ⟨c0, _⟩ := (HW7.out.all hb8).one
    have hW8 := (HW7.out.all hb8).2.2.1
    clear HA7 HW7 HV7 HX7 HO7 hl7 HR7 hcomp hf8 hog hb8 hz7
    go_wp2_with fail
    clear c0 hW8
    generalize (w8.alloc (.cells #[.slice ga R.length gc] 30)).alloc (.cells #[.int .i64 F1, .int .i64 F2, .int .i64 F3] 32) = w9 at HL9 hl9 ⊢
    generalize w8.heap.size = gG at HL9 hz8 ⊢
    have HRG : Hid (∀ wx : World, OwnIn wx (gX + 1) gG (.slice ga R.length gc) mg → gG ≤ wx.heap.size → RawAt wx (· < wx.heap.size) (.agg #[.slice ga R.length gc]) R) := Lib.hid fun wx h hw => by
      have := h.raw; rw [hpg] at this; exact this.keep (fun _ _ _ => rfl) fun b hb => by omega
    have HRX : Hid (∀ wx : World, OwnIn wx loX gX (.slice xa t0.length xc) mx → gX ≤ wx.heap.size → RawAt wx (· < wx.heap.size) (.agg #[.slice xa t0.length xc]) t0) := Lib.hid fun wx h hw => by
      have := h.raw; rw [hpx] at this; exact this.keep (fun _ _ _ => rfl) fun b hb => by omega
    -- g0 == w0, g1 == w1
    refine (Sch.eqRaw_same _ _ R _ (HRG.out _ HL9.out.OG (by have := HL9.out.lt; omega)) HL9.out.W.raw S1.out).mono ?_
    rintro e w10 ⟨rfl, hb10⟩
    have HL10 := Lib.hid (HL9.out.below hb10)
    have hl10 := hl9.trans (hb10.mono hl9.size)
    clear HL9 hl9 hb10
    obtain ⟨d0, d1, d2, _⟩ := HL10.out.V.three
    obtain ⟨e0, e1, e2, _⟩ := HL10.out.U.three
    go_wp2_with fail
    refine (eqViol_same F1 F2 F3 _).mono ?_
    rintro e w11 ⟨rfl, hb11⟩
    have HL11 := Lib.hid (HL10.out.below hb11)
    have hl11 := hl10.trans (hb11.mono hl10.size)
    clear HL10 hl10 hb11 d0 d1 d2 e0 e1 e2
    go_upto_region 10 with fail
    -- x0 is as it was
    obtain ⟨c0, _⟩ := HL11.out.A.one
    obtain ⟨d0, _⟩ := HL11.out.X.one
    go_cut [46] from 42 to 46 (fun s wx => s = .bool false ∧ Hid (LC wx w.heap.size gW loX gX gG (.slice a t0.length cap) t0 (.slice ya R.length yc) R (.slice xa t0.length xc) mx (.slice ga R.length gc) mg F1 F2 F3) ∧ Below w.heap.size w wx)
    case first =>
      go_region_with (first
        | (go_at_call 23; refine (toRaw_held HL11.out.drew.A S0.out).mono ?_; rintro e w12 ⟨ka, kc, rfl, hr12, hb12⟩; have HL12 := HL11.out.drew.below hb12; have hl12 := hl11.drew.trans (hb12.mono hl11.size); obtain ⟨d1, _⟩ := HL12.X.one; have HR12 := HRX.out _ HL12.OX (by have := HL12.lt; omega))
        | (go_at_call 26; refine (eqRaw_same _ _ t0 _ HR12 hr12 S0.out).mono ?_; rintro e w13 ⟨rfl, hb13⟩; have HL13 := Lib.hid (HL12.below hb13); have hl13 := hl12.trans (hb13.mono hl12.size)))
      all_goals
        go_wp2_with fail
        go_meet
        exact ⟨rfl, HL13, hl13⟩
    case rest =>
    obtain ⟨rfl, HL, hl⟩ := hcut
    clear HL11 hl11 c0 d0
    obtain ⟨c0, _⟩ := HL.out.X.one
    have smX := Lib.hid (small_own hpx S0.out)
    have smG := Lib.hid (small_own hpg S1.out)
    -- marks on x0
    go_wp2_with fail
    refine (markRaw_any _ mx 1 _ HL.out.OX (by have := HL.out.lt; omega) smX.out.1 smX.out.2 (by omega)).mono ?_
    rintro e w14 ⟨rfl, _, hzn⟩
    obtain ⟨K, hK⟩ : ∃ K, kAt 1 mx mx.length = K := ⟨_, rfl⟩
    have hK0 : decide (K < 0) = false := decide_eq_false (by have := kAt_le (k := 1) smX.out.2 mx.length (Nat.le_refl _); omega)
    rw [hK]
    have HD14 := Lib.hid (HL.out.marked hzn)
    have hl14 := hl.trans ((hzn.below (B := w.heap.size) (by have := HL.out.lt; omega) (by have := HL.out.lt; omega)))
    clear HL hl c0 hzn hK smX
    obtain ⟨c0, _⟩ := HD14.out.G.one
    obtain ⟨d0, _⟩ := HD14.out.W.one
    go_wp2_with fail
    refine (Sch.eqRaw_same _ _ R _ (HRG.out _ HD14.out.OG (by have := HD14.out.lt; omega)) HD14.out.W.raw S1.out).mono ?_
    rintro e w15 ⟨rfl, hb15⟩
    have HD15 := Lib.hid (HD14.out.below hb15)
    have hl15 := hl14.trans (hb15.mono hl14.size)
    clear HD14 hl14 hb15 c0 d0
    obtain ⟨d0, d1, d2, _⟩ := HD15.out.V.three
    obtain ⟨e0, e1, e2, _⟩ := HD15.out.U.three
    go_wp2_with fail
    refine (eqViol_same F1 F2 F3 _).mono ?_
    rintro e w16 ⟨rfl, hb16⟩
    have HD16 := Lib.hid (HD15.out.below hb16)
    have hl16 := hl15.trans (hb16.mono hl15.size)
    clear HD15 hl15 hb16 d0 d1 d2 e0 e1 e2
    obtain ⟨c0, _⟩ := HD16.out.G.one
    -- marks on g0
    go_wp2_with fail
    refine (Sch.markRaw_any _ mg 1 _ HD16.out.OG (by have := HD16.out.lt; omega) smG.out.1 smG.out.2 (by omega)).mono ?_
    rintro e w17 ⟨rfl, hmk, hzn⟩
    have Hk := Lib.hid (kAt_le (k := 1) smG.out.2 mg.length (Nat.le_refl _))
    have HE17 := Lib.hid (HD16.out.marked hzn hmk)
    have hl17 := hl16.trans ((hzn.below (B := w.heap.size) (by have := HD16.out.lt; omega) (by have := HD16.out.lt; omega)))
    clear HD16 hl16 hzn hmk c0
    obtain ⟨c0, _⟩ := HE17.out.G.one
    go_wp2_with fail
    refine (Sch.heldRaw_any _ mg 1 _ HE17.out.OG (by have := HE17.out.lt; omega) smG.out.1 smG.out.2 (by omega)).mono ?_
    obtain ⟨M, hM⟩ : ∃ M, kAt 1 mg mg.length = M := ⟨_, rfl⟩
    have HMM := Lib.hid hM
    rw [hM]
    have hM0 : decide (M < 0) = false := decide_eq_false (by have := Hk.out; omega)
    have hMM : (M != M) = false := by simp
    have hMM2 : (M == M) = true := by simp
    clear hM
    rintro e w18 ⟨rfl, hb18⟩
    have HE18 := Lib.hid (HE17.out.below hb18)
    have hl18 := hl17.trans (hb18.mono hl17.size)
    clear HE17 hl17 hb18 c0
    obtain ⟨c0, _⟩ := HE18.out.A.one
    -- h0, h1
    go_wp2_with fail
    refine (toRaw_held HE18.out.A S0.out).mono ?_
    rintro e w19 ⟨ka, kc, rfl, hr19, hb19⟩
    have HE19 := Lib.hid (HE18.out.below hb19)
    have hl19 := hl18.trans (hb19.mono hl18.size)
    clear HE18 hl18 hb19 c0
    go_wp2_with fail
    refine (implCompile_any _ t0 _ hr19 S0.out (HE.out.all hl19)).mono ?_
    rintro e w20 ⟨f20, u20, hcomp, rfl, hb20⟩
    obtain ⟨hf20, mh, hph, hoh⟩ := hcomp.own
    obtain rfl := hf20.one Hf.out
    obtain ⟨ha, hc, rfl⟩ := hoh.at_.len
    rw [HR.out] at hph
    rw [show (plain mh).length = R.length by rw [hph]] at hoh ⊢
    unfold violV
    have hb21 : Below w20.heap.size w20 ((w20.alloc (.cells #[.slice ha R.length hc] 30)).alloc (.cells #[.int .i64 F1, .int .i64 F2, .int .i64 F3] 32)) := ((Below.refl _ _).alloc (Nat.le_refl _) _).alloc (by simp) _
    have hE20 := HE19.out.below hb20
    have HE21 := Lib.hid (hE20.below hb21)
    have HH21 : Hid (Box ((w20.alloc (.cells #[.slice ha R.length hc] 30)).alloc (.cells #[.int .i64 F1, .int .i64 F2, .int .i64 F3] 32)) (w20.heap.size + 1) [.int .i64 F1, .int .i64 F2, .int .i64 F3]) := Lib.hid (by
      have h := Box.fresh (w20.alloc (.cells #[.slice ha R.length hc] 30)) #[.int .i64 F1, .int .i64 F2, .int .i64 F3] 32
      rwa [show (w20.alloc (.cells #[.slice ha R.length hc] 30)).heap.size = w20.heap.size + 1 by simp] at h)
    have HR21 : Hid (RawAt ((w20.alloc (.cells #[.slice ha R.length hc] 30)).alloc (.cells #[.int .i64 F1, .int .i64 F2, .int .i64 F3] 32)) (· < ((w20.alloc (.cells #[.slice ha R.length hc] 30)).alloc (.cells #[.int .i64 F1, .int .i64 F2, .int .i64 F3] 32)).heap.size) (.agg #[.slice ha R.length hc]) R) := Lib.hid (by
      have h := (hoh.below hb21 (Nat.le_refl _)).raw
      rw [hph] at h
      exact h.keep (fun _ _ _ => rfl) fun b hb => Nat.lt_of_lt_of_le hb.2 hb21.size)
    have hl21 := (hl19.trans (hb20.mono hl19.size)).trans (hb21.mono (by have := hl19.size; have := hb20.size; omega))
    obtain ⟨c0, _⟩ := hE20.W.one
    have hW20 := hE20.W.2.2.1
    clear HE19 hl19 hr19 hcomp hf20 hoh hb20 hb21 hE20
    go_wp2_with fail
    clear c0 hW20
    generalize (w20.alloc (.cells #[.slice ha R.length hc] 30)).alloc (.cells #[.int .i64 F1, .int .i64 F2, .int .i64 F3] 32) = w21 at HE21 HH21 HR21 hl21 ⊢
    generalize w20.heap.size = gH at HH21 ⊢
    refine (Sch.eqRaw_same _ _ R _ HR21.out HE21.out.W.raw S1.out).mono ?_
    rintro e w22 ⟨rfl, hb22⟩
    have HE22 := Lib.hid (HE21.out.below hb22)
    have HH22 := HH21.out.below hb22 HH21.out.1
    have hl22 := hl21.trans (hb22.mono hl21.size)
    clear HE21 HH21 HR21 hl21 hb22
    obtain ⟨d0, d1, d2, _⟩ := HE22.out.V.three
    obtain ⟨e0, e1, e2, _⟩ := HH22.three
    go_wp2_with fail
    refine (eqViol_same F1 F2 F3 _).mono ?_
    rintro e w23 ⟨rfl, hb23⟩
    have HE23 := Lib.hid (HE22.out.below hb23)
    have hl23 := hl22.trans (hb23.mono hl22.size)
    clear HE22 HH22 hl22 hb23 d0 d1 d2 e0 e1 e2
    obtain ⟨c0, _⟩ := HE23.out.G.one
    go_wp2_with fail
    refine (Sch.heldRaw_any _ mg 1 _ HE23.out.OG (by have := HE23.out.lt; omega) smG.out.1 smG.out.2 (by omega)).mono ?_
    rw [HMM.out]
    rintro e w24 ⟨rfl, hb24⟩
    have hl24 := hl23.trans (hb24.mono hl23.size)
    go_wp2_with fail
    go_ret
    exact ⟨rfl, hl24⟩

set_option maxHeartbeats 1000000 in
set_option maxRecDepth 100000 in
theorem contract (H : Type) (enc : TypeId × Value → H) (W : World) (base : Nat) (args : Array Value) (ds gs : List (DataW H)) (before : List MemPlace)
    (hval : ∀ (j : Nat) t v, Tryz.f5.params[j]? = some t → args[j]? = some v → Value.okWide Tryz.prog W .any base t v)
    (hW : DataW.Whole enc Tryz.prog Tryz.f5.params.toList Rows.fnExactCompileSpec.vars false W args.toList ds gs before) (hL : laidMetH Tryz.prog Rows.fnExactCompileRow.laid W) (hsh : W.ShapedOpen Tryz.prog) :
    Calls Tryz.prog 5 args W fun e W' => ∃ v, e = .returned v ∧ Rows.fnExactCompileSpec.post enc Tryz.prog Tryz.f5 false true false false W args v W' := by
  have hW' := hW
  obtain ⟨p, q, hA0, hV, rfl, hfz, hnd⟩ := hW
  have hA : DataW.TrodAll enc Tryz.prog W 0 (fun _ => true) true Tryz.f5.params.toList args.toList ds p := hA0
  have hAk := hA
  rw [Tryz.params5] at hA hval
  obtain ⟨v0, vs0, d0, ds0, p0, q0, hargs, rfl, rfl, h0, r0⟩ := trodAll_cons hA
  obtain ⟨rfl, rfl, rfl⟩ := trodAll_nil r0
  obtain rfl : args = #[v0] := by cases args; simp_all
  obtain ⟨rfl, rfl⟩ := trodVars_none hV
  obtain ⟨y0, t0, rfl, H0, M0⟩ := Num.open_raw (hval 0 57 v0 rfl rfl) h0
  clear hA0
  refine (walk W y0 t0 H0 M0 (Num.errType_of hL)).mono fun e W' ⟨he, hg⟩ => ?_
  subst he
  exact ⟨_, rfl, _, _, _, [], _, [], hW', (trodAll_cons_mk (shut_bool Tryz.underlying4 _) trodAll_mk0), Num.args_again (by rw [Tryz.params5]; decide) hAk hg, rfl, hg.frame _, fun h => by cases h⟩

set_option maxRecDepth 100000 in
theorem laid_met (os : Os) : laidMetH Tryz.prog Rows.fnExactCompileRow.laid ((World.doorLaid Tryz.prog 16 os).forCall (fun _ _ => 0) ⟨#[], #[.agg #[.slice none 0 0]], []⟩).memory :=
  laidMetH_of_parts (laidMet_of_run' 8 (by kernel_rfl) (by kernel_rfl)) (by kernel_rfl)
theorem reads (os : Os) {H : Type} (enc : TypeId × Value → H) : ∃ places, DataW.whole enc Tryz.prog ((World.doorLaid Tryz.prog 16 os).forCall (fun _ _ => 0) ⟨#[], #[.agg #[.slice none 0 0]], []⟩).memory Tryz.f5.params.toList Rows.fnExactCompileSpec.vars false (#[.agg #[.slice none 0 0]] : Array Value).toList 8 = some ([.agg [.nil]], [], places) :=
  ⟨[], by kernel_rfl⟩
set_option maxRecDepth 100000 in
theorem lifted (os : Os) (started : os.Started) (H : Type) (enc : TypeId × Value → H) (F : Stop.Interp) :
    ReturnsInHanded {} Tryz.checked os 5 .any ((OpenSpec.ofChange Rows.fnExactCompileSpec).preRow enc Tryz.prog Tryz.f5 Rows.fnExactCompileRow.domain false Rows.fnExactCompileRow.laid) (((OpenSpec.ofChange Rows.fnExactCompileSpec).at F).post enc Tryz.prog Tryz.f5 false true false false) := by
  obtain ⟨places, hx⟩ := reads os enc
  refine returnsInHanded_of_row (C := Tryz.checked) (s := OpenSpec.ofChange Rows.fnExactCompileSpec) own started (by kernel_rfl) Tryz.func5
    (witness_row_at (enc := enc) (C := Tryz.checked) false (World.doorLaid Tryz.prog 16 os) #[.agg #[.slice none 0 0]] rfl (by kernel_rfl) (by kernel_rfl) (by kernel_rfl)
      (OpenSpec.preRow_of_cond 8 hx (by kernel_rfl) (fun k hk => by cases hk) (by kernel_rfl) (laid_met os))) ?_
  intro W base args ds gs before hval hW _ _ _ hL hsh _
  exact contract H enc W base args ds gs before hval hW hL hsh
theorem said : Rows.fnExactCompileRow.holds Tryz.pinned (OpenSpec.ofChange Rows.fnExactCompileSpec) :=
  OpenClaim.holds_of_cond 5 Tryz.f5 rfl rfl rfl rfl rfl rfl rfl ⟨rfl, rfl, rfl, rfl, rfl⟩ rfl rfl rfl rfl rfl (by kernel_rfl) Tryz.func5 (by kernel_rfl)
    (of_decide_eq_true (by kernel_rfl)) (by unfold Func.isWrapper; first | (rw [if_pos (by decide +kernel)]; kernel_rfl) | (rw [if_neg (by decide +kernel)]; exact ⟨rfl, rfl⟩))
    (fun os started H enc _ F => by rw [OpenClaim.pre_eq_preRow]; exact lifted os started H enc F)
theorem plain (f : FuncId) (fn : Func) (hf : Tryz.pinned.checked.prog.funcNamed "loop.example/g00498/laws.FnExactCompile" = some f) (hfn : Tryz.pinned.checked.prog.funcs[f]? = some fn) :
    true = Tryz.pinned.checked.prog.looks [] ∧ ∀ (j : Nat) t, fn.params[j]? = some t → Tryz.pinned.checked.prog.wantsStandIn t = false := by
  obtain rfl : f = 5 := Option.some.inj ((show Tryz.prog.funcNamed "loop.example/g00498/laws.FnExactCompile" = some 5 by kernel_rfl).symm.trans hf) |>.symm
  obtain rfl : fn = Tryz.f5 := (Option.some.inj (Tryz.func5.symm.trans hfn)).symm
  refine ⟨by kernel_rfl, fun j t ht => ?_⟩
  rw [Tryz.params5] at ht
  obtain rfl : t = 57 := by simpa using Array.mem_of_getElem? ht
  exact (show Tryz.prog.wantsStandIn 57 = false by kernel_rfl)
theorem proved : Rows.FnExactCompileCardSaid :=
  Claim7.holds_tied_plain_at .later [] _ _ _ _ said (fun _ h => by cases h) (by kernel_rfl) (fun _ h => by cases h) fnExactCompile_row_tie rfl ⟨rfl, rfl⟩ (by kernel_rfl) rfl plain (by kernel_rfl)
end Go.Proofs.YthjnpipincpkgaaGreatDoor.fnExactCompile
