/-
  For every string, laws.FnExactReadRaw returns true: the program's ReadRaw answers as the reference's, and the answer's memory is its own. The card ties the listed tables and the program's sentinel to the program's text. No other condition.
-/
import Derived.Test.YtcbohfncckpolaaGreatDoorRows
import Derived.WalkKit
import Derived.ProofKit
import Derived.OpenShut
import Derived.ShutString
import Derived.Below
import Derived.ChangeOld
import Derived.Lib.SmallJoins
import Derived.Test.YtcbohfncckpolaaGreatDoorFrame
import Derived.Test.YtcbohfncckpolaaGreatDoorCards
import Derived.Test.YtcbohfncckpolaaGreatDoorTie
import Derived.Deep.DeepHandedRow
import Derived.Lib.LaidTab
import Derived.LaidMore
import Derived.LaidHandle
import Derived.Stop.LaidErr
import Derived.Test.YtcbohfncckpolaaGreatDoorPlanB
import Derived.Test.YtcbohfncckpolaaGreatDoorTwoRaw
import Derived.Test.YtcbohfncckpolaaGreatDoorEqRaw
import Derived.Test.YtcbohfncckpolaaGreatDoorMarkRaw
import Derived.Test.YtcbohfncckpolaaGreatDoorVars
import Derived.Deep.DeepCutAuto
namespace Go.Proofs.YtcbohfncckpolaaGreatDoor.fnExactReadRaw
open Go.ChangeShapes Go.WideShapes Go.ChangeAt Go.RowKit Go.Joins
open Go.ChangeMaps (open_string shut_string)
set_option linter.unusedVariables false

theorem own : ownKnob Tryz.prog.godebug = none := by kernel_rfl
open Num in
set_option maxHeartbeats 8000000 in
set_option maxRecDepth 100000 in
theorem walk (w : World) (a0 : ByteArray) (w0 : a0.size ≤ maxLen) (hE0 : ∃ a, Num.ErrText w a) (hsh : w.ShapedOpen Tryz.prog) :
    Calls Tryz.prog 4 #[.string a0] w fun e w' => e = .returned (.bool true) ∧ Below w.heap.size w w' := by
  obtain ⟨a, hE⟩ := hE0
  by_cases hs : 1048576 < a0.size
  · have hsi : (1048576 : Int) < (a0.size : Int) := by omega
    clear hs hE hsh w0
    go_enter Tryz.func4, Tryz.ntmps4
    go_wp2_with fail
    go_ret
    exact ⟨rfl, Below.refl _ _⟩
  · have hsi : ¬ ((1048576 : Int) < (a0.size : Int)) := by omega
    have hsz : a0.size ≤ 1048576 := by omega
    obtain ⟨r, b, hrb, hS1⟩ := readRaw_case a0.data.toList
    have S1 := Lib.hid hS1
    have HS : Hid (Calls Tryz.prog 11 #[.string a0] w fun e w' => ∃ v, e = .returned (.tuple #[v, .bool b]) ∧ RawAt w' (fun b => w.heap.size ≤ b ∧ b < w'.heap.size) v r ∧ Below w.heap.size w w') := Lib.hid ((specReadRaw_any a0 w hsz).mono (by
      rintro e w' ⟨h, hb⟩
      obtain ⟨v, h1, h2⟩ := h.told hrb
      exact ⟨v, h1, h2, hb⟩))
    have HI : Hid (∀ wx, Below w.heap.size w wx → Calls Tryz.prog 8 #[.string a0] wx fun e w' => ∃ u ms, plain ms = r ∧ e = .returned (.tuple #[.agg #[u], .bool b]) ∧ OwnIn w' wx.heap.size w'.heap.size u ms ∧ Below wx.heap.size wx w') := Lib.hid fun wx hb => (implReadRaw_any a0 a wx hsz (shaped_below hsh hb) (hE.below hb)).mono (by
      rintro e w' ⟨h, hb⟩
      obtain ⟨u, ms, h0, h1, h2⟩ := h.told hrb
      exact ⟨u, ms, h0, h1, h2, hb⟩)
    clear hs hE hsh w0 hrb hS1
    have hbb : (b != b) = false := by simp
    have hbb2 : (b == b) = true := by simp
    go_enter Tryz.func4, Tryz.ntmps4
    go_wp2_with fail
    refine HS.out.mono ?_
    rintro e w4 ⟨u4, rfl, hu4, hb4⟩
    obtain ⟨y4, rfl, hy4⟩ := hu4
    obtain ⟨ya, yc, rfl⟩ := hy4.len
    have hW5 := Holds.fresh 26 ((show RawAt w4 _ _ _ from ⟨_, rfl, hy4⟩).keep (fun _ _ _ => rfl) fun b hb' => hb'.2)
    have hl5 : Below w.heap.size w (w4.alloc (.cells #[.slice ya r.length yc] 26)) := hb4.alloc hb4.size _
    have HW5 := Lib.hid hW5
    have hz5 : (w4.alloc (.cells #[.slice ya r.length yc] 26)).heap.size = w4.heap.size + 1 := by simp
    have hw4 := hb4.size
    clear hb4 hy4 hW5 HS
    go_wp2_with fail
    generalize w4.alloc (.cells #[.slice ya r.length yc] 26) = w5 at HW5 hl5 hz5 ⊢
    generalize w4.heap.size = gW at HW5 hz5 hw4 ⊢
    -- g0
    refine (HI.out _ hl5).mono ?_
    rintro e w8 ⟨vg, mg, hpg, rfl, hog, hb8⟩
    obtain ⟨ga, gc, rfl⟩ := hog.at_.len
    rw [show (plain mg).length = r.length by rw [hpg]] at hog ⊢
    have hz8 := hb8.size
    have HW8 := HW5.out.all hb8
    have hl8 := hl5.trans (hb8.mono hl5.size)
    have hb9 : Below w8.heap.size w8 (w8.alloc (.cells #[.slice ga r.length gc] 26)) := (Below.refl _ _).alloc (Nat.le_refl _) _
    have HW9 := Lib.hid (HW8.all hb9)
    have HG9 := Lib.hid (Box.fresh w8 #[.slice ga r.length gc] 26)
    have HQ9 := Lib.hid (hog.below hb9 (Nat.le_refl _))
    have hl9 := hl8.trans (hb9.mono hl8.size)
    have hz9 : (w8.alloc (.cells #[.slice ga r.length gc] 26)).heap.size = w8.heap.size + 1 := by simp
    have hloW : gW < w5.heap.size := by omega
    obtain ⟨c0, _⟩ := HW8.one
    have hW8 := HW8.2.2.1
    clear hl5 HW5 hog hb8 HW8 hl8 hb9 hz5
    go_wp2_with fail
    clear c0 hW8
    generalize w8.alloc (.cells #[.slice ga r.length gc] 26) = w9 at HW9 HG9 HQ9 hl9 hz9 ⊢
    generalize w8.heap.size = gG at HG9 HQ9 hz9 hz8 ⊢
    generalize w5.heap.size = lo at HQ9 hz8 hloW
    -- g0 == w0
    obtain ⟨c0, _⟩ := HG9.out.one
    obtain ⟨d0, _⟩ := HW9.out.one
    have HR9 : Hid (∀ wx : World, OwnIn wx lo gG (.slice ga r.length gc) mg → gG ≤ wx.heap.size → RawAt wx (· < wx.heap.size) (.agg #[.slice ga r.length gc]) r) := Lib.hid fun wx h hw => by
      have := h.raw; rw [hpg] at this; exact this.keep (fun _ _ _ => rfl) fun b hb => by omega
    refine (eqRaw_same _ _ r _ (HR9.out _ HQ9.out (by omega)) HW9.out.raw S1.out).mono ?_
    rintro e w10 ⟨rfl, hb10⟩
    have HW10 := Lib.hid (HW9.out.all hb10)
    have HG10 := Lib.hid (HG9.out.below hb10 HG9.out.lt)
    have HQ10 := Lib.hid (HQ9.out.below hb10 (by omega))
    have hl10 := hl9.trans (hb10.mono hl9.size)
    have hz10 : gG + 1 ≤ w10.heap.size := by have := hb10.size; omega
    have smG := Lib.hid (small_own hpg S1.out)
    clear hl9 HW9 HG9 HQ9 hb10 c0 d0 hz9
    obtain ⟨c0, _⟩ := HG10.out.one
    -- marks on g0
    go_wp2_with fail
    refine (markRaw_any _ mg 1 _ HQ10.out (by omega) smG.out.1 smG.out.2 (by omega)).mono ?_
    rintro e w16 ⟨rfl, hmk, hzn⟩
    have Hk := Lib.hid (kAt_le (k := 1) smG.out.2 mg.length (Nat.le_refl _))
    have HW16 := Lib.hid (HW10.out.zone hzn (by omega) (by omega))
    have HG16 := Lib.hid (HG10.out.zone hzn (.inr (by omega)))
    have HM16 := Lib.hid hmk
    have hl16 := hl10.trans ((hzn.below (B := w.heap.size) (by omega) (by omega)))
    have hz16 : gG + 1 ≤ w16.heap.size := Nat.le_trans hz10 hzn.size
    clear HW10 HG10 HQ10 hl10 hz10 hzn hmk c0
    obtain ⟨c0, _⟩ := HG16.out.one
    go_wp2_with fail
    refine (heldRaw_any _ mg 1 _ HM16.out (by omega) smG.out.1 smG.out.2 (by omega)).mono ?_
    obtain ⟨M, hM⟩ : ∃ M, kAt 1 mg mg.length = M := ⟨_, rfl⟩
    have HMM := Lib.hid hM
    rw [hM]
    have hM0 : decide (M < 0) = false := decide_eq_false (by have := Hk.out; omega)
    have hMM : (M != M) = false := by simp
    have hMM2 : (M == M) = true := by simp
    clear hM
    rintro e w17 ⟨rfl, hb17⟩
    have HW17 := Lib.hid (HW16.out.all hb17)
    have HG17 := Lib.hid (HG16.out.below hb17 HG16.out.lt)
    have HM17 := Lib.hid (HM16.out.below hb17 (by omega))
    have hl17 := hl16.trans (hb17.mono hl16.size)
    have hz17 : gG + 1 ≤ w17.heap.size := Nat.le_trans hz16 hb17.size
    clear HW16 HG16 HM16 hl16 hz16 hb17 c0
    -- h0
    go_wp2_with fail
    refine (HI.out _ hl17).mono ?_
    rintro e w19 ⟨vh, mh, hph, rfl, hoh, hb19⟩
    obtain ⟨ha, hc, rfl⟩ := hoh.at_.len
    rw [show (plain mh).length = r.length by rw [hph]] at hoh ⊢
    have hb20 : Below w19.heap.size w19 (w19.alloc (.cells #[.slice ha r.length hc] 26)) := (Below.refl _ _).alloc (Nat.le_refl _) _
    have HW20 := Lib.hid ((HW17.out.all hb19).all hb20)
    have hGb := HG17.out.below hb19 HG17.out.lt
    have HG20 := Lib.hid (hGb.below hb20 hGb.lt)
    have hMb := HM17.out.below hb19 (by omega)
    have hz19 : gG + 1 ≤ w19.heap.size := Nat.le_trans hz17 hb19.size
    have HM20 := Lib.hid (hMb.below hb20 (by omega))
    have HH20 := Lib.hid (Box.fresh w19 #[.slice ha r.length hc] 26)
    have hoh2 := hoh.below hb20 (Nat.le_refl _)
    have hl20 := (hl17.trans (hb19.mono hl17.size)).trans (hb20.mono (by have := hl17.size; have := hb19.size; omega))
    have hz20 : w19.heap.size + 1 ≤ (w19.alloc (.cells #[.slice ha r.length hc] 26)).heap.size := by simp
    have HR20 : Hid (RawAt (w19.alloc (.cells #[.slice ha r.length hc] 26)) (· < (w19.alloc (.cells #[.slice ha r.length hc] 26)).heap.size) (.agg #[.slice ha r.length hc]) r) := Lib.hid (by
      have h := hoh2.raw; rw [hph] at h; exact h.keep (fun _ _ _ => rfl) fun b hb => by omega)
    obtain ⟨c0, _⟩ := (HW17.out.all hb19).one
    have hW19 := (HW17.out.all hb19).2.2.1
    clear HW17 HG17 HM17 hl17 hz17 hoh hb19 hb20 hGb hMb hoh2
    go_wp2_with fail
    clear c0 hW19
    generalize w19.alloc (.cells #[.slice ha r.length hc] 26) = w20 at HW20 HG20 HM20 HH20 hl20 hz20 HR20 ⊢
    generalize w19.heap.size = gH at HH20 hz19 hz20 ⊢
    obtain ⟨c0, _⟩ := HH20.out.one
    obtain ⟨d0, _⟩ := HW20.out.one
    refine (eqRaw_same _ _ r _ HR20.out HW20.out.raw S1.out).mono ?_
    rintro e w21 ⟨rfl, hb21⟩
    have HG21 := Lib.hid (HG20.out.below hb21 HG20.out.lt)
    have HM21 := Lib.hid (HM20.out.below hb21 (by omega))
    have hl21 := hl20.trans (hb21.mono hl20.size)
    have hz21 : gG + 1 ≤ w21.heap.size := by have := hb21.size; omega
    clear HW20 HG20 HM20 HH20 hl20 HR20 hb21 c0 d0
    obtain ⟨c0, _⟩ := HG21.out.one
    go_wp2_with fail
    refine (heldRaw_any _ mg 1 _ HM21.out (by omega) smG.out.1 smG.out.2 (by omega)).mono ?_
    rw [HMM.out]
    rintro e w22 ⟨rfl, hb22⟩
    have hl22 := hl21.trans (hb22.mono hl21.size)
    go_wp2_with fail
    go_ret
    exact ⟨rfl, hl22⟩

/-- The cells of a pinned table of numbers, for the witness. -/
def pinCells : DataW Unit → Array Value
  | .agg ds => (ds.map fun d => match d with | .lit (.int k n) => Value.int k n | _ => Value.int .u8 0).toArray
  | _ => #[]
noncomputable def witWorld0 (os : Os) : World :=
  { (World.doorLaid Tryz.prog 53 os) with heap := (World.doorLaid Tryz.prog 53 os).heap.modify 3 fun o => match o with | .cells _ t fr => .cells (pinCells Go.Pinned.utf8First) t fr | o => o }
set_option maxHeartbeats 1000000 in
set_option maxRecDepth 100000 in
theorem contract (H : Type) (enc : TypeId × Value → H) (W : World) (base : Nat) (args : Array Value) (ds gs : List (DataW H)) (before : List MemPlace)
    (hval : ∀ (j : Nat) t v, Tryz.f4.params[j]? = some t → args[j]? = some v → Value.okWide Tryz.prog W .any base t v)
    (hW : DataW.Whole enc Tryz.prog Tryz.f4.params.toList Rows.fnExactReadRawSpec.vars false W args.toList ds gs before) (hL : laidMetH Tryz.prog Rows.fnExactReadRawRow.laid W) (hsh : W.ShapedOpen Tryz.prog) :
    Calls Tryz.prog 4 args W fun e W' => ∃ v, e = .returned v ∧ Rows.fnExactReadRawSpec.post enc Tryz.prog Tryz.f4 false true false false W args v W' := by
  have hW' := hW
  obtain ⟨p, q, hA0, hV, rfl, hfz, hnd⟩ := hW
  have hA : DataW.TrodAll enc Tryz.prog W 0 (fun _ => true) true Tryz.f4.params.toList args.toList ds p := hA0
  have hAk := hA
  rw [Tryz.params4] at hA hval
  obtain ⟨v0, vs0, d0, ds0, p0, q0, hargs, rfl, rfl, h0, r0⟩ := trodAll_cons hA
  obtain ⟨rfl, rfl, rfl⟩ := trodAll_nil r0
  obtain rfl : args = #[v0] := by cases args; simp_all
  have hVk := hV
  obtain ⟨_, _, _, _, _, _, rfl, _, _, _, _, _⟩ := trodVars_one hV
  obtain ⟨a0, rfl, rfl, rfl, w0⟩ := open_string Tryz.underlying9 (hval 0 9 v0 rfl rfl) h0
  clear hA0
  refine (walk W a0 w0 (Num.errText_of hL.tail) (hsh)).mono fun e W' ⟨he, hg⟩ => ?_
  subst he
  exact ⟨_, rfl, _, _, _, [], _, _, hW', (trodAll_cons_mk (shut_bool Tryz.underlying4 _) trodAll_mk0), Num.args_again (by rw [Tryz.params4]; decide) hAk hg, Num.vars_again hg hVk, hg.frame _, fun h => by cases h⟩

set_option maxRecDepth 100000 in
theorem laid_met (os : Os) : laidMet Tryz.prog Rows.fnExactReadRawRow.laid ((witWorld0 os).forCall (fun _ _ => 0) ⟨#[], #[.string ByteArray.empty], []⟩).memory :=
  laidMet_of_run' 8 (by kernel_rfl) (by kernel_rfl)
set_option maxRecDepth 100000 in
theorem reads (os : Os) {H : Type} (enc : TypeId × Value → H) : ∃ gs places, DataW.whole enc Tryz.prog ((witWorld0 os).forCall (fun _ _ => 0) ⟨#[], #[.string ByteArray.empty], []⟩).memory Tryz.f4.params.toList Rows.fnExactReadRawSpec.vars false (#[.string ByteArray.empty] : Array Value).toList 8 = some ([.lit (.string [])], gs, places) := by
  have h : (DataW.whole enc Tryz.prog ((witWorld0 os).forCall (fun _ _ => 0) ⟨#[], #[.string ByteArray.empty], []⟩).memory Tryz.f4.params.toList Rows.fnExactReadRawSpec.vars false (#[.string ByteArray.empty] : Array Value).toList 8).map (fun x => x.1) = some ([.lit (.string [])] ) := by kernel_rfl
  obtain ⟨⟨a, b, p⟩, hx, e⟩ := Option.map_eq_some_iff.1 h
  simp only at e
  subst e
  exact ⟨b, p, hx⟩

set_option maxRecDepth 100000 in
theorem lifted (os : Os) (started : os.Started) (H : Type) (enc : TypeId × Value → H) (F : Stop.Interp) :
    ReturnsInHanded {} Tryz.checked os 4 .any ((OpenSpec.ofChange Rows.fnExactReadRawSpec).preRow enc Tryz.prog Tryz.f4 Rows.fnExactReadRawRow.domain false Rows.fnExactReadRawRow.laid) (((OpenSpec.ofChange Rows.fnExactReadRawSpec).at F).post enc Tryz.prog Tryz.f4 false true false false) := by
  obtain ⟨gs0, places, hx⟩ := reads os enc
  refine returnsInHanded_of_row (C := Tryz.checked) (s := OpenSpec.ofChange Rows.fnExactReadRawSpec) own started (by kernel_rfl) Tryz.func4
    (witness_row_at (enc := enc) (C := Tryz.checked) false (witWorld0 os) #[.string ByteArray.empty] rfl (by kernel_rfl) (by kernel_rfl) (by kernel_rfl)
      (OpenSpec.preRow_of_cond 8 hx (by kernel_rfl) (fun k hk => by cases hk) (by kernel_rfl) (laid_met os))) ?_
  intro W base args ds gs before hval hW _ _ _ hL hsh _
  exact contract H enc W base args ds gs before hval hW hL hsh
theorem said : Rows.fnExactReadRawRow.holds Tryz.pinned (OpenSpec.ofChange Rows.fnExactReadRawSpec) :=
  OpenClaim.holds_of_cond 4 Tryz.f4 rfl rfl rfl rfl rfl rfl rfl ⟨rfl, rfl, rfl, rfl, rfl⟩ rfl rfl rfl rfl rfl (by kernel_rfl) Tryz.func4 (by kernel_rfl)
    (of_decide_eq_true (by kernel_rfl)) (by unfold Func.isWrapper; first | (rw [if_pos (by decide +kernel)]; kernel_rfl) | (rw [if_neg (by decide +kernel)]; exact ⟨rfl, rfl⟩))
    (fun os started H enc _ F => by rw [OpenClaim.pre_eq_preRow]; exact lifted os started H enc F)
theorem plain (f : FuncId) (fn : Func) (hf : Tryz.pinned.checked.prog.funcNamed "loop.example/g00498/laws.FnExactReadRaw" = some f) (hfn : Tryz.pinned.checked.prog.funcs[f]? = some fn) :
    true = Tryz.pinned.checked.prog.looks [] ∧ ∀ (j : Nat) t, fn.params[j]? = some t → Tryz.pinned.checked.prog.wantsStandIn t = false := by
  obtain rfl : f = 4 := Option.some.inj ((show Tryz.prog.funcNamed "loop.example/g00498/laws.FnExactReadRaw" = some 4 by kernel_rfl).symm.trans hf) |>.symm
  obtain rfl : fn = Tryz.f4 := (Option.some.inj (Tryz.func4.symm.trans hfn)).symm
  refine ⟨by kernel_rfl, fun j t ht => ?_⟩
  rw [Tryz.params4] at ht
  obtain rfl : t = 9 := by simpa using Array.mem_of_getElem? ht
  exact (show Tryz.prog.wantsStandIn 9 = false by kernel_rfl)
theorem proved : Rows.FnExactReadRawCardSaid :=
  Claim7.holds_tied_plain_at .later [] _ _ _ _ said (fun _ h => by cases h) (by kernel_rfl) (fun _ h => by cases h) fnExactReadRaw_row_tie rfl ⟨rfl, rfl⟩ (by kernel_rfl) rfl plain (by kernel_rfl)
end Go.Proofs.YtcbohfncckpolaaGreatDoor.fnExactReadRaw
