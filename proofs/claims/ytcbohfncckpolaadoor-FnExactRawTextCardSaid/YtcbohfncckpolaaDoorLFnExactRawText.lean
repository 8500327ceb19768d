/-
  For every description, laws.FnExactRawText returns true: the program's RawText answers as the reference's, and the description is left as it was. The card ties the listed tables to the program's text. No other condition.
-/
import Derived.Test.YtcbohfncckpolaaDoorRows
import Derived.WalkKit
import Derived.ProofKit
import Derived.OpenShut
import Derived.ShutString
import Derived.Below
import Derived.ChangeOld
import Derived.Lib.SmallJoins
import Derived.Test.YtcbohfncckpolaaDoorFrame
import Derived.Test.YtcbohfncckpolaaDoorCards
import Derived.Test.YtcbohfncckpolaaDoorTie
import Derived.Deep.DeepHandedRow
import Derived.Lib.LaidTab
import Derived.LaidMore
import Derived.LaidHandle
import Derived.Stop.LaidErr
import Derived.Test.YtcbohfncckpolaaDoorRawAllT
import Derived.Test.YtcbohfncckpolaaDoorTwoRaw
import Derived.Test.YtcbohfncckpolaaDoorOpenRaw
namespace Go.Proofs.YtcbohfncckpolaaDoor.fnExactRawText
open Go.ChangeShapes Go.WideShapes Go.ChangeAt Go.RowKit Go.Joins
open Go.ChangeMaps (open_string shut_string)
set_option linter.unusedVariables false

theorem own : ownKnob Tryd.prog.godebug = none := by kernel_rfl
theorem cells36 : Tryd.prog.cellsOf 36 = 1 := by kernel_rfl
attribute [local go_sem] Region.wanted yielded
open Num in
set_option maxHeartbeats 4000000 in
theorem walk (w : World) (y0 : Value) (t0 : List Num.RM) (H0 : Num.MsgsAt w (· < w.heap.size) y0 t0) (M0 : Num.inMem t0) (htab : Go.Lib.TabIs Tryd.prog w "internal/strconv.uint64pow10" .u64 Go.Lib.pow10Tab) :
    Calls Tryd.prog 5 #[.agg #[y0]] w fun e w' => e = .returned (.bool true) ∧ Below w.heap.size w w' := by
  have h0 := H0
  have HT : Hid (∀ wx, Below w.heap.size w wx → Go.Lib.TabIs Tryd.prog wx "internal/strconv.uint64pow10" .u64 Go.Lib.pow10Tab) := Lib.hid fun wx hb => tabIs_below htab hb
  clear H0 htab
  obtain ⟨a, cap, rfl⟩ := h0.len
  have G0 := Lib.hid h0
  have M0 := Lib.hid M0
  clear h0
  go_enter Tryd.func5, Tryd.ntmps5
  go_wp2_with fail
  have hl : Below w.heap.size w (w.alloc (.cells #[.slice a t0.length cap] 36)) := (Below.refl _ _).alloc (Nat.le_refl _) _
  have hA : Holds (w.alloc (.cells #[.slice a t0.length cap] 36)) w.heap.size w.heap.size (.slice a t0.length cap) t0 :=
    ⟨Box.fresh _ _ _, (show RawAt w (· < w.heap.size) _ t0 from ⟨_, rfl, G0.out⟩).below hl fun _ h => h, by simp, hl.size, a, cap, rfl⟩
  generalize w.alloc (.cells #[.slice a t0.length cap] 36) = w1 at hl hA ⊢
  have HA := Lib.hid hA
  clear hA G0
  refine (szRaw_any _ t0 1048576 _ HA.out.raw M0.out (by omega) (by omega)).mono ?_
  rintro e w2 ⟨x, rfl, hx0, hx1, hx, hb2⟩
  have hl2 := hl.trans (hb2.mono hl.size)
  have HA2 := Lib.hid (HA.out.all hb2)
  have Hx := Lib.hid hx
  clear hl hb2 HA hx
  obtain ⟨c0, _⟩ := HA2.out.one
  by_cases hneg : x < 0
  · go_wp2_with fail
    go_ret
    exact ⟨rfl, hl2⟩
  · have hneg2 : decide (x < 0) = false := decide_eq_false hneg
    have S0 := Lib.hid (Hx.out (by omega))
    clear hneg Hx hx0 hx1
    go_wp2_with fail
    refine (toRaw_held HA2.out S0.out).mono ?_
    rintro e w3 ⟨p, pc, rfl, hr3, hb3⟩
    have hl3 := hl2.trans (hb3.mono hl2.size)
    have HA3 := Lib.hid (HA2.out.all hb3)
    clear hl2 hb3 HA2 c0
    obtain ⟨c0, _⟩ := HA3.out.one
    have hqA := HA3.out.2.2.1
    go_wp2_with fail
    refine (specRawText_any _ t0 _ hr3 S0.out).mono ?_
    rintro e w4 ⟨f, hf, he, hb4⟩
    have Hf := Lib.hid hf
    clear hf
    obtain ⟨sw, hsw⟩ : ∃ s : ByteArray, (⟨(rawT t0 f).toArray⟩ : ByteArray) = s := ⟨_, rfl⟩
    rw [hsw] at he
    subst he
    have Hsw := Lib.hid hsw
    clear hsw
    have hl4 := hl3.trans (hb4.mono hl3.size)
    have HA4 := Lib.hid (HA3.out.all hb4)
    clear hl3 hb4 HA3 hr3 c0 hqA
    have hA5 := HA4.out
    have hl5 := hl4
    obtain ⟨c0, _⟩ := HA4.out.one
    have hqA := HA4.out.2.2.1
    go_wp2_with fail
    clear HA4 hl4 c0 hqA
    refine (toRaw_held hA5 S0.out).mono ?_
    rintro e w6 ⟨q, qc, rfl, hr6, hb6⟩
    have hA6 := hA5.all hb6
    have hl6 := hl5.trans (hb6.mono hl5.size)
    have hX7 := Holds.fresh 41 hr6
    have hb7 : Below w6.heap.size w6 (w6.alloc (.cells #[.slice q t0.length qc] 41)) := (Below.refl _ _).alloc (Nat.le_refl _) _
    have hA7 := hA6.all hb7
    have hl7 := hl6.trans (hb7.mono hl6.size)
    go_wp2_with fail
    generalize w6.alloc (.cells #[.slice q t0.length qc] 41) = w7 at hX7 hA7 hl7 ⊢
    generalize w6.heap.size = gx at hX7 ⊢
    clear hb7 hA6 hl6 hr6 hb6 hA5 hl5
    refine (implRawText_any _ t0 _ hX7.raw S0.out (HT.out _ hl7)).mono ?_
    rintro e w8 ⟨f, hf, he, hb8⟩
    obtain rfl := hf.one Hf.out
    clear hf
    rw [Hsw.out] at he
    subst he
    have hbn : (sw.toList != sw.toList) = false := by simp
    have HA8 := Lib.hid (hA7.all hb8)
    have HX8 := Lib.hid (hX7.all hb8)
    have hl8 := hl7.trans (hb8.mono hl7.size)
    clear hA7 hX7 hb8 hl7
    have cA := HA8.out.one.1
    have cX := HX8.out.one.1
    go_wp2_with fail
    go_region_with (first
      | (go_at_call 16; refine (toRaw_held HA8.out.drew S0.out).mono ?_; rintro e w12 ⟨ka, kc, rfl, hr12, hb12⟩; have hX12 := HX8.out.drew.all hb12; have hl12 := hl8.drew.trans (hb12.mono hl8.size); obtain ⟨d0, _⟩ := hX12.one)
      | (go_at_call 18; refine (eqRaw_same _ _ t0 _ hX12.raw hr12 S0.out).mono ?_; rintro e w13 ⟨rfl, hb13⟩; have hl13 := hl12.trans (hb13.mono hl12.size)))
    all_goals
      go_wp2_with fail
      go_ret
      exact ⟨rfl, hl13⟩

set_option maxHeartbeats 1000000 in
set_option maxRecDepth 100000 in
theorem contract (H : Type) (enc : TypeId × Value → H) (W : World) (base : Nat) (args : Array Value) (ds gs : List (DataW H)) (before : List MemPlace)
    (hval : ∀ (j : Nat) t v, Tryd.f5.params[j]? = some t → args[j]? = some v → Value.okWide Tryd.prog W .any base t v)
    (hW : DataW.Whole enc Tryd.prog Tryd.f5.params.toList Rows.fnExactRawTextSpec.vars false W args.toList ds gs before) (hL : laidMetH Tryd.prog Rows.fnExactRawTextRow.laid W) (hsh : W.ShapedOpen Tryd.prog) :
    Calls Tryd.prog 5 args W fun e W' => ∃ v, e = .returned v ∧ Rows.fnExactRawTextSpec.post enc Tryd.prog Tryd.f5 false true false false W args v W' := by
  have hW' := hW
  obtain ⟨p, q, hA0, hV, rfl, hfz, hnd⟩ := hW
  have hA : DataW.TrodAll enc Tryd.prog W 0 (fun _ => true) true Tryd.f5.params.toList args.toList ds p := hA0
  have hAk := hA
  rw [Tryd.params5] at hA hval
  obtain ⟨v0, vs0, d0, ds0, p0, q0, hargs, rfl, rfl, h0, r0⟩ := trodAll_cons hA
  obtain ⟨rfl, rfl, rfl⟩ := trodAll_nil r0
  obtain rfl : args = #[v0] := by cases args; simp_all
  obtain ⟨rfl, rfl⟩ := trodVars_none hV
  obtain ⟨y0, t0, rfl, H0, M0⟩ := Num.open_raw (hval 0 36 v0 rfl rfl) h0
  clear hA0
  refine (walk W y0 t0 H0 M0 (Num.pow10_of hL.tail.tail)).mono fun e W' ⟨he, hg⟩ => ?_
  subst he
  exact ⟨_, rfl, _, _, _, [], _, [], hW', (trodAll_cons_mk (shut_bool Tryd.underlying4 _) trodAll_mk0), Num.args_again (by rw [Tryd.params5]; decide) hAk hg, rfl, hg.frame _, fun h => by cases h⟩

set_option maxRecDepth 100000 in
theorem laid_met (os : Os) : laidMet Tryd.prog Rows.fnExactRawTextRow.laid ((World.doorLaid Tryd.prog 53 os).forCall (fun _ _ => 0) ⟨#[], #[.agg #[.slice none 0 0]], []⟩).memory :=
  laidMet_of_run' 8 (by kernel_rfl) (by kernel_rfl)
set_option maxRecDepth 100000 in
theorem reads (os : Os) {H : Type} (enc : TypeId × Value → H) : ∃ gs places, DataW.whole enc Tryd.prog ((World.doorLaid Tryd.prog 53 os).forCall (fun _ _ => 0) ⟨#[], #[.agg #[.slice none 0 0]], []⟩).memory Tryd.f5.params.toList Rows.fnExactRawTextSpec.vars false (#[.agg #[.slice none 0 0]] : Array Value).toList 8 = some ([.agg [.nil]], gs, places) := by
  have h : (DataW.whole enc Tryd.prog ((World.doorLaid Tryd.prog 53 os).forCall (fun _ _ => 0) ⟨#[], #[.agg #[.slice none 0 0]], []⟩).memory Tryd.f5.params.toList Rows.fnExactRawTextSpec.vars false (#[.agg #[.slice none 0 0]] : Array Value).toList 8).map (fun x => x.1) = some ([.agg [.nil]] ) := by kernel_rfl
  obtain ⟨⟨a, b, p⟩, hx, e⟩ := Option.map_eq_some_iff.1 h
  simp only at e
  subst e
  exact ⟨b, p, hx⟩

set_option maxRecDepth 100000 in
theorem lifted (os : Os) (started : os.Started) (H : Type) (enc : TypeId × Value → H) (F : Stop.Interp) :
    ReturnsInHanded {} Tryd.checked os 5 .any ((OpenSpec.ofChange Rows.fnExactRawTextSpec).preRow enc Tryd.prog Tryd.f5 Rows.fnExactRawTextRow.domain false Rows.fnExactRawTextRow.laid) (((OpenSpec.ofChange Rows.fnExactRawTextSpec).at F).post enc Tryd.prog Tryd.f5 false true false false) := by
  obtain ⟨gs0, places, hx⟩ := reads os enc
  refine returnsInHanded_of_row (C := Tryd.checked) (s := OpenSpec.ofChange Rows.fnExactRawTextSpec) own started (by kernel_rfl) Tryd.func5
    (witness_row_at (enc := enc) (C := Tryd.checked) false (World.doorLaid Tryd.prog 53 os) #[.agg #[.slice none 0 0]] rfl (by kernel_rfl) (by kernel_rfl) (by kernel_rfl)
      (OpenSpec.preRow_of_cond 8 hx (by kernel_rfl) (fun k hk => by cases hk) (by kernel_rfl) (laid_met os))) ?_
  intro W base args ds gs before hval hW _ _ _ hL hsh _
  exact contract H enc W base args ds gs before hval hW hL hsh
theorem said : Rows.fnExactRawTextRow.holds Tryd.pinned (OpenSpec.ofChange Rows.fnExactRawTextSpec) :=
  OpenClaim.holds_of_cond 5 Tryd.f5 rfl rfl rfl rfl rfl rfl rfl ⟨rfl, rfl, rfl, rfl, rfl⟩ rfl rfl rfl rfl rfl (by kernel_rfl) Tryd.func5 (by kernel_rfl)
    (of_decide_eq_true (by kernel_rfl)) (by unfold Func.isWrapper; first | (rw [if_pos (by decide +kernel)]; kernel_rfl) | (rw [if_neg (by decide +kernel)]; exact ⟨rfl, rfl⟩))
    (fun os started H enc _ F => by rw [OpenClaim.pre_eq_preRow]; exact lifted os started H enc F)
theorem plain (f : FuncId) (fn : Func) (hf : Tryd.pinned.checked.prog.funcNamed "loop.example/g00498/laws.FnExactRawText" = some f) (hfn : Tryd.pinned.checked.prog.funcs[f]? = some fn) :
    true = Tryd.pinned.checked.prog.looks [] ∧ ∀ (j : Nat) t, fn.params[j]? = some t → Tryd.pinned.checked.prog.wantsStandIn t = false := by
  obtain rfl : f = 5 := Option.some.inj ((show Tryd.prog.funcNamed "loop.example/g00498/laws.FnExactRawText" = some 5 by kernel_rfl).symm.trans hf) |>.symm
  obtain rfl : fn = Tryd.f5 := (Option.some.inj (Tryd.func5.symm.trans hfn)).symm
  refine ⟨by kernel_rfl, fun j t ht => ?_⟩
  rw [Tryd.params5] at ht
  obtain rfl : t = 36 := by simpa using Array.mem_of_getElem? ht
  exact (show Tryd.prog.wantsStandIn 36 = false by kernel_rfl)
theorem proved : Rows.FnExactRawTextCardSaid :=
  Claim7.holds_tied_plain_at .later [] _ _ _ _ said (fun _ h => by cases h) (by kernel_rfl) (fun _ h => by cases h) fnExactRawText_row_tie rfl ⟨rfl, rfl⟩ (by kernel_rfl) rfl plain (by kernel_rfl)
end Go.Proofs.YtcbohfncckpolaaDoor.fnExactRawText
