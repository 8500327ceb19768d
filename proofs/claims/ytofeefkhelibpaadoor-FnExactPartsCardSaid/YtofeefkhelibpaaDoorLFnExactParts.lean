/-
  For every string and every byte, laws.FnExactParts returns true: the program's Parts gives the reference's parts, in memory that it shares with no other call's result. The card ties the listed library tables to the program's text. No other condition.
-/
import Derived.Test.YtofeefkhelibpaaDoorRows
import Derived.WalkKit
import Derived.ProofKit
import Derived.OpenShut
import Derived.ShutString
import Derived.Below
import Derived.ChangeOld
import Derived.Test.YtofeefkhelibpaaDoorCards
import Derived.Test.YtofeefkhelibpaaDoorTie
import Derived.Deep.DeepHandedRow
import Derived.Lib.LaidTab
import Derived.LaidMore
import Derived.Stop.LaidErr
import Derived.Test.YtofeefkhelibpaaDoorParts
import Derived.Test.YtofeefkhelibpaaDoorMark
namespace Go.Proofs.YtofeefkhelibpaaDoor.fnExactParts
open Go.ChangeShapes Go.WideShapes Go.ChangeAt Go.RowKit
open Go.ChangeMaps (open_string shut_string)
set_option linter.unusedVariables false

theorem own : ownKnob Tryd.prog.godebug = none := by kernel_rfl
open Num
set_option maxHeartbeats 1600000 in
theorem walk (a0 : ByteArray) (a1 : Int) (w0 : a0.size ≤ maxLen) (w1 : (Lit.int .u8 a1).wf = true) (w : World) (hsh : w.ShapedOpen Tryd.prog) :
    Calls Tryd.prog 6 #[.string a0, .int .u8 a1] w fun e w' => e = .returned (.bool true) ∧ Below w.heap.size w w' := by
  have hb1' := bounds_u8 w1
  obtain ⟨b, rfl⟩ : ∃ b : UInt8, a1 = (b.toNat : Int) := ⟨UInt8.ofNat a1.toNat, by rw [ofNat_toNat (by omega)]; omega⟩
  clear w1 hb1'
  have hs : a0.size ≤ 9223372036854775807 := by unfold maxLen at w0; omega
  have Hsh := Lib.hid hsh; clear hsh
  by_cases hb : 1048576 < a0.size
  · go_enter Tryd.func6, Tryd.ntmps6
    go_wp2_with fail
    go_ret
    exact ⟨rfl, Below.refl _ _⟩
  · go_enter Tryd.func6, Tryd.ntmps6
    go_wp2_with fail
    refine (specParts_any a0 b _ (by omega)).mono ?_
    rintro e x1 ⟨v0, P, rfl, hP, hown0, hb1⟩
    have hz1 := hb1.size
    have hP0 : 0 < P.length := by
      cases P with
      | nil => unfold strL at hP; rw [List.map_nil] at hP; exact absurd hP.symm (partsF_ne _ _)
      | cons _ _ => simp
    have hPn : P.length ≤ 2097152 := by
      have h2 := partsF_length b a0.data.toList
      have h3 := congrArg List.length hP
      unfold strL at h3
      rw [List.length_map] at h3
      have h4 : a0.data.toList.length = a0.size := by simp
      omega
    obtain ⟨g0, c0, rfl, hg0, hg0', hr0⟩ := readOwn hown0 hP0
    have HP := Lib.hid hP
    have Hr0 := Lib.hid hr0
    clear hown0 hP hr0
    go_wp2_with fail
    refine (implParts_any a0 b _ (by omega) (shaped_below Hsh.out hb1)).mono ?_
    rintro e x2 ⟨v1, P1, rfl, hP1, hown1, hb2⟩
    obtain rfl : P = P1 := bytes_inj (HP.out.trans hP1.symm)
    have hz2 := hb2.size
    obtain ⟨g1, c1, rfl, hg1, hg1', hr1⟩ := readOwn hown1 hP0
    have Hop := Lib.hid (openOwn hown1)
    have Hr1 := Lib.hid hr1
    have Hr02 := Lib.hid (Hr0.out.below hb2)
    have hb12 : Below w.heap.size w x2 := hb1.trans (hb2.mono hz1)
    clear hown1 hP1 hr1 Hr0 hb1 hb2
    go_wp2_with fail
    refine (eqStringS_same _ _ P.length c1 c0 P _ Hr1.out Hr02.out hPn).mono ?_
    rintro e x3 ⟨rfl, k3, rfl⟩
    go_wp2_with fail
    refine (mark1_any g1 P.length c1 (x2.drewN k3) hg1' Hop.out (by omega)).mono ?_
    rintro e x4 ⟨rfl, ho4, hm4⟩
    have hz4 : x2.heap.size ≤ x4.heap.size := ho4.size
    have Hm4 := Lib.hid hm4
    have Hr04 : Hid (RdS x4 (some ⟨g0, 0, none⟩) P.length P) := Lib.hid ((Hr02.out.drewN k3).off (C := x2.heap.size) (g := g1) (by omega) (by omega) ho4.size (fun k hk hn => ho4.block k hk hn))
    have hb14 : Below w.heap.size w x4 := hb12.trans ((below_drewN (Below.refl _ _) k3).trans (ho4.below (by omega) (by simp; omega)))
    clear hm4 ho4 hb12
    go_wp2_with fail
    refine (held1_any g1 P.length c1 _ (by omega) Hm4.out (by omega)).mono ?_
    rintro e x5 ⟨rfl, hb5⟩
    have hz5 := hb5.size
    have Hm5 := Lib.hid (Hm4.out.below (by omega) hb5)
    have Hr05 := Lib.hid (Hr04.out.below hb5)
    have hb15 : Below w.heap.size w x5 := hb14.trans (hb5.mono (by omega))
    clear hb5 hb14
    go_wp2_with fail
    refine (implParts_any a0 b _ (by omega) (shaped_below Hsh.out hb15)).mono ?_
    rintro e x6 ⟨v2, P2, rfl, hP2, hown2, hb6⟩
    obtain rfl : P = P2 := bytes_inj (HP.out.trans hP2.symm)
    have hz6 := hb6.size
    obtain ⟨g2, c2, rfl, hg2, hg2', hr2⟩ := readOwn hown2 hP0
    have Hr2 := Lib.hid hr2
    have Hr06 := Lib.hid (Hr05.out.below hb6)
    have Hm6 := Lib.hid (Hm5.out.below (by omega) hb6)
    have hb16 : Below w.heap.size w x6 := hb15.trans (hb6.mono (by omega))
    clear hown2 hP2 hr2 hb6 hb15
    go_wp2_with fail
    refine (eqStringS_same _ _ P.length c2 c0 P _ Hr2.out Hr06.out hPn).mono ?_
    rintro e x7 ⟨rfl, k7, rfl⟩
    go_wp2_with fail
    refine (held1_any g1 P.length c1 (x6.drewN k7) (by simp; omega) Hm6.out (by omega)).mono ?_
    rintro e x8 ⟨rfl, hb8⟩
    go_wp2_with fail
    go_ret
    exact ⟨rfl, (below_drewN hb16 k7).trans (hb8.mono (by simp; omega))⟩

/-- The cells of a pinned table of numbers, for the witness. -/
def pinCells : DataW Unit → Array Value
  | .agg ds => (ds.map fun d => match d with | .lit (.int k n) => Value.int k n | _ => Value.int .u8 0).toArray
  | _ => #[]
noncomputable def witWorld0 (os : Os) : World :=
  { (World.doorLaid Tryd.prog 34 os) with heap := (World.doorLaid Tryd.prog 34 os).heap.modify 4 fun o => match o with | .cells _ t fr => .cells (pinCells Go.Pinned.utf8First) t fr | o => o }
theorem contract (H : Type) (enc : TypeId × Value → H) (W : World) (base : Nat) (args : Array Value) (ds gs : List (DataW H)) (before : List MemPlace)
    (hval : ∀ (j : Nat) t v, Tryd.f6.params[j]? = some t → args[j]? = some v → Value.okWide Tryd.prog W .any base t v)
    (hW : DataW.Whole enc Tryd.prog Tryd.f6.params.toList Rows.fnExactPartsSpec.vars false W args.toList ds gs before) (hL : laidMetH Tryd.prog Rows.fnExactPartsRow.laid W) (hsh : W.ShapedOpen Tryd.prog) :
    Calls Tryd.prog 6 args W fun e W' => ∃ v, e = .returned v ∧ Rows.fnExactPartsSpec.post enc Tryd.prog Tryd.f6 false true false false W args v W' := by
  have hW' := hW
  obtain ⟨p, q, hA0, hV, rfl, hfz, hnd⟩ := hW
  have hA : DataW.TrodAll enc Tryd.prog W 0 (fun _ => true) true Tryd.f6.params.toList args.toList ds p := hA0
  rw [Tryd.params6] at hA hval
  obtain ⟨v0, vs0, d0, ds0, p0, q0, hargs, rfl, rfl, h0, r0⟩ := trodAll_cons hA
  obtain ⟨v1, vs1, d1, ds1, p1, q1, rfl, rfl, rfl, h1, r1⟩ := trodAll_cons r0
  obtain ⟨rfl, rfl, rfl⟩ := trodAll_nil r1
  obtain rfl : args = #[v0, v1] := by cases args; simp_all
  obtain ⟨rfl, rfl⟩ := trodVars_none hV
  obtain ⟨a0, rfl, rfl, rfl, w0⟩ := open_string Tryd.underlying9 (hval 0 9 v0 rfl rfl) h0
  obtain ⟨a1, rfl, rfl, rfl, w1⟩ := open_int Tryd.underlying5 (hval 1 5 v1 rfl rfl) h1
  clear hA0
  simp only [List.append_nil] at hW'
  refine (walk a0 a1 w0 w1 W (hsh)).mono fun e W' ⟨he, hg⟩ => ?_
  subst he
  exact ⟨_, rfl, _, _, _, [], _, [], hW', (trodAll_cons_mk (shut_bool Tryd.underlying4 _) trodAll_mk0), (trodAll_cons_mk (shut_string Tryd.underlying9 w0) (trodAll_cons_mk (shut_int Tryd.underlying5 w1) trodAll_mk0)), rfl, hg.frame _, fun h => by cases h⟩

theorem laid_met (os : Os) : laidMet Tryd.prog Rows.fnExactPartsRow.laid ((witWorld0 os).forCall (fun _ _ => 0) ⟨#[], #[.string ByteArray.empty, .int .u8 0], []⟩).memory :=
  laidMet_of_run' 8 (by kernel_rfl) (by kernel_rfl)
theorem reads (os : Os) {H : Type} (enc : TypeId × Value → H) : ∃ places, DataW.whole enc Tryd.prog ((witWorld0 os).forCall (fun _ _ => 0) ⟨#[], #[.string ByteArray.empty, .int .u8 0], []⟩).memory Tryd.f6.params.toList Rows.fnExactPartsSpec.vars false (#[.string ByteArray.empty, .int .u8 0] : Array Value).toList 8 = some ([.lit (.string []), .lit (.int .u8 0)], [], places) :=
  ⟨[], by kernel_rfl⟩
set_option maxRecDepth 100000 in
theorem lifted (os : Os) (started : os.Started) (H : Type) (enc : TypeId × Value → H) (F : Stop.Interp) :
    ReturnsInHanded {} Tryd.checked os 6 .any ((OpenSpec.ofChange Rows.fnExactPartsSpec).preRow enc Tryd.prog Tryd.f6 Rows.fnExactPartsRow.domain false Rows.fnExactPartsRow.laid) (((OpenSpec.ofChange Rows.fnExactPartsSpec).at F).post enc Tryd.prog Tryd.f6 false true false false) := by
  obtain ⟨places, hx⟩ := reads os enc
  refine returnsInHanded_of_row (C := Tryd.checked) (s := OpenSpec.ofChange Rows.fnExactPartsSpec) own started (by kernel_rfl) Tryd.func6
    (witness_row_at (enc := enc) (C := Tryd.checked) false (witWorld0 os) #[.string ByteArray.empty, .int .u8 0] rfl (by kernel_rfl) (by kernel_rfl) (by kernel_rfl)
      (OpenSpec.preRow_of_cond 8 hx (by kernel_rfl) (fun k hk => by cases hk) (by kernel_rfl) (laid_met os))) ?_
  intro W base args ds gs before hval hW _ _ _ hL hsh _
  exact contract H enc W base args ds gs before hval hW hL hsh
theorem said : Rows.fnExactPartsRow.holds Tryd.pinned (OpenSpec.ofChange Rows.fnExactPartsSpec) :=
  OpenClaim.holds_of_cond 6 Tryd.f6 rfl rfl rfl rfl rfl rfl rfl ⟨rfl, rfl, rfl, rfl, rfl⟩ rfl rfl rfl rfl rfl (by kernel_rfl) Tryd.func6 (by kernel_rfl)
    (of_decide_eq_true (by kernel_rfl)) (by unfold Func.isWrapper; first | (rw [if_pos (by decide +kernel)]; kernel_rfl) | (rw [if_neg (by decide +kernel)]; exact ⟨rfl, rfl⟩))
    (fun os started H enc _ F => by rw [OpenClaim.pre_eq_preRow]; exact lifted os started H enc F)
theorem plain (f : FuncId) (fn : Func) (hf : Tryd.pinned.checked.prog.funcNamed "loop.example/g00498/laws.FnExactParts" = some f) (hfn : Tryd.pinned.checked.prog.funcs[f]? = some fn) :
    false = Tryd.pinned.checked.prog.looks [] ∧ ∀ (j : Nat) t, fn.params[j]? = some t → Tryd.pinned.checked.prog.wantsStandIn t = false := by
  obtain rfl : f = 6 := Option.some.inj ((show Tryd.prog.funcNamed "loop.example/g00498/laws.FnExactParts" = some 6 by kernel_rfl).symm.trans hf) |>.symm
  obtain rfl : fn = Tryd.f6 := (Option.some.inj (Tryd.func6.symm.trans hfn)).symm
  refine ⟨by kernel_rfl, fun j t ht => ?_⟩
  rw [Tryd.params6] at ht
  have hm : t = 9 ∨ t = 5 := by simpa using Array.mem_of_getElem? ht
  rcases hm with rfl | rfl
  · exact (show Tryd.prog.wantsStandIn 9 = false by kernel_rfl)
  · exact (show Tryd.prog.wantsStandIn 5 = false by kernel_rfl)
theorem proved : Rows.FnExactPartsCardSaid :=
  Claim7.holds_tied_plain_at .later [] _ _ _ _ said (fun _ h => by cases h) (by kernel_rfl) (fun _ h => by cases h) fnExactParts_row_tie rfl ⟨rfl, rfl⟩ (by kernel_rfl) rfl plain (by kernel_rfl)
end Go.Proofs.YtofeefkhelibpaaDoor.fnExactParts
