/-
  For every code of bytes, laws.FnDigits returns true: a number from 0 to 999999999 is read back from its digits, other numbers' digits are not accepted, and every uint64 is read back from its numeral. The card ties the listed library tables to the program's text. No other condition.
-/
import Derived.Test.YtofeefkhelibpaaDoorRows
import Derived.WalkKit
import Derived.ProofKit
import Derived.OpenShut
import Derived.ShutString
import Derived.ChangeOld
import Derived.Below
import Derived.Test.YtofeefkhelibpaaDoorCards
import Derived.Test.YtofeefkhelibpaaDoorTie
import Derived.Deep.DeepHandedRow
import Derived.Lib.LaidTab
import Derived.LaidMore
import Derived.Stop.LaidErr
import Derived.Test.YtofeefkhelibpaaDoorDigits
import Derived.Test.YtofeefkhelibpaaDoorDrawNum
import Derived.Test.YtofeefkhelibpaaDoorNumCall
namespace Go.Proofs.YtofeefkhelibpaaDoor.fnDigits
open Go.ChangeShapes Go.WideShapes Go.ChangeAt Go.RowKit
open Go.ChangeMaps (open_string shut_string)
set_option linter.unusedVariables false

theorem own : ownKnob Tryd.prog.godebug = none := by kernel_rfl
theorem laidOut : laidOutB Tryd.prog = true := by kernel_rfl
def IsRow (k : IntKind) (w : World) (a : Option Addr) (len cap : Nat) (zs : List Int) : Prop :=
  (a = none ∧ len = 0 ∧ cap = 0 ∧ zs = []) ∨
  ∃ x, a = some x ∧ len ≤ cap ∧ cap ≤ maxLen ∧ zs.length = cap ∧ (∀ i, i < zs.length → w.cell? (x.add i) = some (.int k (zs.getD i 0))) ∧ ∀ n ∈ zs, (Lit.int k n).wf = true
open Num
theorem parse_intDec_in {n : Nat} (h : n ≤ 999999999) : parse 999999999 (intDec (n : Int)) = (n, true) := by
  have e : intDec (n : Int) = dec n := by unfold intDec; rw [if_neg (by omega)]; congr 1
  rw [e, parse_yes (numOk_dec h), val_dec]
theorem parse_intDec_big {n : Nat} (h : 999999999 < n) : parse 999999999 (intDec (n : Int)) = (0, false) := by
  have e : intDec (n : Int) = dec n := by unfold intDec; rw [if_neg (by omega)]; congr 1
  rw [e]
  apply parse_no
  simp [numOk, canon_dec, val_dec]; omega
theorem parse_intDec_neg {n : Int} (h : n < 0) : parse 999999999 (intDec n) = (0, false) := by
  apply parse_no
  unfold intDec
  rw [if_pos h]
  simp [numOk, canon, isDig]
theorem numberIs (n : Int) (m : Nat) (b : Bool) (w : World) (hp : parse 999999999 (intDec n) = (m, b)) (hl : (intDec n).length ≤ 1000) :
    Calls Tryd.prog 10 #[.string ⟨(intDec n).toArray⟩] w fun e w' => e = .returned (.tuple #[.int .i64 m, .bool b]) ∧ Below w.heap.size w w' :=
  (number_any ⟨(intDec n).toArray⟩ w (by show (intDec n).toArray.size ≤ _; rw [List.size_toArray]; omega)).mono fun e w' ⟨he, hb⟩ => ⟨by rw [he]; simp only; rw [hp], hb⟩
theorem longOfIs (u : Nat) (w : World) (h : u ≤ 18446744073709551615) :
    Calls Tryd.prog 13 #[.string ⟨(dec u).toArray⟩] w fun e w' => e = .returned (.tuple #[.int .u64 u, .bool true]) ∧ Below w.heap.size w w' :=
  (longOf_any ⟨(dec u).toArray⟩ w (by show (dec u).toArray.size ≤ _; rw [List.size_toArray]; have := dec_len64 h; omega)).mono fun e w' ⟨he, hb⟩ => ⟨by rw [he]; simp only; rw [parse_yes (numOk_dec h), val_dec], hb⟩
theorem intDec_len {n : Int} (h1 : -9223372036854775808 ≤ n) (h2 : n ≤ 9223372036854775807) : (intDec n).length ≤ 1000 := by
  have := dec_len64 (u := n.natAbs) (by omega)
  unfold intDec
  split
  · rw [List.length_cons]; omega
  · omega
set_option maxHeartbeats 1600000 in
theorem walk (a0 : Option Addr) (len0 cap0 : Nat) (z0 : List Int) (w : World) (w0 : IsRow .u8 w a0 len0 cap0 z0) (htab : Go.Lib.TabIs Tryd.prog w "internal/strconv.uint64pow10" .u64 Go.Lib.pow10Tab) :
    Calls Tryd.prog 3 #[.slice a0 len0 cap0] w fun e w' => e = .returned (.bool true) ∧ Below w.heap.size w w' := by
  by_cases hb : 1048576 < len0
  · clear w0 htab
    go_enter Tryd.func3, Tryd.ntmps3
    go_wp2
    go_ret
    exact ⟨rfl, Below.refl _ _⟩
  · have hcode := codeOf w0 (by omega)
    have Hcode := Lib.hid hcode
    clear w0 hcode
    go_enter Tryd.func3, Tryd.ntmps3
    go_wp2_with (go_at_call 8; go_in)
    refine (drawDigits_any a0 len0 cap0 _ Hcode.out).mono ?_
    rintro e w1 ⟨n, hn1, hn2, rfl, hb1⟩
    have hz1 := hb1.size
    have Hn1 := Lib.hid hn1
    have Hn2 := Lib.hid hn2
    clear hn1 hn2
    go_wp2_with fail
    refine (implDigits_any n _ Hn1.out Hn2.out (tabIs_below htab hb1)).mono ?_
    rintro e w2 ⟨rfl, hb2⟩
    have hz2 := hb2.size
    have hp : ∃ (m : Nat) (b : Bool), Hid (parse 999999999 (intDec n) = (m, b)) ∧ (((n < 0 ∨ 999999999 < n) ∧ m = 0 ∧ b = false) ∨ (0 ≤ n ∧ n ≤ 999999999 ∧ n = m ∧ b = true)) := by
      by_cases h1 : n < 0
      · exact ⟨0, false, Lib.hid (parse_intDec_neg h1), .inl ⟨.inl h1, rfl, rfl⟩⟩
      · obtain ⟨k, rfl⟩ := Int.eq_ofNat_of_zero_le (show 0 ≤ n by omega)
        by_cases h2 : 999999999 < k
        · exact ⟨0, false, Lib.hid (parse_intDec_big h2), .inl ⟨.inr (by omega), rfl, rfl⟩⟩
        · exact ⟨k, true, Lib.hid (parse_intDec_in (by omega)), .inr ⟨by omega, by omega, rfl, rfl⟩⟩
    obtain ⟨m, b, Hp, hcase⟩ := hp
    have Hcase := Lib.hid hcase
    clear hcase
    go_wp2_with fail
    refine (numberIs n m b _ Hp.out (intDec_len Hn1.out Hn2.out)).mono ?_
    rintro e w3 ⟨rfl, hb3⟩
    have hz3 := hb3.size
    have hb13 : Below w.heap.size w w3 := (hb1.trans (hb2.mono hz1)).trans (hb3.mono (by omega))
    clear hb1 hb2 hb3
    go_wp2_with fail
    refine (drawLong_any a0 len0 cap0 _ (Hcode.out.grow hb13 (by omega))).mono ?_
    rintro e w4 ⟨u, hu, rfl, hb4⟩
    have Hu := Lib.hid hu
    clear hu
    have hz4 := hb4.size
    have hb14 : Below w.heap.size w w4 := hb13.trans (hb4.mono (by omega))
    clear hb13 hb4
    go_wp2_with fail
    refine (implLong_any u _ Hu.out (tabIs_below htab hb14)).mono ?_
    rintro e w5 ⟨rfl, hb5⟩
    have hz5 := hb5.size
    go_wp2_with fail
    refine (longOfIs u _ Hu.out).mono ?_
    rintro e w6 ⟨rfl, hb6⟩
    have hb16 : Below w.heap.size w w6 := (hb14.trans (hb5.mono (by omega))).trans (hb6.mono (by omega))
    clear hb14 hb5 hb6
    rcases Hcase.out with ⟨hn, rfl, rfl⟩ | ⟨h1, h2, rfl, rfl⟩
    · rcases hn with hn | hn
      · go_wp2_with fail
        go_ret
        exact ⟨rfl, hb16⟩
      · have hn2 : ¬ n < 0 := by omega
        go_wp2_with fail
        go_ret
        exact ⟨rfl, hb16⟩
    · go_wp2_with fail
      go_ret
      exact ⟨rfl, hb16⟩

theorem contract (H : Type) (enc : TypeId × Value → H) (W : World) (base : Nat) (args : Array Value) (ds gs : List (DataW H)) (before : List MemPlace)
    (hval : ∀ (j : Nat) t v, Tryd.f3.params[j]? = some t → args[j]? = some v → Value.okWide Tryd.prog W .any base t v)
    (hW : DataW.Whole enc Tryd.prog Tryd.f3.params.toList Rows.fnDigitsSpec.vars false W args.toList ds gs before) (hL : laidMetH Tryd.prog Rows.fnDigitsRow.laid W) (hsh : W.ShapedOpen Tryd.prog) :
    Calls Tryd.prog 3 args W fun e W' => ∃ v, e = .returned v ∧ Rows.fnDigitsSpec.post enc Tryd.prog Tryd.f3 false true false false W args v W' := by
  have hW' := hW
  obtain ⟨p, q, hA0, hV, rfl, hfz, hnd⟩ := hW
  have hA : DataW.TrodAll enc Tryd.prog W 0 (fun _ => true) true Tryd.f3.params.toList args.toList ds p := hA0
  rw [Tryd.params3] at hA hval
  obtain ⟨v0, vs0, d0, ds0, p0, q0, hargs, rfl, rfl, h0, r0⟩ := trodAll_cons hA
  obtain ⟨rfl, rfl, rfl⟩ := trodAll_nil r0
  obtain rfl : args = #[v0] := by cases args; simp_all
  obtain ⟨rfl, rfl⟩ := trodVars_none hV
  obtain ⟨a0, len0, cap0, rfl⟩ := okWide_slice Tryd.underlying22 (hval 0 22 v0 rfl rfl)
  have k0 := h0
  have lt0 : ∀ x ∈ p0, x.block < W.heap.size := by obtain ⟨m, hm⟩ := k0; exact DataW.trod_lt m _ _ _ hm
  obtain ⟨z0, w0⟩ : ∃ zs, IsRow .u8 W a0 len0 cap0 zs := by
    obtain ⟨fuel, hf⟩ := h0
    rcases open_ints Tryd.underlying22 Tryd.underlying5 (by kernel_rfl) hf with ⟨hcs, _⟩ | ⟨x, l, c, zs, hcs, _, hl, hm, hz, _, hcell, hwz⟩
    · simp [Value.cells] at hcs
      obtain ⟨rfl, rfl, rfl⟩ := hcs
      exact ⟨[], .inl ⟨rfl, rfl, rfl, rfl⟩⟩
    · simp [Value.cells] at hcs
      obtain ⟨rfl, rfl, rfl⟩ := hcs
      exact ⟨zs, .inr ⟨_, rfl, hl, hm, by simpa using hz, hcell, hwz⟩⟩
  clear hA0
  refine (walk a0 len0 cap0 z0 W w0 (Num.pow10_of hL.tail.tail)).mono fun e W' ⟨he, bel⟩ => ?_
  subst he
  exact ⟨_, rfl, _, _, _, [], _, [], hW', trodAll_mk1 (shut_bool Tryd.underlying4 _), (trodAll_cons_mk (Below.trod laidOut (by kernel_rfl) (of_decide_eq_true (by kernel_rfl)) k0 bel lt0) trodAll_mk0), rfl, bel.frame _, fun h => by cases h⟩

theorem laid_met (os : Os) : laidMet Tryd.prog Rows.fnDigitsRow.laid ((World.doorLaid Tryd.prog 34 os).forCall (fun _ _ => 0) ⟨#[], #[.slice none 0 0], []⟩).memory :=
  laidMet_of_run' 8 (by kernel_rfl) (by kernel_rfl)
theorem reads (os : Os) {H : Type} (enc : TypeId × Value → H) : ∃ places, DataW.whole enc Tryd.prog ((World.doorLaid Tryd.prog 34 os).forCall (fun _ _ => 0) ⟨#[], #[.slice none 0 0], []⟩).memory Tryd.f3.params.toList Rows.fnDigitsSpec.vars false (#[.slice none 0 0] : Array Value).toList 8 = some ([.nil], [], places) :=
  ⟨[], by kernel_rfl⟩
set_option maxRecDepth 100000 in
theorem lifted (os : Os) (started : os.Started) (H : Type) (enc : TypeId × Value → H) (F : Stop.Interp) :
    ReturnsInHanded {} Tryd.checked os 3 .any ((OpenSpec.ofChange Rows.fnDigitsSpec).preRow enc Tryd.prog Tryd.f3 Rows.fnDigitsRow.domain false Rows.fnDigitsRow.laid) (((OpenSpec.ofChange Rows.fnDigitsSpec).at F).post enc Tryd.prog Tryd.f3 false true false false) := by
  obtain ⟨places, hx⟩ := reads os enc
  refine returnsInHanded_of_row (C := Tryd.checked) (s := OpenSpec.ofChange Rows.fnDigitsSpec) own started (by kernel_rfl) Tryd.func3
    (witness_row_at (enc := enc) (C := Tryd.checked) false (World.doorLaid Tryd.prog 34 os) #[.slice none 0 0] rfl (by kernel_rfl) (by kernel_rfl) (by kernel_rfl)
      (OpenSpec.preRow_of_cond 8 hx (by kernel_rfl) (fun k hk => by cases hk) (by kernel_rfl) (laid_met os))) ?_
  intro W base args ds gs before hval hW _ _ _ hL hsh _
  exact contract H enc W base args ds gs before hval hW hL hsh
theorem said : Rows.fnDigitsRow.holds Tryd.pinned (OpenSpec.ofChange Rows.fnDigitsSpec) :=
  OpenClaim.holds_of_cond 3 Tryd.f3 rfl rfl rfl rfl rfl rfl rfl ⟨rfl, rfl, rfl, rfl, rfl⟩ rfl rfl rfl rfl rfl (by kernel_rfl) Tryd.func3 (by kernel_rfl)
    (of_decide_eq_true (by kernel_rfl)) (by unfold Func.isWrapper; first | (rw [if_pos (by decide +kernel)]; kernel_rfl) | (rw [if_neg (by decide +kernel)]; exact ⟨rfl, rfl⟩))
    (fun os started H enc _ F => by rw [OpenClaim.pre_eq_preRow]; exact lifted os started H enc F)
theorem plain (f : FuncId) (fn : Func) (hf : Tryd.pinned.checked.prog.funcNamed "loop.example/g00498/laws.FnDigits" = some f) (hfn : Tryd.pinned.checked.prog.funcs[f]? = some fn) :
    false = Tryd.pinned.checked.prog.looks [] ∧ ∀ (j : Nat) t, fn.params[j]? = some t → Tryd.pinned.checked.prog.wantsStandIn t = false := by
  obtain rfl : f = 3 := Option.some.inj ((show Tryd.prog.funcNamed "loop.example/g00498/laws.FnDigits" = some 3 by kernel_rfl).symm.trans hf) |>.symm
  obtain rfl : fn = Tryd.f3 := (Option.some.inj (Tryd.func3.symm.trans hfn)).symm
  refine ⟨by kernel_rfl, fun j t ht => ?_⟩
  rw [Tryd.params3] at ht
  obtain rfl : t = 22 := by simpa using Array.mem_of_getElem? ht
  exact (show Tryd.prog.wantsStandIn 22 = false by kernel_rfl)
theorem proved : Rows.FnDigitsCardSaid :=
  Claim7.holds_tied_plain_at .later [] _ _ _ _ said (fun _ h => by cases h) (by kernel_rfl) (fun _ h => by cases h) fnDigits_row_tie rfl ⟨rfl, rfl⟩ (by kernel_rfl) rfl plain (by kernel_rfl)
end Go.Proofs.YtofeefkhelibpaaDoor.fnDigits
