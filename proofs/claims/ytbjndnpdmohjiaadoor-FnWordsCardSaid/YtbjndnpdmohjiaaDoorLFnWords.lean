/-
  For every code of bytes, laws.FnWords returns true: EventWord and ErrorWord answer as the reference's, and two kinds, and two codes, have one word just if they are one. The card ties the listed tables to the program's text. No other condition.
-/
import Derived.Test.YtbjndnpdmohjiaaDoorRows
import Derived.WalkKit
import Derived.ProofKit
import Derived.OpenShut
import Derived.ShutString
import Derived.ChangeOld
import Derived.Below
import Derived.Test.YtbjndnpdmohjiaaDoorCards
import Derived.Test.YtbjndnpdmohjiaaDoorTie
import Derived.Deep.DeepHandedRow
import Derived.Lib.LaidTab
import Derived.LaidMore
import Derived.LaidHandle
import Derived.Stop.LaidErr
import Derived.Test.YtbjndnpdmohjiaaDoorEvWords
import Derived.Test.YtbjndnpdmohjiaaDoorVars
import Derived.Test.YtbjndnpdmohjiaaDoorDrawEvB
import Derived.Test.YtbjndnpdmohjiaaDoorTail
namespace Go.Proofs.YtbjndnpdmohjiaaDoor.fnWords
open Go.ChangeShapes Go.WideShapes Go.ChangeAt Go.RowKit
open Go.ChangeMaps (open_string shut_string)
set_option linter.unusedVariables false

theorem own : ownKnob Tryd.prog.godebug = none := by kernel_rfl
theorem laidOut : laidOutB Tryd.prog = true := by kernel_rfl
def IsRow (k : IntKind) (w : World) (a : Option Addr) (len cap : Nat) (zs : List Int) : Prop :=
  (a = none ∧ len = 0 ∧ cap = 0 ∧ zs = []) ∨
  ∃ x, a = some x ∧ len ≤ cap ∧ cap ≤ maxLen ∧ zs.length = cap ∧ (∀ i, i < zs.length → w.cell? (x.add i) = some (.int k (zs.getD i 0))) ∧ ∀ n ∈ zs, (Lit.int k n).wf = true
theorem len_le_cap {w : World} {a : Option Addr} {len cap : Nat} {z : List Int} (h : IsRow .u8 w a len cap z) : len ≤ cap := by
  rcases h with ⟨_, rfl, rfl, _⟩ | ⟨_, _, h, _⟩
  · exact Nat.le_refl _
  · exact h
open Num in
set_option maxHeartbeats 4000000 in
set_option maxRecDepth 100000 in
theorem walk (a0 : Option Addr) (len0 cap0 : Nat) (z0 : List Int) (w : World) (w0 : IsRow .u8 w a0 len0 cap0 z0) (htab : Num.EventTabIs w) (htab2 : Num.ErrorTabIs w) :
    Calls Tryd.prog 4 #[.slice a0 len0 cap0] w fun e w' => e = .returned (.bool true) ∧ Below w.heap.size w w' := by
  have HT := Lib.hid htab
  have HU := Lib.hid htab2
  clear htab htab2
  by_cases hb : 1048576 < len0
  · clear w0
    go_enter Tryd.func4, Tryd.ntmps4
    go_wp2
    go_ret
    exact ⟨rfl, Below.refl _ _⟩
  · have hcap := len_le_cap w0
    have hcode := codeOf w0 (by omega)
    have Hcode := Lib.hid hcode
    clear w0 hcode
    go_enter Tryd.func4, Tryd.ntmps4
    go_wp2_with (go_at_call 7; go_in)
    refine (drawEventWord_any w.heap.size a0 len0 cap0 _ (Nat.le_refl _) Hcode.out).mono ?_
    rintro e w1 ⟨x, hx, rfl, hb1⟩
    have Hx := Lib.hid hx
    have Hc2 := Lib.hid (Hcode.out.below hb1)
    clear hx
    go_wp2_with fail
    refine (tail_any w.heap.size a0 len0 cap0 _ Hc2.out hcap).mono ?_
    rintro e w1' ⟨a1, len1, cap1, rfl, hc3, rfl⟩
    have Hc3 := Lib.hid hc3
    clear hc3 Hc2 Hcode hcap
    go_wp2_with fail
    refine (drawEventWord_any w.heap.size a1 len1 cap1 _ hb1.size Hc3.out).mono ?_
    rintro e w2 ⟨y, hy, rfl, hb2⟩
    have Hy := Lib.hid hy
    have hl2 := hb1.trans (hb2.mono hb1.size)
    clear hb1 hb2 hy Hc3
    -- the words
    have E1 : Hid (∀ wx, Below w.heap.size w wx → Calls Tryd.prog 12 #[.int .i64 x] wx fun e w' => e = .returned (.string (tabWord eventTab x)) ∧ wx = w') := Lib.hid fun wx hb => implEventWord_any x wx (HT.out.all hb)
    have E2 : Hid (∀ wx, Below w.heap.size w wx → Calls Tryd.prog 12 #[.int .i64 y] wx fun e w' => e = .returned (.string (tabWord eventTab y)) ∧ wx = w') := Lib.hid fun wx hb => implEventWord_any y wx (HT.out.all hb)
    have F1 : Hid (∀ wx, Below w.heap.size w wx → Calls Tryd.prog 16 #[.int .i64 x] wx fun e w' => e = .returned (.string (tabWord errorTab x)) ∧ wx = w') := Lib.hid fun wx hb => implErrorWord_any x wx (HU.out.all hb)
    have F2 : Hid (∀ wx, Below w.heap.size w wx → Calls Tryd.prog 16 #[.int .i64 y] wx fun e w' => e = .returned (.string (tabWord errorTab y)) ∧ wx = w') := Lib.hid fun wx hb => implErrorWord_any y wx (HU.out.all hb)
    have S1 := Lib.hid (specEventWord_any x)
    have S2 := Lib.hid (specEventWord_any y)
    have T1 := Lib.hid (specErrorWord_any x)
    have I1 : Hid ((1 ≤ x ∧ x ≤ 10) → (1 ≤ y ∧ y ≤ 10) → ((tabWord eventTab x).toList == (tabWord eventTab y).toList) = (x == y) ∧ ((tabWord errorTab x).toList == (tabWord errorTab y).toList) = (x == y)) := Lib.hid fun h1 h2 => ⟨event_inj h1 h2, error_inj h1 h2⟩
    have I2 : Hid (((1 ≤ x ∧ x ≤ 10) → (tabWord eventTab x).toList.isEmpty = false) ∧ (¬ (1 ≤ x ∧ x ≤ 10) → tabWord eventTab x = ⟨#[]⟩)) := Lib.hid ⟨event_some, tabWord_no⟩
    have I3 : Hid (((1 ≤ y ∧ y ≤ 10) → (tabWord eventTab y).toList.isEmpty = false) ∧ (¬ (1 ≤ y ∧ y ≤ 10) → tabWord eventTab y = ⟨#[]⟩)) := Lib.hid ⟨event_some, tabWord_no⟩
    generalize tabWord eventTab x = sx at E1 S1 I1 I2
    generalize tabWord eventTab y = sy at E2 S2 I1 I3
    generalize tabWord errorTab x = tx at F1 T1 I1
    generalize tabWord errorTab y = ty at F2 I1
    clear HT HU
    go_wp2_with fail
    refine (E1.out _ hl2).mono ?_
    rintro e w3 ⟨rfl, rfl⟩
    go_wp2_with fail
    refine (S1.out _).mono ?_
    rintro e w4 ⟨rfl, hb4⟩
    have hl4 := hl2.trans (hb4.mono hl2.size)
    clear hl2 hb4
    go_wp2_with fail
    refine (F1.out _ hl4).mono ?_
    rintro e w5 ⟨rfl, rfl⟩
    go_wp2_with fail
    refine (T1.out _).mono ?_
    rintro e w6 ⟨rfl, hb6⟩
    have hl6 := hl4.trans (hb6.mono hl4.size)
    clear hl4 hb6
    by_cases hx : 1 ≤ x ∧ x ≤ 10
    · have hsx := I2.out.1 hx
      go_wp2_with fail
      refine (S2.out _).mono ?_
      rintro e w7 ⟨rfl, hb7⟩
      have hl7 := hl6.trans (hb7.mono hl6.size)
      clear hl6 hb7
      by_cases hy : 1 ≤ y ∧ y ≤ 10
      · have hsy := I3.out.1 hy
        obtain ⟨i1, i2⟩ := I1.out hx hy
        clear hx hy
        go_wp2_with fail
        refine (E2.out _ hl7).mono ?_
        rintro e w8 ⟨rfl, rfl⟩
        go_wp2_with fail
        refine (F1.out _ hl7).mono ?_
        rintro e w9 ⟨rfl, rfl⟩
        go_wp2_with fail
        refine (F2.out _ hl7).mono ?_
        rintro e w10 ⟨rfl, rfl⟩
        cases hq : (x == y)
        · rw [hq] at i1 i2
          go_wp2_with fail
          go_ret
          exact ⟨rfl, hl7⟩
        · rw [hq] at i1 i2
          go_wp2_with fail
          go_ret
          exact ⟨rfl, hl7⟩
      · obtain rfl := I3.out.2 hy
        have Hyy := Lib.hid hy
        obtain ⟨h1, h2⟩ := hx
        have d1 : decide (x < 1) = false := decide_eq_false (by omega)
        have d2 : decide (10 < x) = false := decide_eq_false (by omega)
        clear hy h1 h2
        by_cases h3 : y < 1
        · go_wp2_with fail
          go_ret
          exact ⟨rfl, hl7⟩
        · have h4 : 10 < y := by have := Hyy.out; omega
          have d3 : decide (y < 1) = false := decide_eq_false h3
          clear h3
          go_wp2_with fail
          go_ret
          exact ⟨rfl, hl7⟩
    · obtain rfl := I2.out.2 hx
      have Hxx := Lib.hid hx
      clear hx
      by_cases h3 : x < 1
      · go_wp2_with fail
        go_ret
        exact ⟨rfl, hl6⟩
      · have h4 : 10 < x := by have := Hxx.out; omega
        have d3 : decide (x < 1) = false := decide_eq_false h3
        clear h3
        go_wp2_with fail
        go_ret
        exact ⟨rfl, hl6⟩

set_option maxRecDepth 100000 in
theorem contract (H : Type) (enc : TypeId × Value → H) (W : World) (base : Nat) (args : Array Value) (ds gs : List (DataW H)) (before : List MemPlace)
    (hval : ∀ (j : Nat) t v, Tryd.f4.params[j]? = some t → args[j]? = some v → Value.okWide Tryd.prog W .any base t v)
    (hW : DataW.Whole enc Tryd.prog Tryd.f4.params.toList Rows.fnWordsSpec.vars false W args.toList ds gs before) (hL : laidMetH Tryd.prog Rows.fnWordsRow.laid W) (hsh : W.ShapedOpen Tryd.prog) :
    Calls Tryd.prog 4 args W fun e W' => ∃ v, e = .returned v ∧ Rows.fnWordsSpec.post enc Tryd.prog Tryd.f4 false true false false W args v W' := by
  have hW' := hW
  obtain ⟨p, q, hA0, hV, rfl, hfz, hnd⟩ := hW
  have hA : DataW.TrodAll enc Tryd.prog W 0 (fun _ => true) true Tryd.f4.params.toList args.toList ds p := hA0
  rw [Tryd.params4] at hA hval
  obtain ⟨v0, vs0, d0, ds0, p0, q0, hargs, rfl, rfl, h0, r0⟩ := trodAll_cons hA
  obtain ⟨rfl, rfl, rfl⟩ := trodAll_nil r0
  obtain rfl : args = #[v0] := by cases args; simp_all
  have hVk := hV
  obtain ⟨_, _, rfl⟩ := Num.trodVars_two hV
  obtain ⟨a0, len0, cap0, rfl⟩ := okWide_slice Tryd.underlying22 (hval 0 22 v0 rfl rfl)
  have k0 := h0
  have lt0 : ∀ x ∈ p0, x.block < W.heap.size := by obtain ⟨m, hm⟩ := k0; exact DataW.trod_lt m _ _ _ hm
  obtain ⟨z0, w0⟩ : ∃ zs, IsRow .u8 W a0 len0 cap0 zs := by
    obtain ⟨fuel, hf⟩ := h0
    rcases open_ints Tryd.underlying22 Tryd.underlying5 (by kernel_rfl) hf with ⟨hcs, _⟩ | ⟨x, l, c, zs, hcs, _, hl, hm, hz, _, hcell, hwz⟩
    · simp [Value.cells] at hcs
      obtain ⟨rfl, rfl, rfl⟩ := hcs
      exact ⟨[], .inl ⟨rfl, rfl, rfl, rfl⟩⟩
    · simp [Value.cells] at hcs
      obtain ⟨rfl, rfl, rfl⟩ := hcs
      exact ⟨zs, .inr ⟨_, rfl, hl, hm, by simpa using hz, hcell, hwz⟩⟩
  clear hA0
  refine (walk a0 len0 cap0 z0 W w0 (Num.eventTab_of hL) (Num.errorTab_of hL.tail)).mono fun e W' ⟨he, bel⟩ => ?_
  subst he
  exact ⟨_, rfl, _, _, _, [], _, _, hW', trodAll_mk1 (shut_bool Tryd.underlying4 _), (trodAll_cons_mk (Below.trod laidOut (by kernel_rfl) (of_decide_eq_true (by kernel_rfl)) k0 bel lt0) trodAll_mk0), Num.vars_again bel hVk, bel.frame _, fun h => by cases h⟩

set_option maxRecDepth 100000 in
theorem laid_met (os : Os) : laidMet Tryd.prog Rows.fnWordsRow.laid ((World.doorLaid Tryd.prog 19 os).forCall (fun _ _ => 0) ⟨#[], #[.slice none 0 0], []⟩).memory :=
  laidMet_of_run' 8 (by kernel_rfl) (by kernel_rfl)
set_option maxRecDepth 100000 in
theorem reads (os : Os) {H : Type} (enc : TypeId × Value → H) : ∃ gs places, DataW.whole enc Tryd.prog ((World.doorLaid Tryd.prog 19 os).forCall (fun _ _ => 0) ⟨#[], #[.slice none 0 0], []⟩).memory Tryd.f4.params.toList Rows.fnWordsSpec.vars false (#[.slice none 0 0] : Array Value).toList 8 = some ([.nil], gs, places) := by
  have h : (DataW.whole enc Tryd.prog ((World.doorLaid Tryd.prog 19 os).forCall (fun _ _ => 0) ⟨#[], #[.slice none 0 0], []⟩).memory Tryd.f4.params.toList Rows.fnWordsSpec.vars false (#[.slice none 0 0] : Array Value).toList 8).map (fun x => x.1) = some ([.nil] ) := by kernel_rfl
  obtain ⟨⟨a, b, p⟩, hx, e⟩ := Option.map_eq_some_iff.1 h
  simp only at e
  subst e
  exact ⟨b, p, hx⟩

set_option maxRecDepth 100000 in
theorem lifted (os : Os) (started : os.Started) (H : Type) (enc : TypeId × Value → H) (F : Stop.Interp) :
    ReturnsInHanded {} Tryd.checked os 4 .any ((OpenSpec.ofChange Rows.fnWordsSpec).preRow enc Tryd.prog Tryd.f4 Rows.fnWordsRow.domain false Rows.fnWordsRow.laid) (((OpenSpec.ofChange Rows.fnWordsSpec).at F).post enc Tryd.prog Tryd.f4 false true false false) := by
  obtain ⟨gs0, places, hx⟩ := reads os enc
  refine returnsInHanded_of_row (C := Tryd.checked) (s := OpenSpec.ofChange Rows.fnWordsSpec) own started (by kernel_rfl) Tryd.func4
    (witness_row_at (enc := enc) (C := Tryd.checked) false (World.doorLaid Tryd.prog 19 os) #[.slice none 0 0] rfl (by kernel_rfl) (by kernel_rfl) (by kernel_rfl)
      (OpenSpec.preRow_of_cond 8 hx (by kernel_rfl) (fun k hk => by cases hk) (by kernel_rfl) (laid_met os))) ?_
  intro W base args ds gs before hval hW _ _ _ hL hsh _
  exact contract H enc W base args ds gs before hval hW hL hsh
theorem said : Rows.fnWordsRow.holds Tryd.pinned (OpenSpec.ofChange Rows.fnWordsSpec) :=
  OpenClaim.holds_of_cond 4 Tryd.f4 rfl rfl rfl rfl rfl rfl rfl ⟨rfl, rfl, rfl, rfl, rfl⟩ rfl rfl rfl rfl rfl (by kernel_rfl) Tryd.func4 (by kernel_rfl)
    (of_decide_eq_true (by kernel_rfl)) (by unfold Func.isWrapper; first | (rw [if_pos (by decide +kernel)]; kernel_rfl) | (rw [if_neg (by decide +kernel)]; exact ⟨rfl, rfl⟩))
    (fun os started H enc _ F => by rw [OpenClaim.pre_eq_preRow]; exact lifted os started H enc F)
theorem plain (f : FuncId) (fn : Func) (hf : Tryd.pinned.checked.prog.funcNamed "loop.example/g00498/laws.FnWords" = some f) (hfn : Tryd.pinned.checked.prog.funcs[f]? = some fn) :
    true = Tryd.pinned.checked.prog.looks [] ∧ ∀ (j : Nat) t, fn.params[j]? = some t → Tryd.pinned.checked.prog.wantsStandIn t = false := by
  obtain rfl : f = 4 := Option.some.inj ((show Tryd.prog.funcNamed "loop.example/g00498/laws.FnWords" = some 4 by kernel_rfl).symm.trans hf) |>.symm
  obtain rfl : fn = Tryd.f4 := (Option.some.inj (Tryd.func4.symm.trans hfn)).symm
  refine ⟨by kernel_rfl, fun j t ht => ?_⟩
  rw [Tryd.params4] at ht
  obtain rfl : t = 22 := by simpa using Array.mem_of_getElem? ht
  exact (show Tryd.prog.wantsStandIn 22 = false by kernel_rfl)
theorem proved : Rows.FnWordsCardSaid :=
  Claim7.holds_tied_plain_at .later [] _ _ _ _ said (fun _ h => by cases h) (by kernel_rfl) (fun _ h => by cases h) fnWords_row_tie rfl ⟨rfl, rfl⟩ (by kernel_rfl) rfl plain (by kernel_rfl)
end Go.Proofs.YtbjndnpdmohjiaaDoor.fnWords
