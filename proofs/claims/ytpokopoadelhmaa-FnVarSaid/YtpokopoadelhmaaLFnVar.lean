/-
  For every code of bytes, laws.FnVar returns true: a varint that PadVar wrote, of any length, is read back by GetVar behind other bytes; PadVar refuses just the lengths below VarLen and above ten; at VarLen it is PutVar. No condition.
-/
import Derived.Test.YtpokopoadelhmaaRows
import Derived.WalkKit
import Derived.ProofKit
import Derived.OpenShut
import Derived.ShutString
import Derived.ChangeOld
import Derived.Below
import Derived.Test.YtpokopoadelhmaaDrawVar
import Derived.Test.YtpokopoadelhmaaVarImpl
import Derived.Test.YtpokopoadelhmaaVarLaw
namespace Go.Proofs.Ytpokopoadelhmaa.fnVar
open Go.ChangeShapes Go.WideShapes Go.ChangeAt Go.RowKit
open Go.ChangeMaps (open_string shut_string)
set_option linter.unusedVariables false

theorem own : ownKnob Try.prog.godebug = none := by kernel_rfl
theorem laidOut : laidOutB Try.prog = true := by kernel_rfl

/-- WHAT THE WALK IS TOLD OF A SLICE OF INTEGERS THAT CAME IN: it is nil; or it leads to a row of 'cap' cells, the numbers 'zs' (the first 'len' are its elements, the rest its spare room), each fitting its kind. -/
def IsRow (k : IntKind) (w : World) (a : Option Addr) (len cap : Nat) (zs : List Int) : Prop :=
  (a = none ∧ len = 0 ∧ cap = 0 ∧ zs = []) ∨
  ∃ x, a = some x ∧ len ≤ cap ∧ cap ≤ maxLen ∧ zs.length = cap ∧ (∀ i, i < zs.length → w.cell? (x.add i) = some (.int k (zs.getD i 0))) ∧ ∀ n ∈ zs, (Lit.int k n).wf = true

/-! ### STEP 1: THE WALK: the Go text returns true, AND WRITES NOTHING THAT WAS THERE: 'Below w.heap.size w w'' (Derived/Below.lean: '.refl', '.alloc', '.drew', '.setCell' at a new block, '.trans'). Open each 'IsRow' by 'rcases' AHEAD of 'go_enter'; part every test ahead of the walk. -/
open Num in
theorem getBack (u N : Nat) (w : World) (hu : u ≤ 18446744073709551615) (h1 : Var.varLen u ≤ N) (h2 : N ≤ 10) : Calls Try.prog 14 #[.string (⟨#[97, 98]⟩ ++ padS u (N : Int) ++ ⟨#[99]⟩), .int .i64 2] w fun e w' => e = .returned (.tuple #[.int .u64 u, .int .i64 (2 + (N : Int)), .int .i64 0]) ∧ Below w.heap.size w w' := by
  have hp := padS_size u (N : Int)
  have hr := getR_pad u N hu h1 h2 97 98 99 (⟨#[97, 98]⟩ ++ padS u (N : Int) ++ ⟨#[99]⟩) (by rw [padS_in ⟨by omega, by omega⟩]; simp)
  refine (implGetVar_any _ 2 w (by simp only [ByteArray.size_append]; have e1 : (ByteArray.mk #[97, 98]).size = 2 := rfl; have e2 : (ByteArray.mk #[99]).size = 1 := rfl; omega)).mono fun e w' ⟨he, hb⟩ => ⟨?_, hb⟩
  rw [he, hr]; rfl
open Num in
theorem padSelf (u : Nat) (w : World) (hu : u ≤ 18446744073709551615) : Calls Try.prog 12 #[.int .u64 u, .int .i64 (Var.varLen u)] w fun e w' => e = .returned (.string (varS u)) ∧ Below w.heap.size w w' :=
  (implPadVar_any u _ w hu).mono fun e w' ⟨he, hb⟩ => ⟨by rw [he, padS_self u hu], hb⟩
open Num in
set_option maxHeartbeats 1600000 in
theorem walk (a0 : Option Addr) (len0 cap0 : Nat) (z0 : List Int) (w : World) (w0 : IsRow .u8 w a0 len0 cap0 z0) :
    Calls Try.prog 3 #[.slice a0 len0 cap0] w fun e w' => e = .returned (.bool true) ∧ Below w.heap.size w w' := by
  by_cases hb : 1048576 < len0
  · clear w0
    go_enter Try.func3, Try.ntmps3
    go_wp2
    go_ret
    exact ⟨rfl, Below.refl _ _⟩
  · have hcode := codeOf w0 (by omega)
    have Hcode := Lib.hid hcode
    clear w0 hcode
    go_enter Try.func3, Try.ntmps3
    go_wp2_with (go_at_call 10; go_in)
    refine (drawPadVar_any a0 len0 cap0 _ Hcode.out).mono ?_
    rintro e w1 ⟨u, n, hu, hn0, hn1, rfl, hb1⟩
    have Hu := Lib.hid hu
    have hl10 := Var.varLen_64 hu
    have hz1 := hb1.size
    clear hu
    go_wp2_with fail
    refine (implPadVar_any u n _ Hu.out).mono ?_
    rintro e w2 ⟨rfl, hb2⟩
    have hz2 := hb2.size
    have hb12 : Below w.heap.size w w2 := hb1.trans (hb2.mono hz1)
    clear hb1 hb2
    by_cases hin : (Var.varLen u : Int) ≤ n ∧ n ≤ 10
    · obtain ⟨N, rfl⟩ := Int.eq_ofNat_of_zero_le (show 0 ≤ n by omega)
      have hps : (padS u (N : Int)).size = N := by rw [padS_in hin]; unfold ByteArray.size; simp only [List.size_toArray, Var.enc_length]; omega
      have hpos := Var.varLen_pos u
      have hemp : (padS u (N : Int)).toList.isEmpty = false := by
        rw [ByteArray.toList_eq]
        cases hl : (padS u (N : Int)).data.toList with
        | nil =>
          have h3 : (padS u (N : Int)).data.toList.length = (padS u (N : Int)).size := by simp
          rw [hl] at h3; simp only [List.length_nil] at h3; omega
        | cons => rfl
      have Hin : Hid (Var.varLen u ≤ N ∧ N ≤ 10) := Lib.hid (by omega)
      have hleN : ((Var.varLen u : Nat) : Int) ≤ (N : Int) := hin.1
      have hg := getBack u N
      have Hg := Lib.hid hg; clear hg
      generalize padS u (N : Int) = t at hps hemp Hg
      have hN10 : N ≤ 10 := by omega
      clear hin hn0 hn1
      go_wp2_with fail
      refine (Hg.out _ Hu.out Hin.out.1 Hin.out.2).mono ?_
      rintro e w3 ⟨rfl, hb3⟩
      have hz3 := hb3.size
      have hb13 := hb12.trans (hb3.mono (by omega))
      have hlen : ((t.size : Int) == (N : Int)) = true := by rw [beq_iff_eq, hps]
      clear hb12 hb3
      go_wp2_with fail
      refine (implVarLen_any u _ Hu.out).mono ?_
      rintro e w4 ⟨rfl, hb4⟩
      have hz4 := hb4.size
      have hb14 := hb13.trans (hb4.mono (by omega))
      clear hb13 hb4
      go_wp2_with fail
      refine (implVarLen_any u _ Hu.out).mono ?_
      rintro e w5 ⟨rfl, hb5⟩
      have hz5 := hb5.size
      have hb15 := hb14.trans (hb5.mono (by omega))
      clear hb14 hb5
      go_wp2_with fail
      refine (padSelf u _ Hu.out).mono ?_
      rintro e w6 ⟨rfl, hb6⟩
      have hz6 := hb6.size
      have hb16 := hb15.trans (hb6.mono (by omega))
      clear hb15 hb6
      go_wp2_with fail
      refine (implPutVar_any u _ Hu.out).mono ?_
      rintro e w7 ⟨rfl, hb7⟩
      have hb17 := hb16.trans (hb7.mono (by omega))
      clear hb16 hb7
      go_wp2_with fail
      go_ret
      exact ⟨rfl, hb17⟩
    · have hps : padS u n = ⟨#[]⟩ := padS_out hin
      rw [hps]
      go_wp2_with fail
      refine (specVarLen_any u _ Hu.out).mono ?_
      rintro e w3 ⟨rfl, hb3⟩
      have hb13 := hb12.trans (hb3.mono (by omega))
      clear hb12 hb3
      by_cases hlt : n < (Var.varLen u : Int)
      · go_wp2_with fail
        go_ret
        exact ⟨rfl, hb13⟩
      · have hgt : 10 < n := by omega
        go_wp2_with fail
        go_ret
        exact ⟨rfl, hb13⟩

/-! ### THE ROW's STEP: WRITTEN OUT: LEAVE IT -/
set_option maxRecDepth 100000 in
theorem lifted (os : Os) (started : os.Started) (H : Type) (enc : TypeId × Value → H) :
    ReturnsInHanded {} Try.checked os 3 .any (Rows.fnVarSpec.pre6 enc Try.prog Try.f3 Rows.fnVarRow.domain false) (Rows.fnVarSpec.post enc Try.prog Try.f3 false true false false) := by
  refine returnsInHanded_of_change (C := Try.checked) own started (by kernel_rfl) Try.func3
    (ChangeSpec.witness6 (enc := enc) (C := Try.checked) false ⟨#[], #[.slice none 0 0], []⟩ 8 (by kernel_rfl) (by kernel_rfl) (by kernel_rfl) (by kernel_rfl)) ?_
  intro W base args ds gs before hval0 hW hcnd _
  have hval : ∀ (j : Nat) t v, Try.f3.params[j]? = some t → args[j]? = some v → Value.okWide Try.prog W .any base t v := hval0
  have hW' := hW
  obtain ⟨p, q, hA0, hV, rfl, hfz, hnd⟩ := hW
  have hA : DataW.TrodAll enc Try.prog W 0 (fun _ => true) true Try.f3.params.toList args.toList ds p := hA0
  rw [Try.params3] at hA hval
  obtain ⟨v0, vs0, d0, ds0, p0, q0, hargs, rfl, rfl, h0, r0⟩ := trodAll_cons hA
  obtain ⟨rfl, rfl, rfl⟩ := trodAll_nil r0
  obtain rfl : args = #[v0] := by cases args; simp_all
  obtain ⟨rfl, rfl⟩ := trodVars_none hV
  obtain ⟨a0, len0, cap0, rfl⟩ := okWide_slice Try.underlying22 (hval 0 22 v0 rfl rfl)
  have k0 := h0
  have lt0 : ∀ x ∈ p0, x.block < W.heap.size := by obtain ⟨m, hm⟩ := k0; exact DataW.trod_lt m _ _ _ hm
  obtain ⟨z0, w0⟩ : ∃ zs, IsRow .u8 W a0 len0 cap0 zs := by
    obtain ⟨fuel, hf⟩ := h0
    rcases open_ints Try.underlying22 Try.underlying5 (by kernel_rfl) hf with ⟨hcs, _⟩ | ⟨x, l, c, zs, hcs, _, hl, hm, hz, _, hcell, hwz⟩
    · simp [Value.cells] at hcs
      obtain ⟨rfl, rfl, rfl⟩ := hcs
      exact ⟨[], .inl ⟨rfl, rfl, rfl, rfl⟩⟩
    · simp [Value.cells] at hcs
      obtain ⟨rfl, rfl, rfl⟩ := hcs
      exact ⟨zs, .inr ⟨_, rfl, hl, hm, by simpa using hz, hcell, hwz⟩⟩
  clear hA0 hval0
  refine (walk a0 len0 cap0 z0 W w0).mono fun e W' ⟨he, bel⟩ => ?_
  subst he
  exact ⟨_, rfl, _, _, _, [], _, [], hW', trodAll_mk1 (shut_bool Try.underlying4 _), (trodAll_cons_mk (Below.trod laidOut (by kernel_rfl) (of_decide_eq_true (by kernel_rfl)) k0 bel lt0) trodAll_mk0), rfl, bel.frame _, fun h => by cases h⟩

theorem over : Rows.fnVarRow.holds Try.pinned (OpenSpec.ofChange Rows.fnVarSpec) :=
  OpenClaim.holds_of_wide 3 Try.f3 rfl rfl rfl rfl rfl rfl rfl ⟨rfl, rfl, rfl, rfl, rfl⟩ rfl rfl rfl rfl rfl (by kernel_rfl) Try.func3 (by kernel_rfl)
    (of_decide_eq_true (by kernel_rfl)) (by unfold Func.isWrapper; first | (rw [if_pos (by decide +kernel)]; kernel_rfl) | (rw [if_neg (by decide +kernel)]; exact ⟨rfl, rfl⟩))
    (fun os started H enc _ => lifted os started H enc)

/-- ████ THE STATEMENT ████ -/
theorem proved : Rows.FnVarSaid := over
end Go.Proofs.Ytpokopoadelhmaa.fnVar
