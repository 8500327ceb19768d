/-
  For every code of bytes, laws.FnScanRight returns true: ScanByte answers as the reference's; a refused byte leaves the state; a byte that is taken counts one, leaves a state that is right where more is wanted, and more is wanted just above 127. No condition.
-/
import Derived.Test.YtdnpambdonhliaaRows
import Derived.WalkKit
import Derived.ProofKit
import Derived.OpenShut
import Derived.ShutString
import Derived.ChangeOld
import Derived.Below
import Derived.Test.YtdnpambdonhliaaDrawScan
import Derived.Test.YtdnpambdonhliaaScanByte
namespace Go.Proofs.Ytdnpambdonhliaa.fnScanRight
open Go.ChangeShapes Go.WideShapes Go.ChangeAt Go.RowKit
open Go.ChangeMaps (open_string shut_string)
set_option linter.unusedVariables false

theorem own : ownKnob Try.prog.godebug = none := by kernel_rfl
theorem laidOut : laidOutB Try.prog = true := by kernel_rfl

/-- WHAT THE WALK IS TOLD OF A SLICE OF INTEGERS THAT CAME IN: it is nil; or it leads to a row of 'cap' cells, the numbers 'zs' (the first 'len' are its elements, the rest its spare room), each fitting its kind. -/
def IsRow (k : IntKind) (w : World) (a : Option Addr) (len cap : Nat) (zs : List Int) : Prop :=
  (a = none ∧ len = 0 ∧ cap = 0 ∧ zs = []) ∨
  ∃ x, a = some x ∧ len ≤ cap ∧ cap ≤ maxLen ∧ zs.length = cap ∧ (∀ i, i < zs.length → w.cell? (x.add i) = some (.int k (zs.getD i 0))) ∧ ∀ n ∈ zs, (Lit.int k n).wf = true

/-! ### STEP 1: THE WALK: the Go text returns true, AND WRITES NOTHING THAT WAS THERE: 'Below w.heap.size w w'' (Derived/Below.lean: '.refl', '.alloc', '.drew', '.setCell' at a new block, '.trans'). Open each 'IsRow' by 'rcases' AHEAD of 'go_enter'; part every test ahead of the walk. -/
open Num in
theorem scan_cases (b : Nat) (h x : Int) : scanByteR b h x = (b, h, 2) ∨ ∃ (V : Nat) (C : Int), scanByteR b h x = (V, h + 1, C) ∧ (0 ≤ h ∧ h ≤ 9) ∧ ((C = 1 ∧ x ≤ 127) ∨ (C = 0 ∧ 127 < x ∧ scanOkB V (h + 1) = true)) := by
  unfold scanByteR
  split
  · next hc =>
    obtain ⟨hok, hx, h9⟩ := hc
    unfold scanOkB at hok
    simp only [Bool.and_eq_true, decide_eq_true_iff] at hok
    obtain ⟨⟨h0, h9'⟩, hlt⟩ := hok
    obtain ⟨k, rfl⟩ := Int.eq_ofNat_of_zero_le h0
    obtain ⟨X, rfl⟩ := Int.eq_ofNat_of_zero_le hx.1
    rw [Int.toNat_natCast] at hlt
    simp only [Int.toNat_natCast]
    right
    refine ⟨_, _, rfl, ⟨by omega, by omega⟩, ?_⟩
    by_cases hX : (X : Int) < 128
    · exact .inl ⟨if_pos hX, by omega⟩
    · refine .inr ⟨if_neg hX, by omega, ?_⟩
      unfold scanOkB
      rw [Bool.and_eq_true, decide_eq_true_iff, decide_eq_true_iff]
      exact ⟨by omega, by rw [show ((k : Int) + 1).toNat = k + 1 by omega]; exact step_lt hlt⟩
  · exact .inl rfl
open Num in
theorem scanOk_yes (b : Nat) (h : Int) (hb : b ≤ 18446744073709551615) (hok : scanOkB b h = true) (w : World) : Calls Try.prog 25 #[.agg #[.int .u64 b, .int .i64 h]] w fun e w' => e = .returned (.bool true) ∧ Below w.heap.size w w' :=
  (implScanOk_any b h hb w).mono fun e w' ⟨he, hB⟩ => ⟨by rw [he, hok], hB⟩
open Num in
set_option maxHeartbeats 1600000 in
theorem walk (a0 : Option Addr) (len0 cap0 : Nat) (z0 : List Int) (w : World) (w0 : IsRow .u8 w a0 len0 cap0 z0) :
    Calls Try.prog 5 #[.slice a0 len0 cap0] w fun e w' => e = .returned (.bool true) ∧ Below w.heap.size w w' := by
  by_cases hb : 1048576 < len0
  · clear w0
    go_enter Try.func5, Try.ntmps5
    go_wp2
    go_ret
    exact ⟨rfl, Below.refl _ _⟩
  · have hcode := codeOf w0 (by omega)
    have Hcode := Lib.hid hcode
    clear w0 hcode
    go_enter Try.func5, Try.ntmps5
    go_wp2_with (go_at_call 14; go_in)
    refine (drawScanByte_any a0 len0 cap0 _ Hcode.out).mono ?_
    rintro e w1 ⟨b, h, x, hb', hhB, hxB, rfl, hb1⟩
    have Hb := Lib.hid hb'
    have hx1 : -9223372036854775808 ≤ x := hxB.1
    have hx2 : x ≤ 9223372036854775807 := hxB.2
    obtain ⟨V, H, C, hR, hV, hH⟩ := scan_some b h x hb' hhB
    have HR := Lib.hid hR
    have HV := Lib.hid hV
    have hcs := scan_cases b h x
    rw [hR] at hcs
    have Hcs := Lib.hid hcs
    clear hb' hhB hxB hR hV hH hcs
    simp only [scV]
    go_wp2_with fail
    have hb2 : Below w.heap.size w (w1.alloc (.cells #[.int .u64 b, .int .i64 h] 30)) := hb1.alloc hb1.size _
    refine (implScanByte_any b h x Hb.out _).mono ?_
    rw [HR.out]
    rintro e w3 ⟨rfl, hb3⟩
    simp only [scV]
    obtain ⟨hc3, _⟩ := bcell hb3
    have hz3 := alloc_lt hb3
    have hw3 : Below w.heap.size w w3 := hb1.trans ((from_alloc hb3).mono hb1.size)
    go_wp2_with fail
    refine (specScanByte_as b h x _ V H C HR.out).mono ?_
    rintro e w4 ⟨rfl, hb4⟩
    obtain ⟨hc4, _⟩ := bcell hb4
    have hz4 := alloc_lt hb4
    have hz34 : w1.heap.size < w4.heap.size := by omega
    have hw4 : Below w.heap.size w w4 := hw3.trans ((from_alloc hb4).mono hw3.size)
    rcases Hcs.out with hE | ⟨V', C', hE, hh, hcase⟩
    · obtain ⟨rfl, rfl, rfl⟩ : V = b ∧ H = h ∧ C = 2 := by injection hE with e1 e2; injection e2 with e2 e3; exact ⟨e1, e2, e3⟩
      clear hE
      go_wp2_with fail
      go_ret
      exact ⟨rfl, hw4.alloc hw4.size _⟩
    · obtain ⟨rfl, rfl, rfl⟩ : V = V' ∧ H = h + 1 ∧ C = C' := by injection hE with e1 e2; injection e2 with e2 e3; exact ⟨e1, e2, e3⟩
      clear hE
      rcases hcase with ⟨rfl, hx⟩ | ⟨rfl, hx, hok⟩
      · have hxd : decide ((127 : Int) < x) = false := decide_eq_false (by omega)
        go_wp2_with fail
        go_ret
        exact ⟨rfl, hw4.alloc hw4.size _⟩
      · have Hok := Lib.hid hok
        clear hok
        go_wp2_with fail
        refine (scanOk_yes V (h + 1) HV.out Hok.out _).mono ?_
        rintro e w5 ⟨rfl, hb5⟩
        go_wp2_with fail
        go_ret
        exact ⟨rfl, (hw4.alloc hw4.size _).trans (hb5.mono (by have := hw4.size; simp; omega))⟩

/-! ### THE ROW's STEP: WRITTEN OUT: LEAVE IT -/
set_option maxRecDepth 100000 in
theorem lifted (os : Os) (started : os.Started) (H : Type) (enc : TypeId × Value → H) :
    ReturnsInHanded {} Try.checked os 5 .any (Rows.fnScanRightSpec.pre6 enc Try.prog Try.f5 Rows.fnScanRightRow.domain false) (Rows.fnScanRightSpec.post enc Try.prog Try.f5 false true false false) := by
  refine returnsInHanded_of_change (C := Try.checked) own started (by kernel_rfl) Try.func5
    (ChangeSpec.witness6 (enc := enc) (C := Try.checked) false ⟨#[], #[.slice none 0 0], []⟩ 8 (by kernel_rfl) (by kernel_rfl) (by kernel_rfl) (by kernel_rfl)) ?_
  intro W base args ds gs before hval0 hW hcnd _
  have hval : ∀ (j : Nat) t v, Try.f5.params[j]? = some t → args[j]? = some v → Value.okWide Try.prog W .any base t v := hval0
  have hW' := hW
  obtain ⟨p, q, hA0, hV, rfl, hfz, hnd⟩ := hW
  have hA : DataW.TrodAll enc Try.prog W 0 (fun _ => true) true Try.f5.params.toList args.toList ds p := hA0
  rw [Try.params5] at hA hval
  obtain ⟨v0, vs0, d0, ds0, p0, q0, hargs, rfl, rfl, h0, r0⟩ := trodAll_cons hA
  obtain ⟨rfl, rfl, rfl⟩ := trodAll_nil r0
  obtain rfl : args = #[v0] := by cases args; simp_all
  obtain ⟨rfl, rfl⟩ := trodVars_none hV
  obtain ⟨a0, len0, cap0, rfl⟩ := okWide_slice Try.underlying22 (hval 0 22 v0 rfl rfl)
  have k0 := h0
  have lt0 : ∀ x ∈ p0, x.block < W.heap.size := by obtain ⟨m, hm⟩ := k0; exact DataW.trod_lt m _ _ _ hm
  obtain ⟨z0, w0⟩ : ∃ zs, IsRow .u8 W a0 len0 cap0 zs := by
    obtain ⟨fuel, hf⟩ := h0
    rcases open_ints Try.underlying22 Try.underlying5 (by kernel_rfl) hf with ⟨hcs, _⟩ | ⟨x, l, c, zs, hcs, _, hl, hm, hz, _, hcell, hwz⟩
    · simp [Value.cells] at hcs
      obtain ⟨rfl, rfl, rfl⟩ := hcs
      exact ⟨[], .inl ⟨rfl, rfl, rfl, rfl⟩⟩
    · simp [Value.cells] at hcs
      obtain ⟨rfl, rfl, rfl⟩ := hcs
      exact ⟨zs, .inr ⟨_, rfl, hl, hm, by simpa using hz, hcell, hwz⟩⟩
  clear hA0 hval0
  refine (walk a0 len0 cap0 z0 W w0).mono fun e W' ⟨he, bel⟩ => ?_
  subst he
  exact ⟨_, rfl, _, _, _, [], _, [], hW', trodAll_mk1 (shut_bool Try.underlying4 _), (trodAll_cons_mk (Below.trod laidOut (by kernel_rfl) (of_decide_eq_true (by kernel_rfl)) k0 bel lt0) trodAll_mk0), rfl, bel.frame _, fun h => by cases h⟩

theorem over : Rows.fnScanRightRow.holds Try.pinned (OpenSpec.ofChange Rows.fnScanRightSpec) :=
  OpenClaim.holds_of_wide 5 Try.f5 rfl rfl rfl rfl rfl rfl rfl ⟨rfl, rfl, rfl, rfl, rfl⟩ rfl rfl rfl rfl rfl (by kernel_rfl) Try.func5 (by kernel_rfl)
    (of_decide_eq_true (by kernel_rfl)) (by unfold Func.isWrapper; first | (rw [if_pos (by decide +kernel)]; kernel_rfl) | (rw [if_neg (by decide +kernel)]; exact ⟨rfl, rfl⟩))
    (fun os started H enc _ => lifted os started H enc)

/-- ████ THE STATEMENT ████ -/
theorem proved : Rows.FnScanRightSaid := over
end Go.Proofs.Ytdnpambdonhliaa.fnScanRight
