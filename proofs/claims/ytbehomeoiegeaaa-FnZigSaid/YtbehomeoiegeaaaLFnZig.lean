/-
  For every code of bytes, laws.FnZig returns true: Zig answers as the reference's, Unzig gives back what Zig made, and Zig what Unzig made. No condition.
-/
import Derived.Test.YtbehomeoiegeaaaRows
import Derived.WalkKit
import Derived.ProofKit
import Derived.OpenShut
import Derived.ShutString
import Derived.ChangeOld
import Derived.Below
import Derived.Test.YtbehomeoiegeaaaDrawTag
namespace Go.Proofs.Ytbehomeoiegeaaa.fnZig
open Go.ChangeShapes Go.WideShapes Go.ChangeAt Go.RowKit
open Go.ChangeMaps (open_string shut_string)
set_option linter.unusedVariables false

theorem own : ownKnob Try.prog.godebug = none := by kernel_rfl
theorem laidOut : laidOutB Try.prog = true := by kernel_rfl

/-- WHAT THE WALK IS TOLD OF A SLICE OF INTEGERS THAT CAME IN: it is nil; or it leads to a row of 'cap' cells, the numbers 'zs' (the first 'len' are its elements, the rest its spare room), each fitting its kind. -/
def IsRow (k : IntKind) (w : World) (a : Option Addr) (len cap : Nat) (zs : List Int) : Prop :=
  (a = none ∧ len = 0 ∧ cap = 0 ∧ zs = []) ∨
  ∃ x, a = some x ∧ len ≤ cap ∧ cap ≤ maxLen ∧ zs.length = cap ∧ (∀ i, i < zs.length → w.cell? (x.add i) = some (.int k (zs.getD i 0))) ∧ ∀ n ∈ zs, (Lit.int k n).wf = true

/-! ### STEP 1: THE WALK: the Go text returns true, AND WRITES NOTHING THAT WAS THERE: 'Below w.heap.size w w'' (Derived/Below.lean: '.refl', '.alloc', '.drew', '.setCell' at a new block, '.trans'). Open each 'IsRow' by 'rcases' AHEAD of 'go_enter'; part every test ahead of the walk. -/
open Num in
theorem zig_back (n : Int) (h : i64R n) : ∃ u : Nat, u ≤ 18446744073709551615 ∧ zigR n = (u : Int) ∧ unzigR u = n := by
  unfold i64R at h
  unfold zigR
  split
  · refine ⟨(-(2 * n) - 1).toNat, by omega, by omega, ?_⟩
    unfold unzigR
    rw [if_pos (by omega)]; omega
  · refine ⟨(2 * n).toNat, by omega, by omega, ?_⟩
    unfold unzigR
    rw [if_neg (by omega)]; omega
open Num in
theorem zig_forth (u : Nat) (hu : u ≤ 18446744073709551615) : zigR (unzigR u) = u := by
  unfold unzigR
  split
  · unfold zigR; rw [if_pos (by omega)]; omega
  · unfold zigR; rw [if_neg (by omega)]; omega
open Num in
theorem implZig_as (n v : Int) (h : i64R n) (hv : zigR n = v) (w : World) : Calls Try.prog 20 #[.int .i64 n] w fun e w' => e = .returned (.int .u64 v) ∧ w = w' := hv ▸ implZig_any n w h.1 h.2
open Num in
theorem specZig_as (n v : Int) (h : i64R n) (hv : zigR n = v) (w : World) : Calls Try.prog 23 #[.int .i64 n] w fun e w' => e = .returned (.int .u64 v) ∧ w = w' := hv ▸ specZig_any n w h.1 h.2
open Num in
theorem implUnzig_as (u : Nat) (n : Int) (h : u ≤ 18446744073709551615) (hv : unzigR u = n) (w : World) : Calls Try.prog 22 #[.int .u64 u] w fun e w' => e = .returned (.int .i64 n) ∧ w = w' := hv ▸ implUnzig_any u w h
open Num in
set_option maxHeartbeats 1600000 in
theorem walk (a0 : Option Addr) (len0 cap0 : Nat) (z0 : List Int) (w : World) (w0 : IsRow .u8 w a0 len0 cap0 z0) :
    Calls Try.prog 4 #[.slice a0 len0 cap0] w fun e w' => e = .returned (.bool true) ∧ Below w.heap.size w w' := by
  by_cases hb : 1048576 < len0
  · clear w0
    go_enter Try.func4, Try.ntmps4
    go_wp2
    go_ret
    exact ⟨rfl, Below.refl _ _⟩
  · have hcode := codeOf w0 (by omega)
    have Hcode := Lib.hid hcode
    clear w0 hcode
    go_enter Try.func4, Try.ntmps4
    go_wp2_with (go_at_call 13; go_in)
    refine (drawZig_any a0 len0 cap0 _ Hcode.out).mono ?_
    rintro e w1 ⟨n, hn, rfl, hb1⟩
    obtain ⟨u, hu, hz, huz⟩ := zig_back n hn
    have Hn := Lib.hid hn
    have Hz1 := Lib.hid (implZig_as n u hn hz)
    have Hz2 := Lib.hid (specZig_as n u hn hz)
    have Hu := Lib.hid (implUnzig_as u n hu huz)
    clear hn hz huz hu
    go_wp2_with fail
    refine (Hz1.out _).mono ?_
    rintro e w2 ⟨rfl, rfl⟩
    go_wp2_with fail
    refine (drawUnzig_any a0 len0 cap0 _ (Hcode.out.grow hb1 hb1.size)).mono ?_
    rintro e w3 ⟨v, hv, rfl, hb3⟩
    have hb13 := hb1.trans (hb3.mono hb1.size)
    have hvf := zig_forth v hv
    have hin := unzigR_in v hv
    obtain ⟨m, hm⟩ : ∃ m, unzigR v = m := ⟨_, rfl⟩
    rw [hm] at hvf hin
    have Hv1 := Lib.hid (implUnzig_as v m hv hm)
    have Hv2 := Lib.hid (implZig_as m v hin hvf)
    clear hb1 hb3 hvf hin hm hv
    go_wp2_with fail
    refine (Hu.out _).mono ?_
    rintro e w4 ⟨rfl, rfl⟩
    go_wp2_with fail
    refine (Hz2.out _).mono ?_
    rintro e w4 ⟨rfl, rfl⟩
    go_wp2_with fail
    refine (Hv1.out _).mono ?_
    rintro e w4 ⟨rfl, rfl⟩
    go_wp2_with fail
    refine (Hv2.out _).mono ?_
    rintro e w4 ⟨rfl, rfl⟩
    go_wp2_with fail
    go_ret
    exact ⟨rfl, hb13⟩

/-! ### THE ROW's STEP: WRITTEN OUT: LEAVE IT -/
set_option maxRecDepth 100000 in
theorem lifted (os : Os) (started : os.Started) (H : Type) (enc : TypeId × Value → H) :
    ReturnsInHanded {} Try.checked os 4 .any (Rows.fnZigSpec.pre6 enc Try.prog Try.f4 Rows.fnZigRow.domain false) (Rows.fnZigSpec.post enc Try.prog Try.f4 false true false false) := by
  refine returnsInHanded_of_change (C := Try.checked) own started (by kernel_rfl) Try.func4
    (ChangeSpec.witness6 (enc := enc) (C := Try.checked) false ⟨#[], #[.slice none 0 0], []⟩ 8 (by kernel_rfl) (by kernel_rfl) (by kernel_rfl) (by kernel_rfl)) ?_
  intro W base args ds gs before hval0 hW hcnd _
  have hval : ∀ (j : Nat) t v, Try.f4.params[j]? = some t → args[j]? = some v → Value.okWide Try.prog W .any base t v := hval0
  have hW' := hW
  obtain ⟨p, q, hA0, hV, rfl, hfz, hnd⟩ := hW
  have hA : DataW.TrodAll enc Try.prog W 0 (fun _ => true) true Try.f4.params.toList args.toList ds p := hA0
  rw [Try.params4] at hA hval
  obtain ⟨v0, vs0, d0, ds0, p0, q0, hargs, rfl, rfl, h0, r0⟩ := trodAll_cons hA
  obtain ⟨rfl, rfl, rfl⟩ := trodAll_nil r0
  obtain rfl : args = #[v0] := by cases args; simp_all
  obtain ⟨rfl, rfl⟩ := trodVars_none hV
  obtain ⟨a0, len0, cap0, rfl⟩ := okWide_slice Try.underlying22 (hval 0 22 v0 rfl rfl)
  have k0 := h0
  have lt0 : ∀ x ∈ p0, x.block < W.heap.size := by obtain ⟨m, hm⟩ := k0; exact DataW.trod_lt m _ _ _ hm
  obtain ⟨z0, w0⟩ : ∃ zs, IsRow .u8 W a0 len0 cap0 zs := by
    obtain ⟨fuel, hf⟩ := h0
    rcases open_ints Try.underlying22 Try.underlying5 (by kernel_rfl) hf with ⟨hcs, _⟩ | ⟨x, l, c, zs, hcs, _, hl, hm, hz, _, hcell, hwz⟩
    · simp [Value.cells] at hcs
      obtain ⟨rfl, rfl, rfl⟩ := hcs
      exact ⟨[], .inl ⟨rfl, rfl, rfl, rfl⟩⟩
    · simp [Value.cells] at hcs
      obtain ⟨rfl, rfl, rfl⟩ := hcs
      exact ⟨zs, .inr ⟨_, rfl, hl, hm, by simpa using hz, hcell, hwz⟩⟩
  clear hA0 hval0
  refine (walk a0 len0 cap0 z0 W w0).mono fun e W' ⟨he, bel⟩ => ?_
  subst he
  exact ⟨_, rfl, _, _, _, [], _, [], hW', trodAll_mk1 (shut_bool Try.underlying4 _), (trodAll_cons_mk (Below.trod laidOut (by kernel_rfl) (of_decide_eq_true (by kernel_rfl)) k0 bel lt0) trodAll_mk0), rfl, bel.frame _, fun h => by cases h⟩

theorem over : Rows.fnZigRow.holds Try.pinned (OpenSpec.ofChange Rows.fnZigSpec) :=
  OpenClaim.holds_of_wide 4 Try.f4 rfl rfl rfl rfl rfl rfl rfl ⟨rfl, rfl, rfl, rfl, rfl⟩ rfl rfl rfl rfl rfl (by kernel_rfl) Try.func4 (by kernel_rfl)
    (of_decide_eq_true (by kernel_rfl)) (by unfold Func.isWrapper; first | (rw [if_pos (by decide +kernel)]; kernel_rfl) | (rw [if_neg (by decide +kernel)]; exact ⟨rfl, rfl⟩))
    (fun os started H enc _ => lifted os started H enc)

/-- ████ THE STATEMENT ████ -/
theorem proved : Rows.FnZigSaid := over
end Go.Proofs.Ytbehomeoiegeaaa.fnZig
