/-
  For every code of bytes, laws.FnGetFix returns true: a number of four or eight bytes that GetFix reads is written back by PutFix as just these bytes, and where none is read the number is 0. No condition.
-/
import Derived.Test.YtdnpambdonhliaaRows
import Derived.WalkKit
import Derived.ProofKit
import Derived.OpenShut
import Derived.ShutString
import Derived.ChangeOld
import Derived.Below
import Derived.Test.YtdnpambdonhliaaDrawGetFix
import Derived.Test.YtdnpambdonhliaaGetFix
import Derived.Deep.RegionHeld3
namespace Go.Proofs.Ytdnpambdonhliaa.fnGetFix
open Go.ChangeShapes Go.WideShapes Go.ChangeAt Go.RowKit
open Go.ChangeMaps (open_string shut_string)
set_option linter.unusedVariables false

theorem own : ownKnob Try.prog.godebug = none := by kernel_rfl
theorem laidOut : laidOutB Try.prog = true := by kernel_rfl

/-- WHAT THE WALK IS TOLD OF A SLICE OF INTEGERS THAT CAME IN: it is nil; or it leads to a row of 'cap' cells, the numbers 'zs' (the first 'len' are its elements, the rest its spare room), each fitting its kind. -/
def IsRow (k : IntKind) (w : World) (a : Option Addr) (len cap : Nat) (zs : List Int) : Prop :=
  (a = none ∧ len = 0 ∧ cap = 0 ∧ zs = []) ∨
  ∃ x, a = some x ∧ len ≤ cap ∧ cap ≤ maxLen ∧ zs.length = cap ∧ (∀ i, i < zs.length → w.cell? (x.add i) = some (.int k (zs.getD i 0))) ∧ ∀ n ∈ zs, (Lit.int k n).wf = true

/-! ### STEP 1: THE WALK: the Go text returns true, AND WRITES NOTHING THAT WAS THERE: 'Below w.heap.size w w'' (Derived/Below.lean: '.refl', '.alloc', '.drew', '.setCell' at a new block, '.trans'). Open each 'IsRow' by 'rcases' AHEAD of 'go_enter'; part every test ahead of the walk. -/
open Num in
theorem putBack (s : ByteArray) (A N : Nat) (hN : N = 4 ∨ N = 8) (hA : A + N ≤ s.size) : fixS (Fix.le ((s.data.toList.drop A).take N)) (N : Int) = s.extract A (A + N) := by
  have hl : ((s.data.toList.drop A).take N).length = N := by rw [List.length_take, List.length_drop]; have : s.data.toList.length = s.size := by simp
                                                             omega
  have hlt := Fix.le_lt ((s.data.toList.drop A).take N)
  rw [hl] at hlt
  rw [fixS_yes ⟨by omega, by simpa using hlt⟩, Int.toNat_natCast]
  have h := Fix.leb_le ((s.data.toList.drop A).take N)
  rw [hl] at h
  rw [h]
  ext1
  simp only [ByteArray.data_extract]
  apply Array.ext'
  simp [List.take_drop]
open Num in
theorem putCall (s : ByteArray) (A N V : Nat) (w : World) (hv : V ≤ 18446744073709551615) (h : fixS V (N : Int) = s.extract A (A + N)) : Calls Try.prog 27 #[.int .u64 V, .int .i64 N] w fun e w' => e = .returned (.string (s.extract A (A + N))) ∧ Below w.heap.size w w' :=
  (implPutFix_any V _ w hv).mono fun e w' ⟨he, hb⟩ => ⟨by rw [he, h], hb⟩
open Num in
set_option maxHeartbeats 1600000 in
theorem walk (a0 : Option Addr) (len0 cap0 : Nat) (z0 : List Int) (w : World) (w0 : IsRow .u8 w a0 len0 cap0 z0) :
    Calls Try.prog 7 #[.slice a0 len0 cap0] w fun e w' => e = .returned (.bool true) ∧ Below w.heap.size w w' := by
  by_cases hb : 1048576 < len0
  · clear w0
    go_enter Try.func7, Try.ntmps7
    go_wp2
    go_ret
    exact ⟨rfl, Below.refl _ _⟩
  · have hcode := codeOf w0 (by omega)
    have Hcode := Lib.hid hcode
    clear w0 hcode
    go_enter Try.func7, Try.ntmps7
    go_wp2_with (go_at_call 14; go_in)
    refine (drawGetFix_any a0 len0 cap0 _ Hcode.out).mono ?_
    rintro e w1 ⟨s, A, n, hs, hAB, hn0, hn1, rfl, hb1⟩
    have HAB := Lib.hid hAB; clear hAB
    go_wp2_with fail
    refine (implGetFix_any s A n _ (by omega) (by omega)).mono ?_
    rintro e w2 ⟨rfl, hb2⟩
    have hb12 := hb1.trans (hb2.mono hb1.size)
    clear hb1 hb2
    by_cases hin : (n = 4 ∨ n = 8) ∧ 0 ≤ A ∧ A ≤ s.size - n
    · obtain ⟨N, rfl⟩ := Int.eq_ofNat_of_zero_le (show 0 ≤ n by omega)
      obtain ⟨A, rfl⟩ := Int.eq_ofNat_of_zero_le hin.2.1
      have hN : N = 4 ∨ N = 8 := by omega
      have hA : A + N ≤ s.size := by omega
      have Hpb := Lib.hid (putBack s A N hN hA)
      have Hle : Hid (Fix.le ((s.data.toList.drop A).take N) ≤ 18446744073709551615) := Lib.hid (by
        have h1 := Fix.le_lt ((s.data.toList.drop A).take N)
        have h2 : ((s.data.toList.drop A).take N).length ≤ 8 := by rw [List.length_take]; omega
        have h3 := Nat.pow_le_pow_right (n := 256) (by omega) h2
        have h4 : (256 : Nat) ^ 8 = 18446744073709551616 := rfl
        omega)
      have Hin := Lib.hid (getFix_yes hin)
      rw [Int.toNat_natCast, Int.toNat_natCast] at Hin
      rw [Hin.out]
      generalize Fix.le ((s.data.toList.drop A).take N) = V at Hpb Hle Hin
      have HN := Lib.hid hN
      clear hin hN
      go_wp2_with fail
      refine (specGetFix_any s A N _ (by omega) (by omega)).mono ?_
      rw [Hin.out]
      rintro e w3 ⟨rfl, hb3⟩
      have hb13 := hb12.trans (hb3.mono hb12.size)
      clear hb12 hb3
      go_wp2_with fail
      have hw : IntKind.i64.wrap ((A : Int) + (N : Int)) = (A : Int) + (N : Int) := IntWalk.i64_in _ (by omega)
      have h0 : (0 : Int) ≤ (A : Int) + (N : Int) := by omega
      have h1 : (A : Int) ≤ (A : Int) + (N : Int) := by omega
      have h2 : (A : Int) + (N : Int) ≤ (s.size : Int) := by omega
      have h3 : ((A : Int) + (N : Int)).toNat = A + N := by omega
      refine wp_region_any (by kernel_rfl) ?_
      change wpAny _ _ _ _ _ _ _ (World.drew _)
      refine wpAny_take (i := 0) (v := .bool true) rfl (by kernel_rfl) (by kernel_rfl) (by kernel_rfl) (fun _ _ _ h => h) (Or.inl ⟨by kernel_rfl, ?_⟩) ?_
      · (intro w; go_simp)
      refine wpAny_take (i := 1) (v := .bool false) rfl (by kernel_rfl) (by kernel_rfl) (by kernel_rfl) (fun _ _ _ h => h) (Or.inl ⟨by kernel_rfl, ?_⟩) ?_
      · (intro w; go_simp)
      refine wpAny_take (i := 2) (v := .bool false) rfl (by kernel_rfl) (by kernel_rfl) (by kernel_rfl) (fun _ _ _ h => h) (Or.inl ⟨by kernel_rfl, ?_⟩) ?_
      · (intro w; go_simp)
      refine wpAny_take (i := 3) (v := undef) rfl (by kernel_rfl) (by kernel_rfl) (by kernel_rfl) (fun _ _ _ h => h) (Or.inr ⟨by kernel_rfl, rfl⟩) ?_
      refine wpAny_take (i := 4) (v := undef) rfl (by kernel_rfl) (by kernel_rfl) (by kernel_rfl) (fun _ _ _ h => h) (Or.inr ⟨by kernel_rfl, rfl⟩) ?_
      refine wpAny_take (i := 5) (v := .bool false) rfl (by kernel_rfl) (by kernel_rfl) (by kernel_rfl) (fun _ _ _ h => h) (Or.inl ⟨by kernel_rfl, ?_⟩) ?_
      · (intro w; go_simp)
      refine wpAny_take (i := 6) (v := .bool false) rfl (by kernel_rfl) (by kernel_rfl) (by kernel_rfl) (fun _ _ _ h => h) (Or.inl ⟨by kernel_rfl, ?_⟩) ?_
      · (intro w; go_simp)
      refine wpAny_take (i := 7) (v := .bool true) rfl (by kernel_rfl) (by kernel_rfl) (by kernel_rfl) (fun _ _ _ h => h) (Or.inl ⟨by kernel_rfl, ?_⟩) ?_
      · (intro w; go_simp)
      refine wpAny_take (i := 8) (v := .bool true) rfl (by kernel_rfl) (by kernel_rfl) (by kernel_rfl) (fun _ _ _ h => h) (Or.inl ⟨by kernel_rfl, ?_⟩) ?_
      · (intro w; go_simp)
      refine wpAny_take (i := 9) (v := .int .u64 V) rfl (by kernel_rfl) (by kernel_rfl) (by kernel_rfl) (fun _ _ _ h => h) (Or.inl ⟨by kernel_rfl, ?_⟩) ?_
      · (intro w; go_simp)
      refine wpAny_take (i := 10) (v := .int .i64 N) rfl (by kernel_rfl) (by kernel_rfl) (by kernel_rfl) (fun _ _ _ h => h) (Or.inl ⟨by kernel_rfl, ?_⟩) ?_
      · (intro w; go_simp)
      refine wpAny_take (i := 12) (v := .string s) rfl (by kernel_rfl) (by kernel_rfl) (by kernel_rfl) (fun _ _ _ h => h) (Or.inl ⟨by kernel_rfl, ?_⟩) ?_
      · (intro w; go_simp)
      refine wpAny_take (i := 13) (v := .int .i64 A) rfl (by kernel_rfl) (by kernel_rfl) (by kernel_rfl) (fun _ _ _ h => h) (Or.inl ⟨by kernel_rfl, ?_⟩) ?_
      · (intro w; go_simp)
      refine wpAny_take (i := 14) (v := .int .i64 A) rfl (by kernel_rfl) (by kernel_rfl) (by kernel_rfl) (fun _ _ _ h => h) (Or.inl ⟨by kernel_rfl, ?_⟩) ?_
      · (intro w; go_simp)
      refine wpAny_take (i := 15) (v := .int .i64 N) rfl (by kernel_rfl) (by kernel_rfl) (by kernel_rfl) (fun _ _ _ h => h) (Or.inl ⟨by kernel_rfl, ?_⟩) ?_
      · (intro w; go_simp)
      refine wpAny_take (i := 16) (v := .int .i64 ((A : Int) + (N : Int))) rfl (by kernel_rfl) (by kernel_rfl) (by kernel_rfl) (fun _ _ _ h => h) (Or.inl ⟨by kernel_rfl, ?_⟩) ?_
      · (intro w; go_simp)
      refine wpAny_take (i := 17) (v := .string (s.extract A (A + N))) rfl (by kernel_rfl) (by kernel_rfl) (by kernel_rfl) (fun _ _ _ h => h) (Or.inl ⟨by kernel_rfl, ?_⟩) ?_
      · (intro w; go_simp)
      refine wpAny_ready (rs := [11]) (by kernel_rfl) (by simp) ?_
      refine AllReady.cons rfl (fun K hK => ?_) AllReady.nil
      go_simp
      go_wp2_with (go_at_call 27; refine (putCall s A N V _ Hle.out Hpb.out).mono ?_; rintro e w4 ⟨rfl, hb4⟩)
      try (refine hK _ _ ?_; clear hK K)
      refine wpAny_take (i := 18) (v := .bool true) rfl (by kernel_rfl) (by kernel_rfl) (by kernel_rfl) (fun _ _ _ h => h) (Or.inl ⟨by kernel_rfl, ?_⟩) ?_
      · (intro w; go_simp)
      refine wpAny_take (i := 19) (v := .bool true) rfl (by kernel_rfl) (by kernel_rfl) (by kernel_rfl) (fun _ _ _ h => h) (Or.inl ⟨by kernel_rfl, ?_⟩) ?_
      · (intro w; go_simp)
      refine wpAny_take (i := 20) (v := .bool true) rfl (by kernel_rfl) (by kernel_rfl) (by kernel_rfl) (fun _ _ _ h => h) (Or.inl ⟨by kernel_rfl, ?_⟩) ?_
      · (intro w; go_simp)
      refine wpAny_take (i := 21) (v := .bool true) rfl (by kernel_rfl) (by kernel_rfl) (by kernel_rfl) (fun _ _ _ h => h) (Or.inl ⟨by kernel_rfl, ?_⟩) ?_
      · (intro w; go_simp)
      refine wpAny_done (by kernel_rfl) ?_ _
      have hb14 : Below w.heap.size w w4 := hb13.drew.trans (hb4.mono hb13.size)
      clear hb4 hb13
      go_wp2_with fail
      go_ret
      exact ⟨rfl, hb14⟩
    · have Hin := Lib.hid (getFix_no hin)
      rw [Hin.out]
      have Hn := Lib.hid (show -9223372036854775808 ≤ n ∧ n ≤ 9223372036854775807 by omega)
      clear hin
      go_wp2_with fail
      refine (specGetFix_any s A n _ (by omega) Hn.out).mono ?_
      rw [Hin.out]
      rintro e w3 ⟨rfl, hb3⟩
      have hb13 := hb12.trans (hb3.mono hb12.size)
      clear hb12 hb3
      go_wp2_with fail
      go_quiet (fail)
      go_wp2_with fail
      go_ret
      exact ⟨rfl, below_drewN hb13 _⟩

/-! ### THE ROW's STEP: WRITTEN OUT: LEAVE IT -/
set_option maxRecDepth 100000 in
theorem lifted (os : Os) (started : os.Started) (H : Type) (enc : TypeId × Value → H) :
    ReturnsInHanded {} Try.checked os 7 .any (Rows.fnGetFixSpec.pre6 enc Try.prog Try.f7 Rows.fnGetFixRow.domain false) (Rows.fnGetFixSpec.post enc Try.prog Try.f7 false true false false) := by
  refine returnsInHanded_of_change (C := Try.checked) own started (by kernel_rfl) Try.func7
    (ChangeSpec.witness6 (enc := enc) (C := Try.checked) false ⟨#[], #[.slice none 0 0], []⟩ 8 (by kernel_rfl) (by kernel_rfl) (by kernel_rfl) (by kernel_rfl)) ?_
  intro W base args ds gs before hval0 hW hcnd _
  have hval : ∀ (j : Nat) t v, Try.f7.params[j]? = some t → args[j]? = some v → Value.okWide Try.prog W .any base t v := hval0
  have hW' := hW
  obtain ⟨p, q, hA0, hV, rfl, hfz, hnd⟩ := hW
  have hA : DataW.TrodAll enc Try.prog W 0 (fun _ => true) true Try.f7.params.toList args.toList ds p := hA0
  rw [Try.params7] at hA hval
  obtain ⟨v0, vs0, d0, ds0, p0, q0, hargs, rfl, rfl, h0, r0⟩ := trodAll_cons hA
  obtain ⟨rfl, rfl, rfl⟩ := trodAll_nil r0
  obtain rfl : args = #[v0] := by cases args; simp_all
  obtain ⟨rfl, rfl⟩ := trodVars_none hV
  obtain ⟨a0, len0, cap0, rfl⟩ := okWide_slice Try.underlying22 (hval 0 22 v0 rfl rfl)
  have k0 := h0
  have lt0 : ∀ x ∈ p0, x.block < W.heap.size := by obtain ⟨m, hm⟩ := k0; exact DataW.trod_lt m _ _ _ hm
  obtain ⟨z0, w0⟩ : ∃ zs, IsRow .u8 W a0 len0 cap0 zs := by
    obtain ⟨fuel, hf⟩ := h0
    rcases open_ints Try.underlying22 Try.underlying5 (by kernel_rfl) hf with ⟨hcs, _⟩ | ⟨x, l, c, zs, hcs, _, hl, hm, hz, _, hcell, hwz⟩
    · simp [Value.cells] at hcs
      obtain ⟨rfl, rfl, rfl⟩ := hcs
      exact ⟨[], .inl ⟨rfl, rfl, rfl, rfl⟩⟩
    · simp [Value.cells] at hcs
      obtain ⟨rfl, rfl, rfl⟩ := hcs
      exact ⟨zs, .inr ⟨_, rfl, hl, hm, by simpa using hz, hcell, hwz⟩⟩
  clear hA0 hval0
  refine (walk a0 len0 cap0 z0 W w0).mono fun e W' ⟨he, bel⟩ => ?_
  subst he
  exact ⟨_, rfl, _, _, _, [], _, [], hW', trodAll_mk1 (shut_bool Try.underlying4 _), (trodAll_cons_mk (Below.trod laidOut (by kernel_rfl) (of_decide_eq_true (by kernel_rfl)) k0 bel lt0) trodAll_mk0), rfl, bel.frame _, fun h => by cases h⟩

theorem over : Rows.fnGetFixRow.holds Try.pinned (OpenSpec.ofChange Rows.fnGetFixSpec) :=
  OpenClaim.holds_of_wide 7 Try.f7 rfl rfl rfl rfl rfl rfl rfl ⟨rfl, rfl, rfl, rfl, rfl⟩ rfl rfl rfl rfl rfl (by kernel_rfl) Try.func7 (by kernel_rfl)
    (of_decide_eq_true (by kernel_rfl)) (by unfold Func.isWrapper; first | (rw [if_pos (by decide +kernel)]; kernel_rfl) | (rw [if_neg (by decide +kernel)]; exact ⟨rfl, rfl⟩))
    (fun os started H enc _ => lifted os started H enc)

/-- ████ THE STATEMENT ████ -/
theorem proved : Rows.FnGetFixSaid := over
end Go.Proofs.Ytdnpambdonhliaa.fnGetFix
