/-
  For every code of bytes, laws.FnScan returns true: byte by byte ScanText finds what GetVar finds at once: the value and its end, that it is too long, or that more is wanted and the state is right. No condition.
-/
import Derived.Test.YtdnpambdonhliaaRows
import Derived.WalkKit
import Derived.ProofKit
import Derived.OpenShut
import Derived.ShutString
import Derived.ChangeOld
import Derived.Below
import Derived.Test.YtdnpambdonhliaaDrawGetVar
import Derived.Test.YtdnpambdonhliaaScanTextI
import Derived.Test.YtdnpambdonhliaaScanLink
namespace Go.Proofs.Ytdnpambdonhliaa.fnScan
open Go.ChangeShapes Go.WideShapes Go.ChangeAt Go.RowKit
open Go.ChangeMaps (open_string shut_string)
set_option linter.unusedVariables false

theorem own : ownKnob Try.prog.godebug = none := by kernel_rfl
theorem laidOut : laidOutB Try.prog = true := by kernel_rfl

/-- WHAT THE WALK IS TOLD OF A SLICE OF INTEGERS THAT CAME IN: it is nil; or it leads to a row of 'cap' cells, the numbers 'zs' (the first 'len' are its elements, the rest its spare room), each fitting its kind. -/
def IsRow (k : IntKind) (w : World) (a : Option Addr) (len cap : Nat) (zs : List Int) : Prop :=
  (a = none ∧ len = 0 ∧ cap = 0 ∧ zs = []) ∨
  ∃ x, a = some x ∧ len ≤ cap ∧ cap ≤ maxLen ∧ zs.length = cap ∧ (∀ i, i < zs.length → w.cell? (x.add i) = some (.int k (zs.getD i 0))) ∧ ∀ n ∈ zs, (Lit.int k n).wf = true

/-! ### STEP 1: THE WALK: the Go text returns true, AND WRITES NOTHING THAT WAS THERE: 'Below w.heap.size w w'' (Derived/Below.lean: '.refl', '.alloc', '.drew', '.setCell' at a new block, '.trans'). Open each 'IsRow' by 'rcases' AHEAD of 'go_enter'; part every test ahead of the walk. -/
open Num in
theorem rest_list (s : ByteArray) (A : Nat) : (s.extract A s.size).data.toList = s.data.toList.drop A := by
  rw [ByteArray.data_extract, Array.toList_extract]
  simp only [List.extract]
  exact List.take_of_length_le (by simp)
open Num in
theorem scan_get (s : ByteArray) (A : Nat) (hA : A ≤ s.size) : ∃ (V : Nat) (H : Int) (n : Nat) (C : Int), scanTextR 0 0 (s.extract A s.size).data.toList = (V, H, n, C) ∧ V ≤ 18446744073709551615 ∧ n ≤ s.size - A ∧
    ((getR s A = ((V : Int), (A : Int) + (n : Int), 0) ∧ C = 1 ∧ H = n) ∨ (∃ p, getR s A = (0, p, 2) ∧ C = 2 ∧ n = 10 ∧ H = 9) ∨ (getR s A = (0, (s.size : Int), 1) ∧ C = 0 ∧ n = s.size - A ∧ H = n ∧ scanOkB V H = true)) := by
  rw [rest_list]
  have hl := Num.linked (s.data.toList.drop A) 0 0 (by omega) (by decide)
  have hg : getR s A = resV s A (Var.scan 0 0 (s.data.toList.drop A)) := by unfold getR; rw [if_pos ⟨by omega, by omega⟩, Int.toNat_natCast]
  have hlen : (s.data.toList.drop A).length = s.size - A := by rw [List.length_drop]; simp
  cases hr : Var.scan 0 0 (s.data.toList.drop A) with
  | more =>
    rw [hr] at hl hg
    obtain ⟨V, h1, h2, h3⟩ := hl
    rw [Nat.zero_add, hlen] at h1 h2 h3
    have hp := pow_le9' _ h2
    exact ⟨V, _, _, _, h1, by omega, Nat.le_refl _, .inr (.inr ⟨hg, rfl, rfl, rfl, scanOk_nat h2 h3⟩)⟩
  | over m =>
    rw [hr] at hl hg
    obtain ⟨V, h1⟩ := hl
    refine ⟨V, _, _, _, h1, ?_, ?_, .inr (.inl ⟨_, hg, rfl, rfl, rfl⟩)⟩
    · have := scanText_bound (s.data.toList.drop A) 0 0 (by omega)
      have h2 : scanTextR 0 0 (s.data.toList.drop A) = (V, 9, 10 - 0, 2) := h1
      rw [h2] at this; exact this
    · have := scanText_len (s.data.toList.drop A) 0 0
      have h2 : scanTextR 0 0 (s.data.toList.drop A) = (V, 9, 10 - 0, 2) := h1
      rw [h2, hlen] at this; exact this
  | done v m =>
    rw [hr] at hl hg
    obtain ⟨h1, h2⟩ := hl
    have h1' : scanTextR 0 0 (s.data.toList.drop A) = (v, (m : Int), m, 1) := h1
    refine ⟨v, _, _, _, h1', ?_, ?_, .inl ⟨hg, rfl, rfl⟩⟩
    · have := scanText_bound (s.data.toList.drop A) 0 0 (by omega)
      rw [h1'] at this; exact this
    · have := scanText_len (s.data.toList.drop A) 0 0
      rw [h1', hlen] at this; exact this
open Num in
theorem scanText_as (s t : ByteArray) (b : Nat) (h : Int) (w : World) (hb : b ≤ 18446744073709551615) (ht : t.size ≤ 281474976710656) (V : Nat) (H : Int) (n : Nat) (C : Int) (hR : scanTextR b h t.data.toList = (V, H, n, C)) :
    Calls Try.prog 17 #[.agg #[.int .u64 b, .int .i64 h], .string t] w fun e w' => e = .returned (.tuple #[.agg #[.int .u64 V, .int .i64 H], .int .i64 n, .int .i64 C]) ∧ Below w.heap.size w w' :=
  (implScanText_any b h t w hb ht).mono fun e w' ⟨he, hB⟩ => ⟨by rw [he, hR]; rfl, hB⟩
open Num in
theorem getVar_as (s : ByteArray) (a : Int) (w : World) (hs : s.size ≤ 281474976710656) (v p c : Int) (hR : getR s a = (v, p, c)) :
    Calls Try.prog 16 #[.string s, .int .i64 a] w fun e w' => e = .returned (.tuple #[.int .u64 v, .int .i64 p, .int .i64 c]) ∧ Below w.heap.size w w' :=
  (specGetVar_any s a w hs).mono fun e w' ⟨he, hB⟩ => ⟨by rw [he, hR]; rfl, hB⟩
open Num in
theorem scanOk_as (b : Nat) (h : Int) (hok : scanOkB b h = true) (w : World) : Calls Try.prog 18 #[.agg #[.int .u64 b, .int .i64 h]] w fun e w' => e = .returned (.bool true) ∧ Below w.heap.size w w' :=
  (specScanOk_any b h w).mono fun e w' ⟨he, hB⟩ => ⟨by rw [he, hok], hB⟩
open Num in
set_option maxHeartbeats 1600000 in
theorem walk (a0 : Option Addr) (len0 cap0 : Nat) (z0 : List Int) (w : World) (w0 : IsRow .u8 w a0 len0 cap0 z0) :
    Calls Try.prog 3 #[.slice a0 len0 cap0] w fun e w' => e = .returned (.bool true) ∧ Below w.heap.size w w' := by
  by_cases hb : 1048576 < len0
  · clear w0
    go_enter Try.func3, Try.ntmps3
    go_wp2
    go_ret
    exact ⟨rfl, Below.refl _ _⟩
  · have hcode := codeOf w0 (by omega)
    have Hcode := Lib.hid hcode
    clear w0 hcode
    go_enter Try.func3, Try.ntmps3
    go_wp2_with (go_at_call 14; go_in)
    refine (drawGetVar_any a0 len0 cap0 _ Hcode.out).mono ?_
    rintro e w1 ⟨s, a, hs, ha0, ha1, rfl, hb1⟩
    by_cases hin : 0 ≤ a ∧ a ≤ (s.size : Int)
    · obtain ⟨A, rfl⟩ := Int.eq_ofNat_of_zero_le hin.1
      have hA : A ≤ s.size := by omega
      have hAi : (A : Int) ≤ (s.size : Int) := by omega
      have hd1 : decide ((A : Int) < 0) = false := decide_eq_false (by omega)
      have hd2 : decide (s.size < A) = false := decide_eq_false (by omega)
      have hd3 : decide ((s.size : Int) < (A : Int)) = false := decide_eq_false (by omega)
      have hex : (s.extract A s.size).size ≤ 281474976710656 := by rw [ByteArray.size_extract]; omega
      have Hex := Lib.hid hex
      obtain ⟨V, H, n, C, hR, hV, hn, hcase⟩ := scan_get s A hA
      have HR := Lib.hid hR
      have Hn := Lib.hid hn
      have Hs : Hid (s.size ≤ 281474976710656) := Lib.hid (by omega)
      have hsub : (s.size : Int) - (A : Int) = ((s.size - A : Nat) : Int) := by omega
      have Hsub := Lib.hid hsub
      clear hin ha0 ha1 hex hR hn hsub
      rcases hcase with ⟨hg, rfl, rfl⟩ | ⟨p, hg, rfl, rfl, rfl⟩ | ⟨hg, rfl, hnn, rfl, hok⟩
      · have Hg := Lib.hid hg
        clear hg
        have hw : IntKind.i64.wrap ((A : Int) + (n : Int) - (A : Int)) = (n : Int) := by rw [show (A : Int) + (n : Int) - (A : Int) = (n : Int) by omega]; exact IntWalk.i64_in _ (by have := Hn.out; omega)
        have hnn : (n : Int) ≤ 64 := by have := Hn.out; omega
        go_wp2_with fail
        refine (getVar_as s A _ Hs.out _ _ _ Hg.out).mono ?_
        rintro e w2 ⟨rfl, hb2⟩
        have hb12 := hb1.trans (hb2.mono hb1.size)
        clear hb1 hb2
        go_wp2_with fail
        refine (scanText_as s _ 0 0 _ (by omega) Hex.out _ _ _ _ HR.out).mono ?_
        rintro e w3 ⟨rfl, hb3⟩
        have hb13 := hb12.trans (hb3.mono hb12.size)
        clear hb12 hb3
        go_wp2_with fail
        go_ret
        exact ⟨rfl, hb13.alloc hb13.size _⟩
      · have Hg := Lib.hid hg
        clear hg
        go_wp2_with fail
        refine (getVar_as s A _ Hs.out _ _ _ Hg.out).mono ?_
        rintro e w2 ⟨rfl, hb2⟩
        have hb12 := hb1.trans (hb2.mono hb1.size)
        clear hb1 hb2
        go_wp2_with fail
        refine (scanText_as s _ 0 0 _ (by omega) Hex.out _ _ _ _ HR.out).mono ?_
        rintro e w3 ⟨rfl, hb3⟩
        have hb13 := hb12.trans (hb3.mono hb12.size)
        clear hb12 hb3
        go_wp2_with fail
        go_ret
        exact ⟨rfl, hb13.alloc hb13.size _⟩
      · have Hg := Lib.hid hg
        have Hok := Lib.hid hok
        have Hnn := Lib.hid hnn
        clear hg hok hnn
        go_wp2_with fail
        refine (getVar_as s A _ Hs.out _ _ _ Hg.out).mono ?_
        rintro e w2 ⟨rfl, hb2⟩
        have hb12 := hb1.trans (hb2.mono hb1.size)
        clear hb1 hb2
        go_wp2_with fail
        refine (scanText_as s _ 0 0 _ (by omega) Hex.out _ _ _ _ HR.out).mono ?_
        rintro e w3 ⟨rfl, hb3⟩
        have hb13 := hb12.trans (hb3.mono hb12.size)
        clear hb12 hb3
        have hne : ((n : Int) == (s.size : Int) - (A : Int)) = true := by rw [beq_iff_eq, Hsub.out, Hnn.out]
        go_wp2_with fail
        refine (scanOk_as V _ Hok.out _).mono ?_
        rintro e w4 ⟨rfl, hb4⟩
        go_wp2_with fail
        go_ret
        exact ⟨rfl, (hb13.alloc hb13.size _).trans (hb4.mono (by have := hb13.size; simp; omega))⟩
    · by_cases h0 : a < 0
      · clear hin
        go_wp2_with fail
        go_ret
        exact ⟨rfl, hb1⟩
      · have hgt : (s.size : Int) < a := by omega
        have h0d : decide (a < 0) = false := decide_eq_false h0
        clear hin h0
        go_wp2_with fail
        go_ret
        exact ⟨rfl, hb1⟩

/-! ### THE ROW's STEP: WRITTEN OUT: LEAVE IT -/
set_option maxRecDepth 100000 in
theorem lifted (os : Os) (started : os.Started) (H : Type) (enc : TypeId × Value → H) :
    ReturnsInHanded {} Try.checked os 3 .any (Rows.fnScanSpec.pre6 enc Try.prog Try.f3 Rows.fnScanRow.domain false) (Rows.fnScanSpec.post enc Try.prog Try.f3 false true false false) := by
  refine returnsInHanded_of_change (C := Try.checked) own started (by kernel_rfl) Try.func3
    (ChangeSpec.witness6 (enc := enc) (C := Try.checked) false ⟨#[], #[.slice none 0 0], []⟩ 8 (by kernel_rfl) (by kernel_rfl) (by kernel_rfl) (by kernel_rfl)) ?_
  intro W base args ds gs before hval0 hW hcnd _
  have hval : ∀ (j : Nat) t v, Try.f3.params[j]? = some t → args[j]? = some v → Value.okWide Try.prog W .any base t v := hval0
  have hW' := hW
  obtain ⟨p, q, hA0, hV, rfl, hfz, hnd⟩ := hW
  have hA : DataW.TrodAll enc Try.prog W 0 (fun _ => true) true Try.f3.params.toList args.toList ds p := hA0
  rw [Try.params3] at hA hval
  obtain ⟨v0, vs0, d0, ds0, p0, q0, hargs, rfl, rfl, h0, r0⟩ := trodAll_cons hA
  obtain ⟨rfl, rfl, rfl⟩ := trodAll_nil r0
  obtain rfl : args = #[v0] := by cases args; simp_all
  obtain ⟨rfl, rfl⟩ := trodVars_none hV
  obtain ⟨a0, len0, cap0, rfl⟩ := okWide_slice Try.underlying22 (hval 0 22 v0 rfl rfl)
  have k0 := h0
  have lt0 : ∀ x ∈ p0, x.block < W.heap.size := by obtain ⟨m, hm⟩ := k0; exact DataW.trod_lt m _ _ _ hm
  obtain ⟨z0, w0⟩ : ∃ zs, IsRow .u8 W a0 len0 cap0 zs := by
    obtain ⟨fuel, hf⟩ := h0
    rcases open_ints Try.underlying22 Try.underlying5 (by kernel_rfl) hf with ⟨hcs, _⟩ | ⟨x, l, c, zs, hcs, _, hl, hm, hz, _, hcell, hwz⟩
    · simp [Value.cells] at hcs
      obtain ⟨rfl, rfl, rfl⟩ := hcs
      exact ⟨[], .inl ⟨rfl, rfl, rfl, rfl⟩⟩
    · simp [Value.cells] at hcs
      obtain ⟨rfl, rfl, rfl⟩ := hcs
      exact ⟨zs, .inr ⟨_, rfl, hl, hm, by simpa using hz, hcell, hwz⟩⟩
  clear hA0 hval0
  refine (walk a0 len0 cap0 z0 W w0).mono fun e W' ⟨he, bel⟩ => ?_
  subst he
  exact ⟨_, rfl, _, _, _, [], _, [], hW', trodAll_mk1 (shut_bool Try.underlying4 _), (trodAll_cons_mk (Below.trod laidOut (by kernel_rfl) (of_decide_eq_true (by kernel_rfl)) k0 bel lt0) trodAll_mk0), rfl, bel.frame _, fun h => by cases h⟩

theorem over : Rows.fnScanRow.holds Try.pinned (OpenSpec.ofChange Rows.fnScanSpec) :=
  OpenClaim.holds_of_wide 3 Try.f3 rfl rfl rfl rfl rfl rfl rfl ⟨rfl, rfl, rfl, rfl, rfl⟩ rfl rfl rfl rfl rfl (by kernel_rfl) Try.func3 (by kernel_rfl)
    (of_decide_eq_true (by kernel_rfl)) (by unfold Func.isWrapper; first | (rw [if_pos (by decide +kernel)]; kernel_rfl) | (rw [if_neg (by decide +kernel)]; exact ⟨rfl, rfl⟩))
    (fun os started H enc _ => lifted os started H enc)

/-- ████ THE STATEMENT ████ -/
theorem proved : Rows.FnScanSaid := over
end Go.Proofs.Ytdnpambdonhliaa.fnScan
