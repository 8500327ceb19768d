/-
  For every code of bytes, laws.FnKinds returns true: WireOf and BitsFit answer as the reference's; a value that fits its kind can be written with the kind's wire type, and no other kind has values. No condition.
-/
import Derived.Test.YtigclegcemmijaaRows
import Derived.WalkKit
import Derived.ProofKit
import Derived.OpenShut
import Derived.ShutString
import Derived.ChangeOld
import Derived.Below
import Derived.Test.YtigclegcemmijaaKindImpl
import Derived.Test.YtigclegcemmijaaDrawWide
import Derived.Test.YtigclegcemmijaaTagWalk
import Derived.Test.YtigclegcemmijaaPutFixI
namespace Go.Proofs.Ytigclegcemmijaa.fnKinds
open Go.ChangeShapes Go.WideShapes Go.ChangeAt Go.RowKit
open Go.ChangeMaps (open_string shut_string)
set_option linter.unusedVariables false

theorem own : ownKnob Try.prog.godebug = none := by kernel_rfl
theorem laidOut : laidOutB Try.prog = true := by kernel_rfl

/-- WHAT THE WALK IS TOLD OF A SLICE OF INTEGERS THAT CAME IN: it is nil; or it leads to a row of 'cap' cells, the numbers 'zs' (the first 'len' are its elements, the rest its spare room), each fitting its kind. -/
def IsRow (k : IntKind) (w : World) (a : Option Addr) (len cap : Nat) (zs : List Int) : Prop :=
  (a = none ∧ len = 0 ∧ cap = 0 ∧ zs = []) ∨
  ∃ x, a = some x ∧ len ≤ cap ∧ cap ≤ maxLen ∧ zs.length = cap ∧ (∀ i, i < zs.length → w.cell? (x.add i) = some (.int k (zs.getD i 0))) ∧ ∀ n ∈ zs, (Lit.int k n).wf = true

/-! ### STEP 1: THE WALK: the Go text returns true, AND WRITES NOTHING THAT WAS THERE: 'Below w.heap.size w w'' (Derived/Below.lean: '.refl', '.alloc', '.drew', '.setCell' at a new block, '.trans'). Open each 'IsRow' by 'rcases' AHEAD of 'go_enter'; part every test ahead of the walk. -/
open Num in
theorem draw_any (a : Option Addr) (len cap : Nat) (w : World) (h : CodeAt w w.heap.size a len) :
    Calls Try.prog 10 #[.slice a len cap] w fun e w' => ∃ (k : Int) (u : Nat), (-1 ≤ k ∧ k ≤ 9) ∧ u ≤ 18446744073709551615 ∧ e = .returned (.tuple #[.int .i64 k, .int .u64 u]) ∧ Below w.heap.size w w' := by
  have H := Lib.hid h; clear h
  go_enter Try.func10, Try.ntmps10
  go_wp2_with fail
  refine (l1New_any _ a len cap _ (Nat.le_refl _) H.out).mono ?_
  rintro e w1 ⟨g, rfl, hc1, hb1, hg1, hg1'⟩
  have Hc1 := Lib.hid hc1; clear hc1
  have hz1 := hb1.size
  go_wp2_with fail
  refine (l1Below_any _ g a len cap _ _ Hc1.out (by omega)).mono ?_
  rintro e w2 ⟨r, r0, r1, rfl, hc2, ho2⟩
  have hr : r < 11 := r1 (by omega)
  have hw : IntKind.i64.wrap (r - 1) = r - 1 := IntWalk.i64_in _ (by omega)
  have Hc2 := Lib.hid hc2
  have hb2 : Below w.heap.size w1 w2 := ho2.below hg1 hz1
  have hz2 := ho2.size
  clear hc2 ho2 r1
  go_wp2_with fail
  refine (l1Wide_any _ g a len cap _ Hc2.out (by omega)).mono ?_
  rintro e w3 ⟨u, hu, rfl, _, ho3⟩
  have hb3 : Below w.heap.size w2 w3 := ho3.below hg1 (by omega)
  have Hu := Lib.hid hu
  clear ho3 hu
  go_wp2_with fail
  go_ret2
  exact ⟨r - 1, u, by omega, Hu.out, rfl, (hb1.trans hb2).trans hb3⟩
open Num in
theorem wire_as (k v : Int) (h : wireR k = v) (w : World) : Calls Try.prog 11 #[.int .i64 k] w fun e w' => e = .returned (.int .i64 v) ∧ Below w.heap.size w w' := h ▸ implWireOf_any k w
open Num in
theorem swire_as (k v : Int) (h : wireR k = v) (w : World) : Calls Try.prog 12 #[.int .i64 k] w fun e w' => e = .returned (.int .i64 v) ∧ w = w' := h ▸ specWireOf_any k w
open Num in
theorem fit_as (k : Int) (u : Nat) (b : Bool) (hu : u ≤ 18446744073709551615) (h : fitB k u = b) (w : World) : Calls Try.prog 13 #[.int .i64 k, .int .u64 u] w fun e w' => e = .returned (.bool b) ∧ Below w.heap.size w w' := h ▸ implBitsFit_any k u w hu
open Num in
theorem sfit_as (k : Int) (u : Nat) (b : Bool) (h : fitB k u = b) (w : World) : Calls Try.prog 14 #[.int .i64 k, .int .u64 u] w fun e w' => e = .returned (.bool b) ∧ w = w' := h ▸ specBitsFit_any k u w
open Num in
theorem num_as (k : Int) (b : Bool) (h : numericB k = b) (w : World) : Calls Try.prog 15 #[.int .i64 k] w fun e w' => e = .returned (.bool b) ∧ Below w.heap.size w w' := h ▸ implNumeric_any k w
open Num in
theorem width_as (k v : Int) (h : widthR k = v) (w : World) : Calls Try.prog 16 #[.int .i64 k] w fun e w' => e = .returned (.int .i64 v) ∧ w = w' := h ▸ implWidthOf_any k w
open Num in
theorem ok_as (k : Int) (h : wireOkB k = true) (w : World) : Calls Try.prog 17 #[.int .i64 k] w fun e w' => e = .returned (.bool true) ∧ w = w' := h ▸ implWireOk_any k w
open Num in
theorem fix_as (u : Nat) (n : Nat) (hu : u ≤ 18446744073709551615) (hn : n = 4 ∨ n = 8) (h : u < 256 ^ n) (w : World) : Calls Try.prog 18 #[.int .u64 u, .int .i64 n] w fun e w' => ∃ s : ByteArray, s.size = n ∧ e = .returned (.string s) ∧ Below w.heap.size w w' :=
  (implPutFix_any u n w hu).mono fun e w' ⟨he, hb⟩ => ⟨_, by rw [fixS_yes ⟨by omega, by rw [Int.toNat_natCast]; exact h⟩]; simp [ByteArray.size, Fix.leb_length], he, hb⟩
open Num in
/-- A kind, its wire type, whether it is one of numbers, whether the value fits, and the width where it does. -/
theorem kind_told (k : Int) (u : Nat) (hu : u ≤ 18446744073709551615) :
    (fitB k u = false ∧ (numericB k = false ∨ k = 3 ∨ k = 4)) ∨
    (fitB k u = true ∧ numericB k = true ∧ wireOkB (wireR k) = true ∧ ((wireR k = 0 ∧ widthR (wireR k) = 0) ∨ ∃ n : Nat, (n = 4 ∨ n = 8) ∧ widthR (wireR k) = (n : Int) ∧ u < 256 ^ n)) := by
  by_cases h : 1 ≤ k ∧ k ≤ 5
  · have hn : numericB k = true := decide_eq_true h
    have hk : k = 1 ∨ k = 2 ∨ k = 3 ∨ k = 4 ∨ k = 5 := by omega
    rcases hk with rfl | rfl | rfl | rfl | rfl
    · exact .inr ⟨rfl, rfl, rfl, .inl ⟨rfl, rfl⟩⟩
    · exact .inr ⟨rfl, rfl, rfl, .inl ⟨rfl, rfl⟩⟩
    · by_cases h1 : u ≤ 1
      · exact .inr ⟨by show decide (u ≤ 1) = true; exact decide_eq_true h1, rfl, rfl, .inl ⟨rfl, rfl⟩⟩
      · exact .inl ⟨by show decide (u ≤ 1) = false; exact decide_eq_false h1, .inr (.inl rfl)⟩
    · by_cases h1 : u ≤ 4294967295
      · exact .inr ⟨by show decide (u ≤ 4294967295) = true; exact decide_eq_true h1, rfl, rfl, .inr ⟨4, .inl rfl, rfl, by omega⟩⟩
      · exact .inl ⟨by show decide (u ≤ 4294967295) = false; exact decide_eq_false h1, .inr (.inr rfl)⟩
    · exact .inr ⟨rfl, rfl, rfl, .inr ⟨8, .inr rfl, rfl, by omega⟩⟩
  · have hn : numericB k = false := decide_eq_false h
    refine .inl ⟨?_, .inl hn⟩
    unfold fitB
    rw [if_neg (by omega), if_neg (by omega)]; exact hn
open Num in
set_option maxHeartbeats 4000000 in
theorem walk (a0 : Option Addr) (len0 cap0 : Nat) (z0 : List Int) (w : World) (w0 : IsRow .u8 w a0 len0 cap0 z0) :
    Calls Try.prog 3 #[.slice a0 len0 cap0] w fun e w' => e = .returned (.bool true) ∧ Below w.heap.size w w' := by
  by_cases hb : 1048576 < len0
  · clear w0
    go_enter Try.func3, Try.ntmps3
    go_wp2
    go_ret
    exact ⟨rfl, Below.refl _ _⟩
  · have hcode := codeOf w0 (by omega)
    have Hcode := Lib.hid hcode
    clear w0 hcode
    go_enter Try.func3, Try.ntmps3
    go_wp2_with (go_at_call 9; go_in)
    refine (draw_any a0 len0 cap0 _ Hcode.out).mono ?_
    rintro e w1 ⟨k, u, hk, hu, rfl, hb1⟩
    obtain ⟨v, hv⟩ : ∃ v, wireR k = v := ⟨_, rfl⟩
    obtain ⟨f, hf⟩ : ∃ f, fitB k u = f := ⟨_, rfl⟩
    obtain ⟨b, hnb⟩ : ∃ b, numericB k = b := ⟨_, rfl⟩
    have ht := kind_told k u hu
    have H1 := Lib.hid (wire_as k v hv)
    have H2 := Lib.hid (swire_as k v hv)
    have H3 := Lib.hid (fit_as k u f hu hf)
    have H4 := Lib.hid (sfit_as k u f hf)
    have H5 := Lib.hid (num_as k b hnb)
    rw [hv, hf, hnb] at ht
    have Ht := Lib.hid ht
    have Hu := Lib.hid hu
    clear hv hf hnb ht hk hu
    go_wp2_with fail
    refine (H1.out _).mono ?_
    rintro e w2 ⟨rfl, hb2⟩
    have hl2 := hb1.trans (hb2.mono hb1.size)
    clear hb1 hb2
    go_wp2_with fail
    refine (H2.out _).mono ?_
    rintro e w3 ⟨rfl, rfl⟩
    go_wp2_with fail
    refine (H3.out _).mono ?_
    rintro e w4 ⟨rfl, hb4⟩
    have hl4 := hl2.trans (hb4.mono hl2.size)
    clear hl2 hb4
    go_wp2_with fail
    refine (H4.out _).mono ?_
    rintro e w5 ⟨rfl, rfl⟩
    go_wp2_with fail
    refine (H3.out _).mono ?_
    rintro e w6 ⟨rfl, hb6⟩
    have hl6 := hl4.trans (hb6.mono hl4.size)
    clear hl4 hb6
    rcases Ht.out with ⟨rfl, hcase⟩ | ⟨rfl, rfl, hok, hcase⟩
    · go_wp2_with fail
      refine (H5.out _).mono ?_
      rintro e w7 ⟨rfl, hb7⟩
      have hl7 := hl6.trans (hb7.mono hl6.size)
      clear hl6 hb7
      cases b with
      | false =>
        go_wp2_with fail
        go_ret
        exact ⟨rfl, hl7⟩
      | true =>
        rcases hcase with h | rfl | rfl
        · cases h
        · go_wp2_with fail
          go_ret
          exact ⟨rfl, hl7⟩
        · go_wp2_with fail
          go_ret
          exact ⟨rfl, hl7⟩
    · have H6 := Lib.hid (ok_as v hok)
      clear hok
      rcases hcase with ⟨rfl, hw⟩ | ⟨n, hn, hw, hlt⟩
      · have H7 := Lib.hid (width_as 0 0 hw)
        clear hw
        go_wp2_with fail
        refine (H7.out _).mono ?_
        rintro e w7 ⟨rfl, rfl⟩
        go_wp2_with fail
        refine (H5.out _).mono ?_
        rintro e w8 ⟨rfl, hb8⟩
        have hl8 := hl6.trans (hb8.mono hl6.size)
        clear hl6 hb8
        go_wp2_with fail
        refine (H6.out _).mono ?_
        rintro e w9 ⟨rfl, rfl⟩
        go_wp2_with fail
        go_ret
        exact ⟨rfl, hl8⟩
      · have H7 := Lib.hid (width_as v n hw)
        have H8 := Lib.hid (fix_as u n Hu.out hn hlt)
        have n0 : ((n : Int) == 0) = false := by rw [beq_eq_false_iff_ne]; omega
        have n1 : (n == 0) = false := by rw [beq_eq_false_iff_ne]; omega
        have n2 : decide ((0 : Int) < (n : Int)) = true := decide_eq_true (by omega)
        have n3 : decide (0 < n) = true := decide_eq_true (by omega)
        clear hw hn hlt
        go_wp2_with fail
        refine (H7.out _).mono ?_
        rintro e w7 ⟨rfl, rfl⟩
        go_wp2_with fail
        refine (H5.out _).mono ?_
        rintro e w8 ⟨rfl, hb8⟩
        have hl8 := hl6.trans (hb8.mono hl6.size)
        clear hl6 hb8
        go_wp2_with fail
        refine (H6.out _).mono ?_
        rintro e w9 ⟨rfl, rfl⟩
        go_wp2_with fail
        refine (H8.out _).mono ?_
        rintro e w10 ⟨s, hs, rfl, hb10⟩
        have hl10 := hl8.trans (hb10.mono hl8.size)
        have hsz : ((s.size : Int) == (n : Int)) = true := by rw [beq_iff_eq, hs]
        have hsz2 : (s.size == n) = true := by rw [beq_iff_eq, hs]
        clear hs hl8 hb10
        go_wp2_with fail
        go_ret
        exact ⟨rfl, hl10⟩

/-! ### THE ROW's STEP: WRITTEN OUT: LEAVE IT -/
set_option maxRecDepth 100000 in
theorem lifted (os : Os) (started : os.Started) (H : Type) (enc : TypeId × Value → H) :
    ReturnsInHanded {} Try.checked os 3 .any (Rows.fnKindsSpec.pre6 enc Try.prog Try.f3 Rows.fnKindsRow.domain false) (Rows.fnKindsSpec.post enc Try.prog Try.f3 false true false false) := by
  refine returnsInHanded_of_change (C := Try.checked) own started (by kernel_rfl) Try.func3
    (ChangeSpec.witness6 (enc := enc) (C := Try.checked) false ⟨#[], #[.slice none 0 0], []⟩ 8 (by kernel_rfl) (by kernel_rfl) (by kernel_rfl) (by kernel_rfl)) ?_
  intro W base args ds gs before hval0 hW hcnd _
  have hval : ∀ (j : Nat) t v, Try.f3.params[j]? = some t → args[j]? = some v → Value.okWide Try.prog W .any base t v := hval0
  have hW' := hW
  obtain ⟨p, q, hA0, hV, rfl, hfz, hnd⟩ := hW
  have hA : DataW.TrodAll enc Try.prog W 0 (fun _ => true) true Try.f3.params.toList args.toList ds p := hA0
  rw [Try.params3] at hA hval
  obtain ⟨v0, vs0, d0, ds0, p0, q0, hargs, rfl, rfl, h0, r0⟩ := trodAll_cons hA
  obtain ⟨rfl, rfl, rfl⟩ := trodAll_nil r0
  obtain rfl : args = #[v0] := by cases args; simp_all
  obtain ⟨rfl, rfl⟩ := trodVars_none hV
  obtain ⟨a0, len0, cap0, rfl⟩ := okWide_slice Try.underlying22 (hval 0 22 v0 rfl rfl)
  have k0 := h0
  have lt0 : ∀ x ∈ p0, x.block < W.heap.size := by obtain ⟨m, hm⟩ := k0; exact DataW.trod_lt m _ _ _ hm
  obtain ⟨z0, w0⟩ : ∃ zs, IsRow .u8 W a0 len0 cap0 zs := by
    obtain ⟨fuel, hf⟩ := h0
    rcases open_ints Try.underlying22 Try.underlying5 (by kernel_rfl) hf with ⟨hcs, _⟩ | ⟨x, l, c, zs, hcs, _, hl, hm, hz, _, hcell, hwz⟩
    · simp [Value.cells] at hcs
      obtain ⟨rfl, rfl, rfl⟩ := hcs
      exact ⟨[], .inl ⟨rfl, rfl, rfl, rfl⟩⟩
    · simp [Value.cells] at hcs
      obtain ⟨rfl, rfl, rfl⟩ := hcs
      exact ⟨zs, .inr ⟨_, rfl, hl, hm, by simpa using hz, hcell, hwz⟩⟩
  clear hA0 hval0
  refine (walk a0 len0 cap0 z0 W w0).mono fun e W' ⟨he, bel⟩ => ?_
  subst he
  exact ⟨_, rfl, _, _, _, [], _, [], hW', trodAll_mk1 (shut_bool Try.underlying4 _), (trodAll_cons_mk (Below.trod laidOut (by kernel_rfl) (of_decide_eq_true (by kernel_rfl)) k0 bel lt0) trodAll_mk0), rfl, bel.frame _, fun h => by cases h⟩

theorem over : Rows.fnKindsRow.holds Try.pinned (OpenSpec.ofChange Rows.fnKindsSpec) :=
  OpenClaim.holds_of_wide 3 Try.f3 rfl rfl rfl rfl rfl rfl rfl ⟨rfl, rfl, rfl, rfl, rfl⟩ rfl rfl rfl rfl rfl (by kernel_rfl) Try.func3 (by kernel_rfl)
    (of_decide_eq_true (by kernel_rfl)) (by unfold Func.isWrapper; first | (rw [if_pos (by decide +kernel)]; kernel_rfl) | (rw [if_neg (by decide +kernel)]; exact ⟨rfl, rfl⟩))
    (fun os started H enc _ => lifted os started H enc)

/-- ████ THE STATEMENT ████ -/
theorem proved : Rows.FnKindsSaid := over
end Go.Proofs.Ytigclegcemmijaa.fnKinds
