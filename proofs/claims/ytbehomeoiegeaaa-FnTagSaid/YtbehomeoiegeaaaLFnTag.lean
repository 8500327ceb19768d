/-
  For every code of bytes, laws.FnTag returns true: TagOf answers as the reference's, TagIn reads the number and the wire type of every tag back, and what it refuses is no tag. No condition.
-/
import Derived.Test.YtbehomeoiegeaaaRows
import Derived.WalkKit
import Derived.ProofKit
import Derived.OpenShut
import Derived.ShutString
import Derived.ChangeOld
import Derived.Below
import Derived.Test.YtbehomeoiegeaaaDrawTag
namespace Go.Proofs.Ytbehomeoiegeaaa.fnTag
open Go.ChangeShapes Go.WideShapes Go.ChangeAt Go.RowKit
open Go.ChangeMaps (open_string shut_string)
set_option linter.unusedVariables false

theorem own : ownKnob Try.prog.godebug = none := by kernel_rfl
theorem laidOut : laidOutB Try.prog = true := by kernel_rfl

/-- WHAT THE WALK IS TOLD OF A SLICE OF INTEGERS THAT CAME IN: it is nil; or it leads to a row of 'cap' cells, the numbers 'zs' (the first 'len' are its elements, the rest its spare room), each fitting its kind. -/
def IsRow (k : IntKind) (w : World) (a : Option Addr) (len cap : Nat) (zs : List Int) : Prop :=
  (a = none ∧ len = 0 ∧ cap = 0 ∧ zs = []) ∨
  ∃ x, a = some x ∧ len ≤ cap ∧ cap ≤ maxLen ∧ zs.length = cap ∧ (∀ i, i < zs.length → w.cell? (x.add i) = some (.int k (zs.getD i 0))) ∧ ∀ n ∈ zs, (Lit.int k n).wf = true

/-! ### STEP 1: THE WALK: the Go text returns true, AND WRITES NOTHING THAT WAS THERE: 'Below w.heap.size w w'' (Derived/Below.lean: '.refl', '.alloc', '.drew', '.setCell' at a new block, '.trans'). Open each 'IsRow' by 'rcases' AHEAD of 'go_enter'; part every test ahead of the walk. -/
open Num in
theorem tag_back (n x : Int) : ∃ u : Nat, u ≤ 18446744073709551615 ∧ tagR n x = (u : Int) ∧ ((u = 0 ∧ tagInR u = (0, 0, false)) ∨ (u ≠ 0 ∧ tagInR u = (n, x, true))) := by
  by_cases h : Fits n ∧ 0 ≤ x ∧ x ≤ 7
  · have hf : 1 ≤ n ∧ n ≤ 536870911 := h.1
    refine ⟨(8 * n + x).toNat, by omega, by rw [tagR_yes h.1 h.2]; omega, .inr ⟨by omega, ?_⟩⟩
    rw [tagIn_yes (by omega), show (((8 * n + x).toNat / 8 : Nat) : Int) = n by omega, show (((8 * n + x).toNat % 8 : Nat) : Int) = x by omega]
  · exact ⟨0, by omega, if_neg h, .inl ⟨rfl, rfl⟩⟩
open Num in
theorem tag_forth (t : Nat) : (tagInR t = (0, 0, false) ∧ (t < 8 ∨ 4294967295 < t)) ∨ ∃ a b : Int, tagInR t = (a, b, true) ∧ tagR a b = (t : Int) := by
  by_cases h : 8 ≤ t ∧ t ≤ 4294967295
  · refine .inr ⟨_, _, tagIn_yes h, ?_⟩
    rw [tagR_yes (by unfold Fits; omega) (by omega)]; omega
  · exact .inl ⟨tagIn_no h, by omega⟩
open Num in
theorem implTagIn_as (u : Nat) (a b : Int) (c : Bool) (hu : u ≤ 18446744073709551615) (h : tagInR u = (a, b, c)) (w : World) : Calls Try.prog 17 #[.int .u64 u] w fun e w' => e = .returned (.tuple #[.int .i64 a, .int .i64 b, .bool c]) ∧ w = w' :=
  (implTagIn_any u w hu).mono fun e w' ⟨he, hw⟩ => ⟨by rw [he, h]; rfl, hw⟩
open Num in
theorem implTagOf_as (n x v : Int) (h : tagR n x = v) (w : World) : Calls Try.prog 15 #[.int .i64 n, .int .i64 x] w fun e w' => e = .returned (.int .u64 v) ∧ w = w' := h ▸ implTagOf_any n x w
open Num in
theorem specTagOf_as (n x v : Int) (h : tagR n x = v) (w : World) : Calls Try.prog 16 #[.int .i64 n, .int .i64 x] w fun e w' => e = .returned (.int .u64 v) ∧ w = w' := h ▸ specTagOf_any n x w
open Num in
set_option maxHeartbeats 1600000 in
theorem walk (a0 : Option Addr) (len0 cap0 : Nat) (z0 : List Int) (w : World) (w0 : IsRow .u8 w a0 len0 cap0 z0) :
    Calls Try.prog 3 #[.slice a0 len0 cap0] w fun e w' => e = .returned (.bool true) ∧ Below w.heap.size w w' := by
  by_cases hb : 1048576 < len0
  · clear w0
    go_enter Try.func3, Try.ntmps3
    go_wp2
    go_ret
    exact ⟨rfl, Below.refl _ _⟩
  · have hcode := codeOf w0 (by omega)
    have Hcode := Lib.hid hcode
    clear w0 hcode
    go_enter Try.func3, Try.ntmps3
    go_wp2_with (go_at_call 13; go_in)
    refine (drawTagOf_any a0 len0 cap0 _ Hcode.out).mono ?_
    rintro e w1 ⟨n, x, hn, hx, rfl, hb1⟩
    clear hn hx
    obtain ⟨u, hu, hT, hback⟩ := tag_back n x
    have Ht1 := Lib.hid (implTagOf_as n x u hT)
    have Ht2 := Lib.hid (specTagOf_as n x u hT)
    have Hu := Lib.hid hu
    clear hT hu
    go_wp2_with fail
    refine (Ht1.out _).mono ?_
    rintro e w2 ⟨rfl, rfl⟩
    go_wp2_with fail
    refine (Ht2.out _).mono ?_
    rintro e w2 ⟨rfl, rfl⟩
    rcases hback with ⟨rfl, hI⟩ | ⟨hne, hI⟩
    · have Hi := Lib.hid (implTagIn_as 0 0 0 false Hu.out hI)
      clear hI
      go_wp2_with fail
      refine (Hi.out _).mono ?_
      rintro e w2 ⟨rfl, rfl⟩
      go_wp2_with fail
      refine (drawTagIn_any a0 len0 cap0 _ (Hcode.out.grow hb1 hb1.size)).mono ?_
      rintro e w3 ⟨t, ht, rfl, hb3⟩
      have hb13 := hb1.trans (hb3.mono hb1.size)
      clear hb1 hb3
      have Htt := Lib.hid ht
      clear ht
      rcases tag_forth t with ⟨hE, hlim⟩ | ⟨a, b, hE, hF⟩
      · have Hj := Lib.hid (implTagIn_as t 0 0 false Htt.out hE)
        clear hE
        go_wp2_with fail
        refine (Hj.out _).mono ?_
        rintro e w4 ⟨rfl, rfl⟩
        by_cases hl : t < 8
        · have hli : (t : Int) < 8 := by omega
          clear hlim
          go_wp2_with fail
          go_ret
          exact ⟨rfl, hb13⟩
        · have hl2 : 4294967295 < t := by omega
          have hl2i : 4294967295 < (t : Int) := by omega
          have d1 : decide ((t : Int) < 8) = false := decide_eq_false (by omega)
          have d2 : decide (t < 8) = false := decide_eq_false hl
          clear hlim hl
          go_wp2_with fail
          go_ret
          exact ⟨rfl, hb13⟩
      · have Hj := Lib.hid (implTagIn_as t a b true Htt.out hE)
        have Hk := Lib.hid (implTagOf_as a b t hF)
        clear hE hF
        go_wp2_with fail
        refine (Hj.out _).mono ?_
        rintro e w4 ⟨rfl, rfl⟩
        go_wp2_with fail
        refine (Hk.out _).mono ?_
        rintro e w4 ⟨rfl, rfl⟩
        go_wp2_with fail
        go_ret
        exact ⟨rfl, hb13⟩
    · have Hi := Lib.hid (implTagIn_as u n x true Hu.out hI)
      have b0 : (u == 0) = false := by rw [beq_eq_false_iff_ne]; exact hne
      have b1 : ((u : Int) == 0) = false := by rw [beq_eq_false_iff_ne]; omega
      have b2 : (u != 0) = true := by rw [bne, b0]; rfl
      have b3 : ((u : Int) != 0) = true := by rw [bne, b1]; rfl
      clear hI hne
      go_wp2_with fail
      refine (Hi.out _).mono ?_
      rintro e w2 ⟨rfl, rfl⟩
      go_wp2_with fail
      refine (drawTagIn_any a0 len0 cap0 _ (Hcode.out.grow hb1 hb1.size)).mono ?_
      rintro e w3 ⟨t, ht, rfl, hb3⟩
      have hb13 := hb1.trans (hb3.mono hb1.size)
      clear hb1 hb3
      have Htt := Lib.hid ht
      clear ht
      rcases tag_forth t with ⟨hE, hlim⟩ | ⟨a, b, hE, hF⟩
      · have Hj := Lib.hid (implTagIn_as t 0 0 false Htt.out hE)
        clear hE
        go_wp2_with fail
        refine (Hj.out _).mono ?_
        rintro e w4 ⟨rfl, rfl⟩
        by_cases hl : t < 8
        · have hli : (t : Int) < 8 := by omega
          clear hlim
          go_wp2_with fail
          go_ret
          exact ⟨rfl, hb13⟩
        · have hl2 : 4294967295 < t := by omega
          have hl2i : 4294967295 < (t : Int) := by omega
          have d1 : decide ((t : Int) < 8) = false := decide_eq_false (by omega)
          have d2 : decide (t < 8) = false := decide_eq_false hl
          clear hlim hl
          go_wp2_with fail
          go_ret
          exact ⟨rfl, hb13⟩
      · have Hj := Lib.hid (implTagIn_as t a b true Htt.out hE)
        have Hk := Lib.hid (implTagOf_as a b t hF)
        clear hE hF
        go_wp2_with fail
        refine (Hj.out _).mono ?_
        rintro e w4 ⟨rfl, rfl⟩
        go_wp2_with fail
        refine (Hk.out _).mono ?_
        rintro e w4 ⟨rfl, rfl⟩
        go_wp2_with fail
        go_ret
        exact ⟨rfl, hb13⟩

/-! ### THE ROW's STEP: WRITTEN OUT: LEAVE IT -/
set_option maxRecDepth 100000 in
theorem lifted (os : Os) (started : os.Started) (H : Type) (enc : TypeId × Value → H) :
    ReturnsInHanded {} Try.checked os 3 .any (Rows.fnTagSpec.pre6 enc Try.prog Try.f3 Rows.fnTagRow.domain false) (Rows.fnTagSpec.post enc Try.prog Try.f3 false true false false) := by
  refine returnsInHanded_of_change (C := Try.checked) own started (by kernel_rfl) Try.func3
    (ChangeSpec.witness6 (enc := enc) (C := Try.checked) false ⟨#[], #[.slice none 0 0], []⟩ 8 (by kernel_rfl) (by kernel_rfl) (by kernel_rfl) (by kernel_rfl)) ?_
  intro W base args ds gs before hval0 hW hcnd _
  have hval : ∀ (j : Nat) t v, Try.f3.params[j]? = some t → args[j]? = some v → Value.okWide Try.prog W .any base t v := hval0
  have hW' := hW
  obtain ⟨p, q, hA0, hV, rfl, hfz, hnd⟩ := hW
  have hA : DataW.TrodAll enc Try.prog W 0 (fun _ => true) true Try.f3.params.toList args.toList ds p := hA0
  rw [Try.params3] at hA hval
  obtain ⟨v0, vs0, d0, ds0, p0, q0, hargs, rfl, rfl, h0, r0⟩ := trodAll_cons hA
  obtain ⟨rfl, rfl, rfl⟩ := trodAll_nil r0
  obtain rfl : args = #[v0] := by cases args; simp_all
  obtain ⟨rfl, rfl⟩ := trodVars_none hV
  obtain ⟨a0, len0, cap0, rfl⟩ := okWide_slice Try.underlying22 (hval 0 22 v0 rfl rfl)
  have k0 := h0
  have lt0 : ∀ x ∈ p0, x.block < W.heap.size := by obtain ⟨m, hm⟩ := k0; exact DataW.trod_lt m _ _ _ hm
  obtain ⟨z0, w0⟩ : ∃ zs, IsRow .u8 W a0 len0 cap0 zs := by
    obtain ⟨fuel, hf⟩ := h0
    rcases open_ints Try.underlying22 Try.underlying5 (by kernel_rfl) hf with ⟨hcs, _⟩ | ⟨x, l, c, zs, hcs, _, hl, hm, hz, _, hcell, hwz⟩
    · simp [Value.cells] at hcs
      obtain ⟨rfl, rfl, rfl⟩ := hcs
      exact ⟨[], .inl ⟨rfl, rfl, rfl, rfl⟩⟩
    · simp [Value.cells] at hcs
      obtain ⟨rfl, rfl, rfl⟩ := hcs
      exact ⟨zs, .inr ⟨_, rfl, hl, hm, by simpa using hz, hcell, hwz⟩⟩
  clear hA0 hval0
  refine (walk a0 len0 cap0 z0 W w0).mono fun e W' ⟨he, bel⟩ => ?_
  subst he
  exact ⟨_, rfl, _, _, _, [], _, [], hW', trodAll_mk1 (shut_bool Try.underlying4 _), (trodAll_cons_mk (Below.trod laidOut (by kernel_rfl) (of_decide_eq_true (by kernel_rfl)) k0 bel lt0) trodAll_mk0), rfl, bel.frame _, fun h => by cases h⟩

theorem over : Rows.fnTagRow.holds Try.pinned (OpenSpec.ofChange Rows.fnTagSpec) :=
  OpenClaim.holds_of_wide 3 Try.f3 rfl rfl rfl rfl rfl rfl rfl ⟨rfl, rfl, rfl, rfl, rfl⟩ rfl rfl rfl rfl rfl (by kernel_rfl) Try.func3 (by kernel_rfl)
    (of_decide_eq_true (by kernel_rfl)) (by unfold Func.isWrapper; first | (rw [if_pos (by decide +kernel)]; kernel_rfl) | (rw [if_neg (by decide +kernel)]; exact ⟨rfl, rfl⟩))
    (fun os started H enc _ => lifted os started H enc)

/-- ████ THE STATEMENT ████ -/
theorem proved : Rows.FnTagSaid := over
end Go.Proofs.Ytbehomeoiegeaaa.fnTag
