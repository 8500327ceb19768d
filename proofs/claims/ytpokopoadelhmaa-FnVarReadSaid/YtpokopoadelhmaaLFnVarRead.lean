/-
  For every code of bytes, laws.FnVarRead returns true: GetVar stops where the reference does and says the same is wrong, and the bytes that it took are PadVar of its value at their length. No condition.
-/
import Derived.Test.YtpokopoadelhmaaRows
import Derived.WalkKit
import Derived.ProofKit
import Derived.OpenShut
import Derived.ShutString
import Derived.ChangeOld
import Derived.Below
import Derived.Test.YtpokopoadelhmaaDrawGetVar
import Derived.Test.YtpokopoadelhmaaVarImpl
import Derived.Test.YtpokopoadelhmaaVarLaw
import Derived.Deep.RegionWith
import Derived.Deep.RegionLaw
namespace Go.Proofs.Ytpokopoadelhmaa.fnVarRead
open Go.ChangeShapes Go.WideShapes Go.ChangeAt Go.RowKit
open Go.ChangeMaps (open_string shut_string)
set_option linter.unusedVariables false

theorem own : ownKnob Try.prog.godebug = none := by kernel_rfl
theorem laidOut : laidOutB Try.prog = true := by kernel_rfl

/-- WHAT THE WALK IS TOLD OF A SLICE OF INTEGERS THAT CAME IN: it is nil; or it leads to a row of 'cap' cells, the numbers 'zs' (the first 'len' are its elements, the rest its spare room), each fitting its kind. -/
def IsRow (k : IntKind) (w : World) (a : Option Addr) (len cap : Nat) (zs : List Int) : Prop :=
  (a = none ∧ len = 0 ∧ cap = 0 ∧ zs = []) ∨
  ∃ x, a = some x ∧ len ≤ cap ∧ cap ≤ maxLen ∧ zs.length = cap ∧ (∀ i, i < zs.length → w.cell? (x.add i) = some (.int k (zs.getD i 0))) ∧ ∀ n ∈ zs, (Lit.int k n).wf = true

/-! ### STEP 1: THE WALK: the Go text returns true, AND WRITES NOTHING THAT WAS THERE: 'Below w.heap.size w w'' (Derived/Below.lean: '.refl', '.alloc', '.drew', '.setCell' at a new block, '.trans'). Open each 'IsRow' by 'rcases' AHEAD of 'go_enter'; part every test ahead of the walk. -/
open Num in
theorem getNone (s : ByteArray) (a p b : Int) (w : World) (hs : s.size ≤ 64) (h : getR s a = (0, p, b)) : Calls Try.prog 14 #[.string s, .int .i64 a] w fun e w' => e = .returned (.tuple #[.int .u64 0, .int .i64 p, .int .i64 b]) ∧ Below w.heap.size w w' :=
  (implGetVar_any s a w (by omega)).mono fun e w' ⟨he, hb⟩ => ⟨by rw [he, h]; rfl, hb⟩
open Num in
theorem getNoneSpec (s : ByteArray) (a p b : Int) (w : World) (hs : s.size ≤ 64) (h : getR s a = (0, p, b)) : Calls Try.prog 19 #[.string s, .int .i64 a] w fun e w' => e = .returned (.tuple #[.int .u64 0, .int .i64 p, .int .i64 b]) ∧ Below w.heap.size w w' :=
  (specGetVar_any s a w (by omega)).mono fun e w' ⟨he, hb⟩ => ⟨by rw [he, h]; rfl, hb⟩
open Num in
theorem getSome (s : ByteArray) (A m v : Nat) (w : World) (hs : s.size ≤ 64) (h : getR s A = ((v : Int), (A : Int) + (m : Int), 0)) : Calls Try.prog 14 #[.string s, .int .i64 A] w fun e w' => e = .returned (.tuple #[.int .u64 v, .int .i64 ((A : Int) + (m : Int)), .int .i64 0]) ∧ Below w.heap.size w w' :=
  (implGetVar_any s A w (by omega)).mono fun e w' ⟨he, hb⟩ => ⟨by rw [he, h]; rfl, hb⟩
open Num in
theorem getSomeSpec (s : ByteArray) (A m v : Nat) (w : World) (hs : s.size ≤ 64) (h : getR s A = ((v : Int), (A : Int) + (m : Int), 0)) : Calls Try.prog 19 #[.string s, .int .i64 A] w fun e w' => e = .returned (.tuple #[.int .u64 v, .int .i64 ((A : Int) + (m : Int)), .int .i64 0]) ∧ Below w.heap.size w w' :=
  (specGetVar_any s A w (by omega)).mono fun e w' ⟨he, hb⟩ => ⟨by rw [he, h]; rfl, hb⟩
open Num in
theorem padBack (s : ByteArray) (A m v : Nat) (w : World) (hv : v ≤ 18446744073709551615) (h : padS v (m : Int) = s.extract A (A + m)) : Calls Try.prog 12 #[.int .u64 v, .int .i64 m] w fun e w' => e = .returned (.string (s.extract A (A + m))) ∧ Below w.heap.size w w' :=
  (implPadVar_any v _ w hv).mono fun e w' ⟨he, hb⟩ => ⟨by rw [he, h], hb⟩
open Num in
set_option maxHeartbeats 1600000 in
theorem walk (a0 : Option Addr) (len0 cap0 : Nat) (z0 : List Int) (w : World) (w0 : IsRow .u8 w a0 len0 cap0 z0) :
    Calls Try.prog 5 #[.slice a0 len0 cap0] w fun e w' => e = .returned (.bool true) ∧ Below w.heap.size w w' := by
  by_cases hb : 1048576 < len0
  · clear w0
    go_enter Try.func5, Try.ntmps5
    go_wp2
    go_ret
    exact ⟨rfl, Below.refl _ _⟩
  · have hcode := codeOf w0 (by omega)
    have Hcode := Lib.hid hcode
    clear w0 hcode
    go_enter Try.func5, Try.ntmps5
    go_wp2_with (go_at_call 10; go_in)
    refine (drawGetVar_any a0 len0 cap0 _ Hcode.out).mono ?_
    rintro e w1 ⟨s, n, hs, hn0, hn1, rfl, hb1⟩
    have hz1 := hb1.size
    rcases getR_read s n with ⟨p, b, hb12, hr⟩ | ⟨A, m, v, rfl, hAm, hv, hr, hp⟩
    · have Hr := Lib.hid hr; clear hr
      go_wp2_with fail
      refine (getNone s n p b _ hs Hr.out).mono ?_
      rintro e w2 ⟨rfl, hb2⟩
      have hz2 := hb2.size
      have hb13 := hb1.trans (hb2.mono hz1)
      clear hb1 hb2
      go_wp2_with fail
      refine (getNoneSpec s n p b _ hs Hr.out).mono ?_
      rintro e w3 ⟨rfl, hb3⟩
      have hb14 := hb13.trans (hb3.mono (by omega))
      clear hb13 hb3
      rcases hb12 with rfl | rfl
      · go_wp2_with fail
        go_quiet (fail)
        go_wp2_with fail
        go_ret
        exact ⟨rfl, below_drewN hb14 _⟩
      · go_wp2_with fail
        go_quiet (fail)
        go_wp2_with fail
        go_ret
        exact ⟨rfl, below_drewN hb14 _⟩
    · have Hr := Lib.hid hr; clear hr
      have Hv := Lib.hid hv; clear hv
      have Hp := Lib.hid hp; clear hp
      go_wp2_with fail
      refine (getSome s A m v _ hs Hr.out).mono ?_
      rintro e w2 ⟨rfl, hb2⟩
      have hz2 := hb2.size
      have hb13 := hb1.trans (hb2.mono hz1)
      clear hb1 hb2
      go_wp2_with fail
      refine (getSomeSpec s A m v _ hs Hr.out).mono ?_
      rintro e w3 ⟨rfl, hb3⟩
      have hz3 := hb3.size
      have hb14 := hb13.trans (hb3.mono (by omega))
      clear hb13 hb3
      have hsub : IntKind.i64.wrap ((A : Int) + (m : Int) - (A : Int)) = (m : Int) := by rw [show (A : Int) + (m : Int) - (A : Int) = (m : Int) by omega]; exact IntWalk.i64_in _ (by omega)
      have hw0 : IntKind.i64.wrap (m : Int) = (m : Int) := IntWalk.i64_in _ (by omega)
      have hi0 : (0 : Int) ≤ (A : Int) := by omega
      have hi1 : (A : Int) ≤ (A : Int) + (m : Int) := by omega
      have hi2 : (A : Int) + (m : Int) ≤ (s.size : Int) := by omega
      go_wp2_with fail
      refine wp_region_any (by kernel_rfl) ?_
      change wpAny _ _ _ _ _ _ _ (World.drew _)
      refine wpAny_take (i := 0) (v := .int .i64 0) rfl (by kernel_rfl) (by kernel_rfl) (by kernel_rfl) (fun _ _ _ h => h) (Or.inl ⟨by kernel_rfl, ?_⟩) ?_
      · (intro w; go_simp)
      refine wpAny_take (i := 1) (v := .bool false) rfl (by kernel_rfl) (by kernel_rfl) (by kernel_rfl) (fun _ _ _ h => h) (Or.inl ⟨by kernel_rfl, ?_⟩) ?_
      · (intro w; go_simp)
      refine wpAny_take (i := 2) (v := .bool false) rfl (by kernel_rfl) (by kernel_rfl) (by kernel_rfl) (fun _ _ _ h => h) (Or.inl ⟨by kernel_rfl, ?_⟩) ?_
      · (intro w; go_simp)
      refine wpAny_take (i := 3) (v := .int .u64 v) rfl (by kernel_rfl) (by kernel_rfl) (by kernel_rfl) (fun _ _ _ h => h) (Or.inl ⟨by kernel_rfl, ?_⟩) ?_
      · (intro w; go_simp)
      refine wpAny_take (i := 4) (v := .int .i64 ((A : Int) + (m : Int))) rfl (by kernel_rfl) (by kernel_rfl) (by kernel_rfl) (fun _ _ _ h => h) (Or.inl ⟨by kernel_rfl, ?_⟩) ?_
      · (intro w; go_simp)
      refine wpAny_take (i := 5) (v := .int .i64 A) rfl (by kernel_rfl) (by kernel_rfl) (by kernel_rfl) (fun _ _ _ h => h) (Or.inl ⟨by kernel_rfl, ?_⟩) ?_
      · (intro w; go_simp)
      refine wpAny_take (i := 6) (v := .int .i64 m) rfl (by kernel_rfl) (by kernel_rfl) (by kernel_rfl) (fun _ _ _ h => h) (Or.inl ⟨by kernel_rfl, ?_⟩) ?_
      · (intro w; go_simp)
      refine wpAny_take (i := 8) (v := .string s) rfl (by kernel_rfl) (by kernel_rfl) (by kernel_rfl) (fun _ _ _ h => h) (Or.inl ⟨by kernel_rfl, ?_⟩) ?_
      · (intro w; go_simp)
      refine wpAny_take (i := 9) (v := .int .i64 A) rfl (by kernel_rfl) (by kernel_rfl) (by kernel_rfl) (fun _ _ _ h => h) (Or.inl ⟨by kernel_rfl, ?_⟩) ?_
      · (intro w; go_simp)
      refine wpAny_take (i := 10) (v := .int .i64 ((A : Int) + (m : Int))) rfl (by kernel_rfl) (by kernel_rfl) (by kernel_rfl) (fun _ _ _ h => h) (Or.inl ⟨by kernel_rfl, ?_⟩) ?_
      · (intro w; go_simp)
      refine wpAny_take (i := 11) (v := .string (s.extract A (A + m))) rfl (by kernel_rfl) (by kernel_rfl) (by kernel_rfl) (fun _ _ _ h => h) (Or.inl ⟨by kernel_rfl, ?_⟩) ?_
      · (intro w; go_simp; rw [show ((A : Int) + (m : Int)).toNat = A + m by omega])
      refine wpAny_ready (rs := [7]) (by kernel_rfl) (by simp) ?_
      refine AllReady.cons rfl (fun K hK => ?_) AllReady.nil
      go_simp
      go_wp2_with (go_at_call 12; refine (padBack s A m v _ Hv.out Hp.out).mono ?_; rintro e w4 ⟨rfl, hb4⟩)
      try (refine hK _ _ ?_; clear hK K)
      refine wpAny_take (i := 12) (v := .bool true) rfl (by kernel_rfl) (by kernel_rfl) (by kernel_rfl) (fun _ _ _ h => h) (Or.inl ⟨by kernel_rfl, ?_⟩) ?_
      · (intro w; go_simp)
      refine wpAny_take (i := 13) (v := .bool true) rfl (by kernel_rfl) (by kernel_rfl) (by kernel_rfl) (fun _ _ _ h => h) (Or.inl ⟨by kernel_rfl, ?_⟩) ?_
      · (intro w; go_simp)
      refine wpAny_take (i := 14) (v := .bool true) rfl (by kernel_rfl) (by kernel_rfl) (by kernel_rfl) (fun _ _ _ h => h) (Or.inl ⟨by kernel_rfl, ?_⟩) ?_
      · (intro w; go_simp)
      refine wpAny_done (by kernel_rfl) ?_ _
      have hb15 := hb14.drew.trans (hb4.mono (show w.heap.size ≤ w3.heap.size by omega))
      clear hb4 hb14
      go_wp2_with fail
      go_ret
      exact ⟨rfl, hb15⟩

/-! ### THE ROW's STEP: WRITTEN OUT: LEAVE IT -/
set_option maxRecDepth 100000 in
theorem lifted (os : Os) (started : os.Started) (H : Type) (enc : TypeId × Value → H) :
    ReturnsInHanded {} Try.checked os 5 .any (Rows.fnVarReadSpec.pre6 enc Try.prog Try.f5 Rows.fnVarReadRow.domain false) (Rows.fnVarReadSpec.post enc Try.prog Try.f5 false true false false) := by
  refine returnsInHanded_of_change (C := Try.checked) own started (by kernel_rfl) Try.func5
    (ChangeSpec.witness6 (enc := enc) (C := Try.checked) false ⟨#[], #[.slice none 0 0], []⟩ 8 (by kernel_rfl) (by kernel_rfl) (by kernel_rfl) (by kernel_rfl)) ?_
  intro W base args ds gs before hval0 hW hcnd _
  have hval : ∀ (j : Nat) t v, Try.f5.params[j]? = some t → args[j]? = some v → Value.okWide Try.prog W .any base t v := hval0
  have hW' := hW
  obtain ⟨p, q, hA0, hV, rfl, hfz, hnd⟩ := hW
  have hA : DataW.TrodAll enc Try.prog W 0 (fun _ => true) true Try.f5.params.toList args.toList ds p := hA0
  rw [Try.params5] at hA hval
  obtain ⟨v0, vs0, d0, ds0, p0, q0, hargs, rfl, rfl, h0, r0⟩ := trodAll_cons hA
  obtain ⟨rfl, rfl, rfl⟩ := trodAll_nil r0
  obtain rfl : args = #[v0] := by cases args; simp_all
  obtain ⟨rfl, rfl⟩ := trodVars_none hV
  obtain ⟨a0, len0, cap0, rfl⟩ := okWide_slice Try.underlying22 (hval 0 22 v0 rfl rfl)
  have k0 := h0
  have lt0 : ∀ x ∈ p0, x.block < W.heap.size := by obtain ⟨m, hm⟩ := k0; exact DataW.trod_lt m _ _ _ hm
  obtain ⟨z0, w0⟩ : ∃ zs, IsRow .u8 W a0 len0 cap0 zs := by
    obtain ⟨fuel, hf⟩ := h0
    rcases open_ints Try.underlying22 Try.underlying5 (by kernel_rfl) hf with ⟨hcs, _⟩ | ⟨x, l, c, zs, hcs, _, hl, hm, hz, _, hcell, hwz⟩
    · simp [Value.cells] at hcs
      obtain ⟨rfl, rfl, rfl⟩ := hcs
      exact ⟨[], .inl ⟨rfl, rfl, rfl, rfl⟩⟩
    · simp [Value.cells] at hcs
      obtain ⟨rfl, rfl, rfl⟩ := hcs
      exact ⟨zs, .inr ⟨_, rfl, hl, hm, by simpa using hz, hcell, hwz⟩⟩
  clear hA0 hval0
  refine (walk a0 len0 cap0 z0 W w0).mono fun e W' ⟨he, bel⟩ => ?_
  subst he
  exact ⟨_, rfl, _, _, _, [], _, [], hW', trodAll_mk1 (shut_bool Try.underlying4 _), (trodAll_cons_mk (Below.trod laidOut (by kernel_rfl) (of_decide_eq_true (by kernel_rfl)) k0 bel lt0) trodAll_mk0), rfl, bel.frame _, fun h => by cases h⟩

theorem over : Rows.fnVarReadRow.holds Try.pinned (OpenSpec.ofChange Rows.fnVarReadSpec) :=
  OpenClaim.holds_of_wide 5 Try.f5 rfl rfl rfl rfl rfl rfl rfl ⟨rfl, rfl, rfl, rfl, rfl⟩ rfl rfl rfl rfl rfl (by kernel_rfl) Try.func5 (by kernel_rfl)
    (of_decide_eq_true (by kernel_rfl)) (by unfold Func.isWrapper; first | (rw [if_pos (by decide +kernel)]; kernel_rfl) | (rw [if_neg (by decide +kernel)]; exact ⟨rfl, rfl⟩))
    (fun os started H enc _ => lifted os started H enc)

/-- ████ THE STATEMENT ████ -/
theorem proved : Rows.FnVarReadSaid := over
end Go.Proofs.Ytpokopoadelhmaa.fnVarRead
