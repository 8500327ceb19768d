/-
  For every code of bytes, laws.FnVarWithin returns true: with all the room there is a number within is one as at once; with less it ends there. No condition.
-/
import Derived.Test.YtcnpdcmdnmfnaaaRows
import Derived.WalkKit
import Derived.ProofKit
import Derived.OpenShut
import Derived.ShutString
import Derived.ChangeOld
import Derived.Below
import Derived.Test.YtcnpdcmdnmfnaaaGramI
import Derived.Test.YtcnpdcmdnmfnaaaDrawGram
import Derived.Test.YtcnpdcmdnmfnaaaWithinLaw
namespace Go.Proofs.Ytcnpdcmdnmfnaaa.fnVarWithin
open Go.ChangeShapes Go.WideShapes Go.ChangeAt Go.RowKit
open Go.ChangeMaps (open_string shut_string)
set_option linter.unusedVariables false

theorem own : ownKnob Try.prog.godebug = none := by kernel_rfl
theorem laidOut : laidOutB Try.prog = true := by kernel_rfl

/-- WHAT THE WALK IS TOLD OF A SLICE OF INTEGERS THAT CAME IN: it is nil; or it leads to a row of 'cap' cells, the numbers 'zs' (the first 'len' are its elements, the rest its spare room), each fitting its kind. -/
def IsRow (k : IntKind) (w : World) (a : Option Addr) (len cap : Nat) (zs : List Int) : Prop :=
  (a = none ∧ len = 0 ∧ cap = 0 ∧ zs = []) ∨
  ∃ x, a = some x ∧ len ≤ cap ∧ cap ≤ maxLen ∧ zs.length = cap ∧ (∀ i, i < zs.length → w.cell? (x.add i) = some (.int k (zs.getD i 0))) ∧ ∀ n ∈ zs, (Lit.int k n).wf = true

/-! ### STEP 1: THE WALK: the Go text returns true, AND WRITES NOTHING THAT WAS THERE: 'Below w.heap.size w w'' (Derived/Below.lean: '.refl', '.alloc', '.drew', '.setCell' at a new block, '.trans'). Open each 'IsRow' by 'rcases' AHEAD of 'go_enter'; part every test ahead of the walk. -/
open Num in
set_option maxHeartbeats 4000000 in
theorem walk (a0 : Option Addr) (len0 cap0 : Nat) (z0 : List Int) (w : World) (w0 : IsRow .u8 w a0 len0 cap0 z0) :
    Calls Try.prog 3 #[.slice a0 len0 cap0] w fun e w' => e = .returned (.bool true) ∧ Below w.heap.size w w' := by
  by_cases hb : 1048576 < len0
  · clear w0
    go_enter Try.func3, Try.ntmps3
    go_wp2
    go_ret
    exact ⟨rfl, Below.refl _ _⟩
  · have hcode := codeOf w0 (by omega)
    have Hcode := Lib.hid hcode
    clear w0 hcode
    go_enter Try.func3, Try.ntmps3
    go_wp2_with (go_at_call 8; go_in)
    refine (drawVarWithin_any a0 len0 cap0 _ Hcode.out).mono ?_
    rintro e w1 ⟨s, n, E, hs, hn, hE, rfl, hl1⟩
    have Hs := Lib.hid hs
    generalize hw : withinR s n E = W
    have HW := Lib.hid hw; clear hw
    obtain ⟨v, p, b⟩ := W
    go_wp2_with fail
    refine (implVarWithin_any s n E _ (by omega)).mono ?_
    rw [HW.out]
    rintro e w2 ⟨rfl, hb2⟩
    have hl2 := hl1.trans (hb2.mono hl1.size)
    clear hl1 hb2 Hcode
    unfold getV
    go_wp2_with fail
    refine (specWithin_any s n E _ (by omega)).mono ?_
    rw [HW.out]
    rintro e w3 ⟨rfl, rfl⟩
    unfold getV
    have n1 : (b != b) = false := by simp
    have n2 : (p != p) = false := by simp
    by_cases hlo : n < 0
    · have h := HW.out
      rw [within_out (by omega)] at h
      injection h with h1 h2
      injection h2 with h2 h3
      have g1 : (v == 0) = true := by simp [← h1]
      have g2 : (b == 10) = true := by simp [← h3]
      clear h1 h2 h3 hn hE
      go_wp2_with fail
      go_ret
      exact ⟨rfl, hl2⟩
    · by_cases hhi : (s.size : Int) < n
      · have h := HW.out
        rw [within_out (by omega)] at h
        injection h with h1 h2
        injection h2 with h2 h3
        have g1 : (v == 0) = true := by simp [← h1]
        have g2 : (b == 10) = true := by simp [← h3]
        have d1 : decide (n < 0) = false := decide_eq_false hlo
        clear h1 h2 h3 hn hE
        go_wp2_with fail
        go_ret
        exact ⟨rfl, hl2⟩
      · obtain ⟨A, rfl⟩ := Int.eq_ofNat_of_zero_le (show 0 ≤ n by omega)
        have d1 : decide ((A : Int) < 0) = false := decide_eq_false hlo
        have d2 : decide ((s.size : Int) < (A : Int)) = false := decide_eq_false hhi
        generalize hg : getR s A = G
        have HG := Lib.hid hg; clear hg
        obtain ⟨x, f, t⟩ := G
        have hL := within_law (by omega) HW.out HG.out
        have HL := Lib.hid hL
        clear hL
        go_wp2_with fail
        refine (specGetVar_any s A _ (by omega)).mono ?_
        rw [HG.out]
        rintro e w4 ⟨rfl, hb4⟩
        have hl4 := hl2.trans (hb4.mono hl2.size)
        clear hl2 hb4 hn
        unfold getV
        obtain ⟨L1, L2, L3, L4, L5, L6, L7⟩ := HL.out
        have hwf : IntKind.i64.wrap (f + 1) = f + 1 := IntWalk.i64_in _ (by have := Hs.out; omega)
        by_cases ht0 : t = 0
        · have t0 : (t == 0) = true := by simp [ht0]
          by_cases hfE : f ≤ E
          · obtain ⟨h1, h2, h3⟩ := L1 ⟨ht0, hfE⟩
            have g1 : (b == 0) = true := by simp [h1]
            have g2 : (v == x) = true := by simp [h2]
            have g3 : (p == f) = true := by simp [h3]
            clear L1 L2 L3 L4 L5 L6 L7 h1 h2 h3 ht0
            go_wp2_with fail
            go_ret
            exact ⟨rfl, hl4⟩
          · obtain ⟨h1, h2⟩ := L2 ⟨ht0, by omega⟩
            have g1 : (b == 9) = true := by simp [h1]
            have g2 : (p == E) = true := by simp [h2]
            have d3 : decide (f ≤ E) = false := decide_eq_false hfE
            clear L1 L2 L3 L4 L5 L6 L7 h1 h2 ht0
            go_wp2_with fail
            go_ret
            exact ⟨rfl, hl4⟩
        · have t0 : (t == 0) = false := neI ht0
          have gb : (b != 0) = true := by simpa using L4 ht0
          by_cases c1 : E ≤ (s.size : Int)
          · by_cases c2 : (A : Int) ≤ E
            · by_cases c3 : E < f + 1
              · by_cases ht1 : t = 1
                · obtain ⟨h1, h2⟩ := L3 ⟨ht1, c1⟩
                  have t1 : (t == 1) = true := by simp [ht1]
                  have g1 : (b == 9) = true := by simp [h1]
                  have g2 : (p == E) = true := by simp [h2]
                  clear L1 L2 L3 L4 L5 L6 L7 h1 h2 ht1 ht0
                  go_wp2_with fail
                  go_ret
                  exact ⟨rfl, hl4⟩
                · have t1 : (t == 1) = false := neI ht1
                  clear L1 L2 L3 L4 L5 L6 L7 ht1 ht0
                  go_wp2_with fail
                  go_ret
                  exact ⟨rfl, hl4⟩
              · have d3 : decide (E < f + 1) = false := decide_eq_false c3
                clear L1 L2 L3 L4 L5 L6 L7 ht0
                go_wp2_with fail
                go_ret
                exact ⟨rfl, hl4⟩
            · have d3 : decide ((A : Int) ≤ E) = false := decide_eq_false c2
              clear L1 L2 L3 L4 L5 L6 L7 ht0
              go_wp2_with fail
              go_ret
              exact ⟨rfl, hl4⟩
          · have d3 : decide (E ≤ (s.size : Int)) = false := decide_eq_false c1
            clear L1 L2 L3 L4 L5 L6 L7 ht0
            go_wp2_with fail
            go_ret
            exact ⟨rfl, hl4⟩

/-! ### THE ROW's STEP: WRITTEN OUT: LEAVE IT -/
set_option maxRecDepth 100000 in
theorem lifted (os : Os) (started : os.Started) (H : Type) (enc : TypeId × Value → H) :
    ReturnsInHanded {} Try.checked os 3 .any (Rows.fnVarWithinSpec.pre6 enc Try.prog Try.f3 Rows.fnVarWithinRow.domain false) (Rows.fnVarWithinSpec.post enc Try.prog Try.f3 false true false false) := by
  refine returnsInHanded_of_change (C := Try.checked) own started (by kernel_rfl) Try.func3
    (ChangeSpec.witness6 (enc := enc) (C := Try.checked) false ⟨#[], #[.slice none 0 0], []⟩ 8 (by kernel_rfl) (by kernel_rfl) (by kernel_rfl) (by kernel_rfl)) ?_
  intro W base args ds gs before hval0 hW hcnd _
  have hval : ∀ (j : Nat) t v, Try.f3.params[j]? = some t → args[j]? = some v → Value.okWide Try.prog W .any base t v := hval0
  have hW' := hW
  obtain ⟨p, q, hA0, hV, rfl, hfz, hnd⟩ := hW
  have hA : DataW.TrodAll enc Try.prog W 0 (fun _ => true) true Try.f3.params.toList args.toList ds p := hA0
  rw [Try.params3] at hA hval
  obtain ⟨v0, vs0, d0, ds0, p0, q0, hargs, rfl, rfl, h0, r0⟩ := trodAll_cons hA
  obtain ⟨rfl, rfl, rfl⟩ := trodAll_nil r0
  obtain rfl : args = #[v0] := by cases args; simp_all
  obtain ⟨rfl, rfl⟩ := trodVars_none hV
  obtain ⟨a0, len0, cap0, rfl⟩ := okWide_slice Try.underlying22 (hval 0 22 v0 rfl rfl)
  have k0 := h0
  have lt0 : ∀ x ∈ p0, x.block < W.heap.size := by obtain ⟨m, hm⟩ := k0; exact DataW.trod_lt m _ _ _ hm
  obtain ⟨z0, w0⟩ : ∃ zs, IsRow .u8 W a0 len0 cap0 zs := by
    obtain ⟨fuel, hf⟩ := h0
    rcases open_ints Try.underlying22 Try.underlying5 (by kernel_rfl) hf with ⟨hcs, _⟩ | ⟨x, l, c, zs, hcs, _, hl, hm, hz, _, hcell, hwz⟩
    · simp [Value.cells] at hcs
      obtain ⟨rfl, rfl, rfl⟩ := hcs
      exact ⟨[], .inl ⟨rfl, rfl, rfl, rfl⟩⟩
    · simp [Value.cells] at hcs
      obtain ⟨rfl, rfl, rfl⟩ := hcs
      exact ⟨zs, .inr ⟨_, rfl, hl, hm, by simpa using hz, hcell, hwz⟩⟩
  clear hA0 hval0
  refine (walk a0 len0 cap0 z0 W w0).mono fun e W' ⟨he, bel⟩ => ?_
  subst he
  exact ⟨_, rfl, _, _, _, [], _, [], hW', trodAll_mk1 (shut_bool Try.underlying4 _), (trodAll_cons_mk (Below.trod laidOut (by kernel_rfl) (of_decide_eq_true (by kernel_rfl)) k0 bel lt0) trodAll_mk0), rfl, bel.frame _, fun h => by cases h⟩

theorem over : Rows.fnVarWithinRow.holds Try.pinned (OpenSpec.ofChange Rows.fnVarWithinSpec) :=
  OpenClaim.holds_of_wide 3 Try.f3 rfl rfl rfl rfl rfl rfl rfl ⟨rfl, rfl, rfl, rfl, rfl⟩ rfl rfl rfl rfl rfl (by kernel_rfl) Try.func3 (by kernel_rfl)
    (of_decide_eq_true (by kernel_rfl)) (by unfold Func.isWrapper; first | (rw [if_pos (by decide +kernel)]; kernel_rfl) | (rw [if_neg (by decide +kernel)]; exact ⟨rfl, rfl⟩))
    (fun os started H enc _ => lifted os started H enc)

/-- ████ THE STATEMENT ████ -/
theorem proved : Rows.FnVarWithinSaid := over
end Go.Proofs.Ytcnpdcmdnmfnaaa.fnVarWithin
