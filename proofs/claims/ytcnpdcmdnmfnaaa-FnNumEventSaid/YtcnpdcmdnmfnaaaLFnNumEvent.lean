/-
  For every code of bytes, laws.FnNumEvent returns true: a number that fits is told as it is, a flag as 0 or 1. No condition.
-/
import Derived.Test.YtcnpdcmdnmfnaaaRows
import Derived.WalkKit
import Derived.ProofKit
import Derived.OpenShut
import Derived.ShutString
import Derived.ChangeOld
import Derived.Below
import Derived.Test.YtcnpdcmdnmfnaaaGramI
import Derived.Test.YtcnpdcmdnmfnaaaDrawGram
import Derived.Test.YtcnpdcmdnmfnaaaEvSame
namespace Go.Proofs.Ytcnpdcmdnmfnaaa.fnNumEvent
open Go.ChangeShapes Go.WideShapes Go.ChangeAt Go.RowKit
open Go.ChangeMaps (open_string shut_string)
set_option linter.unusedVariables false

theorem own : ownKnob Try.prog.godebug = none := by kernel_rfl
theorem laidOut : laidOutB Try.prog = true := by kernel_rfl

/-- WHAT THE WALK IS TOLD OF A SLICE OF INTEGERS THAT CAME IN: it is nil; or it leads to a row of 'cap' cells, the numbers 'zs' (the first 'len' are its elements, the rest its spare room), each fitting its kind. -/
def IsRow (k : IntKind) (w : World) (a : Option Addr) (len cap : Nat) (zs : List Int) : Prop :=
  (a = none ∧ len = 0 ∧ cap = 0 ∧ zs = []) ∨
  ∃ x, a = some x ∧ len ≤ cap ∧ cap ≤ maxLen ∧ zs.length = cap ∧ (∀ i, i < zs.length → w.cell? (x.add i) = some (.int k (zs.getD i 0))) ∧ ∀ n ∈ zs, (Lit.int k n).wf = true

/-! ### STEP 1: THE WALK: the Go text returns true, AND WRITES NOTHING THAT WAS THERE: 'Below w.heap.size w w'' (Derived/Below.lean: '.refl', '.alloc', '.drew', '.setCell' at a new block, '.trans'). Open each 'IsRow' by 'rcases' AHEAD of 'go_enter'; part every test ahead of the walk. -/
open Num in
theorem fit_as {k : Int} {u : Nat} {R : Bool} (h : fitB k u = R) (w : World) : Calls Try.prog 15 #[.int .i64 k, .int .u64 u] w fun e w' => e = .returned (.bool R) ∧ w = w' := h ▸ specBitsFit_any k u w
open Num in
set_option maxHeartbeats 4000000 in
theorem walk (a0 : Option Addr) (len0 cap0 : Nat) (z0 : List Int) (w : World) (w0 : IsRow .u8 w a0 len0 cap0 z0) :
    Calls Try.prog 4 #[.slice a0 len0 cap0] w fun e w' => e = .returned (.bool true) ∧ Below w.heap.size w w' := by
  by_cases hb : 1048576 < len0
  · clear w0
    go_enter Try.func4, Try.ntmps4
    go_wp2
    go_ret
    exact ⟨rfl, Below.refl _ _⟩
  · have hcode := codeOf w0 (by omega)
    have Hcode := Lib.hid hcode
    clear w0 hcode
    go_enter Try.func4, Try.ntmps4
    go_wp2_with (go_at_call 8; go_in)
    refine (drawNumEvent_any a0 len0 cap0 _ Hcode.out).mono ?_
    rintro e w1 ⟨n, k, u, hn, hk, hu, rfl, hb1⟩
    have hx1 : Box (w1.alloc (.cells #[.int .i64 n, .int .i64 k, .bool false, .bool false, .int .i64 0] 31)) w1.heap.size [.int .i64 n, .int .i64 k, .bool false, .bool false, .int .i64 0] := Box.fresh w1 #[.int .i64 n, .int .i64 k, .bool false, .bool false, .int .i64 0] _
    have hl1 : Below w.heap.size w (w1.alloc (.cells #[.int .i64 n, .int .i64 k, .bool false, .bool false, .int .i64 0] 31)) := hb1.alloc hb1.size _
    clear hb1 Hcode
    go_wp2_with fail
    generalize w1.alloc (.cells #[.int .i64 n, .int .i64 k, .bool false, .bool false, .int .i64 0] 31) = wa at hx1 hl1 ⊢
    generalize w1.heap.size = ga at hx1 ⊢
    have hI := implNumEvent_any (n, k, false, false, 0) u wa
    unfold numE fieldV evV at hI
    simp only at hI
    refine hI.mono ?_
    clear hI
    rintro e w2 ⟨rfl, hb2⟩
    obtain ⟨B, hB⟩ : ∃ B, numB k u = B := ⟨_, rfl⟩
    rw [hB]
    have hy2 : Box (w2.alloc (.cells #[.int .i64 2, .int .i64 n, .int .u64 B, .int .i64 0, .string ⟨#[]⟩, .int .i64 0, .int .i64 0] 35)) w2.heap.size [.int .i64 2, .int .i64 n, .int .u64 B, .int .i64 0, .string ⟨#[]⟩, .int .i64 0, .int .i64 0] := Box.fresh w2 #[.int .i64 2, .int .i64 n, .int .u64 B, .int .i64 0, .string ⟨#[]⟩, .int .i64 0, .int .i64 0] _
    have hx2 := (hx1.below hb2 hx1.lt).alloc (.cells #[.int .i64 2, .int .i64 n, .int .u64 B, .int .i64 0, .string ⟨#[]⟩, .int .i64 0, .int .i64 0] 35)
    have hl2 := (hl1.trans (hb2.mono hl1.size)).alloc (hl1.trans (hb2.mono hl1.size)).size (.cells #[.int .i64 2, .int .i64 n, .int .u64 B, .int .i64 0, .string ⟨#[]⟩, .int .i64 0, .int .i64 0] 35)
    clear hx1 hl1 hb2
    obtain ⟨⟨c0, c1, c2, c3, c4⟩, k0, k1, k2, k3, k4⟩ := Box.five hx2
    obtain ⟨⟨e0, e1, e2, e3, e4, e5, e6⟩, _⟩ := Box.seven hy2
    have hE := evEq_as (a := ⟨2, n, (B : Int), 0, ⟨#[]⟩, 0, 0⟩) (b := ⟨2, n, (B : Int), 0, ⟨#[]⟩, 0, 0⟩) (Q := true) (decide_eq_true rfl)
    unfold evV at hE
    simp only at hE
    clear hx2 hy2
    by_cases h3 : k = 3
    · subst h3
      have hfit : Hid (fitB 3 B = true) := Lib.hid (by rw [← hB]; unfold fitB numB; rw [if_pos rfl]; apply decide_eq_true; split <;> omega)
      obtain ⟨q, hq1, hq2⟩ : ∃ q, ((u : Int) == 0) = q ∧ ((B : Int) == 0) = q := ⟨_, rfl, by rw [← hB, Bool.eq_iff_iff]; unfold numB; simp; split <;> omega⟩
      have hqq : (q == q) = true := by simp
      clear hB hn hk hu
      go_wp2_with fail
      refine (fit_as hfit.out _).mono ?_
      rintro e w3 ⟨rfl, rfl⟩
      go_wp2_with fail
      go_ret
      exact ⟨rfl, hl2⟩
    · have h3b : (k == 3) = false := neI h3
      have hBu : B = u := by rw [← hB]; unfold numB; rw [if_neg (fun h => h3 h.1)]
      subst hBu
      clear hB hn hk hu h3
      go_wp2_with fail
      go_ret
      exact ⟨rfl, hl2⟩

/-! ### THE ROW's STEP: WRITTEN OUT: LEAVE IT -/
set_option maxRecDepth 100000 in
theorem lifted (os : Os) (started : os.Started) (H : Type) (enc : TypeId × Value → H) :
    ReturnsInHanded {} Try.checked os 4 .any (Rows.fnNumEventSpec.pre6 enc Try.prog Try.f4 Rows.fnNumEventRow.domain false) (Rows.fnNumEventSpec.post enc Try.prog Try.f4 false true false false) := by
  refine returnsInHanded_of_change (C := Try.checked) own started (by kernel_rfl) Try.func4
    (ChangeSpec.witness6 (enc := enc) (C := Try.checked) false ⟨#[], #[.slice none 0 0], []⟩ 8 (by kernel_rfl) (by kernel_rfl) (by kernel_rfl) (by kernel_rfl)) ?_
  intro W base args ds gs before hval0 hW hcnd _
  have hval : ∀ (j : Nat) t v, Try.f4.params[j]? = some t → args[j]? = some v → Value.okWide Try.prog W .any base t v := hval0
  have hW' := hW
  obtain ⟨p, q, hA0, hV, rfl, hfz, hnd⟩ := hW
  have hA : DataW.TrodAll enc Try.prog W 0 (fun _ => true) true Try.f4.params.toList args.toList ds p := hA0
  rw [Try.params4] at hA hval
  obtain ⟨v0, vs0, d0, ds0, p0, q0, hargs, rfl, rfl, h0, r0⟩ := trodAll_cons hA
  obtain ⟨rfl, rfl, rfl⟩ := trodAll_nil r0
  obtain rfl : args = #[v0] := by cases args; simp_all
  obtain ⟨rfl, rfl⟩ := trodVars_none hV
  obtain ⟨a0, len0, cap0, rfl⟩ := okWide_slice Try.underlying22 (hval 0 22 v0 rfl rfl)
  have k0 := h0
  have lt0 : ∀ x ∈ p0, x.block < W.heap.size := by obtain ⟨m, hm⟩ := k0; exact DataW.trod_lt m _ _ _ hm
  obtain ⟨z0, w0⟩ : ∃ zs, IsRow .u8 W a0 len0 cap0 zs := by
    obtain ⟨fuel, hf⟩ := h0
    rcases open_ints Try.underlying22 Try.underlying5 (by kernel_rfl) hf with ⟨hcs, _⟩ | ⟨x, l, c, zs, hcs, _, hl, hm, hz, _, hcell, hwz⟩
    · simp [Value.cells] at hcs
      obtain ⟨rfl, rfl, rfl⟩ := hcs
      exact ⟨[], .inl ⟨rfl, rfl, rfl, rfl⟩⟩
    · simp [Value.cells] at hcs
      obtain ⟨rfl, rfl, rfl⟩ := hcs
      exact ⟨zs, .inr ⟨_, rfl, hl, hm, by simpa using hz, hcell, hwz⟩⟩
  clear hA0 hval0
  refine (walk a0 len0 cap0 z0 W w0).mono fun e W' ⟨he, bel⟩ => ?_
  subst he
  exact ⟨_, rfl, _, _, _, [], _, [], hW', trodAll_mk1 (shut_bool Try.underlying4 _), (trodAll_cons_mk (Below.trod laidOut (by kernel_rfl) (of_decide_eq_true (by kernel_rfl)) k0 bel lt0) trodAll_mk0), rfl, bel.frame _, fun h => by cases h⟩

theorem over : Rows.fnNumEventRow.holds Try.pinned (OpenSpec.ofChange Rows.fnNumEventSpec) :=
  OpenClaim.holds_of_wide 4 Try.f4 rfl rfl rfl rfl rfl rfl rfl ⟨rfl, rfl, rfl, rfl, rfl⟩ rfl rfl rfl rfl rfl (by kernel_rfl) Try.func4 (by kernel_rfl)
    (of_decide_eq_true (by kernel_rfl)) (by unfold Func.isWrapper; first | (rw [if_pos (by decide +kernel)]; kernel_rfl) | (rw [if_neg (by decide +kernel)]; exact ⟨rfl, rfl⟩))
    (fun os started H enc _ => lifted os started H enc)

/-- ████ THE STATEMENT ████ -/
theorem proved : Rows.FnNumEventSaid := over
end Go.Proofs.Ytcnpdcmdnmfnaaa.fnNumEvent
