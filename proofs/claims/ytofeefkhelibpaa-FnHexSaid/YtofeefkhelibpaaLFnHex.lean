/-
  For every code of bytes, laws.FnHex returns true: what Hex writes has two digits a byte and is read back by Unhex, Unhex accepts just what the reference accepts, and what it accepts is written back. No condition.
-/
import Derived.Test.YtofeefkhelibpaaRows
import Derived.WalkKit
import Derived.ProofKit
import Derived.OpenShut
import Derived.ShutString
import Derived.ChangeOld
import Derived.Below
import Derived.Test.YtofeefkhelibpaaDrawHex
import Derived.Test.YtofeefkhelibpaaHexMath
namespace Go.Proofs.Ytofeefkhelibpaa.fnHex
open Go.ChangeShapes Go.WideShapes Go.ChangeAt Go.RowKit
open Go.ChangeMaps (open_string shut_string)
set_option linter.unusedVariables false

theorem own : ownKnob Try.prog.godebug = none := by kernel_rfl
theorem laidOut : laidOutB Try.prog = true := by kernel_rfl

/-- WHAT THE WALK IS TOLD OF A SLICE OF INTEGERS THAT CAME IN: it is nil; or it leads to a row of 'cap' cells, the numbers 'zs' (the first 'len' are its elements, the rest its spare room), each fitting its kind. -/
def IsRow (k : IntKind) (w : World) (a : Option Addr) (len cap : Nat) (zs : List Int) : Prop :=
  (a = none ∧ len = 0 ∧ cap = 0 ∧ zs = []) ∨
  ∃ x, a = some x ∧ len ≤ cap ∧ cap ≤ maxLen ∧ zs.length = cap ∧ (∀ i, i < zs.length → w.cell? (x.add i) = some (.int k (zs.getD i 0))) ∧ ∀ n ∈ zs, (Lit.int k n).wf = true

/-! ### STEP 1: THE WALK: the Go text returns true, AND WRITES NOTHING THAT WAS THERE: 'Below w.heap.size w w'' (Derived/Below.lean: '.refl', '.alloc', '.drew', '.setCell' at a new block, '.trans'). Open each 'IsRow' by 'rcases' AHEAD of 'go_enter'; part every test ahead of the walk. -/
open Num in
theorem hexIs (s : ByteArray) (w : World) (hs : s.size ≤ 1048576) : Calls Try.prog 10 #[.string s] w fun e w' => ∃ h : ByteArray, e = .returned (.string h) ∧ h.size = 2 * s.size ∧ unhexL h.data.toList = (s.data.toList, true) ∧ Below w.heap.size w w' :=
  (implHex_any s w hs).mono fun e w' ⟨he, hb⟩ => ⟨_, he, (by show (hexL s.data.toList).toArray.size = _; rw [List.size_toArray, hexL_length]; simp), by simp [unhexL_hexL], hb⟩
open Num in
theorem unhexIs (h s : ByteArray) (w : World) (hh : h.size ≤ 1048576) (hu : unhexL h.data.toList = (s.data.toList, true)) : Calls Try.prog 11 #[.string h] w fun e w' => e = .returned (.tuple #[.string s, .bool true]) ∧ Below w.heap.size w w' :=
  (implUnhex_any h w (by omega)).mono fun e w' ⟨he, hb⟩ => ⟨by rw [he, hu], hb⟩
open Num in
theorem hexBack (t : ByteArray) (w : World) (ht : t.size ≤ 1048576) (hu : hexL (unhexL t.data.toList).1 = t.data.toList) : Calls Try.prog 10 #[.string ⟨(unhexL t.data.toList).1.toArray⟩] w fun e w' => e = .returned (.string t) ∧ Below w.heap.size w w' := by
  have hl : (unhexL t.data.toList).1.length ≤ t.size := by
    have h1 := hexL_length (unhexL t.data.toList).1
    rw [hu] at h1
    have h2 : t.data.toList.length = t.size := by simp
    omega
  refine (implHex_any ⟨(unhexL t.data.toList).1.toArray⟩ w (by show (unhexL t.data.toList).1.toArray.size ≤ _; rw [List.size_toArray]; omega)).mono fun e w' ⟨he, hb⟩ => ⟨?_, hb⟩
  rw [he, hu]
open Num in
set_option maxHeartbeats 1600000 in
theorem walk (a0 : Option Addr) (len0 cap0 : Nat) (z0 : List Int) (w : World) (w0 : IsRow .u8 w a0 len0 cap0 z0) :
    Calls Try.prog 3 #[.slice a0 len0 cap0] w fun e w' => e = .returned (.bool true) ∧ Below w.heap.size w w' := by
  by_cases hb : 1048576 < len0
  · clear w0
    go_enter Try.func3, Try.ntmps3
    go_wp2
    go_ret
    exact ⟨rfl, Below.refl _ _⟩
  · have hcode := codeOf w0 (by omega)
    have Hcode := Lib.hid hcode
    clear w0 hcode
    go_enter Try.func3, Try.ntmps3
    go_wp2_with (go_at_call 8; go_in)
    refine (drawHex_any a0 len0 cap0 _ Hcode.out).mono ?_
    rintro e w1 ⟨s, hs, rfl, hb1⟩
    have hz1 := hb1.size
    go_wp2_with fail
    refine (hexIs s _ (by omega)).mono ?_
    rintro e w2 ⟨h, rfl, hh, hu, hb2⟩
    have hz2 := hb2.size
    have hlen : ((h.size : Int) == 2 * (s.size : Int)) = true := by rw [beq_iff_eq]; omega
    have hh20 : h.size ≤ 22 := by omega
    have Hu := Lib.hid hu
    clear hu hh
    go_wp2_with fail
    refine (unhexIs h s _ (by omega) Hu.out).mono ?_
    rintro e w3 ⟨rfl, hb3⟩
    have hz3 := hb3.size
    have hb13 : Below w.heap.size w w3 := (hb1.trans (hb2.mono hz1)).trans (hb3.mono (by omega))
    clear hb1 hb2 hb3
    go_wp2_with fail
    refine (drawUnhex_any a0 len0 cap0 _ (Hcode.out.grow hb13 (by omega))).mono ?_
    rintro e w4 ⟨t, ht, rfl, hb4⟩
    have hz4 := hb4.size
    go_wp2_with fail
    refine (implUnhex_any t _ (by omega)).mono ?_
    rintro e w5 ⟨rfl, hb5⟩
    have hz5 := hb5.size
    cases hr : (unhexL t.data.toList).2 with
    | false =>
      have Hr := Lib.hid hr; clear hr
      go_wp2_with fail
      refine (specUnhex_any t _ (by omega)).mono ?_
      rintro e w6 ⟨rfl, hb6⟩
      rw [Hr.out]
      go_wp2_with fail
      go_ret
      exact ⟨rfl, ((hb13.trans (hb4.mono (by omega))).trans (hb5.mono (by omega))).trans (hb6.mono (by omega))⟩
    | true =>
      have Hx := Lib.hid (hexL_unhexL hr)
      have Hr := Lib.hid hr; clear hr
      go_wp2_with fail
      refine (specUnhex_any t _ (by omega)).mono ?_
      rintro e w6 ⟨rfl, hb6⟩
      rw [Hr.out]
      go_wp2_with fail
      refine (hexBack t _ (by omega) Hx.out).mono ?_
      rintro e w7 ⟨rfl, hb7⟩
      have hz6 := hb6.size
      go_wp2_with fail
      go_ret
      exact ⟨rfl, (((hb13.trans (hb4.mono (by omega))).trans (hb5.mono (by omega))).trans (hb6.mono (by omega))).trans (hb7.mono (by omega))⟩

/-! ### THE ROW's STEP: WRITTEN OUT: LEAVE IT -/
set_option maxRecDepth 100000 in
theorem lifted (os : Os) (started : os.Started) (H : Type) (enc : TypeId × Value → H) :
    ReturnsInHanded {} Try.checked os 3 .any (Rows.fnHexSpec.pre6 enc Try.prog Try.f3 Rows.fnHexRow.domain false) (Rows.fnHexSpec.post enc Try.prog Try.f3 false true false false) := by
  refine returnsInHanded_of_change (C := Try.checked) own started (by kernel_rfl) Try.func3
    (ChangeSpec.witness6 (enc := enc) (C := Try.checked) false ⟨#[], #[.slice none 0 0], []⟩ 8 (by kernel_rfl) (by kernel_rfl) (by kernel_rfl) (by kernel_rfl)) ?_
  intro W base args ds gs before hval0 hW hcnd _
  have hval : ∀ (j : Nat) t v, Try.f3.params[j]? = some t → args[j]? = some v → Value.okWide Try.prog W .any base t v := hval0
  have hW' := hW
  obtain ⟨p, q, hA0, hV, rfl, hfz, hnd⟩ := hW
  have hA : DataW.TrodAll enc Try.prog W 0 (fun _ => true) true Try.f3.params.toList args.toList ds p := hA0
  rw [Try.params3] at hA hval
  obtain ⟨v0, vs0, d0, ds0, p0, q0, hargs, rfl, rfl, h0, r0⟩ := trodAll_cons hA
  obtain ⟨rfl, rfl, rfl⟩ := trodAll_nil r0
  obtain rfl : args = #[v0] := by cases args; simp_all
  obtain ⟨rfl, rfl⟩ := trodVars_none hV
  obtain ⟨a0, len0, cap0, rfl⟩ := okWide_slice Try.underlying22 (hval 0 22 v0 rfl rfl)
  have k0 := h0
  have lt0 : ∀ x ∈ p0, x.block < W.heap.size := by obtain ⟨m, hm⟩ := k0; exact DataW.trod_lt m _ _ _ hm
  obtain ⟨z0, w0⟩ : ∃ zs, IsRow .u8 W a0 len0 cap0 zs := by
    obtain ⟨fuel, hf⟩ := h0
    rcases open_ints Try.underlying22 Try.underlying5 (by kernel_rfl) hf with ⟨hcs, _⟩ | ⟨x, l, c, zs, hcs, _, hl, hm, hz, _, hcell, hwz⟩
    · simp [Value.cells] at hcs
      obtain ⟨rfl, rfl, rfl⟩ := hcs
      exact ⟨[], .inl ⟨rfl, rfl, rfl, rfl⟩⟩
    · simp [Value.cells] at hcs
      obtain ⟨rfl, rfl, rfl⟩ := hcs
      exact ⟨zs, .inr ⟨_, rfl, hl, hm, by simpa using hz, hcell, hwz⟩⟩
  clear hA0 hval0
  refine (walk a0 len0 cap0 z0 W w0).mono fun e W' ⟨he, bel⟩ => ?_
  subst he
  exact ⟨_, rfl, _, _, _, [], _, [], hW', trodAll_mk1 (shut_bool Try.underlying4 _), (trodAll_cons_mk (Below.trod laidOut (by kernel_rfl) (of_decide_eq_true (by kernel_rfl)) k0 bel lt0) trodAll_mk0), rfl, bel.frame _, fun h => by cases h⟩

theorem over : Rows.fnHexRow.holds Try.pinned (OpenSpec.ofChange Rows.fnHexSpec) :=
  OpenClaim.holds_of_wide 3 Try.f3 rfl rfl rfl rfl rfl rfl rfl ⟨rfl, rfl, rfl, rfl, rfl⟩ rfl rfl rfl rfl rfl (by kernel_rfl) Try.func3 (by kernel_rfl)
    (of_decide_eq_true (by kernel_rfl)) (by unfold Func.isWrapper; first | (rw [if_pos (by decide +kernel)]; kernel_rfl) | (rw [if_neg (by decide +kernel)]; exact ⟨rfl, rfl⟩))
    (fun os started H enc _ => lifted os started H enc)

/-- ████ THE STATEMENT ████ -/
theorem proved : Rows.FnHexSaid := over
end Go.Proofs.Ytofeefkhelibpaa.fnHex
