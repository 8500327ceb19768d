/-
  For every code of bytes, laws.FnPrefix returns true: PrefixOf answers as the reference's, every list is a prefix of itself, what is cut off a list is a prefix of it, and of what the list is a prefix of. No condition.
-/
import Derived.Test.YteplmjlllnbiiaaRows
import Derived.WalkKit
import Derived.ProofKit
import Derived.OpenShut
import Derived.ShutString
import Derived.ChangeOld
import Derived.Below
import Derived.Test.YteplmjlllnbiiaaElevI
import Derived.Test.YteplmjlllnbiiaaMergeLaw
import Derived.Test.YteplmjlllnbiiaaDrawPrefix
import Derived.Test.YteplmjlllnbiiaaAt0
namespace Go.Proofs.Yteplmjlllnbiiaa.fnPrefix
open Go.ChangeShapes Go.WideShapes Go.ChangeAt Go.RowKit
open Go.ChangeMaps (open_string shut_string)
set_option linter.unusedVariables false

theorem own : ownKnob Try.prog.godebug = none := by kernel_rfl
theorem laidOut : laidOutB Try.prog = true := by kernel_rfl

/-- WHAT THE WALK IS TOLD OF A SLICE OF INTEGERS THAT CAME IN: it is nil; or it leads to a row of 'cap' cells, the numbers 'zs' (the first 'len' are its elements, the rest its spare room), each fitting its kind. -/
def IsRow (k : IntKind) (w : World) (a : Option Addr) (len cap : Nat) (zs : List Int) : Prop :=
  (a = none ∧ len = 0 ∧ cap = 0 ∧ zs = []) ∨
  ∃ x, a = some x ∧ len ≤ cap ∧ cap ≤ maxLen ∧ zs.length = cap ∧ (∀ i, i < zs.length → w.cell? (x.add i) = some (.int k (zs.getD i 0))) ∧ ∀ n ∈ zs, (Lit.int k n).wf = true

/-! ### STEP 1: THE WALK: the Go text returns true, AND WRITES NOTHING THAT WAS THERE: 'Below w.heap.size w w'' (Derived/Below.lean: '.refl', '.alloc', '.drew', '.setCell' at a new block, '.trans'). Open each 'IsRow' by 'rcases' AHEAD of 'go_enter'; part every test ahead of the walk. -/
open Num in
theorem pre_as {a b : List Ev} {R : Bool} (h : preB a b = R) {v u : Value} {w : World} (hv : EvsAt w (· < w.heap.size) v a) (hu : EvsAt w (· < w.heap.size) u b) (ha : SmallE a) (hb : SmallE b) :
    Calls Try.prog 22 #[v, u] w fun e w' => e = .returned (.bool R) ∧ Below w.heap.size w w' := h ▸ implPrefixOf_any v u a b w hv hu ha hb
open Num in
set_option maxHeartbeats 4000000 in
theorem walk (a0 : Option Addr) (len0 cap0 : Nat) (z0 : List Int) (w : World) (w0 : IsRow .u8 w a0 len0 cap0 z0) :
    Calls Try.prog 5 #[.slice a0 len0 cap0] w fun e w' => e = .returned (.bool true) ∧ Below w.heap.size w w' := by
  by_cases hb : 1048576 < len0
  · clear w0
    go_enter Try.func5, Try.ntmps5
    go_wp2
    go_ret
    exact ⟨rfl, Below.refl _ _⟩
  · have hcode := codeOf w0 (by omega)
    have Hcode := Lib.hid hcode
    clear w0 hcode
    go_enter Try.func5, Try.ntmps5
    go_wp2_with (go_at_call 11; go_in)
    refine (drawPrefixOf_any w.heap.size a0 len0 cap0 _ (Nat.le_refl _) Hcode.out).mono ?_
    rintro e w1 ⟨la, lb, ga, ca, gb, cb, hda, hdb, rfl, hA, hB, hca, hb1⟩
    have HA := Lib.hid hA
    have HB := Lib.hid hB
    have Hsa := Lib.hid (hda.small (by omega))
    have Hsb := Lib.hid (hdb.small (by omega))
    have hla := hda.1
    have Hst : Hid (∀ k, SmallE (la.take k)) := Lib.hid fun k => (hda.take k).small (by omega)
    obtain ⟨R, hR⟩ : ∃ R, preB la lb = R := ⟨_, rfl⟩
    have HR := Lib.hid hR
    have Hself : Hid (preB la la = true) := Lib.hid (preB_iff.2 (preE.refl la))
    have Hcut : Hid (∀ k, preB (la.take k) la = true) := Lib.hid fun k => preB_iff.2 (preE.take la k)
    have Hcut2 : Hid (R = true → ∀ k, preB (la.take k) lb = true) := Lib.hid fun h k => preB_iff.2 ((preE.take la k).trans (preB_iff.1 (hR.trans h)))
    clear hda hdb hA hB hR
    go_wp2_with fail
    refine (pre_as HR.out HA.out HB.out Hsa.out Hsb.out).mono ?_
    rintro e w2 ⟨rfl, hb2⟩
    have hl2 := hb1.trans (hb2.mono hb1.size)
    have HA2 := Lib.hid (HA.out.grow hb2 (Nat.le_refl _))
    have HB2 := Lib.hid (HB.out.grow hb2 (Nat.le_refl _))
    clear hb1 hb2 HA HB
    go_wp2_with fail
    refine (specPrefixOf_any _ _ la lb _ HA2.out HB2.out Hsa.out Hsb.out).mono ?_
    rw [HR.out]
    rintro e w3 ⟨rfl, hb3⟩
    have hl3 := hl2.trans (hb3.mono hl2.size)
    have HA3 := Lib.hid (HA2.out.grow hb3 (Nat.le_refl _))
    have HB3 := Lib.hid (HB2.out.grow hb3 (Nat.le_refl _))
    clear hl2 hb3 HA2 HB2
    have q1 : (R != R) = false := by cases R <;> rfl
    go_wp2_with fail
    refine (pre_as Hself.out HA3.out HA3.out Hsa.out Hsa.out).mono ?_
    rintro e w4 ⟨rfl, hb4⟩
    have hl4 := hl3.trans (hb4.mono hl3.size)
    have HA4 := Lib.hid (HA3.out.grow hb4 (Nat.le_refl _))
    have HB4 := Lib.hid (HB3.out.grow hb4 (Nat.le_refl _))
    have Hcode4 := Lib.hid (Hcode.out.below hl4)
    clear hl3 hb4 HA3 HB3 Hcode
    go_wp2_with fail
    refine (at0_any a0 len0 cap0 _ 2 _ Hcode4.out (by omega)).mono ?_
    rintro e w5 ⟨r, hr, rfl, rfl⟩
    have hm : (r : Int) % ((la.length : Int) + 1) = ((r % (la.length + 1) : Nat) : Int) := by simp
    have hk : r % (la.length + 1) ≤ la.length := by have := Nat.mod_lt r (show 0 < la.length + 1 by omega); omega
    generalize r % (la.length + 1) = k at hm hk
    have hca' : la.length ≤ ca := hca
    have c0 : (0 : Int) ≤ (k : Int) := by omega
    have c1 : (k : Int) ≤ (ca : Int) := by omega
    have c2 : k ≤ ca := by omega
    have c3 : (0 : Int) ≤ (ca : Int) := by omega
    have d0 : decide ((k : Int) < 0) = false := decide_eq_false (by omega)
    have d1 : decide ((ca : Int) < (k : Int)) = false := decide_eq_false (by omega)
    have hz : decide ((la.length : Int) + 1 = 0) = false := decide_eq_false (by omega)
    have hz' : ¬ (la.length : Int) + 1 = 0 := by omega
    have HP := Lib.hid (HA4.out.pre k hk)
    have hSk := Hst.out k
    have HSk := Lib.hid hSk
    clear hSk
    go_wp2_with fail
    refine (pre_as (Hcut.out k) HP.out HA4.out HSk.out Hsa.out).mono ?_
    rintro e w6 ⟨rfl, hb6⟩
    have hl6 := hl4.trans (hb6.mono hl4.size)
    have HA6 := Lib.hid (HA4.out.grow hb6 (Nat.le_refl _))
    have HB6 := Lib.hid (HB4.out.grow hb6 (Nat.le_refl _))
    have HP6 := Lib.hid (HP.out.grow hb6 (Nat.le_refl _))
    clear hl4 hb6 HA4 HB4 HP
    cases R with
    | false =>
      go_wp2_with fail
      go_ret
      exact ⟨rfl, hl6⟩
    | true =>
      go_wp2_with fail
      refine (pre_as (Hcut2.out (by trivial) k) HP6.out HB6.out HSk.out Hsb.out).mono ?_
      rintro e w7 ⟨rfl, hb7⟩
      have hl7 := hl6.trans (hb7.mono hl6.size)
      clear hl6 hb7
      go_wp2_with fail
      go_ret
      exact ⟨rfl, hl7⟩

/-! ### THE ROW's STEP: WRITTEN OUT: LEAVE IT -/
set_option maxRecDepth 100000 in
theorem lifted (os : Os) (started : os.Started) (H : Type) (enc : TypeId × Value → H) :
    ReturnsInHanded {} Try.checked os 5 .any (Rows.fnPrefixSpec.pre6 enc Try.prog Try.f5 Rows.fnPrefixRow.domain false) (Rows.fnPrefixSpec.post enc Try.prog Try.f5 false true false false) := by
  refine returnsInHanded_of_change (C := Try.checked) own started (by kernel_rfl) Try.func5
    (ChangeSpec.witness6 (enc := enc) (C := Try.checked) false ⟨#[], #[.slice none 0 0], []⟩ 8 (by kernel_rfl) (by kernel_rfl) (by kernel_rfl) (by kernel_rfl)) ?_
  intro W base args ds gs before hval0 hW hcnd _
  have hval : ∀ (j : Nat) t v, Try.f5.params[j]? = some t → args[j]? = some v → Value.okWide Try.prog W .any base t v := hval0
  have hW' := hW
  obtain ⟨p, q, hA0, hV, rfl, hfz, hnd⟩ := hW
  have hA : DataW.TrodAll enc Try.prog W 0 (fun _ => true) true Try.f5.params.toList args.toList ds p := hA0
  rw [Try.params5] at hA hval
  obtain ⟨v0, vs0, d0, ds0, p0, q0, hargs, rfl, rfl, h0, r0⟩ := trodAll_cons hA
  obtain ⟨rfl, rfl, rfl⟩ := trodAll_nil r0
  obtain rfl : args = #[v0] := by cases args; simp_all
  obtain ⟨rfl, rfl⟩ := trodVars_none hV
  obtain ⟨a0, len0, cap0, rfl⟩ := okWide_slice Try.underlying22 (hval 0 22 v0 rfl rfl)
  have k0 := h0
  have lt0 : ∀ x ∈ p0, x.block < W.heap.size := by obtain ⟨m, hm⟩ := k0; exact DataW.trod_lt m _ _ _ hm
  obtain ⟨z0, w0⟩ : ∃ zs, IsRow .u8 W a0 len0 cap0 zs := by
    obtain ⟨fuel, hf⟩ := h0
    rcases open_ints Try.underlying22 Try.underlying5 (by kernel_rfl) hf with ⟨hcs, _⟩ | ⟨x, l, c, zs, hcs, _, hl, hm, hz, _, hcell, hwz⟩
    · simp [Value.cells] at hcs
      obtain ⟨rfl, rfl, rfl⟩ := hcs
      exact ⟨[], .inl ⟨rfl, rfl, rfl, rfl⟩⟩
    · simp [Value.cells] at hcs
      obtain ⟨rfl, rfl, rfl⟩ := hcs
      exact ⟨zs, .inr ⟨_, rfl, hl, hm, by simpa using hz, hcell, hwz⟩⟩
  clear hA0 hval0
  refine (walk a0 len0 cap0 z0 W w0).mono fun e W' ⟨he, bel⟩ => ?_
  subst he
  exact ⟨_, rfl, _, _, _, [], _, [], hW', trodAll_mk1 (shut_bool Try.underlying4 _), (trodAll_cons_mk (Below.trod laidOut (by kernel_rfl) (of_decide_eq_true (by kernel_rfl)) k0 bel lt0) trodAll_mk0), rfl, bel.frame _, fun h => by cases h⟩

theorem over : Rows.fnPrefixRow.holds Try.pinned (OpenSpec.ofChange Rows.fnPrefixSpec) :=
  OpenClaim.holds_of_wide 5 Try.f5 rfl rfl rfl rfl rfl rfl rfl ⟨rfl, rfl, rfl, rfl, rfl⟩ rfl rfl rfl rfl rfl (by kernel_rfl) Try.func5 (by kernel_rfl)
    (of_decide_eq_true (by kernel_rfl)) (by unfold Func.isWrapper; first | (rw [if_pos (by decide +kernel)]; kernel_rfl) | (rw [if_neg (by decide +kernel)]; exact ⟨rfl, rfl⟩))
    (fun os started H enc _ => lifted os started H enc)

/-- ████ THE STATEMENT ████ -/
theorem proved : Rows.FnPrefixSaid := over
end Go.Proofs.Yteplmjlllnbiiaa.fnPrefix
