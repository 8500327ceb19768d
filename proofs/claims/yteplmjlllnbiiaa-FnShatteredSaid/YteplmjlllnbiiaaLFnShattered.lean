/-
  For every code of bytes, laws.FnShattered returns true: dividing texts gives as many events as the reference's, the same events when merged, and nothing new when divided again. No condition.
-/
import Derived.Test.YteplmjlllnbiiaaRows
import Derived.WalkKit
import Derived.ProofKit
import Derived.OpenShut
import Derived.ShutString
import Derived.ChangeOld
import Derived.Below
import Derived.Test.YteplmjlllnbiiaaElevI
import Derived.Test.YteplmjlllnbiiaaMergeLaw
import Derived.Test.YteplmjlllnbiiaaDrawMerge
namespace Go.Proofs.Yteplmjlllnbiiaa.fnShattered
open Go.ChangeShapes Go.WideShapes Go.ChangeAt Go.RowKit
open Go.ChangeMaps (open_string shut_string)
set_option linter.unusedVariables false

theorem own : ownKnob Try.prog.godebug = none := by kernel_rfl
theorem laidOut : laidOutB Try.prog = true := by kernel_rfl

/-- WHAT THE WALK IS TOLD OF A SLICE OF INTEGERS THAT CAME IN: it is nil; or it leads to a row of 'cap' cells, the numbers 'zs' (the first 'len' are its elements, the rest its spare room), each fitting its kind. -/
def IsRow (k : IntKind) (w : World) (a : Option Addr) (len cap : Nat) (zs : List Int) : Prop :=
  (a = none ∧ len = 0 ∧ cap = 0 ∧ zs = []) ∨
  ∃ x, a = some x ∧ len ≤ cap ∧ cap ≤ maxLen ∧ zs.length = cap ∧ (∀ i, i < zs.length → w.cell? (x.add i) = some (.int k (zs.getD i 0))) ∧ ∀ n ∈ zs, (Lit.int k n).wf = true

/-! ### STEP 1: THE WALK: the Go text returns true, AND WRITES NOTHING THAT WAS THERE: 'Below w.heap.size w w'' (Derived/Below.lean: '.refl', '.alloc', '.drew', '.setCell' at a new block, '.trans'). Open each 'IsRow' by 'rcases' AHEAD of 'go_enter'; part every test ahead of the walk. -/
open Num in
set_option maxHeartbeats 4000000 in
theorem walk (a0 : Option Addr) (len0 cap0 : Nat) (z0 : List Int) (w : World) (w0 : IsRow .u8 w a0 len0 cap0 z0) :
    Calls Try.prog 4 #[.slice a0 len0 cap0] w fun e w' => e = .returned (.bool true) ∧ Below w.heap.size w w' := by
  by_cases hb : 1048576 < len0
  · clear w0
    go_enter Try.func4, Try.ntmps4
    go_wp2
    go_ret
    exact ⟨rfl, Below.refl _ _⟩
  · have hcode := codeOf w0 (by omega)
    have Hcode := Lib.hid hcode
    clear w0 hcode
    go_enter Try.func4, Try.ntmps4
    go_wp2_with (go_at_call 11; go_in)
    refine (drawShattered_any w.heap.size a0 len0 cap0 _ (Nat.le_refl _) Hcode.out).mono ?_
    rintro e w1 ⟨l, go, cp, n, hd, hn, rfl, ho, hb1⟩
    have HA := Lib.hid ho.evsAll
    have Hsm := Lib.hid (hd.small (by omega))
    have Hcs := Lib.hid (shattered_small (l := l) n (by have h1 := hd.1; have h2 := texts_bound fun e he => (hd.2 e he).2; omega))
    have Hn : Hid (-9223372036854775808 ≤ n ∧ n ≤ 9223372036854775807) := Lib.hid (by omega)
    have hcl : (shatteredE l n).length ≤ 1048576 := Hcs.out.1
    have hml : (mergedE l).length ≤ 1048576 := (merged_small Hsm.out).1
    have Hms := Lib.hid (merged_shattered l n)
    have Htw : Hid (1 ≤ n → shatteredE (shatteredE l n) n = shatteredE l n) := Lib.hid fun h => by
      obtain ⟨N, rfl⟩ := Int.eq_ofNat_of_zero_le (show 0 ≤ n by omega)
      exact shattered_twice (by omega)
    clear hd ho Hcode hn
    go_wp2_with fail
    refine (implShattered_any _ l n _ HA.out Hsm.out Hn.out (.inr ⟨_, _, _, rfl⟩)).mono ?_
    rintro e w2 ⟨aC, cC, rfl, hC, hb2⟩
    have hl2 := hb1.trans (hb2.mono hb1.size)
    have HA2 := Lib.hid (HA.out.grow hb2 (Nat.le_refl _))
    have HC2 := Lib.hid hC.evsAll
    have HCs := Lib.hid hC.some
    clear hb1 hb2 hC HA
    obtain ⟨cu, hcu⟩ : ∃ cu, shatteredE l n = cu := ⟨_, rfl⟩
    have Hcu := Lib.hid hcu
    rw [hcu] at HC2 HCs Hcs hcl Hms Htw ⊢
    clear hcu
    go_wp2_with fail
    refine (implShattered_any _ cu n _ HC2.out Hcs.out Hn.out HCs.out).mono ?_
    rintro e w3 ⟨aD, cD, rfl, hD, hb3⟩
    have hl3 := hl2.trans (hb3.mono hl2.size)
    have HA3 := Lib.hid (HA2.out.grow hb3 (Nat.le_refl _))
    have HC3 := Lib.hid (HC2.out.grow hb3 (Nat.le_refl _))
    have HD3 := Lib.hid hD.evsAll
    clear hl2 hb3 hD HA2 HC2
    go_wp2_with fail
    refine (specShattered_any _ l n _ HA3.out Hsm.out Hn.out (.inr ⟨_, _, _, rfl⟩)).mono ?_
    rw [Hcu.out]
    rintro e w4 ⟨gE, cE, rfl, hE, hb4⟩
    have hl4 := hl3.trans (hb4.mono hl3.size)
    have HA4 := Lib.hid (HA3.out.grow hb4 (Nat.le_refl _))
    have HC4 := Lib.hid (HC3.out.grow hb4 (Nat.le_refl _))
    have HD4 := Lib.hid (HD3.out.grow hb4 (Nat.le_refl _))
    clear hl3 hb4 hE HA3 HC3 HD3
    have heq : ((cu.length : Int) == (cu.length : Int)) = true := by simp
    go_wp2_with fail
    refine (implMerged_any _ cu _ HC4.out Hcs.out).mono ?_
    rw [Hms.out]
    rintro e w5 ⟨aM, cM, rfl, hM, hb5⟩
    have hl5 := hl4.trans (hb5.mono hl4.size)
    have HA5 := Lib.hid (HA4.out.grow hb5 (Nat.le_refl _))
    have HC5 := Lib.hid (HC4.out.grow hb5 (Nat.le_refl _))
    have HD5 := Lib.hid (HD4.out.grow hb5 (Nat.le_refl _))
    have HM5 := Lib.hid hM.evsAll
    clear hl4 hb5 hM HA4 HC4 HD4
    go_wp2_with fail
    refine (specMerged_any _ l _ HA5.out Hsm.out).mono ?_
    rintro e w6 ⟨gS, cS, rfl, hS, hb6⟩
    have hl6 := hl5.trans (hb6.mono hl5.size)
    have HC6 := Lib.hid (HC5.out.grow hb6 (Nat.le_refl _))
    have HD6 := Lib.hid (HD5.out.grow hb6 (Nat.le_refl _))
    have HM6 := Lib.hid (HM5.out.grow hb6 (Nat.le_refl _))
    have HS6 := Lib.hid hS.evsAll
    clear hl5 hb6 hS HA5 HC5 HD5 HM5
    generalize mergedE l = me at HM6 HS6 hml ⊢
    go_wp2_with fail
    refine (specSameEvents_any _ _ me me _ HM6.out HS6.out (by omega) (by omega)).mono ?_
    rw [decide_eq_true rfl]
    rintro e w7 ⟨rfl, hb7⟩
    have hl7 := hl6.trans (hb7.mono hl6.size)
    have HC7 := Lib.hid (HC6.out.grow hb7 (Nat.le_refl _))
    have HD7 := Lib.hid (HD6.out.grow hb7 (Nat.le_refl _))
    clear hl6 hb7 HC6 HD6 HM6 HS6
    by_cases hn1 : n < 1
    · go_wp2_with fail
      go_ret
      exact ⟨rfl, hl7⟩
    · have hd1 : decide (n < 1) = false := decide_eq_false hn1
      have he := Htw.out (by omega)
      rw [he] at HD7 ⊢
      clear hn1 he
      go_wp2_with fail
      refine (specSameEvents_any _ _ cu cu _ HD7.out HC7.out (by omega) (by omega)).mono ?_
      rw [decide_eq_true rfl]
      rintro e w8 ⟨rfl, hb8⟩
      have hl8 := hl7.trans (hb8.mono hl7.size)
      go_wp2_with fail
      go_ret
      exact ⟨rfl, hl8⟩

/-! ### THE ROW's STEP: WRITTEN OUT: LEAVE IT -/
set_option maxRecDepth 100000 in
theorem lifted (os : Os) (started : os.Started) (H : Type) (enc : TypeId × Value → H) :
    ReturnsInHanded {} Try.checked os 4 .any (Rows.fnShatteredSpec.pre6 enc Try.prog Try.f4 Rows.fnShatteredRow.domain false) (Rows.fnShatteredSpec.post enc Try.prog Try.f4 false true false false) := by
  refine returnsInHanded_of_change (C := Try.checked) own started (by kernel_rfl) Try.func4
    (ChangeSpec.witness6 (enc := enc) (C := Try.checked) false ⟨#[], #[.slice none 0 0], []⟩ 8 (by kernel_rfl) (by kernel_rfl) (by kernel_rfl) (by kernel_rfl)) ?_
  intro W base args ds gs before hval0 hW hcnd _
  have hval : ∀ (j : Nat) t v, Try.f4.params[j]? = some t → args[j]? = some v → Value.okWide Try.prog W .any base t v := hval0
  have hW' := hW
  obtain ⟨p, q, hA0, hV, rfl, hfz, hnd⟩ := hW
  have hA : DataW.TrodAll enc Try.prog W 0 (fun _ => true) true Try.f4.params.toList args.toList ds p := hA0
  rw [Try.params4] at hA hval
  obtain ⟨v0, vs0, d0, ds0, p0, q0, hargs, rfl, rfl, h0, r0⟩ := trodAll_cons hA
  obtain ⟨rfl, rfl, rfl⟩ := trodAll_nil r0
  obtain rfl : args = #[v0] := by cases args; simp_all
  obtain ⟨rfl, rfl⟩ := trodVars_none hV
  obtain ⟨a0, len0, cap0, rfl⟩ := okWide_slice Try.underlying22 (hval 0 22 v0 rfl rfl)
  have k0 := h0
  have lt0 : ∀ x ∈ p0, x.block < W.heap.size := by obtain ⟨m, hm⟩ := k0; exact DataW.trod_lt m _ _ _ hm
  obtain ⟨z0, w0⟩ : ∃ zs, IsRow .u8 W a0 len0 cap0 zs := by
    obtain ⟨fuel, hf⟩ := h0
    rcases open_ints Try.underlying22 Try.underlying5 (by kernel_rfl) hf with ⟨hcs, _⟩ | ⟨x, l, c, zs, hcs, _, hl, hm, hz, _, hcell, hwz⟩
    · simp [Value.cells] at hcs
      obtain ⟨rfl, rfl, rfl⟩ := hcs
      exact ⟨[], .inl ⟨rfl, rfl, rfl, rfl⟩⟩
    · simp [Value.cells] at hcs
      obtain ⟨rfl, rfl, rfl⟩ := hcs
      exact ⟨zs, .inr ⟨_, rfl, hl, hm, by simpa using hz, hcell, hwz⟩⟩
  clear hA0 hval0
  refine (walk a0 len0 cap0 z0 W w0).mono fun e W' ⟨he, bel⟩ => ?_
  subst he
  exact ⟨_, rfl, _, _, _, [], _, [], hW', trodAll_mk1 (shut_bool Try.underlying4 _), (trodAll_cons_mk (Below.trod laidOut (by kernel_rfl) (of_decide_eq_true (by kernel_rfl)) k0 bel lt0) trodAll_mk0), rfl, bel.frame _, fun h => by cases h⟩

theorem over : Rows.fnShatteredRow.holds Try.pinned (OpenSpec.ofChange Rows.fnShatteredSpec) :=
  OpenClaim.holds_of_wide 4 Try.f4 rfl rfl rfl rfl rfl rfl rfl ⟨rfl, rfl, rfl, rfl, rfl⟩ rfl rfl rfl rfl rfl (by kernel_rfl) Try.func4 (by kernel_rfl)
    (of_decide_eq_true (by kernel_rfl)) (by unfold Func.isWrapper; first | (rw [if_pos (by decide +kernel)]; kernel_rfl) | (rw [if_neg (by decide +kernel)]; exact ⟨rfl, rfl⟩))
    (fun os started H enc _ => lifted os started H enc)

/-- ████ THE STATEMENT ████ -/
theorem proved : Rows.FnShatteredSaid := over
end Go.Proofs.Yteplmjlllnbiiaa.fnShattered
