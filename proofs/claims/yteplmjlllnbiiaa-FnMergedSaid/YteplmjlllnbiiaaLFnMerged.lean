/-
  For every code of bytes, laws.FnMerged returns true: merging and dividing give as many events as the reference's, no two adjacent texts are left when merged, merging again changes nothing, the texts' total length stays, and no divided text is longer than asked. No condition.
-/
import Derived.Test.YteplmjlllnbiiaaRows
import Derived.WalkKit
import Derived.ProofKit
import Derived.OpenShut
import Derived.ShutString
import Derived.ChangeOld
import Derived.Below
import Derived.Test.YteplmjlllnbiiaaElevI
import Derived.Test.YteplmjlllnbiiaaMergeLaw
import Derived.Test.YteplmjlllnbiiaaDrawMerge
namespace Go.Proofs.Yteplmjlllnbiiaa.fnMerged
open Go.ChangeShapes Go.WideShapes Go.ChangeAt Go.RowKit
open Go.ChangeMaps (open_string shut_string)
set_option linter.unusedVariables false

theorem own : ownKnob Try.prog.godebug = none := by kernel_rfl
theorem laidOut : laidOutB Try.prog = true := by kernel_rfl

/-- WHAT THE WALK IS TOLD OF A SLICE OF INTEGERS THAT CAME IN: it is nil; or it leads to a row of 'cap' cells, the numbers 'zs' (the first 'len' are its elements, the rest its spare room), each fitting its kind. -/
def IsRow (k : IntKind) (w : World) (a : Option Addr) (len cap : Nat) (zs : List Int) : Prop :=
  (a = none ∧ len = 0 ∧ cap = 0 ∧ zs = []) ∨
  ∃ x, a = some x ∧ len ≤ cap ∧ cap ≤ maxLen ∧ zs.length = cap ∧ (∀ i, i < zs.length → w.cell? (x.add i) = some (.int k (zs.getD i 0))) ∧ ∀ n ∈ zs, (Lit.int k n).wf = true

/-! ### STEP 1: THE WALK: the Go text returns true, AND WRITES NOTHING THAT WAS THERE: 'Below w.heap.size w w'' (Derived/Below.lean: '.refl', '.alloc', '.drew', '.setCell' at a new block, '.trans'). Open each 'IsRow' by 'rcases' AHEAD of 'go_enter'; part every test ahead of the walk. -/
open Num in
def SameW' (a b : World) : Prop := b = a
open Num in
set_option maxHeartbeats 4000000 in
theorem walk (a0 : Option Addr) (len0 cap0 : Nat) (z0 : List Int) (w : World) (w0 : IsRow .u8 w a0 len0 cap0 z0) :
    Calls Try.prog 3 #[.slice a0 len0 cap0] w fun e w' => e = .returned (.bool true) ∧ Below w.heap.size w w' := by
  by_cases hb : 1048576 < len0
  · clear w0
    go_enter Try.func3, Try.ntmps3
    go_wp2
    go_ret
    exact ⟨rfl, Below.refl _ _⟩
  · have hcode := codeOf w0 (by omega)
    have Hcode := Lib.hid hcode
    clear w0 hcode
    go_enter Try.func3, Try.ntmps3
    go_wp2_with (go_at_call 11; go_in)
    refine (drawShattered_any w.heap.size a0 len0 cap0 _ (Nat.le_refl _) Hcode.out).mono ?_
    rintro e w1 ⟨l, go, cp, n, hd, hn, rfl, ho, hb1⟩
    have HA := Lib.hid ho.evsAll
    have Hsm := Lib.hid (hd.small (by omega))
    have Hcs := Lib.hid (shattered_small (l := l) n (by have h1 := hd.1; have h2 := texts_bound fun e he => (hd.2 e he).2; omega))
    have Hn : Hid (-9223372036854775808 ≤ n ∧ n ≤ 9223372036854775807) := Lib.hid (by omega)
    have hcl : (shatteredE l n).length ≤ 1048576 := Hcs.out.1
    have Hmm := Lib.hid (merged_small Hsm.out)
    have hml : (mergedE l).length ≤ 1048576 := Hmm.out.1
    have Htw := Lib.hid (merged_twice l)
    have Hca := Lib.hid (calm_merged l)
    have Hmb := Lib.hid (merged_bytes l)
    have Hcb := Lib.hid (shattered_bytes l n)
    have Hlo : Hid (1 ≤ n → ((longestPart (shatteredE l n) : Nat) : Int) ≤ n) := Lib.hid fun h => by
      obtain ⟨N, rfl⟩ := Int.eq_ofNat_of_zero_le (show 0 ≤ n by omega)
      have := shattered_long (l := l) (n := N) (by omega)
      omega
    clear hd ho Hcode hn
    go_wp2_with fail
    refine (implMerged_any _ l _ HA.out Hsm.out).mono ?_
    rintro e w2 ⟨aM, cM, rfl, hM, hb2⟩
    have hl2 := hb1.trans (hb2.mono hb1.size)
    have HA2 := Lib.hid (HA.out.grow hb2 (Nat.le_refl _))
    have HM2 := Lib.hid hM.evsAll
    clear hb1 hb2 hM HA
    go_wp2_with fail
    refine (implShattered_any _ l n _ HA2.out Hsm.out Hn.out (.inr ⟨_, _, _, rfl⟩)).mono ?_
    rintro e w3 ⟨aC, cC, rfl, hC, hb3⟩
    have hl3 := hl2.trans (hb3.mono hl2.size)
    have HA3 := Lib.hid (HA2.out.grow hb3 (Nat.le_refl _))
    have HM3 := Lib.hid (HM2.out.grow hb3 (Nat.le_refl _))
    have HC3 := Lib.hid hC.evsAll
    clear hl2 hb3 hC HA2 HM2
    obtain ⟨me, hme⟩ : ∃ me, mergedE l = me := ⟨_, rfl⟩
    have Hme := Lib.hid hme
    obtain ⟨cu, hcu⟩ : ∃ cu, shatteredE l n = cu := ⟨_, rfl⟩
    have Hcu := Lib.hid hcu
    rw [hme] at HM3 Hmm hml Htw Hca Hmb ⊢
    rw [hcu] at HC3 Hcs hcl Hcb Hlo ⊢
    clear hme hcu
    go_wp2_with fail
    refine (specMerged_any _ l _ HA3.out Hsm.out).mono ?_
    rw [Hme.out]
    rintro e w4 ⟨gE, cE, rfl, hE, hb4⟩
    have hl4 := hl3.trans (hb4.mono hl3.size)
    have HA4 := Lib.hid (HA3.out.grow hb4 (Nat.le_refl _))
    have HM4 := Lib.hid (HM3.out.grow hb4 (Nat.le_refl _))
    have HC4 := Lib.hid (HC3.out.grow hb4 (Nat.le_refl _))
    clear hl3 hb4 hE HA3 HC3 HM3
    have q1 : ((me.length : Int) != (me.length : Int)) = false := by simp
    have q2 : ((cu.length : Int) != (cu.length : Int)) = false := by simp
    go_wp2_with fail
    refine (specShattered_any _ l n _ HA4.out Hsm.out Hn.out (.inr ⟨_, _, _, rfl⟩)).mono ?_
    rw [Hcu.out]
    rintro e w5 ⟨gF, cF, rfl, hF, hb5⟩
    have hl5 := hl4.trans (hb5.mono hl4.size)
    have HA5 := Lib.hid (HA4.out.grow hb5 (Nat.le_refl _))
    have HM5 := Lib.hid (HM4.out.grow hb5 (Nat.le_refl _))
    have HC5 := Lib.hid (HC4.out.grow hb5 (Nat.le_refl _))
    clear hl4 hb5 hF HA4 HC4 HM4
    go_wp2_with fail
    go_loopw [7] (fun i wr => ∃ k : Nat, 1 ≤ k ∧ k ≤ me.length + 1 ∧ i = .int .i64 k ∧ Hid (SameW' w5 wr)) (fun i _ => me.length + 1 - (intOf i).toNat)
    case atStart => exact ⟨1, by omega, by omega, rfl, Lib.hid rfl⟩
    case round =>
      obtain ⟨k, hk1, hk2, rfl, hw⟩ := hrel
      have hw' : wr = w5 := hw.out
      subst hw'
      by_cases hlt : k < me.length
      · have hlti : (k : Int) < (me.length : Int) := by omega
        obtain ⟨j, rfl⟩ : ∃ j, k = j + 1 := ⟨k - 1, by omega⟩
        have hj : j < me.length := by omega
        have hji : (j : Int) < (me.length : Int) := by omega
        have hwj : IntKind.i64.wrap (((j + 1 : Nat) : Int) - 1) = (j : Int) := by rw [IntWalk.i64_in _ (by omega)]; omega
        obtain ⟨b, o, rfl, hbC, c0, _⟩ := HM5.out.cellsAt (j + 1) hlt
        obtain ⟨b', o', hbo, _, d0, _⟩ := HM5.out.cellsAt j hj
        obtain ⟨rfl, rfl⟩ : b = b' ∧ o = o' := by have := Option.some.inj hbo; injection this with e1 e2; exact ⟨e1, e2⟩
        have Hno := Lib.hid (calm_at Hca.out hlt)
        generalize me[j + 1].kind = K1 at c0 Hno
        generalize me[j].kind = K0 at d0 Hno
        clear hbo
        by_cases h1 : K1 = 4
        · have k1 : (K1 == 4) = true := by rw [h1]; rfl
          have k0 : (K0 == 4) = false := neI fun h0 => Hno.out ⟨h1, h0⟩
          clear h1
          go_wp2_with fail
          go_roundw
          case rel => exact ⟨j + 1 + 1, by omega, by omega, by go_num, Lib.hid rfl⟩
          case measure => simp [intOf]; omega
        · have k1 := neI h1
          clear h1
          go_wp2_with fail
          go_roundw
          case rel => exact ⟨j + 1 + 1, by omega, by omega, by go_num, Lib.hid rfl⟩
          case measure => simp [intOf]; omega
      · have hge : (me.length : Int) ≤ (k : Int) := by omega
        have hend : decide (k < me.length) = false := decide_eq_false hlt
        clear hlt hk1 hk2
        go_wp2_with fail
        refine (implMerged_any _ me _ HM5.out Hmm.out).mono ?_
        rw [Htw.out]
        rintro e w6 ⟨aN, cN, rfl, hN, hb6⟩
        have hl6 := hl5.trans (hb6.mono hl5.size)
        have HA6 := Lib.hid (HA5.out.grow hb6 (Nat.le_refl _))
        have HM6 := Lib.hid (HM5.out.grow hb6 (Nat.le_refl _))
        have HC6 := Lib.hid (HC5.out.grow hb6 (Nat.le_refl _))
        have HN6 := Lib.hid hN.evsAll
        clear hl5 hb6 hN HA5 HM5 HC5
        go_wp2_with fail
        refine (implSameEvents_any _ _ me me _ HN6.out HM6.out (by omega) (by omega)).mono ?_
        rw [decide_eq_true rfl]
        rintro e w7 ⟨rfl, hb7⟩
        have hl7 := hl6.trans (hb7.mono hl6.size)
        have HA7 := Lib.hid (HA6.out.grow hb7 (Nat.le_refl _))
        have HM7 := Lib.hid (HM6.out.grow hb7 (Nat.le_refl _))
        have HC7 := Lib.hid (HC6.out.grow hb7 (Nat.le_refl _))
        clear hl6 hb7 HA6 HM6 HC6 HN6
        go_wp2_with fail
        refine (implPartBytes_any _ me _ HM7.out Hmm.out).mono ?_
        rw [Hmb.out]
        rintro e w8 ⟨rfl, hb8⟩
        have hl8 := hl7.trans (hb8.mono hl7.size)
        have HA8 := Lib.hid (HA7.out.grow hb8 (Nat.le_refl _))
        have HC8 := Lib.hid (HC7.out.grow hb8 (Nat.le_refl _))
        clear hl7 hb8 HA7 HM7 HC7
        go_wp2_with fail
        refine (implPartBytes_any _ l _ HA8.out Hsm.out).mono ?_
        rintro e w9 ⟨rfl, hb9⟩
        have hl9 := hl8.trans (hb9.mono hl8.size)
        have HA9 := Lib.hid (HA8.out.grow hb9 (Nat.le_refl _))
        have HC9 := Lib.hid (HC8.out.grow hb9 (Nat.le_refl _))
        clear hl8 hb9 HA8 HC8
        have q3 : ((partBytes l : Int) == (partBytes l : Int)) = true := by simp
        go_wp2_with fail
        refine (implPartBytes_any _ cu _ HC9.out Hcs.out).mono ?_
        rw [Hcb.out]
        rintro e w10 ⟨rfl, hb10⟩
        have hl10 := hl9.trans (hb10.mono hl9.size)
        have HA10 := Lib.hid (HA9.out.grow hb10 (Nat.le_refl _))
        have HC10 := Lib.hid (HC9.out.grow hb10 (Nat.le_refl _))
        clear hl9 hb10 HA9 HC9
        go_wp2_with fail
        refine (implPartBytes_any _ l _ HA10.out Hsm.out).mono ?_
        rintro e w11 ⟨rfl, hb11⟩
        have hl11 := hl10.trans (hb11.mono hl10.size)
        have HC11 := Lib.hid (HC10.out.grow hb11 (Nat.le_refl _))
        clear hl10 hb11 HA10 HC10
        by_cases hn1 : n < 1
        · go_wp2_with fail
          go_ret
          exact ⟨rfl, hl11⟩
        · have hd1 : decide (n < 1) = false := decide_eq_false hn1
          have hle := Hlo.out (by omega)
          have Hle := Lib.hid hle
          clear hn1 hle
          go_wp2_with fail
          refine (implLongest_any _ cu _ HC11.out (by omega)).mono ?_
          have hle := Hle.out
          generalize longestPart cu = L at hle ⊢
          rintro e w12 ⟨rfl, hb12⟩
          have hl12 := hl11.trans (hb12.mono hl11.size)
          go_wp2_with fail
          go_ret
          exact ⟨rfl, hl12⟩

/-! ### THE ROW's STEP: WRITTEN OUT: LEAVE IT -/
set_option maxRecDepth 100000 in
theorem lifted (os : Os) (started : os.Started) (H : Type) (enc : TypeId × Value → H) :
    ReturnsInHanded {} Try.checked os 3 .any (Rows.fnMergedSpec.pre6 enc Try.prog Try.f3 Rows.fnMergedRow.domain false) (Rows.fnMergedSpec.post enc Try.prog Try.f3 false true false false) := by
  refine returnsInHanded_of_change (C := Try.checked) own started (by kernel_rfl) Try.func3
    (ChangeSpec.witness6 (enc := enc) (C := Try.checked) false ⟨#[], #[.slice none 0 0], []⟩ 8 (by kernel_rfl) (by kernel_rfl) (by kernel_rfl) (by kernel_rfl)) ?_
  intro W base args ds gs before hval0 hW hcnd _
  have hval : ∀ (j : Nat) t v, Try.f3.params[j]? = some t → args[j]? = some v → Value.okWide Try.prog W .any base t v := hval0
  have hW' := hW
  obtain ⟨p, q, hA0, hV, rfl, hfz, hnd⟩ := hW
  have hA : DataW.TrodAll enc Try.prog W 0 (fun _ => true) true Try.f3.params.toList args.toList ds p := hA0
  rw [Try.params3] at hA hval
  obtain ⟨v0, vs0, d0, ds0, p0, q0, hargs, rfl, rfl, h0, r0⟩ := trodAll_cons hA
  obtain ⟨rfl, rfl, rfl⟩ := trodAll_nil r0
  obtain rfl : args = #[v0] := by cases args; simp_all
  obtain ⟨rfl, rfl⟩ := trodVars_none hV
  obtain ⟨a0, len0, cap0, rfl⟩ := okWide_slice Try.underlying22 (hval 0 22 v0 rfl rfl)
  have k0 := h0
  have lt0 : ∀ x ∈ p0, x.block < W.heap.size := by obtain ⟨m, hm⟩ := k0; exact DataW.trod_lt m _ _ _ hm
  obtain ⟨z0, w0⟩ : ∃ zs, IsRow .u8 W a0 len0 cap0 zs := by
    obtain ⟨fuel, hf⟩ := h0
    rcases open_ints Try.underlying22 Try.underlying5 (by kernel_rfl) hf with ⟨hcs, _⟩ | ⟨x, l, c, zs, hcs, _, hl, hm, hz, _, hcell, hwz⟩
    · simp [Value.cells] at hcs
      obtain ⟨rfl, rfl, rfl⟩ := hcs
      exact ⟨[], .inl ⟨rfl, rfl, rfl, rfl⟩⟩
    · simp [Value.cells] at hcs
      obtain ⟨rfl, rfl, rfl⟩ := hcs
      exact ⟨zs, .inr ⟨_, rfl, hl, hm, by simpa using hz, hcell, hwz⟩⟩
  clear hA0 hval0
  refine (walk a0 len0 cap0 z0 W w0).mono fun e W' ⟨he, bel⟩ => ?_
  subst he
  exact ⟨_, rfl, _, _, _, [], _, [], hW', trodAll_mk1 (shut_bool Try.underlying4 _), (trodAll_cons_mk (Below.trod laidOut (by kernel_rfl) (of_decide_eq_true (by kernel_rfl)) k0 bel lt0) trodAll_mk0), rfl, bel.frame _, fun h => by cases h⟩

theorem over : Rows.fnMergedRow.holds Try.pinned (OpenSpec.ofChange Rows.fnMergedSpec) :=
  OpenClaim.holds_of_wide 3 Try.f3 rfl rfl rfl rfl rfl rfl rfl ⟨rfl, rfl, rfl, rfl, rfl⟩ rfl rfl rfl rfl rfl (by kernel_rfl) Try.func3 (by kernel_rfl)
    (of_decide_eq_true (by kernel_rfl)) (by unfold Func.isWrapper; first | (rw [if_pos (by decide +kernel)]; kernel_rfl) | (rw [if_neg (by decide +kernel)]; exact ⟨rfl, rfl⟩))
    (fun os started H enc _ => lifted os started H enc)

/-- ████ THE STATEMENT ████ -/
theorem proved : Rows.FnMergedSaid := over
end Go.Proofs.Yteplmjlllnbiiaa.fnMerged
