/-
  For every code of bytes, laws.FnRuneText returns true: RuneText answers as the reference's; a code point has as many bytes as it needs, they are valid, and cut by one they are not and want one byte. No condition.
-/
import Derived.Test.YtoohcepobbbejaaRows
import Derived.WalkKit
import Derived.ProofKit
import Derived.OpenShut
import Derived.ShutString
import Derived.ChangeOld
import Derived.Below
import Derived.Test.YtoohcepobbbejaaUtfImpl
import Derived.Test.YtoohcepobbbejaaDrawUtf2
namespace Go.Proofs.Ytoohcepobbbejaa.fnRuneText
open Go.ChangeShapes Go.WideShapes Go.ChangeAt Go.RowKit
open Go.ChangeMaps (open_string shut_string)
set_option linter.unusedVariables false

theorem own : ownKnob Try.prog.godebug = none := by kernel_rfl
theorem laidOut : laidOutB Try.prog = true := by kernel_rfl

/-- WHAT THE WALK IS TOLD OF A SLICE OF INTEGERS THAT CAME IN: it is nil; or it leads to a row of 'cap' cells, the numbers 'zs' (the first 'len' are its elements, the rest its spare room), each fitting its kind. -/
def IsRow (k : IntKind) (w : World) (a : Option Addr) (len cap : Nat) (zs : List Int) : Prop :=
  (a = none ∧ len = 0 ∧ cap = 0 ∧ zs = []) ∨
  ∃ x, a = some x ∧ len ≤ cap ∧ cap ≤ maxLen ∧ zs.length = cap ∧ (∀ i, i < zs.length → w.cell? (x.add i) = some (.int k (zs.getD i 0))) ∧ ∀ n ∈ zs, (Lit.int k n).wf = true

/-! ### STEP 1: THE WALK: the Go text returns true, AND WRITES NOTHING THAT WAS THERE: 'Below w.heap.size w w'' (Derived/Below.lean: '.refl', '.alloc', '.drew', '.setCell' at a new block, '.trans'). Open each 'IsRow' by 'rcases' AHEAD of 'go_enter'; part every test ahead of the walk. -/
open Num in
theorem good_as (s : ByteArray) (b : Bool) (h : Utf.good s.data.toList = b) (hs : s.size ≤ 64) (w : World) : Calls Try.prog 15 #[.string s] w fun e w' => e = .returned (.bool b) ∧ Below w.heap.size w w' := h ▸ implUtfGood_any s w (by omega)
open Num in
theorem state_as (s : ByteArray) (W L H : Int) (h : (Utf.run Utf.z s.data.toList).1 = (W, L, H)) (hs : s.size ≤ 64) (w : World) : Calls Try.prog 22 #[.string s] w fun e w' => e = .returned (.agg #[.int .i64 W, .int .i64 L, .int .i64 H]) ∧ Below w.heap.size w w' :=
  (implUtfState_any s w (by omega)).mono fun e w' ⟨he, hb⟩ => ⟨by rw [he, h]; rfl, hb⟩
open Num in
theorem rune_told {k : Nat} (h : Utf.Right (k : Int)) : ∃ s : ByteArray, runeS (k : Int) = s ∧ s.size = Utf.widthN k ∧ s.toList.isEmpty = false ∧ Utf.good s.data.toList = true ∧
    (2 ≤ Utf.widthN k → Utf.good (s.extract 0 (Utf.widthN k - 1)).data.toList = false ∧ (Utf.run Utf.z (s.extract 0 (Utf.widthN k - 1)).data.toList).1 = (1, 128, 191)) := by
  obtain ⟨h1, h2, h3⟩ := Utf.rune_facts h
  have hd : (runeS (k : Int)).data.toList = Utf.rune k := rfl
  refine ⟨_, rfl, by show (runeS (k : Int)).data.size = _; rw [← Array.length_toList, hd, h1], ?_, by rw [hd]; exact Utf.good_of_run h2, fun h => ?_⟩
  · rw [ByteArray.toList_eq, hd]
    cases hr : Utf.rune k with
    | nil =>
      rw [hr] at h1
      have : 1 ≤ Utf.widthN k := by unfold Utf.widthN; repeat (first | split | omega)
      simp at h1; omega
    | cons => rfl
  · have e : ((runeS (k : Int)).extract 0 (Utf.widthN k - 1)).data.toList = (Utf.rune k).take (Utf.widthN k - 1) := by
      rw [ByteArray.data_extract, Array.toList_extract, hd]; simp [List.extract]
    rw [e]
    exact ⟨by unfold Utf.good Utf.goodFrom; rw [h3 h]; rfl, by rw [h3 h]⟩
open Num in
set_option maxHeartbeats 1600000 in
set_option maxRecDepth 100000 in
theorem walk (a0 : Option Addr) (len0 cap0 : Nat) (z0 : List Int) (w : World) (w0 : IsRow .u8 w a0 len0 cap0 z0) :
    Calls Try.prog 6 #[.slice a0 len0 cap0] w fun e w' => e = .returned (.bool true) ∧ Below w.heap.size w w' := by
  by_cases hb : 1048576 < len0
  · clear w0
    go_enter Try.func6, Try.ntmps6
    go_wp2
    go_ret
    exact ⟨rfl, Below.refl _ _⟩
  · have hcode := codeOf w0 (by omega)
    have Hcode := Lib.hid hcode
    clear w0 hcode
    go_enter Try.func6, Try.ntmps6
    go_wp2_with (go_at_call 13; go_in)
    refine (drawRuneText_any a0 len0 cap0 _ Hcode.out).mono ?_
    rintro e w1 ⟨n, hn, rfl, hb1⟩
    have Hn := Lib.hid hn
    clear hn
    go_wp2_with fail
    refine (implRuneText_any n _).mono ?_
    rintro e w2 ⟨rfl, hb2⟩
    have hb12 := hb1.trans (hb2.mono hb1.size)
    clear hb1 hb2
    have Hs := Lib.hid (specRuneText_any n)
    rcases Utf.rune_cases n with ⟨hno, hr⟩ | ⟨k, rfl, hyes, hc⟩
    · have he : runeS n = ⟨#[]⟩ := by unfold runeS; rw [hr]
      rw [he] at Hs ⊢
      have Hno := Lib.hid hno
      clear he hr hno
      go_wp2_with fail
      refine (Hs.out _).mono ?_
      rintro e w3 ⟨rfl, hb3⟩
      have hb13 := hb12.trans (hb3.mono hb12.size)
      clear hb12 hb3
      by_cases c0 : n < 0
      · go_wp2_with fail
        go_ret
        exact ⟨rfl, hb13⟩
      · have d0 : decide (n < 0) = false := decide_eq_false c0
        by_cases c1 : 1114111 < n
        · have d1 : decide (1114111 < n) = true := decide_eq_true c1
          clear c0 c1
          go_wp2_with fail
          go_ret
          exact ⟨rfl, hb13⟩
        · have d1 : decide (1114111 < n) = false := decide_eq_false c1
          have c2 : 55296 ≤ n ∧ n ≤ 57343 := by have := Hno.out; unfold Utf.Right at this; omega
          have d2 : decide (55296 ≤ n) = true := decide_eq_true c2.1
          have d3 : decide (n ≤ 57343) = true := decide_eq_true c2.2
          clear c0 c1 c2
          go_wp2_with fail
          go_ret
          exact ⟨rfl, hb13⟩
    · obtain ⟨s, hse, hsz, hne, hgood, hcut⟩ := rune_told hyes
      rw [hse] at Hs ⊢
      clear hse hyes
      have hss : Utf.widthN k ≤ 4 := by unfold Utf.widthN; repeat (first | split | omega)
      have Hg := Lib.hid (good_as s true hgood (by omega))
      clear hgood
      go_wp2_with fail
      refine (Hs.out _).mono ?_
      rintro e w3 ⟨rfl, hb3⟩
      have hb13 := hb12.trans (hb3.mono hb12.size)
      clear hb12 hb3 Hs
      rcases hc with hc | ⟨h0, hc⟩ | ⟨h0, hc, _⟩ | ⟨h0, hc⟩
      · have hw : Utf.widthN k = 1 := by unfold Utf.widthN; rw [if_pos (by omega)]
        rw [hw] at hsz hcut
        have d0 : decide ((127 : Int) < (k : Int)) = false := decide_eq_false (by omega)
        have f0 : decide (127 < k) = false := decide_eq_false (by omega)
        have d1 : decide ((2047 : Int) < (k : Int)) = false := decide_eq_false (by omega)
        have f1 : decide (2047 < k) = false := decide_eq_false (by omega)
        have d2 : decide ((65535 : Int) < (k : Int)) = false := decide_eq_false (by omega)
        have f2 : decide (65535 < k) = false := decide_eq_false (by omega)
        have hle : ((s.size : Int) == 1) = true := by rw [beq_iff_eq]; omega
        have hle2 : (s.size == 1) = true := by rw [beq_iff_eq]; omega
        clear hcut hw hss hsz hc
        go_wp2_with fail
        refine (Hg.out _).mono ?_
        rintro e w4 ⟨rfl, hb4⟩
        have hb14 := hb13.trans (hb4.mono hb13.size)
        clear hb13 hb4
        go_wp2_with fail
        go_ret
        exact ⟨rfl, hb14⟩
      · have hw : Utf.widthN k = 2 := by unfold Utf.widthN; rw [if_neg (by omega), if_pos (by omega)]
        rw [hw] at hsz hcut
        have d0 : decide ((127 : Int) < (k : Int)) = true := decide_eq_true (by omega)
        have f0 : decide (127 < k) = true := decide_eq_true (by omega)
        have d1 : decide ((2047 : Int) < (k : Int)) = false := decide_eq_false (by omega)
        have f1 : decide (2047 < k) = false := decide_eq_false (by omega)
        have d2 : decide ((65535 : Int) < (k : Int)) = false := decide_eq_false (by omega)
        have f2 : decide (65535 < k) = false := decide_eq_false (by omega)
        have hle : ((s.size : Int) == 2) = true := by rw [beq_iff_eq]; omega
        have hle2 : (s.size == 2) = true := by rw [beq_iff_eq]; omega
        obtain ⟨q1, q2⟩ := hcut (by omega)
        have hex : (s.extract 0 (2 - 1)).size ≤ 64 := by rw [ByteArray.size_extract]; omega
        have Hq1 := Lib.hid (good_as _ false q1 hex)
        have Hq2 := Lib.hid (state_as _ 1 128 191 q2 hex)
        simp only [Nat.reduceSub] at Hq1 Hq2
        have hi : (1 : Int) ≤ (s.size : Int) := by omega
        clear q1 q2 hex
        clear hcut hw hss hsz hc h0
        go_wp2_with fail
        refine (Hg.out _).mono ?_
        rintro e w4 ⟨rfl, hb4⟩
        have hb14 := hb13.trans (hb4.mono hb13.size)
        clear hb13 hb4
        go_wp2_with fail
        refine (Hq1.out _).mono ?_
        rintro e w5 ⟨rfl, hb5⟩
        have hb15 := hb14.trans (hb5.mono hb14.size)
        clear hb14 hb5
        go_wp2_with fail
        refine (Hq2.out _).mono ?_
        rintro e w6 ⟨rfl, hb6⟩
        have hb16 := hb15.trans (hb6.mono hb15.size)
        clear hb15 hb6
        have hfd : ∀ w : World, (Instr.field 29 (.agg #[.int .i64 1, .int .i64 128, .int .i64 191]) 0).run Try.prog w = .ok (.int .i64 1) w := fun _ => by kernel_rfl
        go_wp2_with fail
        go_ret
        exact ⟨rfl, hb16⟩
      · have hw : Utf.widthN k = 3 := by unfold Utf.widthN; rw [if_neg (by omega), if_neg (by omega), if_pos (by omega)]
        rw [hw] at hsz hcut
        have d0 : decide ((127 : Int) < (k : Int)) = true := decide_eq_true (by omega)
        have f0 : decide (127 < k) = true := decide_eq_true (by omega)
        have d1 : decide ((2047 : Int) < (k : Int)) = true := decide_eq_true (by omega)
        have f1 : decide (2047 < k) = true := decide_eq_true (by omega)
        have d2 : decide ((65535 : Int) < (k : Int)) = false := decide_eq_false (by omega)
        have f2 : decide (65535 < k) = false := decide_eq_false (by omega)
        have hle : ((s.size : Int) == 3) = true := by rw [beq_iff_eq]; omega
        have hle2 : (s.size == 3) = true := by rw [beq_iff_eq]; omega
        obtain ⟨q1, q2⟩ := hcut (by omega)
        have hex : (s.extract 0 (3 - 1)).size ≤ 64 := by rw [ByteArray.size_extract]; omega
        have Hq1 := Lib.hid (good_as _ false q1 hex)
        have Hq2 := Lib.hid (state_as _ 1 128 191 q2 hex)
        simp only [Nat.reduceSub] at Hq1 Hq2
        have hi : (2 : Int) ≤ (s.size : Int) := by omega
        clear q1 q2 hex
        clear hcut hw hss hsz hc h0
        go_wp2_with fail
        refine (Hg.out _).mono ?_
        rintro e w4 ⟨rfl, hb4⟩
        have hb14 := hb13.trans (hb4.mono hb13.size)
        clear hb13 hb4
        go_wp2_with fail
        refine (Hq1.out _).mono ?_
        rintro e w5 ⟨rfl, hb5⟩
        have hb15 := hb14.trans (hb5.mono hb14.size)
        clear hb14 hb5
        go_wp2_with fail
        refine (Hq2.out _).mono ?_
        rintro e w6 ⟨rfl, hb6⟩
        have hb16 := hb15.trans (hb6.mono hb15.size)
        clear hb15 hb6
        have hfd : ∀ w : World, (Instr.field 29 (.agg #[.int .i64 1, .int .i64 128, .int .i64 191]) 0).run Try.prog w = .ok (.int .i64 1) w := fun _ => by kernel_rfl
        go_wp2_with fail
        go_ret
        exact ⟨rfl, hb16⟩
      · have hw : Utf.widthN k = 4 := by unfold Utf.widthN; rw [if_neg (by omega), if_neg (by omega), if_neg (by omega)]
        rw [hw] at hsz hcut
        have d0 : decide ((127 : Int) < (k : Int)) = true := decide_eq_true (by omega)
        have f0 : decide (127 < k) = true := decide_eq_true (by omega)
        have d1 : decide ((2047 : Int) < (k : Int)) = true := decide_eq_true (by omega)
        have f1 : decide (2047 < k) = true := decide_eq_true (by omega)
        have d2 : decide ((65535 : Int) < (k : Int)) = true := decide_eq_true (by omega)
        have f2 : decide (65535 < k) = true := decide_eq_true (by omega)
        have hle : ((s.size : Int) == 4) = true := by rw [beq_iff_eq]; omega
        have hle2 : (s.size == 4) = true := by rw [beq_iff_eq]; omega
        obtain ⟨q1, q2⟩ := hcut (by omega)
        have hex : (s.extract 0 (4 - 1)).size ≤ 64 := by rw [ByteArray.size_extract]; omega
        have Hq1 := Lib.hid (good_as _ false q1 hex)
        have Hq2 := Lib.hid (state_as _ 1 128 191 q2 hex)
        simp only [Nat.reduceSub] at Hq1 Hq2
        have hi : (3 : Int) ≤ (s.size : Int) := by omega
        clear q1 q2 hex
        clear hcut hw hss hsz hc h0
        go_wp2_with fail
        refine (Hg.out _).mono ?_
        rintro e w4 ⟨rfl, hb4⟩
        have hb14 := hb13.trans (hb4.mono hb13.size)
        clear hb13 hb4
        go_wp2_with fail
        refine (Hq1.out _).mono ?_
        rintro e w5 ⟨rfl, hb5⟩
        have hb15 := hb14.trans (hb5.mono hb14.size)
        clear hb14 hb5
        go_wp2_with fail
        refine (Hq2.out _).mono ?_
        rintro e w6 ⟨rfl, hb6⟩
        have hb16 := hb15.trans (hb6.mono hb15.size)
        clear hb15 hb6
        have hfd : ∀ w : World, (Instr.field 29 (.agg #[.int .i64 1, .int .i64 128, .int .i64 191]) 0).run Try.prog w = .ok (.int .i64 1) w := fun _ => by kernel_rfl
        go_wp2_with fail
        go_ret
        exact ⟨rfl, hb16⟩

/-! ### THE ROW's STEP: WRITTEN OUT: LEAVE IT -/
set_option maxRecDepth 100000 in
theorem lifted (os : Os) (started : os.Started) (H : Type) (enc : TypeId × Value → H) :
    ReturnsInHanded {} Try.checked os 6 .any (Rows.fnRuneTextSpec.pre6 enc Try.prog Try.f6 Rows.fnRuneTextRow.domain false) (Rows.fnRuneTextSpec.post enc Try.prog Try.f6 false true false false) := by
  refine returnsInHanded_of_change (C := Try.checked) own started (by kernel_rfl) Try.func6
    (ChangeSpec.witness6 (enc := enc) (C := Try.checked) false ⟨#[], #[.slice none 0 0], []⟩ 8 (by kernel_rfl) (by kernel_rfl) (by kernel_rfl) (by kernel_rfl)) ?_
  intro W base args ds gs before hval0 hW hcnd _
  have hval : ∀ (j : Nat) t v, Try.f6.params[j]? = some t → args[j]? = some v → Value.okWide Try.prog W .any base t v := hval0
  have hW' := hW
  obtain ⟨p, q, hA0, hV, rfl, hfz, hnd⟩ := hW
  have hA : DataW.TrodAll enc Try.prog W 0 (fun _ => true) true Try.f6.params.toList args.toList ds p := hA0
  rw [Try.params6] at hA hval
  obtain ⟨v0, vs0, d0, ds0, p0, q0, hargs, rfl, rfl, h0, r0⟩ := trodAll_cons hA
  obtain ⟨rfl, rfl, rfl⟩ := trodAll_nil r0
  obtain rfl : args = #[v0] := by cases args; simp_all
  obtain ⟨rfl, rfl⟩ := trodVars_none hV
  obtain ⟨a0, len0, cap0, rfl⟩ := okWide_slice Try.underlying22 (hval 0 22 v0 rfl rfl)
  have k0 := h0
  have lt0 : ∀ x ∈ p0, x.block < W.heap.size := by obtain ⟨m, hm⟩ := k0; exact DataW.trod_lt m _ _ _ hm
  obtain ⟨z0, w0⟩ : ∃ zs, IsRow .u8 W a0 len0 cap0 zs := by
    obtain ⟨fuel, hf⟩ := h0
    rcases open_ints Try.underlying22 Try.underlying5 (by kernel_rfl) hf with ⟨hcs, _⟩ | ⟨x, l, c, zs, hcs, _, hl, hm, hz, _, hcell, hwz⟩
    · simp [Value.cells] at hcs
      obtain ⟨rfl, rfl, rfl⟩ := hcs
      exact ⟨[], .inl ⟨rfl, rfl, rfl, rfl⟩⟩
    · simp [Value.cells] at hcs
      obtain ⟨rfl, rfl, rfl⟩ := hcs
      exact ⟨zs, .inr ⟨_, rfl, hl, hm, by simpa using hz, hcell, hwz⟩⟩
  clear hA0 hval0
  refine (walk a0 len0 cap0 z0 W w0).mono fun e W' ⟨he, bel⟩ => ?_
  subst he
  exact ⟨_, rfl, _, _, _, [], _, [], hW', trodAll_mk1 (shut_bool Try.underlying4 _), (trodAll_cons_mk (Below.trod laidOut (by kernel_rfl) (of_decide_eq_true (by kernel_rfl)) k0 bel lt0) trodAll_mk0), rfl, bel.frame _, fun h => by cases h⟩

theorem over : Rows.fnRuneTextRow.holds Try.pinned (OpenSpec.ofChange Rows.fnRuneTextSpec) :=
  OpenClaim.holds_of_wide 6 Try.f6 rfl rfl rfl rfl rfl rfl rfl ⟨rfl, rfl, rfl, rfl, rfl⟩ rfl rfl rfl rfl rfl (by kernel_rfl) Try.func6 (by kernel_rfl)
    (of_decide_eq_true (by kernel_rfl)) (by unfold Func.isWrapper; first | (rw [if_pos (by decide +kernel)]; kernel_rfl) | (rw [if_neg (by decide +kernel)]; exact ⟨rfl, rfl⟩))
    (fun os started H enc _ => lifted os started H enc)

/-- ████ THE STATEMENT ████ -/
theorem proved : Rows.FnRuneTextSaid := over
end Go.Proofs.Ytoohcepobbbejaa.fnRuneText
