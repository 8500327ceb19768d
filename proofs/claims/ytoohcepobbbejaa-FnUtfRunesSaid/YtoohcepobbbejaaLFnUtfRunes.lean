/-
  For every code of bytes, laws.FnUtfRunes returns true: UtfGood answers as the reference's, and a string is good just where it is the bytes of code points, one behind the other. No condition.
-/
import Derived.Test.YtoohcepobbbejaaRows
import Derived.WalkKit
import Derived.ProofKit
import Derived.OpenShut
import Derived.ShutString
import Derived.ChangeOld
import Derived.Below
import Derived.Test.YtoohcepobbbejaaUtfImpl
import Derived.Test.YtoohcepobbbejaaDrawUtf2
namespace Go.Proofs.Ytoohcepobbbejaa.fnUtfRunes
open Go.ChangeShapes Go.WideShapes Go.ChangeAt Go.RowKit
open Go.ChangeMaps (open_string shut_string)
set_option linter.unusedVariables false

theorem own : ownKnob Try.prog.godebug = none := by kernel_rfl
theorem laidOut : laidOutB Try.prog = true := by kernel_rfl

/-- WHAT THE WALK IS TOLD OF A SLICE OF INTEGERS THAT CAME IN: it is nil; or it leads to a row of 'cap' cells, the numbers 'zs' (the first 'len' are its elements, the rest its spare room), each fitting its kind. -/
def IsRow (k : IntKind) (w : World) (a : Option Addr) (len cap : Nat) (zs : List Int) : Prop :=
  (a = none ∧ len = 0 ∧ cap = 0 ∧ zs = []) ∨
  ∃ x, a = some x ∧ len ≤ cap ∧ cap ≤ maxLen ∧ zs.length = cap ∧ (∀ i, i < zs.length → w.cell? (x.add i) = some (.int k (zs.getD i 0))) ∧ ∀ n ∈ zs, (Lit.int k n).wf = true

/-! ### STEP 1: THE WALK: the Go text returns true, AND WRITES NOTHING THAT WAS THERE: 'Below w.heap.size w w'' (Derived/Below.lean: '.refl', '.alloc', '.drew', '.setCell' at a new block, '.trans'). Open each 'IsRow' by 'rcases' AHEAD of 'go_enter'; part every test ahead of the walk. -/
attribute [local go_sem] Region.wanted yielded
open Num in
theorem good_as (s : ByteArray) (b : Bool) (h : Utf.good s.data.toList = b) (hs : s.size ≤ 64) (w : World) : Calls Try.prog 15 #[.string s] w fun e w' => e = .returned (.bool b) ∧ Below w.heap.size w w' := h ▸ implUtfGood_any s w (by omega)
open Num in
theorem sgood_as (s : ByteArray) (b : Bool) (h : Utf.good s.data.toList = b) (hs : s.size ≤ 64) (w : World) : Calls Try.prog 16 #[.string s] w fun e w' => e = .returned (.bool b) ∧ Below w.heap.size w w' := h ▸ specUtfGood_any s w (by omega)
open Num in
theorem rune_as (n : Int) (t : ByteArray) (h : runeS n = t) (w : World) : Calls Try.prog 17 #[.int .i64 n] w fun e w' => e = .returned (.string t) ∧ Below w.heap.size w w' := h ▸ implRuneText_any n w
theorem part_of (s : ByteArray) (A m : Nat) : (s.extract A (A + m)).data.toList = (s.data.toList.drop A).take m := by
  rw [ByteArray.data_extract, Array.toList_extract]; simp [List.extract]
open Num in
theorem rune_part (s : ByteArray) (A m : Nat) (n : Int) : runeS n = s.extract A (A + m) ↔ Utf.rune n = (s.data.toList.drop A).take m := by
  rw [← part_of]
  constructor
  · intro h; rw [← h]; rfl
  · intro h
    unfold runeS
    rw [h]
theorem bytes_ne {t u : ByteArray} (h : t ≠ u) : (t.toList == u.toList) = false := by
  rw [beq_eq_false_iff_ne]
  intro e
  rw [ByteArray.toList_eq, ByteArray.toList_eq] at e
  exact h (by ext1; exact Array.ext' e)
/-- What the law's round finds out at the place A. -/
theorem round_told (s : ByteArray) (A m : Nat) (G : Bool) (hA : A < s.size) (hG : Utf.good (s.data.toList.drop A) = G) (hm : Utf.sizeOf s[A].toNat = m) :
    (s.size < A + m → G = false) ∧ (A + m ≤ s.size → ∀ N, Utf.foldN (Utf.leadOf s[A].toNat) ((s.data.toList.drop (A + 1)).take (m - 1)) = N →
      (Utf.rune N = (s.data.toList.drop A).take m → Utf.good (s.data.toList.drop (A + m)) = G) ∧ (Utf.rune N ≠ (s.data.toList.drop A).take m → G = false)) := by
  have hd := Num.drop_byte s A hA
  have hlen : (s.data.toList.drop A).length = s.size - A := by rw [List.length_drop]; simp
  have hm0 : 0 < m := by rw [← hm]; unfold Utf.sizeOf; repeat (first | split | omega)
  subst hm
  constructor
  · intro h
    cases hGc : G with
    | false => rfl
    | true =>
      rw [hGc, hd] at hG
      have := (Utf.good_head hG).1
      rw [← hd, hlen] at this
      omega
  · intro h N hN
    constructor
    · intro he
      rw [← hG, ← List.drop_drop]
      exact (Utf.good_step (by rw [hd]; simp) hm0 he).symm
    · intro hne
      cases hGc : G with
      | false => rfl
      | true =>
        rw [hGc, hd] at hG
        have := (Utf.good_head hG).2
        rw [hN, ← hd] at this
        exact absurd this hne
def nearN (k : Nat) (n : Int) : Prop := (k = 1 ∧ -300 ≤ n ∧ n ≤ 300) ∨ (k = 2 ∧ -90000 ≤ n ∧ n ≤ 90000) ∨ (k = 3 ∧ -27000000 ≤ n ∧ n ≤ 27000000) ∨ (k = 4 ∧ -8100000000 ≤ n ∧ n ≤ 8100000000)
open Num in
set_option maxHeartbeats 8000000 in
set_option maxRecDepth 100000 in
theorem walk (a0 : Option Addr) (len0 cap0 : Nat) (z0 : List Int) (w : World) (w0 : IsRow .u8 w a0 len0 cap0 z0) :
    Calls Try.prog 3 #[.slice a0 len0 cap0] w fun e w' => e = .returned (.bool true) ∧ Below w.heap.size w w' := by
  by_cases hb : 1048576 < len0
  · clear w0
    go_enter Try.func3, Try.ntmps3
    go_wp2
    go_ret
    exact ⟨rfl, Below.refl _ _⟩
  · have hcode := codeOf w0 (by omega)
    have Hcode := Lib.hid hcode
    clear w0 hcode
    go_enter Try.func3, Try.ntmps3
    go_wp2_with (go_at_call 13; go_in)
    refine (drawUtfGood_any a0 len0 cap0 _ Hcode.out).mono ?_
    rintro e w1 ⟨s, hs, rfl, hb1⟩
    obtain ⟨G, hG⟩ : ∃ G, Utf.good s.data.toList = G := ⟨_, rfl⟩
    have Hi := Lib.hid (good_as s G hG (by omega))
    have Hs := Lib.hid (sgood_as s G hG (by omega))
    have HG := Lib.hid hG
    clear hG
    go_wp2_with fail
    refine (Hi.out _).mono ?_
    rintro e w2 ⟨rfl, hb2⟩
    have hb12 := hb1.trans (hb2.mono hb1.size)
    clear hb1 hb2
    go_wp2_with fail
    refine (Hs.out _).mono ?_
    rintro e w3 ⟨rfl, hb3⟩
    have hb13 := hb12.trans (hb3.mono hb12.size)
    clear hb12 hb3 Hi Hs
    go_wp2_with fail
    go_loopw [5] (fun i wr => ∃ A : Nat, A ≤ s.size ∧ i = .int .i64 A ∧ Hid (Utf.good (s.data.toList.drop A) = G) ∧ Below w.heap.size w wr) (fun i _ => s.size - (intOf i).toNat)
    case atStart => exact ⟨0, by omega, rfl, HG, hb13⟩
    case round =>
      obtain ⟨A, hA, rfl, hgA, hbr⟩ := hrel
      by_cases hlt : A < s.size
      · have hltb : (A : Int) < (s.size : Int) := by omega
        have hw8 : IntKind.i64.wrap (s[A].toNat : Int) = (s[A].toNat : Int) := IntWalk.i64_in _ (by have := s[A].toNat_lt; omega)
        by_cases c4 : 240 ≤ s[A].toNat
        · have d240 : decide ((240 : Int) ≤ (s[A].toNat : Int)) = true := decide_eq_true (by omega)
          have f240 : decide (240 ≤ s[A].toNat) = true := decide_eq_true (by omega)
          have hsz : Utf.sizeOf s[A].toNat = 4 := by unfold Utf.sizeOf; rw [if_pos (by omega)]
          have hld : Utf.leadOf s[A].toNat = s[A].toNat - 240 := by unfold Utf.leadOf; rw [if_pos (by omega)]
          obtain ⟨L, hL⟩ : ∃ L : Nat, L = s[A].toNat - 240 := ⟨_, rfl⟩
          have hwl : IntKind.i64.wrap ((s[A].toNat : Int) - 240) = (L : Int) := by rw [IntWalk.i64_in _ (by have := s[A].toNat_lt; omega)]; omega
          have hL2 : L ≤ 255 := by have := s[A].toNat_lt; omega
          have htold := round_told s A 4 G hlt hgA.out hsz
          rw [hld, ← hL] at htold
          have Htold := Lib.hid htold
          clear htold hsz hld hL c4
          have hw1 : IntKind.i64.wrap ((A : Int) + 4) = (A : Int) + 4 := IntWalk.i64_in _ (by omega)
          by_cases hover : s.size < A + 4
          · obtain rfl : G = false := Htold.out.1 hover
            have ho1 : decide ((s.size : Int) < (A : Int) + 4) = true := decide_eq_true (by omega)
            have ho2 : decide (s.size < A + 4) = true := decide_eq_true hover
            clear hover
            go_wp2_with fail
            go_ret
            exact ⟨rfl, hbr⟩
          · have hin : A + 4 ≤ s.size := by omega
            have ho1 : decide ((s.size : Int) < (A : Int) + 4) = false := decide_eq_false (by omega)
            have ho2 : decide (s.size < A + 4) = false := decide_eq_false hover
            obtain ⟨N, hN⟩ : ∃ N, Utf.foldN (L : Int) ((s.data.toList.drop (A + 1)).take (4 - 1)) = N := ⟨_, rfl⟩
            have Hend := Lib.hid (Htold.out.2 hin N hN)
            have HN := Lib.hid hN
            have Hin := Lib.hid hin
            clear Htold hN hover hin
            go_wp2_with fail
            go_loopw [8, 9] (fun x i wr => ∃ (k : Nat) (n : Int), 1 ≤ k ∧ k ≤ 4 ∧ i = .int .i64 k ∧ x = .int .i64 n ∧ Hid (nearN k n) ∧ Hid (Utf.foldN n ((s.data.toList.drop (A + k)).take (4 - k)) = N) ∧ Below w.heap.size w wr) (fun _ i _ => 4 - (intOf i).toNat)
            case atStart => exact ⟨1, L, by omega, by omega, rfl, rfl, Lib.hid (by have := s[A].toNat_lt; unfold nearN; omega), HN, hbr⟩
            case round =>
              obtain ⟨k, n, hk0, hk, rfl, rfl, hnear, hfold, hbr2⟩ := hrel
              by_cases hkm : k < 4
              · have hkmb : (k : Int) < 4 := by omega
                have hAk : A + k < s.size := by have := Hin.out; omega
                have hlt1 : (A : Int) + (k : Int) < (s.size : Int) := by omega
                have hlt0 : (0 : Int) ≤ (A : Int) + (k : Int) := by omega
                have hw2 : IntKind.i64.wrap ((A : Int) + (k : Int)) = (A : Int) + (k : Int) := IntWalk.i64_in _ (by omega)
                have hnat : ((A : Int) + (k : Int)).toNat = A + k := by omega
                have hc : s[A + k].toNat < 256 := s[A + k].toNat_lt
                have hw9 : IntKind.i64.wrap (s[A + k].toNat : Int) = (s[A + k].toNat : Int) := IntWalk.i64_in _ (by omega)
                have hn0 : -27000000 ≤ n ∧ n ≤ 27000000 := by have := hnear.out; unfold nearN at this; omega
                have hq1 : IntKind.i64.wrap (64 * n) = 64 * n := IntWalk.i64_in _ (by omega)
                have hq2 : IntKind.i64.wrap (64 * n + (s[A + k].toNat : Int)) = 64 * n + (s[A + k].toNat : Int) := IntWalk.i64_in _ (by omega)
                have hq3 : IntKind.i64.wrap (64 * n + (s[A + k].toNat : Int) - 128) = 64 * n + (s[A + k].toNat : Int) - 128 := IntWalk.i64_in _ (by omega)
                have Hn2 : Hid (nearN (k + 1) (64 * n + (s[A + k].toNat : Int) - 128)) := Lib.hid (by have := hnear.out; unfold nearN at this ⊢; omega)
                have Hf2 : Hid (Utf.foldN (64 * n + (s[A + k].toNat : Int) - 128) ((s.data.toList.drop (A + (k + 1))).take (4 - (k + 1))) = N) := Lib.hid (by rw [← hfold.out, drop_byte s (A + k) hAk, show 4 - k = (4 - (k + 1)) + 1 by omega, List.take_succ_cons]; rfl)
                clear hn0 hc
                go_wp2_with fail
                go_roundw
                case rel => exact ⟨k + 1, _, by omega, by omega, by go_num, rfl, Hn2, Hf2, hbr2⟩
                case measure => simp [intOf]; omega
              · obtain rfl : k = 4 := by omega
                obtain rfl : n = N := by have := hfold.out; simpa [Utf.foldN] using this
                have h0 : (0 : Int) ≤ (A : Int) := by omega
                have h1 : (A : Int) ≤ (A : Int) + 4 := by omega
                have h2 : (A : Int) + 4 ≤ (s.size : Int) := by have := Hin.out; omega
                have h3 : ((A : Int) + 4).toNat = A + 4 := by omega
                clear hk0 hk hkm hfold hnear HN
                by_cases heq : Utf.rune n = (s.data.toList.drop A).take 4
                · have Hr := Lib.hid (rune_as n _ ((rune_part s A 4 n).2 heq))
                  have Hg2 := Lib.hid (Hend.out.1 heq)
                  clear heq
                  go_wp2_with fail
                  go_region_with (go_at_call 17; refine (Hr.out _).mono ?_; rintro e w4 ⟨rfl, hb4⟩; have hb5 := hbr2.drew.trans (hb4.mono hbr2.size))
                  all_goals
                    go_wp2_with fail
                    go_roundw
                    case rel => exact ⟨A + 4, by omega, by go_num, Hg2, hb5⟩
                    case measure => simp [intOf]; omega
                · obtain rfl : G = false := Hend.out.2 heq
                  obtain ⟨t, ht⟩ : ∃ t, runeS n = t := ⟨_, rfl⟩
                  have hne : t ≠ s.extract A (A + 4) := fun e => heq ((rune_part s A 4 n).1 (ht.trans e))
                  have Hr := Lib.hid (rune_as n t ht)
                  have hn1 : (t.toList == (s.extract A (A + 4)).toList) = false := bytes_ne hne
                  clear heq ht hne
                  go_wp2_with fail
                  go_region_with (go_at_call 17; refine (Hr.out _).mono ?_; rintro e w4 ⟨rfl, hb4⟩; have hb5 := hbr2.drew.trans (hb4.mono hbr2.size))
                  all_goals
                    go_wp2_with fail
                    go_ret
                    exact ⟨rfl, hb5⟩
        · by_cases c3 : 224 ≤ s[A].toNat
          · have d240 : decide ((240 : Int) ≤ (s[A].toNat : Int)) = false := decide_eq_false (by omega)
            have f240 : decide (240 ≤ s[A].toNat) = false := decide_eq_false (by omega)
            have d224 : decide ((224 : Int) ≤ (s[A].toNat : Int)) = true := decide_eq_true (by omega)
            have f224 : decide (224 ≤ s[A].toNat) = true := decide_eq_true (by omega)
            have hsz : Utf.sizeOf s[A].toNat = 3 := by unfold Utf.sizeOf; rw [if_neg (by omega), if_pos (by omega)]
            have hld : Utf.leadOf s[A].toNat = s[A].toNat - 224 := by unfold Utf.leadOf; rw [if_neg (by omega), if_pos (by omega)]
            obtain ⟨L, hL⟩ : ∃ L : Nat, L = s[A].toNat - 224 := ⟨_, rfl⟩
            have hwl : IntKind.i64.wrap ((s[A].toNat : Int) - 224) = (L : Int) := by rw [IntWalk.i64_in _ (by have := s[A].toNat_lt; omega)]; omega
            have hL2 : L ≤ 255 := by have := s[A].toNat_lt; omega
            have htold := round_told s A 3 G hlt hgA.out hsz
            rw [hld, ← hL] at htold
            have Htold := Lib.hid htold
            clear htold hsz hld hL c4 c3
            have hw1 : IntKind.i64.wrap ((A : Int) + 3) = (A : Int) + 3 := IntWalk.i64_in _ (by omega)
            by_cases hover : s.size < A + 3
            · obtain rfl : G = false := Htold.out.1 hover
              have ho1 : decide ((s.size : Int) < (A : Int) + 3) = true := decide_eq_true (by omega)
              have ho2 : decide (s.size < A + 3) = true := decide_eq_true hover
              clear hover
              go_wp2_with fail
              go_ret
              exact ⟨rfl, hbr⟩
            · have hin : A + 3 ≤ s.size := by omega
              have ho1 : decide ((s.size : Int) < (A : Int) + 3) = false := decide_eq_false (by omega)
              have ho2 : decide (s.size < A + 3) = false := decide_eq_false hover
              obtain ⟨N, hN⟩ : ∃ N, Utf.foldN (L : Int) ((s.data.toList.drop (A + 1)).take (3 - 1)) = N := ⟨_, rfl⟩
              have Hend := Lib.hid (Htold.out.2 hin N hN)
              have HN := Lib.hid hN
              have Hin := Lib.hid hin
              clear Htold hN hover hin
              go_wp2_with fail
              go_loopw [8, 9] (fun x i wr => ∃ (k : Nat) (n : Int), 1 ≤ k ∧ k ≤ 3 ∧ i = .int .i64 k ∧ x = .int .i64 n ∧ Hid (nearN k n) ∧ Hid (Utf.foldN n ((s.data.toList.drop (A + k)).take (3 - k)) = N) ∧ Below w.heap.size w wr) (fun _ i _ => 3 - (intOf i).toNat)
              case atStart => exact ⟨1, L, by omega, by omega, rfl, rfl, Lib.hid (by have := s[A].toNat_lt; unfold nearN; omega), HN, hbr⟩
              case round =>
                obtain ⟨k, n, hk0, hk, rfl, rfl, hnear, hfold, hbr2⟩ := hrel
                by_cases hkm : k < 3
                · have hkmb : (k : Int) < 3 := by omega
                  have hAk : A + k < s.size := by have := Hin.out; omega
                  have hlt1 : (A : Int) + (k : Int) < (s.size : Int) := by omega
                  have hlt0 : (0 : Int) ≤ (A : Int) + (k : Int) := by omega
                  have hw2 : IntKind.i64.wrap ((A : Int) + (k : Int)) = (A : Int) + (k : Int) := IntWalk.i64_in _ (by omega)
                  have hnat : ((A : Int) + (k : Int)).toNat = A + k := by omega
                  have hc : s[A + k].toNat < 256 := s[A + k].toNat_lt
                  have hw9 : IntKind.i64.wrap (s[A + k].toNat : Int) = (s[A + k].toNat : Int) := IntWalk.i64_in _ (by omega)
                  have hn0 : -27000000 ≤ n ∧ n ≤ 27000000 := by have := hnear.out; unfold nearN at this; omega
                  have hq1 : IntKind.i64.wrap (64 * n) = 64 * n := IntWalk.i64_in _ (by omega)
                  have hq2 : IntKind.i64.wrap (64 * n + (s[A + k].toNat : Int)) = 64 * n + (s[A + k].toNat : Int) := IntWalk.i64_in _ (by omega)
                  have hq3 : IntKind.i64.wrap (64 * n + (s[A + k].toNat : Int) - 128) = 64 * n + (s[A + k].toNat : Int) - 128 := IntWalk.i64_in _ (by omega)
                  have Hn2 : Hid (nearN (k + 1) (64 * n + (s[A + k].toNat : Int) - 128)) := Lib.hid (by have := hnear.out; unfold nearN at this ⊢; omega)
                  have Hf2 : Hid (Utf.foldN (64 * n + (s[A + k].toNat : Int) - 128) ((s.data.toList.drop (A + (k + 1))).take (3 - (k + 1))) = N) := Lib.hid (by rw [← hfold.out, drop_byte s (A + k) hAk, show 3 - k = (3 - (k + 1)) + 1 by omega, List.take_succ_cons]; rfl)
                  clear hn0 hc
                  go_wp2_with fail
                  go_roundw
                  case rel => exact ⟨k + 1, _, by omega, by omega, by go_num, rfl, Hn2, Hf2, hbr2⟩
                  case measure => simp [intOf]; omega
                · obtain rfl : k = 3 := by omega
                  obtain rfl : n = N := by have := hfold.out; simpa [Utf.foldN] using this
                  have h0 : (0 : Int) ≤ (A : Int) := by omega
                  have h1 : (A : Int) ≤ (A : Int) + 3 := by omega
                  have h2 : (A : Int) + 3 ≤ (s.size : Int) := by have := Hin.out; omega
                  have h3 : ((A : Int) + 3).toNat = A + 3 := by omega
                  clear hk0 hk hkm hfold hnear HN
                  by_cases heq : Utf.rune n = (s.data.toList.drop A).take 3
                  · have Hr := Lib.hid (rune_as n _ ((rune_part s A 3 n).2 heq))
                    have Hg2 := Lib.hid (Hend.out.1 heq)
                    clear heq
                    go_wp2_with fail
                    go_region_with (go_at_call 17; refine (Hr.out _).mono ?_; rintro e w4 ⟨rfl, hb4⟩; have hb5 := hbr2.drew.trans (hb4.mono hbr2.size))
                    all_goals
                      go_wp2_with fail
                      go_roundw
                      case rel => exact ⟨A + 3, by omega, by go_num, Hg2, hb5⟩
                      case measure => simp [intOf]; omega
                  · obtain rfl : G = false := Hend.out.2 heq
                    obtain ⟨t, ht⟩ : ∃ t, runeS n = t := ⟨_, rfl⟩
                    have hne : t ≠ s.extract A (A + 3) := fun e => heq ((rune_part s A 3 n).1 (ht.trans e))
                    have Hr := Lib.hid (rune_as n t ht)
                    have hn1 : (t.toList == (s.extract A (A + 3)).toList) = false := bytes_ne hne
                    clear heq ht hne
                    go_wp2_with fail
                    go_region_with (go_at_call 17; refine (Hr.out _).mono ?_; rintro e w4 ⟨rfl, hb4⟩; have hb5 := hbr2.drew.trans (hb4.mono hbr2.size))
                    all_goals
                      go_wp2_with fail
                      go_ret
                      exact ⟨rfl, hb5⟩
          · by_cases c2 : 192 ≤ s[A].toNat
            · have d240 : decide ((240 : Int) ≤ (s[A].toNat : Int)) = false := decide_eq_false (by omega)
              have f240 : decide (240 ≤ s[A].toNat) = false := decide_eq_false (by omega)
              have d224 : decide ((224 : Int) ≤ (s[A].toNat : Int)) = false := decide_eq_false (by omega)
              have f224 : decide (224 ≤ s[A].toNat) = false := decide_eq_false (by omega)
              have d192 : decide ((192 : Int) ≤ (s[A].toNat : Int)) = true := decide_eq_true (by omega)
              have f192 : decide (192 ≤ s[A].toNat) = true := decide_eq_true (by omega)
              have hsz : Utf.sizeOf s[A].toNat = 2 := by unfold Utf.sizeOf; rw [if_neg (by omega), if_neg (by omega), if_pos (by omega)]
              have hld : Utf.leadOf s[A].toNat = s[A].toNat - 192 := by unfold Utf.leadOf; rw [if_neg (by omega), if_neg (by omega), if_pos (by omega)]
              obtain ⟨L, hL⟩ : ∃ L : Nat, L = s[A].toNat - 192 := ⟨_, rfl⟩
              have hwl : IntKind.i64.wrap ((s[A].toNat : Int) - 192) = (L : Int) := by rw [IntWalk.i64_in _ (by have := s[A].toNat_lt; omega)]; omega
              have hL2 : L ≤ 255 := by have := s[A].toNat_lt; omega
              have htold := round_told s A 2 G hlt hgA.out hsz
              rw [hld, ← hL] at htold
              have Htold := Lib.hid htold
              clear htold hsz hld hL c4 c3 c2
              have hw1 : IntKind.i64.wrap ((A : Int) + 2) = (A : Int) + 2 := IntWalk.i64_in _ (by omega)
              by_cases hover : s.size < A + 2
              · obtain rfl : G = false := Htold.out.1 hover
                have ho1 : decide ((s.size : Int) < (A : Int) + 2) = true := decide_eq_true (by omega)
                have ho2 : decide (s.size < A + 2) = true := decide_eq_true hover
                clear hover
                go_wp2_with fail
                go_ret
                exact ⟨rfl, hbr⟩
              · have hin : A + 2 ≤ s.size := by omega
                have ho1 : decide ((s.size : Int) < (A : Int) + 2) = false := decide_eq_false (by omega)
                have ho2 : decide (s.size < A + 2) = false := decide_eq_false hover
                obtain ⟨N, hN⟩ : ∃ N, Utf.foldN (L : Int) ((s.data.toList.drop (A + 1)).take (2 - 1)) = N := ⟨_, rfl⟩
                have Hend := Lib.hid (Htold.out.2 hin N hN)
                have HN := Lib.hid hN
                have Hin := Lib.hid hin
                clear Htold hN hover hin
                go_wp2_with fail
                go_loopw [8, 9] (fun x i wr => ∃ (k : Nat) (n : Int), 1 ≤ k ∧ k ≤ 2 ∧ i = .int .i64 k ∧ x = .int .i64 n ∧ Hid (nearN k n) ∧ Hid (Utf.foldN n ((s.data.toList.drop (A + k)).take (2 - k)) = N) ∧ Below w.heap.size w wr) (fun _ i _ => 2 - (intOf i).toNat)
                case atStart => exact ⟨1, L, by omega, by omega, rfl, rfl, Lib.hid (by have := s[A].toNat_lt; unfold nearN; omega), HN, hbr⟩
                case round =>
                  obtain ⟨k, n, hk0, hk, rfl, rfl, hnear, hfold, hbr2⟩ := hrel
                  by_cases hkm : k < 2
                  · have hkmb : (k : Int) < 2 := by omega
                    have hAk : A + k < s.size := by have := Hin.out; omega
                    have hlt1 : (A : Int) + (k : Int) < (s.size : Int) := by omega
                    have hlt0 : (0 : Int) ≤ (A : Int) + (k : Int) := by omega
                    have hw2 : IntKind.i64.wrap ((A : Int) + (k : Int)) = (A : Int) + (k : Int) := IntWalk.i64_in _ (by omega)
                    have hnat : ((A : Int) + (k : Int)).toNat = A + k := by omega
                    have hc : s[A + k].toNat < 256 := s[A + k].toNat_lt
                    have hw9 : IntKind.i64.wrap (s[A + k].toNat : Int) = (s[A + k].toNat : Int) := IntWalk.i64_in _ (by omega)
                    have hn0 : -27000000 ≤ n ∧ n ≤ 27000000 := by have := hnear.out; unfold nearN at this; omega
                    have hq1 : IntKind.i64.wrap (64 * n) = 64 * n := IntWalk.i64_in _ (by omega)
                    have hq2 : IntKind.i64.wrap (64 * n + (s[A + k].toNat : Int)) = 64 * n + (s[A + k].toNat : Int) := IntWalk.i64_in _ (by omega)
                    have hq3 : IntKind.i64.wrap (64 * n + (s[A + k].toNat : Int) - 128) = 64 * n + (s[A + k].toNat : Int) - 128 := IntWalk.i64_in _ (by omega)
                    have Hn2 : Hid (nearN (k + 1) (64 * n + (s[A + k].toNat : Int) - 128)) := Lib.hid (by have := hnear.out; unfold nearN at this ⊢; omega)
                    have Hf2 : Hid (Utf.foldN (64 * n + (s[A + k].toNat : Int) - 128) ((s.data.toList.drop (A + (k + 1))).take (2 - (k + 1))) = N) := Lib.hid (by rw [← hfold.out, drop_byte s (A + k) hAk, show 2 - k = (2 - (k + 1)) + 1 by omega, List.take_succ_cons]; rfl)
                    clear hn0 hc
                    go_wp2_with fail
                    go_roundw
                    case rel => exact ⟨k + 1, _, by omega, by omega, by go_num, rfl, Hn2, Hf2, hbr2⟩
                    case measure => simp [intOf]; omega
                  · obtain rfl : k = 2 := by omega
                    obtain rfl : n = N := by have := hfold.out; simpa [Utf.foldN] using this
                    have h0 : (0 : Int) ≤ (A : Int) := by omega
                    have h1 : (A : Int) ≤ (A : Int) + 2 := by omega
                    have h2 : (A : Int) + 2 ≤ (s.size : Int) := by have := Hin.out; omega
                    have h3 : ((A : Int) + 2).toNat = A + 2 := by omega
                    clear hk0 hk hkm hfold hnear HN
                    by_cases heq : Utf.rune n = (s.data.toList.drop A).take 2
                    · have Hr := Lib.hid (rune_as n _ ((rune_part s A 2 n).2 heq))
                      have Hg2 := Lib.hid (Hend.out.1 heq)
                      clear heq
                      go_wp2_with fail
                      go_region_with (go_at_call 17; refine (Hr.out _).mono ?_; rintro e w4 ⟨rfl, hb4⟩; have hb5 := hbr2.drew.trans (hb4.mono hbr2.size))
                      all_goals
                        go_wp2_with fail
                        go_roundw
                        case rel => exact ⟨A + 2, by omega, by go_num, Hg2, hb5⟩
                        case measure => simp [intOf]; omega
                    · obtain rfl : G = false := Hend.out.2 heq
                      obtain ⟨t, ht⟩ : ∃ t, runeS n = t := ⟨_, rfl⟩
                      have hne : t ≠ s.extract A (A + 2) := fun e => heq ((rune_part s A 2 n).1 (ht.trans e))
                      have Hr := Lib.hid (rune_as n t ht)
                      have hn1 : (t.toList == (s.extract A (A + 2)).toList) = false := bytes_ne hne
                      clear heq ht hne
                      go_wp2_with fail
                      go_region_with (go_at_call 17; refine (Hr.out _).mono ?_; rintro e w4 ⟨rfl, hb4⟩; have hb5 := hbr2.drew.trans (hb4.mono hbr2.size))
                      all_goals
                        go_wp2_with fail
                        go_ret
                        exact ⟨rfl, hb5⟩
            · have d240 : decide ((240 : Int) ≤ (s[A].toNat : Int)) = false := decide_eq_false (by omega)
              have f240 : decide (240 ≤ s[A].toNat) = false := decide_eq_false (by omega)
              have d224 : decide ((224 : Int) ≤ (s[A].toNat : Int)) = false := decide_eq_false (by omega)
              have f224 : decide (224 ≤ s[A].toNat) = false := decide_eq_false (by omega)
              have d192 : decide ((192 : Int) ≤ (s[A].toNat : Int)) = false := decide_eq_false (by omega)
              have f192 : decide (192 ≤ s[A].toNat) = false := decide_eq_false (by omega)
              have hsz : Utf.sizeOf s[A].toNat = 1 := by unfold Utf.sizeOf; rw [if_neg (by omega), if_neg (by omega), if_neg (by omega)]
              have hld : Utf.leadOf s[A].toNat = s[A].toNat := by unfold Utf.leadOf; rw [if_neg (by omega), if_neg (by omega), if_neg (by omega)]
              have htold := round_told s A 1 G hlt hgA.out hsz
              rw [hld] at htold
              have Htold := Lib.hid htold
              clear htold hsz hld c4 c3 c2
              have hw1 : IntKind.i64.wrap ((A : Int) + 1) = (A : Int) + 1 := IntWalk.i64_in _ (by omega)
              by_cases hover : s.size < A + 1
              · omega
              · have hin : A + 1 ≤ s.size := by omega
                have ho1 : decide ((s.size : Int) < (A : Int) + 1) = false := decide_eq_false (by omega)
                have ho2 : decide (s.size < A + 1) = false := decide_eq_false hover
                obtain ⟨N, hN⟩ : ∃ N, Utf.foldN ((s[A]'hlt).toNat : Int) ((s.data.toList.drop (A + 1)).take (1 - 1)) = N := ⟨_, rfl⟩
                have Hend := Lib.hid (Htold.out.2 hin N hN)
                have HN := Lib.hid hN
                have Hin := Lib.hid hin
                clear Htold hN hover hin
                go_wp2_with fail
                go_loopw [8, 9] (fun x i wr => ∃ (k : Nat) (n : Int), 1 ≤ k ∧ k ≤ 1 ∧ i = .int .i64 k ∧ x = .int .i64 n ∧ Hid (nearN k n) ∧ Hid (Utf.foldN n ((s.data.toList.drop (A + k)).take (1 - k)) = N) ∧ Below w.heap.size w wr) (fun _ i _ => 1 - (intOf i).toNat)
                case atStart => exact ⟨1, (s[A]'hlt).toNat, by omega, by omega, rfl, rfl, Lib.hid (by have := s[A].toNat_lt; unfold nearN; omega), HN, hbr⟩
                case round =>
                  obtain ⟨k, n, hk0, hk, rfl, rfl, hnear, hfold, hbr2⟩ := hrel
                  by_cases hkm : k < 1
                  · omega
                  · obtain rfl : k = 1 := by omega
                    obtain rfl : n = N := by have := hfold.out; simpa [Utf.foldN] using this
                    have h0 : (0 : Int) ≤ (A : Int) := by omega
                    have h1 : (A : Int) ≤ (A : Int) + 1 := by omega
                    have h2 : (A : Int) + 1 ≤ (s.size : Int) := by have := Hin.out; omega
                    have h3 : ((A : Int) + 1).toNat = A + 1 := by omega
                    clear hk0 hk hkm hfold hnear HN
                    by_cases heq : Utf.rune n = (s.data.toList.drop A).take 1
                    · have Hr := Lib.hid (rune_as n _ ((rune_part s A 1 n).2 heq))
                      have Hg2 := Lib.hid (Hend.out.1 heq)
                      clear heq
                      go_wp2_with fail
                      go_region_with (go_at_call 17; refine (Hr.out _).mono ?_; rintro e w4 ⟨rfl, hb4⟩; have hb5 := hbr2.drew.trans (hb4.mono hbr2.size))
                      all_goals
                        go_wp2_with fail
                        go_roundw
                        case rel => exact ⟨A + 1, by omega, by go_num, Hg2, hb5⟩
                        case measure => simp [intOf]; omega
                    · obtain rfl : G = false := Hend.out.2 heq
                      obtain ⟨t, ht⟩ : ∃ t, runeS n = t := ⟨_, rfl⟩
                      have hne : t ≠ s.extract A (A + 1) := fun e => heq ((rune_part s A 1 n).1 (ht.trans e))
                      have Hr := Lib.hid (rune_as n t ht)
                      have hn1 : (t.toList == (s.extract A (A + 1)).toList) = false := bytes_ne hne
                      clear heq ht hne
                      go_wp2_with fail
                      go_region_with (go_at_call 17; refine (Hr.out _).mono ?_; rintro e w4 ⟨rfl, hb4⟩; have hb5 := hbr2.drew.trans (hb4.mono hbr2.size))
                      all_goals
                        go_wp2_with fail
                        go_ret
                        exact ⟨rfl, hb5⟩
      · have hge : (s.size : Int) ≤ (A : Int) := by omega
        have hend : decide (A < s.size) = false := decide_eq_false hlt
        have hGt : G = true := by
          have := hgA.out
          rw [drop_end s A (by omega)] at this
          rw [← this]; rfl
        subst hGt
        go_wp2_with fail
        go_ret
        exact ⟨rfl, hbr⟩

/-! ### THE ROW's STEP: WRITTEN OUT: LEAVE IT -/
set_option maxRecDepth 100000 in
theorem lifted (os : Os) (started : os.Started) (H : Type) (enc : TypeId × Value → H) :
    ReturnsInHanded {} Try.checked os 3 .any (Rows.fnUtfRunesSpec.pre6 enc Try.prog Try.f3 Rows.fnUtfRunesRow.domain false) (Rows.fnUtfRunesSpec.post enc Try.prog Try.f3 false true false false) := by
  refine returnsInHanded_of_change (C := Try.checked) own started (by kernel_rfl) Try.func3
    (ChangeSpec.witness6 (enc := enc) (C := Try.checked) false ⟨#[], #[.slice none 0 0], []⟩ 8 (by kernel_rfl) (by kernel_rfl) (by kernel_rfl) (by kernel_rfl)) ?_
  intro W base args ds gs before hval0 hW hcnd _
  have hval : ∀ (j : Nat) t v, Try.f3.params[j]? = some t → args[j]? = some v → Value.okWide Try.prog W .any base t v := hval0
  have hW' := hW
  obtain ⟨p, q, hA0, hV, rfl, hfz, hnd⟩ := hW
  have hA : DataW.TrodAll enc Try.prog W 0 (fun _ => true) true Try.f3.params.toList args.toList ds p := hA0
  rw [Try.params3] at hA hval
  obtain ⟨v0, vs0, d0, ds0, p0, q0, hargs, rfl, rfl, h0, r0⟩ := trodAll_cons hA
  obtain ⟨rfl, rfl, rfl⟩ := trodAll_nil r0
  obtain rfl : args = #[v0] := by cases args; simp_all
  obtain ⟨rfl, rfl⟩ := trodVars_none hV
  obtain ⟨a0, len0, cap0, rfl⟩ := okWide_slice Try.underlying22 (hval 0 22 v0 rfl rfl)
  have k0 := h0
  have lt0 : ∀ x ∈ p0, x.block < W.heap.size := by obtain ⟨m, hm⟩ := k0; exact DataW.trod_lt m _ _ _ hm
  obtain ⟨z0, w0⟩ : ∃ zs, IsRow .u8 W a0 len0 cap0 zs := by
    obtain ⟨fuel, hf⟩ := h0
    rcases open_ints Try.underlying22 Try.underlying5 (by kernel_rfl) hf with ⟨hcs, _⟩ | ⟨x, l, c, zs, hcs, _, hl, hm, hz, _, hcell, hwz⟩
    · simp [Value.cells] at hcs
      obtain ⟨rfl, rfl, rfl⟩ := hcs
      exact ⟨[], .inl ⟨rfl, rfl, rfl, rfl⟩⟩
    · simp [Value.cells] at hcs
      obtain ⟨rfl, rfl, rfl⟩ := hcs
      exact ⟨zs, .inr ⟨_, rfl, hl, hm, by simpa using hz, hcell, hwz⟩⟩
  clear hA0 hval0
  refine (walk a0 len0 cap0 z0 W w0).mono fun e W' ⟨he, bel⟩ => ?_
  subst he
  exact ⟨_, rfl, _, _, _, [], _, [], hW', trodAll_mk1 (shut_bool Try.underlying4 _), (trodAll_cons_mk (Below.trod laidOut (by kernel_rfl) (of_decide_eq_true (by kernel_rfl)) k0 bel lt0) trodAll_mk0), rfl, bel.frame _, fun h => by cases h⟩

theorem over : Rows.fnUtfRunesRow.holds Try.pinned (OpenSpec.ofChange Rows.fnUtfRunesSpec) :=
  OpenClaim.holds_of_wide 3 Try.f3 rfl rfl rfl rfl rfl rfl rfl ⟨rfl, rfl, rfl, rfl, rfl⟩ rfl rfl rfl rfl rfl (by kernel_rfl) Try.func3 (by kernel_rfl)
    (of_decide_eq_true (by kernel_rfl)) (by unfold Func.isWrapper; first | (rw [if_pos (by decide +kernel)]; kernel_rfl) | (rw [if_neg (by decide +kernel)]; exact ⟨rfl, rfl⟩))
    (fun os started H enc _ => lifted os started H enc)

/-- ████ THE STATEMENT ████ -/
theorem proved : Rows.FnUtfRunesSaid := over
end Go.Proofs.Ytoohcepobbbejaa.fnUtfRunes
