/-
  The walk of the reference's GetFix: it gives the value of the little-endian bytes; nothing is written (split off GetFix).
-/
import Derived.Test.YtcnpdcmdnmfnaaaGreatFixMath
import Derived.Test.YtcnpdcmdnmfnaaaGreatVarGet
namespace Go.Proofs.YtcnpdcmdnmfnaaaGreat.Num
open Go.RowKit Go.Proofs
set_option linter.unusedVariables false

/-- The number read, and whether one is. -/
def getFixR (s : ByteArray) (a n : Int) : Nat × Bool := if (n = 4 ∨ n = 8) ∧ 0 ≤ a ∧ a ≤ s.size - n then (Fix.le ((s.data.toList.drop a.toNat).take n.toNat), true) else (0, false)
theorem getFix_yes {s : ByteArray} {a n : Int} (h : (n = 4 ∨ n = 8) ∧ 0 ≤ a ∧ a ≤ s.size - n) : getFixR s a n = (Fix.le ((s.data.toList.drop a.toNat).take n.toNat), true) := by unfold getFixR; rw [if_pos h]
theorem getFix_no {s : ByteArray} {a n : Int} (h : ¬ ((n = 4 ∨ n = 8) ∧ 0 ≤ a ∧ a ≤ s.size - n)) : getFixR s a n = (0, false) := by unfold getFixR; rw [if_neg h]
theorem specGetFix_in (s : ByteArray) (A N : Nat) (w : World) (hs : s.size ≤ 281474976710656) (hN : N = 4 ∨ N = 8) (hA : A + N ≤ s.size) :
    Calls Tryz.prog 128 #[.string s, .int .i64 A, .int .i64 N] w fun e w' => e = .returned (.tuple #[.int .u64 (Fix.le ((s.data.toList.drop A).take N)), .bool true]) ∧ w = w' := by
  have HN := Lib.hid hN
  have hN8 : N ≤ 8 := by omega
  have hN4 : 4 ≤ N := by omega
  have Hcase : Hid (((((N : Int) == 4) = false ∧ ((N : Int) != 4) = true) ∧ (((N : Int) == 8) = true ∧ ((N : Int) != 8) = false)) ∨ ((((N : Int) == 4) = true ∧ ((N : Int) != 4) = false))) := Lib.hid (by
    rcases hN with rfl | rfl
    · exact .inr ⟨rfl, rfl⟩
    · exact .inl ⟨⟨rfl, rfl⟩, rfl, rfl⟩)
  have hd : decide ((0 : Int) ≤ (A : Int) ∧ (A : Int) ≤ (s.size : Int) - (N : Int)) = true := decide_eq_true (by omega)
  have hd2 : decide ((A : Int) ≤ (s.size : Int) - (N : Int)) = true := decide_eq_true (by omega)
  clear hN
  rcases Hcase.out with ⟨⟨h4, h4n⟩, h8, h8n⟩ | ⟨h4, h4n⟩
  all_goals
    clear Hcase
    go_enter Tryz.func128, Tryz.ntmps128
    go_wp2_with fail
    refine (specIn_any _ _ _ _).mono ?_
    rintro e w3 ⟨rfl, rfl⟩
    go_wp2_with fail
    clear hd hd2
    go_loop [8, 9] (fun x i => ∃ (k U : Nat), k ≤ N ∧ i = .int .i64 ((k : Int) - 1) ∧ x = .int .u64 U ∧ Hid (U = Fix.le ((s.data.toList.drop (A + k)).take (N - k)))) (fun _ i => ((intOf i) + 1).toNat)
    case atStart => exact ⟨N, 0, Nat.le_refl _, rfl, rfl, Lib.hid (by rw [Nat.sub_self]; rfl)⟩
    case round =>
      obtain ⟨k, U, hk, rfl, rfl, hU⟩ := hrel
      cases k with
      | zero =>
        have hm : (((0 : Nat) : Int) - 1) = -1 := rfl
        rw [hm]
        clear hm
        go_wp2_with fail
        go_ret2
        exact ⟨by rw [hU.out]; rfl, rfl⟩
      | succ k =>
        have hm : (((k + 1 : Nat) : Int) - 1) = (k : Int) := by omega
        rw [hm]
        clear hm
        have hend : A + k < s.size := by omega
        have hc : s[A + k].toNat < 256 := s[A + k].toNat_lt
        have hlt1 : (A : Int) + (k : Int) < (s.size : Int) := by omega
        have hlt0 : (0 : Int) ≤ (A : Int) + (k : Int) := by omega
        have hw1 : IntKind.i64.wrap ((A : Int) + (k : Int)) = (A : Int) + (k : Int) := IntWalk.i64_in _ (by omega)
        have HU2 : Hid (s[A + k].toNat + 256 * U = Fix.le ((s.data.toList.drop (A + k)).take (N - k))) := Lib.hid (by rw [drop_at s (A + k) hend, show N - k = (N - (k + 1)) + 1 by omega, List.take_succ_cons, hU.out]; rfl)
        have hb : U ≤ 72057594037927935 := by
          have h1 := Fix.le_lt ((s.data.toList.drop (A + (k + 1))).take (N - (k + 1)))
          rw [← hU.out] at h1
          have h2 : ((s.data.toList.drop (A + (k + 1))).take (N - (k + 1))).length ≤ 7 := by rw [List.length_take]; omega
          have h3 := Nat.pow_le_pow_right (n := 256) (by omega) h2
          have h4 : (256 : Nat) ^ 7 = 72057594037927936 := rfl
          omega
        have hk0 : (0 : Int) ≤ (k : Int) := by omega
        go_wp2_with fail
        exact ⟨⟨k, s[A + k].toNat + 256 * U, by omega, rfl, by go_num, HU2⟩, by simp [intOf] <;> omega⟩
theorem specGetFix_out (s : ByteArray) (a n : Int) (w : World) (hs : s.size ≤ 281474976710656) (hn : -9223372036854775808 ≤ n ∧ n ≤ 9223372036854775807) (h : ¬ ((n = 4 ∨ n = 8) ∧ 0 ≤ a ∧ a ≤ s.size - n)) :
    Calls Tryz.prog 128 #[.string s, .int .i64 a, .int .i64 n] w fun e w' => e = .returned (.tuple #[.int .u64 0, .bool false]) ∧ w = w' := by
  by_cases hw : n = 4 ∨ n = 8
  · have hd : decide (0 ≤ a ∧ a ≤ (s.size : Int) - n) = false := decide_eq_false fun h2 => h ⟨hw, h2⟩
    clear h
    rcases hw with rfl | rfl
    all_goals
      go_enter Tryz.func128, Tryz.ntmps128
      go_wp2_with fail
      refine (specIn_any _ _ _ _).mono ?_
      rw [hd]
      rintro e w3 ⟨rfl, rfl⟩
      go_wp2_with fail
      go_ret2
      exact ⟨rfl, rfl⟩
  · have h4b : (n == 4) = false := by rw [beq_eq_false_iff_ne]; omega
    have h8b : (n == 8) = false := by rw [beq_eq_false_iff_ne]; omega
    have h4c : (n != 4) = true := by rw [bne, h4b]; rfl
    have h8c : (n != 8) = true := by rw [bne, h8b]; rfl
    clear h hw
    go_enter Tryz.func128, Tryz.ntmps128
    go_wp2_with fail
    go_ret2
    exact ⟨rfl, rfl⟩
theorem specGetFix_same (s : ByteArray) (a n : Int) (w : World) (hs : s.size ≤ 281474976710656) (hn : -9223372036854775808 ≤ n ∧ n ≤ 9223372036854775807) :
    Calls Tryz.prog 128 #[.string s, .int .i64 a, .int .i64 n] w fun e w' => e = .returned (.tuple #[.int .u64 (getFixR s a n).1, .bool (getFixR s a n).2]) ∧ w = w' := by
  by_cases h : (n = 4 ∨ n = 8) ∧ 0 ≤ a ∧ a ≤ s.size - n
  · rw [getFix_yes h]
    obtain ⟨N, rfl⟩ := Int.eq_ofNat_of_zero_le (show 0 ≤ n by omega)
    obtain ⟨A, rfl⟩ := Int.eq_ofNat_of_zero_le h.2.1
    rw [Int.toNat_natCast, Int.toNat_natCast]
    exact specGetFix_in s A N w hs (by omega) (by omega)
  · rw [getFix_no h]
    exact specGetFix_out s a n w hs hn h
theorem specGetFix_any (s : ByteArray) (a n : Int) (w : World) (hs : s.size ≤ 281474976710656) (hn : -9223372036854775808 ≤ n ∧ n ≤ 9223372036854775807) :
    Calls Tryz.prog 128 #[.string s, .int .i64 a, .int .i64 n] w fun e w' => e = .returned (.tuple #[.int .u64 (getFixR s a n).1, .bool (getFixR s a n).2]) ∧ Below w.heap.size w w' :=
  (specGetFix_same s a n w hs hn).mono fun _ _ ⟨h1, h2⟩ => ⟨h1, h2 ▸ Below.refl _ _⟩
end Go.Proofs.YtcnpdcmdnmfnaaaGreat.Num
