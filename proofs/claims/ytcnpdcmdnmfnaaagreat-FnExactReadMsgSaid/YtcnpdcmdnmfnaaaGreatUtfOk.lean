/-
  The walk of the reference's UtfOk: whether a state of the validator is right; only new memory is written.
-/
import Derived.Test.YtcnpdcmdnmfnaaaGreatIn
import Derived.Test.YtcnpdcmdnmfnaaaGreatUtfMath
import Derived.Lib.Hide
import Derived.WalkLawsBesides
import Derived.WalkSpells
import Derived.Deep.QuietTactic
import Derived.BigQuiet
namespace Go.Proofs.YtcnpdcmdnmfnaaaGreat.Num
open Go.RowKit Go.Proofs
set_option linter.unusedVariables false

def utV (u : Utf.St) : Value := .agg #[.int .i64 u.1, .int .i64 u.2.1, .int .i64 u.2.2]
theorem neB {x c : Int} (h : x ≠ c) : (x == c) = false := by rw [beq_eq_false_iff_ne]; exact h
theorem specInYes (x lo hi : Int) (w : World) (h : lo ≤ x ∧ x ≤ hi) : Calls Tryz.prog 35 #[.int .i64 x, .int .i64 lo, .int .i64 hi] w fun e w' => e = .returned (.bool true) ∧ w = w' :=
  (specIn_any x lo hi w).mono fun e w' ⟨he, hw⟩ => ⟨by rw [he, decide_eq_true h], hw⟩
theorem specInNo (x lo hi : Int) (w : World) (h : ¬ (lo ≤ x ∧ x ≤ hi)) : Calls Tryz.prog 35 #[.int .i64 x, .int .i64 lo, .int .i64 hi] w fun e w' => e = .returned (.bool false) ∧ w = w' :=
  (specIn_any x lo hi w).mono fun e w' ⟨he, hw⟩ => ⟨by rw [he, decide_eq_false h], hw⟩
set_option maxHeartbeats 1000000 in
theorem specUtfOk_any (W L H : Int) (w : World) :
    Calls Tryz.prog 157 #[utV (W, L, H)] w fun e w' => e = .returned (.bool (decide (Utf.Ok (W, L, H)))) ∧ Below w.heap.size w w' := by
  obtain ⟨R, hR⟩ : ∃ R, decide (Utf.Ok (W, L, H)) = R := ⟨_, rfl⟩
  rw [hR]
  unfold utV
  simp only
  have tell : (Utf.Ok (W, L, H) → R = true) ∧ (¬ Utf.Ok (W, L, H) → R = false) := ⟨fun h => by rw [← hR, decide_eq_true h], fun h => by rw [← hR, decide_eq_false h]⟩
  unfold Utf.Ok at tell
  simp only at tell
  clear hR
  by_cases h2 : W = 2
  · subst h2
    by_cases hL : L = 128
    · subst hL
      by_cases hH : H = 191
      · subst hH
        obtain rfl : R = true := tell.1 (by omega)
        clear tell
        go_enter Tryz.func157, Tryz.ntmps157
        go_wp2_with fail
        refine (specInYes 2 1 3 _ (by decide)).mono ?_
        rintro e w1 ⟨rfl, rfl⟩
        go_wp2_with fail
        go_ret
        exact ⟨rfl, (Below.refl _ _).alloc (Nat.le_refl _) _⟩
      · by_cases hH2 : H = 159
        · subst hH2
          obtain rfl : R = true := tell.1 (by omega)
          clear tell
          go_enter Tryz.func157, Tryz.ntmps157
          go_wp2_with fail
          go_ret
          exact ⟨rfl, (Below.refl _ _).alloc (Nat.le_refl _) _⟩
        · obtain rfl : R = false := tell.2 (by omega)
          clear tell
          have b1 := neB hH
          have b2 := neB hH2
          clear hH hH2
          go_enter Tryz.func157, Tryz.ntmps157
          go_wp2_with fail
          go_ret
          exact ⟨rfl, (Below.refl _ _).alloc (Nat.le_refl _) _⟩
    · by_cases hL2 : L = 160
      · subst hL2
        by_cases hH : H = 191
        · subst hH
          obtain rfl : R = true := tell.1 (by omega)
          clear tell
          go_enter Tryz.func157, Tryz.ntmps157
          go_wp2_with fail
          go_ret
          exact ⟨rfl, (Below.refl _ _).alloc (Nat.le_refl _) _⟩
        · obtain rfl : R = false := tell.2 (by omega)
          clear tell
          have b1 := neB hH
          clear hH hL
          go_enter Tryz.func157, Tryz.ntmps157
          go_wp2_with fail
          go_ret
          exact ⟨rfl, (Below.refl _ _).alloc (Nat.le_refl _) _⟩
      · obtain rfl : R = false := tell.2 (by omega)
        clear tell
        have b1 := neB hL
        have b2 := neB hL2
        clear hL hL2
        go_enter Tryz.func157, Tryz.ntmps157
        go_wp2_with fail
        go_ret
        exact ⟨rfl, (Below.refl _ _).alloc (Nat.le_refl _) _⟩
  · by_cases h3 : W = 3
    · subst h3
      by_cases hL : L = 128
      · subst hL
        by_cases hH : H = 191
        · subst hH
          obtain rfl : R = true := tell.1 (by omega)
          clear tell
          go_enter Tryz.func157, Tryz.ntmps157
          go_wp2_with fail
          refine (specInYes 3 1 3 _ (by decide)).mono ?_
          rintro e w1 ⟨rfl, rfl⟩
          go_wp2_with fail
          go_ret
          exact ⟨rfl, (Below.refl _ _).alloc (Nat.le_refl _) _⟩
        · by_cases hH2 : H = 143
          · subst hH2
            obtain rfl : R = true := tell.1 (by omega)
            clear tell
            go_enter Tryz.func157, Tryz.ntmps157
            go_wp2_with fail
            go_ret
            exact ⟨rfl, (Below.refl _ _).alloc (Nat.le_refl _) _⟩
          · obtain rfl : R = false := tell.2 (by omega)
            clear tell
            have b1 := neB hH
            have b2 := neB hH2
            clear hH hH2
            go_enter Tryz.func157, Tryz.ntmps157
            go_wp2_with fail
            go_ret
            exact ⟨rfl, (Below.refl _ _).alloc (Nat.le_refl _) _⟩
      · by_cases hL2 : L = 144
        · subst hL2
          by_cases hH : H = 191
          · subst hH
            obtain rfl : R = true := tell.1 (by omega)
            clear tell
            go_enter Tryz.func157, Tryz.ntmps157
            go_wp2_with fail
            go_ret
            exact ⟨rfl, (Below.refl _ _).alloc (Nat.le_refl _) _⟩
          · obtain rfl : R = false := tell.2 (by omega)
            clear tell
            have b1 := neB hH
            clear hH hL
            go_enter Tryz.func157, Tryz.ntmps157
            go_wp2_with fail
            go_ret
            exact ⟨rfl, (Below.refl _ _).alloc (Nat.le_refl _) _⟩
        · obtain rfl : R = false := tell.2 (by omega)
          clear tell
          have b1 := neB hL
          have b2 := neB hL2
          clear hL hL2
          go_enter Tryz.func157, Tryz.ntmps157
          go_wp2_with fail
          go_ret
          exact ⟨rfl, (Below.refl _ _).alloc (Nat.le_refl _) _⟩
    · by_cases hL : L = 128
      · subst hL
        by_cases hH : H = 191
        · subst hH
          by_cases hin : 1 ≤ W ∧ W ≤ 3
          · obtain rfl : R = true := tell.1 (by omega)
            clear tell
            have Hin := Lib.hid hin; clear hin
            go_enter Tryz.func157, Tryz.ntmps157
            go_wp2_with fail
            refine (specInYes W 1 3 _ Hin.out).mono ?_
            rintro e w1 ⟨rfl, rfl⟩
            go_wp2_with fail
            go_ret
            exact ⟨rfl, (Below.refl _ _).alloc (Nat.le_refl _) _⟩
          · obtain rfl : R = false := tell.2 (by omega)
            clear tell
            have Hin := Lib.hid hin; clear hin
            go_enter Tryz.func157, Tryz.ntmps157
            go_wp2_with fail
            refine (specInNo W 1 3 _ Hin.out).mono ?_
            rintro e w1 ⟨rfl, rfl⟩
            go_wp2_with fail
            go_ret
            exact ⟨rfl, (Below.refl _ _).alloc (Nat.le_refl _) _⟩
        · obtain rfl : R = false := tell.2 (by omega)
          clear tell
          have b2 := neB h2
          have b3 := neB h3
          clear h2 h3
          have b1 := neB hH
          clear hH
          go_enter Tryz.func157, Tryz.ntmps157
          go_wp2_with fail
          go_ret
          exact ⟨rfl, (Below.refl _ _).alloc (Nat.le_refl _) _⟩
      · by_cases h0 : W = 0
        · subst h0
          by_cases hL0 : L = 0
          · subst hL0
            by_cases hH0 : H = 0
            · subst hH0
              obtain rfl : R = true := tell.1 (by omega)
              clear tell
              go_enter Tryz.func157, Tryz.ntmps157
              go_wp2_with fail
              go_ret
              exact ⟨rfl, (Below.refl _ _).alloc (Nat.le_refl _) _⟩
            · obtain rfl : R = false := tell.2 (by omega)
              clear tell
              have b1 := neB hH0
              clear hH0
              go_enter Tryz.func157, Tryz.ntmps157
              go_wp2_with fail
              go_ret
              exact ⟨rfl, (Below.refl _ _).alloc (Nat.le_refl _) _⟩
          · obtain rfl : R = false := tell.2 (by omega)
            clear tell
            have b1 := neB hL
            have b2 := neB hL0
            clear hL hL0
            go_enter Tryz.func157, Tryz.ntmps157
            go_wp2_with fail
            go_ret
            exact ⟨rfl, (Below.refl _ _).alloc (Nat.le_refl _) _⟩
        · obtain rfl : R = false := tell.2 (by omega)
          clear tell
          have b2 := neB h2
          have b3 := neB h3
          clear h2 h3
          have b1 := neB hL
          have b0 := neB h0
          clear hL h0
          go_enter Tryz.func157, Tryz.ntmps157
          go_wp2_with fail
          go_ret
          exact ⟨rfl, (Below.refl _ _).alloc (Nat.le_refl _) _⟩
end Go.Proofs.YtcnpdcmdnmfnaaaGreat.Num
