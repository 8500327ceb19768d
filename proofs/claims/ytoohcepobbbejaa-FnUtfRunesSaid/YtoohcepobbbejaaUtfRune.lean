/-
  Plain lemmas on code points and the validator: the bytes of a code point lead from the zero state back to it; cut by one they lead to the state that wants one byte; a good text begins with the bytes of a code point.
-/
import Derived.Test.YtoohcepobbbejaaUtfMath
namespace Go.Proofs.Ytoohcepobbbejaa.Utf
set_option linter.unusedVariables false

theorem first_3' {b : Int} (h : 224 ≤ b ∧ b ≤ 239) : ∃ L H : Int, first b = some (2, L, H) ∧ Ok (2, L, H) ∧ ((b = 224 ∧ L = 160 ∧ H = 191) ∨ (b = 237 ∧ L = 128 ∧ H = 159) ∨ (b ≠ 224 ∧ b ≠ 237 ∧ L = 128 ∧ H = 191)) := by
  refine ⟨_, _, first_3 h, first_ok (first_3 h), ?_⟩
  omega
theorem first_4' {b : Int} (h : 240 ≤ b ∧ b ≤ 244) : ∃ L H : Int, first b = some (3, L, H) ∧ Ok (3, L, H) ∧ ((b = 240 ∧ L = 144 ∧ H = 191) ∨ (b = 244 ∧ L = 128 ∧ H = 143) ∨ (b ≠ 240 ∧ b ≠ 244 ∧ L = 128 ∧ H = 191)) := by
  refine ⟨_, _, first_4 h, first_ok (first_4 h), ?_⟩
  omega
/-- What the validator does on a code point, byte by byte. -/
theorem run_1 {k : Nat} (h : k < 128) : run z [u8 k] = (z, none) := by
  have e0 : next z ((u8 k).toNat : Int) = some z := by rw [u8_toNat (by omega), next_z, first_1 (by omega)]
  rw [run_some e0, run_nil]; rfl
theorem run_2 {k : Nat} (h0 : 128 ≤ k) (h : k < 2048) : run z [u8 (192 + k / 64)] = ((1, 128, 191), none) ∧ run z [u8 (192 + k / 64), u8 (128 + k % 64)] = (z, none) := by
  have e0 : next z ((u8 (192 + k / 64)).toNat : Int) = some (1, 128, 191) := by rw [u8_toNat (by omega), next_z, first_2 (by omega)]
  have e1 : next (1, 128, 191) ((u8 (128 + k % 64)).toNat : Int) = some z := by rw [u8_toNat (by omega), next_1, if_pos (by omega)]
  constructor
  · rw [run_some e0, run_nil]; rfl
  · rw [run_some e0, run_some e1, run_nil]; rfl
theorem run_3 {k : Nat} (h0 : 2048 ≤ k) (h : k < 65536) (hs : ¬ (55296 ≤ k ∧ k ≤ 57343)) :
    run z [u8 (224 + k / 4096), u8 (128 + k / 64 % 64)] = ((1, 128, 191), none) ∧ run z [u8 (224 + k / 4096), u8 (128 + k / 64 % 64), u8 (128 + k % 64)] = (z, none) := by
  obtain ⟨L, H, hf, hok, hr⟩ := first_3' (b := ((224 + k / 4096 : Nat) : Int)) (by omega)
  have e0 : next z ((u8 (224 + k / 4096)).toNat : Int) = some (2, L, H) := by rw [u8_toNat (by omega), next_z, hf]
  have e1 : next (2, L, H) ((u8 (128 + k / 64 % 64)).toNat : Int) = some (1, 128, 191) := by rw [u8_toNat (by omega), next_2 _ hok, if_pos (by omega)]
  have e2 : next (1, 128, 191) ((u8 (128 + k % 64)).toNat : Int) = some z := by rw [u8_toNat (by omega), next_1, if_pos (by omega)]
  constructor
  · rw [run_some e0, run_some e1, run_nil]; rfl
  · rw [run_some e0, run_some e1, run_some e2, run_nil]; rfl
theorem run_4 {k : Nat} (h0 : 65536 ≤ k) (h : k ≤ 1114111) :
    run z [u8 (240 + k / 262144), u8 (128 + k / 4096 % 64), u8 (128 + k / 64 % 64)] = ((1, 128, 191), none) ∧ run z [u8 (240 + k / 262144), u8 (128 + k / 4096 % 64), u8 (128 + k / 64 % 64), u8 (128 + k % 64)] = (z, none) := by
  obtain ⟨L, H, hf, hok, hr⟩ := first_4' (b := ((240 + k / 262144 : Nat) : Int)) (by omega)
  have e0 : next z ((u8 (240 + k / 262144)).toNat : Int) = some (3, L, H) := by rw [u8_toNat (by omega), next_z, hf]
  have e1 : next (3, L, H) ((u8 (128 + k / 4096 % 64)).toNat : Int) = some (2, 128, 191) := by rw [u8_toNat (by omega), next_3 _ hok, if_pos (by omega)]
  have e2 : next (2, 128, 191) ((u8 (128 + k / 64 % 64)).toNat : Int) = some (1, 128, 191) := by rw [u8_toNat (by omega), next_2 _ ok_2, if_pos (by omega)]
  have e3 : next (1, 128, 191) ((u8 (128 + k % 64)).toNat : Int) = some z := by rw [u8_toNat (by omega), next_1, if_pos (by omega)]
  constructor
  · rw [run_some e0, run_some e1, run_some e2, run_nil]; rfl
  · rw [run_some e0, run_some e1, run_some e2, run_some e3, run_nil]; rfl
/-- How long a code point's bytes are. -/
def widthN (n : Int) : Nat := if n < 128 then 1 else if n < 2048 then 2 else if n < 65536 then 3 else 4
theorem rune_facts {n : Int} (h : Right n) : (rune n).length = widthN n ∧ run z (rune n) = (z, none) ∧ (2 ≤ widthN n → run z ((rune n).take (widthN n - 1)) = ((1, 128, 191), none)) := by
  rcases rune_cases n with ⟨h', _⟩ | ⟨k, rfl, _, hc⟩
  · exact absurd h h'
  · unfold widthN
    rcases hc with hc | ⟨h0, h1⟩ | ⟨h0, h1, h2⟩ | ⟨h0, h1⟩
    · rw [if_pos (by omega), rune_1 hc]
      exact ⟨rfl, run_1 hc, fun h => absurd h (by decide)⟩
    · rw [if_neg (by omega), if_pos (by omega), rune_2 h0 h1]
      exact ⟨rfl, (run_2 h0 h1).2, fun _ => (run_2 h0 h1).1⟩
    · rw [if_neg (by omega), if_neg (by omega), if_pos (by omega), rune_3 h0 h1 h2]
      exact ⟨rfl, (run_3 h0 h1 h2).2, fun _ => (run_3 h0 h1 h2).1⟩
    · rw [if_neg (by omega), if_neg (by omega), if_neg (by omega), rune_4 h0 h1]
      exact ⟨rfl, (run_4 h0 h1).2, fun _ => (run_4 h0 h1).1⟩
theorem good_of_run {l : List UInt8} (h : run z l = (z, none)) : good l = true := by
  unfold good goodFrom; rw [h]; rfl
theorem good_append {a b : List UInt8} (h : run z a = (z, none)) : good (a ++ b) = good b := by
  unfold good goodFrom
  rw [run_append, h]
  simp
/-! What the law reads off a first byte: how many bytes follow, and the number that they make. -/
def sizeOf (b : Nat) : Nat := if 240 ≤ b then 4 else if 224 ≤ b then 3 else if 192 ≤ b then 2 else 1
def leadOf (b : Nat) : Nat := if 240 ≤ b then b - 240 else if 224 ≤ b then b - 224 else if 192 ≤ b then b - 192 else b
def foldN : Int → List UInt8 → Int
  | n, [] => n
  | n, b :: l => foldN (64 * n + (b.toNat : Int) - 128) l
theorem goodFrom_cons {u : St} {l : List UInt8} (h : goodFrom u l = true) (h0 : u.1 ≠ 0) : ∃ b t v, l = b :: t ∧ next u (b.toNat : Int) = some v ∧ goodFrom v t = true := by
  cases l with
  | nil => rw [goodFrom_nil, decide_eq_false h0] at h; cases h
  | cons b t =>
    cases hn : next u (b.toNat : Int) with
    | none => rw [goodFrom_none hn] at h; cases h
    | some v => rw [goodFrom_some hn] at h; exact ⟨b, t, v, rfl, hn, h⟩
theorem next_1_some {b : Int} {v : St} (h : next (1, 128, 191) b = some v) : v = z ∧ 128 ≤ b ∧ b ≤ 191 := by
  rw [next_1] at h
  split at h
  · next hb => injection h with h; exact ⟨h.symm, hb⟩
  · cases h
theorem next_2_some {b L H : Int} {v : St} (hok : Ok (2, L, H)) (h : next (2, L, H) b = some v) : v = (1, 128, 191) ∧ L ≤ b ∧ b ≤ H := by
  rw [next_2 _ hok] at h
  split at h
  · next hb => injection h with h; exact ⟨h.symm, hb⟩
  · cases h
theorem next_3_some {b L H : Int} {v : St} (hok : Ok (3, L, H)) (h : next (3, L, H) b = some v) : v = (2, 128, 191) ∧ L ≤ b ∧ b ≤ H := by
  rw [next_3 _ hok] at h
  split at h
  · next hb => injection h with h; exact ⟨h.symm, hb⟩
  · cases h
/-- A good text that is not empty begins with the bytes of the code point that the law reads. -/
theorem good_head {b : UInt8} {l : List UInt8} (h : good (b :: l) = true) :
    sizeOf b.toNat ≤ (b :: l).length ∧ rune (foldN (leadOf b.toNat) (l.take (sizeOf b.toNat - 1))) = (b :: l).take (sizeOf b.toNat) := by
  have hb := b.toNat_lt
  unfold good at h
  cases hn : next z (b.toNat : Int) with
  | none => rw [goodFrom_none hn] at h; cases h
  | some v =>
    rw [goodFrom_some hn] at h
    rw [next_z] at hn
    by_cases c1 : b.toNat ≤ 127
    · rw [show sizeOf b.toNat = 1 by unfold sizeOf; rw [if_neg (by omega), if_neg (by omega), if_neg (by omega)], show leadOf b.toNat = b.toNat by unfold leadOf; rw [if_neg (by omega), if_neg (by omega), if_neg (by omega)]]
      refine ⟨by simp, ?_⟩
      show rune (b.toNat : Int) = [b]
      rw [rune_1 (by omega), (u8_eq (by omega)).2 rfl]
    · by_cases c2 : 194 ≤ b.toNat ∧ b.toNat ≤ 223
      · rw [first_2 (by omega)] at hn
        injection hn with hn; subst hn
        obtain ⟨b1, t, v1, rfl, hn1, h⟩ := goodFrom_cons h (by simp)
        obtain ⟨rfl, q0, q1⟩ := next_1_some hn1
        rw [show sizeOf b.toNat = 2 by unfold sizeOf; rw [if_neg (by omega), if_neg (by omega), if_pos (by omega)], show leadOf b.toNat = b.toNat - 192 by unfold leadOf; rw [if_neg (by omega), if_neg (by omega), if_pos (by omega)]]
        refine ⟨by simp, ?_⟩
        show rune (64 * ((b.toNat - 192 : Nat) : Int) + (b1.toNat : Int) - 128) = [b, b1]
        rw [show 64 * ((b.toNat - 192 : Nat) : Int) + (b1.toNat : Int) - 128 = ((64 * (b.toNat - 192) + b1.toNat - 128 : Nat) : Int) by omega, rune_2 (by omega) (by omega)]
        rw [(u8_eq (b := b) (by omega)).2 (by omega), (u8_eq (b := b1) (by omega)).2 (by omega)]
      · by_cases c3 : 224 ≤ b.toNat ∧ b.toNat ≤ 239
        · obtain ⟨L, H, hf, hok, hr⟩ := first_3' (b := (b.toNat : Int)) (by omega)
          rw [hf] at hn
          injection hn with hn; subst hn
          obtain ⟨b1, t, v1, rfl, hn1, h⟩ := goodFrom_cons h (by simp)
          obtain ⟨rfl, q0, q1⟩ := next_2_some hok hn1
          obtain ⟨b2, t, v2, rfl, hn2, h⟩ := goodFrom_cons h (by simp)
          obtain ⟨rfl, q2, q3⟩ := next_1_some hn2
          rw [show sizeOf b.toNat = 3 by unfold sizeOf; rw [if_neg (by omega), if_pos (by omega)], show leadOf b.toNat = b.toNat - 224 by unfold leadOf; rw [if_neg (by omega), if_pos (by omega)]]
          refine ⟨by simp, ?_⟩
          show rune (64 * (64 * ((b.toNat - 224 : Nat) : Int) + (b1.toNat : Int) - 128) + (b2.toNat : Int) - 128) = [b, b1, b2]
          rw [show 64 * (64 * ((b.toNat - 224 : Nat) : Int) + (b1.toNat : Int) - 128) + (b2.toNat : Int) - 128 = ((4096 * (b.toNat - 224) + 64 * (b1.toNat - 128) + (b2.toNat - 128) : Nat) : Int) by omega, rune_3 (by omega) (by omega) (by omega)]
          rw [(u8_eq (b := b) (by omega)).2 (by omega), (u8_eq (b := b1) (by omega)).2 (by omega), (u8_eq (b := b2) (by omega)).2 (by omega)]
        · by_cases c4 : 240 ≤ b.toNat ∧ b.toNat ≤ 244
          · obtain ⟨L, H, hf, hok, hr⟩ := first_4' (b := (b.toNat : Int)) (by omega)
            rw [hf] at hn
            injection hn with hn; subst hn
            obtain ⟨b1, t, v1, rfl, hn1, h⟩ := goodFrom_cons h (by simp)
            obtain ⟨rfl, q0, q1⟩ := next_3_some hok hn1
            obtain ⟨b2, t, v2, rfl, hn2, h⟩ := goodFrom_cons h (by simp)
            obtain ⟨rfl, q2, q3⟩ := next_2_some ok_2 hn2
            obtain ⟨b3, t, v3, rfl, hn3, h⟩ := goodFrom_cons h (by simp)
            obtain ⟨rfl, q4, q5⟩ := next_1_some hn3
            rw [show sizeOf b.toNat = 4 by unfold sizeOf; rw [if_pos (by omega)], show leadOf b.toNat = b.toNat - 240 by unfold leadOf; rw [if_pos (by omega)]]
            refine ⟨by simp, ?_⟩
            show rune (64 * (64 * (64 * ((b.toNat - 240 : Nat) : Int) + (b1.toNat : Int) - 128) + (b2.toNat : Int) - 128) + (b3.toNat : Int) - 128) = [b, b1, b2, b3]
            rw [show 64 * (64 * (64 * ((b.toNat - 240 : Nat) : Int) + (b1.toNat : Int) - 128) + (b2.toNat : Int) - 128) + (b3.toNat : Int) - 128 = ((262144 * (b.toNat - 240) + 4096 * (b1.toNat - 128) + 64 * (b2.toNat - 128) + (b3.toNat - 128) : Nat) : Int) by omega, rune_4 (by omega) (by omega)]
            rw [(u8_eq (b := b) (by omega)).2 (by omega), (u8_eq (b := b1) (by omega)).2 (by omega), (u8_eq (b := b2) (by omega)).2 (by omega), (u8_eq (b := b3) (by omega)).2 (by omega)]
          · rw [first_no (by omega)] at hn; cases hn
/-- Where the bytes are a code point's, what follows decides. -/
theorem good_step {l : List UInt8} {m : Nat} {n : Int} (hl : l ≠ []) (hm : 0 < m) (h : rune n = l.take m) : good l = good (l.drop m) := by
  have hR : Right n := by
    by_cases hR : Right n
    · exact hR
    · rw [rune_no hR] at h
      cases l with
      | nil => exact absurd rfl hl
      | cons b t => obtain ⟨m, rfl⟩ := Nat.exists_eq_succ_of_ne_zero (Nat.ne_of_gt hm); simp at h
  have e : l = rune n ++ l.drop m := by rw [h, List.take_append_drop]
  have := good_append (b := l.drop m) (rune_facts hR).2.1
  rw [← e] at this; exact this
end Go.Proofs.Ytoohcepobbbejaa.Utf
