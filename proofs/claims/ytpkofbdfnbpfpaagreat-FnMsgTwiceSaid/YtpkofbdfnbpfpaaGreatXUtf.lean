/-
  Several texts in one: UtfMath UtfOk UtfByte UtfText.
-/
import Derived.Lib.Hide
import Derived.Test.YtpkofbdfnbpfpaaGreatIn
import Derived.WalkLawsBesides
import Derived.WalkSpells
import Derived.Deep.QuietTactic
import Derived.BigQuiet
import Derived.Test.YtpkofbdfnbpfpaaGreatBox
import Derived.Outline
import Derived.Test.YtpkofbdfnbpfpaaGreatDraw
import Derived.LoopTactic
import Derived.Deep.DeepFit
import Derived.Deep.RegionWith
import Derived.BigRegion
import Derived.RegionTactic
import Derived.Deep.RegionHeld3

/-
  Plain lemmas on the validator of UTF-8: its steps, its run over a list of bytes, cutting, and the bytes of a code point.
-/
namespace Go.Proofs.YtpkofbdfnbpfpaaGreat.Utf
set_option linter.unusedVariables false

/-- Want, Low, High. -/
abbrev St := Int × Int × Int
def Ok (u : St) : Prop :=
  (u.1 = 0 ∧ u.2.1 = 0 ∧ u.2.2 = 0) ∨ (u.2.1 = 128 ∧ u.2.2 = 191 ∧ 1 ≤ u.1 ∧ u.1 ≤ 3) ∨
    (u.1 = 2 ∧ ((u.2.1 = 160 ∧ u.2.2 = 191) ∨ (u.2.1 = 128 ∧ u.2.2 = 159))) ∨ (u.1 = 3 ∧ ((u.2.1 = 144 ∧ u.2.2 = 191) ∨ (u.2.1 = 128 ∧ u.2.2 = 143)))
instance (u : St) : Decidable (Ok u) := by unfold Ok; infer_instance
def z : St := (0, 0, 0)
/-- The state behind the first byte of a code point, if it may be one. -/
def first (b : Int) : Option St :=
  if 0 ≤ b ∧ b ≤ 127 then some z
  else if 194 ≤ b ∧ b ≤ 223 then some (1, 128, 191)
  else if 224 ≤ b ∧ b ≤ 239 then some (2, (if b = 224 then 160 else 128), (if b = 237 then 159 else 191))
  else if 240 ≤ b ∧ b ≤ 244 then some (3, (if b = 240 then 144 else 128), (if b = 244 then 143 else 191))
  else none
def next (u : St) (b : Int) : Option St :=
  if Ok u then
    if u.1 = 0 then first b
    else if u.2.1 ≤ b ∧ b ≤ u.2.2 then (if u.1 = 1 then some z else some (u.1 - 1, 128, 191)) else none
  else none
/-- The state behind a list of bytes, and the place of the byte that was refused. -/
def run : St → List UInt8 → St × Option Nat
  | u, [] => (u, none)
  | u, b :: l => match next u (b.toNat : Int) with
    | none => (u, some 0)
    | some v => ((run v l).1, (run v l).2.map (· + 1))
theorem run_nil (u : St) : run u [] = (u, none) := rfl
theorem run_none {u : St} {b : UInt8} {l : List UInt8} (h : next u (b.toNat : Int) = none) : run u (b :: l) = (u, some 0) := by simp only [run, h]
theorem run_some {u v : St} {b : UInt8} {l : List UInt8} (h : next u (b.toNat : Int) = some v) : run u (b :: l) = ((run v l).1, (run v l).2.map (· + 1)) := by simp only [run, h]
theorem run_append : ∀ (a : List UInt8) (u : St) (b : List UInt8), run u (a ++ b) = match run u a with
    | (v, none) => ((run v b).1, (run v b).2.map (· + a.length))
    | (v, some k) => (v, some k)
  | [], u, b => by simp [run_nil]
  | c :: a, u, b => by
    rw [List.cons_append]
    cases hn : next u (c.toNat : Int) with
    | none => rw [run_none hn, run_none hn]
    | some v =>
      rw [run_some hn, run_some hn, run_append a v b]
      rcases hr : run v a with ⟨x, _ | k⟩
      · simp only [Option.map_none, Option.map_map, List.length_cons]
        congr 2
      · rfl
theorem run_bound : ∀ (l : List UInt8) (u : St) (k : Nat), (run u l).2 = some k → k < l.length
  | [], u, k, h => by simp [run_nil] at h
  | b :: l, u, k, h => by
    cases hn : next u (b.toNat : Int) with
    | none => rw [run_none hn] at h; injection h with h; subst h; simp
    | some v =>
      rw [run_some hn] at h
      simp only [Option.map_eq_some_iff] at h
      obtain ⟨m, hm, rfl⟩ := h
      have := run_bound l v m hm
      simp; omega
theorem ok_z : Ok z := .inl ⟨rfl, rfl, rfl⟩
theorem ok_zero {u : St} (h : Ok u) (h0 : u.1 = 0) : u = z := by
  obtain ⟨a, b, c⟩ := u
  unfold Ok at h
  simp only at h h0
  have : a = 0 ∧ b = 0 ∧ c = 0 := by omega
  obtain ⟨rfl, rfl, rfl⟩ := this
  rfl
theorem first_ok {b : Int} {v : St} (h : first b = some v) : Ok v := by
  unfold first at h
  split at h
  · injection h with h; subst h; exact ok_z
  · split at h
    · injection h with h; subst h; unfold Ok; simp
    · split at h
      · injection h with h; subst h; unfold Ok; simp only; split <;> split <;> first | decide | omega
      · split at h
        · injection h with h; subst h; unfold Ok; simp only; split <;> split <;> first | decide | omega
        · cases h
theorem next_ok {u v : St} {b : Int} (h : next u b = some v) : Ok v := by
  by_cases hok : Ok u
  · unfold next at h
    rw [if_pos hok] at h
    by_cases h0 : u.1 = 0
    · rw [if_pos h0] at h; exact first_ok h
    · rw [if_neg h0] at h
      by_cases hr : u.2.1 ≤ b ∧ b ≤ u.2.2
      · rw [if_pos hr] at h
        by_cases h1 : u.1 = 1
        · rw [if_pos h1] at h; injection h with h; subst h; exact ok_z
        · rw [if_neg h1] at h; injection h with h; subst h
          clear hr
          unfold Ok at hok ⊢
          refine .inr (.inl ⟨rfl, rfl, ?_, ?_⟩) <;> show _ <;> simp only <;> omega
      · rw [if_neg hr] at h; cases h
  · unfold next at h; rw [if_neg hok] at h; cases h
theorem run_ok : ∀ (l : List UInt8) (u : St), Ok u → Ok (run u l).1
  | [], u, h => h
  | b :: l, u, h => by
    cases hn : next u (b.toNat : Int) with
    | none => rw [run_none hn]; exact h
    | some v => rw [run_some hn]; exact run_ok l v (next_ok hn)
theorem ok_small {u : St} (h : Ok u) : 0 ≤ u.1 ∧ u.1 ≤ 3 ∧ 0 ≤ u.2.1 ∧ u.2.1 ≤ 160 ∧ 0 ≤ u.2.2 ∧ u.2.2 ≤ 191 := by unfold Ok at h; omega
/-- Whether the bytes end where a code point ends, none refused. -/
def goodFrom (u : St) (l : List UInt8) : Bool := decide ((run u l).2 = none ∧ (run u l).1.1 = 0)
def good (l : List UInt8) : Bool := goodFrom z l
theorem next_z (b : Int) : next z b = first b := by
  unfold next; rw [if_pos ok_z]; exact if_pos rfl
theorem next_on {W L H : Int} (b : Int) (h : Ok (W, L, H)) (h0 : W ≠ 0) : next (W, L, H) b = if L ≤ b ∧ b ≤ H then (if W = 1 then some z else some (W - 1, 128, 191)) else none := by
  unfold next; rw [if_pos h, if_neg h0]
/-- A byte by its number. -/
def u8 (n : Nat) : UInt8 := UInt8.ofNat n
theorem u8_toNat {n : Nat} (h : n < 256) : (u8 n).toNat = n := by unfold u8; rw [UInt8.toNat_ofNat']; omega
def Right (n : Int) : Prop := (0 ≤ n ∧ n ≤ 1114111) ∧ ¬ (55296 ≤ n ∧ n ≤ 57343)
instance (n : Int) : Decidable (Right n) := by unfold Right; infer_instance
def runeN (n : Nat) : List UInt8 :=
  if n < 128 then [u8 n]
  else if n < 2048 then [u8 (192 + n / 64), u8 (128 + n % 64)]
  else if n < 65536 then [u8 (224 + n / 4096), u8 (128 + n / 64 % 64), u8 (128 + n % 64)]
  else [u8 (240 + n / 262144), u8 (128 + n / 4096 % 64), u8 (128 + n / 64 % 64), u8 (128 + n % 64)]
/-- The bytes of a code point; none where there is none. -/
def rune (n : Int) : List UInt8 := if Right n then runeN n.toNat else []
theorem rune_no {n : Int} (h : ¬ Right n) : rune n = [] := if_neg h
theorem rune_1 {n : Nat} (h : n < 128) : rune n = [u8 n] := by
  unfold rune; rw [if_pos (by unfold Right; omega), Int.toNat_natCast]; unfold runeN; rw [if_pos h]
theorem rune_2 {n : Nat} (h0 : 128 ≤ n) (h : n < 2048) : rune n = [u8 (192 + n / 64), u8 (128 + n % 64)] := by
  unfold rune; rw [if_pos (by unfold Right; omega), Int.toNat_natCast]; unfold runeN; rw [if_neg (by omega), if_pos h]
theorem rune_3 {n : Nat} (h0 : 2048 ≤ n) (h : n < 65536) (hs : ¬ (55296 ≤ n ∧ n ≤ 57343)) : rune n = [u8 (224 + n / 4096), u8 (128 + n / 64 % 64), u8 (128 + n % 64)] := by
  unfold rune; rw [if_pos (by unfold Right; omega), Int.toNat_natCast]; unfold runeN; rw [if_neg (by omega), if_neg (by omega), if_pos h]
theorem rune_4 {n : Nat} (h0 : 65536 ≤ n) (h : n ≤ 1114111) : rune n = [u8 (240 + n / 262144), u8 (128 + n / 4096 % 64), u8 (128 + n / 64 % 64), u8 (128 + n % 64)] := by
  unfold rune; rw [if_pos (by unfold Right; omega), Int.toNat_natCast]; unfold runeN; rw [if_neg (by omega), if_neg (by omega), if_neg (by omega)]
theorem rune_cases (n : Int) : (¬ Right n ∧ rune n = []) ∨ ∃ k : Nat, n = (k : Int) ∧ Right n ∧ (k < 128 ∨ (128 ≤ k ∧ k < 2048) ∨ (2048 ≤ k ∧ k < 65536 ∧ ¬ (55296 ≤ k ∧ k ≤ 57343)) ∨ (65536 ≤ k ∧ k ≤ 1114111)) := by
  by_cases h : Right n
  · have h2 := h
    unfold Right at h2
    exact .inr ⟨n.toNat, by omega, h, by omega⟩
  · exact .inl ⟨h, rune_no h⟩
theorem rune_len (n : Int) : (rune n).length ≤ 4 := by
  unfold rune
  split
  · unfold runeN
    repeat (first | split | simp)
  · simp
/-! The first bytes. -/
theorem first_1 {b : Int} (h : 0 ≤ b ∧ b ≤ 127) : first b = some z := if_pos h
theorem first_2 {b : Int} (h : 194 ≤ b ∧ b ≤ 223) : first b = some (1, 128, 191) := by unfold first; rw [if_neg (by omega), if_pos h]
theorem first_3 {b : Int} (h : 224 ≤ b ∧ b ≤ 239) : first b = some (2, (if b = 224 then 160 else 128), (if b = 237 then 159 else 191)) := by unfold first; rw [if_neg (by omega), if_neg (by omega), if_pos h]
theorem first_4 {b : Int} (h : 240 ≤ b ∧ b ≤ 244) : first b = some (3, (if b = 240 then 144 else 128), (if b = 244 then 143 else 191)) := by unfold first; rw [if_neg (by omega), if_neg (by omega), if_neg (by omega), if_pos h]
theorem first_no {b : Int} (h : ¬ ((0 ≤ b ∧ b ≤ 127) ∨ (194 ≤ b ∧ b ≤ 244))) : first b = none := by unfold first; rw [if_neg (by omega), if_neg (by omega), if_neg (by omega), if_neg (by omega)]
end Go.Proofs.YtpkofbdfnbpfpaaGreat.Utf


/-
  The walk of the reference's UtfOk: whether a state of the validator is right; only new memory is written.
-/
namespace Go.Proofs.YtpkofbdfnbpfpaaGreat.Num
open Go.RowKit Go.Proofs
set_option linter.unusedVariables false

def utV (u : Utf.St) : Value := .agg #[.int .i64 u.1, .int .i64 u.2.1, .int .i64 u.2.2]
theorem neB {x c : Int} (h : x ≠ c) : (x == c) = false := by rw [beq_eq_false_iff_ne]; exact h
theorem specInYes (x lo hi : Int) (w : World) (h : lo ≤ x ∧ x ≤ hi) : Calls Tryz.prog 65 #[.int .i64 x, .int .i64 lo, .int .i64 hi] w fun e w' => e = .returned (.bool true) ∧ w = w' :=
  (specIn_any x lo hi w).mono fun e w' ⟨he, hw⟩ => ⟨by rw [he, decide_eq_true h], hw⟩
theorem specInNo (x lo hi : Int) (w : World) (h : ¬ (lo ≤ x ∧ x ≤ hi)) : Calls Tryz.prog 65 #[.int .i64 x, .int .i64 lo, .int .i64 hi] w fun e w' => e = .returned (.bool false) ∧ w = w' :=
  (specIn_any x lo hi w).mono fun e w' ⟨he, hw⟩ => ⟨by rw [he, decide_eq_false h], hw⟩
set_option maxHeartbeats 1000000 in
theorem specUtfOk_any (W L H : Int) (w : World) :
    Calls Tryz.prog 199 #[utV (W, L, H)] w fun e w' => e = .returned (.bool (decide (Utf.Ok (W, L, H)))) ∧ Below w.heap.size w w' := by
  obtain ⟨R, hR⟩ : ∃ R, decide (Utf.Ok (W, L, H)) = R := ⟨_, rfl⟩
  rw [hR]
  unfold utV
  simp only
  have tell : (Utf.Ok (W, L, H) → R = true) ∧ (¬ Utf.Ok (W, L, H) → R = false) := ⟨fun h => by rw [← hR, decide_eq_true h], fun h => by rw [← hR, decide_eq_false h]⟩
  unfold Utf.Ok at tell
  simp only at tell
  clear hR
  by_cases h2 : W = 2
  · subst h2
    by_cases hL : L = 128
    · subst hL
      by_cases hH : H = 191
      · subst hH
        obtain rfl : R = true := tell.1 (by omega)
        clear tell
        go_enter Tryz.func199, Tryz.ntmps199
        go_wp2_with fail
        refine (specInYes 2 1 3 _ (by decide)).mono ?_
        rintro e w1 ⟨rfl, rfl⟩
        go_wp2_with fail
        go_ret
        exact ⟨rfl, (Below.refl _ _).alloc (Nat.le_refl _) _⟩
      · by_cases hH2 : H = 159
        · subst hH2
          obtain rfl : R = true := tell.1 (by omega)
          clear tell
          go_enter Tryz.func199, Tryz.ntmps199
          go_wp2_with fail
          go_ret
          exact ⟨rfl, (Below.refl _ _).alloc (Nat.le_refl _) _⟩
        · obtain rfl : R = false := tell.2 (by omega)
          clear tell
          have b1 := neB hH
          have b2 := neB hH2
          clear hH hH2
          go_enter Tryz.func199, Tryz.ntmps199
          go_wp2_with fail
          go_ret
          exact ⟨rfl, (Below.refl _ _).alloc (Nat.le_refl _) _⟩
    · by_cases hL2 : L = 160
      · subst hL2
        by_cases hH : H = 191
        · subst hH
          obtain rfl : R = true := tell.1 (by omega)
          clear tell
          go_enter Tryz.func199, Tryz.ntmps199
          go_wp2_with fail
          go_ret
          exact ⟨rfl, (Below.refl _ _).alloc (Nat.le_refl _) _⟩
        · obtain rfl : R = false := tell.2 (by omega)
          clear tell
          have b1 := neB hH
          clear hH hL
          go_enter Tryz.func199, Tryz.ntmps199
          go_wp2_with fail
          go_ret
          exact ⟨rfl, (Below.refl _ _).alloc (Nat.le_refl _) _⟩
      · obtain rfl : R = false := tell.2 (by omega)
        clear tell
        have b1 := neB hL
        have b2 := neB hL2
        clear hL hL2
        go_enter Tryz.func199, Tryz.ntmps199
        go_wp2_with fail
        go_ret
        exact ⟨rfl, (Below.refl _ _).alloc (Nat.le_refl _) _⟩
  · by_cases h3 : W = 3
    · subst h3
      by_cases hL : L = 128
      · subst hL
        by_cases hH : H = 191
        · subst hH
          obtain rfl : R = true := tell.1 (by omega)
          clear tell
          go_enter Tryz.func199, Tryz.ntmps199
          go_wp2_with fail
          refine (specInYes 3 1 3 _ (by decide)).mono ?_
          rintro e w1 ⟨rfl, rfl⟩
          go_wp2_with fail
          go_ret
          exact ⟨rfl, (Below.refl _ _).alloc (Nat.le_refl _) _⟩
        · by_cases hH2 : H = 143
          · subst hH2
            obtain rfl : R = true := tell.1 (by omega)
            clear tell
            go_enter Tryz.func199, Tryz.ntmps199
            go_wp2_with fail
            go_ret
            exact ⟨rfl, (Below.refl _ _).alloc (Nat.le_refl _) _⟩
          · obtain rfl : R = false := tell.2 (by omega)
            clear tell
            have b1 := neB hH
            have b2 := neB hH2
            clear hH hH2
            go_enter Tryz.func199, Tryz.ntmps199
            go_wp2_with fail
            go_ret
            exact ⟨rfl, (Below.refl _ _).alloc (Nat.le_refl _) _⟩
      · by_cases hL2 : L = 144
        · subst hL2
          by_cases hH : H = 191
          · subst hH
            obtain rfl : R = true := tell.1 (by omega)
            clear tell
            go_enter Tryz.func199, Tryz.ntmps199
            go_wp2_with fail
            go_ret
            exact ⟨rfl, (Below.refl _ _).alloc (Nat.le_refl _) _⟩
          · obtain rfl : R = false := tell.2 (by omega)
            clear tell
            have b1 := neB hH
            clear hH hL
            go_enter Tryz.func199, Tryz.ntmps199
            go_wp2_with fail
            go_ret
            exact ⟨rfl, (Below.refl _ _).alloc (Nat.le_refl _) _⟩
        · obtain rfl : R = false := tell.2 (by omega)
          clear tell
          have b1 := neB hL
          have b2 := neB hL2
          clear hL hL2
          go_enter Tryz.func199, Tryz.ntmps199
          go_wp2_with fail
          go_ret
          exact ⟨rfl, (Below.refl _ _).alloc (Nat.le_refl _) _⟩
    · by_cases hL : L = 128
      · subst hL
        by_cases hH : H = 191
        · subst hH
          by_cases hin : 1 ≤ W ∧ W ≤ 3
          · obtain rfl : R = true := tell.1 (by omega)
            clear tell
            have Hin := Lib.hid hin; clear hin
            go_enter Tryz.func199, Tryz.ntmps199
            go_wp2_with fail
            refine (specInYes W 1 3 _ Hin.out).mono ?_
            rintro e w1 ⟨rfl, rfl⟩
            go_wp2_with fail
            go_ret
            exact ⟨rfl, (Below.refl _ _).alloc (Nat.le_refl _) _⟩
          · obtain rfl : R = false := tell.2 (by omega)
            clear tell
            have Hin := Lib.hid hin; clear hin
            go_enter Tryz.func199, Tryz.ntmps199
            go_wp2_with fail
            refine (specInNo W 1 3 _ Hin.out).mono ?_
            rintro e w1 ⟨rfl, rfl⟩
            go_wp2_with fail
            go_ret
            exact ⟨rfl, (Below.refl _ _).alloc (Nat.le_refl _) _⟩
        · obtain rfl : R = false := tell.2 (by omega)
          clear tell
          have b2 := neB h2
          have b3 := neB h3
          clear h2 h3
          have b1 := neB hH
          clear hH
          go_enter Tryz.func199, Tryz.ntmps199
          go_wp2_with fail
          go_ret
          exact ⟨rfl, (Below.refl _ _).alloc (Nat.le_refl _) _⟩
      · by_cases h0 : W = 0
        · subst h0
          by_cases hL0 : L = 0
          · subst hL0
            by_cases hH0 : H = 0
            · subst hH0
              obtain rfl : R = true := tell.1 (by omega)
              clear tell
              go_enter Tryz.func199, Tryz.ntmps199
              go_wp2_with fail
              go_ret
              exact ⟨rfl, (Below.refl _ _).alloc (Nat.le_refl _) _⟩
            · obtain rfl : R = false := tell.2 (by omega)
              clear tell
              have b1 := neB hH0
              clear hH0
              go_enter Tryz.func199, Tryz.ntmps199
              go_wp2_with fail
              go_ret
              exact ⟨rfl, (Below.refl _ _).alloc (Nat.le_refl _) _⟩
          · obtain rfl : R = false := tell.2 (by omega)
            clear tell
            have b1 := neB hL
            have b2 := neB hL0
            clear hL hL0
            go_enter Tryz.func199, Tryz.ntmps199
            go_wp2_with fail
            go_ret
            exact ⟨rfl, (Below.refl _ _).alloc (Nat.le_refl _) _⟩
        · obtain rfl : R = false := tell.2 (by omega)
          clear tell
          have b2 := neB h2
          have b3 := neB h3
          clear h2 h3
          have b1 := neB hL
          have b0 := neB h0
          clear hL h0
          go_enter Tryz.func199, Tryz.ntmps199
          go_wp2_with fail
          go_ret
          exact ⟨rfl, (Below.refl _ _).alloc (Nat.le_refl _) _⟩
end Go.Proofs.YtpkofbdfnbpfpaaGreat.Num


/-
  The walks of the reference's l5First and UtfByte: they give the plain validator's step; only new memory is written.
-/
namespace Go.Proofs.YtpkofbdfnbpfpaaGreat.Num
open Go.RowKit Go.Proofs
set_option linter.unusedVariables false

/-- The state behind a byte and true, or the state before it and false. -/
def stepV (u : Utf.St) : Option Utf.St → Value
  | some v => .tuple #[utV v, .bool true]
  | none => .tuple #[utV u, .bool false]
theorem two_new {w : World} (a b : Obj) : Below w.heap.size w ((w.alloc a).alloc b) := ((Below.refl _ _).alloc (Nat.le_refl _) _).alloc (by simp) _
theorem bcellU {W w1 : World} (hb : Below W.heap.size W w1) : (∀ b o, b < W.heap.size → w1.cell? ⟨b, o, none⟩ = W.cell? ⟨b, o, none⟩) ∧ (∀ b o, b < W.heap.size → w1.frozen? ⟨b, o, none⟩ = W.frozen? ⟨b, o, none⟩) :=
  ⟨fun b o h => hb.cell (p := ⟨b, o, none⟩) h, fun b o h => hb.frozen (p := ⟨b, o, none⟩) h⟩
set_option maxHeartbeats 1000000 in
theorem specUtfFirst_any (b : Int) (w : World) :
    Calls Tryz.prog 200 #[.int .i64 b] w fun e w' => e = .returned (stepV Utf.z (Utf.first b)) ∧ Below w.heap.size w w' := by
  by_cases c1 : 0 ≤ b ∧ b ≤ 127
  · have He := Lib.hid (Utf.first_1 c1)
    have q0 : 0 ≤ b ∧ b ≤ 127 := by omega
    have Q0 := Lib.hid q0; clear q0
    clear c1
    go_enter Tryz.func200, Tryz.ntmps200
    go_wp2_with fail
    refine (specInYes _ 0 127 _ Q0.out).mono ?_
    rintro e w1 ⟨rfl, rfl⟩
    go_wp2_with fail
    refine bodyPost_ret (v := .tuple #[.agg #[.int .i64 0, .int .i64 0, .int .i64 0], .bool true]) (by simp [results, Tryz.results200, go_sem]) rfl ⟨by rw [He.out]; rfl, ?_⟩
    repeat (first | exact two_new _ _ | refine Below.setCell ?_ (by simp) _)
  · by_cases c2 : 194 ≤ b ∧ b ≤ 223
    · have He := Lib.hid (Utf.first_2 c2)
      have q0 : ¬ (0 ≤ b ∧ b ≤ 127) := by omega
      have Q0 := Lib.hid q0; clear q0
      have q1 : 194 ≤ b ∧ b ≤ 223 := by omega
      have Q1 := Lib.hid q1; clear q1
      have n224 : (b == 224) = false := neB (by omega)
      have n237 : (b == 237) = false := neB (by omega)
      have n240 : (b == 240) = false := neB (by omega)
      have n244 : (b == 244) = false := neB (by omega)
      clear c1 c2
      go_enter Tryz.func200, Tryz.ntmps200
      go_wp2_with fail
      refine (specInNo _ 0 127 _ Q0.out).mono ?_
      rintro e w1 ⟨rfl, rfl⟩
      go_wp2_with fail
      refine (specInYes _ 194 223 _ Q1.out).mono ?_
      rintro e w1 ⟨rfl, rfl⟩
      go_wp2_with fail
      refine bodyPost_ret (v := .tuple #[.agg #[.int .i64 1, .int .i64 128, .int .i64 191], .bool true]) (by simp [results, Tryz.results200, go_sem]) rfl ⟨by rw [He.out]; rfl, ?_⟩
      repeat (first | exact two_new _ _ | refine Below.setCell ?_ (by simp) _)
    · by_cases c3 : 224 ≤ b ∧ b ≤ 239
      · by_cases e1 : b = 224
        · have He := Lib.hid (Utf.first_3 c3)
          rw [if_pos e1, if_neg (by omega)] at He
          have q0 : ¬ (0 ≤ b ∧ b ≤ 127) := by omega
          have Q0 := Lib.hid q0; clear q0
          have q1 : ¬ (194 ≤ b ∧ b ≤ 223) := by omega
          have Q1 := Lib.hid q1; clear q1
          have q2 : 224 ≤ b ∧ b ≤ 239 := by omega
          have Q2 := Lib.hid q2; clear q2
          subst e1
          clear c1 c2 c3
          go_enter Tryz.func200, Tryz.ntmps200
          go_wp2_with fail
          refine (specInNo _ 0 127 _ Q0.out).mono ?_
          rintro e w1 ⟨rfl, rfl⟩
          go_wp2_with fail
          refine (specInNo _ 194 223 _ Q1.out).mono ?_
          rintro e w1 ⟨rfl, rfl⟩
          go_wp2_with fail
          refine (specInYes _ 224 239 _ Q2.out).mono ?_
          rintro e w1 ⟨rfl, rfl⟩
          go_wp2_with fail
          refine bodyPost_ret (v := .tuple #[.agg #[.int .i64 2, .int .i64 160, .int .i64 191], .bool true]) (by simp [results, Tryz.results200, go_sem]) rfl ⟨by rw [He.out]; rfl, ?_⟩
          repeat (first | exact two_new _ _ | refine Below.setCell ?_ (by simp) _)
        · by_cases e2 : b = 237
          · have He := Lib.hid (Utf.first_3 c3)
            rw [if_neg e1, if_pos e2] at He
            have q0 : ¬ (0 ≤ b ∧ b ≤ 127) := by omega
            have Q0 := Lib.hid q0; clear q0
            have q1 : ¬ (194 ≤ b ∧ b ≤ 223) := by omega
            have Q1 := Lib.hid q1; clear q1
            have q2 : 224 ≤ b ∧ b ≤ 239 := by omega
            have Q2 := Lib.hid q2; clear q2
            subst e2
            clear c1 c2 c3 e1
            go_enter Tryz.func200, Tryz.ntmps200
            go_wp2_with fail
            refine (specInNo _ 0 127 _ Q0.out).mono ?_
            rintro e w1 ⟨rfl, rfl⟩
            go_wp2_with fail
            refine (specInNo _ 194 223 _ Q1.out).mono ?_
            rintro e w1 ⟨rfl, rfl⟩
            go_wp2_with fail
            refine (specInYes _ 224 239 _ Q2.out).mono ?_
            rintro e w1 ⟨rfl, rfl⟩
            go_wp2_with fail
            refine bodyPost_ret (v := .tuple #[.agg #[.int .i64 2, .int .i64 128, .int .i64 159], .bool true]) (by simp [results, Tryz.results200, go_sem]) rfl ⟨by rw [He.out]; rfl, ?_⟩
            repeat (first | exact two_new _ _ | refine Below.setCell ?_ (by simp) _)
          · have He := Lib.hid (Utf.first_3 c3)
            rw [if_neg e1, if_neg e2] at He
            have q0 : ¬ (0 ≤ b ∧ b ≤ 127) := by omega
            have Q0 := Lib.hid q0; clear q0
            have q1 : ¬ (194 ≤ b ∧ b ≤ 223) := by omega
            have Q1 := Lib.hid q1; clear q1
            have q2 : 224 ≤ b ∧ b ≤ 239 := by omega
            have Q2 := Lib.hid q2; clear q2
            have n224 : (b == 224) = false := neB (by omega)
            have n237 : (b == 237) = false := neB (by omega)
            have n240 : (b == 240) = false := neB (by omega)
            have n244 : (b == 244) = false := neB (by omega)
            clear c1 c2 c3 e1 e2
            go_enter Tryz.func200, Tryz.ntmps200
            go_wp2_with fail
            refine (specInNo _ 0 127 _ Q0.out).mono ?_
            rintro e w1 ⟨rfl, rfl⟩
            go_wp2_with fail
            refine (specInNo _ 194 223 _ Q1.out).mono ?_
            rintro e w1 ⟨rfl, rfl⟩
            go_wp2_with fail
            refine (specInYes _ 224 239 _ Q2.out).mono ?_
            rintro e w1 ⟨rfl, rfl⟩
            go_wp2_with fail
            refine bodyPost_ret (v := .tuple #[.agg #[.int .i64 2, .int .i64 128, .int .i64 191], .bool true]) (by simp [results, Tryz.results200, go_sem]) rfl ⟨by rw [He.out]; rfl, ?_⟩
            repeat (first | exact two_new _ _ | refine Below.setCell ?_ (by simp) _)
      · by_cases c4 : 240 ≤ b ∧ b ≤ 244
        · by_cases e1 : b = 240
          · have He := Lib.hid (Utf.first_4 c4)
            rw [if_pos e1, if_neg (by omega)] at He
            have q0 : ¬ (0 ≤ b ∧ b ≤ 127) := by omega
            have Q0 := Lib.hid q0; clear q0
            have q1 : ¬ (194 ≤ b ∧ b ≤ 223) := by omega
            have Q1 := Lib.hid q1; clear q1
            have q2 : ¬ (224 ≤ b ∧ b ≤ 239) := by omega
            have Q2 := Lib.hid q2; clear q2
            have q3 : 240 ≤ b ∧ b ≤ 244 := by omega
            have Q3 := Lib.hid q3; clear q3
            subst e1
            clear c1 c2 c3 c4
            go_enter Tryz.func200, Tryz.ntmps200
            go_wp2_with fail
            refine (specInNo _ 0 127 _ Q0.out).mono ?_
            rintro e w1 ⟨rfl, rfl⟩
            go_wp2_with fail
            refine (specInNo _ 194 223 _ Q1.out).mono ?_
            rintro e w1 ⟨rfl, rfl⟩
            go_wp2_with fail
            refine (specInNo _ 224 239 _ Q2.out).mono ?_
            rintro e w1 ⟨rfl, rfl⟩
            go_wp2_with fail
            refine (specInYes _ 240 244 _ Q3.out).mono ?_
            rintro e w1 ⟨rfl, rfl⟩
            go_wp2_with fail
            refine bodyPost_ret (v := .tuple #[.agg #[.int .i64 3, .int .i64 144, .int .i64 191], .bool true]) (by simp [results, Tryz.results200, go_sem]) rfl ⟨by rw [He.out]; rfl, ?_⟩
            repeat (first | exact two_new _ _ | refine Below.setCell ?_ (by simp) _)
          · by_cases e2 : b = 244
            · have He := Lib.hid (Utf.first_4 c4)
              rw [if_neg e1, if_pos e2] at He
              have q0 : ¬ (0 ≤ b ∧ b ≤ 127) := by omega
              have Q0 := Lib.hid q0; clear q0
              have q1 : ¬ (194 ≤ b ∧ b ≤ 223) := by omega
              have Q1 := Lib.hid q1; clear q1
              have q2 : ¬ (224 ≤ b ∧ b ≤ 239) := by omega
              have Q2 := Lib.hid q2; clear q2
              have q3 : 240 ≤ b ∧ b ≤ 244 := by omega
              have Q3 := Lib.hid q3; clear q3
              subst e2
              clear c1 c2 c3 c4 e1
              go_enter Tryz.func200, Tryz.ntmps200
              go_wp2_with fail
              refine (specInNo _ 0 127 _ Q0.out).mono ?_
              rintro e w1 ⟨rfl, rfl⟩
              go_wp2_with fail
              refine (specInNo _ 194 223 _ Q1.out).mono ?_
              rintro e w1 ⟨rfl, rfl⟩
              go_wp2_with fail
              refine (specInNo _ 224 239 _ Q2.out).mono ?_
              rintro e w1 ⟨rfl, rfl⟩
              go_wp2_with fail
              refine (specInYes _ 240 244 _ Q3.out).mono ?_
              rintro e w1 ⟨rfl, rfl⟩
              go_wp2_with fail
              refine bodyPost_ret (v := .tuple #[.agg #[.int .i64 3, .int .i64 128, .int .i64 143], .bool true]) (by simp [results, Tryz.results200, go_sem]) rfl ⟨by rw [He.out]; rfl, ?_⟩
              repeat (first | exact two_new _ _ | refine Below.setCell ?_ (by simp) _)
            · have He := Lib.hid (Utf.first_4 c4)
              rw [if_neg e1, if_neg e2] at He
              have q0 : ¬ (0 ≤ b ∧ b ≤ 127) := by omega
              have Q0 := Lib.hid q0; clear q0
              have q1 : ¬ (194 ≤ b ∧ b ≤ 223) := by omega
              have Q1 := Lib.hid q1; clear q1
              have q2 : ¬ (224 ≤ b ∧ b ≤ 239) := by omega
              have Q2 := Lib.hid q2; clear q2
              have q3 : 240 ≤ b ∧ b ≤ 244 := by omega
              have Q3 := Lib.hid q3; clear q3
              have n224 : (b == 224) = false := neB (by omega)
              have n237 : (b == 237) = false := neB (by omega)
              have n240 : (b == 240) = false := neB (by omega)
              have n244 : (b == 244) = false := neB (by omega)
              clear c1 c2 c3 c4 e1 e2
              go_enter Tryz.func200, Tryz.ntmps200
              go_wp2_with fail
              refine (specInNo _ 0 127 _ Q0.out).mono ?_
              rintro e w1 ⟨rfl, rfl⟩
              go_wp2_with fail
              refine (specInNo _ 194 223 _ Q1.out).mono ?_
              rintro e w1 ⟨rfl, rfl⟩
              go_wp2_with fail
              refine (specInNo _ 224 239 _ Q2.out).mono ?_
              rintro e w1 ⟨rfl, rfl⟩
              go_wp2_with fail
              refine (specInYes _ 240 244 _ Q3.out).mono ?_
              rintro e w1 ⟨rfl, rfl⟩
              go_wp2_with fail
              refine bodyPost_ret (v := .tuple #[.agg #[.int .i64 3, .int .i64 128, .int .i64 191], .bool true]) (by simp [results, Tryz.results200, go_sem]) rfl ⟨by rw [He.out]; rfl, ?_⟩
              repeat (first | exact two_new _ _ | refine Below.setCell ?_ (by simp) _)
        · have He := Lib.hid (Utf.first_no (b := b) (by omega))
          have q0 : ¬ (0 ≤ b ∧ b ≤ 127) := by omega
          have Q0 := Lib.hid q0; clear q0
          have q1 : ¬ (194 ≤ b ∧ b ≤ 223) := by omega
          have Q1 := Lib.hid q1; clear q1
          have q2 : ¬ (224 ≤ b ∧ b ≤ 239) := by omega
          have Q2 := Lib.hid q2; clear q2
          have q3 : ¬ (240 ≤ b ∧ b ≤ 244) := by omega
          have Q3 := Lib.hid q3; clear q3
          clear c1 c2 c3 c4
          go_enter Tryz.func200, Tryz.ntmps200
          go_wp2_with fail
          refine (specInNo _ 0 127 _ Q0.out).mono ?_
          rintro e w1 ⟨rfl, rfl⟩
          go_wp2_with fail
          refine (specInNo _ 194 223 _ Q1.out).mono ?_
          rintro e w1 ⟨rfl, rfl⟩
          go_wp2_with fail
          refine (specInNo _ 224 239 _ Q2.out).mono ?_
          rintro e w1 ⟨rfl, rfl⟩
          go_wp2_with fail
          refine (specInNo _ 240 244 _ Q3.out).mono ?_
          rintro e w1 ⟨rfl, rfl⟩
          go_wp2_with fail
          refine bodyPost_ret (v := .tuple #[.agg #[.int .i64 0, .int .i64 0, .int .i64 0], .bool false]) (by simp [results, Tryz.results200, go_sem]) rfl ⟨by rw [He.out]; rfl, ?_⟩
          repeat (first | exact two_new _ _ | refine Below.setCell ?_ (by simp) _)
theorem specUtfOk_yes {W L H : Int} (h : Utf.Ok (W, L, H)) (w : World) : Calls Tryz.prog 199 #[.agg #[.int .i64 W, .int .i64 L, .int .i64 H]] w fun e w' => e = .returned (.bool true) ∧ Below w.heap.size w w' :=
  (specUtfOk_any W L H w).mono fun e w' ⟨he, hb⟩ => ⟨by rw [he, decide_eq_true h], hb⟩
theorem specUtfOk_no {W L H : Int} (h : ¬ Utf.Ok (W, L, H)) (w : World) : Calls Tryz.prog 199 #[.agg #[.int .i64 W, .int .i64 L, .int .i64 H]] w fun e w' => e = .returned (.bool false) ∧ Below w.heap.size w w' :=
  (specUtfOk_any W L H w).mono fun e w' ⟨he, hb⟩ => ⟨by rw [he, decide_eq_false h], hb⟩
theorem next_bad {u : Utf.St} {b : Int} (h : ¬ Utf.Ok u) : Utf.next u b = none := by unfold Utf.next; rw [if_neg h]
set_option maxHeartbeats 1000000 in
theorem specUtfByte_any (W L H b : Int) (w : World) :
    Calls Tryz.prog 190 #[utV (W, L, H), .int .i64 b] w fun e w' => e = .returned (stepV (W, L, H) (Utf.next (W, L, H) b)) ∧ Below w.heap.size w w' := by
  unfold utV
  simp only
  by_cases hok : Utf.Ok (W, L, H)
  · by_cases h0 : W = 0
    · have hz : (W, L, H) = Utf.z := Utf.ok_zero hok h0
      obtain ⟨rfl, rfl, rfl⟩ : W = 0 ∧ L = 0 ∧ H = 0 := by unfold Utf.z at hz; injection hz with e1 e2; injection e2 with e2 e3; exact ⟨e1, e2, e3⟩
      have He := Lib.hid (Utf.next_z b)
      have Hok := Lib.hid hok
      have Hf := Lib.hid (specUtfFirst_any b)
      clear hok h0 hz
      rw [show ((0 : Int), (0 : Int), (0 : Int)) = Utf.z from rfl, He.out]
      generalize Utf.first b = R at Hf
      go_enter Tryz.func190, Tryz.ntmps190
      go_wp2_with fail
      refine (specUtfOk_yes Hok.out _).mono ?_
      rintro e w1 ⟨rfl, hb1⟩
      obtain ⟨hc, hf⟩ := bcellU hb1
      have hbw : Below w.heap.size w w1 := (two_new _ _).trans (hb1.mono (by simp; omega))
      go_wp2_with fail
      refine (Hf.out _).mono ?_
      rcases R with _ | ⟨a, c, d⟩
      · simp only [stepV, utV, Utf.z]
        rintro e w2 ⟨rfl, hb2⟩
        have hbw2 := hbw.trans (hb2.mono hbw.size)
        obtain ⟨hc2, hf2⟩ := bcellU hb2
        have hz : w.heap.size + 1 < w1.heap.size := by have := hb1.size; simp at this; omega
        go_wp2_with fail
        refine bodyPost_ret (v := .tuple #[.agg #[.int .i64 0, .int .i64 0, .int .i64 0], .bool false]) (by simp [results, Tryz.results190, go_sem, hc, hc2, hz]) rfl ⟨rfl, ?_⟩
        repeat (first | exact hbw2 | refine Below.setCell ?_ (by simp) _)
      · simp only [stepV, utV]
        rintro e w2 ⟨rfl, hb2⟩
        have hbw2 := hbw.trans (hb2.mono hbw.size)
        obtain ⟨hc2, hf2⟩ := bcellU hb2
        have hz : w.heap.size + 1 < w1.heap.size := by have := hb1.size; simp at this; omega
        go_wp2_with fail
        refine bodyPost_ret (v := .tuple #[.agg #[.int .i64 a, .int .i64 c, .int .i64 d], .bool true]) (by simp [results, Tryz.results190, go_sem, hc, hc2, hz]) rfl ⟨rfl, ?_⟩
        repeat (first | exact hbw2 | refine Below.setCell ?_ (by simp) _)
    · by_cases hin : L ≤ b ∧ b ≤ H
      · have b0 := neB h0
        by_cases h1 : W = 1
        · subst h1
          have He := Lib.hid (show Utf.next (1, L, H) b = some Utf.z by rw [Utf.next_on b hok h0, if_pos hin, if_pos rfl])
          have Hok := Lib.hid hok
          have Hin := Lib.hid hin
          clear hok hin h0
          go_enter Tryz.func190, Tryz.ntmps190
          go_wp2_with fail
          refine (specUtfOk_yes Hok.out _).mono ?_
          rintro e w1 ⟨rfl, hb1⟩
          obtain ⟨hc, hf⟩ := bcellU hb1
          have hbw : Below w.heap.size w w1 := (two_new _ _).trans (hb1.mono (by simp; omega))
          go_wp2_with fail
          refine (specInYes _ _ _ _ Hin.out).mono ?_
          rintro e w2 ⟨rfl, rfl⟩
          go_wp2_with fail
          refine bodyPost_ret (v := .tuple #[.agg #[.int .i64 0, .int .i64 0, .int .i64 0], .bool true]) (by simp [results, Tryz.results190, go_sem, hc]) rfl ⟨by rw [He.out]; rfl, ?_⟩
          repeat (first | exact hbw | refine Below.setCell ?_ (by simp) _)
        · have b1 := neB h1
          have hs : 0 ≤ W ∧ W ≤ 3 := ⟨(Utf.ok_small hok).1, (Utf.ok_small hok).2.1⟩
          have hw : IntKind.i64.wrap (W - 1) = W - 1 := IntWalk.i64_in _ (by omega)
          have He := Lib.hid (show Utf.next (W, L, H) b = some (W - 1, 128, 191) by rw [Utf.next_on b hok h0, if_pos hin, if_neg h1])
          have Hok := Lib.hid hok
          have Hin := Lib.hid hin
          clear hok hin h0 h1
          go_enter Tryz.func190, Tryz.ntmps190
          go_wp2_with fail
          refine (specUtfOk_yes Hok.out _).mono ?_
          rintro e w1 ⟨rfl, hb1⟩
          obtain ⟨hc, hf⟩ := bcellU hb1
          have hbw : Below w.heap.size w w1 := (two_new _ _).trans (hb1.mono (by simp; omega))
          go_wp2_with fail
          refine (specInYes _ _ _ _ Hin.out).mono ?_
          rintro e w2 ⟨rfl, rfl⟩
          go_wp2_with fail
          refine bodyPost_ret (v := .tuple #[.agg #[.int .i64 (W - 1), .int .i64 128, .int .i64 191], .bool true]) (by simp [results, Tryz.results190, go_sem, hc]) rfl ⟨by rw [He.out]; rfl, ?_⟩
          repeat (first | exact hbw | refine Below.setCell ?_ (by simp) _)
      · have b0 := neB h0
        have He := Lib.hid (show Utf.next (W, L, H) b = none by rw [Utf.next_on b hok h0, if_neg hin])
        have Hok := Lib.hid hok
        have Hin := Lib.hid hin
        clear hok hin h0
        go_enter Tryz.func190, Tryz.ntmps190
        go_wp2_with fail
        refine (specUtfOk_yes Hok.out _).mono ?_
        rintro e w1 ⟨rfl, hb1⟩
        obtain ⟨hc, hf⟩ := bcellU hb1
        have hbw : Below w.heap.size w w1 := (two_new _ _).trans (hb1.mono (by simp; omega))
        go_wp2_with fail
        refine (specInNo _ _ _ _ Hin.out).mono ?_
        rintro e w2 ⟨rfl, rfl⟩
        go_wp2_with fail
        refine bodyPost_ret (v := .tuple #[.agg #[.int .i64 W, .int .i64 L, .int .i64 H], .bool false]) (by simp [results, Tryz.results190, go_sem, hc]) rfl ⟨by rw [He.out]; rfl, ?_⟩
        repeat (first | exact hbw | refine Below.setCell ?_ (by simp) _)
  · have He := Lib.hid (next_bad (b := b) hok)
    have Hok := Lib.hid hok
    clear hok
    go_enter Tryz.func190, Tryz.ntmps190
    go_wp2_with fail
    refine (specUtfOk_no Hok.out _).mono ?_
    rintro e w1 ⟨rfl, hb1⟩
    obtain ⟨hc, hf⟩ := bcellU hb1
    have hbw : Below w.heap.size w w1 := (two_new _ _).trans (hb1.mono (by simp; omega))
    go_wp2_with fail
    refine bodyPost_ret (v := .tuple #[.agg #[.int .i64 W, .int .i64 L, .int .i64 H], .bool false]) (by simp [results, Tryz.results190, go_sem, hc]) rfl ⟨by rw [He.out]; rfl, ?_⟩
    repeat (first | exact hbw | refine Below.setCell ?_ (by simp) _)
end Go.Proofs.YtpkofbdfnbpfpaaGreat.Num


/-
  The walks of the reference's UtfText, UtfGood and UtfState: they give what the plain validator gives; only new memory is written.
-/
namespace Go.Proofs.YtpkofbdfnbpfpaaGreat.Num
open Go.RowKit Go.Proofs
set_option linter.unusedVariables false

/-- The place of a refused byte, or -1. -/
def offI : Option Nat → Int
  | none => -1
  | some k => k
def textV (r : Utf.St × Option Nat) : Value := .tuple #[utV r.1, .int .i64 (offI r.2)]
/-- The same, k bytes later. -/
def lat (k : Nat) (r : Utf.St × Option Nat) : Utf.St × Option Nat := (r.1, r.2.map (· + k))
theorem lat_zero (r : Utf.St × Option Nat) : lat 0 r = r := by obtain ⟨a, _ | b⟩ := r <;> rfl
theorem lat_lat (j k : Nat) (r : Utf.St × Option Nat) : lat k (lat j r) = lat (j + k) r := by
  obtain ⟨a, _ | b⟩ := r
  · rfl
  · show (a, some (b + j + k)) = (a, some (b + (j + k))); rw [Nat.add_assoc]
theorem run_more {u v : Utf.St} {b : UInt8} {l : List UInt8} (h : Utf.next u (b.toNat : Int) = some v) : Utf.run u (b :: l) = lat 1 (Utf.run v l) := Utf.run_some h
theorem drop_byte (s : ByteArray) (k : Nat) (h : k < s.size) : s.data.toList.drop k = s[k] :: s.data.toList.drop (k + 1) := by
  have h2 : k < s.data.toList.length := by simpa using h
  rw [List.drop_eq_getElem_cons h2]; rfl
theorem drop_end (s : ByteArray) (k : Nat) (h : s.size ≤ k) : s.data.toList.drop k = [] := List.drop_eq_nil_of_le (by simpa using h)
theorem drewLt {w w1 : World} {B : Nat} (hb : Below B w.drew w1) : w.heap.size ≤ w1.heap.size := hb.size
theorem drewAllocLt {w w1 : World} {o : Obj} {B : Nat} (hb : Below B (w.alloc o).drew w1) : w.heap.size < w1.heap.size := by have := hb.size; simp at this; omega
theorem freshLt (w : World) (o : Obj) : w.heap.size < (w.alloc o).drew.heap.size := by simp
theorem freshTwo (w : World) (o : Obj) (cs : Array Value) (t : TypeId) : Box ((w.alloc o).alloc (.cells cs t)) (w.heap.size + 1) cs.toList := by
  have h := Box.fresh (w.alloc o) cs t
  rwa [show (w.alloc o).heap.size = w.heap.size + 1 by simp] at h
section
variable {w wr w1 : World} {T : TypeId} {a b c d e f : Value}
theorem endA3 (hx : Box wr w.heap.size [a, b, c]) (hy : Box wr (w.heap.size + 1) [d, e, f]) (hl : Below w.heap.size w wr) (hb : Below wr.drew.heap.size wr.drew w1) (A B C : Int) :
    Box (w1.alloc (.cells #[.int .i64 A, .int .i64 B, .int .i64 C] 206)) w.heap.size [a, b, c] ∧ Box (w1.alloc (.cells #[.int .i64 A, .int .i64 B, .int .i64 C] 206)) (w.heap.size + 1) [d, e, f] ∧ Box (w1.alloc (.cells #[.int .i64 A, .int .i64 B, .int .i64 C] 206)) w1.heap.size [.int .i64 A, .int .i64 B, .int .i64 C] ∧ Below w.heap.size w (w1.alloc (.cells #[.int .i64 A, .int .i64 B, .int .i64 C] 206)) ∧ w.heap.size + 1 < w1.heap.size := by
  have h2 : Below w.heap.size w w1 := hl.drew.trans (hb.mono hl.size)
  have h3 := hy.lt
  have h4 := drewLt hb
  exact ⟨(hx.drew.below hb hx.lt).alloc _, (hy.drew.below hb hy.lt).alloc _, Box.fresh _ _ _, h2.alloc (by omega) _, by omega⟩
theorem endB3 (hx : Box wr w.heap.size [a, b, c]) (hy : Box wr (w.heap.size + 1) [d, e, f]) (hl : Below w.heap.size w wr) (hb : Below (wr.alloc (.cells #[.int .i64 0, .int .i64 0, .int .i64 0] T)).drew.heap.size (wr.alloc (.cells #[.int .i64 0, .int .i64 0, .int .i64 0] T)).drew w1) (A B C : Int) :
    Box (((w1.setCell ⟨wr.heap.size, 0, none⟩ (.int .i64 A)).setCell ⟨wr.heap.size, 1, none⟩ (.int .i64 B)).setCell ⟨wr.heap.size, 2, none⟩ (.int .i64 C)) w.heap.size [a, b, c] ∧ Box (((w1.setCell ⟨wr.heap.size, 0, none⟩ (.int .i64 A)).setCell ⟨wr.heap.size, 1, none⟩ (.int .i64 B)).setCell ⟨wr.heap.size, 2, none⟩ (.int .i64 C)) (w.heap.size + 1) [d, e, f] ∧ Box (((w1.setCell ⟨wr.heap.size, 0, none⟩ (.int .i64 A)).setCell ⟨wr.heap.size, 1, none⟩ (.int .i64 B)).setCell ⟨wr.heap.size, 2, none⟩ (.int .i64 C)) wr.heap.size [.int .i64 A, .int .i64 B, .int .i64 C] ∧ Below w.heap.size w (((w1.setCell ⟨wr.heap.size, 0, none⟩ (.int .i64 A)).setCell ⟨wr.heap.size, 1, none⟩ (.int .i64 B)).setCell ⟨wr.heap.size, 2, none⟩ (.int .i64 C)) ∧ w.heap.size + 1 < wr.heap.size := by
  have h3 := hy.lt
  have h2 : Below w.heap.size w w1 := (hl.alloc hl.size _).drew.trans (hb.mono (by simp; omega))
  refine ⟨((((hx.alloc _).drew.below hb (by simp; omega)).other (by simp; omega) _).other (by simp; omega) _).other (by simp; omega) _, ((((hy.alloc _).drew.below hb (by simp; omega)).other (by simp; omega) _).other (by simp; omega) _).other (by simp; omega) _, ((((Box.fresh wr _ _).drew.below hb (by simp)).set 0 _).set 1 _).set 2 _, ((h2.setCell (by simp; omega) _).setCell (by simp; omega) _).setCell (by simp; omega) _, h3⟩
end
theorem specByte_as (W L H b : Int) (r : Option Utf.St) (h : Utf.next (W, L, H) b = r) (w : World) : Calls Tryz.prog 190 #[.agg #[.int .i64 W, .int .i64 L, .int .i64 H], .int .i64 b] w fun e w' => e = .returned (stepV (W, L, H) r) ∧ Below w.heap.size w w' := h ▸ specUtfByte_any W L H b w
set_option maxHeartbeats 2000000 in
set_option maxRecDepth 100000 in
theorem specUtfText_any (W L H : Int) (s : ByteArray) (w : World) (hs : s.size ≤ 281474976710656) :
    Calls Tryz.prog 170 #[utV (W, L, H), .string s] w fun e w' => e = .returned (textV (Utf.run (W, L, H) s.data.toList)) ∧ Below w.heap.size w w' := by
  unfold utV
  simp only
  generalize hR : Utf.run (W, L, H) s.data.toList = R
  have HR := Lib.hid hR; clear hR
  go_enter Tryz.func170, Tryz.ntmps170
  go_wp2_with fail
  go_loopw [6] (fun i wr => ∃ (k : Nat) (A B C : Int), k ≤ s.size ∧ i = .int .i64 k ∧ Hid (R = lat k (Utf.run (A, B, C) (s.data.toList.drop k))) ∧ Hid (Box wr w.heap.size [.int .i64 A, .int .i64 B, .int .i64 C]) ∧ Hid (Box wr (w.heap.size + 1) [.int .i64 0, .int .i64 0, .int .i64 0]) ∧ Below w.heap.size w wr) (fun i _ => s.size - (intOf i).toNat)
  case atStart => exact ⟨0, W, L, H, by omega, rfl, Lib.hid (by rw [← HR.out, lat_zero]; rfl), Lib.hid ((Box.fresh _ _ _).alloc _), Lib.hid (freshTwo _ _ _ _), ((Below.refl _ _).alloc (Nat.le_refl _) _).alloc (by simp) _⟩
  case round =>
    obtain ⟨k, A, B, C, hk, rfl, Hst, hbx, hby, hbl⟩ := hrel
    obtain ⟨c0, c1, c2, f0, f1, f2⟩ := hbx.out.three
    obtain ⟨d0, d1, d2, g0, g1, g2⟩ := hby.out.three
    have hz0 := hbx.out.lt
    have hz1 := hby.out.lt
    by_cases hlt : k < s.size
    · have Hdr := Lib.hid (drop_byte s k hlt)
      have hch : s[k].toNat < 256 := s[k].toNat_lt
      generalize hS : Utf.next (A, B, C) (s[k].toNat : Int) = S
      have HS := Lib.hid hS; clear hS
      have hltb : (k : Int) < (s.size : Int) := by omega
      have hw8 : IntKind.i64.wrap (s[k].toNat : Int) = (s[k].toNat : Int) := IntWalk.i64_in _ (by omega)
      rcases S with _ | ⟨A', B', C'⟩
      · go_wp2_with fail
        go_region_with (go_at_call 190; refine (specByte_as A B C s[k].toNat _ HS.out _).mono ?_; simp only [stepV, utV]; rintro e w1 ⟨rfl, hb1⟩; first | (obtain ⟨e0, e1, e2, p0, p1, p2⟩ := (hbx.out.drew.below hb1 hz0).three; have hq := drewLt hb1) | (obtain ⟨e0, e1, e2, p0, p1, p2⟩ := ((Box.fresh wr _ _).drew.below hb1 (freshLt _ _)).three; have hq := drewAllocLt hb1))
        all_goals
          first
          | (have KK := endA3 hbx.out hby.out hbl hb1 A B C
             obtain ⟨K0, K1, K2, hB, hg⟩ := KK
             generalize w1.alloc (.cells #[.int .i64 A, .int .i64 B, .int .i64 C] 206) = w2 at K0 K1 K2 hB ⊢
             generalize w1.heap.size = g at K2 hg ⊢)
          | (have KK := endB3 hbx.out hby.out hbl hb1 A B C
             obtain ⟨K0, K1, K2, hB, hg⟩ := KK
             generalize ((w1.setCell ⟨wr.heap.size, 0, none⟩ (.int .i64 A)).setCell ⟨wr.heap.size, 1, none⟩ (.int .i64 B)).setCell ⟨wr.heap.size, 2, none⟩ (.int .i64 C) = w2 at K0 K1 K2 hB ⊢
             generalize wr.heap.size = g at K2 hg ⊢)
        all_goals
          obtain ⟨e0, e1, e2, p0, p1, p2⟩ := K0.three
          obtain ⟨e3, e4, e5, p3, p4, p5⟩ := K1.three
          obtain ⟨e6, e7, e8, p6, p7, p8⟩ := K2.three
          have HK0 := Lib.hid K0
          have HK1 := Lib.hid K1
          clear K0 K1 K2
          go_wp2_with fail
          refine bodyPost_ret (v := .tuple #[.agg #[.int .i64 A, .int .i64 B, .int .i64 C], .int .i64 k]) (by simp [results, Tryz.results170, go_sem, e3, e4, e5]) rfl ⟨?_, ?_⟩
          · rw [Hst.out, Hdr.out, Utf.run_none HS.out]; simp [lat, textV, utV, offI]
          · repeat (first | exact hB | refine Below.setCell ?_ (by simp) _)
      · go_wp2_with fail
        go_region_with (go_at_call 190; refine (specByte_as A B C s[k].toNat _ HS.out _).mono ?_; simp only [stepV, utV]; rintro e w1 ⟨rfl, hb1⟩; first | (obtain ⟨e0, e1, e2, p0, p1, p2⟩ := (hbx.out.drew.below hb1 hz0).three; have hq := drewLt hb1) | (obtain ⟨e0, e1, e2, p0, p1, p2⟩ := ((Box.fresh wr _ _).drew.below hb1 (freshLt _ _)).three; have hq := drewAllocLt hb1))
        all_goals
          first
          | (have KK := endA3 hbx.out hby.out hbl hb1 A' B' C'
             obtain ⟨K0, K1, K2, hB, hg⟩ := KK
             generalize w1.alloc (.cells #[.int .i64 A', .int .i64 B', .int .i64 C'] 206) = w2 at K0 K1 K2 hB ⊢
             generalize w1.heap.size = g at K2 hg ⊢)
          | (have KK := endB3 hbx.out hby.out hbl hb1 A' B' C'
             obtain ⟨K0, K1, K2, hB, hg⟩ := KK
             generalize ((w1.setCell ⟨wr.heap.size, 0, none⟩ (.int .i64 A')).setCell ⟨wr.heap.size, 1, none⟩ (.int .i64 B')).setCell ⟨wr.heap.size, 2, none⟩ (.int .i64 C') = w2 at K0 K1 K2 hB ⊢
             generalize wr.heap.size = g at K2 hg ⊢)
        all_goals
          obtain ⟨e0, e1, e2, p0, p1, p2⟩ := K0.three
          obtain ⟨e3, e4, e5, p3, p4, p5⟩ := K1.three
          obtain ⟨e6, e7, e8, p6, p7, p8⟩ := K2.three
          have HK0 := Lib.hid K0
          have HK1 := Lib.hid K1
          clear K0 K1 K2
          go_wp2_with fail
          refine ⟨⟨k + 1, A', B', C', by omega, by go_num, Lib.hid ?_, Lib.hid (((HK0.out.set 0 _).set 1 _).set 2 _), Lib.hid (((HK1.out.other (by simp) _).other (by simp) _).other (by simp) _), ?_⟩, by simp [intOf] <;> omega⟩
          · rw [Hst.out, Hdr.out, run_more HS.out, lat_lat, Nat.add_comm]
          · repeat (first | exact hB | refine Below.setCell ?_ (by simp) _)
    · have hks : k = s.size := by omega
      have hend : decide (k < s.size) = false := decide_eq_false hlt
      have Hall := Lib.hid (drop_end s k (by omega))
      have hge : (s.size : Int) ≤ (k : Int) := by omega
      clear hks
      go_wp2_with fail
      refine bodyPost_ret (v := .tuple #[.agg #[.int .i64 A, .int .i64 B, .int .i64 C], .int .i64 (-1)]) (by simp [results, Tryz.results170, go_sem, d0, d1, d2]) rfl ⟨?_, ?_⟩
      · rw [Hst.out, Hall.out, Utf.run_nil]; rfl
      · repeat (first | exact hbl | refine Below.drew ?_ | refine Below.setCell ?_ (by simp) _ | refine Below.alloc ?_ (by simp <;> omega) _)
end Go.Proofs.YtpkofbdfnbpfpaaGreat.Num

