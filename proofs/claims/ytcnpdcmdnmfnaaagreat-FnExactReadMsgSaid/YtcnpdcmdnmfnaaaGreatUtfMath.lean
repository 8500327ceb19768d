/-
  Plain lemmas on the validator of UTF-8: its steps, its run over a list of bytes, cutting, and the bytes of a code point.
-/
import Derived.Lib.Hide
namespace Go.Proofs.YtcnpdcmdnmfnaaaGreat.Utf
set_option linter.unusedVariables false

/-- Want, Low, High. -/
abbrev St := Int × Int × Int
def Ok (u : St) : Prop :=
  (u.1 = 0 ∧ u.2.1 = 0 ∧ u.2.2 = 0) ∨ (u.2.1 = 128 ∧ u.2.2 = 191 ∧ 1 ≤ u.1 ∧ u.1 ≤ 3) ∨
    (u.1 = 2 ∧ ((u.2.1 = 160 ∧ u.2.2 = 191) ∨ (u.2.1 = 128 ∧ u.2.2 = 159))) ∨ (u.1 = 3 ∧ ((u.2.1 = 144 ∧ u.2.2 = 191) ∨ (u.2.1 = 128 ∧ u.2.2 = 143)))
instance (u : St) : Decidable (Ok u) := by unfold Ok; infer_instance
def z : St := (0, 0, 0)
/-- The state behind the first byte of a code point, if it may be one. -/
def first (b : Int) : Option St :=
  if 0 ≤ b ∧ b ≤ 127 then some z
  else if 194 ≤ b ∧ b ≤ 223 then some (1, 128, 191)
  else if 224 ≤ b ∧ b ≤ 239 then some (2, (if b = 224 then 160 else 128), (if b = 237 then 159 else 191))
  else if 240 ≤ b ∧ b ≤ 244 then some (3, (if b = 240 then 144 else 128), (if b = 244 then 143 else 191))
  else none
def next (u : St) (b : Int) : Option St :=
  if Ok u then
    if u.1 = 0 then first b
    else if u.2.1 ≤ b ∧ b ≤ u.2.2 then (if u.1 = 1 then some z else some (u.1 - 1, 128, 191)) else none
  else none
/-- The state behind a list of bytes, and the place of the byte that was refused. -/
def run : St → List UInt8 → St × Option Nat
  | u, [] => (u, none)
  | u, b :: l => match next u (b.toNat : Int) with
    | none => (u, some 0)
    | some v => ((run v l).1, (run v l).2.map (· + 1))
theorem run_nil (u : St) : run u [] = (u, none) := rfl
theorem run_none {u : St} {b : UInt8} {l : List UInt8} (h : next u (b.toNat : Int) = none) : run u (b :: l) = (u, some 0) := by simp only [run, h]
theorem run_some {u v : St} {b : UInt8} {l : List UInt8} (h : next u (b.toNat : Int) = some v) : run u (b :: l) = ((run v l).1, (run v l).2.map (· + 1)) := by simp only [run, h]
theorem run_append : ∀ (a : List UInt8) (u : St) (b : List UInt8), run u (a ++ b) = match run u a with
    | (v, none) => ((run v b).1, (run v b).2.map (· + a.length))
    | (v, some k) => (v, some k)
  | [], u, b => by simp [run_nil]
  | c :: a, u, b => by
    rw [List.cons_append]
    cases hn : next u (c.toNat : Int) with
    | none => rw [run_none hn, run_none hn]
    | some v =>
      rw [run_some hn, run_some hn, run_append a v b]
      rcases hr : run v a with ⟨x, _ | k⟩
      · simp only [Option.map_none, Option.map_map, List.length_cons]
        congr 2
      · rfl
theorem run_bound : ∀ (l : List UInt8) (u : St) (k : Nat), (run u l).2 = some k → k < l.length
  | [], u, k, h => by simp [run_nil] at h
  | b :: l, u, k, h => by
    cases hn : next u (b.toNat : Int) with
    | none => rw [run_none hn] at h; injection h with h; subst h; simp
    | some v =>
      rw [run_some hn] at h
      simp only [Option.map_eq_some_iff] at h
      obtain ⟨m, hm, rfl⟩ := h
      have := run_bound l v m hm
      simp; omega
theorem ok_z : Ok z := .inl ⟨rfl, rfl, rfl⟩
theorem ok_zero {u : St} (h : Ok u) (h0 : u.1 = 0) : u = z := by
  obtain ⟨a, b, c⟩ := u
  unfold Ok at h
  simp only at h h0
  have : a = 0 ∧ b = 0 ∧ c = 0 := by omega
  obtain ⟨rfl, rfl, rfl⟩ := this
  rfl
theorem first_ok {b : Int} {v : St} (h : first b = some v) : Ok v := by
  unfold first at h
  split at h
  · injection h with h; subst h; exact ok_z
  · split at h
    · injection h with h; subst h; unfold Ok; simp
    · split at h
      · injection h with h; subst h; unfold Ok; simp only; split <;> split <;> first | decide | omega
      · split at h
        · injection h with h; subst h; unfold Ok; simp only; split <;> split <;> first | decide | omega
        · cases h
theorem next_ok {u v : St} {b : Int} (h : next u b = some v) : Ok v := by
  by_cases hok : Ok u
  · unfold next at h
    rw [if_pos hok] at h
    by_cases h0 : u.1 = 0
    · rw [if_pos h0] at h; exact first_ok h
    · rw [if_neg h0] at h
      by_cases hr : u.2.1 ≤ b ∧ b ≤ u.2.2
      · rw [if_pos hr] at h
        by_cases h1 : u.1 = 1
        · rw [if_pos h1] at h; injection h with h; subst h; exact ok_z
        · rw [if_neg h1] at h; injection h with h; subst h
          clear hr
          unfold Ok at hok ⊢
          refine .inr (.inl ⟨rfl, rfl, ?_, ?_⟩) <;> show _ <;> simp only <;> omega
      · rw [if_neg hr] at h; cases h
  · unfold next at h; rw [if_neg hok] at h; cases h
theorem run_ok : ∀ (l : List UInt8) (u : St), Ok u → Ok (run u l).1
  | [], u, h => h
  | b :: l, u, h => by
    cases hn : next u (b.toNat : Int) with
    | none => rw [run_none hn]; exact h
    | some v => rw [run_some hn]; exact run_ok l v (next_ok hn)
theorem ok_small {u : St} (h : Ok u) : 0 ≤ u.1 ∧ u.1 ≤ 3 ∧ 0 ≤ u.2.1 ∧ u.2.1 ≤ 160 ∧ 0 ≤ u.2.2 ∧ u.2.2 ≤ 191 := by unfold Ok at h; omega
/-- Whether the bytes end where a code point ends, none refused. -/
def goodFrom (u : St) (l : List UInt8) : Bool := decide ((run u l).2 = none ∧ (run u l).1.1 = 0)
def good (l : List UInt8) : Bool := goodFrom z l
theorem goodFrom_nil (u : St) : goodFrom u [] = decide (u.1 = 0) := by unfold goodFrom; simp [run_nil]
theorem goodFrom_none {u : St} {b : UInt8} {l : List UInt8} (h : next u (b.toNat : Int) = none) : goodFrom u (b :: l) = false := by unfold goodFrom; rw [run_none h]; simp
theorem goodFrom_some {u v : St} {b : UInt8} {l : List UInt8} (h : next u (b.toNat : Int) = some v) : goodFrom u (b :: l) = goodFrom v l := by
  unfold goodFrom; rw [run_some h]; simp
theorem next_z (b : Int) : next z b = first b := by
  unfold next; rw [if_pos ok_z]; exact if_pos rfl
theorem next_on {W L H : Int} (b : Int) (h : Ok (W, L, H)) (h0 : W ≠ 0) : next (W, L, H) b = if L ≤ b ∧ b ≤ H then (if W = 1 then some z else some (W - 1, 128, 191)) else none := by
  unfold next; rw [if_pos h, if_neg h0]
theorem next_1 (b : Int) : next (1, 128, 191) b = if 128 ≤ b ∧ b ≤ 191 then some z else none := by
  rw [next_on b (by unfold Ok; simp) (by decide)]; rfl
theorem next_2 {L H : Int} (b : Int) (h : Ok (2, L, H)) : next (2, L, H) b = if L ≤ b ∧ b ≤ H then some (1, 128, 191) else none := by
  rw [next_on b h (by decide)]; rfl
theorem next_3 {L H : Int} (b : Int) (h : Ok (3, L, H)) : next (3, L, H) b = if L ≤ b ∧ b ≤ H then some (2, 128, 191) else none := by
  rw [next_on b h (by decide)]; rfl
theorem ok_2 : Ok (2, 128, 191) := by unfold Ok; simp

/-- A byte by its number. -/
def u8 (n : Nat) : UInt8 := UInt8.ofNat n
theorem u8_toNat {n : Nat} (h : n < 256) : (u8 n).toNat = n := by unfold u8; rw [UInt8.toNat_ofNat']; omega
theorem u8_eq {n : Nat} {b : UInt8} (h : n < 256) : u8 n = b ↔ n = b.toNat := by
  constructor
  · intro e; rw [← e, u8_toNat h]
  · intro e; subst e; unfold u8; simp
def Right (n : Int) : Prop := (0 ≤ n ∧ n ≤ 1114111) ∧ ¬ (55296 ≤ n ∧ n ≤ 57343)
instance (n : Int) : Decidable (Right n) := by unfold Right; infer_instance
def runeN (n : Nat) : List UInt8 :=
  if n < 128 then [u8 n]
  else if n < 2048 then [u8 (192 + n / 64), u8 (128 + n % 64)]
  else if n < 65536 then [u8 (224 + n / 4096), u8 (128 + n / 64 % 64), u8 (128 + n % 64)]
  else [u8 (240 + n / 262144), u8 (128 + n / 4096 % 64), u8 (128 + n / 64 % 64), u8 (128 + n % 64)]
/-- The bytes of a code point; none where there is none. -/
def rune (n : Int) : List UInt8 := if Right n then runeN n.toNat else []
theorem rune_no {n : Int} (h : ¬ Right n) : rune n = [] := if_neg h
theorem rune_1 {n : Nat} (h : n < 128) : rune n = [u8 n] := by
  unfold rune; rw [if_pos (by unfold Right; omega), Int.toNat_natCast]; unfold runeN; rw [if_pos h]
theorem rune_2 {n : Nat} (h0 : 128 ≤ n) (h : n < 2048) : rune n = [u8 (192 + n / 64), u8 (128 + n % 64)] := by
  unfold rune; rw [if_pos (by unfold Right; omega), Int.toNat_natCast]; unfold runeN; rw [if_neg (by omega), if_pos h]
theorem rune_3 {n : Nat} (h0 : 2048 ≤ n) (h : n < 65536) (hs : ¬ (55296 ≤ n ∧ n ≤ 57343)) : rune n = [u8 (224 + n / 4096), u8 (128 + n / 64 % 64), u8 (128 + n % 64)] := by
  unfold rune; rw [if_pos (by unfold Right; omega), Int.toNat_natCast]; unfold runeN; rw [if_neg (by omega), if_neg (by omega), if_pos h]
theorem rune_4 {n : Nat} (h0 : 65536 ≤ n) (h : n ≤ 1114111) : rune n = [u8 (240 + n / 262144), u8 (128 + n / 4096 % 64), u8 (128 + n / 64 % 64), u8 (128 + n % 64)] := by
  unfold rune; rw [if_pos (by unfold Right; omega), Int.toNat_natCast]; unfold runeN; rw [if_neg (by omega), if_neg (by omega), if_neg (by omega)]
theorem rune_cases (n : Int) : (¬ Right n ∧ rune n = []) ∨ ∃ k : Nat, n = (k : Int) ∧ Right n ∧ (k < 128 ∨ (128 ≤ k ∧ k < 2048) ∨ (2048 ≤ k ∧ k < 65536 ∧ ¬ (55296 ≤ k ∧ k ≤ 57343)) ∨ (65536 ≤ k ∧ k ≤ 1114111)) := by
  by_cases h : Right n
  · have h2 := h
    unfold Right at h2
    exact .inr ⟨n.toNat, by omega, h, by omega⟩
  · exact .inl ⟨h, rune_no h⟩
theorem rune_len (n : Int) : (rune n).length ≤ 4 := by
  unfold rune
  split
  · unfold runeN
    repeat (first | split | simp)
  · simp
/-! The first bytes. -/
theorem first_1 {b : Int} (h : 0 ≤ b ∧ b ≤ 127) : first b = some z := if_pos h
theorem first_2 {b : Int} (h : 194 ≤ b ∧ b ≤ 223) : first b = some (1, 128, 191) := by unfold first; rw [if_neg (by omega), if_pos h]
theorem first_3 {b : Int} (h : 224 ≤ b ∧ b ≤ 239) : first b = some (2, (if b = 224 then 160 else 128), (if b = 237 then 159 else 191)) := by unfold first; rw [if_neg (by omega), if_neg (by omega), if_pos h]
theorem first_4 {b : Int} (h : 240 ≤ b ∧ b ≤ 244) : first b = some (3, (if b = 240 then 144 else 128), (if b = 244 then 143 else 191)) := by unfold first; rw [if_neg (by omega), if_neg (by omega), if_neg (by omega), if_pos h]
theorem first_no {b : Int} (h : ¬ ((0 ≤ b ∧ b ≤ 127) ∨ (194 ≤ b ∧ b ≤ 244))) : first b = none := by unfold first; rw [if_neg (by omega), if_neg (by omega), if_neg (by omega), if_neg (by omega)]
end Go.Proofs.YtcnpdcmdnmfnaaaGreat.Utf
