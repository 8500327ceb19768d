/-
  The text of a field as the document gives it (stage 9), as a list of bytes: its words, and that the words tell the field. Plain facts; no program is named here.
-/
import Derived.Test.YtcbohfncckpolaaGreatDoorPartsMath
import Derived.Test.YtcbohfncckpolaaGreatDoorNumMath
import Derived.Test.YtcbohfncckpolaaGreatDoorKind
import Derived.Test.YtcbohfncckpolaaGreatDoorRaw
namespace Go.Proofs.YtcbohfncckpolaaGreatDoor.Num
set_option linter.unusedVariables false
def repW : List UInt8 := [114, 101, 112, 101, 97, 116, 101, 100]
def packW : List UInt8 := [112, 97, 99, 107, 101, 100]
def wordL (k : Int) : List UInt8 := (wordR k).data.toList
/-- Has the field a text? -/
def hasText (f : RF) : Prop := (1 ≤ f.1 ∧ f.1 ≤ 536870911) ∧ (1 ≤ f.2.1 ∧ f.2.1 ≤ 8) ∧ (f.2.1 = 8 → 1 ≤ f.2.2.2.2 ∧ f.2.2.2.2 ≤ 99) ∧ (f.2.1 ≠ 8 → f.2.2.2.2 = 0)
instance (f : RF) : Decidable (hasText f) := inferInstanceAs (Decidable (_ ∧ _))
/-- The words behind the Number. -/
def moreW (f : RF) : List (List UInt8) := wordL f.2.1 :: ((if f.2.1 = 8 then [dec f.2.2.2.2.toNat] else []) ++ ((if f.2.2.1 = true then [repW] else []) ++ (if f.2.2.2.1 = true then [packW] else [])))
def textF (f : RF) : List UInt8 := if hasText f then joinF 32 (dec f.1.toNat) (moreW f) else []
theorem dec_inj {a b : Nat} (h : dec a = dec b) : a = b := by rw [← val_dec a, h, val_dec]
theorem wordL_cases {k : Int} (h : 1 ≤ k ∧ k ≤ 8) : (k = 1 ∧ wordL k = [117, 105, 110, 116]) ∨ (k = 2 ∧ wordL k = [115, 105, 110, 116]) ∨ (k = 3 ∧ wordL k = [98, 111, 111, 108]) ∨ (k = 4 ∧ wordL k = [102, 111, 117, 114]) ∨ (k = 5 ∧ wordL k = [101, 105, 103, 104, 116]) ∨ (k = 6 ∧ wordL k = [116, 101, 120, 116]) ∨ (k = 7 ∧ wordL k = [98, 121, 116, 101, 115]) ∨ (k = 8 ∧ wordL k = [109, 115, 103]) := by
  obtain rfl | rfl | rfl | rfl | rfl | rfl | rfl | rfl : k = 1 ∨ k = 2 ∨ k = 3 ∨ k = 4 ∨ k = 5 ∨ k = 6 ∨ k = 7 ∨ k = 8 := by omega
  all_goals simp [wordL, wordR]
theorem wordL_inj {a b : Int} (ha : 1 ≤ a ∧ a ≤ 8) (hb : 1 ≤ b ∧ b ≤ 8) (h : wordL a = wordL b) : a = b := by
  rcases wordL_cases ha with ⟨rfl, e⟩ | ⟨rfl, e⟩ | ⟨rfl, e⟩ | ⟨rfl, e⟩ | ⟨rfl, e⟩ | ⟨rfl, e⟩ | ⟨rfl, e⟩ | ⟨rfl, e⟩ <;>
  rcases wordL_cases hb with ⟨rfl, e'⟩ | ⟨rfl, e'⟩ | ⟨rfl, e'⟩ | ⟨rfl, e'⟩ | ⟨rfl, e'⟩ | ⟨rfl, e'⟩ | ⟨rfl, e'⟩ | ⟨rfl, e'⟩ <;>
  first
    | rfl
    | (rw [e, e'] at h; simp at h)
/-- The bytes of a word: digits, or small letters. -/
def wordy (c : UInt8) : Prop := (48 ≤ c.toNat ∧ c.toNat ≤ 57) ∨ (97 ≤ c.toNat ∧ c.toNat ≤ 122)
instance (c : UInt8) : Decidable (wordy c) := inferInstanceAs (Decidable (_ ∨ _))
theorem dec_wordy {u : Nat} {c : UInt8} (h : c ∈ dec u) : wordy c := by
  have := List.all_eq_true.1 (dec_all u) c h
  exact .inl (of_decide_eq_true this)
theorem all_wordy {l : List UInt8} (h : l.all (fun c => decide (wordy c)) = true) {c : UInt8} (hc : c ∈ l) : wordy c := of_decide_eq_true (List.all_eq_true.1 h c hc)
theorem wordL_wordy {k : Int} (h : 1 ≤ k ∧ k ≤ 8) {c : UInt8} (hc : c ∈ wordL k) : wordy c := by
  rcases wordL_cases h with ⟨_, e⟩ | ⟨_, e⟩ | ⟨_, e⟩ | ⟨_, e⟩ | ⟨_, e⟩ | ⟨_, e⟩ | ⟨_, e⟩ | ⟨_, e⟩ <;> rw [e] at hc <;> exact all_wordy (by decide) hc
theorem moreW_wordy {f : RF} (h : hasText f) : ∀ p ∈ moreW f, ∀ c ∈ p, wordy c := by
  intro p hp c hc
  unfold moreW at hp
  rcases List.mem_cons.1 hp with rfl | hp
  · exact wordL_wordy h.2.1 hc
  rcases List.mem_append.1 hp with hp | hp
  · by_cases h8 : f.2.1 = 8
    · rw [if_pos h8] at hp
      obtain rfl := List.mem_singleton.1 hp
      exact dec_wordy hc
    · rw [if_neg h8] at hp; cases hp
  rcases List.mem_append.1 hp with hp | hp
  · by_cases hr : f.2.2.1 = true
    · rw [if_pos hr] at hp
      obtain rfl := List.mem_singleton.1 hp
      exact all_wordy (l := repW) (by decide) hc
    · rw [if_neg hr] at hp; cases hp
  · by_cases hr : f.2.2.2.1 = true
    · rw [if_pos hr] at hp
      obtain rfl := List.mem_singleton.1 hp
      exact all_wordy (l := packW) (by decide) hc
    · rw [if_neg hr] at hp; cases hp
/-- What is joined at a byte that no piece holds is cut into the same pieces. -/
theorem partsF_plain (b : UInt8) : ∀ p : List UInt8, (∀ c ∈ p, c ≠ b) → ∀ q : List UInt8, partsF b (p ++ q) = glue p (partsF b q)
  | [], _, q => (glue_nil _ (partsF_ne b q)).symm
  | c :: p, h, q => by
    show partsF b (c :: (p ++ q)) = _
    rw [partsF, if_neg (h c List.mem_cons_self), partsF_plain b p (fun x hx => h x (List.mem_cons_of_mem _ hx)) q, glue_glue _ _ _ (partsF_ne b q)]
    rfl
theorem partsF_join (b : UInt8) : ∀ (t : List (List UInt8)) (h : List UInt8), (∀ p ∈ h :: t, ∀ c ∈ p, c ≠ b) → partsF b (joinF b h t) = h :: t
  | [], h, hp => by
    have := partsF_plain b h (hp h List.mem_cons_self) []
    simp [joinF] at this ⊢
    rw [this]
    simp [partsF, glue]
  | x :: t, h, hp => by
    have e : joinF b h (x :: t) = h ++ (b :: joinF b x t) := by simp [joinF]
    rw [e, partsF_plain b h (hp h List.mem_cons_self), partsF, if_pos rfl, partsF_join b t x fun p hx => hp p (List.mem_cons_of_mem _ hx)]
    simp [glue]
theorem more_inj {f g : RF} (hf : hasText f) (hg : hasText g) (h : moreW f = moreW g) : f.2 = g.2 := by
  obtain ⟨n, k, a, p, x⟩ := f
  obtain ⟨n', k', a', p', x'⟩ := g
  obtain ⟨_, hk, h8, h0⟩ := hf
  obtain ⟨_, hk', h8', h0'⟩ := hg
  simp only at hk h8 h0 hk' h8' h0'
  unfold moreW at h
  simp only at h
  injection h with h1 h2
  obtain rfl := wordL_inj hk hk' h1
  have hx : x = x' ∧ ((if a = true then [repW] else []) ++ (if p = true then [packW] else [])) = ((if a' = true then [repW] else []) ++ (if p' = true then [packW] else [])) := by
    by_cases e : k = 8
    · rw [if_pos e] at h2
      rw [if_pos e] at h2
      injection h2 with h3 h4
      have := dec_inj h3
      have := h8 e
      have := h8' e
      exact ⟨by omega, h4⟩
    · rw [if_neg e] at h2
      rw [if_neg e] at h2
      exact ⟨by rw [h0 e, h0' e], h2⟩
  obtain ⟨rfl, h3⟩ := hx
  cases a <;> cases a' <;> cases p <;> cases p' <;> simp [repW, packW] at h3 ⊢
theorem textF_ne {f : RF} (h : hasText f) : textF f ≠ [] := by
  unfold textF
  rw [if_pos h]
  unfold joinF
  simp [dec_ne]
theorem textF_words {f : RF} (h : hasText f) : partsF 32 (textF f) = dec f.1.toNat :: moreW f := by
  unfold textF
  rw [if_pos h]
  refine partsF_join 32 _ _ fun p hp c hc => ?_
  have hw : wordy c := by
    rcases List.mem_cons.1 hp with rfl | hp
    · exact dec_wordy hc
    · exact moreW_wordy h p hp c hc
  rintro rfl
  rcases hw with ⟨h1, _⟩ | ⟨h1, _⟩ <;> exact absurd h1 (by decide)
/-- The text tells the field. -/
theorem textF_inj {f g : RF} (hf : hasText f) (h : textF f = textF g) : f = g := by
  have hg : hasText g := by
    refine Classical.byContradiction fun hg => textF_ne hf ?_
    rw [h]; unfold textF; rw [if_neg hg]
  have hw := textF_words hf
  rw [h, textF_words hg] at hw
  injection hw with h1 h2
  have e1 := dec_inj h1
  have e2 := more_inj hf hg h2.symm
  have := hf.1; have := hg.1
  exact Prod.ext (by omega) e2
end Go.Proofs.YtcbohfncckpolaaGreatDoor.Num
