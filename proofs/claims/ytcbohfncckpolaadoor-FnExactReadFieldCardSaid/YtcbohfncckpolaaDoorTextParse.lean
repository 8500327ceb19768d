/-
  What the program's parseField takes out of the words of a string (stage 9): the field whose text the string is, or none. Plain facts; no program is named here.
-/
import Derived.Test.YtcbohfncckpolaaDoorTextField
namespace Go.Proofs.YtcbohfncckpolaaDoor.Num
set_option linter.unusedVariables false
def takeR (word : List UInt8) : List (List UInt8) → Bool × List (List UInt8)
  | [] => (false, [])
  | s :: r => if s = word then (true, r) else (false, s :: r)
/-- The Ref and the words behind it. -/
def refW (k : Int) (t : List (List UInt8)) : Int × List (List UInt8) :=
  if k = 8 then match t with | [] => (0, []) | y :: t => (((parse 999999999 y).1 : Int), t) else (0, t)
/-- What is read, and what is left over. -/
def parseT (h k : List UInt8) (t : List (List UInt8)) : RF × List (List UInt8) :=
  let K := kindTo k 0 8
  let x := refW K t
  let a := takeR repW x.2
  let p := takeR packW a.2
  ((((parse 999999999 h).1 : Int), K, a.1, p.1, x.1), p.2)
theorem parse_pos {w : List UInt8} (h : 1 ≤ (parse 999999999 w).1) : w = dec (parse 999999999 w).1 := by
  unfold parse at h ⊢
  split at h
  · rename_i hn
    rw [if_pos hn]
    refine (dec_val w ?_).symm
    simp only [numOk, Bool.and_eq_true] at hn
    exact hn.1
  · simp at h
theorem kindTo_pos {w : List UInt8} : ∀ j : Nat, j ≤ 8 → 1 ≤ kindTo w 0 j → w = wordL (kindTo w 0 j)
  | 0, _, h => by simp [kindTo] at h
  | j + 1, hj, h => by
    rw [kindTo] at h ⊢
    by_cases e : w = wordL ((j : Int) + 1)
    · rw [if_pos e]; exact e
    · rw [if_neg e] at h ⊢; exact kindTo_pos j (by omega) h
theorem takeR_eq (word : List UInt8) (t : List (List UInt8)) : t = (if (takeR word t).1 = true then [word] else []) ++ (takeR word t).2 := by
  cases t with
  | nil => rfl
  | cons s r =>
    unfold takeR
    by_cases h : s = word
    · simp [h]
    · simp [h]
/-- Nothing is left over and the field has a text: then the words are its text's. -/
theorem parseT_words {h k : List UInt8} {t : List (List UInt8)} (h0 : (parseT h k t).2 = []) (ht : hasText (parseT h k t).1) : h :: k :: t = dec (parseT h k t).1.1.toNat :: moreW (parseT h k t).1 := by
  obtain ⟨h1, h2, h3, h4⟩ := ht
  have e1 : h = dec (parseT h k t).1.1.toNat := by
    have hp : 1 ≤ (parse 999999999 h).1 := by have := h1.1; unfold parseT at this; simp only at this; omega
    have := parse_pos hp
    unfold parseT
    simpa using this
  have e2 : k = wordL (parseT h k t).1.2.1 := kindTo_pos 8 (Nat.le_refl _) h2.1
  rw [moreW, ← e1, ← e2]
  congr 2
  unfold parseT at h0 h3 ⊢
  simp only at h0 h3 ⊢
  generalize hK : kindTo k 0 8 = K at h0 h3 ⊢
  have hx : t = (if K = 8 then [dec (refW K t).1.toNat] else []) ++ (refW K t).2 := by
    by_cases h8 : K = 8
    · have h3 := h3 h8
      unfold refW at h3 ⊢
      rw [if_pos h8] at h3 ⊢
      cases t with
      | nil => simp at h3
      | cons y t =>
        simp only at h3
        have := parse_pos (w := y) (by omega)
        rw [if_pos h8]
        simpa using this
    · unfold refW; rw [if_neg h8, if_neg h8]; rfl
  have ha := takeR_eq repW (refW K t).2
  have hp := takeR_eq packW (takeR repW (refW K t).2).2
  rw [h0, List.append_nil] at hp
  rw [← hp, ← ha]
  exact hx
theorem takeR_yes (word : List UInt8) (b : Bool) (t : List (List UInt8)) (ht : ∀ s r, t = s :: r → s ≠ word) : takeR word ((if b = true then [word] else []) ++ t) = (b, t) := by
  cases b with
  | true => simp [takeR]
  | false =>
    cases t with
    | nil => rfl
    | cons s r => simp [takeR, ht s r rfl]
theorem parseT_back {f : RF} (hf : hasText f) : ∃ t, moreW f = wordL f.2.1 :: t ∧ parseT (dec f.1.toNat) (wordL f.2.1) t = (f, []) := by
  obtain ⟨n, k, a, p, x⟩ := f
  obtain ⟨h1, h2, h3, h4⟩ := hf
  simp only at h1 h2 h3 h4
  refine ⟨_, rfl, ?_⟩
  have hn : ((parse 999999999 (dec n.toNat)).1 : Int) = n := by
    rw [parse_yes (numOk_dec (by omega)), val_dec]; simp only; omega
  unfold parseT
  simp only [kindTo_word h2, hn]
  have hR : refW k ((if k = 8 then [dec x.toNat] else []) ++ ((if a = true then [repW] else []) ++ if p = true then [packW] else [])) = (x, (if a = true then [repW] else []) ++ if p = true then [packW] else []) := by
    unfold refW
    by_cases h8 : k = 8
    · have hx : ((parse 999999999 (dec x.toNat)).1 : Int) = x := by
        have := h3 h8
        rw [parse_yes (numOk_dec (by omega)), val_dec]; simp only; omega
      rw [if_pos h8, if_pos h8]
      simp [hx]
    · rw [if_neg h8, if_neg h8, h4 h8]; simp
  rw [hR]
  simp only
  rw [takeR_yes repW a _ (by cases p <;> simp [repW, packW])]
  simp only
  have : (if p = true then [packW] else []) = (if p = true then [packW] else []) ++ ([] : List (List UInt8)) := by simp
  rw [this, takeR_yes packW p [] (by simp)]
/-- The field of the words: none if there are fewer than two, or some left over, or if it has no text. -/
def parseW : List (List UInt8) → Option RF
  | h :: k :: t => if (parseT h k t).2 = [] ∧ hasText (parseT h k t).1 then some (parseT h k t).1 else none
  | _ => none
theorem parseW_readF (s : List UInt8) : parseW (partsF 32 s) = readF s := by
  cases hr : readF s with
  | some f =>
    obtain ⟨hf, rfl⟩ := readF_some hr
    obtain ⟨t, hm, ht⟩ := parseT_back hf
    rw [textF_words hf, hm]
    unfold parseW
    simp only
    rw [ht, if_pos ⟨rfl, hf⟩]
  | none =>
    cases hp : parseW (partsF 32 s) with
    | none => rfl
    | some f =>
      exfalso
      obtain ⟨g, r, hg, hj⟩ := parts_join 32 s
      rw [hg] at hp
      cases r with
      | nil => simp [parseW] at hp
      | cons k t =>
        unfold parseW at hp
        simp only at hp
        by_cases hc : (parseT g k t).2 = [] ∧ hasText (parseT g k t).1
        · rw [if_pos hc] at hp
          injection hp with hp
          subst hp
          have hw := parseT_words hc.1 hc.2
          refine readF_none hr _ hc.2 ?_
          unfold textF
          rw [if_pos hc.2, ← hj]
          injection hw with e1 e2
          rw [← e1, ← e2]
        · rw [if_neg hc] at hp; cases hp
theorem readF_zero : readF [] = none := by unfold readF; rw [if_neg (by simp)]
end Go.Proofs.YtcbohfncckpolaaDoor.Num
