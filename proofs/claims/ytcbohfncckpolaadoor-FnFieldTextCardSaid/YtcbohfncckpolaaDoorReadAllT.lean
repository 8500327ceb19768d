/-
  Several texts in one: TextRead TextField TextParse TakeWord KindLook SlsOf ErrIs ParseI ReadFieldI ErrTextOf DrawField DrawText.
-/
import Derived.Test.YtcbohfncckpolaaDoorTextMath
import Derived.Test.YtcbohfncckpolaaDoorStrs
import Derived.Test.YtcbohfncckpolaaDoorDraw
import Derived.WalkLawsBesides
import Derived.WalkSpells
import Derived.BigQuiet
import Derived.Test.YtcbohfncckpolaaDoorKindMap
import Derived.Maps.Views
import Derived.Test.YtcbohfncckpolaaDoorParts
import Derived.Test.YtcbohfncckpolaaDoorProg
import Derived.WalkKit
import Derived.LaidEql
import Derived.Stop.Asserts
import Derived.RowKitTokens
import Derived.LaidHandle
import Derived.Stop.LaidErr
import Derived.Test.YtcbohfncckpolaaDoorBox
import Derived.Test.YtcbohfncckpolaaDoorFieldTextI
import Derived.Test.YtcbohfncckpolaaDoorNumCall
import Derived.Test.YtcbohfncckpolaaDoorRound
import Derived.Deep.RegionWith
import Derived.Test.YtcbohfncckpolaaDoorRows
import Derived.LaidLaws
import Derived.Test.YtcbohfncckpolaaDoorDrawBent
import Derived.Test.YtcbohfncckpolaaDoorPick
import Derived.Test.YtcbohfncckpolaaDoorI64
import Derived.Deep.DeepCutAuto

/-
  What the reference's ReadField takes out of the words of a string (stage 9): of a field's own text it takes the field. Plain facts; no program is named here.
-/
namespace Go.Proofs.YtcbohfncckpolaaDoor.Num
set_option linter.unusedVariables false
/-- The kind behind a word: the kinds from 1 to j looked at, the last that fits. -/
def kindTo (w : List UInt8) (k0 : Int) : Nat → Int
  | 0 => k0
  | j + 1 => if w = wordL ((j : Int) + 1) then (j : Int) + 1 else kindTo w k0 j
def stepW (f : RF) (w : List UInt8) : RF := (f.1, kindTo w f.2.1 8, f.2.2.1 || w == repW, f.2.2.2.1 || w == packW, if (parse 999999999 w).2 = true then ((parse 999999999 w).1 : Int) else f.2.2.2.2)
def readW : List (List UInt8) → RF
  | [] => (0, 0, false, false, 0)
  | h :: t => t.foldl stepW (((parse 999999999 h).1 : Int), 0, false, false, 0)
theorem kindTo_word {k : Int} (h : 1 ≤ k ∧ k ≤ 8) (k0 : Int) : kindTo (wordL k) k0 8 = k := by
  obtain rfl | rfl | rfl | rfl | rfl | rfl | rfl | rfl : k = 1 ∨ k = 2 ∨ k = 3 ∨ k = 4 ∨ k = 5 ∨ k = 6 ∨ k = 7 ∨ k = 8 := by omega
  all_goals simp [kindTo, wordL, wordR]
theorem kindTo_none {w : List UInt8} (h : ∀ k : Int, 1 ≤ k ∧ k ≤ 8 → w ≠ wordL k) (k0 : Int) : ∀ j : Nat, j ≤ 8 → kindTo w k0 j = k0
  | 0, _ => rfl
  | j + 1, hj => by
    rw [kindTo, if_neg (h _ ⟨by omega, by omega⟩)]
    exact kindTo_none h k0 j (by omega)
theorem parse_letter {c : UInt8} {l : List UInt8} (h : isDig c = false) : parse 999999999 (c :: l) = (0, false) := by
  refine parse_no ?_
  unfold numOk canon
  simp [h]
theorem dec_first {u : Nat} {c : UInt8} {l : List UInt8} (h : dec u = c :: l) : isDig c = true := by
  have := dec_all u
  rw [h] at this
  simp at this
  exact this.1
theorem wordL_first {k : Int} (h : 1 ≤ k ∧ k ≤ 8) : ∃ c l, wordL k = c :: l ∧ isDig c = false := by
  rcases wordL_cases h with ⟨_, e⟩ | ⟨_, e⟩ | ⟨_, e⟩ | ⟨_, e⟩ | ⟨_, e⟩ | ⟨_, e⟩ | ⟨_, e⟩ | ⟨_, e⟩ <;> exact ⟨_, _, e, by decide⟩
theorem dec_not_word {u : Nat} {k : Int} (h : 1 ≤ k ∧ k ≤ 8) : dec u ≠ wordL k := fun e => by
  obtain ⟨c, l, e', hc⟩ := wordL_first h
  rw [e'] at e
  rw [dec_first e] at hc
  cases hc
theorem step_word {k : Int} (h : 1 ≤ k ∧ k ≤ 8) (n : Int) : stepW (n, 0, false, false, 0) (wordL k) = (n, k, false, false, 0) := by
  obtain ⟨c, l, e, hc⟩ := wordL_first h
  have hp : parse 999999999 (wordL k) = (0, false) := by rw [e]; exact parse_letter hc
  have hr : (wordL k == repW) = false ∧ (wordL k == packW) = false := by
    rcases wordL_cases h with ⟨_, e⟩ | ⟨_, e⟩ | ⟨_, e⟩ | ⟨_, e⟩ | ⟨_, e⟩ | ⟨_, e⟩ | ⟨_, e⟩ | ⟨_, e⟩ <;> rw [e] <;> exact ⟨by decide, by decide⟩
  unfold stepW
  simp only [kindTo_word h, hp, hr.1, hr.2]
  simp
theorem step_ref {u : Nat} (hu : u ≤ 999999999) (n k : Int) : stepW (n, k, false, false, 0) (dec u) = (n, k, false, false, (u : Int)) := by
  have hp : parse 999999999 (dec u) = (u, true) := by rw [parse_yes (numOk_dec hu), val_dec]
  have hr : (dec u == repW) = false := by
    refine beq_eq_false_iff_ne.2 fun e => ?_
    have := dec_first e
    exact absurd this (by decide)
  have hq : (dec u == packW) = false := by
    refine beq_eq_false_iff_ne.2 fun e => ?_
    have := dec_first e
    exact absurd this (by decide)
  unfold stepW
  simp only [kindTo_none (fun k h => dec_not_word h) k 8 (Nat.le_refl _), hp, hr, hq]
  simp
theorem step_rep (n k x : Int) (p : Bool) : stepW (n, k, false, p, x) repW = (n, k, true, p, x) := by
  have hk : ∀ k : Int, 1 ≤ k ∧ k ≤ 8 → repW ≠ wordL k := fun k h => by
    rcases wordL_cases h with ⟨_, e⟩ | ⟨_, e⟩ | ⟨_, e⟩ | ⟨_, e⟩ | ⟨_, e⟩ | ⟨_, e⟩ | ⟨_, e⟩ | ⟨_, e⟩ <;> rw [e] <;> decide
  unfold stepW
  simp only [kindTo_none hk k 8 (Nat.le_refl _)]
  rw [show parse 999999999 repW = (0, false) from parse_letter (by decide), show (repW == packW) = false by decide]
  simp
theorem step_pack (n k x : Int) (a : Bool) : stepW (n, k, a, false, x) packW = (n, k, a, true, x) := by
  have hk : ∀ k : Int, 1 ≤ k ∧ k ≤ 8 → packW ≠ wordL k := fun k h => by
    rcases wordL_cases h with ⟨_, e⟩ | ⟨_, e⟩ | ⟨_, e⟩ | ⟨_, e⟩ | ⟨_, e⟩ | ⟨_, e⟩ | ⟨_, e⟩ | ⟨_, e⟩ <;> rw [e] <;> decide
  unfold stepW
  simp only [kindTo_none hk k 8 (Nat.le_refl _)]
  rw [show parse 999999999 packW = (0, false) from parse_letter (by decide), show (packW == repW) = false by decide]
  simp
theorem read_words {f : RF} (h : hasText f) : readW (dec f.1.toNat :: moreW f) = f := by
  obtain ⟨n, k, a, p, x⟩ := f
  obtain ⟨hn, hk, h8, h0⟩ := h
  simp only at hn hk h8 h0
  have hp : parse 999999999 (dec n.toNat) = (n.toNat, true) := by rw [parse_yes (numOk_dec (by omega)), val_dec]
  unfold readW moreW
  simp only [hp]
  rw [show ((n.toNat : Nat) : Int) = n by omega, List.foldl_cons, step_word hk, List.foldl_append]
  have hx : (if k = 8 then [dec x.toNat] else []).foldl stepW (n, k, false, false, 0) = (n, k, false, false, x) := by
    by_cases e : k = 8
    · rw [if_pos e, List.foldl_cons, step_ref (by have := h8 e; omega), List.foldl_nil]
      rw [show ((x.toNat : Nat) : Int) = x by have := h8 e; omega]
    · rw [if_neg e, List.foldl_nil, h0 e]
  rw [hx, List.foldl_append]
  cases a <;> cases p <;> simp [step_rep, step_pack]
/-- Of a field's text the words give the field. -/
theorem read_text {f : RF} (h : hasText f) : readW (partsF 32 (textF f)) = f := by rw [textF_words h]; exact read_words h
/-- Is a string some field's text? Then what its words give has that text; else it has not. -/
theorem read_tells (s : List UInt8) (hs : s ≠ []) : (textF (readW (partsF 32 s)) = s ↔ ∃ f, hasText f ∧ textF f = s) := by
  constructor
  · intro h
    refine ⟨_, Classical.byContradiction fun hn => hs ?_, h⟩
    rw [← h]; unfold textF; rw [if_neg hn]
  · rintro ⟨f, hf, rfl⟩
    rw [read_text hf]
end Go.Proofs.YtcbohfncckpolaaDoor.Num

/-
  What the reference's ReadField takes out of a string (stage 9): of a field's own text it takes the field. Plain facts; no program is named here.
-/
namespace Go.Proofs.YtcbohfncckpolaaDoor.Num
set_option linter.unusedVariables false
/-- The field of a string, where the string is a field's text. -/
def readF (s : List UInt8) : Option RF := if s ≠ [] ∧ s.length ≤ 60 ∧ textF (readW (partsF 32 s)) = s then some (readW (partsF 32 s)) else none
theorem wordL_len {k : Int} (h : 1 ≤ k ∧ k ≤ 8) : (wordL k).length ≤ 5 := by
  rcases wordL_cases h with ⟨_, e⟩ | ⟨_, e⟩ | ⟨_, e⟩ | ⟨_, e⟩ | ⟨_, e⟩ | ⟨_, e⟩ | ⟨_, e⟩ | ⟨_, e⟩ <;> rw [e] <;> decide
theorem textF_len {f : RF} (h : hasText f) : (textF f).length ≤ 60 := by
  obtain ⟨n, k, a, p, x⟩ := f
  unfold textF
  rw [if_pos h]
  obtain ⟨hn, hk, h8, h0⟩ := h
  simp only at hn hk h8 h0
  have h1 := dec_length (u := n.toNat) 9 (by omega) (by omega)
  have h2 := wordL_len hk
  unfold joinF moreW
  by_cases e : k = 8
  · have h3 := dec_length (u := x.toNat) 2 (by omega) (by have := h8 e; omega)
    cases a <;> cases p <;> simp [e, repW, packW] <;> subst e <;> omega
  · cases a <;> cases p <;> simp [e, repW, packW] <;> omega
theorem readF_text {f : RF} (h : hasText f) : readF (textF f) = some f := by
  unfold readF
  rw [read_text h, if_pos ⟨textF_ne h, textF_len h, rfl⟩]
/-- Read: some field, then the string is its text; none, then it is no field's text. -/
theorem readF_some {s : List UInt8} {f : RF} (h : readF s = some f) : hasText f ∧ textF f = s := by
  unfold readF at h
  by_cases hc : s ≠ [] ∧ s.length ≤ 60 ∧ textF (readW (partsF 32 s)) = s
  · rw [if_pos hc] at h
    injection h with h
    subst h
    refine ⟨Classical.byContradiction fun hn => hc.1 ?_, hc.2.2⟩
    rw [← hc.2.2]; unfold textF; rw [if_neg hn]
  · rw [if_neg hc] at h; cases h
theorem readF_none {s : List UInt8} (h : readF s = none) (f : RF) (hf : hasText f) : textF f ≠ s := fun e => by
  rw [← e, readF_text hf] at h; cases h
end Go.Proofs.YtcbohfncckpolaaDoor.Num

/-
  What the program's parseField takes out of the words of a string (stage 9): the field whose text the string is, or none. Plain facts; no program is named here.
-/
namespace Go.Proofs.YtcbohfncckpolaaDoor.Num
set_option linter.unusedVariables false
def takeR (word : List UInt8) : List (List UInt8) → Bool × List (List UInt8)
  | [] => (false, [])
  | s :: r => if s = word then (true, r) else (false, s :: r)
/-- The Ref and the words behind it. -/
def refW (k : Int) (t : List (List UInt8)) : Int × List (List UInt8) :=
  if k = 8 then match t with | [] => (0, []) | y :: t => (((parse 999999999 y).1 : Int), t) else (0, t)
/-- What is read, and what is left over. -/
def parseT (h k : List UInt8) (t : List (List UInt8)) : RF × List (List UInt8) :=
  let K := kindTo k 0 8
  let x := refW K t
  let a := takeR repW x.2
  let p := takeR packW a.2
  ((((parse 999999999 h).1 : Int), K, a.1, p.1, x.1), p.2)
theorem parse_pos {w : List UInt8} (h : 1 ≤ (parse 999999999 w).1) : w = dec (parse 999999999 w).1 := by
  unfold parse at h ⊢
  split at h
  · rename_i hn
    rw [if_pos hn]
    refine (dec_val w ?_).symm
    simp only [numOk, Bool.and_eq_true] at hn
    exact hn.1
  · simp at h
theorem kindTo_pos {w : List UInt8} : ∀ j : Nat, j ≤ 8 → 1 ≤ kindTo w 0 j → w = wordL (kindTo w 0 j)
  | 0, _, h => by simp [kindTo] at h
  | j + 1, hj, h => by
    rw [kindTo] at h ⊢
    by_cases e : w = wordL ((j : Int) + 1)
    · rw [if_pos e]; exact e
    · rw [if_neg e] at h ⊢; exact kindTo_pos j (by omega) h
theorem takeR_eq (word : List UInt8) (t : List (List UInt8)) : t = (if (takeR word t).1 = true then [word] else []) ++ (takeR word t).2 := by
  cases t with
  | nil => rfl
  | cons s r =>
    unfold takeR
    by_cases h : s = word
    · simp [h]
    · simp [h]
/-- Nothing is left over and the field has a text: then the words are its text's. -/
theorem parseT_words {h k : List UInt8} {t : List (List UInt8)} (h0 : (parseT h k t).2 = []) (ht : hasText (parseT h k t).1) : h :: k :: t = dec (parseT h k t).1.1.toNat :: moreW (parseT h k t).1 := by
  obtain ⟨h1, h2, h3, h4⟩ := ht
  have e1 : h = dec (parseT h k t).1.1.toNat := by
    have hp : 1 ≤ (parse 999999999 h).1 := by have := h1.1; unfold parseT at this; simp only at this; omega
    have := parse_pos hp
    unfold parseT
    simpa using this
  have e2 : k = wordL (parseT h k t).1.2.1 := kindTo_pos 8 (Nat.le_refl _) h2.1
  rw [moreW, ← e1, ← e2]
  congr 2
  unfold parseT at h0 h3 ⊢
  simp only at h0 h3 ⊢
  generalize hK : kindTo k 0 8 = K at h0 h3 ⊢
  have hx : t = (if K = 8 then [dec (refW K t).1.toNat] else []) ++ (refW K t).2 := by
    by_cases h8 : K = 8
    · have h3 := h3 h8
      unfold refW at h3 ⊢
      rw [if_pos h8] at h3 ⊢
      cases t with
      | nil => simp at h3
      | cons y t =>
        simp only at h3
        have := parse_pos (w := y) (by omega)
        rw [if_pos h8]
        simpa using this
    · unfold refW; rw [if_neg h8, if_neg h8]; rfl
  have ha := takeR_eq repW (refW K t).2
  have hp := takeR_eq packW (takeR repW (refW K t).2).2
  rw [h0, List.append_nil] at hp
  rw [← hp, ← ha]
  exact hx
theorem takeR_yes (word : List UInt8) (b : Bool) (t : List (List UInt8)) (ht : ∀ s r, t = s :: r → s ≠ word) : takeR word ((if b = true then [word] else []) ++ t) = (b, t) := by
  cases b with
  | true => simp [takeR]
  | false =>
    cases t with
    | nil => rfl
    | cons s r => simp [takeR, ht s r rfl]
theorem parseT_back {f : RF} (hf : hasText f) : ∃ t, moreW f = wordL f.2.1 :: t ∧ parseT (dec f.1.toNat) (wordL f.2.1) t = (f, []) := by
  obtain ⟨n, k, a, p, x⟩ := f
  obtain ⟨h1, h2, h3, h4⟩ := hf
  simp only at h1 h2 h3 h4
  refine ⟨_, rfl, ?_⟩
  have hn : ((parse 999999999 (dec n.toNat)).1 : Int) = n := by
    rw [parse_yes (numOk_dec (by omega)), val_dec]; simp only; omega
  unfold parseT
  simp only [kindTo_word h2, hn]
  have hR : refW k ((if k = 8 then [dec x.toNat] else []) ++ ((if a = true then [repW] else []) ++ if p = true then [packW] else [])) = (x, (if a = true then [repW] else []) ++ if p = true then [packW] else []) := by
    unfold refW
    by_cases h8 : k = 8
    · have hx : ((parse 999999999 (dec x.toNat)).1 : Int) = x := by
        have := h3 h8
        rw [parse_yes (numOk_dec (by omega)), val_dec]; simp only; omega
      rw [if_pos h8, if_pos h8]
      simp [hx]
    · rw [if_neg h8, if_neg h8, h4 h8]; simp
  rw [hR]
  simp only
  rw [takeR_yes repW a _ (by cases p <;> simp [repW, packW])]
  simp only
  have : (if p = true then [packW] else []) = (if p = true then [packW] else []) ++ ([] : List (List UInt8)) := by simp
  rw [this, takeR_yes packW p [] (by simp)]
/-- The field of the words: none if there are fewer than two, or some left over, or if it has no text. -/
def parseW : List (List UInt8) → Option RF
  | h :: k :: t => if (parseT h k t).2 = [] ∧ hasText (parseT h k t).1 then some (parseT h k t).1 else none
  | _ => none
theorem parseW_readF (s : List UInt8) : parseW (partsF 32 s) = readF s := by
  cases hr : readF s with
  | some f =>
    obtain ⟨hf, rfl⟩ := readF_some hr
    obtain ⟨t, hm, ht⟩ := parseT_back hf
    rw [textF_words hf, hm]
    unfold parseW
    simp only
    rw [ht, if_pos ⟨rfl, hf⟩]
  | none =>
    cases hp : parseW (partsF 32 s) with
    | none => rfl
    | some f =>
      exfalso
      obtain ⟨g, r, hg, hj⟩ := parts_join 32 s
      rw [hg] at hp
      cases r with
      | nil => simp [parseW] at hp
      | cons k t =>
        unfold parseW at hp
        simp only at hp
        by_cases hc : (parseT g k t).2 = [] ∧ hasText (parseT g k t).1
        · rw [if_pos hc] at hp
          injection hp with hp
          subst hp
          have hw := parseT_words hc.1 hc.2
          refine readF_none hr _ hc.2 ?_
          unfold textF
          rw [if_pos hc.2, ← hj]
          injection hw with e1 e2
          rw [← e1, ← e2]
        · rw [if_neg hc] at hp; cases hp
theorem readF_zero : readF [] = none := by unfold readF; rw [if_neg (by simp)]
end Go.Proofs.YtcbohfncckpolaaDoor.Num

/-
  A slice of strings that can be read and is cut from the front, and the walk of the program's takeWord: whether the first word is the one asked for, and the words behind it; nothing is written.
-/
namespace Go.Proofs.YtcbohfncckpolaaDoor.Num
open Go.RowKit Go.Proofs
set_option linter.unusedVariables false
set_option linter.unusedSimpArgs false

/-- The slice reads as the strings ss; its block lies below D. -/
def SlS (w : World) (D : Nat) (p : Option Addr) (n cap : Nat) (ss : List (List UInt8)) : Prop :=
  ss.length = n ∧ n ≤ cap ∧ (n = 0 ∨ ∃ b o, p = some ⟨b, o, none⟩ ∧ b < D ∧ ∀ j (h : j < ss.length), w.cell? ⟨b, o + j, none⟩ = some (.string ⟨ss[j].toArray⟩))
section
variable {w w' : World} {D : Nat} {p : Option Addr} {n cap : Nat} {ss : List (List UInt8)}
theorem SlS.below (h : SlS w D p n cap ss) (hb : Below D w w') : SlS w' D p n cap ss := by
  refine ⟨h.1, h.2.1, ?_⟩
  rcases h.2.2 with h0 | ⟨b, o, hp, hlt, hc⟩
  · exact .inl h0
  · exact .inr ⟨b, o, hp, hlt, fun j hj => (hb.cell (p := ⟨b, o + j, none⟩) hlt).trans (hc j hj)⟩
theorem SlS.drew (h : SlS w D p n cap ss) : SlS w.drew D p n cap ss := h
theorem SlS.set (h : SlS w D p n cap ss) {a : Addr} (ha : D ≤ a.block) (v : Value) : SlS (w.setCell a v) D p n cap ss := by
  refine ⟨h.1, h.2.1, ?_⟩
  rcases h.2.2 with h0 | ⟨b, o, hp, hlt, hc⟩
  · exact .inl h0
  · exact .inr ⟨b, o, hp, hlt, fun j hj => by rw [World.cell?_setCell_other _ _ _ _ (by rintro rfl; simp at ha; omega)]; exact hc j hj⟩
theorem SlS.mono {D' : Nat} (h : SlS w D p n cap ss) (hD : D ≤ D') : SlS w D' p n cap ss := by
  refine ⟨h.1, h.2.1, ?_⟩
  rcases h.2.2 with h0 | ⟨b, o, hp, hlt, hc⟩
  · exact .inl h0
  · exact .inr ⟨b, o, hp, by omega, hc⟩
/-- Where the slice lies, if it is not empty, and its cells. -/
theorem SlS.cells (h : SlS w D p n cap ss) (h0 : 0 < n) : ∃ b o, p = some ⟨b, o, none⟩ ∧ b < D ∧ ∀ j (h : j < ss.length), w.cell? ⟨b, o + j, none⟩ = some (.string ⟨ss[j].toArray⟩) := by
  rcases h.2.2 with h | h
  · omega
  · exact h
/-- The rest of it from the k-th on. -/
theorem SlS.from (h : SlS w D p n cap ss) (k : Nat) (hk : k ≤ n) : SlS w D (if cap = k then p else p.map (·.add (k * 1))) (n - k) (cap - k) (ss.drop k) := by
  obtain ⟨h1, h2, h3⟩ := h
  refine ⟨by simp [h1], by omega, ?_⟩
  by_cases hn : n - k = 0
  · exact .inl hn
  rcases h3 with h3 | ⟨b, o, rfl, hlt, hc⟩
  · exact .inl (by omega)
  · right
    rw [if_neg (by omega)]
    refine ⟨b, o + k, ?_, hlt, fun j hj => ?_⟩
    · have ha : (⟨b, o, none⟩ : Addr).add (k * 1) = ⟨b, o + k, none⟩ := by
        unfold Addr.add
        split
        · next e => simp at e; subst e; rfl
        · simp
      show some ((⟨b, o, none⟩ : Addr).add (k * 1)) = _
      rw [ha]
    · rw [List.length_drop] at hj
      have := hc (k + j) (by omega)
      rw [List.getElem_drop, Nat.add_assoc]
      exact this
end
theorem run_from (p : Option Addr) (n cap k : Nat) (hk : k ≤ n) (h63 : n ≤ 9223372036854775807) (w : World) :
    (Instr.slice 52 (.slice p n cap) (some (.int .i64 (k : Int))) none none).run Tryd.prog w = .ok (.slice (if cap = k then p else p.map (·.add (k * 1))) (n - k) (cap - k)) w := by
  have hk' : (k : Int) ≤ (n : Int) := by omega
  have hsz : (sizeOf 9).run Tryd.prog w = .ok 1 w := by kernel_rfl
  have hel : Tryd.prog.elem 52 = 9 := by kernel_rfl
  rw [run_slice_any w 52 p n cap (by rw [hel]; exact Tryd.underlying52)]
  rw [hel]
  simp [Instr.sliceBounds, go_sem, hk', hsz, Result.andThen, sliced]
theorem takeWord_none (p : Option Addr) (cap : Nat) (word : ByteArray) (w : World) :
    Calls Tryd.prog 55 #[.slice p 0 cap, .string word] w fun e w' => e = .returned (.tuple #[.bool false, .slice p 0 cap]) ∧ w = w' := by
  go_enter Tryd.func55, Tryd.ntmps55
  go_wp2_with fail
  go_ret2
  exact ⟨rfl, rfl⟩
theorem takeWord_miss (D : Nat) (p : Option Addr) (n cap : Nat) (ss : List (List UInt8)) (x : List UInt8) (word : ByteArray) (w : World) (h : SlS w D p n cap (x :: ss)) (hn : n ≤ 1048577) (hx : x ≠ word.data.toList) :
    Calls Tryd.prog 55 #[.slice p n cap, .string word] w fun e w' => e = .returned (.tuple #[.bool false, .slice p n cap]) ∧ w = w' := by
  have hn1 : 0 < n := by have := h.1; simp at this; omega
  obtain ⟨b, o, rfl, hlt, hc⟩ := h.cells hn1
  have hc0 := hc 0 (by simp)
  simp only [List.getElem_cons_zero, Nat.add_zero] at hc0
  obtain ⟨s, hs⟩ : ∃ s : ByteArray, s = ⟨x.toArray⟩ := ⟨_, rfl⟩
  rw [← hs] at hc0
  have ht : (s.toList == word.toList) = false := by
    rw [beq_eq_false_iff_ne]
    intro e
    apply hx
    rw [ByteArray.toList_eq, ByteArray.toList_eq, hs] at e
    simpa using e
  have hn1i : (0 : Int) < (n : Int) := by omega
  clear hc h hs hx
  go_enter Tryd.func55, Tryd.ntmps55
  go_wp2_with fail
  go_ret2
  exact ⟨rfl, rfl⟩
set_option maxHeartbeats 1000000 in
theorem takeWord_hit (D : Nat) (p : Option Addr) (n cap : Nat) (ss : List (List UInt8)) (word : ByteArray) (w : World) (h : SlS w D p n cap (word.data.toList :: ss)) (hn : n ≤ 1048577) :
    Calls Tryd.prog 55 #[.slice p n cap, .string word] w fun e w' => ∃ p' n' cap', e = .returned (.tuple #[.bool true, .slice p' n' cap']) ∧ n' ≤ n ∧ SlS w' D p' n' cap' ss ∧ Below w.heap.size w w' := by
  have hn1 : 0 < n := by have := h.1; simp at this; omega
  have hf := h.from 1 hn1
  have hcap := h.2.1
  rw [show List.drop 1 (word.data.toList :: ss) = ss from rfl] at hf
  obtain ⟨b, o, rfl, hlt, hc⟩ := h.cells hn1
  have ha : (⟨b, o, none⟩ : Addr).add (1 * 1) = ⟨b, o + 1, none⟩ := rfl
  have hc0 := hc 0 (by simp)
  simp only [List.getElem_cons_zero, Nat.add_zero] at hc0
  have ht : (word.toList == word.toList) = true := by simp
  have hw : (⟨word.data.toList.toArray⟩ : ByteArray) = word := by simp
  rw [hw] at hc0
  have hn1i : (0 : Int) < (n : Int) := by omega
  clear hc h hw
  by_cases hc1 : cap = 1
  · subst hc1
    obtain rfl : n = 1 := by omega
    rw [if_pos rfl] at hf
    have Hf := Lib.hid hf
    clear hf ha
    go_enter Tryd.func55, Tryd.ntmps55
    go_wp2_with fail
    go_quiet (fail)
    go_wp2_with fail
    go_ret2
    exact ⟨_, 0, 0, rfl, by omega, Hf.out, below_drewN (Below.refl _ _) _⟩
  · rw [if_neg hc1, show (some (⟨b, o, none⟩ : Addr)).map (·.add (1 * 1)) = some ⟨b, o + 1, none⟩ from rfl] at hf
    have Hf := Lib.hid hf
    have hc2 : cap - 1 ≠ 0 := by omega
    clear hf ha
    go_enter Tryd.func55, Tryd.ntmps55
    go_wp2_with fail
    go_quiet (fail)
    go_wp2_with fail
    go_ret2
    exact ⟨_, n - 1, cap - 1, rfl, by omega, Hf.out, below_drewN (Below.refl _ _) _⟩
/-- takeWord, whatever the words are: as takeR has it. -/
theorem takeWord_any (D : Nat) (p : Option Addr) (n cap : Nat) (ss : List (List UInt8)) (word : ByteArray) (w : World) (h : SlS w D p n cap ss) (hn : n ≤ 1048577) :
    Calls Tryd.prog 55 #[.slice p n cap, .string word] w fun e w' => ∃ p' n' cap', e = .returned (.tuple #[.bool (takeR word.data.toList ss).1, .slice p' n' cap']) ∧ n' ≤ 1048577 ∧ SlS w' D p' n' cap' (takeR word.data.toList ss).2 ∧ Below w.heap.size w w' := by
  cases ss with
  | nil =>
    obtain rfl : n = 0 := by have := h.1; simpa using this.symm
    exact (takeWord_none p cap word w).mono fun e w' ⟨he, hb⟩ => ⟨p, 0, cap, he, by omega, hb ▸ h, hb ▸ Below.refl _ _⟩
  | cons x ss =>
    by_cases hx : x = word.data.toList
    · subst hx
      refine (takeWord_hit D p n cap ss word w h hn).mono fun e w' ⟨p', n', c', he, hn', hs, hb⟩ => ?_
      have ht : takeR word.data.toList (word.data.toList :: ss) = (true, ss) := by simp [takeR]
      rw [ht]
      exact ⟨p', n', c', he, by omega, hs, hb⟩
    · refine (takeWord_miss D p n cap ss x word w h hn hx).mono fun e w' ⟨he, hb⟩ => ?_
      have ht : takeR word.data.toList (x :: ss) = (false, x :: ss) := by simp [takeR, hx]
      rw [ht]
      exact ⟨p, n, cap, he, hn, hb ▸ h, hb ▸ Below.refl _ _⟩
end Go.Proofs.YtcbohfncckpolaaDoor.Num

/-
  The table of kinds looked up at a word: its kind, or 0.
-/
namespace Go.Proofs.YtcbohfncckpolaaDoor.Num
open Go.RowKit Go.Proofs Go Go.WideMaps
set_option linter.unusedVariables false

theorem kd_look (s : List UInt8) : KD.atKey (.string s) (.lit (.int .i64 0)) = .lit (.int .i64 (kindTo s 0 8)) := by
  by_cases h : ∃ k : Int, (1 ≤ k ∧ k ≤ 8) ∧ s = wordL k
  · obtain ⟨k, hk, rfl⟩ := h
    rw [kindTo_word hk]
    exact kd_at hk
  · rw [kindTo_none (fun k hk e => h ⟨k, hk, e⟩) 0 8 (Nat.le_refl _)]
    refine Maps.atKey_of_not_has ?_ _
    cases hh : Maps.has KD (.string s) with
    | false => rfl
    | true =>
      obtain ⟨k, hk, e⟩ := kd_key hh
      injection e with e
      exact absurd ⟨k, hk, e⟩ h
set_option maxRecDepth 100000 in
theorem kd_run (s : ByteArray) (hs : s.size ≤ maxLen) {w : World} {b : Nat} (hown : w.ownsMap Tryd.prog 9 (plainElem Tryd.prog 3) b 8 KD) :
    (Instr.lookup 77 (.map (some b)) (.string s) false).run Tryd.prog w = .ok (.int .i64 (kindTo s.data.toList 0 8)) w := by
  obtain ⟨c, hr, hat, _⟩ := hown.lookup_int lawW Tryd.underlying77 Tryd.underlying3 (by kernel_rfl) (keyOf_string_mk Tryd.underlying9 hs)
  rw [kd_look] at hat
  injection hat with hat
  injection hat with _ hat
  rw [hr, hat]
end Go.Proofs.YtcbohfncckpolaaDoor.Num

/-
  The words that Parts gives, as a slice that is cut from the front.
-/
namespace Go.Proofs.YtcbohfncckpolaaDoor.Num
open Go.RowKit Go.Proofs
set_option linter.unusedVariables false
def zeroF : RF := (0, 0, false, false, 0)
/-- The words that Parts gives, as a slice that is cut from the front. -/
theorem slS_of {w w' : World} {B : Nat} {T : TypeId} {v : Value} {P : List ByteArray} {ws : List (List UInt8)} (h : w'.ownsRow B T 1 v P.length (P.map Value.string)) (hP : strL P = ws) (h0 : ws ≠ []) :
    ∃ g cap, v = .slice (some ⟨g, 0, none⟩) ws.length cap ∧ B ≤ g ∧ SlS w' w'.heap.size (some ⟨g, 0, none⟩) ws.length cap ws := by
  have hl : ws.length = P.length := by rw [← hP]; simp [strL]
  have hp : 0 < P.length := by rw [← hl]; exact List.length_pos_iff.2 h0
  obtain ⟨l, h5⟩ := h
  rcases h5 with ⟨_, h0⟩ | ⟨g, cap, cur, rfl, hB, hg, hc, hcm, hcs, hcur⟩
  · omega
  · have hown : w'.ownsRow B T 1 (.slice (some ⟨g, 0, none⟩) P.length cap) P.length (P.map Value.string) := ⟨l, .inr ⟨g, cap, cur, rfl, hB, hg, hc, hcm, hcs, hcur⟩⟩
    refine ⟨g, cap, by rw [hl], hB, rfl, by omega, .inr ⟨g, 0, rfl, (Array.getElem?_eq_some_iff.1 hg).1, fun j hj => ?_⟩⟩
    rw [Nat.zero_add, World.ownsRow.cellAt hown j (by omega), List.getElem?_map, List.getElem?_eq_getElem (by omega)]
    subst hP
    simp [strL]
end Go.Proofs.YtcbohfncckpolaaDoor.Num

/-
  errors.Is, as the program calls it: with nil, and with the very sentinel that it is asked for. And what it says that the program's sentinel lies in its variable.
-/
namespace Go.Proofs.YtcbohfncckpolaaDoor.Num
open Go.RowKit Go.Proofs Go Go.Extern.Stop Go.Stop Go.Extern
set_option linter.unusedVariables false

/-- What the model has for (rtype).Comparable, under a name that no rewriting opens. -/
def isCmp (t : TypeId) : Sem Value := do Rtype.noPackHeld "Comparable" t; pure (.bool (← typeInfo t).comparable)
theorem is_typeOf (v : Value) (w : World) : (Extern.ReflectliteType.typeOf #[.iface 178 v]).run Tryd.prog w = .ok (.iface 115 (.agg #[.pointer (some ⟨7, 178, none⟩)])) w := by kernel_rfl
theorem is_comparable (w : World) : ((Extern.ReflectliteType.method isCmp) #[.agg #[.pointer (some ⟨7, 178, none⟩)]]).run Tryd.prog w = .ok (.bool true) w := by kernel_rfl
theorem is_mComparable (v : Value) (w : World) : (Go.method 312 115 v "Comparable").run Tryd.prog w = .ok (152, v) w := by kernel_rfl
theorem is_comp : (Tryd.prog.info? 178).map (·.comparable) = some true := by kernel_rfl
theorem is_size : (Tryd.prog.info? 201).map (·.size) = some 1 := by kernel_rfl
/-- errors.Is(x, x), x a pointer to an errors.errorString. -/
theorem is_same (a : Addr) (w : World) :
    Calls Tryd.prog 32 #[.iface 178 (.pointer (some a)), .iface 178 (.pointer (some a))] w fun e w' => e = .returned (.bool true) ∧ w = w' := by
  obtain ⟨i, hi, hcmp⟩ := Option.map_eq_some_iff.1 is_comp
  obtain ⟨j, hj, hjs⟩ := Option.map_eq_some_iff.1 is_size
  have h8 := @run_callFunc_extern Tryd.prog 56 _ Extern.ReflectliteType.typeOf Tryd.func56 (by kernel_rfl) (by kernel_rfl) (by kernel_rfl) (by kernel_rfl)
  have h32 := @run_callFunc_extern Tryd.prog 152 _ (Extern.ReflectliteType.method isCmp) Tryd.func152 (by kernel_rfl) (by kernel_rfl) (by kernel_rfl) (by kernel_rfl)
  have tT := is_typeOf
  have cT := is_comparable
  have mR := is_mComparable
  have heq := run_eql_iface_ptr_same (P := Tryd.prog) w a Tryd.underlying57 Tryd.underlying178 hi hcmp hj
  go_enter Tryd.func32, Tryd.ntmps32
  go_wp2
  refine wp_loop_rounds 1 ?_
  rw [rounds_succ]
  go_wp2
  go_ret
  exact ⟨rfl, rfl⟩
/-- errors.Is(nil, x). -/
theorem is_nil (b : Addr) (w : World) :
    Calls Tryd.prog 32 #[.nilIface, .iface 178 (.pointer (some b))] w fun e w' => e = .returned (.bool false) ∧ w = w' := by
  have hn := run_eql_iface_nil_left (P := Tryd.prog) w 178 (.pointer (some b)) Tryd.underlying57
  go_enter Tryd.func32, Tryd.ntmps32
  go_wp2
  go_ret
  exact ⟨rfl, rfl⟩
end Go.Proofs.YtcbohfncckpolaaDoor.Num

/-
  The walks of the program's parseField and ReadField: the field whose text the string is, or the zero field and the sentinel (false); only new memory is written.
-/
namespace Go.Proofs.YtcbohfncckpolaaDoor.Num
open Go.RowKit Go.Proofs Go Go.WideMaps
set_option linter.unusedVariables false
set_option linter.unusedSimpArgs false

/-- The program's sentinel lies in its variable. -/
def sentV (a : Addr) : Value := .iface 178 (.pointer (some a))
def ErrText (w : World) (a : Addr) : Prop := w.cell? ⟨0, 0, none⟩ = some (sentV a) ∧ 0 < w.heap.size
theorem ErrText.below {w w' : World} {a : Addr} (h : ErrText w a) (hb : Below w.heap.size w w') : ErrText w' a := ⟨(hb.cell (p := ⟨_, 0, none⟩) h.2).trans h.1, Nat.lt_of_lt_of_le h.2 hb.size⟩
theorem ErrText.set {w : World} {a p : Addr} (h : ErrText w a) (hp : 0 < p.block) (v : Value) : ErrText (w.setCell p v) a := by
  refine ⟨?_, by simpa [World.setCell] using h.2⟩
  rw [World.cell?_setCell_other _ _ _ _ (by rintro rfl; exact absurd hp (by decide))]
  exact h.1
/-- Within the walk: the result's cell is still zero, the field being read lies at gf, the words that are left in v. -/
def PSt (a : Addr) (w wx : World) (D gf : Nat) (f : RF) (v : Value) (ss : List (List UInt8)) : Prop :=
  Box wx w.heap.size (fieldC zeroF) ∧ Box wx gf (fieldC f) ∧ w.heap.size < D ∧ D ≤ gf ∧ Below w.heap.size w wx ∧ ErrText wx a ∧ ∃ p n cap, v = .slice p n cap ∧ n ≤ 1048577 ∧ SlS wx D p n cap ss
section
variable {a : Addr} {w wx : World} {D gf : Nat} {f : RF} {v : Value} {ss : List (List UInt8)}
theorem PSt.all {w' : World} (h : PSt a w wx D gf f v ss) (hb : Below wx.heap.size wx w') : PSt a w w' D gf f v ss := by
  obtain ⟨h1, h2, h3, h4, h5, h6, p, n, cap, e, hn, hS⟩ := h
  exact ⟨h1.below hb h1.lt, h2.below hb h2.lt, h3, h4, h5.trans (hb.mono h5.size), h6.below hb, p, n, cap, e, hn, hS.below (hb.mono (Nat.le_of_lt (Nat.lt_of_le_of_lt h4 h2.lt)))⟩
theorem PSt.set (h : PSt a w wx D gf f v ss) (j : Nat) (u : Value) (f' : RF) (hf : (fieldC f).set j u = fieldC f') : PSt a w (wx.setCell ⟨gf, j, none⟩ u) D gf f' v ss := by
  obtain ⟨h1, h2, h3, h4, h5, h6, p, n, cap, e, hn, hS⟩ := h
  exact ⟨h1.other (by simp; omega) _, by rw [← hf]; exact h2.set j u, h3, h4, h5.setCell (by simp; omega) _, h6.set (by simp; omega) _, p, n, cap, e, hn, hS.set (by simpa using h4) _⟩
theorem PSt.words (h : PSt a w wx D gf f v ss) {p : Option Addr} {n cap : Nat} {ss' : List (List UInt8)} (hn : n ≤ 1048577) (hS : SlS wx D p n cap ss') : PSt a w wx D gf f (.slice p n cap) ss' := by
  obtain ⟨h1, h2, h3, h4, h5, h6, _⟩ := h
  exact ⟨h1, h2, h3, h4, h5, h6, p, n, cap, rfl, hn, hS⟩
end
set_option maxHeartbeats 4000000 in
set_option maxRecDepth 100000 in
theorem implParse_any (s : ByteArray) (a : Addr) (w : World) (hs : s.size ≤ 1048576) (hsh : w.ShapedOpen Tryd.prog) (hE : ErrText w a) :
    Calls Tryd.prog 31 #[.string s] w fun e w' => ((∃ f, readF s.data.toList = some f ∧ e = .returned (.tuple #[fieldV f, .nilIface])) ∨ (readF s.data.toList = none ∧ e = .returned (.tuple #[fieldV zeroF, sentV a]))) ∧ Below w.heap.size w w' := by
  rw [← parseW_readF]
  have hplen := partsF_length 32 s.data.toList
  have hpne := partsF_ne 32 s.data.toList
  have hpmem := partsF_mem 32 s.data.toList
  have hsl : s.data.toList.length = s.size := by simp
  have hb1 : Below w.heap.size w (w.alloc (.cells #[.int .i64 0, .int .i64 0, .bool false, .bool false, .int .i64 0] 25)) := (Below.refl _ _).alloc (Nat.le_refl _) _
  have hx1 := Box.fresh w #[.int .i64 0, .int .i64 0, .bool false, .bool false, .int .i64 0] 25
  have HP := Lib.hid (implParts_any s 32 (w.alloc (.cells #[.int .i64 0, .int .i64 0, .bool false, .bool false, .int .i64 0] 25)) hs (shaped_below hsh hb1))
  rw [show ((32 : UInt8).toNat : Int) = 32 from rfl] at HP
  generalize hws : partsF 32 s.data.toList = ws at hplen hpne hpmem HP ⊢
  have Hws := Lib.hid hws
  clear hws hsh
  obtain ⟨R, hR⟩ : ∃ R, parseW ws = R := ⟨_, rfl⟩
  rw [hR]
  have HR := Lib.hid hR
  clear hR
  have hz1 : w.heap.size < (w.alloc (.cells #[.int .i64 0, .int .i64 0, .bool false, .bool false, .int .i64 0] 25)).heap.size := by simp
  go_enter Tryd.func31, Tryd.ntmps31
  go_wp2_with fail
  generalize (w.alloc (.cells #[.int .i64 0, .int .i64 0, .bool false, .bool false, .int .i64 0] 25)) = w1 at hb1 hx1 HP hz1 ⊢
  refine HP.out.mono ?_
  rintro e w2 ⟨v, P, rfl, hP, hown, hb2⟩
  rw [Hws.out] at hP
  obtain ⟨g, cap, rfl, hg, hS⟩ := slS_of (w := w) hown hP hpne
  have hl2 := hb1.trans (hb2.mono hb1.size)
  have hz0 : 0 < w.heap.size := Nat.lt_of_le_of_lt (Nat.zero_le _) hE.2
  have HX2 := Lib.hid (hx1.below hb2 hz1)
  have HE2 := Lib.hid (hE.below hl2)
  have hz2 : w.heap.size < w2.heap.size := Nat.lt_of_lt_of_le hz1 hb2.size
  have hn : ws.length ≤ 1048577 := by omega
  have Hmem : Hid (∀ p ∈ ws, p.length ≤ 1048576) := Lib.hid fun p hp => by have := hpmem p hp; omega
  have HS := Lib.hid hS
  clear hown hb2 hx1 hE hP hb1 hS HP hplen hpmem hsl Hws
  match ws, hpne, HS, hn, Hmem, HR with
  | [], hpne, HS, hn, Hmem, HR => exact absurd rfl hpne
  | [x], hpne, HS, hn, Hmem, HR =>
    have Hr : Hid (R = none) := Lib.hid (by rw [← HR.out]; rfl)
    clear HS Hmem HR
    obtain ⟨e0, e1⟩ := HE2.out
    have hne1 : ¬ ((0 : Nat) = w.heap.size) := by omega
    have hne2 : ¬ (w.heap.size = 0) := by omega
    obtain ⟨⟨c0, c1, c2, c3, c4⟩, k0, k1, k2, k3, k4⟩ := Box.five HX2.out
    unfold sentV at *
    go_wp2_with fail
    go_region
    all_goals
      go_wp2_with fail
      refine bodyPost_ret (v := .tuple #[.agg #[.int .i64 0, .int .i64 0, .bool false, .bool false, .int .i64 0], .iface 178 (.pointer (some a))]) (by simp [results, Tryd.results31, go_sem, c0, c1, c2, c3, c4]) rfl ?_
      refine ⟨.inr ⟨Hr.out, rfl⟩, ?_⟩
      first
        | exact (((((hl2.setCell (by simp) _).setCell (by simp) _).setCell (by simp) _).setCell (by simp) _).setCell (by simp) _).drew
        | exact (((((hl2.drew.setCell (by simp) _).setCell (by simp) _).setCell (by simp) _).setCell (by simp) _).setCell (by simp) _)
  | h :: k :: t, hpne, HS, hn, Hmem, HR =>
    obtain ⟨e0, e1⟩ := HE2.out
    have hne1 : ¬ ((0 : Nat) = w.heap.size) := by omega
    have hne2 : ¬ (w.heap.size = 0) := by omega
    have hn2 : 2 ≤ (h :: k :: t).length := by simp
    obtain ⟨hSl, hSc, hSv⟩ := HS.out
    obtain ⟨b, o, hp, hblt, hcells⟩ := HS.out.cells (by omega)
    obtain ⟨rfl, rfl⟩ : g = b ∧ 0 = o := by injection hp with hp; injection hp with h1 h2; exact ⟨h1, h2⟩
    have q0 := hcells 0 (by simp)
    have q1 := hcells 1 (by simp)
    simp only [List.getElem_cons_zero, List.getElem_cons_succ, Nat.zero_add] at q0 q1
    have hkm := Hmem.out k (by simp)
    obtain ⟨sk, hsk⟩ : ∃ s : ByteArray, s = ⟨k.toArray⟩ := ⟨_, rfl⟩
    obtain ⟨sh, hsh⟩ : ∃ s : ByteArray, s = ⟨h.toArray⟩ := ⟨_, rfl⟩
    rw [← hsk] at q1
    rw [← hsh] at q0
    have hskz : sk.size ≤ maxLen := by rw [hsk]; simp [ByteArray.size]; unfold maxLen; omega
    have Hsk : Hid (sk.data.toList = k) := Lib.hid (by rw [hsk])
    have Hsh : Hid (sh.data.toList = h) := Lib.hid (by rw [hsh])
    have Hshz : Hid (sh.size ≤ 9223372036854775807) := Lib.hid (by have := Hmem.out h (by simp); rw [hsh]; simp [ByteArray.size]; omega)
    clear hcells hp hSv hsk hsh hkm
    generalize hN : (h :: k :: t).length = N at *
    have hNi : ¬ ((N : Int) < 2) := by omega
    have hN1 : (1 : Int) < (N : Int) := by omega
    obtain ⟨K, hK⟩ : ∃ K, kindTo k 0 8 = K := ⟨_, rfl⟩
    have Hk : Hid (∀ (wx : World) (bb : Nat), wx.ownsMap Tryd.prog 9 (plainElem Tryd.prog 3) bb 8 KD → (Instr.lookup 77 (.map (some bb)) (.string sk) false).run Tryd.prog wx = .ok (.int .i64 K) wx) := Lib.hid fun wx bb hm => by
      rw [kd_run sk hskz hm, Hsk.out, hK]
    have HK := Lib.hid hK
    have HN := Lib.hid hN
    have hgg : g < w2.heap.size := hblt
    clear hK hskz hN
    go_upto_region 4 with fail
    go_cut [5] (fun s5 wx => ∃ gf, s5 = .pointer (some ⟨gf, 0, none⟩) ∧ w2.heap.size ≤ gf ∧ Hid (Box wx gf [.int .i64 0, .int .i64 K, .bool false, .bool false, .int .i64 0]) ∧ Below w2.heap.size w2 wx)
    case first =>
      go_region_with (go_at_call 49; refine (kinds_any _).mono ?_; rintro e w4 ⟨rfl, hown, hg4⟩; (first
        | (have hb4 : Below w2.heap.size w2 w4 := Below.grown (row := none) (w := (w2.alloc (.cells #[.int .i64 0, .int .i64 0, .bool false, .bool false, .int .i64 0] 25)).drew) ((Below.refl _ _).alloc (Nat.le_refl _) _).drew hg4 (by simp) (fun j hj => by cases hj)
           have hx4 : Box w4 w2.heap.size [.int .i64 0, .int .i64 0, .bool false, .bool false, .int .i64 0] := Box.grown hg4 (Box.drew (Box.fresh w2 #[.int .i64 0, .int .i64 0, .bool false, .bool false, .int .i64 0] 25)) (fun j hj => by cases hj)
           obtain ⟨⟨d0, d1, d2, d3, d4⟩, f0, f1, f2, f3, f4⟩ := Box.five hx4
           have hk4 : (Instr.lookup 77 (.map (some (w2.heap.size + 1))) (.string sk) false).run Tryd.prog w4 = .ok (.int .i64 K) w4 := Hk.out w4 _ (by have h := hown; rwa [show (w2.alloc (.cells #[.int .i64 0, .int .i64 0, .bool false, .bool false, .int .i64 0] 25)).drew.heap.size = w2.heap.size + 1 by simp] at h))
        | (have hb4 : Below w2.heap.size w2 w4 := Below.grown (Below.refl _ _).drew hg4 (Nat.le_refl _) (fun j hj => by cases hj)
           have hk4 : (Instr.lookup 77 (.map (some w2.heap.size)) (.string sk) false).run Tryd.prog w4 = .ok (.int .i64 K) w4 := Hk.out w4 _ hown
           have hk5 : ∀ o, (Instr.lookup 77 (.map (some w2.heap.size)) (.string sk) false).run Tryd.prog (w4.alloc o) = .ok (.int .i64 K) (w4.alloc o) := fun o => Hk.out _ _ (hown.alloc o))); have q4 := (hb4.cell (p := ⟨g, 1, none⟩) hblt).trans q1; have hz4 : g < w4.heap.size := Nat.lt_of_lt_of_le hblt hb4.size)
      all_goals
        go_wp2_with fail
        go_meet
        first
          | (have hB5 : Box (((((w4.setCell ⟨w2.heap.size, 0, none⟩ (.int .i64 0)).setCell ⟨w2.heap.size, 1, none⟩ (.int .i64 K)).setCell ⟨w2.heap.size, 2, none⟩ (.bool false)).setCell ⟨w2.heap.size, 3, none⟩ (.bool false)).setCell ⟨w2.heap.size, 4, none⟩ (.int .i64 0)) w2.heap.size [.int .i64 0, .int .i64 K, .bool false, .bool false, .int .i64 0] := ((((hx4.set 0 (.int .i64 0)).set 1 (.int .i64 K)).set 2 (.bool false)).set 3 (.bool false)).set 4 (.int .i64 0)
             have hb5 : Below w2.heap.size w2 (((((w4.setCell ⟨w2.heap.size, 0, none⟩ (.int .i64 0)).setCell ⟨w2.heap.size, 1, none⟩ (.int .i64 K)).setCell ⟨w2.heap.size, 2, none⟩ (.bool false)).setCell ⟨w2.heap.size, 3, none⟩ (.bool false)).setCell ⟨w2.heap.size, 4, none⟩ (.int .i64 0)) := ((((hb4.setCell (by simp) _).setCell (by simp) _).setCell (by simp) _).setCell (by simp) _).setCell (by simp) _
             exact ⟨w2.heap.size, rfl, Nat.le_refl _, Lib.hid (by with_reducible exact hB5), by with_reducible exact hb5⟩)
          | exact ⟨w4.heap.size, rfl, hb4.size, Lib.hid (by with_reducible exact Box.fresh w4 #[.int .i64 0, .int .i64 K, .bool false, .bool false, .int .i64 0] 25), by with_reducible exact hb4.alloc hb4.size _⟩
          | (trace_state; sorry)
    case rest =>
      obtain ⟨gf, rfl, hgf, HF, hl⟩ := hcut
      have hll := hl2.trans (hl.mono (Nat.le_of_lt hz2))
      have q0' := (hl.cell (p := ⟨g, 0, none⟩) hblt).trans q0
      have HPx : Hid (PSt a w wc w2.heap.size gf (0, K, false, false, 0) (.slice (some ⟨g, 0, none⟩) N cap) (h :: k :: t)) := Lib.hid ⟨HX2.out.below hl hz2, HF.out, hz2, hgf, hll, HE2.out.below hl, _, _, _, rfl, hn, HS.out.below hl⟩
      clear HX2 HE2 HS e0 q0 q1 HF hl hll
      obtain ⟨⟨f0, f1, f2, f3, f4⟩, g0, g1, g2, g3, g4⟩ := Box.five HPx.out.2.1
      obtain ⟨nh, hnh⟩ : ∃ n : Int, ((parse 999999999 h).1 : Int) = n := ⟨_, rfl⟩
      obtain ⟨bh, hbh⟩ : ∃ b, (parse 999999999 h).2 = b := ⟨_, rfl⟩
      have HNum : Hid (∀ wx, Calls Tryd.prog 54 #[.string sh] wx fun e w' => e = .returned (.tuple #[.int .i64 nh, .bool bh]) ∧ Below wx.heap.size wx w') := Lib.hid fun wx => by
        have h := number_any sh wx Hshz.out
        rw [Hsh.out, hnh, hbh] at h
        exact h
      have Hnh := Lib.hid hnh
      clear hnh hbh Hsh Hshz
      go_wp2_with fail
      refine (HNum.out _).mono ?_
      rintro e w6 ⟨rfl, hb6⟩
      have HP6 := Lib.hid (HPx.out.all hb6)
      clear HPx hb6 q0' f0 f1 f2 f3 f4 g0 g1 g2 g3 g4 HNum
      obtain ⟨⟨f0, f1, f2, f3, f4⟩, g0, g1, g2, g3, g4⟩ := Box.five HP6.out.2.1
      go_upto_region 6 with fail
      have HP7 : Hid (PSt a w (w6.setCell ⟨gf, 0, none⟩ (.int .i64 nh)) w2.heap.size gf (nh, K, false, false, 0) (.slice (some ⟨g, 0, none⟩) N cap) (h :: k :: t)) := Lib.hid (HP6.out.set 0 _ _ rfl)
      clear HP6 f0 f1 f2 f3 f4 g0 g1 g2 g3 g4
      generalize w6.setCell ⟨gf, 0, none⟩ (.int .i64 nh) = w7 at HP7 ⊢
      have hS7 : SlS w7 w2.heap.size (some ⟨g, 0, none⟩) N cap (h :: k :: t) := by
        obtain ⟨_, _, _, _, _, _, p, n, c, e, _, hS⟩ := HP7.out
        injection e with e1 e2 e3
        subst e1 e2 e3
        exact hS
      have hf7 := hS7.from 2 hn2
      rw [show List.drop 2 (h :: k :: t) = t from rfl] at hf7
      go_cut [4] (fun s4 wx => Hid (PSt a w wx w2.heap.size gf (nh, K, false, false, 0) s4 t))
      case first =>
        have hn2i : (2 : Int) ≤ (N : Int) := by omega
        by_cases hc2 : cap = 2
        · subst hc2
          obtain rfl : N = 2 := by omega
          rw [if_pos rfl] at hf7
          simp only [Nat.sub_self] at hf7
          have HE := Lib.hid (HP7.out.words (by omega) hf7)
          clear hS7 hf7 HP7
          go_wp2_with fail
          go_meet
          exact HE
        · rw [if_neg hc2, show (some (⟨g, 0, none⟩ : Addr)).map (·.add (2 * 1)) = some ⟨g, 2, none⟩ from rfl] at hf7
          have HE := Lib.hid (HP7.out.words (by omega) hf7)
          have hc3 : cap - 2 ≠ 0 := by omega
          clear hS7 hf7 HP7
          go_wp2_with fail
          go_meet
          exact HE
      case rest =>
        have HP8 := hcut
        obtain ⟨p8, n8, c8, rfl, hn8, hS8⟩ := HP8.out.2.2.2.2.2.2
        have HS8 := Lib.hid hS8
        clear hcut HP7 hf7 hS7 hS8
        by_cases h8 : K = 8
        · subst h8
          match t, HP8, HS8, HR, HN, Hmem with
          | [], HP8, HS8, HR, HN, Hmem =>
            obtain rfl : n8 = 0 := by have := HS8.out.1; simpa using this.symm
            have Hx : Hid (refW 8 [] = (0, [])) := Lib.hid (by unfold refW; rw [if_pos rfl])
            have HPr : Hid (PSt a w _ w2.heap.size gf (nh, 8, false, false, 0) (.slice p8 0 c8) []) := HP8
            have HSr := HS8
            have hnr : 0 ≤ 1048577 := by omega
            clear HP8 HS8 hn8
            obtain ⟨⟨f0, f1, f2, f3, f4⟩, g0, g1, g2, g3, g4⟩ := Box.five HPr.out.2.1
            go_wp2_with fail
            obtain ⟨a1, r1, ha1⟩ : ∃ a1 r1, takeR repW [] = (a1, r1) := ⟨_, _, rfl⟩
            obtain ⟨b1, r2, hb1⟩ : ∃ b1 r2, takeR packW r1 = (b1, r2) := ⟨_, _, rfl⟩
            have HT1 : Hid (∀ (wx : World) (p : Option Addr) (n c : Nat), SlS wx w2.heap.size p n c [] → n ≤ 1048577 → Calls Tryd.prog 55 #[.slice p n c, .string ⟨#[114, 101, 112, 101, 97, 116, 101, 100]⟩] wx fun e w' => ∃ p' n' cap', e = .returned (.tuple #[.bool a1, .slice p' n' cap']) ∧ n' ≤ 1048577 ∧ SlS w' w2.heap.size p' n' cap' r1 ∧ Below wx.heap.size wx w') := Lib.hid fun wx p n c hS hn => by
              have h := takeWord_any w2.heap.size p n c [] ⟨#[114, 101, 112, 101, 97, 116, 101, 100]⟩ wx hS hn
              rw [show (⟨#[114, 101, 112, 101, 97, 116, 101, 100]⟩ : ByteArray).data.toList = repW from rfl, ha1] at h
              simp only at h
              exact h
            have HT2 : Hid (∀ (wx : World) (p : Option Addr) (n c : Nat), SlS wx w2.heap.size p n c r1 → n ≤ 1048577 → Calls Tryd.prog 55 #[.slice p n c, .string ⟨#[112, 97, 99, 107, 101, 100]⟩] wx fun e w' => ∃ p' n' cap', e = .returned (.tuple #[.bool b1, .slice p' n' cap']) ∧ n' ≤ 1048577 ∧ SlS w' w2.heap.size p' n' cap' r2 ∧ Below wx.heap.size wx w') := Lib.hid fun wx p n c hS hn => by
              have h := takeWord_any w2.heap.size p n c r1 ⟨#[112, 97, 99, 107, 101, 100]⟩ wx hS hn
              rw [show (⟨#[112, 97, 99, 107, 101, 100]⟩ : ByteArray).data.toList = packW from rfl, hb1] at h
              simp only at h
              exact h
            have Hpt : Hid (parseT h k [] = ((nh, 8, a1, b1, 0), r2)) := Lib.hid (by
              unfold parseT
              simp only [HK.out, Hnh.out, Hx.out, ha1, hb1])
            clear ha1 hb1 Hx
            refine (HT1.out _ _ _ _ HSr.out hnr).mono ?_
            rintro e w10 ⟨p10, n10, c10, rfl, hn10, hS10, hb10⟩
            have HP10 := Lib.hid ((HPr.out.all hb10).words hn10 hS10)
            clear HPr HSr hnr hS10 hb10 f0 f1 f2 f3 f4 g0 g1 g2 g3 g4 HT1
            obtain ⟨⟨f0, f1, f2, f3, f4⟩, g0, g1, g2, g3, g4⟩ := Box.five HP10.out.2.1
            go_upto_region 11 with fail
            have HP11 : Hid (PSt a w (w10.setCell ⟨gf, 2, none⟩ (.bool a1)) w2.heap.size gf (nh, 8, a1, false, 0) (.slice p10 n10 c10) r1) := Lib.hid (HP10.out.set 2 _ _ rfl)
            clear HP10 f0 f1 f2 f3 f4 g0 g1 g2 g3 g4
            generalize w10.setCell ⟨gf, 2, none⟩ (.bool a1) = w11 at HP11 ⊢
            have HS11 : Hid (SlS w11 w2.heap.size p10 n10 c10 r1) := Lib.hid (by
              obtain ⟨_, _, _, _, _, _, p, n, c, e, _, hS⟩ := HP11.out
              injection e with e1 e2 e3
              subst e1 e2 e3
              exact hS)
            go_wp2_with fail
            refine (HT2.out _ _ _ _ HS11.out hn10).mono ?_
            rintro e w12 ⟨p12, n12, c12, rfl, hn12, hS12, hb12⟩
            have HP12 := Lib.hid ((HP11.out.all hb12).words hn12 hS12)
            have hl12 : r2.length = n12 := hS12.1
            clear HP11 HS11 hn10 hS12 hb12 HT2
            obtain ⟨⟨f0, f1, f2, f3, f4⟩, g0, g1, g2, g3, g4⟩ := Box.five HP12.out.2.1
            go_upto_region 12 with fail
            have HP13 : Hid (PSt a w (w12.setCell ⟨gf, 3, none⟩ (.bool b1)) w2.heap.size gf (nh, 8, a1, b1, 0) (.slice p12 n12 c12) r2) := Lib.hid (HP12.out.set 3 _ _ rfl)
            clear HP12 f0 f1 f2 f3 f4 g0 g1 g2 g3 g4
            generalize w12.setCell ⟨gf, 3, none⟩ (.bool b1) = w13 at HP13 ⊢
            obtain ⟨⟨f0, f1, f2, f3, f4⟩, g0, g1, g2, g3, g4⟩ := Box.five HP13.out.2.1
            by_cases h0 : r2 = []
            · obtain rfl : n12 = 0 := by rw [← hl12, h0]; rfl
              have HH := Lib.hid (implHasText_any (nh, 8, a1, b1, 0))
              by_cases ht : hasText (nh, 8, a1, b1, 0)
              · rw [decide_eq_true ht] at HH
                have Hr : Hid (R = some (nh, 8, a1, b1, 0)) := Lib.hid (by rw [← HR.out]; unfold parseW; simp only; rw [Hpt.out]; rw [if_pos ⟨h0, ht⟩])
                unfold fieldV at HH
                simp only at HH
                clear h0 ht Hpt HR hl12
                go_wp2_with fail
                refine (HH.out _).mono ?_
                rintro e w14 ⟨rfl, hb14⟩
                have HP14 := Lib.hid (HP13.out.all hb14)
                clear HP13 hb14 f0 f1 f2 f3 f4 g0 g1 g2 g3 g4 HH
                obtain ⟨⟨f0, f1, f2, f3, f4⟩, g0, g1, g2, g3, g4⟩ := Box.five HP14.out.2.1
                obtain ⟨⟨c0, c1, c2, c3, c4⟩, k0, k1, k2, k3, k4⟩ := Box.five HP14.out.1
                go_wp2_with fail
                refine bodyPost_ret (v := .tuple #[.agg #[.int .i64 nh, .int .i64 8, .bool a1, .bool b1, .int .i64 0], .nilIface]) (by simp [results, Tryd.results31, go_sem, c0, c1, c2, c3, c4]) rfl ?_
                exact ⟨.inl ⟨_, Hr.out, rfl⟩, (((((HP14.out.2.2.2.2.1.setCell (by simp) _).setCell (by simp) _).setCell (by simp) _).setCell (by simp) _).setCell (by simp) _)⟩
              · rw [decide_eq_false ht] at HH
                have Hr : Hid (R = none) := Lib.hid (by rw [← HR.out]; unfold parseW; simp only; rw [Hpt.out]; rw [if_neg fun e => ht e.2])
                unfold fieldV at HH
                simp only at HH
                clear h0 ht Hpt HR hl12
                go_wp2_with fail
                refine (HH.out _).mono ?_
                rintro e w14 ⟨rfl, hb14⟩
                have HP14 := Lib.hid (HP13.out.all hb14)
                clear HP13 hb14 f0 f1 f2 f3 f4 g0 g1 g2 g3 g4 HH
                obtain ⟨⟨c0, c1, c2, c3, c4⟩, k0, k1, k2, k3, k4⟩ := Box.five HP14.out.1
                obtain ⟨e0, e1⟩ := HP14.out.2.2.2.2.2.1
                unfold sentV at e0
                go_wp2_with fail
                go_region
                all_goals
                  go_wp2_with fail
                  refine bodyPost_ret (v := .tuple #[.agg #[.int .i64 0, .int .i64 0, .bool false, .bool false, .int .i64 0], .iface 178 (.pointer (some a))]) (by simp [results, Tryd.results31, go_sem, c0, c1, c2, c3, c4]) rfl ?_
                  refine ⟨.inr ⟨Hr.out, rfl⟩, ?_⟩
                  first
                    | exact (((((HP14.out.2.2.2.2.1.setCell (by simp) _).setCell (by simp) _).setCell (by simp) _).setCell (by simp) _).setCell (by simp) _).drew
                    | exact (((((HP14.out.2.2.2.2.1.drew.setCell (by simp) _).setCell (by simp) _).setCell (by simp) _).setCell (by simp) _).setCell (by simp) _)
            · have hp12 : 0 < n12 := by rw [← hl12]; exact List.length_pos_iff.2 h0
              have Hr : Hid (R = none) := Lib.hid (by rw [← HR.out]; unfold parseW; simp only; rw [Hpt.out]; rw [if_neg fun e => h0 e.1])
              have hp12i : (0 : Int) < (n12 : Int) := by omega
              clear h0 Hpt HR hl12 f0 f1 f2 f3 f4 g0 g1 g2 g3 g4
              obtain ⟨⟨c0, c1, c2, c3, c4⟩, k0, k1, k2, k3, k4⟩ := Box.five HP13.out.1
              obtain ⟨e0, e1⟩ := HP13.out.2.2.2.2.2.1
              unfold sentV at e0
              go_wp2_with fail
              go_region
              all_goals
                go_wp2_with fail
                refine bodyPost_ret (v := .tuple #[.agg #[.int .i64 0, .int .i64 0, .bool false, .bool false, .int .i64 0], .iface 178 (.pointer (some a))]) (by simp [results, Tryd.results31, go_sem, c0, c1, c2, c3, c4]) rfl ?_
                refine ⟨.inr ⟨Hr.out, rfl⟩, ?_⟩
                first
                  | exact (((((HP13.out.2.2.2.2.1.setCell (by simp) _).setCell (by simp) _).setCell (by simp) _).setCell (by simp) _).setCell (by simp) _).drew
                  | exact (((((HP13.out.2.2.2.2.1.drew.setCell (by simp) _).setCell (by simp) _).setCell (by simp) _).setCell (by simp) _).setCell (by simp) _)
          | y :: t, HP8, HS8, HR, HN, Hmem =>
            have hn81 : 0 < n8 := by have := HS8.out.1; simp at this; omega
            have hn8i : (0 : Int) < (n8 : Int) := by omega
            obtain ⟨x, hx⟩ : ∃ x : Int, ((parse 999999999 y).1 : Int) = x := ⟨_, rfl⟩
            obtain ⟨r, hr⟩ : ∃ r, t = r := ⟨_, rfl⟩
            have Hx : Hid (refW 8 (y :: t) = (x, r)) := Lib.hid (by unfold refW; rw [if_pos rfl]; simp only [hx, hr])
            obtain ⟨by', hby⟩ : ∃ b, (parse 999999999 y).2 = b := ⟨_, rfl⟩
            obtain ⟨sy, hsy⟩ : ∃ s : ByteArray, s = ⟨y.toArray⟩ := ⟨_, rfl⟩
            have HNy : Hid (∀ wx, Calls Tryd.prog 54 #[.string sy] wx fun e w' => e = .returned (.tuple #[.int .i64 x, .bool by']) ∧ Below wx.heap.size wx w') := Lib.hid fun wx => by
              have h := number_any sy wx (by have := Hmem.out y (by simp); rw [hsy]; simp [ByteArray.size]; omega)
              rw [show sy.data.toList = y by rw [hsy], hx, hby] at h
              exact h
            obtain ⟨b8, o8, rfl, hb8, hcs8⟩ := HS8.out.cells hn81
            have q8 := hcs8 0 (by simp)
            simp only [List.getElem_cons_zero, Nat.add_zero] at q8
            rw [← hsy] at q8
            have hcap8 := HS8.out.2.1
            clear hcs8 hx hby hsy
            obtain ⟨⟨f0, f1, f2, f3, f4⟩, g0, g1, g2, g3, g4⟩ := Box.five HP8.out.2.1
            go_wp2_with fail
            refine (HNy.out _).mono ?_
            rintro e w8 ⟨rfl, hb9⟩
            have HP9 := Lib.hid (HP8.out.all hb9)
            clear HP8 HS8 hb9 q8 f0 f1 f2 f3 f4 g0 g1 g2 g3 g4 HNy
            obtain ⟨⟨f0, f1, f2, f3, f4⟩, g0, g1, g2, g3, g4⟩ := Box.five HP9.out.2.1
            go_upto_region 9 with fail
            have HP9' : Hid (PSt a w (w8.setCell ⟨gf, 4, none⟩ (.int .i64 x)) w2.heap.size gf (nh, 8, false, false, x) (.slice (some ⟨b8, o8, none⟩) n8 c8) (y :: t)) := Lib.hid (HP9.out.set 4 _ _ rfl)
            clear HP9 f0 f1 f2 f3 f4 g0 g1 g2 g3 g4
            generalize w8.setCell ⟨gf, 4, none⟩ (.int .i64 x) = w9 at HP9' ⊢
            have hS9 : SlS w9 w2.heap.size (some ⟨b8, o8, none⟩) n8 c8 (y :: t) := by
              obtain ⟨_, _, _, _, _, _, p, n, c, e, _, hS⟩ := HP9'.out
              injection e with e1 e2 e3
              subst e1 e2 e3
              exact hS
            have hf9 := hS9.from 1 hn81
            rw [show List.drop 1 (y :: t) = t from rfl, hr] at hf9
            go_cut [4] (fun s4 wx => Hid (PSt a w wx w2.heap.size gf (nh, 8, false, false, x) s4 r))
            case first =>
              have hn1i : (1 : Int) ≤ (n8 : Int) := by omega
              by_cases hc2 : c8 = 1
              · subst hc2
                obtain rfl : n8 = 1 := by omega
                rw [if_pos rfl] at hf9
                simp only [Nat.sub_self] at hf9
                have HE := Lib.hid (HP9'.out.words (by omega) hf9)
                clear hS9 hf9 HP9'
                go_wp2_with fail
                go_meet
                exact HE
              · rw [if_neg hc2, show (some (⟨b8, o8, none⟩ : Addr)).map (·.add (1 * 1)) = some ⟨b8, o8 + 1, none⟩ from rfl] at hf9
                have HE := Lib.hid (HP9'.out.words (by omega) hf9)
                have hc3 : c8 - 1 ≠ 0 := by omega
                clear hS9 hf9 HP9'
                go_wp2_with fail
                go_meet
                exact HE
            case rest =>
              have HPr := hcut
              obtain ⟨p9, n9, c9, rfl, hnr, hSr⟩ := HPr.out.2.2.2.2.2.2
              have HSr := Lib.hid hSr
              clear hcut HP9' hf9 hS9 hSr hr
              obtain ⟨⟨f0, f1, f2, f3, f4⟩, g0, g1, g2, g3, g4⟩ := Box.five HPr.out.2.1
              go_wp2_with fail
              obtain ⟨a1, r1, ha1⟩ : ∃ a1 r1, takeR repW r = (a1, r1) := ⟨_, _, rfl⟩
              obtain ⟨b1, r2, hb1⟩ : ∃ b1 r2, takeR packW r1 = (b1, r2) := ⟨_, _, rfl⟩
              have HT1 : Hid (∀ (wx : World) (p : Option Addr) (n c : Nat), SlS wx w2.heap.size p n c r → n ≤ 1048577 → Calls Tryd.prog 55 #[.slice p n c, .string ⟨#[114, 101, 112, 101, 97, 116, 101, 100]⟩] wx fun e w' => ∃ p' n' cap', e = .returned (.tuple #[.bool a1, .slice p' n' cap']) ∧ n' ≤ 1048577 ∧ SlS w' w2.heap.size p' n' cap' r1 ∧ Below wx.heap.size wx w') := Lib.hid fun wx p n c hS hn => by
                have h := takeWord_any w2.heap.size p n c r ⟨#[114, 101, 112, 101, 97, 116, 101, 100]⟩ wx hS hn
                rw [show (⟨#[114, 101, 112, 101, 97, 116, 101, 100]⟩ : ByteArray).data.toList = repW from rfl, ha1] at h
                simp only at h
                exact h
              have HT2 : Hid (∀ (wx : World) (p : Option Addr) (n c : Nat), SlS wx w2.heap.size p n c r1 → n ≤ 1048577 → Calls Tryd.prog 55 #[.slice p n c, .string ⟨#[112, 97, 99, 107, 101, 100]⟩] wx fun e w' => ∃ p' n' cap', e = .returned (.tuple #[.bool b1, .slice p' n' cap']) ∧ n' ≤ 1048577 ∧ SlS w' w2.heap.size p' n' cap' r2 ∧ Below wx.heap.size wx w') := Lib.hid fun wx p n c hS hn => by
                have h := takeWord_any w2.heap.size p n c r1 ⟨#[112, 97, 99, 107, 101, 100]⟩ wx hS hn
                rw [show (⟨#[112, 97, 99, 107, 101, 100]⟩ : ByteArray).data.toList = packW from rfl, hb1] at h
                simp only at h
                exact h
              have Hpt : Hid (parseT h k (y :: t) = ((nh, 8, a1, b1, x), r2)) := Lib.hid (by
                unfold parseT
                simp only [HK.out, Hnh.out, Hx.out, ha1, hb1])
              clear ha1 hb1 Hx
              refine (HT1.out _ _ _ _ HSr.out hnr).mono ?_
              rintro e w10 ⟨p10, n10, c10, rfl, hn10, hS10, hb10⟩
              have HP10 := Lib.hid ((HPr.out.all hb10).words hn10 hS10)
              clear HPr HSr hnr hS10 hb10 f0 f1 f2 f3 f4 g0 g1 g2 g3 g4 HT1
              obtain ⟨⟨f0, f1, f2, f3, f4⟩, g0, g1, g2, g3, g4⟩ := Box.five HP10.out.2.1
              go_upto_region 11 with fail
              have HP11 : Hid (PSt a w (w10.setCell ⟨gf, 2, none⟩ (.bool a1)) w2.heap.size gf (nh, 8, a1, false, x) (.slice p10 n10 c10) r1) := Lib.hid (HP10.out.set 2 _ _ rfl)
              clear HP10 f0 f1 f2 f3 f4 g0 g1 g2 g3 g4
              generalize w10.setCell ⟨gf, 2, none⟩ (.bool a1) = w11 at HP11 ⊢
              have HS11 : Hid (SlS w11 w2.heap.size p10 n10 c10 r1) := Lib.hid (by
                obtain ⟨_, _, _, _, _, _, p, n, c, e, _, hS⟩ := HP11.out
                injection e with e1 e2 e3
                subst e1 e2 e3
                exact hS)
              go_wp2_with fail
              refine (HT2.out _ _ _ _ HS11.out hn10).mono ?_
              rintro e w12 ⟨p12, n12, c12, rfl, hn12, hS12, hb12⟩
              have HP12 := Lib.hid ((HP11.out.all hb12).words hn12 hS12)
              have hl12 : r2.length = n12 := hS12.1
              clear HP11 HS11 hn10 hS12 hb12 HT2
              obtain ⟨⟨f0, f1, f2, f3, f4⟩, g0, g1, g2, g3, g4⟩ := Box.five HP12.out.2.1
              go_upto_region 12 with fail
              have HP13 : Hid (PSt a w (w12.setCell ⟨gf, 3, none⟩ (.bool b1)) w2.heap.size gf (nh, 8, a1, b1, x) (.slice p12 n12 c12) r2) := Lib.hid (HP12.out.set 3 _ _ rfl)
              clear HP12 f0 f1 f2 f3 f4 g0 g1 g2 g3 g4
              generalize w12.setCell ⟨gf, 3, none⟩ (.bool b1) = w13 at HP13 ⊢
              obtain ⟨⟨f0, f1, f2, f3, f4⟩, g0, g1, g2, g3, g4⟩ := Box.five HP13.out.2.1
              by_cases h0 : r2 = []
              · obtain rfl : n12 = 0 := by rw [← hl12, h0]; rfl
                have HH := Lib.hid (implHasText_any (nh, 8, a1, b1, x))
                by_cases ht : hasText (nh, 8, a1, b1, x)
                · rw [decide_eq_true ht] at HH
                  have Hr : Hid (R = some (nh, 8, a1, b1, x)) := Lib.hid (by rw [← HR.out]; unfold parseW; simp only; rw [Hpt.out]; rw [if_pos ⟨h0, ht⟩])
                  unfold fieldV at HH
                  simp only at HH
                  clear h0 ht Hpt HR hl12
                  go_wp2_with fail
                  refine (HH.out _).mono ?_
                  rintro e w14 ⟨rfl, hb14⟩
                  have HP14 := Lib.hid (HP13.out.all hb14)
                  clear HP13 hb14 f0 f1 f2 f3 f4 g0 g1 g2 g3 g4 HH
                  obtain ⟨⟨f0, f1, f2, f3, f4⟩, g0, g1, g2, g3, g4⟩ := Box.five HP14.out.2.1
                  obtain ⟨⟨c0, c1, c2, c3, c4⟩, k0, k1, k2, k3, k4⟩ := Box.five HP14.out.1
                  go_wp2_with fail
                  refine bodyPost_ret (v := .tuple #[.agg #[.int .i64 nh, .int .i64 8, .bool a1, .bool b1, .int .i64 x], .nilIface]) (by simp [results, Tryd.results31, go_sem, c0, c1, c2, c3, c4]) rfl ?_
                  exact ⟨.inl ⟨_, Hr.out, rfl⟩, (((((HP14.out.2.2.2.2.1.setCell (by simp) _).setCell (by simp) _).setCell (by simp) _).setCell (by simp) _).setCell (by simp) _)⟩
                · rw [decide_eq_false ht] at HH
                  have Hr : Hid (R = none) := Lib.hid (by rw [← HR.out]; unfold parseW; simp only; rw [Hpt.out]; rw [if_neg fun e => ht e.2])
                  unfold fieldV at HH
                  simp only at HH
                  clear h0 ht Hpt HR hl12
                  go_wp2_with fail
                  refine (HH.out _).mono ?_
                  rintro e w14 ⟨rfl, hb14⟩
                  have HP14 := Lib.hid (HP13.out.all hb14)
                  clear HP13 hb14 f0 f1 f2 f3 f4 g0 g1 g2 g3 g4 HH
                  obtain ⟨⟨c0, c1, c2, c3, c4⟩, k0, k1, k2, k3, k4⟩ := Box.five HP14.out.1
                  obtain ⟨e0, e1⟩ := HP14.out.2.2.2.2.2.1
                  unfold sentV at e0
                  go_wp2_with fail
                  go_region
                  all_goals
                    go_wp2_with fail
                    refine bodyPost_ret (v := .tuple #[.agg #[.int .i64 0, .int .i64 0, .bool false, .bool false, .int .i64 0], .iface 178 (.pointer (some a))]) (by simp [results, Tryd.results31, go_sem, c0, c1, c2, c3, c4]) rfl ?_
                    refine ⟨.inr ⟨Hr.out, rfl⟩, ?_⟩
                    first
                      | exact (((((HP14.out.2.2.2.2.1.setCell (by simp) _).setCell (by simp) _).setCell (by simp) _).setCell (by simp) _).setCell (by simp) _).drew
                      | exact (((((HP14.out.2.2.2.2.1.drew.setCell (by simp) _).setCell (by simp) _).setCell (by simp) _).setCell (by simp) _).setCell (by simp) _)
              · have hp12 : 0 < n12 := by rw [← hl12]; exact List.length_pos_iff.2 h0
                have Hr : Hid (R = none) := Lib.hid (by rw [← HR.out]; unfold parseW; simp only; rw [Hpt.out]; rw [if_neg fun e => h0 e.1])
                have hp12i : (0 : Int) < (n12 : Int) := by omega
                clear h0 Hpt HR hl12 f0 f1 f2 f3 f4 g0 g1 g2 g3 g4
                obtain ⟨⟨c0, c1, c2, c3, c4⟩, k0, k1, k2, k3, k4⟩ := Box.five HP13.out.1
                obtain ⟨e0, e1⟩ := HP13.out.2.2.2.2.2.1
                unfold sentV at e0
                go_wp2_with fail
                go_region
                all_goals
                  go_wp2_with fail
                  refine bodyPost_ret (v := .tuple #[.agg #[.int .i64 0, .int .i64 0, .bool false, .bool false, .int .i64 0], .iface 178 (.pointer (some a))]) (by simp [results, Tryd.results31, go_sem, c0, c1, c2, c3, c4]) rfl ?_
                  refine ⟨.inr ⟨Hr.out, rfl⟩, ?_⟩
                  first
                    | exact (((((HP13.out.2.2.2.2.1.setCell (by simp) _).setCell (by simp) _).setCell (by simp) _).setCell (by simp) _).setCell (by simp) _).drew
                    | exact (((((HP13.out.2.2.2.2.1.drew.setCell (by simp) _).setCell (by simp) _).setCell (by simp) _).setCell (by simp) _).setCell (by simp) _)
        · have h8b : (K == 8) = false := eqF h8
          have Hx : Hid (refW K t = (0, t)) := Lib.hid (by unfold refW; rw [if_neg h8])
          have HPr := HP8
          have HSr := HS8
          have hnr := hn8
          clear HP8 HS8 hn8 h8
          obtain ⟨⟨f0, f1, f2, f3, f4⟩, g0, g1, g2, g3, g4⟩ := Box.five HPr.out.2.1
          go_wp2_with fail
          obtain ⟨a1, r1, ha1⟩ : ∃ a1 r1, takeR repW t = (a1, r1) := ⟨_, _, rfl⟩
          obtain ⟨b1, r2, hb1⟩ : ∃ b1 r2, takeR packW r1 = (b1, r2) := ⟨_, _, rfl⟩
          have HT1 : Hid (∀ (wx : World) (p : Option Addr) (n c : Nat), SlS wx w2.heap.size p n c t → n ≤ 1048577 → Calls Tryd.prog 55 #[.slice p n c, .string ⟨#[114, 101, 112, 101, 97, 116, 101, 100]⟩] wx fun e w' => ∃ p' n' cap', e = .returned (.tuple #[.bool a1, .slice p' n' cap']) ∧ n' ≤ 1048577 ∧ SlS w' w2.heap.size p' n' cap' r1 ∧ Below wx.heap.size wx w') := Lib.hid fun wx p n c hS hn => by
            have h := takeWord_any w2.heap.size p n c t ⟨#[114, 101, 112, 101, 97, 116, 101, 100]⟩ wx hS hn
            rw [show (⟨#[114, 101, 112, 101, 97, 116, 101, 100]⟩ : ByteArray).data.toList = repW from rfl, ha1] at h
            simp only at h
            exact h
          have HT2 : Hid (∀ (wx : World) (p : Option Addr) (n c : Nat), SlS wx w2.heap.size p n c r1 → n ≤ 1048577 → Calls Tryd.prog 55 #[.slice p n c, .string ⟨#[112, 97, 99, 107, 101, 100]⟩] wx fun e w' => ∃ p' n' cap', e = .returned (.tuple #[.bool b1, .slice p' n' cap']) ∧ n' ≤ 1048577 ∧ SlS w' w2.heap.size p' n' cap' r2 ∧ Below wx.heap.size wx w') := Lib.hid fun wx p n c hS hn => by
            have h := takeWord_any w2.heap.size p n c r1 ⟨#[112, 97, 99, 107, 101, 100]⟩ wx hS hn
            rw [show (⟨#[112, 97, 99, 107, 101, 100]⟩ : ByteArray).data.toList = packW from rfl, hb1] at h
            simp only at h
            exact h
          have Hpt : Hid (parseT h k t = ((nh, K, a1, b1, 0), r2)) := Lib.hid (by
            unfold parseT
            simp only [HK.out, Hnh.out, Hx.out, ha1, hb1])
          clear ha1 hb1 Hx
          refine (HT1.out _ _ _ _ HSr.out hnr).mono ?_
          rintro e w10 ⟨p10, n10, c10, rfl, hn10, hS10, hb10⟩
          have HP10 := Lib.hid ((HPr.out.all hb10).words hn10 hS10)
          clear HPr HSr hnr hS10 hb10 f0 f1 f2 f3 f4 g0 g1 g2 g3 g4 HT1
          obtain ⟨⟨f0, f1, f2, f3, f4⟩, g0, g1, g2, g3, g4⟩ := Box.five HP10.out.2.1
          go_upto_region 11 with fail
          have HP11 : Hid (PSt a w (w10.setCell ⟨gf, 2, none⟩ (.bool a1)) w2.heap.size gf (nh, K, a1, false, 0) (.slice p10 n10 c10) r1) := Lib.hid (HP10.out.set 2 _ _ rfl)
          clear HP10 f0 f1 f2 f3 f4 g0 g1 g2 g3 g4
          generalize w10.setCell ⟨gf, 2, none⟩ (.bool a1) = w11 at HP11 ⊢
          have HS11 : Hid (SlS w11 w2.heap.size p10 n10 c10 r1) := Lib.hid (by
            obtain ⟨_, _, _, _, _, _, p, n, c, e, _, hS⟩ := HP11.out
            injection e with e1 e2 e3
            subst e1 e2 e3
            exact hS)
          go_wp2_with fail
          refine (HT2.out _ _ _ _ HS11.out hn10).mono ?_
          rintro e w12 ⟨p12, n12, c12, rfl, hn12, hS12, hb12⟩
          have HP12 := Lib.hid ((HP11.out.all hb12).words hn12 hS12)
          have hl12 : r2.length = n12 := hS12.1
          clear HP11 HS11 hn10 hS12 hb12 HT2
          obtain ⟨⟨f0, f1, f2, f3, f4⟩, g0, g1, g2, g3, g4⟩ := Box.five HP12.out.2.1
          go_upto_region 12 with fail
          have HP13 : Hid (PSt a w (w12.setCell ⟨gf, 3, none⟩ (.bool b1)) w2.heap.size gf (nh, K, a1, b1, 0) (.slice p12 n12 c12) r2) := Lib.hid (HP12.out.set 3 _ _ rfl)
          clear HP12 f0 f1 f2 f3 f4 g0 g1 g2 g3 g4
          generalize w12.setCell ⟨gf, 3, none⟩ (.bool b1) = w13 at HP13 ⊢
          obtain ⟨⟨f0, f1, f2, f3, f4⟩, g0, g1, g2, g3, g4⟩ := Box.five HP13.out.2.1
          by_cases h0 : r2 = []
          · obtain rfl : n12 = 0 := by rw [← hl12, h0]; rfl
            have HH := Lib.hid (implHasText_any (nh, K, a1, b1, 0))
            by_cases ht : hasText (nh, K, a1, b1, 0)
            · rw [decide_eq_true ht] at HH
              have Hr : Hid (R = some (nh, K, a1, b1, 0)) := Lib.hid (by rw [← HR.out]; unfold parseW; simp only; rw [Hpt.out]; rw [if_pos ⟨h0, ht⟩])
              unfold fieldV at HH
              simp only at HH
              clear h0 ht Hpt HR hl12
              go_wp2_with fail
              refine (HH.out _).mono ?_
              rintro e w14 ⟨rfl, hb14⟩
              have HP14 := Lib.hid (HP13.out.all hb14)
              clear HP13 hb14 f0 f1 f2 f3 f4 g0 g1 g2 g3 g4 HH
              obtain ⟨⟨f0, f1, f2, f3, f4⟩, g0, g1, g2, g3, g4⟩ := Box.five HP14.out.2.1
              obtain ⟨⟨c0, c1, c2, c3, c4⟩, k0, k1, k2, k3, k4⟩ := Box.five HP14.out.1
              go_wp2_with fail
              refine bodyPost_ret (v := .tuple #[.agg #[.int .i64 nh, .int .i64 K, .bool a1, .bool b1, .int .i64 0], .nilIface]) (by simp [results, Tryd.results31, go_sem, c0, c1, c2, c3, c4]) rfl ?_
              exact ⟨.inl ⟨_, Hr.out, rfl⟩, (((((HP14.out.2.2.2.2.1.setCell (by simp) _).setCell (by simp) _).setCell (by simp) _).setCell (by simp) _).setCell (by simp) _)⟩
            · rw [decide_eq_false ht] at HH
              have Hr : Hid (R = none) := Lib.hid (by rw [← HR.out]; unfold parseW; simp only; rw [Hpt.out]; rw [if_neg fun e => ht e.2])
              unfold fieldV at HH
              simp only at HH
              clear h0 ht Hpt HR hl12
              go_wp2_with fail
              refine (HH.out _).mono ?_
              rintro e w14 ⟨rfl, hb14⟩
              have HP14 := Lib.hid (HP13.out.all hb14)
              clear HP13 hb14 f0 f1 f2 f3 f4 g0 g1 g2 g3 g4 HH
              obtain ⟨⟨c0, c1, c2, c3, c4⟩, k0, k1, k2, k3, k4⟩ := Box.five HP14.out.1
              obtain ⟨e0, e1⟩ := HP14.out.2.2.2.2.2.1
              unfold sentV at e0
              go_wp2_with fail
              go_region
              all_goals
                go_wp2_with fail
                refine bodyPost_ret (v := .tuple #[.agg #[.int .i64 0, .int .i64 0, .bool false, .bool false, .int .i64 0], .iface 178 (.pointer (some a))]) (by simp [results, Tryd.results31, go_sem, c0, c1, c2, c3, c4]) rfl ?_
                refine ⟨.inr ⟨Hr.out, rfl⟩, ?_⟩
                first
                  | exact (((((HP14.out.2.2.2.2.1.setCell (by simp) _).setCell (by simp) _).setCell (by simp) _).setCell (by simp) _).setCell (by simp) _).drew
                  | exact (((((HP14.out.2.2.2.2.1.drew.setCell (by simp) _).setCell (by simp) _).setCell (by simp) _).setCell (by simp) _).setCell (by simp) _)
          · have hp12 : 0 < n12 := by rw [← hl12]; exact List.length_pos_iff.2 h0
            have Hr : Hid (R = none) := Lib.hid (by rw [← HR.out]; unfold parseW; simp only; rw [Hpt.out]; rw [if_neg fun e => h0 e.1])
            have hp12i : (0 : Int) < (n12 : Int) := by omega
            clear h0 Hpt HR hl12 f0 f1 f2 f3 f4 g0 g1 g2 g3 g4
            obtain ⟨⟨c0, c1, c2, c3, c4⟩, k0, k1, k2, k3, k4⟩ := Box.five HP13.out.1
            obtain ⟨e0, e1⟩ := HP13.out.2.2.2.2.2.1
            unfold sentV at e0
            go_wp2_with fail
            go_region
            all_goals
              go_wp2_with fail
              refine bodyPost_ret (v := .tuple #[.agg #[.int .i64 0, .int .i64 0, .bool false, .bool false, .int .i64 0], .iface 178 (.pointer (some a))]) (by simp [results, Tryd.results31, go_sem, c0, c1, c2, c3, c4]) rfl ?_
              refine ⟨.inr ⟨Hr.out, rfl⟩, ?_⟩
              first
                | exact (((((HP13.out.2.2.2.2.1.setCell (by simp) _).setCell (by simp) _).setCell (by simp) _).setCell (by simp) _).setCell (by simp) _).drew
                | exact (((((HP13.out.2.2.2.2.1.drew.setCell (by simp) _).setCell (by simp) _).setCell (by simp) _).setCell (by simp) _).setCell (by simp) _)
end Go.Proofs.YtcbohfncckpolaaDoor.Num

/-
  The walk of the program's ReadField: the field whose text the string is and true, or the zero field and false; only new memory is written.
-/
namespace Go.Proofs.YtcbohfncckpolaaDoor.Num
open Go.RowKit Go.Proofs
set_option linter.unusedVariables false
set_option linter.unusedSimpArgs false

set_option maxHeartbeats 2000000 in
set_option maxRecDepth 100000 in
theorem implReadField_any (s : ByteArray) (a : Addr) (w : World) (hs : s.size ≤ 1048576) (hsh : w.ShapedOpen Tryd.prog) (hE : ErrText w a) :
    Calls Tryd.prog 11 #[.string s] w fun e w' => e = .returned (.tuple #[fieldV ((readF s.data.toList).getD zeroF), .bool (readF s.data.toList).isSome]) ∧ Below w.heap.size w w' := by
  have hb1 : Below w.heap.size w (w.alloc (.cells #[.int .i64 0, .int .i64 0, .bool false, .bool false, .int .i64 0] 25)) := (Below.refl _ _).alloc (Nat.le_refl _) _
  have hx1 := Box.fresh w #[.int .i64 0, .int .i64 0, .bool false, .bool false, .int .i64 0] 25
  have HP := Lib.hid (implParse_any s a (w.alloc (.cells #[.int .i64 0, .int .i64 0, .bool false, .bool false, .int .i64 0] 25)) hs (shaped_below hsh hb1) (hE.below hb1))
  have hz0 : 0 < w.heap.size := Nat.lt_of_le_of_lt (Nat.zero_le _) hE.2
  have hne1 : ¬ ((0 : Nat) = w.heap.size) := by omega
  have hne2 : ¬ (w.heap.size = 0) := by omega
  generalize readF s.data.toList = R at HP ⊢
  have HI := Lib.hid (is_nil a)
  have HJ := Lib.hid (is_same a)
  clear hsh
  go_enter Tryd.func11, Tryd.ntmps11
  go_wp2_with fail
  generalize (w.alloc (.cells #[.int .i64 0, .int .i64 0, .bool false, .bool false, .int .i64 0] 25)) = w1 at hb1 hx1 HP ⊢
  refine HP.out.mono ?_
  rintro e w2 ⟨hcase, hb2⟩
  have hl2 := hb1.trans (hb2.mono hb1.size)
  have HX2 := Lib.hid (hx1.below hb2 hx1.lt)
  have HE2 := Lib.hid (hE.below hl2)
  have hz2 : w.heap.size < w2.heap.size := HX2.out.lt
  obtain ⟨⟨c0, c1, c2, c3, c4⟩, k0, k1, k2, k3, k4⟩ := Box.five HX2.out
  obtain ⟨e0, e1⟩ := HE2.out
  unfold sentV at e0 hcase
  clear HP hb1 hx1 hb2
  rcases hcase with ⟨f, rfl, rfl⟩ | ⟨rfl, rfl⟩
  · obtain ⟨A1, A2, A3, A4, A5⟩ := f
    unfold fieldV
    simp only [Option.getD_some, Option.isSome_some]
    go_wp2_with fail
    go_region_with (go_at_call 32; refine (HI.out _).mono ?_; rintro e w4 ⟨rfl, rfl⟩)
    all_goals
      go_wp2_with fail
      refine bodyPost_ret (v := .tuple #[.agg #[.int .i64 A1, .int .i64 A2, .bool A3, .bool A4, .int .i64 A5], .bool true]) (by simp [results, Tryd.results11, go_sem, c0, c1, c2, c3, c4, hz2]) rfl ?_
      refine ⟨rfl, ?_⟩
      first
        | exact ((((((hl2.setCell (by simp) _).setCell (by simp) _).setCell (by simp) _).setCell (by simp) _).setCell (by simp) _).alloc (by simpa [World.setCell] using Nat.le_of_lt hz2) _).drew
        | exact (((((hl2.setCell (by simp) _).setCell (by simp) _).setCell (by simp) _).setCell (by simp) _).setCell (by simp) _).drew.alloc (by simpa [World.setCell] using Nat.le_of_lt hz2) _
        | (trace_state; sorry)
  · unfold fieldV zeroF
    simp only [Option.getD_none, Option.isSome_none]
    go_wp2_with fail
    go_region_with (go_at_call 32; refine (HJ.out _).mono ?_; rintro e w4 ⟨rfl, rfl⟩)
    all_goals
      go_wp2_with fail
      refine bodyPost_ret (v := .tuple #[.agg #[.int .i64 0, .int .i64 0, .bool false, .bool false, .int .i64 0], .bool false]) (by simp [results, Tryd.results11, go_sem, c0, c1, c2, c3, c4, hz2]) rfl ?_
      refine ⟨rfl, ?_⟩
      first
        | exact ((((((hl2.setCell (by simp) _).setCell (by simp) _).setCell (by simp) _).setCell (by simp) _).setCell (by simp) _).alloc (by simpa [World.setCell] using Nat.le_of_lt hz2) _).drew
        | exact (((((hl2.setCell (by simp) _).setCell (by simp) _).setCell (by simp) _).setCell (by simp) _).setCell (by simp) _).drew.alloc (by simpa [World.setCell] using Nat.le_of_lt hz2) _
        | (trace_state; sorry)
end Go.Proofs.YtcbohfncckpolaaDoor.Num

/-
  What the listed condition says of the program's sentinel: it lies in its variable.
-/
namespace Go.Proofs.YtcbohfncckpolaaDoor.Num
open Go.RowKit Go.Proofs Go
theorem tx_global : Tryd.prog.globalNamed "loop.example/g00498/impl.errText" = some 0 := by kernel_rfl
theorem tx_type : (Tryd.prog.globals[0]?).map (fun (x : Go.Global) => x.type) = some 57 := by kernel_rfl
theorem tx_star : "*" ++ "errors.errorString" = "*errors.errorString" := by decide
theorem tx_row (u : TypeId) (h : Tryd.prog.typeName? 3 u = some "*errors.errorString") : u = 178 :=
  typeName_ptr_named (nm := "errors.errorString") (by rw [tx_star]; kernel_rfl) (by kernel_rfl) (by decide) u (by rw [tx_star]; exact h)
theorem tx_c1 : Tryd.prog.cellsOf 201 = 1 := by kernel_rfl
theorem tx_c2 : Tryd.prog.cellsOf 9 = 1 := by kernel_rfl
theorem errText_of {W : World} {d : DataW Unit} {text : List UInt8} {r : List (String × DataW Unit)} (h : laidMet Tryd.prog (("loop.example/g00498/impl.errText", d) :: r) W) (hd : d = .iface "*errors.errorString" (.ptr (.agg [.lit (.string text)])) := by rfl) : ∃ a, ErrText W a := by
  subst hd
  obtain ⟨a, s, hv, _⟩ := laid_sentinel h tx_global tx_type Tryd.underlying57 tx_row Tryd.underlying178 Tryd.underlying201 rfl rfl Tryd.underlying9 tx_c1 tx_c2
  have hc := World.var?_cell tx_global hv 0
  refine ⟨a, by simpa [sentV] using hc, ?_⟩
  unfold World.var? at hv
  simp only [tx_global, Option.bind_some] at hv
  rcases Nat.lt_or_ge 0 W.heap.size with h' | h'
  · exact h'
  · simp [Array.getElem?_eq_none h'] at hv
end Go.Proofs.YtcbohfncckpolaaDoor.Num

/-
  The walks of the reference's draws of a field and of a string that is nearly a text (l9Field, l9Turned): some field; some string that is not much longer. Of what was there only the cursor's block is written.
-/
namespace Go.Proofs.YtcbohfncckpolaaDoor.Num
open Go.RowKit Go.Proofs
set_option linter.unusedVariables false
set_option linter.unusedSimpArgs false

/-- What a draw of a field leaves. -/
def FieldP (B g : Nat) (a : Option Addr) (len cap : Nat) (w : World) (e : Ending) (w' : World) : Prop := ∃ f : RF, e = .returned (fieldV f) ∧ Cur w' B g a len cap ∧ Off w.heap.size g w w'
theorem offDrew {C g : Nat} {a w : World} (h : Off C g a w) : Off C g a w.drew := ⟨h.os, h.tape, h.output, h.size, h.block⟩
def SameW (a b : World) : Prop := b = a
set_option maxHeartbeats 4000000 in
set_option maxRecDepth 100000 in
theorem l9Field_any (B g : Nat) (a : Option Addr) (len cap : Nat) (w : World) (h : Cur w B g a len cap) (hB : B ≤ w.heap.size) (hg : g < w.heap.size) :
    Calls Tryd.prog 21 #[.pointer (some ⟨g, 0, none⟩)] w (FieldP B g a len cap w) := by
  have H := Lib.hid h; clear h
  have hx0 := Box.fresh w #[.int .i64 0, .int .i64 0, .bool false, .bool false, .int .i64 0] 25
  have hb0 : Below w.heap.size w (w.alloc (.cells #[.int .i64 0, .int .i64 0, .bool false, .bool false, .int .i64 0] 25)) := (Below.refl _ _).alloc (Nat.le_refl _) _
  have hz0 : (w.alloc (.cells #[.int .i64 0, .int .i64 0, .bool false, .bool false, .int .i64 0] 25)).heap.size = w.heap.size + 1 := by simp
  go_enter Tryd.func21, Tryd.ntmps21
  go_wp2_with fail
  generalize (w.alloc (.cells #[.int .i64 0, .int .i64 0, .bool false, .bool false, .int .i64 0] 25)) = w1 at hx0 hb0 hz0 ⊢
  refine (l6Bent_any B g a len cap _ (H.out.other hb0 hg hB) (by omega) (by omega)).mono ?_
  rintro e w2 ⟨v, ms, ⟨h0, h7, h14⟩, rfl, hown, hc2, hf2⟩
  obtain ⟨gm, capm, rfl, hgm, hgm2⟩ := World.ownsRow.form hown.row h0
  have hx2 := Box.offAt hf2 hx0 (by omega) (by omega)
  have ho2 : Off w.heap.size g w w2 := (Below.off hb0).trans (hf2.mono (by omega))
  have hsz2 := hf2.size
  have Hmsgs : Hid (MsgsAt w2 (fun b => w1.heap.size + 3 ≤ b ∧ b < w2.heap.size) (.slice (some ⟨gm, 0, none⟩) ms.length capm) (plain ms)) := Lib.hid hown.msgsAt
  have hpl : (plain ms).length = ms.length := by simp [plain]
  have h14' : ∀ m ∈ plain ms, m.2.length ≤ 14 := fun m hm => by
    obtain ⟨x, hx, rfl⟩ := List.mem_map.1 hm
    obtain ⟨j, hj, rfl⟩ := List.getElem_of_mem hx
    exact h14 j hj
  generalize plain ms = r at Hmsgs hpl h14'
  rw [← hpl] at Hmsgs
  rw [← hpl]
  have H14 := Lib.hid h14'
  have hr0 : 0 < r.length := by omega
  have hr7 : r.length ≤ 7 := by omega
  clear hown hf2 hb0 hx0 h0 h7 h14 h14' hpl
  -- the description's own variable
  have hxB := Lib.hid (hx2.alloc (.cells #[.slice (some ⟨gm, 0, none⟩) r.length capm] 41))
  have hxr := Lib.hid (Box.fresh w2 #[.slice (some ⟨gm, 0, none⟩) r.length capm] 41)
  have hb3 : Below w2.heap.size w2 (w2.alloc (.cells #[.slice (some ⟨gm, 0, none⟩) r.length capm] 41)) := (Below.refl _ _).alloc (Nat.le_refl _) _
  have hc3 := Lib.hid (hc2.other hb3 (by omega) (by omega))
  have ho3 : Off w.heap.size g w (w2.alloc (.cells #[.slice (some ⟨gm, 0, none⟩) r.length capm] 41)) := ho2.trans (Below.off (hb3.mono (by omega)))
  have hz3 : (w2.alloc (.cells #[.slice (some ⟨gm, 0, none⟩) r.length capm] 41)).heap.size = w2.heap.size + 1 := by simp
  have Hm3 : Hid (MsgsAt (w2.alloc (.cells #[.slice (some ⟨gm, 0, none⟩) r.length capm] 41)) (fun b => w1.heap.size + 3 ≤ b ∧ b < w2.heap.size) (.slice (some ⟨gm, 0, none⟩) r.length capm) r) := Lib.hid (Hmsgs.out.keep (.of_below hb3 fun b hb => hb.2) fun b hb => hb)
  clear Hmsgs hc2 hx2 hb3 ho2
  go_upto_region 2 with fail
  generalize (w2.alloc (.cells #[.slice (some ⟨gm, 0, none⟩) r.length capm] 41)) = w3 at hxB hxr hc3 ho3 hz3 Hm3 ⊢
  go_wp2_with fail
  go_loopw [4] (fun x wr => ∃ i : Nat, i ≤ r.length ∧ x = .int .i64 i ∧ Hid (SameW w3 wr)) (fun x _ => r.length - (intOf x).toNat)
  case atStart => exact ⟨0, by omega, rfl, Lib.hid rfl⟩
  case round =>
    obtain ⟨i, hi, rfl, hw⟩ := hrel
    have hw' : wr = w3 := hw.out
    subst hw'
    obtain ⟨s0, _⟩ := hxr.out.one
    by_cases hlt : i < r.length
    · have hlti : (i : Int) < (r.length : Int) := by omega
      obtain ⟨b, o, c, hv, hbS, hcs⟩ := Hm3.out.cells (by omega)
      obtain ⟨⟨rfl, rfl⟩, rfl⟩ : (gm = b ∧ 0 = o) ∧ capm = c := by injection hv with e1 e2 e3; injection e1 with e1; injection e1 with e1 e4; exact ⟨⟨e1, e4⟩, e3⟩
      obtain ⟨fv, m0, m1, hfv⟩ := hcs i hlt
      simp only [Nat.zero_add] at m0 m1
      have hf14 := H14.out _ (List.getElem_mem hlt)
      generalize r[i].2 = fs at hfv hf14
      obtain ⟨fa, fc, rfl⟩ := hfv.len
      have HF := Lib.hid hfv
      clear hcs hv hfv m0
      by_cases hf0 : 0 < fs.length
      · have hf0i : (0 : Int) < (fs.length : Int) := by omega
        obtain ⟨gb, go, gc, gv, gS, gcs⟩ := HF.out.cells hf0
        obtain ⟨rfl, rfl⟩ : fa = some ⟨gb, go, none⟩ ∧ fc = gc := by injection gv with e1 e2 e3; exact ⟨e1, e3⟩
        have Hgcs := Lib.hid gcs
        have hgS1 := gS.1
        have hgS2 := gS.2
        have hne1 : gm ≠ g := by have := hbS.1; omega
        have hne2 : gb ≠ g := by omega
        clear gv gcs
        go_upto_region 6 with fail
        have HL : Hid (Calls Tryd.prog 44 #[.pointer (some ⟨g, 0, none⟩), .int .i64 fs.length] wr.drew fun e w5 => ∃ k : Nat, (k < fs.length ∧ (k : Int) < (fs.length : Int)) ∧ e = .returned (.int .i64 k) ∧ (w5.cell? ⟨w2.heap.size, 0, none⟩ = some (.slice (some ⟨gm, 0, none⟩) r.length capm) ∧ w5.cell? ⟨gm, i * 2 + 1, none⟩ = some (.slice (some ⟨gb, go, none⟩) fs.length fc)) ∧
            (∃ A1 A2 A3 A4 A5, w5.cell? ⟨gb, go + k * 5, none⟩ = some (.int .i64 A1) ∧ w5.cell? ⟨gb, go + k * 5 + 1, none⟩ = some (.int .i64 A2) ∧ w5.cell? ⟨gb, go + k * 5 + 2, none⟩ = some (.bool A3) ∧ w5.cell? ⟨gb, go + k * 5 + 3, none⟩ = some (.bool A4) ∧ w5.cell? ⟨gb, go + k * 5 + 4, none⟩ = some (.int .i64 A5)) ∧
            Box w5 w.heap.size [.int .i64 0, .int .i64 0, .bool false, .bool false, .int .i64 0] ∧ Cur w5 B g a len cap ∧ Off w.heap.size g w w5) := Lib.hid (by
          refine (l1Below_any B g a len cap _ _ hc3.out.drew (by omega)).mono ?_
          rintro e w5 ⟨x, x0, x1, rfl, hc5, ho5⟩
          have hsz : wr.drew.heap.size = wr.heap.size := rfl
          have hx : x < fs.length := x1 (by omega)
          obtain ⟨k, rfl⟩ := Int.eq_ofNat_of_zero_le x0
          have hk : k < fs.length := by omega
          obtain ⟨y0, y1, y2, y3, y4⟩ := Hgcs.out k hk
          have q0 := (World.cell?_of_block (a := ⟨w2.heap.size, 0, none⟩) (ho5.block w2.heap.size (by rw [hsz]; omega) (by intro e; have := Option.some.inj e; omega))).trans s0
          have q1 := (World.cell?_of_block (a := ⟨gm, i * 2 + 1, none⟩) (ho5.block gm (by rw [hsz]; omega) (by intro e; exact hne1 (Option.some.inj e)))).trans m1
          have hcb : ∀ o, w5.cell? ⟨gb, o, none⟩ = wr.cell? ⟨gb, o, none⟩ := fun o => World.cell?_of_block (a := ⟨gb, o, none⟩) (ho5.block gb (by rw [hsz]; omega) (by intro e; exact hne2 (Option.some.inj e)))
          exact ⟨k, ⟨hk, by omega⟩, rfl, ⟨q0, q1⟩, ⟨_, _, _, _, _, (hcb _).trans y0, (hcb _).trans y1, (hcb _).trans y2, (hcb _).trans y3, (hcb _).trans y4⟩,
            Box.offAt (Only.off (C := w.heap.size + 1) ho5 (by rw [hsz]; omega)) hxB.out.drew (by omega) (by omega), hc5, ho3.trans ((offDrew (Off.refl _ _ _)).trans (Only.off ho5 (by rw [hsz]; omega)))⟩)
        clear hc3 ho3
        go_region_with (go_at_call 44; refine HL.out.mono ?_; rintro e w5 ⟨k, ⟨hk, hki⟩, rfl, ⟨q0, q1⟩, ⟨A1, A2, A3, A4, A5, y0, y1, y2, y3, y4⟩, hx5, hc5, ho5⟩; obtain ⟨⟨c0, c1, c2, c3, c4⟩, k0, k1, k2, k3, k4⟩ := Box.five hx5)
        all_goals
          have Hc5 := Lib.hid hc5
          have Ho5 := Lib.hid ho5
          clear hc5 ho5
          go_wp2_with fail
          refine bodyPost_ret (v := .agg #[.int .i64 A1, .int .i64 A2, .bool A3, .bool A4, .int .i64 A5]) (by simp [results, Tryd.results21, go_sem, c0, c1, c2, c3, c4]) rfl ?_
          have hb6 : Below w.heap.size w5 (((((w5.setCell ⟨w.heap.size, 0, none⟩ (.int .i64 A1)).setCell ⟨w.heap.size, 1, none⟩ (.int .i64 A2)).setCell ⟨w.heap.size, 2, none⟩ (.bool A3)).setCell ⟨w.heap.size, 3, none⟩ (.bool A4)).setCell ⟨w.heap.size, 4, none⟩ (.int .i64 A5)) := (((((Below.refl _ _).setCell (by simp) _).setCell (by simp) _).setCell (by simp) _).setCell (by simp) _).setCell (by simp) _
          exact ⟨(A1, A2, A3, A4, A5), rfl, Hc5.out.other hb6 hg hB, Ho5.out.trans (Below.off hb6)⟩
      · have hf0n : decide ((0 : Int) < (fs.length : Int)) = false := decide_eq_false (by omega)
        have hf0m : decide (0 < fs.length) = false := decide_eq_false hf0
        clear hf0
        go_wp2_with fail
        go_roundw
        case rel => exact ⟨i + 1, by omega, by go_num, Lib.hid rfl⟩
        case measure => simp [intOf]; omega
    · have hge : (r.length : Int) ≤ (i : Int) := by omega
      have hend : decide (i < r.length) = false := decide_eq_false hlt
      obtain ⟨⟨c0, c1, c2, c3, c4⟩, k0, k1, k2, k3, k4⟩ := Box.five hxB.out
      go_wp2_with fail
      refine bodyPost_ret (v := .agg #[.int .i64 1, .int .i64 1, .bool false, .bool false, .int .i64 0]) (by simp [results, Tryd.results21, go_sem, c0, c1, c2, c3, c4]) rfl ?_
      have hb6 : Below w.heap.size wr (((((wr.setCell ⟨w.heap.size, 0, none⟩ (.int .i64 1)).setCell ⟨w.heap.size, 1, none⟩ (.int .i64 1)).setCell ⟨w.heap.size, 2, none⟩ (.bool false)).setCell ⟨w.heap.size, 3, none⟩ (.bool false)).setCell ⟨w.heap.size, 4, none⟩ (.int .i64 0)) := (((((Below.refl _ _).setCell (by simp) _).setCell (by simp) _).setCell (by simp) _).setCell (by simp) _).setCell (by simp) _
      exact ⟨(1, 1, false, false, 0), rfl, hc3.out.other hb6 hg hB, ho3.trans (Below.off hb6)⟩
end Go.Proofs.YtcbohfncckpolaaDoor.Num

/-
  The walks of the reference's l9Turned, DrawFieldText and DrawReadField: some field; some string not much longer than a text. Only new memory is written.
-/
namespace Go.Proofs.YtcbohfncckpolaaDoor.Num
open Go.RowKit Go.Proofs
set_option linter.unusedVariables false
set_option linter.unusedSimpArgs false

theorem textF_len0 (f : RF) : (textF f).length ≤ 60 := by
  by_cases h : hasText f
  · exact textF_len h
  · rw [textF_no h]; simp
theorem extract_le (s : ByteArray) (i j : Nat) : (s.extract i j).size ≤ s.size := by rw [ByteArray.size_extract]; omega
/-- What turning a string leaves: a string at most twenty bytes longer. -/
def TurnP (g n : Nat) (w : World) (e : Ending) (w' : World) : Prop := ∃ t : ByteArray, t.size ≤ n + 20 ∧ e = .returned (.string t) ∧ Off w.heap.size g w w'
def turnWords : List ByteArray := [⟨#[32]⟩, ⟨#[44]⟩, ⟨#[59]⟩, ⟨#[58]⟩, ⟨#[48]⟩, ⟨#[49]⟩, ⟨#[112, 97, 99, 107, 101, 100]⟩, ⟨#[32, 114, 101, 112, 101, 97, 116, 101, 100]⟩, ⟨#[120]⟩]
theorem turnWords_le : ∀ p ∈ turnWords, p.size ≤ 9 := by
  intro p hp
  simp only [turnWords, List.mem_cons, List.not_mem_nil, or_false] at hp
  rcases hp with rfl | rfl | rfl | rfl | rfl | rfl | rfl | rfl | rfl <;> decide
set_option maxHeartbeats 4000000 in
set_option maxRecDepth 100000 in
theorem l9Turned_any (B g : Nat) (a : Option Addr) (len cap : Nat) (s : ByteArray) (w : World) (h : Cur w B g a len cap) (hB : B ≤ w.heap.size) (hg : g < w.heap.size) (hs : s.size ≤ 1000000) :
    Calls Tryd.prog 33 #[.pointer (some ⟨g, 0, none⟩), .string s] w (TurnP g s.size w) := by
  have H := Lib.hid h; clear h
  go_enter Tryd.func33, Tryd.ntmps33
  go_wp2_with fail
  refine (l1Below_any B g a len cap _ _ H.out (by omega)).mono ?_
  rintro e w1 ⟨x, x0, x1, rfl, hc1, ho1⟩
  have hx : x < (s.size : Int) + 1 := x1 (by omega)
  obtain ⟨k, rfl⟩ := Int.eq_ofNat_of_zero_le x0
  have hk : k ≤ s.size := by omega
  have hki : (k : Int) ≤ (s.size : Int) := by omega
  have Hc1 := Lib.hid hc1
  have hsz1 := ho1.size
  have Ho1 := Lib.hid (Only.off (C := w.heap.size) ho1 (Nat.le_refl _))
  clear hc1 ho1 x1 hx x0
  go_wp2_with fail
  refine (l1Below_any B g a len cap _ _ Hc1.out (by omega)).mono ?_
  rintro e w2 ⟨y, y0, y1, rfl, hc2, ho2⟩
  have hy : y < 6 := y1 (by omega)
  have Hc2 := Lib.hid hc2
  have hsz2 := ho2.size
  have Ho2 := Lib.hid (Ho1.out.trans (Only.off (C := w.heap.size) ho2 hsz1))
  clear hc2 ho2 y1 Hc1 Ho1
  by_cases h0 : y = 0
  · subst h0
    have hz : 0 ≤ w2.heap.size := Nat.zero_le _
    have hgz : g < w2.heap.size := by omega
    have HP : Hid (Calls Tryd.prog 58 #[.pointer (some ⟨g, 0, none⟩), .slice (some ⟨w2.heap.size, 0, none⟩) 9 9] (w2.alloc (.cells #[.string ⟨#[32]⟩, .string ⟨#[44]⟩, .string ⟨#[59]⟩, .string ⟨#[58]⟩, .string ⟨#[48]⟩, .string ⟨#[49]⟩, .string ⟨#[112, 97, 99, 107, 101, 100]⟩, .string ⟨#[32, 114, 101, 112, 101, 97, 116, 101, 100]⟩, .string ⟨#[120]⟩] 9)).drew fun e w' => ∃ p : ByteArray, (p.size ≤ 9 ∧ (∀ wv, (Op.stringOp .add (s.extract 0 k) p).run Tryd.prog wv = .ok (.string (s.extract 0 k ++ p)) wv) ∧ (∀ wv, (Op.stringOp .add (s.extract 0 k ++ p) (s.extract k s.size)).run Tryd.prog wv = .ok (.string (s.extract 0 k ++ p ++ s.extract k s.size)) wv)) ∧ e = .returned (.string p) ∧ Off w.heap.size g w w') := Lib.hid (by
      have hb2 : Below w2.heap.size w2 (w2.alloc (.cells #[.string ⟨#[32]⟩, .string ⟨#[44]⟩, .string ⟨#[59]⟩, .string ⟨#[58]⟩, .string ⟨#[48]⟩, .string ⟨#[49]⟩, .string ⟨#[112, 97, 99, 107, 101, 100]⟩, .string ⟨#[32, 114, 101, 112, 101, 97, 116, 101, 100]⟩, .string ⟨#[120]⟩] 9)).drew := ((Below.refl _ _).alloc (Nat.le_refl _) _).drew
      have hzz : (w2.alloc (.cells #[.string ⟨#[32]⟩, .string ⟨#[44]⟩, .string ⟨#[59]⟩, .string ⟨#[58]⟩, .string ⟨#[48]⟩, .string ⟨#[49]⟩, .string ⟨#[112, 97, 99, 107, 101, 100]⟩, .string ⟨#[32, 114, 101, 112, 101, 97, 116, 101, 100]⟩, .string ⟨#[120]⟩] 9)).drew.heap.size = w2.heap.size + 1 := by simp
      refine (l1Pick_any B g a len cap w2.heap.size 9 9 turnWords #[.string ⟨#[32]⟩, .string ⟨#[44]⟩, .string ⟨#[59]⟩, .string ⟨#[58]⟩, .string ⟨#[48]⟩, .string ⟨#[49]⟩, .string ⟨#[112, 97, 99, 107, 101, 100]⟩, .string ⟨#[32, 114, 101, 112, 101, 97, 116, 101, 100]⟩, .string ⟨#[120]⟩] 9 (0, 0) (w2.alloc (.cells #[.string ⟨#[32]⟩, .string ⟨#[44]⟩, .string ⟨#[59]⟩, .string ⟨#[58]⟩, .string ⟨#[48]⟩, .string ⟨#[49]⟩, .string ⟨#[112, 97, 99, 107, 101, 100]⟩, .string ⟨#[32, 114, 101, 112, 101, 97, 116, 101, 100]⟩, .string ⟨#[120]⟩] 9)).drew (Hc2.out.other hb2 hgz (by omega)) (heap_alloc_new w2 _) rfl rfl (by omega) (by omega) (by omega)).mono ?_
      rintro e w' ⟨p, hp, rfl, hc, ho⟩
      have hp9 := turnWords_le p hp
      have e1 := extract_le s 0 k
      have e2 := extract_le s k s.size
      exact ⟨p, ⟨hp9, fun wv => run_string_add_sum wv _ _ (by omega), fun wv => run_string_add_sum wv _ _ (by rw [ByteArray.size_append]; omega)⟩, rfl, (Ho2.out.trans (Below.off (hb2.mono (by omega)))).trans (Only.off ho (by omega))⟩)
    have hsz : Hid (∀ p : ByteArray, p.size ≤ 9 → (s.extract 0 k ++ p ++ s.extract k s.size).size ≤ s.size + 20) := Lib.hid fun p hp => by
      rw [ByteArray.size_append, ByteArray.size_append, ByteArray.size_extract, ByteArray.size_extract]
      omega
    clear Ho2 Hc2
    go_upto_region 4 with fail
    go_region_with (go_at_call 58; refine HP.out.mono ?_; rintro e w5 ⟨p, ⟨hp9, a1, a2⟩, rfl, ho5⟩)
    all_goals
      have Ho5 := Lib.hid ho5
      have Hp9 := Lib.hid hp9
      clear ho5 hp9
      go_wp2_with fail
      go_ret
      exact ⟨_, hsz.out _ Hp9.out, rfl, Ho5.out⟩
  · have hy0 : (y == 0) = false := by rw [beq_eq_false_iff_ne]; exact h0
    by_cases h1 : y = 1
    · subst h1
      have hsz : Hid ((s.extract 0 k).size ≤ s.size + 20) := Lib.hid (by have := extract_le s 0 k; omega)
      clear h0
      go_wp2_with fail
      go_ret
      exact ⟨_, hsz.out, rfl, Ho2.out⟩
    · have hy1 : (y == 1) = false := by rw [beq_eq_false_iff_ne]; exact h1
      clear h0 h1
      go_wp2_with fail
      go_ret
      exact ⟨s, by omega, rfl, Ho2.out⟩
/-- What a draw of a string leaves. -/
def StrP (n : Nat) (w : World) (e : Ending) (w' : World) : Prop := ∃ t : ByteArray, t.size ≤ n ∧ e = .returned (.string t) ∧ Below w.heap.size w w'
theorem drawReadField_any (a : Option Addr) (len cap : Nat) (w : World) (B : Nat) (hB : B ≤ w.heap.size) (h : CodeAt w B a len) :
    Calls Tryd.prog 12 #[.slice a len cap] w (StrP 80 w) := by
  have H := Lib.hid h; clear h
  go_enter Tryd.func12, Tryd.ntmps12
  go_wp2_with fail
  refine (l1New_any B a len cap _ hB H.out).mono ?_
  rintro e w1 ⟨g, rfl, hc1, hb1, hg1, hg1'⟩
  have Hc1 := Lib.hid hc1
  have hz1 := hb1.size
  clear hc1
  go_wp2_with fail
  refine (l9Field_any B g a len cap _ Hc1.out (by omega) hg1').mono ?_
  rintro e w2 ⟨f, rfl, hc2, ho2⟩
  have Hc2 := Lib.hid hc2
  have hz2 := ho2.size
  have hb2 : Below w.heap.size w w2 := hb1.trans (ho2.below hg1 hz1)
  have HT := Lib.hid (specFieldText_any f)
  have hle := textF_len0 f
  obtain ⟨A1, A2, A3, A4, A5⟩ := f
  unfold fieldV at *
  simp only at *
  obtain ⟨sT, hsT⟩ : ∃ s : ByteArray, s = ⟨(textF (A1, A2, A3, A4, A5)).toArray⟩ := ⟨_, rfl⟩
  have hsz : sT.size ≤ 60 := by rw [hsT]; simpa [ByteArray.size] using hle
  rw [← hsT] at HT
  clear hc2 ho2 hb1 Hc1 hsT hle
  go_wp2_with fail
  refine (HT.out _).mono ?_
  rintro e w3 ⟨rfl, hb3⟩
  have Hc3 := Lib.hid (Hc2.out.other hb3 (by omega) (by omega))
  have hz3 := hb3.size
  have hb03 := hb2.trans (hb3.mono hb2.size)
  clear hb3 Hc2 HT hb2
  go_wp2_with fail
  refine (l9Turned_any B g a len cap sT _ Hc3.out (by omega) (by omega) (by omega)).mono ?_
  rintro e w4 ⟨t, ht, rfl, ho4⟩
  have hb4 : Below w.heap.size w w4 := hb03.trans (ho4.below hg1 (by omega))
  clear ho4 hb03 Hc3
  go_wp2_with fail
  go_ret
  exact ⟨t, by omega, rfl, hb4⟩
/-- What the draw of a field leaves. -/
def FldP (w : World) (e : Ending) (w' : World) : Prop := ∃ f : RF, e = .returned (fieldV f) ∧ Below w.heap.size w w'
theorem drawFieldText_any (a : Option Addr) (len cap : Nat) (w : World) (B : Nat) (hB : B ≤ w.heap.size) (h : CodeAt w B a len) :
    Calls Tryd.prog 8 #[.slice a len cap] w (FldP w) := by
  have H := Lib.hid h; clear h
  go_enter Tryd.func8, Tryd.ntmps8
  go_wp2_with fail
  have hx0 := Box.fresh w #[.int .i64 0, .int .i64 0, .bool false, .bool false, .int .i64 0] 25
  have hb0 : Below w.heap.size w (w.alloc (.cells #[.int .i64 0, .int .i64 0, .bool false, .bool false, .int .i64 0] 25)) := (Below.refl _ _).alloc (Nat.le_refl _) _
  have hz0 : (w.alloc (.cells #[.int .i64 0, .int .i64 0, .bool false, .bool false, .int .i64 0] 25)).heap.size = w.heap.size + 1 := by simp
  generalize (w.alloc (.cells #[.int .i64 0, .int .i64 0, .bool false, .bool false, .int .i64 0] 25)) = w0 at hx0 hb0 hz0 ⊢
  refine (l1New_any B a len cap _ (by omega) (H.out.below (hb0.mono hB))).mono ?_
  rintro e w1 ⟨g, rfl, hc1, hb1, hg1, hg1'⟩
  have Hc1 := Lib.hid hc1
  have hx1 := hx0.below hb1 (by omega)
  have hz1 := hb1.size
  have hb01 := hb0.trans (hb1.mono (by omega))
  clear hc1 hb1 hx0 hb0
  go_wp2_with fail
  refine (l9Field_any B g a len cap _ Hc1.out (by omega) hg1').mono ?_
  rintro e w2 ⟨f, rfl, hc2, ho2⟩
  have hx2 := Box.offAt ho2 hx1 (by omega) (by omega)
  have hb2 : Below w.heap.size w w2 := hb01.trans (ho2.below (by omega) (by omega))
  obtain ⟨A1, A2, A3, A4, A5⟩ := f
  unfold fieldV at *
  simp only at *
  obtain ⟨⟨c0, c1, c2, c3, c4⟩, k0, k1, k2, k3, k4⟩ := Box.five hx2
  clear hc2 ho2 hb01 Hc1 hx1 hx2
  go_wp2_with fail
  refine bodyPost_ret (v := .agg #[.int .i64 A1, .int .i64 A2, .bool A3, .bool A4, .int .i64 A5]) (by simp [results, Tryd.results8, go_sem, c0, c1, c2, c3, c4]) rfl ?_
  exact ⟨(A1, A2, A3, A4, A5), rfl, (((((hb2.setCell (by simp) _).setCell (by simp) _).setCell (by simp) _).setCell (by simp) _).setCell (by simp) _)⟩
end Go.Proofs.YtcbohfncckpolaaDoor.Num
