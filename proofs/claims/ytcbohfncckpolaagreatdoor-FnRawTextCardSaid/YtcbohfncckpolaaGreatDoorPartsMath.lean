/-
  Plain lemmas on cutting a list of bytes at a byte: the library's cutting and the reference's are one, and the parts with the byte between them are the list again.
-/
import Derived.Lib.SplitLaws
import Derived.Lib.Hide
namespace Go.Proofs.YtcbohfncckpolaaGreatDoor.Num

/-- A piece set ahead of the first part. -/
def glue (p : List UInt8) : List (List UInt8) → List (List UInt8)
  | [] => [p]
  | h :: t => (p ++ h) :: t
def partsF (by' : UInt8) : List UInt8 → List (List UInt8)
  | [] => [[]]
  | c :: l => if c = by' then [] :: partsF by' l else glue [c] (partsF by' l)
theorem glue_glue (p q : List UInt8) (x : List (List UInt8)) (h : x ≠ []) : glue p (glue q x) = glue (p ++ q) x := by
  cases x with
  | nil => exact absurd rfl h
  | cons a t => simp [glue]
theorem glue_nil (x : List (List UInt8)) (h : x ≠ []) : glue [] x = x := by
  cases x with
  | nil => exact absurd rfl h
  | cons a t => simp [glue]
theorem glue_ne (p : List UInt8) (x : List (List UInt8)) : glue p x ≠ [] := by cases x <;> simp [glue]
theorem partsF_ne (b : UInt8) (l : List UInt8) : partsF b l ≠ [] := by
  cases l with
  | nil => simp [partsF]
  | cons c l => simp only [partsF]; split
                · simp
                · exact glue_ne _ _
theorem split_miss {s : List UInt8} {b : UInt8} (h : Go.Lib.indexByte s b = -1) : Go.Lib.split s [b] = [s] := by
  have h2 : Go.Lib.index s [b] = -1 := by rw [Go.Lib.index_one]; exact h
  unfold Go.Lib.split
  cases Go.Lib.count s [b] with
  | zero => rfl
  | succ k => unfold Go.Lib.splitK; rw [if_pos (beq_iff_eq.2 h2)]
theorem split_hit {s : List UInt8} {b : UInt8} {i : Nat} (h : Go.Lib.indexByte s b = i) : Go.Lib.split s [b] = s.take i :: Go.Lib.split (s.drop (i + 1)) [b] := by
  have h2 : Go.Lib.index s [b] = i := by rw [Go.Lib.index_one]; exact h
  unfold Go.Lib.split
  rw [Go.Lib.count_hit (by simp) h2, Nat.add_comm 1]
  have hm : ¬ (Go.Lib.index s [b] == -1) = true := fun e => by have := beq_iff_eq.1 e; omega
  have e : (Go.Lib.index s [b]).toNat = i := by omega
  conv => lhs; unfold Go.Lib.splitK
  rw [if_neg hm, e]
  rfl
theorem split_parts (b : UInt8) : ∀ l : List UInt8, Go.Lib.split l [b] = partsF b l
  | [] => by rw [split_miss (b := b) rfl]; rfl
  | c :: l => by
    have ih := split_parts b l
    by_cases hc : c = b
    · subst hc
      rw [split_hit (i := 0) (by simp [Go.Lib.indexByte])]
      simp only [partsF, if_true]
      rw [← ih]; rfl
    · simp only [partsF]
      rw [if_neg hc, ← ih]
      have hcb : (c == b) = false := by simpa using hc
      have hge := Go.Lib.indexByte_ge l b
      by_cases hm : Go.Lib.indexByte l b = -1
      · rw [split_miss (s := l) hm, split_miss (s := c :: l) (by unfold Go.Lib.indexByte; simp [hcb, hm])]; rfl
      · obtain ⟨i, hi⟩ := Int.eq_ofNat_of_zero_le (show 0 ≤ Go.Lib.indexByte l b by omega)
        have h2 : Go.Lib.indexByte (c :: l) b = ((i + 1 : Nat) : Int) := by
          unfold Go.Lib.indexByte
          simp only [hcb, Bool.false_eq_true, if_false]
          rw [if_neg (by simpa using hm), hi]; rfl
        rw [split_hit (s := l) hi, split_hit (s := c :: l) h2]; rfl

/-- The reference in the midst: P is cut off, the piece from f to k is open. -/
def PAt (b : UInt8) (l : List UInt8) (P : List (List UInt8)) (f k : Nat) : Prop := partsF b l = P ++ glue ((l.drop f).take (k - f)) (partsF b (l.drop k))
theorem pAt_zero (b : UInt8) (l : List UInt8) : PAt b l [] 0 0 := by unfold PAt; simp [glue_nil _ (partsF_ne b l)]
theorem take_more (l : List UInt8) (f k : Nat) (hf : f ≤ k) (hk : k < l.length) : (l.drop f).take (k + 1 - f) = (l.drop f).take (k - f) ++ [l[k]] := by
  rw [show k + 1 - f = (k - f) + 1 by omega, List.take_succ_eq_append_getElem (by simp; omega)]
  congr 2
  simp [List.getElem_drop, show f + (k - f) = k by omega]
theorem pAt_keep {b : UInt8} {l : List UInt8} {P : List (List UInt8)} {f k : Nat} (h : PAt b l P f k) (hf : f ≤ k) (hk : k < l.length) (hc : l[k] ≠ b) : PAt b l P f (k + 1) := by
  unfold PAt at h ⊢
  rw [h, List.drop_eq_getElem_cons hk]
  simp only [partsF]
  rw [if_neg hc, glue_glue _ _ _ (partsF_ne _ _), take_more l f k hf hk]
theorem pAt_cut {b : UInt8} {l : List UInt8} {P : List (List UInt8)} {f k : Nat} (h : PAt b l P f k) (hk : k < l.length) (hc : l[k] = b) : PAt b l (P ++ [(l.drop f).take (k - f)]) (k + 1) (k + 1) := by
  unfold PAt at h ⊢
  rw [h, List.drop_eq_getElem_cons hk]
  simp only [partsF]
  rw [if_pos hc, Nat.sub_self, List.take_zero, glue_nil _ (partsF_ne _ _)]
  simp [glue]
theorem pAt_end {b : UInt8} {l : List UInt8} {P : List (List UInt8)} {f k : Nat} (h : PAt b l P f k) (hk : l.length ≤ k) : partsF b l = P ++ [(l.drop f).take (k - f)] := by
  unfold PAt at h
  rw [h, List.drop_of_length_le hk]
  simp [partsF, glue]
/-- The parts with the byte between them. -/
def joinF (b : UInt8) (h : List UInt8) (t : List (List UInt8)) : List UInt8 := h ++ t.flatMap (fun p => b :: p)
theorem parts_join (b : UInt8) : ∀ l : List UInt8, ∃ h t, partsF b l = h :: t ∧ joinF b h t = l
  | [] => ⟨[], [], rfl, rfl⟩
  | c :: l => by
    obtain ⟨h, t, e, j⟩ := parts_join b l
    simp only [partsF]
    split
    · rename_i hc
      refine ⟨[], partsF b l, rfl, ?_⟩
      rw [e]
      unfold joinF at j ⊢
      rw [List.nil_append, List.flatMap_cons, List.cons_append, j, hc]
    · exact ⟨c :: h, t, by rw [e]; rfl, by unfold joinF at j ⊢; rw [List.cons_append, j]⟩
theorem joinF_snoc (b : UInt8) (h p : List UInt8) (t : List (List UInt8)) : joinF b h (t ++ [p]) = joinF b h t ++ [b] ++ p := by simp [joinF]
theorem bytes_inj {P Q : List ByteArray} (h : P.map (fun s => s.data.toList) = Q.map (fun s => s.data.toList)) : P = Q := by
  induction P generalizing Q with
  | nil => cases Q with
    | nil => rfl
    | cons _ _ => simp at h
  | cons a P ih => cases Q with
    | nil => simp at h
    | cons c Q =>
      simp only [List.map_cons, List.cons.injEq] at h
      have : a = c := by
        cases a; cases c
        simp only [ByteArray.mk.injEq]
        exact Array.toList_inj.1 h.1
      rw [this, ih h.2]
theorem partsF_length (b : UInt8) : ∀ l : List UInt8, (partsF b l).length ≤ l.length + 1
  | [] => by simp [partsF]
  | c :: l => by
    have ih := partsF_length b l
    simp only [partsF]
    split
    · simp only [List.length_cons]; omega
    · have : (glue [c] (partsF b l)).length = (partsF b l).length := by
        cases h : partsF b l with
        | nil => exact absurd h (partsF_ne _ _)
        | cons _ _ => rfl
      rw [this]; simp only [List.length_cons]; omega
theorem partsF_mem (b : UInt8) : ∀ l : List UInt8, ∀ p ∈ partsF b l, p.length ≤ l.length
  | [], p, h => by simp [partsF] at h; subst h; simp
  | c :: l, p, h => by
    have ih := partsF_mem b l
    simp only [partsF] at h
    split at h
    · rcases List.mem_cons.1 h with rfl | h
      · simp
      · have := ih p h; simp only [List.length_cons]; omega
    · cases hx : partsF b l with
      | nil => exact absurd hx (partsF_ne _ _)
      | cons q r =>
        rw [hx] at h ih
        simp only [glue] at h
        rcases List.mem_cons.1 h with rfl | h
        · have := ih q (by simp); simp only [List.length_cons, List.length_append, List.length_nil]; omega
        · have := ih p (by simp [h]); simp only [List.length_cons]; omega
end Go.Proofs.YtcbohfncckpolaaGreatDoor.Num
