/-
  Compiling, as the reference does it, told by plain lists: ranks of Ids, fields put in order, shapes put in their places. For any program.
-/
import Derived.Test.YtcbohfncckpolaaDoorRaw
namespace Go.Proofs.YtcbohfncckpolaaDoor.Num
set_option linter.unusedVariables false
set_option linter.unusedSimpArgs false

/-- How many messages have a lesser Id. -/
def rankR (r : List RM) (id : Int) : Nat := (r.filter fun m => decide (m.1 < id)).length
/-- A field put into its place among fields in order. -/
def putR (l : List RF) (f : RF) : List RF := l.takeWhile (fun g => decide (g.1 < f.1)) ++ f :: l.dropWhile (fun g => decide (g.1 < f.1))
def compF (r : List RM) (f : RF) : RF := (f.1, f.2.1, f.2.2.1, f.2.2.2.1, if f.2.1 = 8 then (rankR r f.2.2.2.2 : Int) else -1)
def compFs (r : List RM) (l : List RF) : List RF := l.foldl (fun acc f => putR acc (compF r f)) []
def compStep (r : List RM) (acc : List RM) (m : RM) : List RM := acc.set (rankR r m.1) (m.1, compFs r m.2)
def compileR (r : List RM) : List RM := r.foldl (compStep r) (List.replicate r.length (0, []))
theorem rank_le (r : List RM) (id : Int) : rankR r id ≤ r.length := List.length_filter_le ..
theorem rank_take (r : List RM) (id : Int) (k : Nat) (hk : k < r.length) : ((r.take (k + 1)).filter fun m => decide (m.1 < id)).length = ((r.take k).filter fun m => decide (m.1 < id)).length + (if r[k].1 < id then 1 else 0) := by
  rw [List.take_succ_eq_append_getElem hk, List.filter_append, List.length_append]
  by_cases h : r[k].1 < id
  · simp [h]
  · simp [h]
theorem rank_lt {r : List RM} {k : Nat} (hk : k < r.length) : rankR r r[k].1 < r.length := by
  unfold rankR
  rcases Nat.lt_or_ge (r.filter fun m => decide (m.1 < r[k].1)).length r.length with h | h
  · exact h
  · exfalso
    have he : (r.filter fun m => decide (m.1 < r[k].1)).length = r.length := Nat.le_antisymm (List.length_filter_le ..) h
    have := (List.length_filter_eq_length_iff.1 he) r[k] (List.getElem_mem hk)
    simp at this
theorem putR_len (l : List RF) (f : RF) : (putR l f).length = l.length + 1 := by
  unfold putR
  have := congrArg List.length (List.takeWhile_append_dropWhile (p := fun g : RF => decide (g.1 < f.1)) (l := l))
  rw [List.length_append] at this
  simp only [List.length_append, List.length_cons]
  omega
theorem foldPut_len (r : List RM) : ∀ (l : List RF) (acc : List RF), (l.foldl (fun acc f => putR acc (compF r f)) acc).length = acc.length + l.length
  | [], acc => by simp
  | f :: l, acc => by rw [List.foldl_cons, foldPut_len r l, putR_len, List.length_cons]; omega
theorem compFs_len (r : List RM) (l : List RF) : (compFs r l).length = l.length := by unfold compFs; rw [foldPut_len]; simp
theorem foldStep_len (r : List RM) : ∀ (l : List RM) (acc : List RM), (l.foldl (compStep r) acc).length = acc.length
  | [], acc => rfl
  | m :: l, acc => by rw [List.foldl_cons, foldStep_len r l]; simp [compStep]
theorem compileR_len (r : List RM) : (compileR r).length = r.length := by unfold compileR; rw [foldStep_len]; simp
theorem fold_take {α β : Type} (f : β → α → β) (l : List α) (b : β) (k : Nat) (hk : k < l.length) : (l.take (k + 1)).foldl f b = f ((l.take k).foldl f b) l[k] := by
  rw [List.take_succ_eq_append_getElem hk, List.foldl_append]; rfl
/-- Where a field is put: behind the k first ones, all lesser, ahead of the k-th, which is not. -/
theorem putR_at (l : List RF) (f : RF) (k : Nat) (hk : k ≤ l.length) (hlt : ∀ j (hj : j < l.length), j < k → l[j].1 < f.1) (hge : ∀ h : k < l.length, ¬ l[k].1 < f.1) : putR l f = l.take k ++ f :: l.drop k := by
  unfold putR
  have h1 : l.takeWhile (fun g => decide (g.1 < f.1)) = l.take k ∧ l.dropWhile (fun g => decide (g.1 < f.1)) = l.drop k := by
    induction l generalizing k with
    | nil => simp
    | cons a l ih =>
      cases k with
      | zero =>
        have := hge (by simp)
        simp only [List.getElem_cons_zero] at this
        simp [List.takeWhile_cons, List.dropWhile_cons, this]
      | succ k =>
        have h0 := hlt 0 (by simp) (by omega)
        simp only [List.getElem_cons_zero] at h0
        have hi := ih k (by simpa using hk) (fun j hj hjk => by have := hlt (j + 1) (by simpa using hj) (by omega); simpa using this) (fun h => by have := hge (by simpa using h); simpa using this)
        simp [List.takeWhile_cons, List.dropWhile_cons, h0, hi.1, hi.2]
  rw [h1.1, h1.2]
end Go.Proofs.YtcbohfncckpolaaDoor.Num
