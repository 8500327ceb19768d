/-
  Facts on compiling by plain lists: ranks of Ids that differ, where a message's shape lies, fields in order. For any program.
-/
import Derived.Test.YthjnpipincpkgaaCompMath
namespace Go.Proofs.Ythjnpipincpkgaa.Num
set_option linter.unusedVariables false
set_option linter.unusedSimpArgs false

theorem rank_cons (m : RM) (r : List RM) (a : Int) : rankR (m :: r) a = (if m.1 < a then 1 else 0) + rankR r a := by
  unfold rankR
  by_cases h : m.1 < a
  · rw [List.filter_cons_of_pos (by simpa using h), List.length_cons, if_pos h]; omega
  · rw [List.filter_cons_of_neg (by simpa using h), if_neg h]; omega
theorem rank_mono : ∀ (r : List RM) {a b : Int}, a ≤ b → rankR r a ≤ rankR r b
  | [], _, _, _ => by simp [rankR]
  | m :: r, a, b, h => by
    have ih := rank_mono r h
    rw [rank_cons, rank_cons]
    split <;> split <;> omega
theorem rank_strict : ∀ (r : List RM) {a b : Int}, a < b → (∃ m ∈ r, m.1 = a) → rankR r a < rankR r b
  | [], _, _, _, ⟨m, hm, _⟩ => by simp at hm
  | m :: r, a, b, h, ⟨x, hx, he⟩ => by
    rw [rank_cons, rank_cons]
    rcases List.mem_cons.1 hx with rfl | hx
    · have := rank_mono r (Int.le_of_lt h)
      rw [if_neg (by omega), if_pos (by omega)]; omega
    · have ih := rank_strict r h ⟨x, hx, he⟩
      split <;> split <;> omega
theorem rank_inj {r : List RM} {a b : Int} (ha : ∃ m ∈ r, m.1 = a) (hb : ∃ m ∈ r, m.1 = b) (h : rankR r a = rankR r b) : a = b := by
  rcases Int.lt_trichotomy a b with h1 | h1 | h1
  · have := rank_strict r h1 ha; omega
  · exact h1
  · have := rank_strict r h1 hb; omega
theorem fold_other {r : List RM} : ∀ (l acc : List RM) (p : Nat), (∀ x ∈ l, rankR r x.1 ≠ p) → (l.foldl (compStep r) acc)[p]? = acc[p]?
  | [], _, _, _ => rfl
  | x :: l, acc, p, h => by
    rw [List.foldl_cons, fold_other l _ p fun y hy => h y (List.mem_cons_of_mem _ hy)]
    unfold compStep
    rw [List.getElem?_set_ne (h x List.mem_cons_self)]
theorem fold_at {r : List RM} : ∀ (l acc : List RM), (∀ x ∈ l, x ∈ r) → (l.Pairwise fun m n => m.1 ≠ n.1) → ∀ x ∈ l, rankR r x.1 < acc.length → (l.foldl (compStep r) acc)[rankR r x.1]? = some (x.1, compFs r x.2)
  | [], _, _, _, x, hx, _ => by simp at hx
  | y :: l, acc, hr, hp, x, hx, hlt => by
    rw [List.foldl_cons]
    rw [List.pairwise_cons] at hp
    rcases List.mem_cons.1 hx with rfl | hx
    · rw [fold_other l _ _ fun z hz e => hp.1 z hz (rank_inj ⟨x, hr x List.mem_cons_self, rfl⟩ ⟨z, hr z (List.mem_cons_of_mem _ hz), rfl⟩ e.symm)]
      unfold compStep
      rw [List.getElem?_set_self hlt]
    · exact fold_at l _ (fun z hz => hr z (List.mem_cons_of_mem _ hz)) hp.2 x hx (by simpa [compStep] using hlt)
/-- Where a message's shape lies. -/
theorem compileR_at {r : List RM} (hp : r.Pairwise fun m n => m.1 ≠ n.1) {x : RM} (hx : x ∈ r) : (compileR r)[rankR r x.1]? = some (x.1, compFs r x.2) := by
  obtain ⟨k, hk, rfl⟩ := List.getElem_of_mem hx
  exact fold_at r _ (fun _ h => h) hp _ (List.getElem_mem hk) (by rw [List.length_replicate]; exact rank_lt hk)
theorem nodup_bound : ∀ (n : Nat) (l : List Nat), l.Nodup → (∀ x ∈ l, x < n) → l.length ≤ n
  | 0, l, _, h => by
    cases l with
    | nil => simp
    | cons a l => exact absurd (h a List.mem_cons_self) (by omega)
  | n + 1, l, hn, h => by
    have ih := nodup_bound n (l.erase n) (hn.erase n) fun x hx => by
      have h1 := h x (List.mem_of_mem_erase hx)
      have h2 := (hn.mem_erase_iff.1 hx).1
      omega
    rw [List.length_erase] at ih
    split at ih <;> omega
/-- Each place is some message's. -/
theorem rank_onto {r : List RM} (hp : r.Pairwise fun m n => m.1 ≠ n.1) (p : Nat) (h : p < r.length) : ∃ x ∈ r, rankR r x.1 = p := by
  by_cases hc : ∃ x ∈ r, rankR r x.1 = p
  · exact hc
  · exfalso
    have hnd : (r.map fun x => rankR r x.1).Nodup := by
      rw [List.nodup_iff_pairwise_ne, List.pairwise_map]
      refine List.Pairwise.imp_of_mem ?_ hp
      intro a b ha hb hab e
      exact hab (rank_inj ⟨a, ha, rfl⟩ ⟨b, hb, rfl⟩ e)
    have hb := nodup_bound r.length (p :: r.map fun x => rankR r x.1) (List.nodup_cons.2 ⟨fun hm => by
      obtain ⟨x, hx, e⟩ := List.mem_map.1 hm
      exact hc ⟨x, hx, e⟩, hnd⟩) fun q hq => by
      rcases List.mem_cons.1 hq with rfl | hq
      · exact h
      · obtain ⟨x, hx, rfl⟩ := List.mem_map.1 hq
        obtain ⟨k, hk, rfl⟩ := List.getElem_of_mem hx
        exact rank_lt hk
    rw [List.length_cons, List.length_map] at hb
    omega
end Go.Proofs.Ythjnpipincpkgaa.Num
