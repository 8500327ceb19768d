/-
  Facts on compiling by plain lists: what RawFrom gives of a valid schema compiles to that schema. For any program.
-/
import Derived.Test.YthjnpipincpkgaaCompFacts
import Derived.Test.YthjnpipincpkgaaRawFrom
namespace Go.Proofs.Ythjnpipincpkgaa.Num
set_option linter.unusedVariables false
set_option linter.unusedSimpArgs false

/-- A field that is greater than all goes to the end. -/
theorem putR_end : ∀ (l : List RF) (f : RF), (∀ g ∈ l, g.1 < f.1) → putR l f = l ++ [f]
  | [], f, _ => rfl
  | g :: l, f, h => by
    have hg := h g List.mem_cons_self
    have ih := putR_end l f fun x hx => h x (List.mem_cons_of_mem _ hx)
    unfold putR at ih ⊢
    rw [List.takeWhile_cons_of_pos (by simpa using hg), List.dropWhile_cons_of_pos (by simpa using hg), List.cons_append, ih, List.cons_append]
theorem foldPut_asc (r : List RM) : ∀ (l acc : List RF), (∀ g ∈ acc, ∀ f ∈ l, g.1 < f.1) → (l.Pairwise fun f g => f.1 < g.1) → l.foldl (fun acc f => putR acc (compF r f)) acc = acc ++ l.map (compF r)
  | [], acc, _, _ => by simp
  | f :: l, acc, h, hp => by
    rw [List.pairwise_cons] at hp
    rw [List.foldl_cons, putR_end acc (compF r f) (fun g hg => h g hg f List.mem_cons_self), foldPut_asc r l _ (fun g hg x hx => by
      rcases List.mem_append.1 hg with hg | hg
      · exact h g hg x (List.mem_cons_of_mem _ hx)
      · obtain rfl := List.mem_singleton.1 hg; exact hp.1 x hx) hp.2]
    simp
theorem compFs_asc (r : List RM) (l : List RF) (hp : l.Pairwise fun f g => f.1 < g.1) : compFs r l = l.map (compF r) := by
  unfold compFs
  rw [foldPut_asc r l [] (fun g hg => by simp at hg) hp, List.nil_append]
theorem rank_zero : ∀ (r : List RM) (a : Int), (∀ m ∈ r, ¬ m.1 < a) → rankR r a = 0
  | [], _, _ => rfl
  | m :: r, a, h => by rw [rank_cons, if_neg (h m List.mem_cons_self), rank_zero r a fun x hx => h x (List.mem_cons_of_mem _ hx)]
/-- The rank in a list in order is the place. -/
theorem rank_asc : ∀ (r : List RM), (r.Pairwise fun m n => m.1 < n.1) → ∀ k (hk : k < r.length), rankR r r[k].1 = k
  | [], _, k, hk => by simp at hk
  | m :: r, hp, 0, _ => by
    rw [List.pairwise_cons] at hp
    refine rank_zero _ _ fun x hx => ?_
    rcases List.mem_cons.1 hx with rfl | hx
    · simp
    · have := hp.1 x hx; simp only [List.getElem_cons_zero]; omega
  | m :: r, hp, k + 1, hk => by
    rw [List.pairwise_cons] at hp
    have hk' : k < r.length := by simpa using hk
    have := hp.1 r[k] (List.getElem_mem hk')
    rw [List.getElem_cons_succ, rank_cons, if_pos this, rank_asc r hp.2 k hk', Nat.add_comm]
theorem compileR_asc {r : List RM} (hp : r.Pairwise fun m n => m.1 < n.1) (hf : ∀ m ∈ r, m.2.Pairwise fun f g => f.1 < g.1) : compileR r = r.map fun m => (m.1, m.2.map (compF r)) := by
  refine List.ext_getElem? fun k => ?_
  by_cases hk : k < r.length
  · have h1 := compileR_at (hp.imp fun h => by omega) (List.getElem_mem hk)
    rw [rank_asc r hp k hk] at h1
    rw [h1, List.getElem?_map, List.getElem?_eq_getElem hk, compFs_asc r _ (hf _ (List.getElem_mem hk))]
    rfl
  · rw [List.getElem?_eq_none (by rw [compileR_len]; omega), List.getElem?_eq_none (by rw [List.length_map]; omega)]
theorem asc_of {α : Type} (g : α → Int) : ∀ (l : List α), (∀ k (hk : k + 1 < l.length), g l[k] < g l[k + 1]) → l.Pairwise fun a b => g a < g b
  | [], _ => .nil
  | [a], _ => by simp
  | a :: b :: l, h => by
    have ih := asc_of g (b :: l) fun k hk => by have := h (k + 1) (by simpa using hk); simpa using this
    have h0 : g a < g b := h 0 (by simp)
    rw [List.pairwise_cons] at ih ⊢
    refine ⟨fun x hx => ?_, List.pairwise_cons.2 ih⟩
    rcases List.mem_cons.1 hx with rfl | hx
    · exact h0
    · exact Int.lt_trans h0 (ih.1 x hx)
theorem SchemaP.ids {s : List RM} (h : SchemaP s) : s.Pairwise fun m n => m.1 < n.1 :=
  asc_of (fun m : RM => m.1) s fun k hk => (h.2 (k + 1) hk).2.1 k (by omega) rfl
theorem SchemaP.fields {s : List RM} (h : SchemaP s) {m : RM} (hm : m ∈ s) : m.2.Pairwise fun f g => f.1 < g.1 := by
  obtain ⟨i, hi, rfl⟩ := List.getElem_of_mem hm
  exact asc_of (fun f : RF => f.1) _ fun k hk => ((h.2 i hi).2.2.2 (k + 1) hk).2 k (by omega) rfl
theorem rank_back (s : List RM) : ∀ (l : List RM) (a : Int), rankR (l.map (backM s)) a = rankR l a
  | [], _ => rfl
  | m :: l, a => by rw [List.map_cons, rank_cons, rank_cons, rank_back s l a]; rfl
/-- A field is given back. -/
theorem comp_back {s : List RM} (h : SchemaP s) {f : RF} (hf : fieldOkB s.length f = true) : compF (s.map (backM s)) (backF s f) = f := by
  obtain ⟨a, b, c, d, e⟩ := f
  unfold fieldOkB at hf
  unfold compF backF
  simp only at hf ⊢
  split at hf
  · cases hf
  · split at hf
    · cases hf
    · split at hf
      · cases hf
      · split at hf
        · rename_i h8
          have he : 0 ≤ e ∧ e ≤ (s.length : Int) - 1 := of_decide_eq_true hf
          obtain ⟨n, rfl⟩ := Int.eq_ofNat_of_zero_le he.1
          have hn : n < s.length := by omega
          rw [if_pos h8, if_pos h8, rank_back, Int.toNat_natCast, List.getD_eq_getElem?_getD, List.getElem?_eq_getElem hn, Option.getD_some, rank_asc s h.ids n hn]
        · rename_i h8
          have he : e = -1 := by simpa using hf
          rw [if_neg h8, he]
/-- Compiling what RawFrom gives of a valid schema gives the schema. -/
theorem compile_back {s : List RM} (h : SchemaP s) : compileR (rawFromR s) = s := by
  unfold rawFromR
  rw [if_pos (schema_yes h)]
  rw [compileR_asc (by rw [List.pairwise_map]; exact h.ids) fun m hm => by
    obtain ⟨x, hx, rfl⟩ := List.mem_map.1 hm
    show (x.2.map (backF s)).Pairwise fun f g => f.1 < g.1
    rw [List.pairwise_map]
    exact h.fields hx]
  rw [List.map_map]
  refine (List.map_congr_left fun m hm => ?_).trans (List.map_id s)
  obtain ⟨i, hi, rfl⟩ := List.getElem_of_mem hm
  show (s[i].1, (s[i].2.map (backF s)).map (compF (s.map (backM s)))) = s[i]
  rw [List.map_map]
  have : s[i].2.map (compF (s.map (backM s)) ∘ backF s) = s[i].2 :=
    (List.map_congr_left fun f hf => by
      obtain ⟨k, hk, rfl⟩ := List.getElem_of_mem hf
      exact comp_back h ((h.2 i hi).2.2.2 k hk).1).trans (List.map_id _)
  rw [this]
end Go.Proofs.Ythjnpipincpkgaa.Num
