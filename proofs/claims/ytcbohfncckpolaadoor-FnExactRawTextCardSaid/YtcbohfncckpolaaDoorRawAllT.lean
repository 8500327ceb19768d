/-
  Several texts in one: CompFacts CompBack CompRight CompOk TextRead TextField TextRaw RawTextS RawTextI.
-/
import Derived.Test.YtcbohfncckpolaaDoorCompMath
import Derived.Test.YtcbohfncckpolaaDoorRawFrom
import Derived.Test.YtcbohfncckpolaaDoorCodes
import Derived.Test.YtcbohfncckpolaaDoorFirst
import Derived.Test.YtcbohfncckpolaaDoorTextMath
import Derived.Test.YtcbohfncckpolaaDoorFieldTextI
import Derived.Test.YtcbohfncckpolaaDoorCheckImpl
import Derived.Test.YtcbohfncckpolaaDoorWords

/-
  Facts on compiling by plain lists: ranks of Ids that differ, where a message's shape lies, fields in order. For any program.
-/
namespace Go.Proofs.YtcbohfncckpolaaDoor.Num
set_option linter.unusedVariables false
set_option linter.unusedSimpArgs false

theorem rank_cons (m : RM) (r : List RM) (a : Int) : rankR (m :: r) a = (if m.1 < a then 1 else 0) + rankR r a := by
  unfold rankR
  by_cases h : m.1 < a
  · rw [List.filter_cons_of_pos (by simpa using h), List.length_cons, if_pos h]; omega
  · rw [List.filter_cons_of_neg (by simpa using h), if_neg h]; omega
theorem rank_mono : ∀ (r : List RM) {a b : Int}, a ≤ b → rankR r a ≤ rankR r b
  | [], _, _, _ => by simp [rankR]
  | m :: r, a, b, h => by
    have ih := rank_mono r h
    rw [rank_cons, rank_cons]
    split <;> split <;> omega
theorem rank_strict : ∀ (r : List RM) {a b : Int}, a < b → (∃ m ∈ r, m.1 = a) → rankR r a < rankR r b
  | [], _, _, _, ⟨m, hm, _⟩ => by simp at hm
  | m :: r, a, b, h, ⟨x, hx, he⟩ => by
    rw [rank_cons, rank_cons]
    rcases List.mem_cons.1 hx with rfl | hx
    · have := rank_mono r (Int.le_of_lt h)
      rw [if_neg (by omega), if_pos (by omega)]; omega
    · have ih := rank_strict r h ⟨x, hx, he⟩
      split <;> split <;> omega
theorem rank_inj {r : List RM} {a b : Int} (ha : ∃ m ∈ r, m.1 = a) (hb : ∃ m ∈ r, m.1 = b) (h : rankR r a = rankR r b) : a = b := by
  rcases Int.lt_trichotomy a b with h1 | h1 | h1
  · have := rank_strict r h1 ha; omega
  · exact h1
  · have := rank_strict r h1 hb; omega
theorem fold_other {r : List RM} : ∀ (l acc : List RM) (p : Nat), (∀ x ∈ l, rankR r x.1 ≠ p) → (l.foldl (compStep r) acc)[p]? = acc[p]?
  | [], _, _, _ => rfl
  | x :: l, acc, p, h => by
    rw [List.foldl_cons, fold_other l _ p fun y hy => h y (List.mem_cons_of_mem _ hy)]
    unfold compStep
    rw [List.getElem?_set_ne (h x List.mem_cons_self)]
theorem fold_at {r : List RM} : ∀ (l acc : List RM), (∀ x ∈ l, x ∈ r) → (l.Pairwise fun m n => m.1 ≠ n.1) → ∀ x ∈ l, rankR r x.1 < acc.length → (l.foldl (compStep r) acc)[rankR r x.1]? = some (x.1, compFs r x.2)
  | [], _, _, _, x, hx, _ => by simp at hx
  | y :: l, acc, hr, hp, x, hx, hlt => by
    rw [List.foldl_cons]
    rw [List.pairwise_cons] at hp
    rcases List.mem_cons.1 hx with rfl | hx
    · rw [fold_other l _ _ fun z hz e => hp.1 z hz (rank_inj ⟨x, hr x List.mem_cons_self, rfl⟩ ⟨z, hr z (List.mem_cons_of_mem _ hz), rfl⟩ e.symm)]
      unfold compStep
      rw [List.getElem?_set_self hlt]
    · exact fold_at l _ (fun z hz => hr z (List.mem_cons_of_mem _ hz)) hp.2 x hx (by simpa [compStep] using hlt)
/-- Where a message's shape lies. -/
theorem compileR_at {r : List RM} (hp : r.Pairwise fun m n => m.1 ≠ n.1) {x : RM} (hx : x ∈ r) : (compileR r)[rankR r x.1]? = some (x.1, compFs r x.2) := by
  obtain ⟨k, hk, rfl⟩ := List.getElem_of_mem hx
  exact fold_at r _ (fun _ h => h) hp _ (List.getElem_mem hk) (by rw [List.length_replicate]; exact rank_lt hk)
theorem nodup_bound : ∀ (n : Nat) (l : List Nat), l.Nodup → (∀ x ∈ l, x < n) → l.length ≤ n
  | 0, l, _, h => by
    cases l with
    | nil => simp
    | cons a l => exact absurd (h a List.mem_cons_self) (by omega)
  | n + 1, l, hn, h => by
    have ih := nodup_bound n (l.erase n) (hn.erase n) fun x hx => by
      have h1 := h x (List.mem_of_mem_erase hx)
      have h2 := (hn.mem_erase_iff.1 hx).1
      omega
    rw [List.length_erase] at ih
    split at ih <;> omega
/-- Each place is some message's. -/
theorem rank_onto {r : List RM} (hp : r.Pairwise fun m n => m.1 ≠ n.1) (p : Nat) (h : p < r.length) : ∃ x ∈ r, rankR r x.1 = p := by
  by_cases hc : ∃ x ∈ r, rankR r x.1 = p
  · exact hc
  · exfalso
    have hnd : (r.map fun x => rankR r x.1).Nodup := by
      rw [List.nodup_iff_pairwise_ne, List.pairwise_map]
      refine List.Pairwise.imp_of_mem ?_ hp
      intro a b ha hb hab e
      exact hab (rank_inj ⟨a, ha, rfl⟩ ⟨b, hb, rfl⟩ e)
    have hb := nodup_bound r.length (p :: r.map fun x => rankR r x.1) (List.nodup_cons.2 ⟨fun hm => by
      obtain ⟨x, hx, e⟩ := List.mem_map.1 hm
      exact hc ⟨x, hx, e⟩, hnd⟩) fun q hq => by
      rcases List.mem_cons.1 hq with rfl | hq
      · exact h
      · obtain ⟨x, hx, rfl⟩ := List.mem_map.1 hq
        obtain ⟨k, hk, rfl⟩ := List.getElem_of_mem hx
        exact rank_lt hk
    rw [List.length_cons, List.length_map] at hb
    omega
end Go.Proofs.YtcbohfncckpolaaDoor.Num

/-
  Facts on compiling by plain lists: what RawFrom gives of a valid schema compiles to that schema. For any program.
-/
namespace Go.Proofs.YtcbohfncckpolaaDoor.Num
set_option linter.unusedVariables false
set_option linter.unusedSimpArgs false

/-- A field that is greater than all goes to the end. -/
theorem putR_end : ∀ (l : List RF) (f : RF), (∀ g ∈ l, g.1 < f.1) → putR l f = l ++ [f]
  | [], f, _ => rfl
  | g :: l, f, h => by
    have hg := h g List.mem_cons_self
    have ih := putR_end l f fun x hx => h x (List.mem_cons_of_mem _ hx)
    unfold putR at ih ⊢
    rw [List.takeWhile_cons_of_pos (by simpa using hg), List.dropWhile_cons_of_pos (by simpa using hg), List.cons_append, ih, List.cons_append]
theorem foldPut_asc (r : List RM) : ∀ (l acc : List RF), (∀ g ∈ acc, ∀ f ∈ l, g.1 < f.1) → (l.Pairwise fun f g => f.1 < g.1) → l.foldl (fun acc f => putR acc (compF r f)) acc = acc ++ l.map (compF r)
  | [], acc, _, _ => by simp
  | f :: l, acc, h, hp => by
    rw [List.pairwise_cons] at hp
    rw [List.foldl_cons, putR_end acc (compF r f) (fun g hg => h g hg f List.mem_cons_self), foldPut_asc r l _ (fun g hg x hx => by
      rcases List.mem_append.1 hg with hg | hg
      · exact h g hg x (List.mem_cons_of_mem _ hx)
      · obtain rfl := List.mem_singleton.1 hg; exact hp.1 x hx) hp.2]
    simp
theorem compFs_asc (r : List RM) (l : List RF) (hp : l.Pairwise fun f g => f.1 < g.1) : compFs r l = l.map (compF r) := by
  unfold compFs
  rw [foldPut_asc r l [] (fun g hg => by simp at hg) hp, List.nil_append]
theorem rank_zero : ∀ (r : List RM) (a : Int), (∀ m ∈ r, ¬ m.1 < a) → rankR r a = 0
  | [], _, _ => rfl
  | m :: r, a, h => by rw [rank_cons, if_neg (h m List.mem_cons_self), rank_zero r a fun x hx => h x (List.mem_cons_of_mem _ hx)]
/-- The rank in a list in order is the place. -/
theorem rank_asc : ∀ (r : List RM), (r.Pairwise fun m n => m.1 < n.1) → ∀ k (hk : k < r.length), rankR r r[k].1 = k
  | [], _, k, hk => by simp at hk
  | m :: r, hp, 0, _ => by
    rw [List.pairwise_cons] at hp
    refine rank_zero _ _ fun x hx => ?_
    rcases List.mem_cons.1 hx with rfl | hx
    · simp
    · have := hp.1 x hx; simp only [List.getElem_cons_zero]; omega
  | m :: r, hp, k + 1, hk => by
    rw [List.pairwise_cons] at hp
    have hk' : k < r.length := by simpa using hk
    have := hp.1 r[k] (List.getElem_mem hk')
    rw [List.getElem_cons_succ, rank_cons, if_pos this, rank_asc r hp.2 k hk', Nat.add_comm]
theorem compileR_asc {r : List RM} (hp : r.Pairwise fun m n => m.1 < n.1) (hf : ∀ m ∈ r, m.2.Pairwise fun f g => f.1 < g.1) : compileR r = r.map fun m => (m.1, m.2.map (compF r)) := by
  refine List.ext_getElem? fun k => ?_
  by_cases hk : k < r.length
  · have h1 := compileR_at (hp.imp fun h => by omega) (List.getElem_mem hk)
    rw [rank_asc r hp k hk] at h1
    rw [h1, List.getElem?_map, List.getElem?_eq_getElem hk, compFs_asc r _ (hf _ (List.getElem_mem hk))]
    rfl
  · rw [List.getElem?_eq_none (by rw [compileR_len]; omega), List.getElem?_eq_none (by rw [List.length_map]; omega)]
theorem asc_of {α : Type} (g : α → Int) : ∀ (l : List α), (∀ k (hk : k + 1 < l.length), g l[k] < g l[k + 1]) → l.Pairwise fun a b => g a < g b
  | [], _ => .nil
  | [a], _ => by simp
  | a :: b :: l, h => by
    have ih := asc_of g (b :: l) fun k hk => by have := h (k + 1) (by simpa using hk); simpa using this
    have h0 : g a < g b := h 0 (by simp)
    rw [List.pairwise_cons] at ih ⊢
    refine ⟨fun x hx => ?_, List.pairwise_cons.2 ih⟩
    rcases List.mem_cons.1 hx with rfl | hx
    · exact h0
    · exact Int.lt_trans h0 (ih.1 x hx)
theorem SchemaP.ids {s : List RM} (h : SchemaP s) : s.Pairwise fun m n => m.1 < n.1 :=
  asc_of (fun m : RM => m.1) s fun k hk => (h.2 (k + 1) hk).2.1 k (by omega) rfl
theorem SchemaP.fields {s : List RM} (h : SchemaP s) {m : RM} (hm : m ∈ s) : m.2.Pairwise fun f g => f.1 < g.1 := by
  obtain ⟨i, hi, rfl⟩ := List.getElem_of_mem hm
  exact asc_of (fun f : RF => f.1) _ fun k hk => ((h.2 i hi).2.2.2 (k + 1) hk).2 k (by omega) rfl
theorem rank_back (s : List RM) : ∀ (l : List RM) (a : Int), rankR (l.map (backM s)) a = rankR l a
  | [], _ => rfl
  | m :: l, a => by rw [List.map_cons, rank_cons, rank_cons, rank_back s l a]; rfl
/-- A field is given back. -/
theorem comp_back {s : List RM} (h : SchemaP s) {f : RF} (hf : fieldOkB s.length f = true) : compF (s.map (backM s)) (backF s f) = f := by
  obtain ⟨a, b, c, d, e⟩ := f
  unfold fieldOkB at hf
  unfold compF backF
  simp only at hf ⊢
  split at hf
  · cases hf
  · split at hf
    · cases hf
    · split at hf
      · cases hf
      · split at hf
        · rename_i h8
          have he : 0 ≤ e ∧ e ≤ (s.length : Int) - 1 := of_decide_eq_true hf
          obtain ⟨n, rfl⟩ := Int.eq_ofNat_of_zero_le he.1
          have hn : n < s.length := by omega
          rw [if_pos h8, if_pos h8, rank_back, Int.toNat_natCast, List.getD_eq_getElem?_getD, List.getElem?_eq_getElem hn, Option.getD_some, rank_asc s h.ids n hn]
        · rename_i h8
          have he : e = -1 := by simpa using hf
          rw [if_neg h8, he]
/-- Compiling what RawFrom gives of a valid schema gives the schema. -/
theorem compile_back {s : List RM} (h : SchemaP s) : compileR (rawFromR s) = s := by
  unfold rawFromR
  rw [if_pos (schema_yes h)]
  rw [compileR_asc (by rw [List.pairwise_map]; exact h.ids) fun m hm => by
    obtain ⟨x, hx, rfl⟩ := List.mem_map.1 hm
    show (x.2.map (backF s)).Pairwise fun f g => f.1 < g.1
    rw [List.pairwise_map]
    exact h.fields hx]
  rw [List.map_map]
  refine (List.map_congr_left fun m hm => ?_).trans (List.map_id s)
  obtain ⟨i, hi, rfl⟩ := List.getElem_of_mem hm
  show (s[i].1, (s[i].2.map (backF s)).map (compF (s.map (backM s)))) = s[i]
  rw [List.map_map]
  have : s[i].2.map (compF (s.map (backM s)) ∘ backF s) = s[i].2 :=
    (List.map_congr_left fun f hf => by
      obtain ⟨k, hk, rfl⟩ := List.getElem_of_mem hf
      exact comp_back h ((h.2 i hi).2.2.2 k hk).1).trans (List.map_id _)
  rw [this]
end Go.Proofs.YtcbohfncckpolaaDoor.Num

/-
  Facts on compiling by plain lists: what RawFrom gives of a valid schema has no violation; what is compiled of a description without a violation is a valid schema. For any program.
-/
namespace Go.Proofs.YtcbohfncckpolaaDoor.Num
set_option linter.unusedVariables false
set_option linter.unusedSimpArgs false

theorem asc_get {α : Type} {g : α → Int} {l : List α} (h : l.Pairwise fun a b => g a < g b) {i j : Nat} (hj : j < l.length) (hij : i < j) : g l[i] < g l[j] :=
  List.pairwise_iff_getElem.1 h i j (by omega) hj hij
theorem fieldOk_of {n : Nat} {f : RF} (h : fieldOkB n f = true) : numOkB f.1 = true ∧ (1 ≤ f.2.1 ∧ f.2.1 ≤ 8) ∧ ¬ (f.2.2.2.1 = true ∧ (f.2.2.1 = false ∨ numericB f.2.1 = false)) ∧ (f.2.1 = 8 → 0 ≤ f.2.2.2.2 ∧ f.2.2.2.2 ≤ (n : Int) - 1) ∧ (f.2.1 ≠ 8 → f.2.2.2.2 = -1) := by
  unfold fieldOkB at h
  split at h
  · cases h
  · split at h
    · cases h
    · split at h
      · cases h
      · rename_i h1 h2 h3
        refine ⟨by simpa using h1, Classical.byContradiction fun e => h2 e, h3, fun e => ?_, fun e => ?_⟩
        · rw [if_pos e] at h; exact of_decide_eq_true h
        · rw [if_neg e] at h; simpa using h
theorem fieldOk_to {n : Nat} {f : RF} (h1 : numOkB f.1 = true) (h2 : 1 ≤ f.2.1 ∧ f.2.1 ≤ 8) (h3 : ¬ (f.2.2.2.1 = true ∧ (f.2.2.1 = false ∨ numericB f.2.1 = false))) (h4 : f.2.1 = 8 → 0 ≤ f.2.2.2.2 ∧ f.2.2.2.2 ≤ (n : Int) - 1) (h5 : f.2.1 ≠ 8 → f.2.2.2.2 = -1) : fieldOkB n f = true := by
  unfold fieldOkB
  rw [if_neg (by simp [h1]), if_neg (fun e => e h2), if_neg h3]
  split
  · rename_i e; exact decide_eq_true (h4 e)
  · rename_i e; simp [h5 e]
theorem fieldCode_zero {r : List RM} {l : List RF} {k : Nat} {f : RF} : fieldCodeN r l k f = 0 ↔ (numOkB f.1 = true ∧ hasNum (l.take k) f.1 = false ∧ (1 ≤ f.2.1 ∧ f.2.1 ≤ 8) ∧ ¬ (f.2.2.2.1 = true ∧ (f.2.2.1 = false ∨ numericB f.2.1 = false)) ∧ (f.2.1 = 8 → hasId r f.2.2.2.2 r.length = true) ∧ (f.2.1 ≠ 8 → f.2.2.2.2 = 0)) := by
  unfold fieldCodeN
  constructor
  · intro h
    split at h
    · cases h
    · split at h
      · cases h
      · split at h
        · cases h
        · split at h
          · cases h
          · split at h
            · cases h
            · rename_i h1 h2 h3 h4 h5
              refine ⟨by simpa using h1, by simpa using h2, Classical.byContradiction fun e => h3 e, h4, fun e => ?_, fun e => ?_⟩
              · cases hh : hasId r f.2.2.2.2 r.length with
                | true => rfl
                | false => exact absurd (.inl ⟨e, hh⟩) h5
              · exact Classical.byContradiction fun hh => h5 (.inr ⟨e, hh⟩)
  · rintro ⟨h1, h2, h3, h4, h5, h6⟩
    rw [if_neg (by simp [h1]), if_neg (by simp [h2]), if_neg (fun e => e h3), if_neg h4, if_neg]
    rintro (⟨e, hh⟩ | ⟨e, hh⟩)
    · rw [h5 e] at hh; cases hh
    · exact hh (h6 e)
theorem msgCode_zero {r : List RM} {k : Nat} {m : RM} : msgCodeN r k m = 0 ↔ ((1 ≤ m.1 ∧ m.1 ≤ 99) ∧ hasId r m.1 k = false ∧ m.2.length ≤ 8) := by
  unfold msgCodeN
  constructor
  · intro h
    split at h
    · cases h
    · split at h
      · cases h
      · split at h
        · cases h
        · rename_i h1 h2 h3
          exact ⟨Classical.byContradiction fun e => h1 e, by simpa using h2, by omega⟩
  · rintro ⟨h1, h2, h3⟩
    rw [if_neg (fun e => e h1), if_neg (by simp [h2]), if_neg (by omega)]
/-- What RawFrom gives of a valid schema has no violation. -/
theorem back_all {s : List RM} (h : SchemaP s) : AllB (rawFromR s) (rawFromR s).length := by
  have hr : rawFromR s = s.map (backM s) := by unfold rawFromR; rw [if_pos (schema_yes h)]
  rw [hr]
  intro j hj _
  have hjs : j < s.length := by simpa using hj
  obtain ⟨i1, i2, i3, i4⟩ := h.2 j hjs
  have hm : (s.map (backM s))[j] = backM s s[j] := List.getElem_map ..
  refine ⟨?_, fun p hp => ?_⟩
  · rw [msgCode_in hj, hm]
    refine msgCode_zero.2 ⟨i1, ?_, by simpa [backM] using i3⟩
    refine hasId_no fun q hq hqj => ?_
    rw [List.getElem_map]
    have := asc_get (g := fun m : RM => m.1) h.ids hjs hqj
    show s[q].1 ≠ s[j].1
    omega
  · rw [fieldCode_in hj hp]
    simp only [hm] at hp ⊢
    have hps : p < s[j].2.length := by simpa [backM] using hp
    obtain ⟨k1, k2⟩ := i4 p hps
    obtain ⟨f1, f2, f3, f4, f5⟩ := fieldOk_of k1
    have hf : (backM s s[j]).2[p] = backF s s[j].2[p] := List.getElem_map ..
    rw [hf]
    refine fieldCode_zero.2 ⟨f1, ?_, f2, f3, fun e => ?_, fun e => ?_⟩
    · refine hasNum_no fun q hq => ?_
      have hq' : q < p := by rw [List.length_take] at hq; omega
      rw [List.getElem_take]
      have h1 : (backM s s[j]).2[q]'(by omega) = backF s (s[j].2[q]'(by omega)) := List.getElem_map ..
      rw [h1]
      have := asc_get (g := fun f : RF => f.1) (h.fields (List.getElem_mem hjs)) hps hq'
      show (s[j].2[q]'(by omega)).1 ≠ s[j].2[p].1
      omega
    · have e' : s[j].2[p].2.1 = 8 := e
      have hb := f4 e'
      obtain ⟨n, hn⟩ := Int.eq_ofNat_of_zero_le hb.1
      have hns : n < s.length := by omega
      refine hasId_yes (k := n) (by simpa using hns) (by simpa using hns) ?_
      rw [List.getElem_map]
      show s[n].1 = if s[j].2[p].2.1 = 8 then (s.getD s[j].2[p].2.2.2.2.toNat (0, [])).1 else 0
      rw [if_pos e', hn, Int.toNat_natCast, List.getD_eq_getElem?_getD, List.getElem?_eq_getElem hns, Option.getD_some]
    · have e' : ¬ s[j].2[p].2.1 = 8 := e
      show (if s[j].2[p].2.1 = 8 then (s.getD s[j].2[p].2.2.2.2.toNat (0, [])).1 else 0) = 0
      rw [if_neg e']
theorem back_first {s : List RM} (h : SchemaP s) {f : Int × Int × Int} (hf : First (rawFromR s) f) : f = (0, 0, 0) := by
  have hl : (rawFromR s).length ≤ 6 := by unfold rawFromR; rw [if_pos (schema_yes h), List.length_map]; exact h.1
  exact hf.one (.inr ⟨hl, .inl ⟨back_all h, rfl⟩⟩)
theorem first_all {r : List RM} (h : First r (0, 0, 0)) : r.length ≤ 6 ∧ AllB r r.length := by
  rcases h with ⟨_, e⟩ | ⟨h0, ⟨h, _⟩ | ⟨i, hi, _, hc, e⟩ | ⟨i, q, hi, _, _, _, _, hc, e⟩⟩
  · cases e
  · exact ⟨h0, h⟩
  · exact absurd (Prod.mk.inj e).1.symm hc
  · exact absurd (Prod.mk.inj e).1.symm hc
end Go.Proofs.YtcbohfncckpolaaDoor.Num

/-
  Facts on compiling by plain lists: what is compiled of a description without a violation is a valid schema; each message's shape, each field of it. For any program.
-/
namespace Go.Proofs.YtcbohfncckpolaaDoor.Num
set_option linter.unusedVariables false
set_option linter.unusedSimpArgs false

theorem putR_cons (g : RF) (l : List RF) (f : RF) : putR (g :: l) f = if g.1 < f.1 then g :: putR l f else f :: g :: l := by
  unfold putR
  by_cases h : g.1 < f.1
  · rw [if_pos h, List.takeWhile_cons_of_pos (by simpa using h), List.dropWhile_cons_of_pos (by simpa using h), List.cons_append]
  · rw [if_neg h, List.takeWhile_cons_of_neg (by simpa using h), List.dropWhile_cons_of_neg (by simpa using h), List.nil_append]
theorem putR_mem : ∀ (l : List RF) (f x : RF), x ∈ putR l f ↔ x = f ∨ x ∈ l
  | [], f, x => by simp [putR]
  | g :: l, f, x => by
    have ih := putR_mem l f x
    rw [putR_cons]
    split
    · rw [List.mem_cons, ih, List.mem_cons]
      constructor
      · rintro (h | h | h)
        · exact .inr (.inl h)
        · exact .inl h
        · exact .inr (.inr h)
      · rintro (h | h | h)
        · exact .inr (.inl h)
        · exact .inl h
        · exact .inr (.inr h)
    · rw [List.mem_cons]
theorem putR_asc : ∀ (l : List RF) (f : RF), (l.Pairwise fun a b => a.1 < b.1) → (∀ g ∈ l, g.1 ≠ f.1) → (putR l f).Pairwise fun a b => a.1 < b.1
  | [], f, _, _ => by simp [putR]
  | g :: l, f, hp, hn => by
    have hp' := hp
    rw [List.pairwise_cons] at hp
    have ih := putR_asc l f hp.2 fun x hx => hn x (List.mem_cons_of_mem _ hx)
    rw [putR_cons]
    split
    · rename_i h
      refine List.pairwise_cons.2 ⟨fun x hx => ?_, ih⟩
      rcases (putR_mem l f x).1 hx with rfl | hx
      · exact h
      · exact hp.1 x hx
    · rename_i h
      have hne := hn g List.mem_cons_self
      refine List.pairwise_cons.2 ⟨fun x hx => ?_, hp'⟩
      rcases List.mem_cons.1 hx with rfl | hx
      · omega
      · have := hp.1 x hx; omega
theorem foldPut_mem (r : List RM) (x : RF) : ∀ (l acc : List RF), x ∈ l.foldl (fun acc f => putR acc (compF r f)) acc ↔ x ∈ acc ∨ ∃ f ∈ l, x = compF r f
  | [], acc => by simp
  | f :: l, acc => by
    rw [List.foldl_cons, foldPut_mem r x l, putR_mem]
    constructor
    · rintro ((h | h) | ⟨g, hg, h⟩)
      · exact .inr ⟨f, List.mem_cons_self, h⟩
      · exact .inl h
      · exact .inr ⟨g, List.mem_cons_of_mem _ hg, h⟩
    · rintro (h | ⟨g, hg, h⟩)
      · exact .inl (.inr h)
      · rcases List.mem_cons.1 hg with rfl | hg
        · exact .inl (.inl h)
        · exact .inr ⟨g, hg, h⟩
theorem compFs_mem (r : List RM) (l : List RF) (x : RF) : x ∈ compFs r l ↔ ∃ f ∈ l, x = compF r f := by
  unfold compFs; rw [foldPut_mem]; simp
theorem foldPut_sorted (r : List RM) : ∀ (l acc : List RF), (acc.Pairwise fun a b => a.1 < b.1) → (∀ g ∈ acc, ∀ f ∈ l, g.1 ≠ f.1) → (l.Pairwise fun a b => a.1 ≠ b.1) → (l.foldl (fun acc f => putR acc (compF r f)) acc).Pairwise fun a b => a.1 < b.1
  | [], acc, h, _, _ => h
  | f :: l, acc, h, hn, hp => by
    rw [List.pairwise_cons] at hp
    rw [List.foldl_cons]
    refine foldPut_sorted r l _ (putR_asc acc (compF r f) h fun g hg => hn g hg f List.mem_cons_self) (fun g hg x hx => ?_) hp.2
    rcases (putR_mem acc _ g).1 hg with rfl | hg
    · exact hp.1 x hx
    · exact hn g hg x (List.mem_cons_of_mem _ hx)
theorem compFs_sorted (r : List RM) (l : List RF) (hp : l.Pairwise fun a b => a.1 ≠ b.1) : (compFs r l).Pairwise fun a b => a.1 < b.1 :=
  foldPut_sorted r l [] .nil (fun g hg => by simp at hg) hp
theorem hasId_false {r : List RM} {id : Int} {n : Nat} (h : hasId r id n = false) (j : Nat) (hj : j < r.length) (hn : j < n) : r[j].1 ≠ id := fun e => by
  rw [hasId_yes hj hn e] at h; cases h
theorem hasId_true {r : List RM} {id : Int} {n : Nat} (h : hasId r id n = true) : ∃ (j : Nat) (hj : j < r.length), r[j].1 = id := by
  refine Classical.byContradiction fun e => ?_
  rw [hasId_no fun j hj _ he => e ⟨j, hj, he⟩] at h
  cases h
theorem hasNum_false {l : List RF} {x : Int} (h : hasNum l x = false) (j : Nat) (hj : j < l.length) : l[j].1 ≠ x := fun e => by
  rw [hasNum_yes hj e] at h; cases h
theorem AllB.ids {r : List RM} (h : AllB r r.length) : r.Pairwise fun m n => m.1 ≠ n.1 := by
  rw [List.pairwise_iff_getElem]
  intro i j hi hj hij
  have h1 := (h j hj hj).1
  rw [msgCode_in hj] at h1
  exact hasId_false (msgCode_zero.1 h1).2.1 i hi hij
theorem AllB.nums {r : List RM} (h : AllB r r.length) {m : RM} (hm : m ∈ r) : m.2.Pairwise fun f g => f.1 ≠ g.1 := by
  obtain ⟨k, hk, rfl⟩ := List.getElem_of_mem hm
  rw [List.pairwise_iff_getElem]
  intro i j hi hj hij
  have h1 := (h k hk hk).2 j hj
  rw [fieldCode_in hk hj] at h1
  have h2 := hasNum_false (fieldCode_zero.1 h1).2.1 i (by rw [List.length_take]; omega)
  rwa [List.getElem_take] at h2
theorem AllB.field {r : List RM} (h : AllB r r.length) {m : RM} (hm : m ∈ r) {f : RF} (hf : f ∈ m.2) : fieldOkB r.length (compF r f) = true := by
  obtain ⟨k, hk, rfl⟩ := List.getElem_of_mem hm
  obtain ⟨j, hj, rfl⟩ := List.getElem_of_mem hf
  have h1 := (h k hk hk).2 j hj
  rw [fieldCode_in hk hj] at h1
  obtain ⟨g1, _, g3, g4, g5, g6⟩ := fieldCode_zero.1 h1
  refine fieldOk_to g1 g3 g4 (fun e => ?_) (fun e => ?_)
  · obtain ⟨q, hq, he⟩ := hasId_true (g5 e)
    have hl := rank_lt hq
    have e' : r[k].2[j].2.1 = 8 := e
    show 0 ≤ (if r[k].2[j].2.1 = 8 then (rankR r r[k].2[j].2.2.2.2 : Int) else -1) ∧ (if r[k].2[j].2.1 = 8 then (rankR r r[k].2[j].2.2.2.2 : Int) else -1) ≤ (r.length : Int) - 1
    rw [if_pos e', ← he]
    omega
  · have e' : ¬ r[k].2[j].2.1 = 8 := e
    show (if r[k].2[j].2.1 = 8 then (rankR r r[k].2[j].2.2.2.2 : Int) else -1) = -1
    rw [if_neg e']
/-- What is compiled of a description without a violation is a valid schema. -/
theorem AllB.schema {r : List RM} (h : AllB r r.length) (h6 : r.length ≤ 6) : SchemaP (compileR r) := by
  have hids := AllB.ids h
  have hat : ∀ i (hi : i < (compileR r).length), ∃ x ∈ r, rankR r x.1 = i ∧ (compileR r)[i] = (x.1, compFs r x.2) := by
    intro i hi
    obtain ⟨x, hx, he⟩ := rank_onto hids i (by rwa [compileR_len] at hi)
    refine ⟨x, hx, he, ?_⟩
    have h1 := compileR_at hids hx
    rw [he, List.getElem?_eq_getElem hi] at h1
    exact Option.some.inj h1
  refine ⟨by rw [compileR_len]; exact h6, fun i hi => ?_⟩
  obtain ⟨x, hx, he, hv⟩ := hat i hi
  rw [hv]
  obtain ⟨k, hk, hxk⟩ := List.getElem_of_mem hx
  have h1 := (h k hk hk).1
  rw [msgCode_in hk, hxk] at h1
  obtain ⟨m1, m2, m3⟩ := msgCode_zero.1 h1
  refine ⟨m1, fun p hp hpi => ?_, by rw [compFs_len]; exact m3, fun q hq => ?_⟩
  · obtain ⟨y, hy, hye, hyv⟩ := hat p hp
    rw [hyv]
    show y.1 < x.1
    refine Classical.byContradiction fun hc => ?_
    have := rank_mono r (show x.1 ≤ y.1 by omega)
    omega
  · have hs := compFs_sorted r x.2 (AllB.nums h hx)
    obtain ⟨f, hf, hfe⟩ := (compFs_mem r x.2 _).1 (List.getElem_mem hq)
    refine ⟨?_, fun p hp hpq => ?_⟩
    · show fieldOkB (compileR r).length (compFs r x.2)[q] = true
      rw [hfe, compileR_len]
      exact AllB.field h hx hf
    · exact asc_get (g := fun f : RF => f.1) hs hq (by omega)
end Go.Proofs.YtcbohfncckpolaaDoor.Num

/-
  What the reference's ReadField takes out of the words of a string (stage 9): of a field's own text it takes the field. Plain facts; no program is named here.
-/
namespace Go.Proofs.YtcbohfncckpolaaDoor.Num
set_option linter.unusedVariables false
/-- The kind behind a word: the kinds from 1 to j looked at, the last that fits. -/
def kindTo (w : List UInt8) (k0 : Int) : Nat → Int
  | 0 => k0
  | j + 1 => if w = wordL ((j : Int) + 1) then (j : Int) + 1 else kindTo w k0 j
def stepW (f : RF) (w : List UInt8) : RF := (f.1, kindTo w f.2.1 8, f.2.2.1 || w == repW, f.2.2.2.1 || w == packW, if (parse 999999999 w).2 = true then ((parse 999999999 w).1 : Int) else f.2.2.2.2)
def readW : List (List UInt8) → RF
  | [] => (0, 0, false, false, 0)
  | h :: t => t.foldl stepW (((parse 999999999 h).1 : Int), 0, false, false, 0)
theorem kindTo_word {k : Int} (h : 1 ≤ k ∧ k ≤ 8) (k0 : Int) : kindTo (wordL k) k0 8 = k := by
  obtain rfl | rfl | rfl | rfl | rfl | rfl | rfl | rfl : k = 1 ∨ k = 2 ∨ k = 3 ∨ k = 4 ∨ k = 5 ∨ k = 6 ∨ k = 7 ∨ k = 8 := by omega
  all_goals simp [kindTo, wordL, wordR]
theorem kindTo_none {w : List UInt8} (h : ∀ k : Int, 1 ≤ k ∧ k ≤ 8 → w ≠ wordL k) (k0 : Int) : ∀ j : Nat, j ≤ 8 → kindTo w k0 j = k0
  | 0, _ => rfl
  | j + 1, hj => by
    rw [kindTo, if_neg (h _ ⟨by omega, by omega⟩)]
    exact kindTo_none h k0 j (by omega)
theorem parse_letter {c : UInt8} {l : List UInt8} (h : isDig c = false) : parse 999999999 (c :: l) = (0, false) := by
  refine parse_no ?_
  unfold numOk canon
  simp [h]
theorem dec_first {u : Nat} {c : UInt8} {l : List UInt8} (h : dec u = c :: l) : isDig c = true := by
  have := dec_all u
  rw [h] at this
  simp at this
  exact this.1
theorem wordL_first {k : Int} (h : 1 ≤ k ∧ k ≤ 8) : ∃ c l, wordL k = c :: l ∧ isDig c = false := by
  rcases wordL_cases h with ⟨_, e⟩ | ⟨_, e⟩ | ⟨_, e⟩ | ⟨_, e⟩ | ⟨_, e⟩ | ⟨_, e⟩ | ⟨_, e⟩ | ⟨_, e⟩ <;> exact ⟨_, _, e, by decide⟩
theorem dec_not_word {u : Nat} {k : Int} (h : 1 ≤ k ∧ k ≤ 8) : dec u ≠ wordL k := fun e => by
  obtain ⟨c, l, e', hc⟩ := wordL_first h
  rw [e'] at e
  rw [dec_first e] at hc
  cases hc
theorem step_word {k : Int} (h : 1 ≤ k ∧ k ≤ 8) (n : Int) : stepW (n, 0, false, false, 0) (wordL k) = (n, k, false, false, 0) := by
  obtain ⟨c, l, e, hc⟩ := wordL_first h
  have hp : parse 999999999 (wordL k) = (0, false) := by rw [e]; exact parse_letter hc
  have hr : (wordL k == repW) = false ∧ (wordL k == packW) = false := by
    rcases wordL_cases h with ⟨_, e⟩ | ⟨_, e⟩ | ⟨_, e⟩ | ⟨_, e⟩ | ⟨_, e⟩ | ⟨_, e⟩ | ⟨_, e⟩ | ⟨_, e⟩ <;> rw [e] <;> exact ⟨by decide, by decide⟩
  unfold stepW
  simp only [kindTo_word h, hp, hr.1, hr.2]
  simp
theorem step_ref {u : Nat} (hu : u ≤ 999999999) (n k : Int) : stepW (n, k, false, false, 0) (dec u) = (n, k, false, false, (u : Int)) := by
  have hp : parse 999999999 (dec u) = (u, true) := by rw [parse_yes (numOk_dec hu), val_dec]
  have hr : (dec u == repW) = false := by
    refine beq_eq_false_iff_ne.2 fun e => ?_
    have := dec_first e
    exact absurd this (by decide)
  have hq : (dec u == packW) = false := by
    refine beq_eq_false_iff_ne.2 fun e => ?_
    have := dec_first e
    exact absurd this (by decide)
  unfold stepW
  simp only [kindTo_none (fun k h => dec_not_word h) k 8 (Nat.le_refl _), hp, hr, hq]
  simp
theorem step_rep (n k x : Int) (p : Bool) : stepW (n, k, false, p, x) repW = (n, k, true, p, x) := by
  have hk : ∀ k : Int, 1 ≤ k ∧ k ≤ 8 → repW ≠ wordL k := fun k h => by
    rcases wordL_cases h with ⟨_, e⟩ | ⟨_, e⟩ | ⟨_, e⟩ | ⟨_, e⟩ | ⟨_, e⟩ | ⟨_, e⟩ | ⟨_, e⟩ | ⟨_, e⟩ <;> rw [e] <;> decide
  unfold stepW
  simp only [kindTo_none hk k 8 (Nat.le_refl _)]
  rw [show parse 999999999 repW = (0, false) from parse_letter (by decide), show (repW == packW) = false by decide]
  simp
theorem step_pack (n k x : Int) (a : Bool) : stepW (n, k, a, false, x) packW = (n, k, a, true, x) := by
  have hk : ∀ k : Int, 1 ≤ k ∧ k ≤ 8 → packW ≠ wordL k := fun k h => by
    rcases wordL_cases h with ⟨_, e⟩ | ⟨_, e⟩ | ⟨_, e⟩ | ⟨_, e⟩ | ⟨_, e⟩ | ⟨_, e⟩ | ⟨_, e⟩ | ⟨_, e⟩ <;> rw [e] <;> decide
  unfold stepW
  simp only [kindTo_none hk k 8 (Nat.le_refl _)]
  rw [show parse 999999999 packW = (0, false) from parse_letter (by decide), show (packW == repW) = false by decide]
  simp
theorem read_words {f : RF} (h : hasText f) : readW (dec f.1.toNat :: moreW f) = f := by
  obtain ⟨n, k, a, p, x⟩ := f
  obtain ⟨hn, hk, h8, h0⟩ := h
  simp only at hn hk h8 h0
  have hp : parse 999999999 (dec n.toNat) = (n.toNat, true) := by rw [parse_yes (numOk_dec (by omega)), val_dec]
  unfold readW moreW
  simp only [hp]
  rw [show ((n.toNat : Nat) : Int) = n by omega, List.foldl_cons, step_word hk, List.foldl_append]
  have hx : (if k = 8 then [dec x.toNat] else []).foldl stepW (n, k, false, false, 0) = (n, k, false, false, x) := by
    by_cases e : k = 8
    · rw [if_pos e, List.foldl_cons, step_ref (by have := h8 e; omega), List.foldl_nil]
      rw [show ((x.toNat : Nat) : Int) = x by have := h8 e; omega]
    · rw [if_neg e, List.foldl_nil, h0 e]
  rw [hx, List.foldl_append]
  cases a <;> cases p <;> simp [step_rep, step_pack]
/-- Of a field's text the words give the field. -/
theorem read_text {f : RF} (h : hasText f) : readW (partsF 32 (textF f)) = f := by rw [textF_words h]; exact read_words h
/-- Is a string some field's text? Then what its words give has that text; else it has not. -/
theorem read_tells (s : List UInt8) (hs : s ≠ []) : (textF (readW (partsF 32 s)) = s ↔ ∃ f, hasText f ∧ textF f = s) := by
  constructor
  · intro h
    refine ⟨_, Classical.byContradiction fun hn => hs ?_, h⟩
    rw [← h]; unfold textF; rw [if_neg hn]
  · rintro ⟨f, hf, rfl⟩
    rw [read_text hf]
end Go.Proofs.YtcbohfncckpolaaDoor.Num

/-
  What the reference's ReadField takes out of a string (stage 9): of a field's own text it takes the field. Plain facts; no program is named here.
-/
namespace Go.Proofs.YtcbohfncckpolaaDoor.Num
set_option linter.unusedVariables false
/-- The field of a string, where the string is a field's text. -/
def readF (s : List UInt8) : Option RF := if s ≠ [] ∧ s.length ≤ 60 ∧ textF (readW (partsF 32 s)) = s then some (readW (partsF 32 s)) else none
theorem wordL_len {k : Int} (h : 1 ≤ k ∧ k ≤ 8) : (wordL k).length ≤ 5 := by
  rcases wordL_cases h with ⟨_, e⟩ | ⟨_, e⟩ | ⟨_, e⟩ | ⟨_, e⟩ | ⟨_, e⟩ | ⟨_, e⟩ | ⟨_, e⟩ | ⟨_, e⟩ <;> rw [e] <;> decide
theorem textF_len {f : RF} (h : hasText f) : (textF f).length ≤ 60 := by
  obtain ⟨n, k, a, p, x⟩ := f
  unfold textF
  rw [if_pos h]
  obtain ⟨hn, hk, h8, h0⟩ := h
  simp only at hn hk h8 h0
  have h1 := dec_length (u := n.toNat) 9 (by omega) (by omega)
  have h2 := wordL_len hk
  unfold joinF moreW
  by_cases e : k = 8
  · have h3 := dec_length (u := x.toNat) 2 (by omega) (by have := h8 e; omega)
    cases a <;> cases p <;> simp [e, repW, packW] <;> subst e <;> omega
  · cases a <;> cases p <;> simp [e, repW, packW] <;> omega
theorem readF_text {f : RF} (h : hasText f) : readF (textF f) = some f := by
  unfold readF
  rw [read_text h, if_pos ⟨textF_ne h, textF_len h, rfl⟩]
/-- Read: some field, then the string is its text; none, then it is no field's text. -/
theorem readF_some {s : List UInt8} {f : RF} (h : readF s = some f) : hasText f ∧ textF f = s := by
  unfold readF at h
  by_cases hc : s ≠ [] ∧ s.length ≤ 60 ∧ textF (readW (partsF 32 s)) = s
  · rw [if_pos hc] at h
    injection h with h
    subst h
    refine ⟨Classical.byContradiction fun hn => hc.1 ?_, hc.2.2⟩
    rw [← hc.2.2]; unfold textF; rw [if_neg hn]
  · rw [if_neg hc] at h; cases h
theorem readF_none {s : List UInt8} (h : readF s = none) (f : RF) (hf : hasText f) : textF f ≠ s := fun e => by
  rw [← e, readF_text hf] at h; cases h
end Go.Proofs.YtcbohfncckpolaaDoor.Num

/-
  The text of a description as the document gives it (stage 9), as a list of bytes, and that it tells the description. Plain facts; no program is named here.
-/
namespace Go.Proofs.YtcbohfncckpolaaDoor.Num
set_option linter.unusedVariables false
/-- Texts joined at a byte; none of them: the empty text. -/
def joined {α : Type} (b : UInt8) (t : α → List UInt8) : List α → List UInt8
  | [] => []
  | x :: l => joinF b (t x) (l.map t)
theorem mem_joinF {b c : UInt8} {h : List UInt8} {t : List (List UInt8)} (hc : c ∈ joinF b h t) : c ∈ h ∨ c = b ∨ ∃ p ∈ t, c ∈ p := by
  unfold joinF at hc
  rcases List.mem_append.1 hc with hc | hc
  · exact .inl hc
  · obtain ⟨p, hp, hc⟩ := List.mem_flatMap.1 hc
    rcases List.mem_cons.1 hc with hc | hc
    · exact .inr (.inl hc)
    · exact .inr (.inr ⟨p, hp, hc⟩)
theorem mem_joined {α : Type} {b c : UInt8} {t : α → List UInt8} {l : List α} (hc : c ∈ joined b t l) : c = b ∨ ∃ x ∈ l, c ∈ t x := by
  cases l with
  | nil => cases hc
  | cons x l =>
    rcases mem_joinF hc with h | h | ⟨p, hp, h⟩
    · exact .inr ⟨x, List.mem_cons_self, h⟩
    · exact .inl h
    · obtain ⟨y, hy, rfl⟩ := List.mem_map.1 hp
      exact .inr ⟨y, List.mem_cons_of_mem _ hy, h⟩
theorem map_tells {α : Type} {t : α → List UInt8} {P : α → Prop} (hinj : ∀ x y, P x → P y → t x = t y → x = y) : ∀ (l m : List α), (∀ x ∈ l, P x) → (∀ x ∈ m, P x) → l.map t = m.map t → l = m
  | [], [], _, _, _ => rfl
  | [], y :: m, _, _, h => by simp at h
  | x :: l, [], _, _, h => by simp at h
  | x :: l, y :: m, hl, hm, h => by
    simp only [List.map_cons] at h
    injection h with h1 h2
    rw [hinj x y (hl x List.mem_cons_self) (hm y List.mem_cons_self) h1, map_tells hinj l m (fun z hz => hl z (List.mem_cons_of_mem _ hz)) (fun z hz => hm z (List.mem_cons_of_mem _ hz)) h2]
theorem joined_parts {α : Type} {b : UInt8} {t : α → List UInt8} {l : List α} (h0 : l ≠ []) (hno : ∀ x ∈ l, ∀ c ∈ t x, c ≠ b) : partsF b (joined b t l) = l.map t := by
  cases l with
  | nil => exact absurd rfl h0
  | cons x l =>
    refine partsF_join b (l.map t) (t x) fun p hp => ?_
    rcases List.mem_cons.1 hp with rfl | hp
    · exact hno x List.mem_cons_self
    · obtain ⟨y, hy, rfl⟩ := List.mem_map.1 hp
      exact hno y (List.mem_cons_of_mem _ hy)
theorem joined_ne {α : Type} {b : UInt8} {t : α → List UInt8} {l : List α} (h0 : l ≠ []) (hne : ∀ x ∈ l, t x ≠ []) : joined b t l ≠ [] := by
  cases l with
  | nil => exact absurd rfl h0
  | cons x l =>
    have := hne x List.mem_cons_self
    unfold joined joinF
    simp [this]
theorem joined_len {α : Type} {b : UInt8} {t : α → List UInt8} {B : Nat} : ∀ l : List α, (∀ x ∈ l, (t x).length ≤ B) → (joined b t l).length ≤ l.length * (B + 1)
  | [], _ => by simp [joined]
  | [x], h => by
    have := h x List.mem_cons_self
    simp [joined, joinF]; omega
  | x :: y :: l, h => by
    have h1 := h x List.mem_cons_self
    have h2 := joined_len (b := b) (t := t) (y :: l) fun z hz => h z (List.mem_cons_of_mem _ hz)
    have e : joined b t (x :: y :: l) = t x ++ (b :: joined b t (y :: l)) := by simp [joined, joinF]
    rw [e, List.length_append, List.length_cons]
    have h3 : (x :: y :: l).length * (B + 1) = (y :: l).length * (B + 1) + (B + 1) := by rw [List.length_cons, Nat.add_mul, Nat.one_mul]
    omega
theorem joined_tells {α : Type} {b : UInt8} {t : α → List UInt8} {P : α → Prop} (hinj : ∀ x y, P x → P y → t x = t y → x = y) (hno : ∀ x, P x → ∀ c ∈ t x, c ≠ b) (hne : ∀ x, P x → t x ≠ []) {l m : List α} (hl : ∀ x ∈ l, P x) (hm : ∀ x ∈ m, P x) (h : joined b t l = joined b t m) : l = m := by
  by_cases l0 : l = []
  · subst l0
    by_cases m0 : m = []
    · exact m0.symm
    · exact absurd h.symm (joined_ne m0 fun x hx => hne x (hm x hx))
  by_cases m0 : m = []
  · subst m0
    exact absurd h (joined_ne l0 fun x hx => hne x (hl x hx))
  refine map_tells hinj l m hl hm ?_
  rw [← joined_parts l0 fun x hx => hno x (hl x hx), h, joined_parts m0 fun x hx => hno x (hm x hx)]
def fieldsText (l : List RF) : List UInt8 := joined 44 textF l
def msgText (m : RM) : List UInt8 := dec m.1.toNat ++ 58 :: fieldsText m.2
def rawText (r : List RM) : List UInt8 := joined 59 msgText r
/-- Has the message a text that tells it? -/
def msgTold (m : RM) : Prop := (1 ≤ m.1 ∧ m.1 ≤ 99) ∧ ∀ f ∈ m.2, hasText f
theorem textF_bytes {f : RF} (h : hasText f) {c : UInt8} (hc : c ∈ textF f) : c = 32 ∨ wordy c := by
  unfold textF at hc
  rw [if_pos h] at hc
  rcases mem_joinF hc with hc | hc | ⟨p, hp, hc⟩
  · exact .inr (dec_wordy hc)
  · exact .inl hc
  · exact .inr (moreW_wordy h p hp c hc)
theorem wordy_ne {c b : UInt8} (h : wordy c) (hb : ¬ wordy b) : c ≠ b := fun e => hb (e ▸ h)
theorem fieldsText_bytes {l : List RF} (h : ∀ f ∈ l, hasText f) {c : UInt8} (hc : c ∈ fieldsText l) : c = 44 ∨ c = 32 ∨ wordy c := by
  rcases mem_joined hc with h1 | ⟨f, hf, h1⟩
  · exact .inl h1
  · exact .inr (textF_bytes (h f hf) h1)
theorem fieldsText_inj {l m : List RF} (hl : ∀ f ∈ l, hasText f) (hm : ∀ f ∈ m, hasText f) (h : fieldsText l = fieldsText m) : l = m :=
  joined_tells (P := hasText) (fun x y hx _ e => textF_inj hx e) (fun x hx c hc => by
    rcases textF_bytes hx hc with rfl | hw
    · decide
    · exact wordy_ne hw (by decide)) (fun x hx => textF_ne hx) hl hm h
theorem msgText_ne (m : RM) : msgText m ≠ [] := by unfold msgText; simp
theorem msgText_parts {m : RM} (h : msgTold m) : partsF 58 (msgText m) = [dec m.1.toNat, fieldsText m.2] := by
  have e : msgText m = joinF 58 (dec m.1.toNat) [fieldsText m.2] := by simp [msgText, joinF]
  rw [e]
  refine partsF_join 58 _ _ fun p hp c hc => ?_
  rcases List.mem_cons.1 hp with rfl | hp
  · exact wordy_ne (dec_wordy hc) (by decide)
  · obtain rfl := List.mem_singleton.1 hp
    rcases fieldsText_bytes h.2 hc with rfl | rfl | hw
    · decide
    · decide
    · exact wordy_ne hw (by decide)
theorem msgText_inj {m n : RM} (hm : msgTold m) (hn : msgTold n) (h : msgText m = msgText n) : m = n := by
  have hw := msgText_parts hm
  rw [h, msgText_parts hn] at hw
  injection hw with h1 h2
  injection h2 with h2 _
  have := dec_inj h1
  have e1 := hm.1; have e2 := hn.1
  exact Prod.ext (by omega) (fieldsText_inj hm.2 hn.2 h2.symm)
theorem msgText_bytes {m : RM} (h : msgTold m) {c : UInt8} (hc : c ∈ msgText m) : c ≠ 59 := by
  unfold msgText at hc
  rcases List.mem_append.1 hc with hc | hc
  · exact wordy_ne (dec_wordy hc) (by decide)
  rcases List.mem_cons.1 hc with rfl | hc
  · decide
  rcases fieldsText_bytes h.2 hc with rfl | rfl | hw
  · decide
  · decide
  · exact wordy_ne hw (by decide)
/-- The text tells the description. -/
theorem rawText_inj {r s : List RM} (hr : ∀ m ∈ r, msgTold m) (hs : ∀ m ∈ s, msgTold m) (h : rawText r = rawText s) : r = s :=
  joined_tells (P := msgTold) (fun x y hx hy e => msgText_inj hx hy e) (fun x hx c hc => msgText_bytes hx hc) (fun x _ => msgText_ne x) hr hs h
/-- The messages of a description without a violation have texts. -/
theorem AllB.told {r : List RM} (h : AllB r r.length) {m : RM} (hm : m ∈ r) : msgTold m := by
  obtain ⟨k, hk, rfl⟩ := List.getElem_of_mem hm
  have hc := (h k hk hk).1
  rw [msgCode_in hk] at hc
  refine ⟨(msgCode_zero.1 hc).1, fun f hf => ?_⟩
  obtain ⟨j, hj, rfl⟩ := List.getElem_of_mem hf
  have h1 := (h k hk hk).2 j hj
  rw [fieldCode_in hk hj] at h1
  obtain ⟨g1, _, g3, g4, g5, g6⟩ := fieldCode_zero.1 h1
  refine ⟨(of_decide_eq_true g1).1, g3, fun e => ?_, fun e => ?_⟩
  · obtain ⟨q, hq, he⟩ := hasId_true (g5 e)
    have hc := (h q hq hq).1
    rw [msgCode_in hq] at hc
    rw [← he]
    exact (msgCode_zero.1 hc).1
  · exact g6 e
end Go.Proofs.YtcbohfncckpolaaDoor.Num

/-
  The walk of the reference's l9Text and RawText: the text of a description, put together message by message; only new memory is written.
-/
namespace Go.Proofs.YtcbohfncckpolaaDoor.Num
open Go.RowKit Go.Proofs
set_option linter.unusedVariables false
set_option linter.unusedSimpArgs false

theorem textF_le (f : RF) : (textF f).length ≤ 60 := by
  by_cases h : hasText f
  · exact textF_len h
  · rw [textF_no h]; simp
/-- A message's text as the reference puts it together, whatever the Id. -/
def l9M (m : RM) : List UInt8 := intDec m.1 ++ 58 :: fieldsText m.2
def l9R (r : List RM) : List UInt8 := joined 59 l9M r
/-- What stands ahead of the k-th piece. -/
def ahead {α : Type} (b : UInt8) (t : α → List UInt8) (l : List α) (k : Nat) : List UInt8 := if k = 0 then [] else joined b t (l.take k) ++ [b]
theorem joined_take {α : Type} (b : UInt8) (t : α → List UInt8) (l : List α) (k : Nat) (hk : k < l.length) : joined b t (l.take (k + 1)) = ahead b t l k ++ t l[k] := by
  unfold ahead
  rw [List.take_succ_eq_append_getElem hk]
  by_cases h0 : k = 0
  · subst h0
    simp [joined, joinF]
  · rw [if_neg h0]
    cases hl : l.take k with
    | nil =>
      have := congrArg List.length hl
      rw [List.length_take] at this
      simp only [List.length_nil] at this
      omega
    | cons x l' => simp [joined, joinF]
/-- The sizes that this chapter meets: few messages, few fields. -/
def Few (r : List RM) : Prop := r.length ≤ 16 ∧ (∀ m ∈ r, m.2.length ≤ 16) ∧ ∀ m ∈ r, I64 m.1
theorem fields_le {l : List RF} {n : Nat} (h : l.length ≤ n) : (fieldsText l).length ≤ n * 61 := by
  have := joined_len (b := 44) (t := textF) (B := 60) l fun f _ => textF_le f
  unfold fieldsText
  exact Nat.le_trans this (Nat.mul_le_mul_right _ h)
theorem fields_take_le (l : List RF) (k : Nat) (h : l.length ≤ 16) : (joined 44 textF (l.take k)).length ≤ 1000 := by
  have := fields_le (l := l.take k) (n := 16) (by simp; omega)
  unfold fieldsText at this
  omega
theorem l9M_le {m : RM} (h : m.2.length ≤ 16) (hi : I64 m.1) : (l9M m).length ≤ 1000 := by
  have h1 := intDec_len20 hi
  have h2 := fields_le h
  unfold l9M
  simp; omega
theorem l9R_take_le {r : List RM} (h : Few r) (k : Nat) : (joined 59 l9M (r.take k)).length ≤ 17000 := by
  have := joined_len (b := 59) (t := l9M) (B := 1000) (r.take k) fun m hm => l9M_le (h.2.1 m (List.mem_of_mem_take hm)) (h.2.2 m (List.mem_of_mem_take hm))
  have h2 : (r.take k).length * (1000 + 1) ≤ 16 * (1000 + 1) := Nat.mul_le_mul_right _ (by simp; have := h.1; omega)
  omega
theorem ahead_le {α : Type} {b : UInt8} {t : α → List UInt8} {l : List α} {k n : Nat} (h : (joined b t (l.take k)).length ≤ n) : (ahead b t l k).length ≤ n + 1 := by
  unfold ahead
  split
  · simp
  · simp; omega
set_option maxHeartbeats 4000000 in
set_option maxRecDepth 100000 in
theorem specText_any (v : Value) (r : List RM) (w : World) (h : RawAt w (· < w.heap.size) v r) (hr : Few r) :
    Calls Tryd.prog 36 #[v] w fun e w' => e = .returned (.string ⟨(l9R r).toArray⟩) ∧ Below w.heap.size w w' := by
  obtain ⟨u, rfl, hu⟩ := h
  obtain ⟨a, cap, rfl⟩ := hu.len
  have H := Lib.hid hu
  have Hr := Lib.hid hr
  have hr1 := hr.1
  clear hu hr
  have hl1 : Below w.heap.size w (w.alloc (.cells #[.slice a r.length cap] 41)) := (Below.refl _ _).alloc (Nat.le_refl _) _
  have hx1 := Box.fresh w #[.slice a r.length cap] 41
  have HR : Hid (joined 59 l9M r = l9R r) := Lib.hid rfl
  obtain ⟨sR, esR⟩ : ∃ s : ByteArray, s = ⟨(l9R r).toArray⟩ := ⟨_, rfl⟩
  rw [← esR]
  have HsR := Lib.hid esR
  clear esR
  go_enter Tryd.func36, Tryd.ntmps36
  go_wp2_with fail
  go_loopw [3, 4] (fun s x wr => ∃ i : Nat, i ≤ r.length ∧ x = .int .i64 i ∧ s = .string ⟨(joined 59 l9M (r.take i)).toArray⟩ ∧ Hid (Box wr w.heap.size [.slice a r.length cap]) ∧ Below w.heap.size w wr) (fun _ x _ => r.length - (intOf x).toNat)
  case atStart => exact ⟨0, by omega, rfl, rfl, Lib.hid hx1, hl1⟩
  case round =>
    clear hx1 hl1
    obtain ⟨wo, rfl⟩ : ∃ wo : World, wo = wr := ⟨_, rfl⟩
    obtain ⟨i, hi, rfl, rfl, hbx, hl⟩ := hrel
    obtain ⟨s0, _⟩ := hbx.out.one
    obtain ⟨S, eS⟩ : ∃ S : ByteArray, S = ⟨(joined 59 l9M (r.take i)).toArray⟩ := ⟨_, rfl⟩
    rw [← eS]
    by_cases hlt : i < r.length
    · have hlti : (i : Int) < (r.length : Int) := by omega
      obtain ⟨b, o, c, hv, hbS, hcs⟩ := H.out.cells (by omega)
      obtain ⟨rfl, rfl⟩ : a = some ⟨b, o, none⟩ ∧ cap = c := by injection hv with e1 e2 e3; exact ⟨e1, e3⟩
      obtain ⟨fv, m0, m1, hfv⟩ := hcs i hlt
      clear hcs hv
      have hmem : r[i] ∈ r := List.getElem_mem hlt
      have hf16 := Hr.out.2.1 _ hmem
      have hid := Hr.out.2.2 _ hmem
      have hJ := l9R_take_le Hr.out i
      have hA : (ahead 59 l9M r i).length ≤ 17001 := ahead_le hJ
      have HJ : Hid (joined 59 l9M (r.take (i + 1)) = ahead 59 l9M r i ++ l9M r[i]) := Lib.hid (joined_take 59 l9M r i hlt)
      have HI : Hid ((i = 0 → ahead 59 l9M r i = [] ∧ joined 59 l9M (r.take i) = []) ∧ (i ≠ 0 → ahead 59 l9M r i = joined 59 l9M (r.take i) ++ [59])) := Lib.hid ⟨fun e => by subst e; exact ⟨rfl, rfl⟩, fun e => by unfold ahead; rw [if_neg e]⟩
      generalize ahead 59 l9M r i = P at hA HJ HI
      generalize joined 59 l9M (r.take i) = Jt at hJ HI eS
      generalize r[i] = m at m0 m1 hfv hf16 hid HJ
      obtain ⟨id, fs⟩ := m
      simp only at m0 m1 hfv hf16 hid HJ
      obtain ⟨fa, fc, rfl⟩ := hfv.len
      have HF := Lib.hid hfv
      have hdl := intDec_len20 hid
      have HD : Hid (∀ wx, Calls Tryd.prog 29 #[.int .i64 id] wx fun e w' => e = .returned (.string ⟨(intDec id).toArray⟩) ∧ Below wx.heap.size wx w') := Lib.hid fun wx => specDigits_any id wx hid.1 hid.2
      have HJ' : Hid (joined 59 l9M (r.take (i + 1)) = P ++ (intDec id ++ 58 :: joined 44 textF fs)) := Lib.hid HJ.out
      clear hfv HJ
      generalize intDec id = di at hdl HD HJ'
      obtain ⟨S1, eS1⟩ : ∃ S : ByteArray, S = ⟨P.toArray⟩ := ⟨_, rfl⟩
      obtain ⟨sd, esd⟩ : ∃ S : ByteArray, S = ⟨di.toArray⟩ := ⟨_, rfl⟩
      obtain ⟨S2, eS2⟩ : ∃ S : ByteArray, S = ⟨(P ++ di).toArray⟩ := ⟨_, rfl⟩
      obtain ⟨S3, eS3⟩ : ∃ S : ByteArray, S = ⟨(P ++ di ++ [58]).toArray⟩ := ⟨_, rfl⟩
      have a1 : Hid ((i = 0 → S = S1) ∧ (i ≠ 0 → ∀ w, (Op.stringOp .add S ⟨#[59]⟩).run Tryd.prog w = .ok (.string S1) w)) := Lib.hid
        ⟨fun e => by rw [eS, eS1, (HI.out.1 e).1, (HI.out.1 e).2], fun e => sum_run (a := Jt) (b := [59]) eS rfl (by rw [← HI.out.2 e]; exact eS1) (by simp; omega)⟩
      have a2 := sum_run (a := P) (b := di) eS1 esd eS2 (by omega)
      have a3 := sum_run (a := P ++ di) (b := [58]) (B := ⟨#[58]⟩) eS2 rfl eS3 (by simp; omega)
      rw [← esd] at HD
      have HS3 := Lib.hid eS3
      clear eS eS1 eS2 eS3 esd HI
      go_upto_if 14 with fail
      go_cut [3] (fun s3 wx => s3 = .string S1 ∧ Hid (Box wx w.heap.size [.slice (some ⟨b, o, none⟩) r.length cap]) ∧ Below w.heap.size w wx)
      case first =>
        by_cases h0 : i = 0
        · obtain rfl := a1.out.1 h0
          subst h0
          clear a1 a2 a3
          go_wp2_with fail
          go_meet
          exact ⟨rfl, hbx, hl⟩
        · have a1' := a1.out.2 h0
          have hi0 : (0 : Int) < (i : Int) := by omega
          clear a1 a2 a3 h0
          go_wp2_with fail
          go_meet
          exact ⟨rfl, hbx, hl⟩
      case rest =>
        obtain ⟨rfl, hbx2, hl2⟩ := hcut
        clear a1 s0 hbx hl
        obtain ⟨s0, _⟩ := hbx2.out.one
        have hbw : b < wc.heap.size := Nat.lt_of_lt_of_le hbS hl2.size
        have n0 := (hl2.cell (p := ⟨b, _, none⟩) hbS).trans m0
        have n1 := (hl2.cell (p := ⟨b, _, none⟩) hbS).trans m1
        go_wp2_with fail
        refine (HD.out _).mono ?_
        rintro e w4 ⟨rfl, hb4⟩
        have hl4 := hl2.trans (hb4.mono hl2.size)
        have hbx4 := Lib.hid (hbx2.out.below hb4 hbx2.out.lt)
        clear s0 n0 n1 hbw hb4 hl2 hbx2 HD
        have HB : Hid (P ++ di ++ [58] ++ joined 44 textF (fs.take 0) = P ++ di ++ [58]) := Lib.hid (by simp [joined])
        go_wp2_with fail
        go_loopw [3, 5] (fun s y wq => ∃ k : Nat, k ≤ fs.length ∧ y = .int .i64 k ∧ s = .string ⟨(P ++ di ++ [58] ++ joined 44 textF (fs.take k)).toArray⟩ ∧ Hid (Box wq w.heap.size [.slice (some ⟨b, o, none⟩) r.length cap]) ∧ Below w.heap.size w wq) (fun _ y _ => fs.length - (intOf y).toNat)
        case atStart => exact ⟨0, by omega, rfl, by rw [HB.out, HS3.out], hbx4, hl4⟩
        case round =>
          clear hl4 hbx4
          obtain ⟨k, hk, rfl, rfl, hbx5, hl5⟩ := hrel
          obtain ⟨s0, _⟩ := hbx5.out.one
          have hbw : b < wr.heap.size := Nat.lt_of_lt_of_le hbS hl5.size
          have n0 := (hl5.cell (p := ⟨b, _, none⟩) hbS).trans m0
          have n1 := (hl5.cell (p := ⟨b, _, none⟩) hbS).trans m1
          have hK := fields_take_le fs k hf16
          by_cases hkl : k < fs.length
          · have hkli : (k : Int) < (fs.length : Int) := by omega
            obtain ⟨gb, go, gc, gv, gS, gcs⟩ := HF.out.cells (by omega)
            obtain ⟨rfl, rfl⟩ : fa = some ⟨gb, go, none⟩ ∧ fc = gc := by injection gv with e1 e2 e3; exact ⟨e1, e3⟩
            obtain ⟨x0, x1, x2, x3, x4⟩ := gcs k hkl
            have HKt : Hid (joined 44 textF (fs.take (k + 1)) = ahead 44 textF fs k ++ textF fs[k]) := Lib.hid (joined_take 44 textF fs k hkl)
            have HKI : Hid ((k = 0 → ahead 44 textF fs k = [] ∧ joined 44 textF (fs.take k) = []) ∧ (k ≠ 0 → ahead 44 textF fs k = joined 44 textF (fs.take k) ++ [44])) := Lib.hid ⟨fun e => by subst e; exact ⟨rfl, rfl⟩, fun e => by unfold ahead; rw [if_neg e]⟩
            have hKA : (ahead 44 textF fs k).length ≤ 1001 := ahead_le hK
            have htl := textF_le fs[k]
            have HFT := Lib.hid (specFieldText_any fs[k])
            obtain ⟨T0, eT0⟩ : ∃ S : ByteArray, S = ⟨(P ++ di ++ [58] ++ joined 44 textF (fs.take k)).toArray⟩ := ⟨_, rfl⟩
            rw [← eT0]
            generalize ahead 44 textF fs k = Q at HKt HKI hKA
            generalize joined 44 textF (fs.take k) = Jk at HKI hK eT0
            generalize textF fs[k] = tf at HKt htl HFT
            generalize fs[k] = f at x0 x1 x2 x3 x4 HFT
            obtain ⟨A1, A2, A3, A4, A5⟩ := f
            simp only at x0 x1 x2 x3 x4
            unfold fieldV at HFT
            simp only at HFT
            have hgw : gb < wr.heap.size := Nat.lt_of_lt_of_le gS hl5.size
            have y0 := (hl5.cell (p := ⟨gb, _, none⟩) gS).trans x0
            have y1 := (hl5.cell (p := ⟨gb, _, none⟩) gS).trans x1
            have y2 := (hl5.cell (p := ⟨gb, _, none⟩) gS).trans x2
            have y3 := (hl5.cell (p := ⟨gb, _, none⟩) gS).trans x3
            have y4 := (hl5.cell (p := ⟨gb, _, none⟩) gS).trans x4
            obtain ⟨T1, eT1⟩ : ∃ S : ByteArray, S = ⟨(P ++ di ++ [58] ++ Q).toArray⟩ := ⟨_, rfl⟩
            obtain ⟨st, est⟩ : ∃ S : ByteArray, S = ⟨tf.toArray⟩ := ⟨_, rfl⟩
            obtain ⟨T2, eT2⟩ : ∃ S : ByteArray, S = ⟨(P ++ di ++ [58] ++ Q ++ tf).toArray⟩ := ⟨_, rfl⟩
            have hPd : (P ++ di ++ [58]).length ≤ 17100 := by simp; omega
            have b1 : Hid ((k = 0 → T0 = T1) ∧ (k ≠ 0 → ∀ w, (Op.stringOp .add T0 ⟨#[44]⟩).run Tryd.prog w = .ok (.string T1) w)) := Lib.hid
              ⟨fun e => by rw [eT0, eT1, (HKI.out.1 e).1, (HKI.out.1 e).2], fun e => sum_run (a := P ++ di ++ [58] ++ Jk) (b := [44]) eT0 rfl (by rw [List.append_assoc _ Jk, ← HKI.out.2 e]; exact eT1) (by rw [List.length_append]; simp only [List.length_singleton]; omega)⟩
            have b2 := sum_run (a := P ++ di ++ [58] ++ Q) (b := tf) eT1 est eT2 (by rw [List.length_append]; omega)
            have HT2 : Hid (T2 = ⟨(P ++ di ++ [58] ++ joined 44 textF (fs.take (k + 1))).toArray⟩) := Lib.hid (by rw [eT2, HKt.out, List.append_assoc _ Q])
            rw [← est] at HFT
            clear eT0 eT1 eT2 est HKI HKt x0 x1 x2 x3 x4 gcs gv
            by_cases h0 : k = 0
            · obtain rfl := b1.out.1 h0
              have hk0 : decide ((0 : Int) < (k : Int)) = false := decide_eq_false (by omega)
              have hk1 : decide (0 < k) = false := decide_eq_false (by omega)
              clear b1 h0
              go_wp2_with fail
              refine (HFT.out _).mono ?_
              rintro e w6 ⟨rfl, hb6⟩
              have hl6 := hl5.trans (hb6.mono hl5.size)
              have hbx6 := Lib.hid (hbx5.out.below hb6 hbx5.out.lt)
              clear s0 n0 n1 hbw hgw y0 y1 y2 y3 y4 hb6 hl5 hbx5 HFT
              go_wp2_with fail
              go_roundw
              case rel => exact ⟨k + 1, by omega, by go_num, by rw [HT2.out], hbx6, hl6⟩
              case measure => simp [intOf]; omega
            · have b1' := b1.out.2 h0
              have hk0 : (0 : Int) < (k : Int) := by omega
              clear b1 h0
              go_wp2_with fail
              refine (HFT.out _).mono ?_
              rintro e w6 ⟨rfl, hb6⟩
              have hl6 := hl5.trans (hb6.mono hl5.size)
              have hbx6 := Lib.hid (hbx5.out.below hb6 hbx5.out.lt)
              clear s0 n0 n1 hbw hgw y0 y1 y2 y3 y4 hb6 hl5 hbx5 HFT b1'
              go_wp2_with fail
              go_roundw
              case rel => exact ⟨k + 1, by omega, by go_num, by rw [HT2.out], hbx6, hl6⟩
              case measure => simp [intOf]; omega
          · have hge : (fs.length : Int) ≤ (k : Int) := by omega
            have hend : decide (k < fs.length) = false := decide_eq_false hkl
            obtain rfl : k = fs.length := by omega
            obtain ⟨T0, eT0⟩ : ∃ S : ByteArray, S = ⟨(P ++ di ++ [58] ++ joined 44 textF (fs.take fs.length)).toArray⟩ := ⟨_, rfl⟩
            rw [← eT0]
            have HT0 : Hid (T0 = ⟨(joined 59 l9M (r.take (i + 1))).toArray⟩) := Lib.hid (by rw [eT0, HJ'.out, List.take_length]; simp)
            clear eT0
            go_wp2_with fail
            go_roundw
            case rel => exact ⟨i + 1, by omega, by go_num, by rw [HT0.out], hbx5, hl5⟩
            case measure => simp [intOf]; omega
    · have hge : (r.length : Int) ≤ (i : Int) := by omega
      have hend : decide (i < r.length) = false := decide_eq_false hlt
      obtain rfl : i = r.length := by omega
      obtain rfl : S = sR := by rw [eS, List.take_length, HR.out, HsR.out]
      clear eS
      go_wp2_with fail
      go_ret
      exact ⟨rfl, hl⟩
/-- A description without a violation is small, and each of its messages has a text. -/
theorem first_ok {r : List RM} {f : Int × Int × Int} (h : First r f) (h0 : f.1 = 0) : r.length ≤ 6 ∧ AllB r r.length := by
  rcases h with ⟨_, rfl⟩ | ⟨h6, h⟩
  · exact absurd h0 (by decide)
  · rcases h with ⟨ha, _⟩ | ⟨k, hk, _, hm, rfl⟩ | ⟨k, q, hk, _, hm, _, hq, hF, rfl⟩
    · exact ⟨h6, ha⟩
    · exact absurd h0 hm
    · exact absurd h0 hF
theorem AllB.fields8 {r : List RM} (h : AllB r r.length) {m : RM} (hm : m ∈ r) : m.2.length ≤ 8 := by
  obtain ⟨k, hk, rfl⟩ := List.getElem_of_mem hm
  have hc := (h k hk hk).1
  rw [msgCode_in hk] at hc
  exact (msgCode_zero.1 hc).2.2
theorem few_ok {r : List RM} (h6 : r.length ≤ 6) (h : AllB r r.length) : Few r :=
  ⟨by omega, fun m hm => by have := h.fields8 hm; omega, fun m hm => by have := (h.told hm).1; unfold I64; omega⟩
theorem l9M_told {m : RM} (h : msgTold m) : l9M m = msgText m := by
  unfold l9M msgText
  rw [show intDec m.1 = dec m.1.toNat from by
    have := h.1
    rw [show m.1 = (m.1.toNat : Int) by omega, intDec_nat]
    rfl]
theorem l9R_told {r : List RM} (h : ∀ m ∈ r, msgTold m) : l9R r = rawText r := by
  unfold l9R rawText
  cases r with
  | nil => rfl
  | cons m r =>
    unfold joined
    simp only
    rw [l9M_told (h m List.mem_cons_self)]
    congr 1
    exact List.map_congr_left fun x hx => l9M_told (h x (List.mem_cons_of_mem _ hx))
/-- The text of a description: none where it has a violation. -/
def rawT (r : List RM) (f : Int × Int × Int) : List UInt8 := if f.1 = 0 then rawText r else []
/-- The reference's RawText: of a description without a violation its text, else the empty string. -/
theorem specRawText_any (v : Value) (r : List RM) (w : World) (h : RawAt w (· < w.heap.size) v r) (hS : Small r) :
    Calls Tryd.prog 15 #[v] w fun e w' => ∃ f, First r f ∧ e = .returned (.string ⟨(rawT r f).toArray⟩) ∧ Below w.heap.size w w' := by
  obtain ⟨u, rfl, hu⟩ := h
  obtain ⟨a, cap, rfl⟩ := hu.len
  have H := Lib.hid hu
  have HS := Lib.hid hS
  clear hu hS
  have hl1 : Below w.heap.size w (w.alloc (.cells #[.slice a r.length cap] 41)) := (Below.refl _ _).alloc (Nat.le_refl _) _
  have hx1 := Box.fresh w #[.slice a r.length cap] 41
  have Hraw : Hid (∀ wx : World, Below w.heap.size w wx → RawAt wx (· < wx.heap.size) (.agg #[.slice a r.length cap]) r) :=
    Lib.hid fun wx hb => ⟨_, rfl, H.out.keep (below_sees hb) fun b hb' => Nat.lt_of_lt_of_le hb' hb.size⟩
  go_enter Tryd.func15, Tryd.ntmps15
  go_wp2_with fail
  generalize (w.alloc (.cells #[.slice a r.length cap] 41)) = w1 at hl1 hx1 ⊢
  refine (specRawOk_any _ r _ (Hraw.out _ hl1) HS.out).mono ?_
  rintro e w2 ⟨f, hf, rfl, hb2⟩
  have hl2 := hl1.trans (hb2.mono hl1.size)
  obtain ⟨s0, _⟩ := (hx1.below hb2 hx1.lt).one
  have Hf := Lib.hid hf
  clear hf hb2 hl1 hx1
  by_cases h0 : f.1 = 0
  · have hb0 : (f.1 == 0) = true := by rw [beq_iff_eq]; exact h0
    obtain ⟨h6, hA⟩ := first_ok Hf.out h0
    have HT := Lib.hid (specText_any _ r w2 (Hraw.out _ hl2) (few_ok h6 hA))
    have HE : Hid (l9R r = rawT r f) := Lib.hid (by unfold rawT; rw [if_pos h0]; exact l9R_told fun m hm => hA.told hm)
    clear h0 h6 hA
    go_wp2_with fail
    refine HT.out.mono ?_
    rintro e w3 ⟨rfl, hb3⟩
    have hl3 := hl2.trans (hb3.mono hl2.size)
    clear hb3 hl2 HT s0
    go_wp2_with fail
    go_ret
    exact ⟨f, Hf.out, by rw [← HE.out]; rfl, hl3⟩
  · have hb0 : (f.1 == 0) = false := by rw [beq_eq_false_iff_ne]; exact h0
    have HE : Hid (rawT r f = []) := Lib.hid (by unfold rawT; rw [if_neg h0])
    clear h0
    go_wp2_with fail
    go_ret
    exact ⟨f, Hf.out, by rw [HE.out]; rfl, hl2⟩
end Go.Proofs.YtcbohfncckpolaaDoor.Num

/-
  The walks of the program's msgText and RawText: the text of a description without a violation, else the empty string; only new memory is written.
-/
namespace Go.Proofs.YtcbohfncckpolaaDoor.Num
open Go.RowKit Go.Proofs
set_option linter.unusedVariables false
set_option linter.unusedSimpArgs false

theorem rowAll {w w' : World} {B : Nat} {T : TypeId} {sz n : Nat} {v : Value} {xs : List Value} (h : w.ownsRow B T sz v n xs) (hb : Below w.heap.size w w') : w'.ownsRow B T sz v n xs := by
  obtain ⟨l, h5⟩ := h
  refine ⟨l, ?_⟩
  rcases h5 with h5 | ⟨g, cap, cur, e, a, b, c⟩
  · exact .inl h5
  · refine .inr ⟨g, cap, cur, e, a, ?_, c⟩
    rw [hb.block g (Array.getElem?_eq_some_iff.1 b).1]; exact b
/-- A row of strings that is being filled: the first k are the texts of l. -/
def SRow {α : Type} (w : World) (B g n k : Nat) (t : α → List UInt8) (l : List α) : Prop :=
  ∃ xs : List Value, w.ownsRow B 9 1 (.slice (some ⟨g, 0, none⟩) n n) n xs ∧ ∀ j (hj : j < l.length), j < k → xs[j]? = some (.string (bs (t l[j])))
section
variable {α : Type} {w w' : World} {B g n k : Nat} {t : α → List UInt8} {l : List α}
theorem SRow.below (h : SRow w B g n k t l) (hb : Below w.heap.size w w') : SRow w' B g n k t l := by
  obtain ⟨xs, h1, h2⟩ := h
  exact ⟨xs, rowAll h1 hb, h2⟩
theorem SRow.lt (h : SRow w B g n k t l) : B ≤ g ∧ g < w.heap.size := by
  obtain ⟨xs, h1, _⟩ := h
  exact World.ownsRow.lt h1 g rfl
theorem SRow.slot (h : SRow w B g n k t l) (hk : k < n) : ∃ v, w.cell? ⟨g, k, none⟩ = some v ∧ w.frozen? ⟨g, k, none⟩ = false := by
  obtain ⟨xs, h1, _⟩ := h
  have hl : xs.length = n * 1 := h1.1
  refine ⟨xs[k]'(by omega), ?_, World.ownsRow.frozenAt h1 k⟩
  rw [World.ownsRow.cellAt h1 k (by omega), List.getElem?_eq_getElem (by omega)]
theorem SRow.put (h : SRow w B g n k t l) (hk : k < n) (hl : k < l.length) {s : ByteArray} (hs : s = bs (t l[k])) : SRow (w.setCell ⟨g, k, none⟩ (.string s)) B g n (k + 1) t l := by
  obtain ⟨xs, h1, h2⟩ := h
  have hxl : xs.length = n * 1 := h1.1
  refine ⟨xs.set k (.string s), (World.ownsRow.stored h1 k (.string s)).1, fun j hj hjk => ?_⟩
  by_cases e : j = k
  · subst e
    rw [List.getElem?_set_self (by omega), hs]
  · rw [List.getElem?_set_ne (by omega)]
    exact h2 j hj (by omega)
/-- All of it joined. -/
theorem SRow.join (b : UInt8) (h : SRow w B g l.length l.length t l) (hlen : (joined b t l).length ≤ 1048576) (hl : l.length ≤ 1048576) :
    Calls Tryd.prog 26 #[.slice (some ⟨g, 0, none⟩) l.length l.length, .string ⟨#[b]⟩] w fun e w' => e = .returned (.string ⟨(joined b t l).toArray⟩) ∧ Below w.heap.size w w' := by
  have hgl := h.lt
  obtain ⟨xs, h1, h2⟩ := h
  have hxl : xs.length = l.length * 1 := h1.1
  have hJ : Lib.join ((l.map fun x => bs (t x)).map (·.data.toList)) (ByteArray.mk #[b]).data.toList = joined b t l := by
    cases l with
    | nil => rfl
    | cons x l =>
      rw [List.map_cons, List.map_cons]
      show Lib.join _ [b] = _
      rw [joinTail_joinF, bs_data, List.map_map]
      unfold joined
      simp only
      congr 1
  have hc := Tryd.strings_Join g 0 l.length (l.map fun x => bs (t x)) ⟨#[b]⟩ w (fun j x hx => by
    rw [List.getElem?_map] at hx
    obtain ⟨y, hy, rfl⟩ := Option.map_eq_some_iff.1 hx
    obtain ⟨hj, rfl⟩ := List.getElem?_eq_some_iff.1 hy
    rw [Nat.zero_add, World.ownsRow.cellAt h1 j (by omega)]
    exact h2 j hj hj) hgl.2 (by simp; omega) (by simp) (by rw [hJ]; omega)
  rw [hJ, List.length_map] at hc
  exact hc
end
set_option maxHeartbeats 4000000 in
set_option maxRecDepth 100000 in
theorem implMsgText_any (m : RM) (fv : Value) (w : World) (hf : FieldsAt w (· < w.heap.size) fv m.2) (hl16 : m.2.length ≤ 16) (hid : I64 m.1) (hT : Go.Lib.TabIs Tryd.prog w "internal/strconv.uint64pow10" .u64 Go.Lib.pow10Tab) :
    Calls Tryd.prog 39 #[.agg #[.int .i64 m.1, fv]] w fun e w' => e = .returned (.string ⟨(l9M m).toArray⟩) ∧ Below w.heap.size w w' := by
  obtain ⟨i0, hi, hz0, hz1, hz2⟩ := info_partsW info_strW
  obtain ⟨id, fs⟩ := m
  simp only at hf hl16 hid ⊢
  obtain ⟨fa, fc, rfl⟩ := hf.len
  have H := Lib.hid hf
  have HT : Hid (∀ wx, Below w.heap.size w wx → Go.Lib.TabIs Tryd.prog wx "internal/strconv.uint64pow10" .u64 Go.Lib.pow10Tab) := Lib.hid fun wx hb => tabIs_below hT hb
  have hdl := intDec_len20 hid
  have HD : Hid (∀ wx, Below w.heap.size w wx → Calls Tryd.prog 24 #[.int .i64 id] wx fun e w' => e = .returned (.string ⟨(intDec id).toArray⟩) ∧ Below wx.heap.size wx w') := Lib.hid fun wx hb => implDigits_any id wx hid.1 hid.2 (HT.out _ hb)
  have hfl := fields_le hl16
  have HM : Hid (intDec id ++ [58] ++ fieldsText fs = l9M (id, fs)) := Lib.hid (by unfold l9M; simp)
  generalize l9M (id, fs) = M at HM ⊢
  generalize intDec id = di at hdl HD HM
  obtain ⟨sd, esd⟩ : ∃ S : ByteArray, S = ⟨di.toArray⟩ := ⟨_, rfl⟩
  obtain ⟨s1, es1⟩ : ∃ S : ByteArray, S = ⟨(di ++ [58]).toArray⟩ := ⟨_, rfl⟩
  obtain ⟨sj, esj⟩ : ∃ S : ByteArray, S = ⟨(fieldsText fs).toArray⟩ := ⟨_, rfl⟩
  obtain ⟨sM, esM⟩ : ∃ S : ByteArray, S = ⟨M.toArray⟩ := ⟨_, rfl⟩
  have a1 := sum_run (a := di) (b := [58]) (B := ⟨#[58]⟩) esd rfl es1 (by simp <;> omega)
  have a2 := sum_run (a := di ++ [58]) (b := fieldsText fs) (C := sM) es1 esj (by rw [HM.out]; exact esM) (by simp <;> omega)
  have HJ : Hid (∀ (wx : World) (g : Nat), SRow wx (w.heap.size + 1) g fs.length fs.length textF fs → Calls Tryd.prog 26 #[.slice (some ⟨g, 0, none⟩) fs.length fs.length, .string ⟨#[44]⟩] wx fun e w' => e = .returned (.string sj) ∧ Below wx.heap.size wx w') := Lib.hid fun wx g hS => by
    have h := hS.join 44 (by unfold fieldsText at hfl; omega) (by omega)
    rw [esj]
    exact h
  rw [← esd] at HD
  rw [← esM]
  have hl1 : Below w.heap.size w (w.alloc (.cells #[.int .i64 id, .slice fa fs.length fc] 67)) := (Below.refl _ _).alloc (Nat.le_refl _) _
  have hx1 := Box.fresh w #[.int .i64 id, .slice fa fs.length fc] 67
  clear hf hT hid hfl HM esd es1 esj esM
  go_enter Tryd.func39, Tryd.ntmps39
  go_wp2_with (refine wpList_make_full _ rfl _ _ 52 rfl (w.heap.size + 1) 9 i0 _ 1 Tryd.underlying52 hi hz0 hz1 .i64 .i64 _ _ fs.length rfl rfl rfl rfl (by rw [hz2]; omega) (by unfold maxLen; omega) (by simp) ?_; intro w1 hown hgr; have hm1 := Box.grown hgr hx1 (fun k hk => by cases hk); obtain ⟨m0, m1, _⟩ := hm1.two)
  have hl2 : Below w.heap.size w w1 := hl1.grown hgr (by simp) (fun k hk => by cases hk)
  have hrow : SRow w1 (w.heap.size + 1) (w.heap.size + 1) fs.length 0 textF fs := ⟨_, by simpa using hown, fun j hj h0 => by omega⟩
  clear hown hgr hl1 hx1 m0 m1 hi hz0 hz1 hz2
  go_loopw [13] (fun y wr => ∃ k : Nat, k ≤ fs.length ∧ y = .int .i64 k ∧ Hid (SRow wr (w.heap.size + 1) (w.heap.size + 1) fs.length k textF fs) ∧ Hid (Box wr w.heap.size [.int .i64 id, .slice fa fs.length fc]) ∧ Below w.heap.size w wr) (fun y _ => fs.length - (intOf y).toNat)
  case atStart => exact ⟨0, by omega, rfl, Lib.hid hrow, Lib.hid hm1, hl2⟩
  case round =>
    clear hrow hm1 hl2
    obtain ⟨k, hk, rfl, hrow, hbx, hl⟩ := hrel
    have hzr := hrow.out.lt
    by_cases hkl : k < fs.length
    · have hkli : (k : Int) < (fs.length : Int) := by omega
      obtain ⟨gb, go, gc, gv, gS, gcs⟩ := H.out.cells (by omega)
      obtain ⟨rfl, rfl⟩ : fa = some ⟨gb, go, none⟩ ∧ fc = gc := by injection gv with e1 e2 e3; exact ⟨e1, e3⟩
      obtain ⟨x0, x1, x2, x3, x4⟩ := gcs k hkl
      have HFT : Hid (∀ wx, Below w.heap.size w wx → Calls Tryd.prog 9 #[fieldV fs[k]] wx fun e w' => e = .returned (.string (bs (textF fs[k]))) ∧ Below wx.heap.size wx w') := Lib.hid fun wx hb => implFieldText_any fs[k] wx (HT.out _ hb)
      obtain ⟨st, est⟩ : ∃ s, s = bs (textF fs[k]) := ⟨_, rfl⟩
      have Hst := Lib.hid est
      rw [← est] at HFT
      clear est
      have hgw : gb < wr.heap.size := Nat.lt_of_lt_of_le gS hl.size
      rw [← hl.cell (p := ⟨gb, _, none⟩) gS] at x0 x1 x2 x3 x4
      have Hput : Hid (∀ wx, SRow wx (w.heap.size + 1) (w.heap.size + 1) fs.length k textF fs → SRow (wx.setCell ⟨w.heap.size + 1, k, none⟩ (.string st)) (w.heap.size + 1) (w.heap.size + 1) fs.length (k + 1) textF fs) := Lib.hid fun wx hs => hs.put hkl hkl Hst.out
      clear Hst
      generalize fs[k] = f at x0 x1 x2 x3 x4 HFT
      obtain ⟨A1, A2, A3, A4, A5⟩ := f
      simp only at x0 x1 x2 x3 x4
      unfold fieldV at HFT
      simp only at HFT
      clear gcs gv
      have hbf := Box.fresh wr #[.int .i64 A1, .int .i64 A2, .bool A3, .bool A4, .int .i64 A5] 25
      have hl5 : Below w.heap.size w (wr.alloc (.cells #[.int .i64 A1, .int .i64 A2, .bool A3, .bool A4, .int .i64 A5] 25)) := hl.alloc hl.size _
      have hrow5 := Lib.hid (hrow.out.below ((Below.refl _ _).alloc (Nat.le_refl _) (.cells #[.int .i64 A1, .int .i64 A2, .bool A3, .bool A4, .int .i64 A5] 25)))
      have hbx5 := Lib.hid (hbx.out.alloc (.cells #[.int .i64 A1, .int .i64 A2, .bool A3, .bool A4, .int .i64 A5] 25))
      clear hrow hbx
      go_upto_region 5 with fail
      generalize (wr.alloc (.cells #[.int .i64 A1, .int .i64 A2, .bool A3, .bool A4, .int .i64 A5] 25)) = w5 at hbf hl5 hrow5 hbx5 ⊢
      obtain ⟨y0, y1, y2, y3, y4⟩ := Box.five' hbf
      go_wp2_with fail
      refine (HFT.out _ hl5).mono ?_
      rintro e w6 ⟨rfl, hb6⟩
      have hl6 := hl5.trans (hb6.mono hl5.size)
      have hrow6 := Lib.hid (hrow5.out.below hb6)
      have hbx6 := Lib.hid (hbx5.out.below hb6 hbx5.out.lt)
      clear hb6 hrow5 hbx5 hl5 HFT hbf y0 y1 y2 y3 y4 x0 x1 x2 x3 x4
      obtain ⟨sv, sc, sf⟩ := hrow6.out.slot hkl
      go_wp2_with fail
      go_roundw
      case rel => exact ⟨k + 1, by omega, by go_num, Lib.hid (Hput.out _ hrow6.out), Lib.hid (hbx6.out.other (by simp) _), hl6.setCell (by simp) _⟩
      case measure => simp [intOf]; omega
    · have hge : (fs.length : Int) ≤ (k : Int) := by omega
      have hend : decide (k < fs.length) = false := decide_eq_false hkl
      obtain rfl : k = fs.length := by omega
      obtain ⟨c0, c1, _⟩ := hbx.out.two
      go_wp2_with fail
      refine (HD.out _ hl).mono ?_
      rintro e w6 ⟨rfl, hb6⟩
      have hl6 := hl.trans (hb6.mono hl.size)
      have hrow6 := Lib.hid (hrow.out.below hb6)
      clear hb6 hrow hbx hl HD c0 c1
      go_wp2_with fail
      refine (HJ.out _ _ hrow6.out).mono ?_
      rintro e w7 ⟨rfl, hb7⟩
      have hl7 := hl6.trans (hb7.mono hl6.size)
      clear hb7 hrow6 hl6 HJ
      go_wp2_with fail
      go_ret
      exact ⟨rfl, hl7⟩
set_option maxHeartbeats 4000000 in
set_option maxRecDepth 100000 in
/-- The program's RawText: of a description without a violation its text, else the empty string. -/
theorem implRawText_any (v : Value) (r : List RM) (w : World) (h : RawAt w (· < w.heap.size) v r) (hS : Small r) (hT : Go.Lib.TabIs Tryd.prog w "internal/strconv.uint64pow10" .u64 Go.Lib.pow10Tab) :
    Calls Tryd.prog 17 #[v] w fun e w' => ∃ f, First r f ∧ e = .returned (.string ⟨(rawT r f).toArray⟩) ∧ Below w.heap.size w w' := by
  obtain ⟨i0, hi, hz0, hz1, hz2⟩ := info_partsW info_strW
  obtain ⟨u, rfl, hu⟩ := h
  obtain ⟨a, cap, rfl⟩ := hu.len
  have H := Lib.hid hu
  have HS := Lib.hid hS
  have HT : Hid (∀ wx, Below w.heap.size w wx → Go.Lib.TabIs Tryd.prog wx "internal/strconv.uint64pow10" .u64 Go.Lib.pow10Tab) := Lib.hid fun wx hb => tabIs_below hT hb
  clear hu hS hT
  have hl1 : Below w.heap.size w (w.alloc (.cells #[.slice a r.length cap] 41)) := (Below.refl _ _).alloc (Nat.le_refl _) _
  have hx1 := Box.fresh w #[.slice a r.length cap] 41
  have Hraw : Hid (∀ wx : World, Below w.heap.size w wx → RawAt wx (· < wx.heap.size) (.agg #[.slice a r.length cap]) r) :=
    Lib.hid fun wx hb => ⟨_, rfl, H.out.keep (below_sees hb) fun b hb' => Nat.lt_of_lt_of_le hb' hb.size⟩
  go_enter Tryd.func17, Tryd.ntmps17
  go_wp2_with fail
  generalize (w.alloc (.cells #[.slice a r.length cap] 41)) = w1 at hl1 hx1 ⊢
  refine (implRawOk_any _ r _ (Hraw.out _ hl1) HS.out).mono ?_
  rintro e w2 ⟨f, hf, rfl, hb2⟩
  have hl2 := hl1.trans (hb2.mono hl1.size)
  have hx2 := hx1.below hb2 hx1.lt
  have hz12 : w.heap.size < w2.heap.size := hx2.lt
  have Hf := Lib.hid hf
  clear hf hb2 hl1 hx1
  by_cases h0 : f.1 = 0
  · have hb0 : (f.1 == 0) = true := by rw [beq_iff_eq]; exact h0
    obtain ⟨h6, hA⟩ := first_ok Hf.out h0
    have HF := Lib.hid (few_ok h6 hA)
    have HE : Hid (l9R r = rawT r f) := Lib.hid (by unfold rawT; rw [if_pos h0]; exact l9R_told fun m hm => hA.told hm)
    have hlen := l9R_take_le HF.out r.length
    rw [List.take_length] at hlen
    have HJ : Hid (∀ (wx : World) (B g : Nat), SRow wx B g r.length r.length l9M r → Calls Tryd.prog 26 #[.slice (some ⟨g, 0, none⟩) r.length r.length, .string ⟨#[59]⟩] wx fun e w' => e = .returned (.string ⟨(rawT r f).toArray⟩) ∧ Below wx.heap.size wx w') := Lib.hid fun wx B g hS => by
      have h := hS.join 59 (by omega) (by omega)
      rw [← HE.out]
      exact h
    obtain ⟨T, hTe⟩ : ∃ T, rawT r f = T := ⟨_, rfl⟩
    rw [hTe] at HJ
    have HTe := Lib.hid hTe
    clear h0 hA hlen HE hTe
    obtain ⟨s0, _⟩ := hx2.one
    go_wp2_with (refine wpList_make_full _ rfl _ _ 52 rfl w2.heap.size 9 i0 _ 1 Tryd.underlying52 hi hz0 hz1 .i64 .i64 _ _ r.length rfl rfl rfl rfl (by rw [hz2]; omega) (by unfold maxLen; omega) (by simp) ?_; intro w3 hown hgr; have hm3 := Box.grown hgr hx2 (fun k hk => by cases hk); obtain ⟨m0, _⟩ := hm3.one)
    have hl3 : Below w.heap.size w w3 := hl2.grown hgr (by simpa using hl2.size) (fun k hk => by cases hk)
    have hrow : SRow w3 w2.heap.size w2.heap.size r.length 0 l9M r := ⟨_, by simpa using hown, fun j hj h0 => by omega⟩
    clear hown hgr hl2 hx2 s0 hi hz0 hz1 hz2
    go_loopw [16] (fun y wr => ∃ k : Nat, k ≤ r.length ∧ y = .int .i64 k ∧ Hid (SRow wr w2.heap.size w2.heap.size r.length k l9M r) ∧ Below w.heap.size w wr) (fun y _ => r.length - (intOf y).toNat)
    case atStart => exact ⟨0, by omega, rfl, Lib.hid hrow, hl3⟩
    case round =>
      clear hrow hm3 hl3 m0
      obtain ⟨k, hk, rfl, hrow, hl⟩ := hrel
      have hzr := hrow.out.lt
      by_cases hkl : k < r.length
      · have hkli : (k : Int) < (r.length : Int) := by omega
        obtain ⟨b, o, c, hv, hbS, hcs⟩ := H.out.cells (by omega)
        obtain ⟨rfl, rfl⟩ : a = some ⟨b, o, none⟩ ∧ cap = c := by injection hv with e1 e2 e3; exact ⟨e1, e3⟩
        obtain ⟨fv, q0, q1, hfv⟩ := hcs k hkl
        clear hcs hv
        have hmem : r[k] ∈ r := List.getElem_mem hkl
        have hf16 := HF.out.2.1 _ hmem
        have hid := HF.out.2.2 _ hmem
        have HMT : Hid (∀ wx, Below w.heap.size w wx → Calls Tryd.prog 39 #[.agg #[.int .i64 r[k].1, fv]] wx fun e w' => e = .returned (.string (bs (l9M r[k]))) ∧ Below wx.heap.size wx w') := Lib.hid fun wx hb =>
          implMsgText_any r[k] fv wx (hfv.keep (below_sees hb) fun b hb' => Nat.lt_of_lt_of_le hb' hb.size) hf16 hid (HT.out _ hb)
        obtain ⟨st, est⟩ : ∃ s, s = bs (l9M r[k]) := ⟨_, rfl⟩
        have Hput : Hid (∀ wx, SRow wx w2.heap.size w2.heap.size r.length k l9M r → SRow (wx.setCell ⟨w2.heap.size, k, none⟩ (.string st)) w2.heap.size w2.heap.size r.length (k + 1) l9M r) := Lib.hid fun wx hs => hs.put hkl hkl est
        rw [← est] at HMT
        obtain ⟨fa, fc, rfl⟩ := hfv.len
        rw [← hl.cell (p := ⟨b, _, none⟩) hbS] at q0 q1
        have hbw : b < wr.heap.size := Nat.lt_of_lt_of_le hbS hl.size
        generalize r[k].1 = id at q0 HMT
        generalize r[k].2.length = nf at q1 HMT
        clear est hmem hf16 hid hfv
        have hbf := Box.fresh wr #[.int .i64 id, .slice fa nf fc] 67
        have hl5 : Below w.heap.size w (wr.alloc (.cells #[.int .i64 id, .slice fa nf fc] 67)) := hl.alloc hl.size _
        have hrow5 := Lib.hid (hrow.out.below ((Below.refl _ _).alloc (Nat.le_refl _) (.cells #[.int .i64 id, .slice fa nf fc] 67)))
        clear hrow
        go_upto_region 7 with fail
        generalize (wr.alloc (.cells #[.int .i64 id, .slice fa nf fc] 67)) = w5 at hbf hl5 hrow5 ⊢
        obtain ⟨y0, y1, _⟩ := hbf.two
        go_wp2_with fail
        refine (HMT.out _ hl5).mono ?_
        rintro e w6 ⟨rfl, hb6⟩
        have hl6 := hl5.trans (hb6.mono hl5.size)
        have hrow6 := Lib.hid (hrow5.out.below hb6)
        clear hb6 hrow5 hl5 HMT hbf y0 y1 q0 q1
        obtain ⟨sv, sc, sf⟩ := hrow6.out.slot hkl
        go_wp2_with fail
        go_roundw
        case rel => exact ⟨k + 1, by omega, by go_num, Lib.hid (Hput.out _ hrow6.out), hl6.setCell (by simp; omega) _⟩
        case measure => simp [intOf]; omega
      · have hge : (r.length : Int) ≤ (k : Int) := by omega
        have hend : decide (k < r.length) = false := decide_eq_false hkl
        obtain rfl : k = r.length := by omega
        go_wp2_with fail
        refine (HJ.out _ _ _ hrow.out).mono ?_
        rintro e w7 ⟨rfl, hb7⟩
        have hl7 := hl.trans (hb7.mono hl.size)
        clear hb7 hrow hl HJ
        go_wp2_with fail
        go_ret
        exact ⟨f, Hf.out, by rw [HTe.out]; rfl, hl7⟩
  · have hb0 : (f.1 == 0) = false := by rw [beq_eq_false_iff_ne]; exact h0
    have HE : Hid (rawT r f = []) := Lib.hid (by unfold rawT; rw [if_neg h0])
    clear h0
    go_wp2_with fail
    go_ret
    exact ⟨f, Hf.out, by rw [HE.out]; rfl, hl2⟩
end Go.Proofs.YtcbohfncckpolaaDoor.Num
