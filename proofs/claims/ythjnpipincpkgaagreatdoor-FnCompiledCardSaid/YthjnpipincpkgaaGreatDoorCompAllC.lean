/-
  Several texts in one: CompFacts CompBack CompRight CompOk CompSeen MapI OrderI SortI FieldsFromI CompSort ShpLay CompileI.
-/
import Derived.Test.YthjnpipincpkgaaGreatDoorCompMath
import Derived.Test.YthjnpipincpkgaaGreatDoorRawFrom
import Derived.Test.YthjnpipincpkgaaGreatDoorCodes
import Derived.Test.YthjnpipincpkgaaGreatDoorFirst
import Derived.Test.YthjnpipincpkgaaGreatDoorShape
import Derived.Test.YthjnpipincpkgaaGreatDoorZone
import Derived.Maps.RangeWalk
import Derived.WalkLawsBesides
import Derived.Test.YthjnpipincpkgaaGreatDoorPushWith
import Derived.Deep.LoopGhost
import Derived.Test.YthjnpipincpkgaaGreatDoorShelf
import Derived.Test.YthjnpipincpkgaaGreatDoorShapeImpl
import Derived.Test.YthjnpipincpkgaaGreatDoorRound
import Derived.Deep.RegionHeld3
import Derived.Deep.DeepCutAuto
import Derived.Test.YthjnpipincpkgaaGreatDoorSetMsg
import Derived.Test.YthjnpipincpkgaaGreatDoorFirstImpl
import Derived.Test.YthjnpipincpkgaaGreatDoorCompOwn

/-
  Facts on compiling by plain lists: ranks of Ids that differ, where a message's shape lies, fields in order. For any program.
-/
namespace Go.Proofs.YthjnpipincpkgaaGreatDoor.Num
set_option linter.unusedVariables false
set_option linter.unusedSimpArgs false

theorem rank_cons (m : RM) (r : List RM) (a : Int) : rankR (m :: r) a = (if m.1 < a then 1 else 0) + rankR r a := by
  unfold rankR
  by_cases h : m.1 < a
  · rw [List.filter_cons_of_pos (by simpa using h), List.length_cons, if_pos h]; omega
  · rw [List.filter_cons_of_neg (by simpa using h), if_neg h]; omega
theorem rank_mono : ∀ (r : List RM) {a b : Int}, a ≤ b → rankR r a ≤ rankR r b
  | [], _, _, _ => by simp [rankR]
  | m :: r, a, b, h => by
    have ih := rank_mono r h
    rw [rank_cons, rank_cons]
    split <;> split <;> omega
theorem rank_strict : ∀ (r : List RM) {a b : Int}, a < b → (∃ m ∈ r, m.1 = a) → rankR r a < rankR r b
  | [], _, _, _, ⟨m, hm, _⟩ => by simp at hm
  | m :: r, a, b, h, ⟨x, hx, he⟩ => by
    rw [rank_cons, rank_cons]
    rcases List.mem_cons.1 hx with rfl | hx
    · have := rank_mono r (Int.le_of_lt h)
      rw [if_neg (by omega), if_pos (by omega)]; omega
    · have ih := rank_strict r h ⟨x, hx, he⟩
      split <;> split <;> omega
theorem rank_inj {r : List RM} {a b : Int} (ha : ∃ m ∈ r, m.1 = a) (hb : ∃ m ∈ r, m.1 = b) (h : rankR r a = rankR r b) : a = b := by
  rcases Int.lt_trichotomy a b with h1 | h1 | h1
  · have := rank_strict r h1 ha; omega
  · exact h1
  · have := rank_strict r h1 hb; omega
theorem fold_other {r : List RM} : ∀ (l acc : List RM) (p : Nat), (∀ x ∈ l, rankR r x.1 ≠ p) → (l.foldl (compStep r) acc)[p]? = acc[p]?
  | [], _, _, _ => rfl
  | x :: l, acc, p, h => by
    rw [List.foldl_cons, fold_other l _ p fun y hy => h y (List.mem_cons_of_mem _ hy)]
    unfold compStep
    rw [List.getElem?_set_ne (h x List.mem_cons_self)]
theorem fold_at {r : List RM} : ∀ (l acc : List RM), (∀ x ∈ l, x ∈ r) → (l.Pairwise fun m n => m.1 ≠ n.1) → ∀ x ∈ l, rankR r x.1 < acc.length → (l.foldl (compStep r) acc)[rankR r x.1]? = some (x.1, compFs r x.2)
  | [], _, _, _, x, hx, _ => by simp at hx
  | y :: l, acc, hr, hp, x, hx, hlt => by
    rw [List.foldl_cons]
    rw [List.pairwise_cons] at hp
    rcases List.mem_cons.1 hx with rfl | hx
    · rw [fold_other l _ _ fun z hz e => hp.1 z hz (rank_inj ⟨x, hr x List.mem_cons_self, rfl⟩ ⟨z, hr z (List.mem_cons_of_mem _ hz), rfl⟩ e.symm)]
      unfold compStep
      rw [List.getElem?_set_self hlt]
    · exact fold_at l _ (fun z hz => hr z (List.mem_cons_of_mem _ hz)) hp.2 x hx (by simpa [compStep] using hlt)
/-- Where a message's shape lies. -/
theorem compileR_at {r : List RM} (hp : r.Pairwise fun m n => m.1 ≠ n.1) {x : RM} (hx : x ∈ r) : (compileR r)[rankR r x.1]? = some (x.1, compFs r x.2) := by
  obtain ⟨k, hk, rfl⟩ := List.getElem_of_mem hx
  exact fold_at r _ (fun _ h => h) hp _ (List.getElem_mem hk) (by rw [List.length_replicate]; exact rank_lt hk)
theorem nodup_bound : ∀ (n : Nat) (l : List Nat), l.Nodup → (∀ x ∈ l, x < n) → l.length ≤ n
  | 0, l, _, h => by
    cases l with
    | nil => simp
    | cons a l => exact absurd (h a List.mem_cons_self) (by omega)
  | n + 1, l, hn, h => by
    have ih := nodup_bound n (l.erase n) (hn.erase n) fun x hx => by
      have h1 := h x (List.mem_of_mem_erase hx)
      have h2 := (hn.mem_erase_iff.1 hx).1
      omega
    rw [List.length_erase] at ih
    split at ih <;> omega
/-- Each place is some message's. -/
theorem rank_onto {r : List RM} (hp : r.Pairwise fun m n => m.1 ≠ n.1) (p : Nat) (h : p < r.length) : ∃ x ∈ r, rankR r x.1 = p := by
  by_cases hc : ∃ x ∈ r, rankR r x.1 = p
  · exact hc
  · exfalso
    have hnd : (r.map fun x => rankR r x.1).Nodup := by
      rw [List.nodup_iff_pairwise_ne, List.pairwise_map]
      refine List.Pairwise.imp_of_mem ?_ hp
      intro a b ha hb hab e
      exact hab (rank_inj ⟨a, ha, rfl⟩ ⟨b, hb, rfl⟩ e)
    have hb := nodup_bound r.length (p :: r.map fun x => rankR r x.1) (List.nodup_cons.2 ⟨fun hm => by
      obtain ⟨x, hx, e⟩ := List.mem_map.1 hm
      exact hc ⟨x, hx, e⟩, hnd⟩) fun q hq => by
      rcases List.mem_cons.1 hq with rfl | hq
      · exact h
      · obtain ⟨x, hx, rfl⟩ := List.mem_map.1 hq
        obtain ⟨k, hk, rfl⟩ := List.getElem_of_mem hx
        exact rank_lt hk
    rw [List.length_cons, List.length_map] at hb
    omega
end Go.Proofs.YthjnpipincpkgaaGreatDoor.Num

/-
  Facts on compiling by plain lists: what RawFrom gives of a valid schema compiles to that schema. For any program.
-/
namespace Go.Proofs.YthjnpipincpkgaaGreatDoor.Num
set_option linter.unusedVariables false
set_option linter.unusedSimpArgs false

/-- A field that is greater than all goes to the end. -/
theorem putR_end : ∀ (l : List RF) (f : RF), (∀ g ∈ l, g.1 < f.1) → putR l f = l ++ [f]
  | [], f, _ => rfl
  | g :: l, f, h => by
    have hg := h g List.mem_cons_self
    have ih := putR_end l f fun x hx => h x (List.mem_cons_of_mem _ hx)
    unfold putR at ih ⊢
    rw [List.takeWhile_cons_of_pos (by simpa using hg), List.dropWhile_cons_of_pos (by simpa using hg), List.cons_append, ih, List.cons_append]
theorem foldPut_asc (r : List RM) : ∀ (l acc : List RF), (∀ g ∈ acc, ∀ f ∈ l, g.1 < f.1) → (l.Pairwise fun f g => f.1 < g.1) → l.foldl (fun acc f => putR acc (compF r f)) acc = acc ++ l.map (compF r)
  | [], acc, _, _ => by simp
  | f :: l, acc, h, hp => by
    rw [List.pairwise_cons] at hp
    rw [List.foldl_cons, putR_end acc (compF r f) (fun g hg => h g hg f List.mem_cons_self), foldPut_asc r l _ (fun g hg x hx => by
      rcases List.mem_append.1 hg with hg | hg
      · exact h g hg x (List.mem_cons_of_mem _ hx)
      · obtain rfl := List.mem_singleton.1 hg; exact hp.1 x hx) hp.2]
    simp
theorem compFs_asc (r : List RM) (l : List RF) (hp : l.Pairwise fun f g => f.1 < g.1) : compFs r l = l.map (compF r) := by
  unfold compFs
  rw [foldPut_asc r l [] (fun g hg => by simp at hg) hp, List.nil_append]
theorem rank_zero : ∀ (r : List RM) (a : Int), (∀ m ∈ r, ¬ m.1 < a) → rankR r a = 0
  | [], _, _ => rfl
  | m :: r, a, h => by rw [rank_cons, if_neg (h m List.mem_cons_self), rank_zero r a fun x hx => h x (List.mem_cons_of_mem _ hx)]
/-- The rank in a list in order is the place. -/
theorem rank_asc : ∀ (r : List RM), (r.Pairwise fun m n => m.1 < n.1) → ∀ k (hk : k < r.length), rankR r r[k].1 = k
  | [], _, k, hk => by simp at hk
  | m :: r, hp, 0, _ => by
    rw [List.pairwise_cons] at hp
    refine rank_zero _ _ fun x hx => ?_
    rcases List.mem_cons.1 hx with rfl | hx
    · simp
    · have := hp.1 x hx; simp only [List.getElem_cons_zero]; omega
  | m :: r, hp, k + 1, hk => by
    rw [List.pairwise_cons] at hp
    have hk' : k < r.length := by simpa using hk
    have := hp.1 r[k] (List.getElem_mem hk')
    rw [List.getElem_cons_succ, rank_cons, if_pos this, rank_asc r hp.2 k hk', Nat.add_comm]
theorem compileR_asc {r : List RM} (hp : r.Pairwise fun m n => m.1 < n.1) (hf : ∀ m ∈ r, m.2.Pairwise fun f g => f.1 < g.1) : compileR r = r.map fun m => (m.1, m.2.map (compF r)) := by
  refine List.ext_getElem? fun k => ?_
  by_cases hk : k < r.length
  · have h1 := compileR_at (hp.imp fun h => by omega) (List.getElem_mem hk)
    rw [rank_asc r hp k hk] at h1
    rw [h1, List.getElem?_map, List.getElem?_eq_getElem hk, compFs_asc r _ (hf _ (List.getElem_mem hk))]
    rfl
  · rw [List.getElem?_eq_none (by rw [compileR_len]; omega), List.getElem?_eq_none (by rw [List.length_map]; omega)]
theorem asc_of {α : Type} (g : α → Int) : ∀ (l : List α), (∀ k (hk : k + 1 < l.length), g l[k] < g l[k + 1]) → l.Pairwise fun a b => g a < g b
  | [], _ => .nil
  | [a], _ => by simp
  | a :: b :: l, h => by
    have ih := asc_of g (b :: l) fun k hk => by have := h (k + 1) (by simpa using hk); simpa using this
    have h0 : g a < g b := h 0 (by simp)
    rw [List.pairwise_cons] at ih ⊢
    refine ⟨fun x hx => ?_, List.pairwise_cons.2 ih⟩
    rcases List.mem_cons.1 hx with rfl | hx
    · exact h0
    · exact Int.lt_trans h0 (ih.1 x hx)
theorem SchemaP.ids {s : List RM} (h : SchemaP s) : s.Pairwise fun m n => m.1 < n.1 :=
  asc_of (fun m : RM => m.1) s fun k hk => (h.2 (k + 1) hk).2.1 k (by omega) rfl
theorem SchemaP.fields {s : List RM} (h : SchemaP s) {m : RM} (hm : m ∈ s) : m.2.Pairwise fun f g => f.1 < g.1 := by
  obtain ⟨i, hi, rfl⟩ := List.getElem_of_mem hm
  exact asc_of (fun f : RF => f.1) _ fun k hk => ((h.2 i hi).2.2.2 (k + 1) hk).2 k (by omega) rfl
theorem rank_back (s : List RM) : ∀ (l : List RM) (a : Int), rankR (l.map (backM s)) a = rankR l a
  | [], _ => rfl
  | m :: l, a => by rw [List.map_cons, rank_cons, rank_cons, rank_back s l a]; rfl
/-- A field is given back. -/
theorem comp_back {s : List RM} (h : SchemaP s) {f : RF} (hf : fieldOkB s.length f = true) : compF (s.map (backM s)) (backF s f) = f := by
  obtain ⟨a, b, c, d, e⟩ := f
  unfold fieldOkB at hf
  unfold compF backF
  simp only at hf ⊢
  split at hf
  · cases hf
  · split at hf
    · cases hf
    · split at hf
      · cases hf
      · split at hf
        · rename_i h8
          have he : 0 ≤ e ∧ e ≤ (s.length : Int) - 1 := of_decide_eq_true hf
          obtain ⟨n, rfl⟩ := Int.eq_ofNat_of_zero_le he.1
          have hn : n < s.length := by omega
          rw [if_pos h8, if_pos h8, rank_back, Int.toNat_natCast, List.getD_eq_getElem?_getD, List.getElem?_eq_getElem hn, Option.getD_some, rank_asc s h.ids n hn]
        · rename_i h8
          have he : e = -1 := by simpa using hf
          rw [if_neg h8, he]
/-- Compiling what RawFrom gives of a valid schema gives the schema. -/
theorem compile_back {s : List RM} (h : SchemaP s) : compileR (rawFromR s) = s := by
  unfold rawFromR
  rw [if_pos (schema_yes h)]
  rw [compileR_asc (by rw [List.pairwise_map]; exact h.ids) fun m hm => by
    obtain ⟨x, hx, rfl⟩ := List.mem_map.1 hm
    show (x.2.map (backF s)).Pairwise fun f g => f.1 < g.1
    rw [List.pairwise_map]
    exact h.fields hx]
  rw [List.map_map]
  refine (List.map_congr_left fun m hm => ?_).trans (List.map_id s)
  obtain ⟨i, hi, rfl⟩ := List.getElem_of_mem hm
  show (s[i].1, (s[i].2.map (backF s)).map (compF (s.map (backM s)))) = s[i]
  rw [List.map_map]
  have : s[i].2.map (compF (s.map (backM s)) ∘ backF s) = s[i].2 :=
    (List.map_congr_left fun f hf => by
      obtain ⟨k, hk, rfl⟩ := List.getElem_of_mem hf
      exact comp_back h ((h.2 i hi).2.2.2 k hk).1).trans (List.map_id _)
  rw [this]
end Go.Proofs.YthjnpipincpkgaaGreatDoor.Num

/-
  Facts on compiling by plain lists: what RawFrom gives of a valid schema has no violation; what is compiled of a description without a violation is a valid schema. For any program.
-/
namespace Go.Proofs.YthjnpipincpkgaaGreatDoor.Num
set_option linter.unusedVariables false
set_option linter.unusedSimpArgs false

theorem asc_get {α : Type} {g : α → Int} {l : List α} (h : l.Pairwise fun a b => g a < g b) {i j : Nat} (hj : j < l.length) (hij : i < j) : g l[i] < g l[j] :=
  List.pairwise_iff_getElem.1 h i j (by omega) hj hij
theorem fieldOk_of {n : Nat} {f : RF} (h : fieldOkB n f = true) : numOkB f.1 = true ∧ (1 ≤ f.2.1 ∧ f.2.1 ≤ 8) ∧ ¬ (f.2.2.2.1 = true ∧ (f.2.2.1 = false ∨ numericB f.2.1 = false)) ∧ (f.2.1 = 8 → 0 ≤ f.2.2.2.2 ∧ f.2.2.2.2 ≤ (n : Int) - 1) ∧ (f.2.1 ≠ 8 → f.2.2.2.2 = -1) := by
  unfold fieldOkB at h
  split at h
  · cases h
  · split at h
    · cases h
    · split at h
      · cases h
      · rename_i h1 h2 h3
        refine ⟨by simpa using h1, Classical.byContradiction fun e => h2 e, h3, fun e => ?_, fun e => ?_⟩
        · rw [if_pos e] at h; exact of_decide_eq_true h
        · rw [if_neg e] at h; simpa using h
theorem fieldOk_to {n : Nat} {f : RF} (h1 : numOkB f.1 = true) (h2 : 1 ≤ f.2.1 ∧ f.2.1 ≤ 8) (h3 : ¬ (f.2.2.2.1 = true ∧ (f.2.2.1 = false ∨ numericB f.2.1 = false))) (h4 : f.2.1 = 8 → 0 ≤ f.2.2.2.2 ∧ f.2.2.2.2 ≤ (n : Int) - 1) (h5 : f.2.1 ≠ 8 → f.2.2.2.2 = -1) : fieldOkB n f = true := by
  unfold fieldOkB
  rw [if_neg (by simp [h1]), if_neg (fun e => e h2), if_neg h3]
  split
  · rename_i e; exact decide_eq_true (h4 e)
  · rename_i e; simp [h5 e]
theorem fieldCode_zero {r : List RM} {l : List RF} {k : Nat} {f : RF} : fieldCodeN r l k f = 0 ↔ (numOkB f.1 = true ∧ hasNum (l.take k) f.1 = false ∧ (1 ≤ f.2.1 ∧ f.2.1 ≤ 8) ∧ ¬ (f.2.2.2.1 = true ∧ (f.2.2.1 = false ∨ numericB f.2.1 = false)) ∧ (f.2.1 = 8 → hasId r f.2.2.2.2 r.length = true) ∧ (f.2.1 ≠ 8 → f.2.2.2.2 = 0)) := by
  unfold fieldCodeN
  constructor
  · intro h
    split at h
    · cases h
    · split at h
      · cases h
      · split at h
        · cases h
        · split at h
          · cases h
          · split at h
            · cases h
            · rename_i h1 h2 h3 h4 h5
              refine ⟨by simpa using h1, by simpa using h2, Classical.byContradiction fun e => h3 e, h4, fun e => ?_, fun e => ?_⟩
              · cases hh : hasId r f.2.2.2.2 r.length with
                | true => rfl
                | false => exact absurd (.inl ⟨e, hh⟩) h5
              · exact Classical.byContradiction fun hh => h5 (.inr ⟨e, hh⟩)
  · rintro ⟨h1, h2, h3, h4, h5, h6⟩
    rw [if_neg (by simp [h1]), if_neg (by simp [h2]), if_neg (fun e => e h3), if_neg h4, if_neg]
    rintro (⟨e, hh⟩ | ⟨e, hh⟩)
    · rw [h5 e] at hh; cases hh
    · exact hh (h6 e)
theorem msgCode_zero {r : List RM} {k : Nat} {m : RM} : msgCodeN r k m = 0 ↔ ((1 ≤ m.1 ∧ m.1 ≤ 99) ∧ hasId r m.1 k = false ∧ m.2.length ≤ 8) := by
  unfold msgCodeN
  constructor
  · intro h
    split at h
    · cases h
    · split at h
      · cases h
      · split at h
        · cases h
        · rename_i h1 h2 h3
          exact ⟨Classical.byContradiction fun e => h1 e, by simpa using h2, by omega⟩
  · rintro ⟨h1, h2, h3⟩
    rw [if_neg (fun e => e h1), if_neg (by simp [h2]), if_neg (by omega)]
/-- What RawFrom gives of a valid schema has no violation. -/
theorem back_all {s : List RM} (h : SchemaP s) : AllB (rawFromR s) (rawFromR s).length := by
  have hr : rawFromR s = s.map (backM s) := by unfold rawFromR; rw [if_pos (schema_yes h)]
  rw [hr]
  intro j hj _
  have hjs : j < s.length := by simpa using hj
  obtain ⟨i1, i2, i3, i4⟩ := h.2 j hjs
  have hm : (s.map (backM s))[j] = backM s s[j] := List.getElem_map ..
  refine ⟨?_, fun p hp => ?_⟩
  · rw [msgCode_in hj, hm]
    refine msgCode_zero.2 ⟨i1, ?_, by simpa [backM] using i3⟩
    refine hasId_no fun q hq hqj => ?_
    rw [List.getElem_map]
    have := asc_get (g := fun m : RM => m.1) h.ids hjs hqj
    show s[q].1 ≠ s[j].1
    omega
  · rw [fieldCode_in hj hp]
    simp only [hm] at hp ⊢
    have hps : p < s[j].2.length := by simpa [backM] using hp
    obtain ⟨k1, k2⟩ := i4 p hps
    obtain ⟨f1, f2, f3, f4, f5⟩ := fieldOk_of k1
    have hf : (backM s s[j]).2[p] = backF s s[j].2[p] := List.getElem_map ..
    rw [hf]
    refine fieldCode_zero.2 ⟨f1, ?_, f2, f3, fun e => ?_, fun e => ?_⟩
    · refine hasNum_no fun q hq => ?_
      have hq' : q < p := by rw [List.length_take] at hq; omega
      rw [List.getElem_take]
      have h1 : (backM s s[j]).2[q]'(by omega) = backF s (s[j].2[q]'(by omega)) := List.getElem_map ..
      rw [h1]
      have := asc_get (g := fun f : RF => f.1) (h.fields (List.getElem_mem hjs)) hps hq'
      show (s[j].2[q]'(by omega)).1 ≠ s[j].2[p].1
      omega
    · have e' : s[j].2[p].2.1 = 8 := e
      have hb := f4 e'
      obtain ⟨n, hn⟩ := Int.eq_ofNat_of_zero_le hb.1
      have hns : n < s.length := by omega
      refine hasId_yes (k := n) (by simpa using hns) (by simpa using hns) ?_
      rw [List.getElem_map]
      show s[n].1 = if s[j].2[p].2.1 = 8 then (s.getD s[j].2[p].2.2.2.2.toNat (0, [])).1 else 0
      rw [if_pos e', hn, Int.toNat_natCast, List.getD_eq_getElem?_getD, List.getElem?_eq_getElem hns, Option.getD_some]
    · have e' : ¬ s[j].2[p].2.1 = 8 := e
      show (if s[j].2[p].2.1 = 8 then (s.getD s[j].2[p].2.2.2.2.toNat (0, [])).1 else 0) = 0
      rw [if_neg e']
theorem back_first {s : List RM} (h : SchemaP s) {f : Int × Int × Int} (hf : First (rawFromR s) f) : f = (0, 0, 0) := by
  have hl : (rawFromR s).length ≤ 6 := by unfold rawFromR; rw [if_pos (schema_yes h), List.length_map]; exact h.1
  exact hf.one (.inr ⟨hl, .inl ⟨back_all h, rfl⟩⟩)
theorem first_all {r : List RM} (h : First r (0, 0, 0)) : r.length ≤ 6 ∧ AllB r r.length := by
  rcases h with ⟨_, e⟩ | ⟨h0, ⟨h, _⟩ | ⟨i, hi, _, hc, e⟩ | ⟨i, q, hi, _, _, _, _, hc, e⟩⟩
  · cases e
  · exact ⟨h0, h⟩
  · exact absurd (Prod.mk.inj e).1.symm hc
  · exact absurd (Prod.mk.inj e).1.symm hc
end Go.Proofs.YthjnpipincpkgaaGreatDoor.Num

/-
  Facts on compiling by plain lists: what is compiled of a description without a violation is a valid schema; each message's shape, each field of it. For any program.
-/
namespace Go.Proofs.YthjnpipincpkgaaGreatDoor.Num
set_option linter.unusedVariables false
set_option linter.unusedSimpArgs false

theorem putR_cons (g : RF) (l : List RF) (f : RF) : putR (g :: l) f = if g.1 < f.1 then g :: putR l f else f :: g :: l := by
  unfold putR
  by_cases h : g.1 < f.1
  · rw [if_pos h, List.takeWhile_cons_of_pos (by simpa using h), List.dropWhile_cons_of_pos (by simpa using h), List.cons_append]
  · rw [if_neg h, List.takeWhile_cons_of_neg (by simpa using h), List.dropWhile_cons_of_neg (by simpa using h), List.nil_append]
theorem putR_mem : ∀ (l : List RF) (f x : RF), x ∈ putR l f ↔ x = f ∨ x ∈ l
  | [], f, x => by simp [putR]
  | g :: l, f, x => by
    have ih := putR_mem l f x
    rw [putR_cons]
    split
    · rw [List.mem_cons, ih, List.mem_cons]
      constructor
      · rintro (h | h | h)
        · exact .inr (.inl h)
        · exact .inl h
        · exact .inr (.inr h)
      · rintro (h | h | h)
        · exact .inr (.inl h)
        · exact .inl h
        · exact .inr (.inr h)
    · rw [List.mem_cons]
theorem putR_asc : ∀ (l : List RF) (f : RF), (l.Pairwise fun a b => a.1 < b.1) → (∀ g ∈ l, g.1 ≠ f.1) → (putR l f).Pairwise fun a b => a.1 < b.1
  | [], f, _, _ => by simp [putR]
  | g :: l, f, hp, hn => by
    have hp' := hp
    rw [List.pairwise_cons] at hp
    have ih := putR_asc l f hp.2 fun x hx => hn x (List.mem_cons_of_mem _ hx)
    rw [putR_cons]
    split
    · rename_i h
      refine List.pairwise_cons.2 ⟨fun x hx => ?_, ih⟩
      rcases (putR_mem l f x).1 hx with rfl | hx
      · exact h
      · exact hp.1 x hx
    · rename_i h
      have hne := hn g List.mem_cons_self
      refine List.pairwise_cons.2 ⟨fun x hx => ?_, hp'⟩
      rcases List.mem_cons.1 hx with rfl | hx
      · omega
      · have := hp.1 x hx; omega
theorem foldPut_mem (r : List RM) (x : RF) : ∀ (l acc : List RF), x ∈ l.foldl (fun acc f => putR acc (compF r f)) acc ↔ x ∈ acc ∨ ∃ f ∈ l, x = compF r f
  | [], acc => by simp
  | f :: l, acc => by
    rw [List.foldl_cons, foldPut_mem r x l, putR_mem]
    constructor
    · rintro ((h | h) | ⟨g, hg, h⟩)
      · exact .inr ⟨f, List.mem_cons_self, h⟩
      · exact .inl h
      · exact .inr ⟨g, List.mem_cons_of_mem _ hg, h⟩
    · rintro (h | ⟨g, hg, h⟩)
      · exact .inl (.inr h)
      · rcases List.mem_cons.1 hg with rfl | hg
        · exact .inl (.inl h)
        · exact .inr ⟨g, hg, h⟩
theorem compFs_mem (r : List RM) (l : List RF) (x : RF) : x ∈ compFs r l ↔ ∃ f ∈ l, x = compF r f := by
  unfold compFs; rw [foldPut_mem]; simp
theorem foldPut_sorted (r : List RM) : ∀ (l acc : List RF), (acc.Pairwise fun a b => a.1 < b.1) → (∀ g ∈ acc, ∀ f ∈ l, g.1 ≠ f.1) → (l.Pairwise fun a b => a.1 ≠ b.1) → (l.foldl (fun acc f => putR acc (compF r f)) acc).Pairwise fun a b => a.1 < b.1
  | [], acc, h, _, _ => h
  | f :: l, acc, h, hn, hp => by
    rw [List.pairwise_cons] at hp
    rw [List.foldl_cons]
    refine foldPut_sorted r l _ (putR_asc acc (compF r f) h fun g hg => hn g hg f List.mem_cons_self) (fun g hg x hx => ?_) hp.2
    rcases (putR_mem acc _ g).1 hg with rfl | hg
    · exact hp.1 x hx
    · exact hn g hg x (List.mem_cons_of_mem _ hx)
theorem compFs_sorted (r : List RM) (l : List RF) (hp : l.Pairwise fun a b => a.1 ≠ b.1) : (compFs r l).Pairwise fun a b => a.1 < b.1 :=
  foldPut_sorted r l [] .nil (fun g hg => by simp at hg) hp
theorem hasId_false {r : List RM} {id : Int} {n : Nat} (h : hasId r id n = false) (j : Nat) (hj : j < r.length) (hn : j < n) : r[j].1 ≠ id := fun e => by
  rw [hasId_yes hj hn e] at h; cases h
theorem hasId_true {r : List RM} {id : Int} {n : Nat} (h : hasId r id n = true) : ∃ (j : Nat) (hj : j < r.length), r[j].1 = id := by
  refine Classical.byContradiction fun e => ?_
  rw [hasId_no fun j hj _ he => e ⟨j, hj, he⟩] at h
  cases h
theorem hasNum_false {l : List RF} {x : Int} (h : hasNum l x = false) (j : Nat) (hj : j < l.length) : l[j].1 ≠ x := fun e => by
  rw [hasNum_yes hj e] at h; cases h
theorem AllB.ids {r : List RM} (h : AllB r r.length) : r.Pairwise fun m n => m.1 ≠ n.1 := by
  rw [List.pairwise_iff_getElem]
  intro i j hi hj hij
  have h1 := (h j hj hj).1
  rw [msgCode_in hj] at h1
  exact hasId_false (msgCode_zero.1 h1).2.1 i hi hij
theorem AllB.nums {r : List RM} (h : AllB r r.length) {m : RM} (hm : m ∈ r) : m.2.Pairwise fun f g => f.1 ≠ g.1 := by
  obtain ⟨k, hk, rfl⟩ := List.getElem_of_mem hm
  rw [List.pairwise_iff_getElem]
  intro i j hi hj hij
  have h1 := (h k hk hk).2 j hj
  rw [fieldCode_in hk hj] at h1
  have h2 := hasNum_false (fieldCode_zero.1 h1).2.1 i (by rw [List.length_take]; omega)
  rwa [List.getElem_take] at h2
theorem AllB.field {r : List RM} (h : AllB r r.length) {m : RM} (hm : m ∈ r) {f : RF} (hf : f ∈ m.2) : fieldOkB r.length (compF r f) = true := by
  obtain ⟨k, hk, rfl⟩ := List.getElem_of_mem hm
  obtain ⟨j, hj, rfl⟩ := List.getElem_of_mem hf
  have h1 := (h k hk hk).2 j hj
  rw [fieldCode_in hk hj] at h1
  obtain ⟨g1, _, g3, g4, g5, g6⟩ := fieldCode_zero.1 h1
  refine fieldOk_to g1 g3 g4 (fun e => ?_) (fun e => ?_)
  · obtain ⟨q, hq, he⟩ := hasId_true (g5 e)
    have hl := rank_lt hq
    have e' : r[k].2[j].2.1 = 8 := e
    show 0 ≤ (if r[k].2[j].2.1 = 8 then (rankR r r[k].2[j].2.2.2.2 : Int) else -1) ∧ (if r[k].2[j].2.1 = 8 then (rankR r r[k].2[j].2.2.2.2 : Int) else -1) ≤ (r.length : Int) - 1
    rw [if_pos e', ← he]
    omega
  · have e' : ¬ r[k].2[j].2.1 = 8 := e
    show (if r[k].2[j].2.1 = 8 then (rankR r r[k].2[j].2.2.2.2 : Int) else -1) = -1
    rw [if_neg e']
/-- What is compiled of a description without a violation is a valid schema. -/
theorem AllB.schema {r : List RM} (h : AllB r r.length) (h6 : r.length ≤ 6) : SchemaP (compileR r) := by
  have hids := AllB.ids h
  have hat : ∀ i (hi : i < (compileR r).length), ∃ x ∈ r, rankR r x.1 = i ∧ (compileR r)[i] = (x.1, compFs r x.2) := by
    intro i hi
    obtain ⟨x, hx, he⟩ := rank_onto hids i (by rwa [compileR_len] at hi)
    refine ⟨x, hx, he, ?_⟩
    have h1 := compileR_at hids hx
    rw [he, List.getElem?_eq_getElem hi] at h1
    exact Option.some.inj h1
  refine ⟨by rw [compileR_len]; exact h6, fun i hi => ?_⟩
  obtain ⟨x, hx, he, hv⟩ := hat i hi
  rw [hv]
  obtain ⟨k, hk, hxk⟩ := List.getElem_of_mem hx
  have h1 := (h k hk hk).1
  rw [msgCode_in hk, hxk] at h1
  obtain ⟨m1, m2, m3⟩ := msgCode_zero.1 h1
  refine ⟨m1, fun p hp hpi => ?_, by rw [compFs_len]; exact m3, fun q hq => ?_⟩
  · obtain ⟨y, hy, hye, hyv⟩ := hat p hp
    rw [hyv]
    show y.1 < x.1
    refine Classical.byContradiction fun hc => ?_
    have := rank_mono r (show x.1 ≤ y.1 by omega)
    omega
  · have hs := compFs_sorted r x.2 (AllB.nums h hx)
    obtain ⟨f, hf, hfe⟩ := (compFs_mem r x.2 _).1 (List.getElem_mem hq)
    refine ⟨?_, fun p hp hpq => ?_⟩
    · show fieldOkB (compileR r).length (compFs r x.2)[q] = true
      rw [hfe, compileR_len]
      exact AllB.field h hx hf
    · exact asc_get (g := fun f : RF => f.1) hs hq (by omega)
end Go.Proofs.YthjnpipincpkgaaGreatDoor.Num

/-
  What is found in a schema that Compile gives: its messages by ShapeAt, its fields by FieldAt. Plain facts.
-/
namespace Go.Proofs.YthjnpipincpkgaaGreatDoor.Num
set_option linter.unusedVariables false
/-- A message's place in the schema, and what lies there. -/
theorem msg_at {r : List RM} (h : AllB r r.length) {m : RM} (hm : m ∈ r) : ∃ hk : rankR r m.1 < (compileR r).length, (compileR r)[rankR r m.1] = (m.1, compFs r m.2) := by
  have h1 := compileR_at (AllB.ids h) hm
  obtain ⟨hk, he⟩ := List.getElem?_eq_some_iff.1 h1
  exact ⟨hk, he⟩
theorem shape_seen {r : List RM} (h : AllB r r.length) (h6 : r.length ≤ 6) {m : RM} (hm : m ∈ r) : shapeAtR (compileR r) m.1 = (rankR r m.1 : Int) := by
  obtain ⟨hk, he⟩ := msg_at h hm
  refine shapeAt_yes hk (by rw [he]) fun j hj hjk => ?_
  have := asc_get (g := fun m : RM => m.1) (AllB.schema h h6).ids hk hjk
  rw [he] at this
  exact Int.ne_of_lt this
theorem field_seen {r : List RM} (h : AllB r r.length) {m : RM} (hm : m ∈ r) {f : RF} (hf : f ∈ m.2) : fieldAtR (compileR r) (rankR r m.1 : Int) f.1 = (compF r f, true) := by
  obtain ⟨hk, he⟩ := msg_at h hm
  rw [fieldAt_in hk, he]
  have hs := compFs_sorted r m.2 (AllB.nums h hm)
  obtain ⟨c, hc, hce⟩ := List.getElem_of_mem ((compFs_mem r m.2 (compF r f)).2 ⟨f, hf, rfl⟩)
  have hlt : ∀ j (hj : j < (compFs r m.2).length), j < c → (compFs r m.2)[j].1 ≠ f.1 := fun j hj hjc => by
    have q := asc_get (g := fun f : RF => f.1) hs hc hjc
    rw [hce] at q
    exact Int.ne_of_lt q
  rw [fieldIn_yes (x := f.1) hc (by rw [hce]; rfl) hlt, hce]
theorem field_found {r : List RM} (h : AllB r r.length) {m : RM} (hm : m ∈ r) (x : Int) : (fieldAtR (compileR r) (rankR r m.1 : Int) x).2 = hasNum m.2 x := by
  cases hn : hasNum m.2 x with
  | true =>
    obtain ⟨f, hf, hx⟩ := List.any_eq_true.1 hn
    have hx : f.1 = x := by simpa using hx
    subst hx
    rw [field_seen h hm hf]
  | false =>
    obtain ⟨hk, he⟩ := msg_at h hm
    rw [fieldAt_in hk, he]
    rw [fieldIn_no fun j hj e => ?_]
    obtain ⟨f, hf, hfe⟩ := (compFs_mem r m.2 _).1 (List.getElem_mem hj)
    obtain ⟨c, hc, rfl⟩ := List.getElem_of_mem hf
    refine hasNum_false hn c hc ?_
    rw [← e, hfe]; rfl
/-- The message that a field refers to: its place, and its Id there. -/
theorem ref_seen {r : List RM} (h : AllB r r.length) {m : RM} (hm : m ∈ r) {f : RF} (hf : f ∈ m.2) (h8 : f.2.1 = 8) : (compF r f).2.2.2.2 = (rankR r f.2.2.2.2 : Int) ∧ ∃ hk : rankR r f.2.2.2.2 < (compileR r).length, (compileR r)[rankR r f.2.2.2.2].1 = f.2.2.2.2 := by
  refine ⟨by show (if f.2.1 = 8 then _ else _) = _; rw [if_pos h8], ?_⟩
  obtain ⟨k, hk, rfl⟩ := List.getElem_of_mem hm
  obtain ⟨j, hj, rfl⟩ := List.getElem_of_mem hf
  have h1 := (h k hk hk).2 j hj
  rw [fieldCode_in hk hj] at h1
  obtain ⟨_, _, _, _, g5, _⟩ := fieldCode_zero.1 h1
  obtain ⟨q, hq, he⟩ := hasId_true (g5 h8)
  obtain ⟨hk2, he2⟩ := msg_at h (List.getElem_mem hq)
  have gen : ∀ id : Int, r[q].1 = id → ∃ hk : rankR r id < (compileR r).length, (compileR r)[rankR r id].1 = id := by
    rintro id rfl
    exact ⟨hk2, by rw [he2]⟩
  exact gen _ he
theorem hasNum_step {l : List RF} {x : Int} {c : Nat} (hc : c < l.length) : hasNum (l.take (c + 1)) x = (hasNum (l.take c) x || l[c].1 == x) := by
  unfold hasNum
  rw [List.take_succ_eq_append_getElem hc, List.any_append]
  simp
end Go.Proofs.YthjnpipincpkgaaGreatDoor.Num

/-
  The walks of the program's msgsById and leastId: a map of the messages by Id, and its least key; whatever the order in which the map is ranged over. Only new memory is written.
-/
namespace Go.Proofs.YthjnpipincpkgaaGreatDoor.Num
open Go.RowKit Go.Proofs Go
set_option linter.unusedVariables false
set_option linter.unusedSimpArgs false

/-- A message as the map holds it. -/
def msgV (m : OM) : Value := .agg #[.int .i64 m.1, m.2.1]
/-- Elements are read as they stand. -/
def anyElem (v : Value) : Option (DataW Value × List MemPlace) := some (.held v, [])
def keyI (x : Int) : Lit := .int .i64 x
theorem keyI_inj {x y : Int} (h : keyI x = keyI y) : x = y := by injection h
/-- What a map holds: these messages, each at its Id. -/
structure Dis (D : DataW Value) (rem : List OM) : Prop where
  has : ∀ kl, Maps.has D kl = true ↔ ∃ m ∈ rem, kl = keyI m.1
  at_ : ∀ m ∈ rem, ∀ z, D.atKey (keyI m.1) z = .held (msgV m)
  size : Maps.size D = rem.length
  tidy : Maps.Tidy D
theorem Dis.start : Dis (.map []) [] := ⟨fun kl => ⟨fun h => (by cases h), fun ⟨m, hm, _⟩ => (by simp at hm)⟩, fun m hm => (by simp at hm), rfl, Maps.tidy_empty⟩
theorem Dis.perm {D : DataW Value} {l l' : List OM} (h : Dis D l) (p : l.Perm l') : Dis D l' :=
  ⟨fun kl => (h.has kl).trans ⟨fun ⟨m, hm, e⟩ => ⟨m, p.mem_iff.1 hm, e⟩, fun ⟨m, hm, e⟩ => ⟨m, p.mem_iff.2 hm, e⟩⟩, fun m hm => h.at_ m (p.mem_iff.2 hm), h.size.trans p.length_eq, h.tidy⟩
theorem Dis.put {D : DataW Value} {l : List OM} (h : Dis D l) (m : OM) (hne : ∀ x ∈ l, x.1 ≠ m.1) : Dis (D.put (keyI m.1) (.held (msgV m))) (l ++ [m]) := by
  have hk : WideAt.IsKeyLit (keyI m.1) := trivial
  have hno : Maps.has D (keyI m.1) = false := by
    cases e : Maps.has D (keyI m.1) with
    | false => rfl
    | true => obtain ⟨x, hx, e⟩ := (h.has _).1 e; exact absurd (keyI_inj e).symm (hne x hx)
  refine ⟨fun kl => ?_, fun x hx z => ?_, ?_, h.tidy.put hk _⟩
  · by_cases e : kl = keyI m.1
    · subst e
      rw [Maps.has_put_same h.tidy.isMap hk]
      exact ⟨fun _ => ⟨m, by simp, rfl⟩, fun _ => rfl⟩
    · rw [Maps.has_put_other e, h.has]
      exact ⟨fun ⟨x, hx, e⟩ => ⟨x, by simp [hx], e⟩, fun ⟨x, hx, e'⟩ => by
        rcases List.mem_append.1 hx with hx | hx
        · exact ⟨x, hx, e'⟩
        · obtain rfl := List.mem_singleton.1 hx; exact absurd e' e⟩
  · rcases List.mem_append.1 hx with hx | hx
    · rw [Maps.atKey_put_other (fun e => hne x hx (keyI_inj e)), h.at_ x hx]
    · obtain rfl := List.mem_singleton.1 hx
      exact Maps.atKey_put_same h.tidy.isMap hk _ _
  · rw [Maps.size_put h.tidy, hno, h.size]; simp
theorem Dis.del {D : DataW Value} {l : List OM} {m : OM} (h : Dis D (m :: l)) (hne : ∀ x ∈ l, x.1 ≠ m.1) : Dis (D.del (keyI m.1)) l := by
  have hyes : Maps.has D (keyI m.1) = true := (h.has _).2 ⟨m, by simp, rfl⟩
  refine ⟨fun kl => ?_, fun x hx z => ?_, ?_, h.tidy.del _⟩
  · by_cases e : kl = keyI m.1
    · subst e
      rw [Maps.has_del_same]
      exact ⟨fun h => (by cases h), fun ⟨x, hx, e⟩ => absurd (keyI_inj e).symm (hne x hx)⟩
    · rw [Maps.has_del_other e, h.has]
      exact ⟨fun ⟨x, hx, e'⟩ => by
        rcases List.mem_cons.1 hx with rfl | hx
        · exact absurd e' e
        · exact ⟨x, hx, e'⟩, fun ⟨x, hx, e'⟩ => ⟨x, by simp [hx], e'⟩⟩
  · rw [Maps.atKey_del_other (fun e => hne x hx (keyI_inj e)), h.at_ x (by simp [hx])]
  · have := Maps.size_del h.tidy (k := keyI m.1)
    rw [hyes, h.size] at this
    simp at this
    exact this
theorem ownsMap_below {w w' : World} {P : Program} {k : TypeId} {R : Value → Option (DataW Value × List MemPlace)} {b n B : Nat} {D : DataW Value} (h : w.ownsMap P k R b n D) (hb : Below B w w') (hB : b < B) : w'.ownsMap P k R b n D := by
  obtain ⟨es, clock, h1, h2⟩ := h
  exact ⟨es, clock, (hb.block b hB).trans h1, h2⟩
theorem lawI : Maps.Keyed Tryz.prog 3 := Maps.int_keyed Tryz.underlying3
/-- The messages of a description in memory, each with its fields' value. -/
theorem MsgsAt.oms {w : World} {S : Nat → Prop} {v : Value} {r : List RM} (h : MsgsAt w S v r) : ∃ ms : List OM, plain ms = r ∧ (∀ i (hi : i < ms.length), FieldsAt w S ms[i].2.1 ms[i].2.2) ∧
    (r = [] ∨ ∃ b o cap, v = .slice (some ⟨b, o, none⟩) r.length cap ∧ S b ∧ ∀ i (hi : i < ms.length), w.cell? ⟨b, o + i * 2, none⟩ = some (.int .i64 ms[i].1) ∧ w.cell? ⟨b, o + i * 2 + 1, none⟩ = some ms[i].2.1) := by
  by_cases h0 : r = []
  · subst h0
    exact ⟨[], rfl, fun i hi => (by simp at hi), .inl rfl⟩
  · obtain ⟨b, o, cap, hv, hS, hc⟩ := h.cells (List.length_pos_iff.2 h0)
    let f : (i : Fin r.length) → OM := fun i => (r[i].1, Classical.choose (hc i i.2), r[i].2)
    have hl : (List.ofFn f).length = r.length := List.length_ofFn
    have hg : ∀ i (hi : i < (List.ofFn f).length), (List.ofFn f)[i] = f ⟨i, by rw [hl] at hi; exact hi⟩ := fun i hi => List.getElem_ofFn hi
    refine ⟨List.ofFn f, ?_, fun i hi => ?_, .inr ⟨b, o, cap, hv, hS, fun i hi => ?_⟩⟩
    · refine List.ext_getElem (by simp [plain]) fun i h1 h2 => ?_
      simp [plain, f]
    · rw [hg]; exact (Classical.choose_spec (hc i (by rw [hl] at hi; exact hi))).2.2
    · rw [hg]
      have := Classical.choose_spec (hc i (by rw [hl] at hi; exact hi))
      exact ⟨this.1, this.2.1⟩
set_option maxRecDepth 100000 in
set_option maxHeartbeats 2000000 in
theorem leastId_any (b n : Nat) (D : DataW Value) (rem : List OM) (w : World) (hown : w.ownsMap Tryz.prog 3 anyElem b n D) (hd : Dis D rem) (hne : rem ≠ []) (h99 : ∀ m ∈ rem, 1 ≤ m.1 ∧ m.1 ≤ 99) :
    Calls Tryz.prog 66 #[.map (some b)] w fun e w' => (∃ L : Int, e = .returned (.int .i64 L) ∧ (∃ m ∈ rem, m.1 = L) ∧ ∀ m ∈ rem, L ≤ m.1) ∧ Below w.heap.size w w' := by
  have Hd := Lib.hid hd
  have Hne := Lib.hid hne
  have H99 := Lib.hid h99
  clear hd hne h99
  go_enter Tryz.func66, Tryz.ntmps66
  go_wp2_with (first
    | (at_range; refine wpList_range_own _ rfl _ 103 rfl 3 40 lawI Tryz.underlying103 _ b n _ rfl hown ?_; intro w2 hrg2 hg2 hs2)
    | go_in)
  go_frame
  go_loopw [3] (fun l wr => ∃ (left : Lit → Bool) (cnt : Nat) (L : Int), l = .int .i64 L ∧ wr.ranges Tryz.prog 3 anyElem b w.heap.size n D left cnt ∧ Hid ((∀ kl, left kl = true → Maps.has D kl = true) ∧ (∀ m ∈ rem, left (keyI m.1) = false → L ≤ m.1) ∧ (L = 99 ∨ ∃ m ∈ rem, m.1 = L)) ∧ (1 ≤ L ∧ L ≤ 99) ∧ Below w.heap.size w wr)
    (fun _ wr => wr.rangeLeft b w.heap.size)
  case atStart =>
    exact ⟨_, _, 99, rfl, hrg2, Lib.hid ⟨fun _ h => h, fun m hm h => (by rw [(Hd.out.has _).2 ⟨m, hm, rfl⟩] at h; cases h), .inl rfl⟩, by omega, (Below.refl _ _).grown hg2 (Nat.le_refl _) (fun j hj => by cases hj)⟩
  case round =>
    obtain ⟨left, cnt, L, rfl, hrg, hinv, hL99, hnx⟩ := hrel
    go_wp2_with (first
      | (at_next; refine wpList_next_ranges _ rfl _ rfl 3 lawI anyElem (Value.int .i64) (fun v => v) (fun key kl hk => by obtain ⟨x, hx, _⟩ := Maps.keyOf_int_inv Tryz.underlying3 hk; exact ⟨x, hx⟩) (fun v y hv => ⟨v, rfl⟩) b w.heap.size n _ _ _ rfl hrg ?_ ?_)
      | go_in)
    · intro hc0 hl0
      have Hl0 := Lib.hid hl0
      clear hl0 hc0
      go_wp2
      go_ret
      refine ⟨⟨L, rfl, ?_, fun m hm => hinv.out.2.1 m hm (Hl0.out _)⟩, hnx⟩
      rcases hinv.out.2.2 with h | h
      · obtain ⟨m, hm⟩ := List.exists_mem_of_ne_nil _ Hne.out
        have h1 := hinv.out.2.1 m hm (Hl0.out _)
        have h2 := (H99.out m hm).2
        exact ⟨m, hm, by omega⟩
      · exact h
    · intro x c kl yd yp w2 cnt2 hkey hlk hv hat hrg3 hlt hg3 hs3 hen
      obtain ⟨x', ex, rfl, hwx⟩ := Maps.keyOf_int_inv Tryz.underlying3 hkey
      injection ex with _ ex
      subst ex
      have hnx3 := hnx.grown hg3 hnx.size (fun j hj => by cases hj; exact Nat.le_refl _)
      have hmem := (Hd.out.has _).1 (hinv.out.1 _ hlk)
      have Hm : Hid (∃ m ∈ rem, m.1 = x) := Lib.hid (by obtain ⟨m, hm, e⟩ := hmem; exact ⟨m, hm, (keyI_inj e).symm⟩)
      have hx99 : 1 ≤ x ∧ x ≤ 99 := by obtain ⟨m, hm, rfl⟩ := Hm.out; exact H99.out m hm
      clear hs3 hkey hv hat hlk hmem hg3 hwx
      have Hst : Hid (∀ m ∈ rem, (left (keyI m.1) && !(keyI m.1).sameKey (.int .i64 x)) = false → L ≤ m.1 ∨ m.1 = x) := Lib.hid fun m hm h => by
        cases e : left (keyI m.1) with
        | false => exact .inl (hinv.out.2.1 m hm e)
        | true =>
          rw [e] at h
          simp at h
          exact .inr (keyI_inj (WideAt.sameKey_eq h))
      by_cases hlt2 : x < L
      · have hmin : min L x = x := by omega
        have Hmin := Lib.hid hmin
        have Hlt := Lib.hid hlt2
        clear hmin
        go_wp2
        go_roundw
        case rel =>
          exact ⟨_, cnt2, x, by first | rfl | rw [Hmin.out], hrg3, Lib.hid ⟨fun kl h => hinv.out.1 kl (by simp at h; exact h.1), fun m hm h => by
            have h1 := Hst.out m hm h
            have h2 := Hlt.out
            omega, .inr Hm.out⟩, by omega, hnx3⟩
        case measure => rw [hrg3.left_eq, hrg.left_eq]; exact hlt
      · have hmin : min L x = L := by omega
        have Hmin := Lib.hid hmin
        have Hlt := Lib.hid hlt2
        clear hmin
        go_wp2
        go_roundw
        case rel =>
          exact ⟨_, cnt2, L, by first | rfl | rw [Hmin.out], hrg3, Lib.hid ⟨fun kl h => hinv.out.1 kl (by simp at h; exact h.1), fun m hm h => by
            have h1 := Hst.out m hm h
            have h2 := Hlt.out
            omega, hinv.out.2.2⟩, by omega, hnx3⟩
        case measure => rw [hrg3.left_eq, hrg.left_eq]; exact hlt
set_option maxRecDepth 100000 in
set_option maxHeartbeats 2000000 in
theorem msgsById_any (v : Value) (r : List RM) (ms : List OM) (w : World) (S : Nat → Prop) (hS : ∀ b, S b → b < w.heap.size) (hp : plain ms = r) (hu : ∃ a cap, v = .slice a r.length cap)
    (hc : r = [] ∨ ∃ b o cap, v = .slice (some ⟨b, o, none⟩) r.length cap ∧ S b ∧ ∀ i (hi : i < ms.length), w.cell? ⟨b, o + i * 2, none⟩ = some (.int .i64 ms[i].1) ∧ w.cell? ⟨b, o + i * 2 + 1, none⟩ = some ms[i].2.1)
    (hv : ∀ i (hi : i < ms.length), ∃ a n c, ms[i].2.1 = .slice a n c) (h6 : r.length ≤ 6) (hid : ∀ m ∈ ms, 1 ≤ m.1 ∧ m.1 ≤ 99) (hd : ms.Pairwise fun m n => m.1 ≠ n.1) :
    Calls Tryz.prog 65 #[.agg #[v]] w fun e w' => (∃ (b : Nat) (D : DataW Value), e = .returned (.map (some b)) ∧ w.heap.size ≤ b ∧ w'.ownsMap Tryz.prog 3 anyElem b r.length D ∧ Dis D ms) ∧ Below w.heap.size w w' := by
  obtain ⟨a, cap, rfl⟩ := hu
  have HS := Lib.hid hS
  have Hc := Lib.hid hc
  have Hv := Lib.hid hv
  have Hd := Lib.hid hd
  have Hi := Lib.hid hid
  have hml : ms.length = r.length := by rw [← hp]; simp [plain]
  have Hml := Lib.hid hml
  have hmk : ∀ w : World, (Instr.makeMap 103 (some (.int .i64 r.length))).run Tryz.prog w = .ok (.map (some w.heap.size)) (w.alloc (.map #[] 0)) := fun w => by
    simp [Instr.makeMap, run_underlying Tryz.underlying103, asInt, asIntOf, Result.andThen]
  have hown0 : ((w.alloc (.cells #[.slice a r.length cap] 26)).alloc (.map #[] 0)).ownsMap Tryz.prog 3 anyElem (w.heap.size + 1) 0 (.map []) := by
    have h := World.ownsMap_made (w.alloc (.cells #[.slice a r.length cap] 26)) Tryz.prog 3 anyElem
    rwa [show (w.alloc (.cells #[.slice a r.length cap] 26)).heap.size = w.heap.size + 1 by simp] at h
  have hb0 : Below w.heap.size w ((w.alloc (.cells #[.slice a r.length cap] 26)).alloc (.map #[] 0)) := ((Below.refl _ _).alloc (Nat.le_refl _) _).alloc (by simp) _
  have Hown0 := Lib.hid hown0
  clear hS hc hv hd hid hml hp hown0
  go_enter Tryz.func65, Tryz.ntmps65
  go_wp2_with fail
  go_loopw [13] (fun i wr => ∃ (k : Nat) (D : DataW Value), k ≤ r.length ∧ i = .int .i64 k ∧ Hid (wr.ownsMap Tryz.prog 3 anyElem (w.heap.size + 1) k D) ∧ Hid (Dis D (ms.take k)) ∧ Below w.heap.size w wr) (fun i _ => r.length - (intOf i).toNat)
  case atStart => exact ⟨0, .map [], by omega, rfl, Hown0, Lib.hid Dis.start, hb0⟩
  case round =>
    clear hb0
    obtain ⟨k, D, hk, rfl, hown, hdis, hbr⟩ := hrel
    by_cases hlt : k < r.length
    · have hlti : (k : Int) < (r.length : Int) := by omega
      have hkm : k < ms.length := by rw [Hml.out]; exact hlt
      obtain ⟨b, o, c, hve, hbS, hcs⟩ := Hc.out.resolve_left (by rintro rfl; simp at hlt)
      obtain ⟨rfl, rfl⟩ : a = some ⟨b, o, none⟩ ∧ cap = c := by injection hve with e1 e2 e3; exact ⟨e1, e3⟩
      have hbC := HS.out _ hbS
      have hbw : b < wr.heap.size := Nat.lt_of_lt_of_le hbC hbr.size
      obtain ⟨d0, d1⟩ := hcs k hkm
      obtain ⟨xa, xn, xc, hx⟩ := Hv.out k hkm
      have hidk := Hi.out _ (List.getElem_mem hkm)
      have Hne : Hid (∀ x ∈ ms.take k, x.1 ≠ ms[k].1) := Lib.hid fun x hx => by
        obtain ⟨j, hj, rfl⟩ := List.mem_take_iff_getElem.1 hx
        exact (List.pairwise_iff_getElem.1 Hd.out) j k (by omega) hkm (by omega)
      have Htk : Hid (ms.take (k + 1) = ms.take k ++ [ms[k]]) := Lib.hid (List.take_succ_eq_append_getElem hkm)
      have Hmv : Hid (msgV ms[k] = .agg #[.int .i64 ms[k].1, .slice xa xn xc]) := Lib.hid (by unfold msgV; rw [hx])
      rw [hx] at d1
      clear hcs hve hbS hx
      rw [← hbr.cell (p := ⟨b, _, none⟩) hbC] at d0 d1
      generalize ms[k] = m at d0 d1 hidk Hne Htk Hmv
      obtain ⟨id, u, fs⟩ := m
      simp only at d0 d1 hidk Hne Hmv
      have hown1 := hown.out.alloc (.cells #[.int .i64 id, .slice xa xn xc] 40)
      have hb1 : Below w.heap.size w (wr.alloc (.cells #[.int .i64 id, .slice xa xn xc] 40)) := hbr.alloc hbr.size _
      go_wp2_with (at_mapUpdate; refine wpList_mapUpdate_own _ rfl _ _ _ 103 rfl 3 40 lawI Tryz.underlying103 anyElem (w.heap.size + 1) k D rfl hown1 (by unfold maxLen; omega) _ _ (keyI id) rfl rfl (Maps.keyOf_int_mk Tryz.underlying3 (WalkArith.wf_i64 (by omega))) (.held (.agg #[.int .i64 id, .slice xa xn xc])) [] rfl ?_; intro w2 hown2 hg2)
      have Hown2 := Lib.hid hown2
      have hb2 := hb1.grown hg2 hb1.size (fun j hj => by cases hj; omega)
      clear hown1 hown2 hb1 hg2
      go_roundw
      case rel => exact ⟨k + 1, _, by omega, by go_num, Hown2, Lib.hid (by rw [Htk.out]; have h := hdis.out.put (id, u, fs) Hne.out; rw [Hmv.out] at h; exact h), hb2⟩
      case measure => simp [intOf]; omega
    · have hge : (r.length : Int) ≤ (k : Int) := by omega
      have hend : decide (k < r.length) = false := decide_eq_false hlt
      obtain rfl : k = r.length := by omega
      go_wp2_with fail
      go_ret
      exact ⟨⟨_, D, rfl, by omega, hown.out, by have := hdis.out; rwa [List.take_of_length_le (by rw [Hml.out]; omega)] at this⟩, hbr⟩
end Go.Proofs.YthjnpipincpkgaaGreatDoor.Num

/-
  The walk of the program's msgsInOrder: the messages, taken out of the map by ascending Id, in a new row; only new memory is written.
-/
namespace Go.Proofs.YthjnpipincpkgaaGreatDoor.Num
open Go.RowKit Go.Proofs Go
set_option linter.unusedVariables false
set_option linter.unusedSimpArgs false

def sortO (ms : List OM) : List OM := ms.mergeSort fun a b => decide (a.1 ≤ b.1)
theorem sortO_perm (ms : List OM) : (sortO ms).Perm ms := List.mergeSort_perm ..
theorem sortO_len (ms : List OM) : (sortO ms).length = ms.length := (sortO_perm ms).length_eq
theorem sortO_lt {ms : List OM} (hd : ms.Pairwise fun m n => m.1 ≠ n.1) : (sortO ms).Pairwise fun m n => m.1 < n.1 := by
  have h1 : (sortO ms).Pairwise fun a b => decide (a.1 ≤ b.1) = true := List.pairwise_mergeSort (fun a b c h1 h2 => by simp at h1 h2 ⊢; omega) (fun a b => by simp; omega) ms
  have h2 : (sortO ms).Pairwise fun m n => m.1 ≠ n.1 := ((sortO_perm ms).pairwise_iff (fun {a b} (h : a.1 ≠ b.1) => h.symm)).2 hd
  exact h1.imp₂ (fun a b h1 h2 => by simp at h1; omega) h2
/-- A look-up in a map whose elements are read as they stand. -/
theorem wpList_lookup_dis {P : Program} (w : World) {ops : Array Oper} {rest : List Oper} {o : Oper} {a : Act} {Q : Exit → Act → World → Prop}
    (hg : o.guard = none) (m x : Operand) (t : TypeId) (hop : o.op = Op.lookup t m x false) (k e : TypeId) (K : Maps.Keyed P k) (ht : P.underlying t = some (.map k e)) {z : Value} (hz : (zeroValue e).run P w = .ok z w) (b n : Nat) (D : DataW Value)
    (hm : a.eval m = .map (some b)) (hown : w.ownsMap P k anyElem b n D) (key : Value) (kl : Lit) (hx : a.eval x = key) (hkey : keyOf P k key = some kl) (val : Value) (hat : ∀ z, D.atKey kl z = .held val)
    (hK : wpList P ops Q rest (a.put o.dst val) w) : wpList P ops Q (o :: rest) a w := by
  refine wpList_plain hg fun K' hK' => ?_
  obtain ⟨v, ps, hrun, hv⟩ := hown.lookup K ht hz (show anyElem z = some (.held z, []) from rfl) hkey
  obtain rfl : v = val := by
    rw [hat] at hv
    unfold anyElem at hv
    injection hv with hv
    injection hv with hv _
    injection hv
  unfold Oper.wp
  simp [execOp, hop, hm, hx, hrun, Result.andThen]
  exact hK' _ _ hK
theorem zeroM (w : World) : (zeroValue 40).run Tryz.prog w = .ok (.agg #[.int .i64 0, .slice none 0 0]) w := by kernel_rfl
set_option maxRecDepth 100000 in
set_option maxHeartbeats 4000000 in
theorem msgsInOrder_any (v : Value) (r : List RM) (ms : List OM) (w : World) (S : Nat → Prop) (hS : ∀ b, S b → b < w.heap.size) (hp : plain ms = r) (hu : ∃ a cap, v = .slice a r.length cap)
    (hc : r = [] ∨ ∃ b o cap, v = .slice (some ⟨b, o, none⟩) r.length cap ∧ S b ∧ ∀ i (hi : i < ms.length), w.cell? ⟨b, o + i * 2, none⟩ = some (.int .i64 ms[i].1) ∧ w.cell? ⟨b, o + i * 2 + 1, none⟩ = some ms[i].2.1)
    (hv : ∀ i (hi : i < ms.length), ∃ a n c, ms[i].2.1 = .slice a n c) (h6 : r.length ≤ 6) (hid : ∀ m ∈ ms, 1 ≤ m.1 ∧ m.1 ≤ 99) (hd : ms.Pairwise fun m n => m.1 ≠ n.1) :
    Calls Tryz.prog 33 #[.agg #[v]] w fun e w' => (∃ (B : Nat) (vm : Value), e = .returned vm ∧ w.heap.size ≤ B ∧ w'.ownsRow B 40 2 vm r.length ((sortO ms).flatMap msgC)) ∧ Below w.heap.size w w' := by
  obtain ⟨i0, hi, hz0, hz1, hz2⟩ := info_parts infoM
  obtain ⟨a, cap, rfl⟩ := hu
  have Hd := Lib.hid hd
  have Hi := Lib.hid hid
  have hml : ms.length = r.length := by rw [← hp]; simp [plain]
  have Hml := Lib.hid hml
  have hb1 : Below w.heap.size w (w.alloc (.cells #[.slice a r.length cap] 26)) := (Below.refl _ _).alloc (Nat.le_refl _) _
  have Hcall := Lib.hid (msgsById_any (.slice a r.length cap) r ms (w.alloc (.cells #[.slice a r.length cap] 26)) S (fun b h => Nat.lt_of_lt_of_le (hS b h) hb1.size) hp ⟨a, cap, rfl⟩
    (hc.imp id fun ⟨b, o, c, h1, h2, h3⟩ => ⟨b, o, c, h1, h2, fun i hi => ⟨(hb1.cell (p := ⟨b, _, none⟩) (hS b h2)).trans (h3 i hi).1, (hb1.cell (p := ⟨b, _, none⟩) (hS b h2)).trans (h3 i hi).2⟩⟩) hv h6 hid hd)
  have Hv : Hid (∀ m ∈ ms, ∃ a n c, m.2.1 = .slice a n c) := Lib.hid fun m hm => by obtain ⟨i, hi, rfl⟩ := List.getElem_of_mem hm; exact hv i hi
  have Hs := Lib.hid (sortO_lt hd)
  have Hsl : Hid ((sortO ms).length = r.length) := Lib.hid (by rw [sortO_len, hml])
  clear hS hp hc hv hid hd hml
  go_enter Tryz.func33, Tryz.ntmps33
  go_wp2_with fail
  refine Hcall.out.mono ?_
  rintro e w2 ⟨⟨b, D, rfl, hbB, hown, hdis⟩, hb2⟩
  have hl2 := hb1.trans (hb2.mono hb1.size)
  have hsz : Maps.size D = r.length := by rw [hdis.size, Hml.out]
  have Hown2 := Lib.hid hown
  have hbw2 := hown.lt
  have hbw : w.heap.size ≤ b := by simp at hbB; omega
  have Hdis : Hid (Dis D (sortO ms)) := Lib.hid (hdis.perm (sortO_perm ms).symm)
  clear hb1 hb2 hown hdis hbB Hcall
  go_wp2_with (first
    | (at_len; refine wpList_len_own _ rfl _ 103 rfl 3 40 Tryz.underlying103 anyElem b r.length D rfl Hown2.out ?_)
    | (at_make; refine wpList_make_own _ rfl _ _ 24 rfl w2.heap.size 40 i0 _ 2 Tryz.underlying24 hi hz0 hz1 .i64 .i64 _ r.length rfl rfl (by rw [hsz]) (by rw [hz2]; omega) (by unfold maxLen; omega) (Nat.le_refl _) ?_; intro w3 hown3 hg3)
    | go_in)
  have hl3 := hl2.grown hg3 hl2.size (fun j hj => by cases hj)
  have Hown3 := Lib.hid (Hown2.out.kept hg3 (by simp))
  have hz3 : w2.heap.size ≤ w3.heap.size := hg3.size
  have Hrow3 := Lib.hid hown3
  have hBw : w.heap.size ≤ w2.heap.size := hl2.size
  clear hown3 hg3 hl2 hsz Hown2
  generalize w2.heap.size = B at Hrow3 hz3 hbw2 hBw ⊢
  go_loopg [4] r.length (fun g vm wr => ∃ (k : Nat) (D : DataW Value), k + g = r.length ∧ Hid (wr.ownsRow B 40 2 vm k (((sortO ms).take k).flatMap msgC)) ∧ Hid (wr.ownsMap Tryz.prog 3 anyElem b r.length D) ∧ Hid (Dis D ((sortO ms).drop k)) ∧ Below w.heap.size w wr ∧ B ≤ wr.heap.size)
  case atStart => exact ⟨0, D, by omega, Hrow3, Hown3, Lib.hid (by simpa using Hdis.out), hl3, hz3⟩
  case round =>
    clear hl3 Hown3 Hrow3 hz3
    obtain ⟨k, D', hkg, hrow, hown, hdis, hbr, hBz⟩ := hrel
    have Hkg := Lib.hid hkg
    have hsz0 : Maps.size D' = r.length - k := by rw [hdis.out.size, List.length_drop, Hsl.out]
    clear hkg
    by_cases hlt : k < r.length
    · have hks : k < (sortO ms).length := by rw [Hsl.out]; exact hlt
      obtain ⟨N, hN⟩ : ∃ N, r.length - k = N + 1 := ⟨r.length - k - 1, by omega⟩
      have hsz : Maps.size D' = N + 1 := hsz0.trans hN
      have hdrop : (sortO ms).drop k = (sortO ms)[k] :: (sortO ms).drop (k + 1) := List.drop_eq_getElem_cons hks
      have hmem : ∀ x ∈ (sortO ms).drop k, x ∈ ms := fun x hx => (sortO_perm ms).mem_iff.1 (List.mem_of_mem_drop hx)
      have Hgt : Hid (∀ x ∈ (sortO ms).drop (k + 1), (sortO ms)[k].1 < x.1) := Lib.hid fun x hx => by
        obtain ⟨j, hj, rfl⟩ := List.mem_drop_iff_getElem.1 hx
        exact (List.pairwise_iff_getElem.1 Hs.out) k (k + 1 + j) hks (by omega) (by omega)
      have Hdk : Hid (Dis D' ((sortO ms)[k] :: (sortO ms).drop (k + 1))) := Lib.hid (by rw [← hdrop]; exact hdis.out)
      have Htk : Hid ((sortO ms).take (k + 1) = (sortO ms).take k ++ [(sortO ms)[k]]) := Lib.hid (List.take_succ_eq_append_getElem hks)
      have Hids : Hid (∀ x ∈ (sortO ms)[k] :: (sortO ms).drop (k + 1), 1 ≤ x.1 ∧ x.1 ≤ 99) := Lib.hid fun x hx => Hi.out x (hmem x (by rw [hdrop]; exact hx))
      obtain ⟨xa, xn, xc, hx⟩ := Hv.out _ (hmem (sortO ms)[k] (by rw [hdrop]; exact List.mem_cons_self))
      have hidk := Hids.out (sortO ms)[k] List.mem_cons_self
      clear hdrop hmem hsz0 hN hdis
      generalize (sortO ms)[k] = m at Hgt Hdk Htk Hids hx hidk
      clear hks
      obtain ⟨id, u, fs⟩ := m
      simp only at Hgt hx hidk
      subst hx
      have Hat : Hid (∀ z, D'.atKey (keyI id) z = .held (.agg #[.int .i64 id, .slice xa xn xc])) := Lib.hid fun z => Hdk.out.at_ (id, .slice xa xn xc, fs) List.mem_cons_self z
      have Hleast : Hid (∀ L : Int, (∃ x ∈ (id, Value.slice xa xn xc, fs) :: (sortO ms).drop (k + 1), x.1 = L) → (∀ x ∈ (id, Value.slice xa xn xc, fs) :: (sortO ms).drop (k + 1), L ≤ x.1) → id = L) := Lib.hid fun L ⟨x, hx, e⟩ hle => by
        have h1 := hle (id, .slice xa xn xc, fs) (by simp)
        simp only at h1
        rcases List.mem_cons.1 hx with rfl | hx
        · exact e
        · have := Hgt.out x hx; omega
      have Hflat : Hid (((sortO ms).take (k + 1)).flatMap msgC = ((sortO ms).take k).flatMap msgC ++ [.int .i64 id, .slice xa xn xc]) := Lib.hid (by rw [Htk.out]; simp [msgC])
      have Hdel : Hid (Dis (D'.del (keyI id)) ((sortO ms).drop (k + 1))) := Lib.hid (Hdk.out.del fun x hx => by have := Hgt.out x hx; omega)
      have hkey : keyOf Tryz.prog 3 (.int .i64 id) = some (keyI id) := Maps.keyOf_int_mk Tryz.underlying3 (WalkArith.wf_i64 (by omega))
      have Hkey := Lib.hid hkey
      have hrl := fun q hq => (World.ownsRow.lt hrow.out q hq)
      have Hrl := Lib.hid hrl
      have hol := hown.out.lt
      clear hkey hrl
      go_wp2_with (first
        | (at_len; refine wpList_len_own _ rfl _ 103 rfl 3 40 Tryz.underlying103 anyElem b r.length D' rfl hown.out ?_)
        | (go_at_call 66; refine (leastId_any b r.length D' _ _ hown.out Hdk.out (by simp) Hids.out).mono ?_; rintro e w4 ⟨⟨L, rfl, hLm, hLe⟩, hb4⟩; obtain rfl := Hleast.out L hLm hLe; clear hLm hLe; have Hown4 := Lib.hid (ownsMap_below hown.out hb4 hol); have Hrow4 := Lib.hid (ownsRow_below hrow.out hb4 fun q hq => (Hrl.out q hq).2); have hz4 := hb4.size; have hl4 := hbr.trans (hb4.mono hbr.size); have Hnew := Lib.hid (heap_alloc_new w4 (.cells #[.int .i64 id, .slice xa xn xc] 40)); clear hb4)
        | (at_lookup; refine wpList_lookup_dis _ rfl _ _ 103 rfl 3 40 lawI Tryz.underlying103 (zeroM _) b r.length D' rfl Hown4.out _ _ rfl Hkey.out _ Hat.out ?_)
        | (at_builtin; refine wpList_append_own _ rfl _ _ 24 rfl B 40 i0 _ 2 32 Tryz.underlying24 hi hz0 hz1 hz2 rfl (by decide) u4 k _ rfl (World.ownsRow.alloc Hrow4.out _) ⟨w4.heap.size, 0, none⟩ 1 1 [.int .i64 id, .slice xa xn xc] rfl rfl (fun j u hj => World.news_of_block Hnew.out j u hj) (by intro u hu; simp at hu; rcases hu with rfl | rfl <;> rfl) (by unfold maxLen; omega) (by omega) (by simp; omega) ?_; intro v5 w5 hown5 hg5 _; have Hrow5 := Lib.hid hown5; have Hmap5 := Lib.hid ((Hown4.out.alloc (.cells #[.int .i64 id, .slice xa xn xc] 40)).kept hg5 (fun e => by have := (Hrl.out b e.symm).1; omega)); have hl5 := (hl4.alloc hl4.size (.cells #[.int .i64 id, .slice xa xn xc] 40)).grown hg5 (by simp; omega) (fun q hq => by have := (Hrl.out q hq).1; omega); have hz5 : B ≤ w5.heap.size := (by have := hg5.size; simp at this; omega); clear hown5 hg5)
        | (at_delete; refine wpList_delete_own _ rfl _ _ 103 3 rfl 40 lawI Tryz.underlying103 _ b r.length D' rfl Hmap5.out _ _ rfl Hkey.out ?_; intro w6 hown6 ht6)
        | go_in)
      have hg6 := ht6.grown
      have Hrow6 : Hid (w6.ownsRow B 40 2 v5 (k + 1) (((sortO ms).take (k + 1)).flatMap msgC)) := Lib.hid (by
        rw [Hflat.out]
        refine Hrow5.out.kept hg6 (.inr fun e => ?_)
        have := (World.ownsRow.lt Hrow5.out b e).1
        omega)
      have Hmap6 := Lib.hid hown6
      have hl6 := hl5.grown hg6 hl5.size (fun q hq => by cases hq; exact hbw)
      have hz6 : B ≤ w6.heap.size := Nat.le_trans hz5 hg6.size
      clear hown6 ht6 hg6 hl4 hl5 hz4
      go_wp2_with fail
      have hgk : 0 < gk := by have := Hkg.out; omega
      go_roundg (gk - 1)
      case measure => omega
      case rel => exact ⟨k + 1, _, by have := Hkg.out; omega, Hrow6, Hmap6, Hdel, hl6, hz6⟩
    · have hsz : Maps.size D' = 0 := by omega
      obtain rfl : k = r.length := by have := Hkg.out; omega
      have Hf : Hid (((sortO ms).take r.length).flatMap msgC = (sortO ms).flatMap msgC) := Lib.hid (by rw [List.take_of_length_le (by rw [Hsl.out]; omega)])
      clear hsz0
      go_wp2_with (first
        | (at_len; refine wpList_len_own _ rfl _ 103 rfl 3 40 Tryz.underlying103 anyElem b r.length D' rfl hown.out ?_)
        | go_in)
      go_ret
      exact ⟨⟨B, _, rfl, hBw, by rw [← Hf.out]; exact hrow.out⟩, hbr⟩
end Go.Proofs.YthjnpipincpkgaaGreatDoor.Num

/-
  The program's sort of a shape's fields by Number: slices.SortFunc over the closure that fieldsFrom hands it, by the library's contract; the row holds the same fields, in order. Only the row is written, and new memory.
-/
namespace Go.Proofs.YthjnpipincpkgaaGreatDoor.Num
open Go.RowKit Go.Proofs Go Go.Sort
set_option linter.unusedVariables false
set_option linter.unusedSimpArgs false

def cmpF (x y : RF) : Int := if x.1 < y.1 then -1 else if y.1 < x.1 then 1 else 0
theorem isNaN_any (x : Int) (w : World) : Calls Tryz.prog 94 #[.int .i64 x] w fun e w' => e = .returned (.bool false) ∧ w = w' := by
  have h1 : (x != x) = false := by simp
  go_enter Tryz.func94, Tryz.ntmps94
  go_wp2_with fail
  go_ret
  exact ⟨rfl, rfl⟩
theorem compare_any (x y : Int) (w : World) : Calls Tryz.prog 69 #[.int .i64 x, .int .i64 y] w fun e w' => e = .returned (.int .i64 (if x < y then -1 else if y < x then 1 else 0)) ∧ w = w' := by
  by_cases h1 : x < y
  · rw [if_pos h1]
    go_enter Tryz.func69, Tryz.ntmps69
    go_wp2_with (go_at_call 94; refine (isNaN_any _ _).mono ?_; rintro e w1 ⟨rfl, rfl⟩)
    go_ret
    exact ⟨rfl, rfl⟩
  · rw [if_neg h1]
    have d1 : decide (x < y) = false := decide_eq_false h1
    by_cases h2 : y < x
    · rw [if_pos h2]
      clear h1
      go_enter Tryz.func69, Tryz.ntmps69
      go_wp2_with (go_at_call 94; refine (isNaN_any _ _).mono ?_; rintro e w1 ⟨rfl, rfl⟩)
      go_ret
      exact ⟨rfl, rfl⟩
    · rw [if_neg h2]
      have d2 : decide (y < x) = false := decide_eq_false h2
      clear h1 h2
      go_enter Tryz.func69, Tryz.ntmps69
      go_wp2_with (go_at_call 94; refine (isNaN_any _ _).mono ?_; rintro e w1 ⟨rfl, rfl⟩)
      go_ret
      exact ⟨rfl, rfl⟩
/-- The closure: the two fields are boxed, their numbers compared. -/
theorem closureF_any (x y : RF) (W : World) : Calls Tryz.prog 68 #[.agg (fieldC x).toArray, .agg (fieldC y).toArray] W fun e w' => e = .returned (.int .i64 (cmpF x y)) ∧ ∃ q os', w' = grow (W.drewN q) os' := by
  obtain ⟨A1, A2, A3, A4, A5⟩ := x
  obtain ⟨B1, B2, B3, B4, B5⟩ := y
  unfold cmpF fieldC
  simp only
  have hcon := fun W' => compare_any A1 B1 W'
  generalize (if A1 < B1 then -1 else if B1 < A1 then 1 else 0 : Int) = r at hcon ⊢
  go_enter Tryz.func68, Tryz.ntmps68
  go_wp2_with (go_at_call 69; refine (hcon _).mono ?_; rintro e w' ⟨rfl, rfl⟩)
  go_ret
  exact ⟨rfl, 0, _, by rw [alloc_eq_grow, alloc_eq_grow, grow_grow]; rfl⟩
theorem ltF (x y : RF) : ltOf cmpF x y = decide (x.1 < y.1) := by
  unfold ltOf cmpF
  by_cases h1 : x.1 < y.1
  · simp [h1]
  · by_cases h2 : y.1 < x.1 <;> simp [h1, h2]
theorem swoF : SWO (ltOf cmpF) where
  irrefl x := by rw [ltF]; simp
  trans x y z h1 h2 := by rw [ltF] at *; simp at *; omega
  ntrans x y z h1 h2 := by rw [ltF] at *; simp at *; omega
theorem lenF (n : Nat) (W : World) (h : n ≤ 12) : Calls Tryz.prog 93 #[.int .u64 n] W fun e w' => (∃ l : Int, e = .returned (.int .i64 l)) ∧ w' = W :=
  (Tryz.bits_Len n W (by omega) (by omega)).mono fun _ _ ⟨he, hw⟩ => ⟨⟨_, he⟩, hw⟩
theorem FRow.holdsK {w : World} {g : Nat} {l : List RF} (h : FRow w g l.length l.length l) : HoldsK fieldC 5 w g 0 l.toArray := by
  intro j hj
  obtain ⟨q, c, rfl, hc⟩ : ∃ q c, j = q * 5 + c ∧ c < 5 := ⟨j / 5, j % 5, by omega, Nat.mod_lt _ (by omega)⟩
  have hj5 : q * 5 + c < l.length * 5 := by simpa using hj
  have hi : q < l.length := by omega
  have e1 : (q * 5 + c) / 5 = q := by omega
  have e2 : (q * 5 + c) % 5 = c := by omega
  have hf := h.1.2 (q * 5 + c) hj5
  refine ⟨?_, by rw [Nat.zero_add]; exact hf.2⟩
  rw [Nat.zero_add, get_flatK _ _ _ _ (by simpa using hj5), e1, e2, show l.toArray[q]! = l[q] by simp [hi]]
  obtain ⟨c0, c1, c2, c3, c4⟩ := h.2 q hi hi
  match c, hc with
  | 0, _ => exact c0
  | 1, _ => exact c1
  | 2, _ => exact c2
  | 3, _ => exact c3
  | 4, _ => exact c4
theorem HoldsK.fRow {w : World} {g : Nat} {d : Array RF} (h : HoldsK fieldC 5 w g 0 d) (hg : g < w.heap.size) : FRow w g d.size d.size d.toList := by
  refine ⟨⟨hg, fun j hj => ?_⟩, fun i hi hk => ?_⟩
  · have := h j (by simpa using hj)
    rw [Nat.zero_add] at this
    exact ⟨⟨_, this.1⟩, this.2⟩
  · have hs : i < d.size := hk
    have e : d[i]! = d.toList[i] := by simp [hs]
    unfold cells5
    have c := fun (q : Nat) (hq : q < 5) => (h.cell (i := i) (c := q) hs hq).1
    rw [e] at c
    simp only [Nat.zero_add] at c
    exact ⟨c 0 (by omega), c 1 (by omega), c 2 (by omega), c 3 (by omega), c 4 (by omega)⟩
theorem sortZone {w : World} {g n : Nat} {d : Array RF} {os : Array Obj} : Zone g (g + 1) w (sortWorldK fieldC 5 w g 0 n d os) := by
  unfold sortWorldK
  refine ⟨rfl, rfl, rfl, by simp [putRowK], fun b hb hz => ?_⟩
  have hb2 : b < (putRowK fieldC 5 (Go.Sort.ahead w n) g 0 d).heap.size := by simpa [putRowK] using hb
  rw [heap_grow_old _ _ hb2]
  unfold putRowK putRow mapBlock
  show (w.heap.modify g _)[b]? = _
  rw [Array.getElem?_modify, if_neg (by omega)]
set_option maxHeartbeats 1000000 in
/-- The sort: the same fields, by Number. -/
theorem sortF_any (g cap : Nat) (l : List RF) (w : World) (h : FRow w g l.length l.length l) (hn : l.length ≤ 8) :
    Calls Tryz.prog 67 #[.slice (some ⟨g, 0, none⟩) l.length cap, .func (.func 68) #[] #[]] w fun e w' =>
      e = .returned (.tuple #[]) ∧ (∃ l' : List RF, l'.Perm l ∧ l'.Pairwise (fun a b => a.1 ≤ b.1) ∧ FRow w' g l.length l.length l') ∧ Zone g (g + 1) w w' := by
  have eg : ∀ args w, (callFunc 68 args).run Tryz.prog w = .ok (.enter 68 args) w := enters_of Tryz.func68 (by kernel_rfl) rfl
  have hH := h.holdsK
  have hcon := AnyQ.slices_SortFunc_small_sorted Tryz.laysSortF 5 Tryz.isAgg47 Tryz.sizeOf47 fieldC (fun _ => rfl) (fun x v hv => by simp [fieldC] at hv; rcases hv with rfl | rfl | rfl | rfl | rfl <;> rfl) cmpF 68 #[] swoF g 0 cap l.toArray w eg
    (fun _ _ _ _ x y => closureF_any x y _) hH h.1.1 (by simp; omega) lenF
  change Calls Tryz.prog 67 _ _ _ at hcon
  rw [show l.toArray.size = l.length by simp] at hcon
  refine hcon.mono ?_
  rintro e w' ⟨rfl, d', n, os, hp, hs, rfl⟩
  have hd : d'.size = l.length := by simpa using hp.1
  refine ⟨rfl, ⟨d'.toList, ?_, ?_, ?_⟩, sortZone⟩
  · have := hp.2.2
    rw [show d'.extract 0 l.length = d' by rw [← hd]; simp, show l.toArray.extract 0 l.length = l.toArray by simp] at this
    simpa using this
  · rw [List.pairwise_iff_getElem]
    intro i j hi hj hij
    have h1 := hs i j (Nat.zero_le _) hij (by rw [← hd]; simpa using hj)
    rw [ltF] at h1
    have hi' : i < d'.size := by simpa using hi
    have hj' : j < d'.size := by simpa using hj
    rw [show d'[i]! = d'.toList[i] by simp [hi'], show d'[j]! = d'.toList[j] by simp [hj']] at h1
    have := of_decide_eq_false h1
    omega
  · have hk := holdsK_sortWorldK_c fieldC 5 w g 0 l.toArray d' n os hH h.1.1 hp.1
    have hf := HoldsK.fRow hk (Nat.lt_of_lt_of_le h.1.1 (size_sortWorldK_c fieldC 5 w g 0 n d' os))
    rw [hd] at hf
    exact hf
end Go.Proofs.YthjnpipincpkgaaGreatDoor.Num

/-
  The walk of the program's fieldsFrom: a message's fields with the index of the shape in the place of its Id, sorted by Number, in a new row; only new memory is written.
-/
namespace Go.Proofs.YthjnpipincpkgaaGreatDoor.Num
open Go.RowKit Go.Proofs
set_option linter.unusedVariables false
set_option linter.unusedSimpArgs false

def convF (L : List RM) (f : RF) : RF := (f.1, f.2.1, f.2.2.1, f.2.2.2.1, shapeAtR L f.2.2.2.2)
theorem infoFld : (Tryz.prog.info? 47).map (fun i => (i.zero, i.size, i.bytes)) = some (some (.agg #[.int .i64 0, .int .i64 0, .bool false, .bool false, .int .i64 0]), 5, 32) := by kernel_rfl
theorem undrewF {w w' : World} (h : Below w.drew.heap.size w.drew w') : Below w.heap.size w w' := ⟨h.os, h.tape, h.output, h.size, h.block⟩
theorem FRow.putF {w : World} {g n k : Nat} {l : List RF} (h : FRow w g n k l) (hk : k < n) (hl : k < l.length) {A1 A2 A5 : Int} {A3 A4 : Bool} (e : l[k] = (A1, A2, A3, A4, A5)) :
    FRow (((((w.setCell ⟨g, k * 5, none⟩ (.int .i64 A1)).setCell ⟨g, k * 5 + 1, none⟩ (.int .i64 A2)).setCell ⟨g, k * 5 + 2, none⟩ (.bool A3)).setCell ⟨g, k * 5 + 3, none⟩ (.bool A4)).setCell ⟨g, k * 5 + 4, none⟩ (.int .i64 A5)) g n (k + 1) l := by
  have := h.put hk hl
  rw [e] at this
  exact this
theorem far5 {w : World} {g a b c d e : Nat} {v0 v1 v2 v3 v4 : Value} {p : Addr} {x : Value} (hp : p.block ≠ g) (h : w.cell? p = some x) :
    (((((w.setCell ⟨g, a, none⟩ v0).setCell ⟨g, b, none⟩ v1).setCell ⟨g, c, none⟩ v2).setCell ⟨g, d, none⟩ v3).setCell ⟨g, e, none⟩ v4).cell? p = some x := by
  rw [World.cell?_setCell_far _ _ _ _ (fun e => hp e.symm), World.cell?_setCell_far _ _ _ _ (fun e => hp e.symm), World.cell?_setCell_far _ _ _ _ (fun e => hp e.symm), World.cell?_setCell_far _ _ _ _ (fun e => hp e.symm), World.cell?_setCell_far _ _ _ _ (fun e => hp e.symm)]
  exact h
set_option maxHeartbeats 8000000 in
set_option maxRecDepth 100000 in
theorem fieldsFrom_any (id : Int) (u v : Value) (l : List RF) (L : List RM) (w : World) (S : Nat → Prop) (hS : ∀ b, S b → b < w.heap.size) (hu : FieldsAt w S u l) (hv : RawAt w S v L) (hl : l.length ≤ 8) (hL : L.length ≤ 1048576) :
    Calls Tryz.prog 34 #[.agg #[.int .i64 id, u], v] w fun e w' => (∃ (g cap : Nat) (l' : List RF), e = .returned (.slice (some ⟨g, 0, none⟩) l.length cap) ∧ w.heap.size ≤ g ∧ l'.Perm (l.map (convF L)) ∧ l'.Pairwise (fun a b => a.1 ≤ b.1) ∧ FieldsAt w' (· = g) (.slice (some ⟨g, 0, none⟩) l.length cap) l' ∧ Fill w' g (l.length * 5)) ∧ Below w.heap.size w w' := by
  obtain ⟨i0, hi, hz0, hz1, hz2⟩ := info_parts infoFld
  obtain ⟨a, cap, rfl⟩ := hu.len
  have Hraw := Lib.hid hv
  obtain ⟨vs, rfl, hv⟩ := hv
  obtain ⟨sa, sc, rfl⟩ := hv.len
  have H := Lib.hid hu
  have HS := Lib.hid hS
  have hLen : Hid ((l.map (convF L)).length = l.length) := Lib.hid (by simp)
  clear hu hv hS
  have hb2 : Below w.heap.size w ((w.alloc (.cells #[.int .i64 id, .slice a l.length cap] 40)).alloc (.cells #[.slice sa L.length sc] 30)) := ((Below.refl _ _).alloc (Nat.le_refl _) _).alloc (by simp) _
  have hm2 : Box ((w.alloc (.cells #[.int .i64 id, .slice a l.length cap] 40)).alloc (.cells #[.slice sa L.length sc] 30)) w.heap.size [.int .i64 id, .slice a l.length cap] := (Box.fresh _ _ _).alloc _
  have hx2 : Box ((w.alloc (.cells #[.int .i64 id, .slice a l.length cap] 40)).alloc (.cells #[.slice sa L.length sc] 30)) (w.heap.size + 1) [.slice sa L.length sc] := Box.freshB
  go_enter Tryz.func34, Tryz.ntmps34
  go_wp2_with (refine wpList_make_full _ rfl _ _ 41 rfl (w.heap.size + 1 + 1) 47 i0 _ 5 Tryz.underlying41 hi hz0 hz1 .i64 .i64 _ _ l.length rfl rfl rfl rfl (by rw [hz2]; omega) (by unfold maxLen; omega) (by simp) ?_; intro w1 hown hgr; have hm1 := Box.grown hgr hm2 (fun k hk => by cases hk); obtain ⟨m0, m1, _⟩ := hm1.two)
  have hrow : FRow w1 (w.heap.size + 1 + 1) l.length 0 (l.map (convF L)) := by simpa using FRow.start (l := l.map (convF L)) hown
  have hx1 : Box w1 (w.heap.size + 1) [.slice sa L.length sc] := Box.grown hgr hx2 (fun k hk => by cases hk)
  have hl1 : Below w.heap.size w w1 := hb2.grown hgr (by simp; omega) (fun k hk => by cases hk)
  clear hown hgr hi hz0 hz1 hz2 hm2 hx2 hb2
  go_loopw [15] (fun i wr => ∃ k : Nat, k ≤ l.length ∧ i = .int .i64 k ∧ Hid (FRow wr (w.heap.size + 1 + 1) l.length k (l.map (convF L))) ∧ Hid (Box wr (w.heap.size + 1) [.slice sa L.length sc]) ∧ Below w.heap.size w wr) (fun i _ => l.length - (intOf i).toNat)
  case atStart => exact ⟨0, by omega, rfl, Lib.hid hrow, Lib.hid hx1, hl1⟩
  case round =>
    clear hrow hx1 hl1 m0 m1 hm1
    obtain ⟨k, hk, rfl, hrow, hbx, hbr⟩ := hrel
    have hzz : w.heap.size + 1 + 1 < wr.heap.size := hrow.out.1.1
    by_cases hlt : k < l.length
    · have hlti : (k : Int) < (l.length : Int) := by omega
      obtain ⟨b, o, cap', hv, hbS, hcs⟩ := H.out.cells (by omega)
      obtain ⟨rfl, rfl⟩ : a = some ⟨b, o, none⟩ ∧ cap = cap' := by injection hv with e1 e2 e3; exact ⟨e1, e3⟩
      have hbC := HS.out _ hbS
      obtain ⟨c0, c1, c2, c3, c4⟩ := hcs k hlt
      have hkL : k < (l.map (convF L)).length := by rw [hLen.out]; exact hlt
      have HkL := Lib.hid hkL
      have He : Hid ((l.map (convF L))[k] = convF L l[k]) := Lib.hid (List.getElem_map ..)
      clear hcs hv hbS hkL
      rw [← hbr.cell (p := ⟨b, _, none⟩) hbC] at c0 c1 c2 c3 c4
      have hbw : b < wr.heap.size := Nat.lt_of_lt_of_le hbC hbr.size
      generalize l[k] = f at c0 c1 c2 c3 c4 He
      obtain ⟨A1, A2, A3, A4, A5⟩ := f
      simp only at c0 c1 c2 c3 c4
      have hb3 : Below wr.heap.size wr (wr.alloc (.cells #[.int .i64 A1, .int .i64 A2, .bool A3, .bool A4, .int .i64 A5] 45)) := (Below.refl _ _).alloc (Nat.le_refl _) _
      have hf3 := Box.fresh wr #[.int .i64 A1, .int .i64 A2, .bool A3, .bool A4, .int .i64 A5] 45
      have hx3 := hbx.out.alloc (.cells #[.int .i64 A1, .int .i64 A2, .bool A3, .bool A4, .int .i64 A5] 45)
      have hl3 : Below w.heap.size w (wr.alloc (.cells #[.int .i64 A1, .int .i64 A2, .bool A3, .bool A4, .int .i64 A5] 45)) := hbr.trans (hb3.mono hbr.size)
      go_upto_region 5 with fail
      generalize wr.alloc (.cells #[.int .i64 A1, .int .i64 A2, .bool A3, .bool A4, .int .i64 A5] 45) = wq at hb3 hf3 hx3 hl3 ⊢
      obtain ⟨X, hX⟩ : ∃ X, shapeAtR L A5 = X := ⟨_, rfl⟩
      have Hb : Hid (convF L (A1, A2, A3, A4, A5) = (A1, A2, A3, A4, X)) := Lib.hid (by unfold convF; simp only [hX])
      have Hcall := Lib.hid (implShapeAt_in (.agg #[.slice sa L.length sc]) L A5 wq.drew S (fun b h => Nat.lt_of_lt_of_le (HS.out b h) hl3.drew.size) (Hraw.out.keep (.of_below hl3.drew HS.out) fun _ h => h) hL)
      rw [hX] at Hcall
      have hf3z := hf3.1
      have hx3z := hx3.1
      have hgq : w.heap.size + 1 + 1 < wq.heap.size := Nat.lt_of_lt_of_le hzz hb3.size
      have Hf3 := Lib.hid hf3
      have Hx3 := Lib.hid hx3
      obtain ⟨⟨f0, f1, f2, f3, f4⟩, _⟩ := Box.five hf3
      obtain ⟨s0, _⟩ := hx3.one
      have hne1 : wr.heap.size ≠ w.heap.size + 1 + 1 := by omega
      have hne2 : w.heap.size + 1 ≠ w.heap.size + 1 + 1 := by omega
      clear hf3 hx3 hX c0 c1 c2 c3 c4
      go_region_held3 (fun w' => w'.cell? ⟨wr.heap.size, 0, none⟩ = some (.int .i64 A1) ∧ w'.cell? ⟨wr.heap.size, 1, none⟩ = some (.int .i64 A2) ∧ w'.cell? ⟨wr.heap.size, 2, none⟩ = some (.bool A3) ∧ w'.cell? ⟨wr.heap.size, 3, none⟩ = some (.bool A4) ∧ w'.cell? ⟨wr.heap.size, 4, none⟩ = some (.int .i64 A5) ∧ w'.cell? ⟨w.heap.size + 1, 0, none⟩ = some (.slice sa L.length sc))
        (first | with_reducible exact ⟨f0, f1, f2, f3, f4, s0⟩ | with_reducible exact ⟨n0, n1, n2, n3, n4, s8⟩ | with_reducible exact ⟨far5 hne1 n0, far5 hne1 n1, far5 hne1 n2, far5 hne1 n3, far5 hne1 n4, far5 hne2 s8⟩ | exact ⟨f0, f1, f2, f3, f4, s0⟩)
        (first | (go_at_call 12; refine Hcall.out.mono ?_; rintro e w8 ⟨rfl, hb8⟩; have hb9 := undrewF hb8; have hf8 := Hf3.out.below hb9 hf3z; obtain ⟨⟨n0, n1, n2, n3, n4⟩, _⟩ := Box.five hf8; have hx8 := Hx3.out.below hb9 hx3z; obtain ⟨s8, _⟩ := hx8.one; have hr8 := hrow.out.below (hb3.trans (hb9.mono hb3.size)) hzz; obtain ⟨v0, v1, v2, v3, v4, t0, t1, t2, t3, t4, g0, g1, g2, g3, g4⟩ := hr8.1.slots5 hlt))
      all_goals
        have Hput := Lib.hid (hr8.putF hlt HkL.out (He.out.trans Hb.out))
        have hl9 := hl3.trans (hb9.mono hl3.size)
        have Hx8 := Lib.hid hx8
        clear hf8 hx8 hr8 n0 n1 n2 n3 n4 s8 hb8 hb9 t0 t1 t2 t3 t4 g0 g1 g2 g3 g4
        go_wp2_with fail
        go_roundw
        case rel =>
          refine ⟨k + 1, by omega, by go_num, Hput, Lib.hid ?_, ?_⟩
          · repeat (first | exact Hx8.out | refine Box.other ?_ (by simp <;> omega) _)
          · repeat (first | exact hl9 | refine Below.setCell ?_ (by simp; omega) _)
        case measure => simp [intOf]; omega
    · have hge : (l.length : Int) ≤ (k : Int) := by omega
      have hend : decide (k < l.length) = false := decide_eq_false hlt
      obtain rfl : k = l.length := by omega
      have Hs := sortF_any (w.heap.size + 1 + 1) l.length (l.map (convF L)) wr (by rw [hLen.out]; exact hrow.out) (by rw [hLen.out]; exact hl)
      rw [hLen.out] at Hs
      have HHs := Lib.hid Hs
      clear Hs
      go_wp2_with fail
      refine HHs.out.mono ?_
      rintro e w2 ⟨rfl, ⟨l', hp, hs, hr⟩, hz⟩
      have hb3 := hz.below (B := w.heap.size) (by omega) hbr.size
      have Hp := Lib.hid hp
      have Hso := Lib.hid hs
      have Hr := Lib.hid hr
      have hl2 : Below w.heap.size w w2 := hbr.trans hb3
      have Hlen2 : Hid (l'.length = l.length) := Lib.hid (by rw [hp.length_eq, hLen.out])
      clear hp hs hr hz hb3
      go_wp2_with fail
      go_ret
      refine ⟨⟨w.heap.size + 1 + 1, l.length, l', rfl, by omega, Hp.out, Hso.out, ?_, Hr.out.1⟩, hl2⟩
      have h := Hr.out
      rw [← Hlen2.out] at h
      have h2 := h.done l.length (by rw [Hlen2.out]; omega)
      rw [Hlen2.out] at h2
      exact h2
end Go.Proofs.YthjnpipincpkgaaGreatDoor.Num

/-
  Compiling by sorting: the plain facts that link the program's way (messages sorted by Id, fields sorted by Number, references looked up) with the reference's (ranks, fields put in their places). For any program.
-/
namespace Go.Proofs.YthjnpipincpkgaaGreatDoor.Num
open Go.RowKit Go.Proofs
set_option linter.unusedVariables false
set_option linter.unusedSimpArgs false

theorem rank_sorted {r sr : List RM} (hp : sr.Perm r) (hs : sr.Pairwise fun m n => m.1 < n.1) (i : Nat) (hi : i < sr.length) : rankR r sr[i].1 = i := by
  unfold rankR
  rw [← (hp.filter _).length_eq]
  have h := List.pairwise_iff_getElem.1 hs
  obtain ⟨x, hx⟩ : ∃ x, sr[i].1 = x := ⟨_, rfl⟩
  have g1 : ∀ j (hj : j < sr.length), j < i → sr[j].1 < x := fun j hj hji => by rw [← hx]; exact h j i hj hi hji
  have g2 : ∀ j (hj : j < sr.length), i ≤ j → ¬ sr[j].1 < x := fun j hj hij => by
    rw [← hx]
    by_cases e : i = j
    · subst e; omega
    · have := h i j hi hj (by omega); omega
  rw [hx]
  clear hx
  have e : (sr.filter fun m => decide (m.1 < x)) = (sr.take i ++ sr.drop i).filter fun m => decide (m.1 < x) := by rw [List.take_append_drop]
  have h1 : (sr.take i).filter (fun m => decide (m.1 < x)) = sr.take i := List.filter_eq_self.2 fun m hm => by
    obtain ⟨j, hj, rfl⟩ := List.mem_take_iff_getElem.1 hm
    exact decide_eq_true (g1 j (by omega) (by omega))
  have h2 : (sr.drop i).filter (fun m => decide (m.1 < x)) = [] := List.filter_eq_nil_iff.2 fun m hm => by
    obtain ⟨j, hj, rfl⟩ := List.mem_drop_iff_getElem.1 hm
    simp only [decide_eq_true_eq]
    exact g2 _ (by omega) (by omega)
  rw [e, List.filter_append, h1, h2, List.append_nil, List.length_take]
  omega
theorem compileR_sorted {r sr : List RM} (hp : sr.Perm r) (hs : sr.Pairwise fun m n => m.1 < n.1) : compileR r = sr.map fun m => (m.1, compFs r m.2) := by
  have hd : r.Pairwise fun m n => m.1 ≠ n.1 := (hp.pairwise_iff (fun {a b} (h : a.1 ≠ b.1) => h.symm)).1 (hs.imp fun h => by omega)
  refine List.ext_getElem (by rw [compileR_len, List.length_map, hp.length_eq]) fun i h1 h2 => ?_
  have hi : i < sr.length := by simpa using h2
  have hm : sr[i] ∈ r := hp.mem_iff.1 (List.getElem_mem hi)
  have := compileR_at hd hm
  rw [rank_sorted hp hs i hi, List.getElem?_eq_getElem h1] at this
  rw [List.getElem_map]
  exact Option.some.inj this
/-- Where a shape with an Id of the description lies. -/
theorem shapeAt_rank {r sr L : List RM} (hp : sr.Perm r) (hs : sr.Pairwise fun m n => m.1 < n.1) (hl : L.map (·.1) = sr.map (·.1)) {x : RM} (hx : x ∈ r) : shapeAtR L x.1 = (rankR r x.1 : Int) := by
  obtain ⟨i, hi, rfl⟩ := List.getElem_of_mem (hp.mem_iff.2 hx)
  rw [rank_sorted hp hs i hi]
  have hlen : L.length = sr.length := by have := congrArg List.length hl; simpa using this
  have he : ∀ j (hj : j < L.length), L[j].1 = (sr[j]'(by omega)).1 := fun j hj => by
    have h1 : (L.map (·.1))[j]'(by simpa using hj) = (sr.map (·.1))[j]'(by simp; omega) := List.getElem_of_eq hl _
    simpa using h1
  refine shapeAt_yes (by omega) (he i (by omega)) fun j hj hji e => ?_
  rw [he j hj] at e
  have := (List.pairwise_iff_getElem.1 hs) j i (by omega) hi hji
  omega
theorem shapeAt_none {r sr L : List RM} (hp : sr.Perm r) (hl : L.map (·.1) = sr.map (·.1)) {x : Int} (hx : ∀ m ∈ r, m.1 ≠ x) : shapeAtR L x = -1 := by
  refine shapeAt_no fun j hj e => ?_
  have hm : L[j].1 ∈ sr.map (·.1) := by rw [← hl]; exact List.mem_map.2 ⟨L[j], List.getElem_mem hj, rfl⟩
  obtain ⟨m, hm, he⟩ := List.mem_map.1 hm
  exact hx m (hp.mem_iff.1 hm) (he.trans e)
/-- A field with the index that the program looks up. -/
def convR (L : List RM) (f : RF) : RF := (f.1, f.2.1, f.2.2.1, f.2.2.2.1, shapeAtR L f.2.2.2.2)
theorem AllB.pos {r : List RM} (h : AllB r r.length) {m : RM} (hm : m ∈ r) : (1 ≤ m.1 ∧ m.1 ≤ 99) ∧ m.2.length ≤ 8 := by
  obtain ⟨k, hk, rfl⟩ := List.getElem_of_mem hm
  have h1 := (h k hk hk).1
  rw [msgCode_in hk] at h1
  exact ⟨(msgCode_zero.1 h1).1, (msgCode_zero.1 h1).2.2⟩
theorem conv_comp {r sr L : List RM} (ha : AllB r r.length) (hp : sr.Perm r) (hs : sr.Pairwise fun m n => m.1 < n.1) (hl : L.map (·.1) = sr.map (·.1)) {m : RM} (hm : m ∈ r) {f : RF} (hf : f ∈ m.2) : convR L f = compF r f := by
  obtain ⟨k, hk, rfl⟩ := List.getElem_of_mem hm
  obtain ⟨j, hj, rfl⟩ := List.getElem_of_mem hf
  have h1 := (ha k hk hk).2 j hj
  rw [fieldCode_in hk hj] at h1
  obtain ⟨_, _, _, _, g5, g6⟩ := fieldCode_zero.1 h1
  unfold convR compF
  by_cases e : r[k].2[j].2.1 = 8
  · rw [if_pos e]
    obtain ⟨q, hq, he⟩ := hasId_true (g5 e)
    rw [← he, shapeAt_rank hp hs hl (List.getElem_mem hq)]
  · rw [if_neg e, g6 e, shapeAt_none hp hl fun m hm => by have := (ha.pos hm).1; omega]
theorem foldPut_perm (r : List RM) : ∀ (l acc : List RF), (l.foldl (fun acc f => putR acc (compF r f)) acc).Perm (acc ++ l.map (compF r))
  | [], acc => by simp
  | f :: l, acc => by
    rw [List.foldl_cons]
    refine (foldPut_perm r l _).trans ?_
    have h : (putR acc (compF r f)).Perm (compF r f :: acc) := by
      unfold putR
      have := List.takeWhile_append_dropWhile (p := fun g : RF => decide (g.1 < (compF r f).1)) (l := acc)
      refine List.perm_middle.trans ?_
      rw [this]
    refine (h.append_right _).trans ?_
    simp only [List.map_cons]
    exact List.perm_middle.symm
theorem compFs_perm (r : List RM) (l : List RF) : (compFs r l).Perm (l.map (compF r)) := by
  have := foldPut_perm r l []
  simpa [compFs] using this
/-- What the program's sort leaves is what the reference puts in place. -/
theorem sorted_fields {r sr L : List RM} (ha : AllB r r.length) (hp : sr.Perm r) (hs : sr.Pairwise fun m n => m.1 < n.1) (hl : L.map (·.1) = sr.map (·.1)) {m : RM} (hm : m ∈ r) {l' : List RF} (h1 : l'.Perm (m.2.map (convR L))) (h2 : l'.Pairwise fun a b => a.1 ≤ b.1) : l' = compFs r m.2 := by
  have e : m.2.map (convR L) = m.2.map (compF r) := List.map_congr_left fun f hf => conv_comp ha hp hs hl hm hf
  rw [e] at h1
  have hp2 : l'.Perm (compFs r m.2) := h1.trans (compFs_perm r m.2).symm
  have hsort := compFs_sorted r m.2 (ha.nums hm)
  refine List.Perm.eq_of_pairwise (le := fun a b : RF => a.1 ≤ b.1) (fun a b ha' hb hab hba => ?_) h2 (hsort.imp fun h => by omega) hp2
  have ha2 := hp2.mem_iff.1 ha'
  obtain ⟨i, hi, rfl⟩ := List.getElem_of_mem ha2
  obtain ⟨j, hj, rfl⟩ := List.getElem_of_mem hb
  have h := List.pairwise_iff_getElem.1 hsort
  rcases Nat.lt_trichotomy i j with c | c | c
  · have := h i j hi hj c; omega
  · subst c; rfl
  · have := h j i hj hi c; omega
end Go.Proofs.YthjnpipincpkgaaGreatDoor.Num

/-
  A row of shapes that is being laid: Ids first, then each shape's fields in a block of its own. For any program.
-/
namespace Go.Proofs.YthjnpipincpkgaaGreatDoor.Num
open Go.RowKit Go.Proofs
set_option linter.unusedVariables false
set_option linter.unusedSimpArgs false

def FLay (w : World) (gs : Nat) (m : OM) : Prop := (m.2.1 = .slice none 0 0 ∧ m.2.2 = []) ∨ ∃ g c, m.2.1 = .slice (some ⟨g, 0, none⟩) m.2.2.length c ∧ gs < g ∧ g < w.heap.size ∧ FieldsAt w (· = g) (.slice (some ⟨g, 0, none⟩) m.2.2.length c) m.2.2 ∧ Fill w g (m.2.2.length * 5)
structure SLay (w : World) (gs n : Nat) (os : List OM) : Prop where
  len : os.length = n
  fill : Fill w gs (n * 2)
  vals : ∀ j (h : j < os.length), w.cell? ⟨gs, j * 2, none⟩ = some (.int .i64 os[j].1) ∧ w.cell? ⟨gs, j * 2 + 1, none⟩ = some os[j].2.1
  flds : ∀ j (h : j < os.length), FLay w gs os[j]
  each : ∀ i j (hi : i < os.length) (hj : j < os.length), i ≠ j → Apart os[i].2.1 os[j].2.1
theorem FLay.below {w w' : World} {gs : Nat} {m : OM} (h : FLay w gs m) (hb : Below w.heap.size w w') : FLay w' gs m := by
  rcases h with h | ⟨g, c, h1, h2, h3, h4, h5⟩
  · exact .inl h
  · exact .inr ⟨g, c, h1, h2, Nat.lt_of_lt_of_le h3 hb.size, h4.keep (.of_below hb fun b hb => by subst hb; exact h3) fun _ h => h, h5.below hb h3⟩
theorem FLay.other {w : World} {gs : Nat} {m : OM} (h : FLay w gs m) {o : Nat} (v : Value) : FLay (w.setCell ⟨gs, o, none⟩ v) gs m := by
  rcases h with h | ⟨g, c, h1, h2, h3, h4, h5⟩
  · exact .inl h
  · exact .inr ⟨g, c, h1, h2, by simpa [World.setCell] using h3, h4.keep (.of_set _ (by simp; omega)) fun _ h => h, h5.off (by simp; omega) _⟩
theorem SLay.below {w w' : World} {gs n : Nat} {os : List OM} (h : SLay w gs n os) (hb : Below w.heap.size w w') : SLay w' gs n os :=
  ⟨h.len, h.fill.below hb h.fill.1, fun j hj => ⟨(hb.cell (p := ⟨gs, _, none⟩) h.fill.1).trans (h.vals j hj).1, (hb.cell (p := ⟨gs, _, none⟩) h.fill.1).trans (h.vals j hj).2⟩, fun j hj => (h.flds j hj).below hb, h.each⟩
theorem SLay.off {w : World} {gs n : Nat} {os : List OM} (h : SLay w gs n os) {p : Addr} (hp : p.block < gs) (v : Value) : SLay (w.setCell p v) gs n os := by
  refine ⟨h.len, h.fill.off (by omega) _, fun j hj => ⟨?_, ?_⟩, fun j hj => ?_, h.each⟩
  · rw [World.cell?_setCell_other _ _ _ _ (by intro e; rw [e] at hp; simp at hp)]; exact (h.vals j hj).1
  · rw [World.cell?_setCell_other _ _ _ _ (by intro e; rw [e] at hp; simp at hp)]; exact (h.vals j hj).2
  · rcases h.flds j hj with h | ⟨g, c, h1, h2, h3, h4, h5⟩
    · exact .inl h
    · exact .inr ⟨g, c, h1, h2, by simpa [World.setCell] using h3, h4.keep (.of_set _ (by show ¬ p.block = g; omega)) fun _ h => h, h5.off (by omega) _⟩
theorem SLay.setId {w : World} {gs n : Nat} {os : List OM} (h : SLay w gs n os) (i : Nat) (hi : i < os.length) (id : Int) : SLay (w.setCell ⟨gs, i * 2, none⟩ (.int .i64 id)) gs n (os.set i (id, os[i].2)) := by
  have hin : i * 2 < n * 2 := by have := h.len; omega
  have hval : ∀ j (hj : j < os.length), (os.set i (id, os[i].2))[j]'(by simpa using hj) = if i = j then (id, os[i].2) else os[j] := fun j hj => List.getElem_set _
  have hsnd : ∀ j (hj : j < os.length), ((os.set i (id, os[i].2))[j]'(by simpa using hj)).2 = os[j].2 := fun j hj => by
    rw [hval j hj]
    split
    · rename_i e; subst e; rfl
    · rfl
  refine ⟨by simpa using h.len, h.fill.set _ _, fun j hj => ?_, fun j hj => ?_, fun a b ha hb hab => ?_⟩
  · have hj' : j < os.length := by simpa using hj
    rw [hsnd j hj']
    refine ⟨?_, by rw [cell_off (by omega)]; exact (h.vals j hj').2⟩
    rw [hval j hj']
    split
    · rename_i e; subst e; exact h.fill.same hin _
    · rw [cell_off (by omega)]; exact (h.vals j hj').1
  · have hj' : j < os.length := by simpa using hj
    have := (h.flds j hj').other (o := i * 2) (.int .i64 id)
    unfold FLay at this ⊢
    rw [hsnd j hj']
    exact this
  · have ha' : a < os.length := by simpa using ha
    have hb' : b < os.length := by simpa using hb
    rw [hsnd a ha', hsnd b hb']
    exact h.each a b ha' hb' hab
/-- A shape's fields, in a block newer than all that lay there. -/
theorem SLay.setF {w0 w : World} {gs n g c : Nat} {os : List OM} {fs : List RF} (h0 : SLay w0 gs n os) (hb0 : Below w0.heap.size w0 w) (i : Nat) (hi : i < os.length) (hg : w0.heap.size ≤ g) (hgw : g < w.heap.size) (hf : FieldsAt w (· = g) (.slice (some ⟨g, 0, none⟩) fs.length c) fs) (hF : Fill w g (fs.length * 5)) :
    SLay (w.setCell ⟨gs, i * 2 + 1, none⟩ (.slice (some ⟨g, 0, none⟩) fs.length c)) gs n (os.set i (os[i].1, .slice (some ⟨g, 0, none⟩) fs.length c, fs)) := by
  have h := h0.below hb0
  have hgs : gs < w0.heap.size := h0.fill.1
  have hin : i * 2 + 1 < n * 2 := by have := h.len; omega
  have hold : ∀ j (hj : j < os.length) b, os[j].2.1.ownBlock = some b → b < w0.heap.size := fun j hj b e => by
    rcases h0.flds j hj with ⟨h1, _⟩ | ⟨g', c', h1, h2, h3, _⟩
    · rw [h1] at e; cases e
    · rw [h1] at e; obtain rfl : g' = b := Option.some.inj e; exact h3
  have hval : ∀ j (hj : j < os.length), (os.set i (os[i].1, .slice (some ⟨g, 0, none⟩) fs.length c, fs))[j]'(by simpa using hj) = if i = j then (os[i].1, .slice (some ⟨g, 0, none⟩) fs.length c, fs) else os[j] := fun j hj => List.getElem_set _
  have new : ∀ j (hj : j < os.length), Apart os[j].2.1 (.slice (some ⟨g, 0, none⟩) fs.length c) ∧ Apart (.slice (some ⟨g, 0, none⟩) fs.length c) os[j].2.1 := fun j hj => by
    refine ⟨?_, ?_⟩
    · cases hb : os[j].2.1.ownBlock with
      | none => exact .inl hb
      | some b => exact .inr fun e => by have h1 := hold j hj b hb; rw [hb] at e; have h2 : b = g := Option.some.inj e; omega
    · refine .inr fun e => ?_
      have h1 := hold j hj g e.symm
      omega
  refine ⟨by simpa using h.len, h.fill.set _ _, fun j hj => ?_, fun j hj => ?_, fun a b ha hb hab => ?_⟩
  · have hj' : j < os.length := by simpa using hj
    rw [hval j hj']
    split
    · rename_i e; subst e
      exact ⟨by rw [cell_off (by omega)]; exact (h.vals i hi).1, h.fill.same hin _⟩
    · rename_i e
      exact ⟨by rw [cell_off (by omega)]; exact (h.vals j hj').1, by rw [cell_off (by omega)]; exact (h.vals j hj').2⟩
  · have hj' : j < os.length := by simpa using hj
    rw [hval j hj']
    split
    · exact .inr ⟨g, c, rfl, by omega, by simpa [World.setCell] using hgw, hf.keep (.of_set _ (by simp; omega)) fun _ h => h, hF.off (by simp; omega) _⟩
    · exact (h.flds j hj').other _
  · have ha' : a < os.length := by simpa using ha
    have hb' : b < os.length := by simpa using hb
    rw [hval a ha', hval b hb']
    split
    · split
      · omega
      · exact (new b hb').2
    · split
      · exact (new a ha').1
      · exact h.each a b ha' hb' hab
theorem SLay.msgsAt {w : World} {gs n cap : Nat} {os : List OM} (h : SLay w gs n os) (hc : n ≤ cap) : MsgsAt w (fun b => gs ≤ b ∧ b < w.heap.size) (.slice (some ⟨gs, 0, none⟩) n cap) (plain os) := by
  have hl := h.len
  by_cases h0 : os = []
  · subst h0
    obtain rfl : n = 0 := by simpa using hl.symm
    exact .inl ⟨rfl, _, cap, rfl⟩
  · have hp : 0 < os.length := List.length_pos_iff.2 h0
    refine .inr ⟨gs, 0, cap, by rw [show (plain os).length = n by simp [plain, hl]], ⟨by simpa [plain] using hp, by simp [plain]; omega⟩, ⟨Nat.le_refl _, h.fill.1⟩, fun i hi => ?_⟩
    have hi' : i < os.length := by simpa [plain] using hi
    have hpl : (plain os)[i] = (os[i].1, os[i].2.2) := by simp [plain]
    obtain ⟨e0, e1⟩ := h.vals i hi'
    refine ⟨[.int .i64 os[i].1, os[i].2.1], rfl, ⟨os[i].2.1, by rw [hpl], ?_⟩, fun j hj => ?_⟩
    · rw [hpl]
      rcases h.flds i hi' with ⟨h1, h2⟩ | ⟨g, c, h1, h2, h3, h4, _⟩
      · exact .inl ⟨h2, none, 0, h1⟩
      · rw [h1]; exact h4.keep (fun _ _ _ => rfl) fun b hb => by subst hb; exact ⟨by omega, h3⟩
    · rw [Nat.zero_add]
      have hj2 : j < 2 := hj
      match j, hj2 with
      | 0, _ => exact e0
      | 1, _ => exact e1
theorem SLay.ownIn {w : World} {gs n cap : Nat} {os : List OM} (h : SLay w gs n os) (hc : n ≤ cap) : OwnIn w gs w.heap.size (.slice (some ⟨gs, 0, none⟩) n cap) os := by
  have hl := h.len
  refine ⟨fun b hb => ?_, fun j hj b hb => ?_, h.msgsAt hc, .inr ⟨gs, cap, by rw [hl], ⟨by rw [hl]; exact h.fill, fun j hj => (h.vals j hj).2, fun j hj => ?_, h.each⟩⟩⟩
  · obtain rfl : gs = b := Option.some.inj hb; exact ⟨Nat.le_refl _, h.fill.1⟩
  · rcases h.flds j hj with ⟨h1, _⟩ | ⟨g, c, h1, h2, h3, _⟩
    · rw [h1] at hb; cases hb
    · rw [h1] at hb; obtain rfl : g = b := Option.some.inj hb; omega
  · rcases h.flds j hj with h1 | ⟨g, c, h1, h2, h3, h4, h5⟩
    · exact .inl h1
    · exact .inr ⟨g, c, h1, by omega, h5⟩
theorem SLay.made {w : World} {B gs n : Nat} {TM : TypeId} (h : w.ownsRow B TM 2 (.slice (some ⟨gs, 0, none⟩) n n) n (madeCells #[.int .i64 0, .slice none 0 0] (n * 2)).toList) : SLay w gs n (List.replicate n (0, .slice none 0 0, [])) := by
  have hf := Fill.own h
  rw [made_two] at h
  refine ⟨by simp, hf, fun j hj => ?_, fun j hj => .inl ?_, fun i j hi hj _ => .inl ?_⟩
  · have hn : j < n := by simpa using hj
    have hc := fun q (hq : q < 2) => h.cellAt (j * 2 + q) (by omega)
    have hx := fun q (hq : q < 2) => flat_get (f := msgC) (sz := 2) (fun _ => rfl) (List.replicate n ((0, .slice none 0 0, []) : OM)) j (by simpa using hn) q hq
    have c0 := hc 0 (by omega)
    have c1 := hc 1 (by omega)
    rw [hx 0 (by omega)] at c0
    rw [hx 1 (by omega)] at c1
    simp only [List.getElem_replicate] at c0 c1 ⊢
    exact ⟨c0, c1⟩
  · simp only [List.getElem_replicate]; trivial
  · simp only [List.getElem_replicate]; rfl
end Go.Proofs.YthjnpipincpkgaaGreatDoor.Num

/-
  The walk of the program's Compile: the first violation, or the shapes in the order of their Ids, each in memory of the call's own.
-/
namespace Go.Proofs.YthjnpipincpkgaaGreatDoor.Num
open Go.RowKit Go.Proofs
set_option linter.unusedVariables false
set_option linter.unusedSimpArgs false

theorem infoShpI : (Tryz.prog.info? 43).map (fun i => (i.zero, i.size, i.bytes)) = some (some (.agg #[.int .i64 0, .slice none 0 0]), 2, 32) := by kernel_rfl
theorem First.good {r : List RM} (h : First r (0, 0, 0)) : r.length ≤ 6 ∧ AllB r r.length := by
  rcases h with ⟨_, h⟩ | ⟨h6, ⟨ha, _⟩ | ⟨i, hi, _, hc, h⟩ | ⟨i, q, hi, _, _, _, _, hc, h⟩⟩
  · injection h with h _; omega
  · exact ⟨h6, ha⟩
  · injection h with h _; exact absurd h.symm hc
  · injection h with h _; exact absurd h.symm hc
/-- What stands while the shapes are laid: the call's variables, the messages in order, the shapes so far. -/
structure KSt (wr : World) (B P gs n : Nat) (va : Option Addr) (sm os : List OM) : Prop where
  X : Box wr (B + 1) [.slice none 0 0]
  O : Box wr (B + 1 + 1) [.int .i64 0, .int .i64 0, .int .i64 0]
  S : Box wr P [.slice (some ⟨gs, 0, none⟩) n n]
  L : SLay wr gs n os
  M : ∀ i (hi : i < sm.length), ∃ mg, va = some ⟨mg, 0, none⟩ ∧ mg < gs ∧ wr.cell? ⟨mg, i * 2, none⟩ = some (.int .i64 sm[i].1) ∧ wr.cell? ⟨mg, i * 2 + 1, none⟩ = some sm[i].2.1
  lt : B + 1 + 1 < gs ∧ gs < P
section
variable {wr wx : World} {B P gs n : Nat} {va : Option Addr} {sm os : List OM}
theorem KSt.below (h : KSt wr B P gs n va sm os) (hb : Below wr.heap.size wr wx) : KSt wx B P gs n va sm os :=
  ⟨h.X.below hb h.X.1, h.O.below hb h.O.1, h.S.below hb h.S.1, h.L.below hb, fun i hi => by
    obtain ⟨mg, h1, h2, h3, h4⟩ := h.M i hi
    have hz := Nat.lt_trans h2 h.L.fill.1
    exact ⟨mg, h1, h2, (hb.cell (p := ⟨mg, _, none⟩) hz).trans h3, (hb.cell (p := ⟨mg, _, none⟩) hz).trans h4⟩, h.lt⟩
theorem KSt.at_ {q : Nat} {v : Value} (h : KSt wr B P gs n va sm os) {os' : List OM} (hL : SLay (wr.setCell ⟨gs, q, none⟩ v) gs n os') : KSt (wr.setCell ⟨gs, q, none⟩ v) B P gs n va sm os' := by
  have hl := h.lt
  refine ⟨h.X.other (by simp; omega) _, h.O.other (by simp; omega) _, h.S.other (by simp; omega) _, hL, fun i hi => ?_, h.lt⟩
  obtain ⟨mg, h1, h2, h3, h4⟩ := h.M i hi
  exact ⟨mg, h1, h2, by rw [World.cell?_setCell_far _ _ _ _ (by simp; omega)]; exact h3, by rw [World.cell?_setCell_far _ _ _ _ (by simp; omega)]; exact h4⟩
end
theorem plain_perm {l l' : List OM} (h : l.Perm l') : (plain l).Perm (plain l') := h.map _
set_option maxHeartbeats 8000000 in
set_option maxRecDepth 100000 in
theorem implCompile_any (v : Value) (r : List RM) (w : World) (h : RawAt w (· < w.heap.size) v r) (hr : Small r) (hE : ErrType w) :
    Calls Tryz.prog 8 #[v] w fun e w' => ∃ f u, Compiled w w' r f u ∧ e = .returned (.tuple #[.agg #[u], violV f]) ∧ Below w.heap.size w w' := by
  obtain ⟨i0, hi, hz0, hz1, hz2⟩ := info_parts infoShpI
  obtain ⟨u, rfl, hu⟩ := h
  obtain ⟨a, cap, rfl⟩ := hu.len
  have H := Lib.hid hu
  have Hsm := Lib.hid hr
  have hr1 := hr.1
  have Hr2 := Lib.hid hr.2
  have HE := Lib.hid hE
  clear hu hr hE
  go_enter Tryz.func8, Tryz.ntmps8
  go_wp2_with fail
  have hb3 : Below w.heap.size w (((w.alloc (.cells #[.slice a r.length cap] 26)).alloc (.cells #[.slice none 0 0] 30)).alloc (.cells #[.int .i64 0, .int .i64 0, .int .i64 0] 32)) := (((Below.refl _ _).alloc (Nat.le_refl _) _).alloc (by simp) _).alloc (by simp; omega) _
  have hs3 : Box (((w.alloc (.cells #[.slice a r.length cap] 26)).alloc (.cells #[.slice none 0 0] 30)).alloc (.cells #[.int .i64 0, .int .i64 0, .int .i64 0] 32)) w.heap.size [.slice a r.length cap] := ((Box.fresh _ _ _).alloc _).alloc _
  have hx3 : Box (((w.alloc (.cells #[.slice a r.length cap] 26)).alloc (.cells #[.slice none 0 0] 30)).alloc (.cells #[.int .i64 0, .int .i64 0, .int .i64 0] 32)) (w.heap.size + 1) [.slice none 0 0] := by
    have h := (Box.fresh (w.alloc (.cells #[.slice a r.length cap] 26)) #[.slice none 0 0] 30).alloc (.cells #[.int .i64 0, .int .i64 0, .int .i64 0] 32)
    rwa [show (w.alloc (.cells #[.slice a r.length cap] 26)).heap.size = w.heap.size + 1 by simp] at h
  have ho3 : Box (((w.alloc (.cells #[.slice a r.length cap] 26)).alloc (.cells #[.slice none 0 0] 30)).alloc (.cells #[.int .i64 0, .int .i64 0, .int .i64 0] 32)) (w.heap.size + 1 + 1) [.int .i64 0, .int .i64 0, .int .i64 0] := by
    have h := Box.fresh ((w.alloc (.cells #[.slice a r.length cap] 26)).alloc (.cells #[.slice none 0 0] 30)) #[.int .i64 0, .int .i64 0, .int .i64 0] 32
    rwa [show ((w.alloc (.cells #[.slice a r.length cap] 26)).alloc (.cells #[.slice none 0 0] 30)).heap.size = w.heap.size + 1 + 1 by simp] at h
  have hz3 : w.heap.size + 1 + 1 < (((w.alloc (.cells #[.slice a r.length cap] 26)).alloc (.cells #[.slice none 0 0] 30)).alloc (.cells #[.int .i64 0, .int .i64 0, .int .i64 0] 32)).heap.size := by simp
  generalize (((w.alloc (.cells #[.slice a r.length cap] 26)).alloc (.cells #[.slice none 0 0] 30)).alloc (.cells #[.int .i64 0, .int .i64 0, .int .i64 0] 32)) = w3 at hb3 hs3 hx3 ho3 hz3 ⊢
  refine (implFirst_any _ r _ ((show RawAt w (· < w.heap.size) _ r from ⟨_, rfl, H.out⟩).keep (.of_below hb3 fun _ h => h) fun _ h => Nat.lt_of_lt_of_le h hb3.size) Hsm.out (HE.out.all hb3)).mono ?_
  rintro e w4 ⟨⟨F1, F2, F3⟩, hf, rfl, hb4⟩
  have Hf := Lib.hid hf
  have HS4 := Lib.hid (hs3.below hb4 (by omega))
  have HX4 := Lib.hid (hx3.below hb4 (by omega))
  have HO4 := Lib.hid (ho3.below hb4 (by omega))
  have hl4 := hb3.trans (hb4.mono hb3.size)
  have hz4 := Nat.lt_of_lt_of_le hz3 hb4.size
  clear hf hb3 hs3 hx3 ho3 hb4 hz3
  unfold violV
  obtain ⟨c0, _⟩ := HS4.out.one
  obtain ⟨d0, k0⟩ := HX4.out.one
  obtain ⟨o0, o1, o2, l0, l1, l2⟩ := HO4.out.three
  have hs0 : w.heap.size < w4.heap.size := by omega
  have hs1 : w.heap.size + 1 < w4.heap.size := by omega
  by_cases hF : F1 = 0
  · subst hF
    obtain ⟨rfl, rfl⟩ : F2 = 0 ∧ F3 = 0 := by have := first_zero Hf.out rfl; injection this with _ h; injection h with h1 h2; exact ⟨h1, h2⟩
    obtain ⟨h66, hall⟩ := Hf.out.good
    have Hall := Lib.hid hall
    obtain ⟨ms, hp, hfl, hcs⟩ := H.out.oms
    have hml : ms.length = r.length := by rw [← hp]; simp [plain]
    have hid : ∀ m ∈ ms, 1 ≤ m.1 ∧ m.1 ≤ 99 := fun m hm => (hall.pos (m := (m.1, m.2.2)) (by rw [← hp]; exact List.mem_map.2 ⟨m, hm, rfl⟩)).1
    have hd : ms.Pairwise fun m n => m.1 ≠ n.1 := by
      have h := hall.ids
      rw [← hp] at h
      unfold plain at h
      rw [List.pairwise_map] at h
      exact h
    have hv : ∀ i (hi : i < ms.length), ∃ a n c, ms[i].2.1 = .slice a n c := fun i hi => by obtain ⟨a, c, e⟩ := (hfl i hi).len; exact ⟨a, _, c, e⟩
    have hl5 : Below w.heap.size w (w4.alloc (.cells #[.int .i64 0, .int .i64 0, .int .i64 0] 32)) := hl4.alloc (by omega) _
    have Hcall := Lib.hid (msgsInOrder_any (.slice a r.length cap) r ms (w4.alloc (.cells #[.int .i64 0, .int .i64 0, .int .i64 0] 32)) (· < w.heap.size) (fun b h => Nat.lt_of_lt_of_le h hl5.size) hp ⟨a, cap, rfl⟩
      (hcs.imp id fun ⟨b, o, c, h1, h2, h3⟩ => ⟨b, o, c, h1, h2, fun i hi => ⟨(hl5.cell (p := ⟨b, _, none⟩) h2).trans (h3 i hi).1, (hl5.cell (p := ⟨b, _, none⟩) h2).trans (h3 i hi).2⟩⟩) hv h66 hid hd)
    have hX5 := HX4.out.alloc (.cells #[.int .i64 0, .int .i64 0, .int .i64 0] 32)
    have hO5 := HO4.out.alloc (.cells #[.int .i64 0, .int .i64 0, .int .i64 0] 32)
    have Hsl : Hid ((sortO ms).length = r.length) := Lib.hid (by rw [sortO_len, hml])
    have Hso := Lib.hid (sortO_lt hd)
    have Hsp : Hid ((plain (sortO ms)).Perm r) := Lib.hid (hp ▸ plain_perm (sortO_perm ms))
    have Hsf : Hid (∀ m ∈ sortO ms, FieldsAt w (· < w.heap.size) m.2.1 m.2.2) := Lib.hid fun m hm => by
      obtain ⟨i, hi, rfl⟩ := List.getElem_of_mem ((sortO_perm ms).mem_iff.1 hm)
      exact hfl i hi
    clear hall hcs hml hid hd hv hp hfl
    generalize sortO ms = sm at Hcall Hsl Hso Hsp Hsf
    go_wp2_with fail
    refine Hcall.out.mono ?_
    rintro e w6 ⟨⟨MB, vm, rfl, hMB, hrow⟩, hb6⟩
    have Hrow6 := Lib.hid hrow
    obtain ⟨va, vc, hvm⟩ := ownsRow_form hrow
    subst hvm
    have hl6 := hl5.trans (hb6.mono hl5.size)
    have HX6 := Lib.hid (hX5.below hb6 hX5.1)
    have HO6 := Lib.hid (hO5.below hb6 hO5.1)
    clear hrow hb6 hl5 hX5 hO5 hl4 HS4 HX4 HO4 Hcall c0 d0 k0 o0 o1 o2 l0 l1 l2
    go_wp2_with (refine wpList_make_full _ rfl _ _ 28 rfl w6.heap.size 43 i0 _ 2 Tryz.underlying28 hi hz0 hz1 .i64 .i64 _ _ r.length rfl rfl rfl rfl (by rw [hz2]; omega) (by unfold maxLen; omega) (Nat.le_refl _) ?_; intro w7 hown7 hg7)
    have hz7 : w6.heap.size < w7.heap.size := (hown7.lt _ rfl).2
    have hB7 : Below w.heap.size w w7 := hl6.grown hg7 hl6.size (fun k hk => by cases hk)
    have hX7 := Box.grown hg7 HX6.out (fun k hk => by cases hk)
    have hO7 := Box.grown hg7 HO6.out (fun k hk => by cases hk)
    have hM7 : ∀ i (hi : i < sm.length), ∃ mg, va = some ⟨mg, 0, none⟩ ∧ mg < w6.heap.size ∧ w7.cell? ⟨mg, i * 2, none⟩ = some (.int .i64 sm[i].1) ∧ w7.cell? ⟨mg, i * 2 + 1, none⟩ = some sm[i].2.1 := fun i hi => by
      rcases Hrow6.out.2 with ⟨_, h0⟩ | ⟨mg, c, cur, he, _⟩
      · rw [Hsl.out] at hi; omega
      · injection he with e1 e2 e3
        subst e1
        have h6 := Hrow6.out
        have hlt := (h6.lt mg rfl).2
        have h7 := h6.kept hg7 (by simp [Value.ownBlock])
        have hx := fun q (hq : q < 2) => flat_get (f := msgC) (sz := 2) (fun _ => rfl) sm i hi q hq
        have hn : i < r.length := by rw [← Hsl.out]; exact hi
        have c0 := h7.cellAt (i * 2 + 0) (by omega)
        have c1 := h7.cellAt (i * 2 + 1) (by omega)
        rw [hx 0 (by omega)] at c0
        rw [hx 1 (by omega)] at c1
        exact ⟨mg, rfl, hlt, c0, c1⟩
    have hgs : w.heap.size + 1 + 1 < w6.heap.size := HO6.out.1
    have HK : Hid (KSt (w7.alloc (.cells #[.slice (some ⟨w6.heap.size, 0, none⟩) r.length r.length] 30)) w.heap.size w7.heap.size w6.heap.size r.length va sm (List.replicate r.length (0, .slice none 0 0, []))) := by
      have hb : Below w7.heap.size w7 (w7.alloc (.cells #[.slice (some ⟨w6.heap.size, 0, none⟩) r.length r.length] 30)) := (Below.refl _ _).alloc (Nat.le_refl _) _
      refine Lib.hid ⟨hX7.alloc _, hO7.alloc _, Box.fresh _ _ _, (SLay.made hown7).below hb, fun i hi => ?_, by omega, hz7⟩
      obtain ⟨mg, h1, h2, h3, h4⟩ := hM7 i hi
      exact ⟨mg, h1, h2, (hb.cell (p := ⟨mg, _, none⟩) (by show mg < _; omega)).trans h3, (hb.cell (p := ⟨mg, _, none⟩) (by show mg < _; omega)).trans h4⟩
    have hl8 : Below w.heap.size w (w7.alloc (.cells #[.slice (some ⟨w6.heap.size, 0, none⟩) r.length r.length] 30)) := hB7.alloc hB7.size _
    generalize w7.alloc (.cells #[.slice (some ⟨w6.heap.size, 0, none⟩) r.length r.length] 30) = w8 at HK hl8 ⊢
    generalize w7.heap.size = P at HK hz7 ⊢
    generalize w6.heap.size = gs at HK hz7 hgs ⊢
    clear hown7 hg7 hB7 hX7 hO7 hM7 hl6 HX6 HO6 Hrow6
    have HPg := Lib.hid hz7
    clear hz7
    go_loopw [26] (fun i wr => ∃ k : Nat, k ≤ r.length ∧ i = .int .i64 k ∧ Hid (∃ os, KSt wr w.heap.size P gs r.length va sm os ∧ ∀ j (hj : j < os.length), os[j].2 = (.slice none 0 0, []) ∧ ∀ (hs : j < sm.length), j < k → os[j].1 = sm[j].1) ∧ Below w.heap.size w wr) (fun i _ => r.length - (intOf i).toNat)
    case atStart => exact ⟨0, by omega, rfl, Lib.hid ⟨_, HK.out, fun j hj => ⟨by simp only [List.getElem_replicate], fun _ h => by omega⟩⟩, hl8⟩
    case round =>
      clear HK hl8
      obtain ⟨k, hk, rfl, hst, hbr⟩ := hrel
      obtain ⟨os, hst, hos⟩ := hst.out
      have Hst := Lib.hid hst
      have Hos := Lib.hid hos
      have hln := hst.L.len
      obtain ⟨s0, _⟩ := hst.S.one
      have hPw := hst.S.1
      have hgw := hst.L.fill.1
      have hgP := hst.lt.2
      clear hos hst
      by_cases hlt : k < r.length
      · have hlti : (k : Int) < (r.length : Int) := by omega
        have hks : k < sm.length := by rw [Hsl.out]; exact hlt
        have hko : k < os.length := by rw [hln]; exact hlt
        obtain ⟨mg, rfl, hmg, m0, m1⟩ := Hst.out.M k hks
        obtain ⟨xa, xc, hx⟩ := (Hsf.out _ (List.getElem_mem hks)).len
        rw [hx] at m1
        have hmw : mg < wr.heap.size := by omega
        have hmgs : mg ≠ gs := by omega
        obtain ⟨c0, _⟩ := Hst.out.L.vals k hko
        have f0 := (Hst.out.L.fill.2 (k * 2) (by omega)).2
        have Hnext : Hid (∀ id : Int, id = sm[k].1 → ∀ j (hj : j < (os.set k (id, os[k].2)).length), (os.set k (id, os[k].2))[j].2 = (.slice none 0 0, []) ∧ ∀ (hs : j < sm.length), j < k + 1 → (os.set k (id, os[k].2))[j].1 = sm[j].1) := Lib.hid fun id hid j hj => by
          have hj' : j < os.length := by simpa using hj
          by_cases e : k = j
          · subst e
            rw [List.getElem_set_self]
            exact ⟨(Hos.out k hj').1, fun _ _ => hid⟩
          · rw [List.getElem_set_ne e]
            exact ⟨(Hos.out j hj').1, fun hs hjk => (Hos.out j hj').2 hs (by omega)⟩
        have HsetK : Hid (∀ id : Int, KSt (wr.setCell ⟨gs, k * 2, none⟩ (.int .i64 id)) w.heap.size P gs r.length (some ⟨mg, 0, none⟩) sm (os.set k (id, os[k].2))) := Lib.hid fun id => Hst.out.at_ (Hst.out.L.setId k hko id)
        have Hnx := Lib.hid (Hnext.out sm[k].1 rfl)
        have HK2 := Lib.hid (HsetK.out sm[k].1)
        clear hx Hnext HsetK
        generalize sm[k].1 = id at m0 Hnx HK2
        generalize sm[k].2.2.length = fl at m1
        clear hks
        go_wp2_with fail
        go_roundw
        case rel => exact ⟨k + 1, by omega, by go_num, Lib.hid ⟨_, HK2.out.below ((Below.refl _ _).alloc (Nat.le_refl _) _), Hnx.out⟩, (hbr.setCell (by simp; omega) _).alloc (by simp [World.setCell]; exact hbr.size) _⟩
        case measure => simp [intOf]; omega
      · have hge : (r.length : Int) ≤ (k : Int) := by omega
        have hend : decide (k < r.length) = false := decide_eq_false hlt
        obtain rfl : k = r.length := by omega
        have Hids : Hid (∀ j (hj : j < os.length) (hs : j < sm.length), os[j].1 = sm[j].1) := Lib.hid fun j hj hs => (Hos.out j hj).2 hs (by omega)
        have Hos2 : Hid (∀ j (hj : j < os.length), os[j].2.2 = []) := Lib.hid fun j hj => by rw [(Hos.out j hj).1]
        clear s0 hPw hgw hgP hln
        go_wp2_with fail
        go_loopw [41] (fun i wr => ∃ k : Nat, k ≤ r.length ∧ i = .int .i64 k ∧ Hid (∃ os, KSt wr w.heap.size P gs r.length va sm os ∧ ∀ j (hj : j < os.length) (hs : j < sm.length), os[j].1 = sm[j].1 ∧ (j < k → os[j].2.2 = compFs r sm[j].2.2)) ∧ Below w.heap.size w wr) (fun i _ => r.length - (intOf i).toNat)
        case atStart => exact ⟨0, by omega, rfl, Lib.hid ⟨os, Hst.out, fun j hj hs => ⟨Hids.out j hj hs, fun h => by omega⟩⟩, hbr⟩
        case round =>
          clear Hst Hos Hids Hos2 hbr
          obtain ⟨k, hk, rfl, hst, hbr⟩ := hrel
          obtain ⟨os, hst, hos⟩ := hst.out
          have Hst := Lib.hid hst
          have Hos := Lib.hid hos
          have hln := hst.L.len
          obtain ⟨s0, _⟩ := hst.S.one
          have hPw := hst.S.1
          have hgw := hst.L.fill.1
          have hgP := hst.lt.2
          clear hos hst
          by_cases hlt : k < r.length
          · have hlti : (k : Int) < (r.length : Int) := by omega
            have hks : k < sm.length := by rw [Hsl.out]; exact hlt
            have hko : k < os.length := by rw [hln]; exact hlt
            obtain ⟨mg, rfl, hmg, m0, m1⟩ := Hst.out.M k hks
            have hfk := Hsf.out _ (List.getElem_mem hks)
            obtain ⟨xa, xc, hx⟩ := hfk.len
            rw [hx] at m1 hfk
            have hmw : mg < wr.heap.size := by omega
            have hmem : (sm[k].1, sm[k].2.2) ∈ r := Hsp.out.mem_iff.1 (List.mem_map.2 ⟨sm[k], List.getElem_mem hks, rfl⟩)
            have Hmem := Lib.hid hmem
            have hf8 : sm[k].2.2.length ≤ 8 := (Hall.out.pos hmem).2
            have Hids : Hid ((plain os).map (·.1) = (plain sm).map (·.1)) := Lib.hid (by
              refine List.ext_getElem (by simp [plain, hln, Hsl.out]) fun j h1 h2 => ?_
              have h1' : j < os.length := by simpa [plain] using h1
              have h2' : j < sm.length := by simpa [plain] using h2
              simp [plain, (Hos.out j h1' h2').1])
            have Hpw : Hid ((plain sm).Pairwise fun m n => m.1 < n.1) := Lib.hid (by unfold plain; rw [List.pairwise_map]; exact Hso.out)
            have Hcomp : Hid (∀ l' : List RF, l'.Perm (sm[k].2.2.map (convF (plain os))) → l'.Pairwise (fun a b => a.1 ≤ b.1) → l' = compFs r sm[k].2.2) := Lib.hid fun l' h1 h2 => sorted_fields (m := (sm[k].1, sm[k].2.2)) Hall.out Hsp.out Hpw.out Hids.out Hmem.out h1 h2
            have Hnext : Hid (∀ (u : Value) (l' : List RF), l' = compFs r sm[k].2.2 → ∀ j (hj : j < (os.set k (os[k].1, u, l')).length) (hs : j < sm.length), (os.set k (os[k].1, u, l'))[j].1 = sm[j].1 ∧ (j < k + 1 → (os.set k (os[k].1, u, l'))[j].2.2 = compFs r sm[j].2.2)) := Lib.hid fun u l' he j hj hs => by
              have hj' : j < os.length := by simpa using hj
              by_cases e : k = j
              · subst e
                rw [List.getElem_set_self]
                exact ⟨(Hos.out k hj' hs).1, fun _ => he⟩
              · rw [List.getElem_set_ne e]
                exact ⟨(Hos.out j hj' hs).1, fun h => (Hos.out j hj' hs).2 (by omega)⟩
            have Hfk := Lib.hid hfk
            clear hx hmem hfk
            generalize sm[k].1 = id at m0 Hmem
            generalize sm[k].2.2 = fs at m1 Hmem hf8 Hcomp Hnext Hfk
            clear hks
            have hb6 : Below wr.heap.size wr (wr.alloc (.cells #[.int .i64 id, .slice xa fs.length xc] 40)) := (Below.refl _ _).alloc (Nat.le_refl _) _
            have hm6 := Box.fresh wr #[.int .i64 id, .slice xa fs.length xc] 40
            have hl6 : Below w.heap.size w (wr.alloc (.cells #[.int .i64 id, .slice xa fs.length xc] 40)) := hbr.trans (hb6.mono hbr.size)
            go_upto_region 14 with fail
            generalize wr.alloc (.cells #[.int .i64 id, .slice xa fs.length xc] 40) = wq at hb6 hm6 hl6 ⊢
            have hst6 := Hst.out.below hb6
            have Hst6 := Lib.hid hst6
            have Hcall := Lib.hid (fieldsFrom_any id (.slice xa fs.length xc) (.agg #[.slice (some ⟨gs, 0, none⟩) r.length r.length]) fs (plain os) wq.drew (· < wq.drew.heap.size) (fun _ h => h) (Hfk.out.keep (.of_below hl6.drew fun _ h => h) fun b h => Nat.lt_of_lt_of_le h hl6.drew.size)
              ⟨_, rfl, (hst6.L.msgsAt (Nat.le_refl _)).keep (fun _ _ _ => rfl) fun b h => h.2⟩ hf8 (by simp [plain, hln]; omega))
            obtain ⟨s6, _⟩ := hst6.S.one
            obtain ⟨n0, n1, _⟩ := hm6.two
            have hm6z := hm6.1
            have hPq : P < wq.heap.size := hst6.S.1
            have Hm6 := Lib.hid hm6
            have hneP : P ≠ gs := by omega
            have hneM : wr.heap.size ≠ gs := by omega
            clear hst6 hm6 m0 m1 s0
            go_region_held3 (fun w' => w'.cell? ⟨P, 0, none⟩ = some (.slice (some ⟨gs, 0, none⟩) r.length r.length) ∧ w'.cell? ⟨wr.heap.size, 0, none⟩ = some (.int .i64 id) ∧ w'.cell? ⟨wr.heap.size, 1, none⟩ = some (.slice xa fs.length xc))
              (first | with_reducible exact ⟨s6, n0, n1⟩ | with_reducible exact ⟨s8, p0, p1⟩ | exact ⟨s6, n0, n1⟩ | (refine ⟨?_, ?_, ?_⟩ <;> (rw [World.cell?_setCell_other _ _ _ _ (by intro e; injection e with e _; omega)]; assumption)))
              (first | (go_at_call 34; refine Hcall.out.mono ?_; rintro e w8 ⟨⟨g, c8, l8, rfl, hg8, hp8, hs8, hfa8, hfi8⟩, hb8⟩; have hb9 := undrewF hb8; have hst8 := Hst6.out.below hb9; obtain ⟨s8, _⟩ := hst8.S.one; have hm8 := Hm6.out.below hb9 hm6z; obtain ⟨p0, p1, _⟩ := hm8.two; have hf9 := (hst8.L.fill.2 (k * 2 + 1) (by omega)); obtain ⟨⟨v9, c9⟩, f9⟩ := hf9))
            all_goals
              have he8 := Hcomp.out l8 hp8 hs8
              have hlen8 : l8.length = fs.length := by rw [hp8.length_eq]; simp
              have hset : SLay (w8.setCell ⟨gs, k * 2 + 1, none⟩ (.slice (some ⟨g, 0, none⟩) fs.length c8)) gs r.length (os.set k (os[k].1, .slice (some ⟨g, 0, none⟩) fs.length c8, l8)) := by
                have h1 : FieldsAt w8 (· = g) (.slice (some ⟨g, 0, none⟩) l8.length c8) l8 := by rw [hlen8]; exact hfa8
                have h2 : Fill w8 g (l8.length * 5) := by rw [hlen8]; exact hfi8
                have h3 := Hst6.out.L.setF hb9 k hko (by exact hg8) hfi8.1 h1 h2
                rw [hlen8] at h3
                exact h3
              have HK9 : Hid (KSt (w8.setCell ⟨gs, k * 2 + 1, none⟩ (.slice (some ⟨g, 0, none⟩) fs.length c8)) w.heap.size P gs r.length (some ⟨mg, 0, none⟩) sm (os.set k (os[k].1, .slice (some ⟨g, 0, none⟩) fs.length c8, l8))) := Lib.hid (hst8.at_ hset)
              have Hnx := Lib.hid (Hnext.out (.slice (some ⟨g, 0, none⟩) fs.length c8) l8 he8)
              have hl9 := hl6.trans (hb9.mono hl6.size)
              clear he8 hlen8 hset hst8 hm8 s8 p0 p1 hp8 hs8 hfa8 hfi8 hb8 hb9 c9 f9
              go_wp2_with fail
              go_roundw
              case rel => exact ⟨k + 1, by omega, by go_num, Lib.hid ⟨_, HK9.out, Hnx.out⟩, hl9.setCell (by simp; omega) _⟩
              case measure => simp [intOf]; omega
          · have hge : (r.length : Int) ≤ (k : Int) := by omega
            have hend : decide (k < r.length) = false := decide_eq_false hlt
            obtain rfl : k = r.length := by omega
            have Hpl : Hid (plain os = compileR r) := Lib.hid (by
              have hpw : (plain sm).Pairwise fun m n => m.1 < n.1 := by unfold plain; rw [List.pairwise_map]; exact Hso.out
              rw [compileR_sorted Hsp.out hpw]
              refine List.ext_getElem (by simp [plain, hln, Hsl.out]) fun j h1 h2 => ?_
              have h1' : j < os.length := by simpa [plain] using h1
              have h2' : j < sm.length := by simpa [plain] using h2
              have h3 := Hos.out j h1' h2'
              simp [plain, h3.1, h3.2 (by rw [← hln]; exact h1')])
            have hx5 := (Hst.out.X.set 0 (.slice (some ⟨gs, 0, none⟩) r.length r.length)).other (a := ⟨w.heap.size + 1 + 1, 0, none⟩) (by simp) (.int .i64 0) |>.other (a := ⟨w.heap.size + 1 + 1, 1, none⟩) (by simp) (.int .i64 0) |>.other (a := ⟨w.heap.size + 1 + 1, 2, none⟩) (by simp) (.int .i64 0)
            have ho5 := ((Hst.out.O.other (a := ⟨w.heap.size + 1, 0, none⟩) (by simp) (.slice (some ⟨gs, 0, none⟩) r.length r.length)).set 0 (.int .i64 0) |>.set 1 (.int .i64 0) |>.set 2 (.int .i64 0))
            obtain ⟨y0, _⟩ := Box.one (a := .slice (some ⟨gs, 0, none⟩) r.length r.length) hx5
            obtain ⟨z0, z1, z2, _⟩ := Box.three (a := .int .i64 0) (b := .int .i64 0) (c := .int .i64 0) ho5
            obtain ⟨x0, xf0⟩ := Hst.out.X.one
            obtain ⟨o0, o1, o2, l0, l1, l2⟩ := Hst.out.O.three
            have Y := Lib.hid (show _ ∧ _ ∧ _ ∧ _ from ⟨y0, z0, z1, z2⟩)
            clear hx5 ho5 y0 z0 z1 z2
            go_wp2_with fail
            obtain ⟨y0, z0, z1, z2⟩ := Y.out
            refine bodyPost_ret (v := .tuple #[.agg #[.slice (some ⟨gs, 0, none⟩) r.length r.length], .agg #[.int .i64 0, .int .i64 0, .int .i64 0]]) (by simp [results, Tryz.results8, go_sem, y0, z0, z1, z2]) rfl ⟨(0, 0, 0), _, ⟨Hf.out, .inr ⟨rfl, os, Hpl.out, ?_⟩⟩, rfl, ?_⟩
            · have h1 := Hst.out.L.ownIn (cap := r.length) (Nat.le_refl _)
              have hlg := Hst.out.lt.1
              refine OwnIn.wide (lo := gs) (hi := wr.heap.size) ?_ (by omega) (by simp [World.setCell])
              repeat (first | exact h1 | refine OwnIn.off ?_ (by simp; omega) (by simp [World.setCell]) _)
            · repeat (first | exact hbr | refine Below.setCell ?_ (by first | (show w.heap.size ≤ w.heap.size + 1 + 1; omega) | (show w.heap.size ≤ w.heap.size + 1; omega)) _)
  · have bF := neB2 hF
    have bF' : (F1 != 0) = true := by rw [bne, bF]; rfl
    have hne := Lib.hid hF
    clear hF
    have xA : Box (((((w4.setCell ⟨w.heap.size + 1, 0, none⟩ (.slice none 0 0)).setCell ⟨w.heap.size + 1 + 1, 0, none⟩ (.int .i64 F1)).setCell ⟨w.heap.size + 1 + 1, 1, none⟩ (.int .i64 F2)).setCell ⟨w.heap.size + 1 + 1, 2, none⟩ (.int .i64 F3)).alloc (.cells #[.int .i64 F1, .int .i64 F2, .int .i64 F3] 32)).drew (w.heap.size + 1) [.slice none 0 0] := (Box.alloc ((((HX4.out.set 0 (.slice none 0 0)).other (a := ⟨w.heap.size + 1 + 1, 0, none⟩) (by simp) (.int .i64 F1)).other (a := ⟨w.heap.size + 1 + 1, 1, none⟩) (by simp) (.int .i64 F2)).other (a := ⟨w.heap.size + 1 + 1, 2, none⟩) (by simp) (.int .i64 F3)) _).drew
    have oA : Box (((((w4.setCell ⟨w.heap.size + 1, 0, none⟩ (.slice none 0 0)).setCell ⟨w.heap.size + 1 + 1, 0, none⟩ (.int .i64 F1)).setCell ⟨w.heap.size + 1 + 1, 1, none⟩ (.int .i64 F2)).setCell ⟨w.heap.size + 1 + 1, 2, none⟩ (.int .i64 F3)).alloc (.cells #[.int .i64 F1, .int .i64 F2, .int .i64 F3] 32)).drew (w.heap.size + 1 + 1) [.int .i64 F1, .int .i64 F2, .int .i64 F3] := (Box.alloc (Box.set (Box.set (Box.set (HO4.out.other (a := ⟨w.heap.size + 1, 0, none⟩) (by simp) (.slice none 0 0)) 0 (.int .i64 F1)) 1 (.int .i64 F2)) 2 (.int .i64 F3)) _).drew
    obtain ⟨xA0, _⟩ := xA.one
    obtain ⟨oA0, oA1, oA2, _⟩ := Box.three oA
    clear xA oA
    have xB : Box (((((w4.setCell ⟨w.heap.size + 1 + 1, 0, none⟩ (.int .i64 F1)).setCell ⟨w.heap.size + 1 + 1, 1, none⟩ (.int .i64 F2)).setCell ⟨w.heap.size + 1 + 1, 2, none⟩ (.int .i64 F3)).setCell ⟨w.heap.size + 1, 0, none⟩ (.slice none 0 0)).alloc (.cells #[.int .i64 F1, .int .i64 F2, .int .i64 F3] 32)).drew (w.heap.size + 1) [.slice none 0 0] := (Box.alloc (Box.set (((HX4.out.other (a := ⟨w.heap.size + 1 + 1, 0, none⟩) (by simp) (.int .i64 F1)).other (a := ⟨w.heap.size + 1 + 1, 1, none⟩) (by simp) (.int .i64 F2)).other (a := ⟨w.heap.size + 1 + 1, 2, none⟩) (by simp) (.int .i64 F3)) 0 (.slice none 0 0)) _).drew
    have oB : Box (((((w4.setCell ⟨w.heap.size + 1 + 1, 0, none⟩ (.int .i64 F1)).setCell ⟨w.heap.size + 1 + 1, 1, none⟩ (.int .i64 F2)).setCell ⟨w.heap.size + 1 + 1, 2, none⟩ (.int .i64 F3)).setCell ⟨w.heap.size + 1, 0, none⟩ (.slice none 0 0)).alloc (.cells #[.int .i64 F1, .int .i64 F2, .int .i64 F3] 32)).drew (w.heap.size + 1 + 1) [.int .i64 F1, .int .i64 F2, .int .i64 F3] := (Box.alloc (Box.other (Box.set (Box.set (Box.set HO4.out 0 (.int .i64 F1)) 1 (.int .i64 F2)) 2 (.int .i64 F3)) (a := ⟨w.heap.size + 1, 0, none⟩) (by simp) (.slice none 0 0)) _).drew
    obtain ⟨xB0, _⟩ := xB.one
    obtain ⟨oB0, oB1, oB2, _⟩ := Box.three oB
    clear xB oB
    go_wp2_with fail
    go_region_with fail
    all_goals
      go_wp2_with fail
      refine bodyPost_ret (v := .tuple #[.agg #[.slice none 0 0], .agg #[.int .i64 F1, .int .i64 F2, .int .i64 F3]]) (by simp [results, Tryz.results8, go_sem, xA0, oA0, oA1, oA2, xB0, oB0, oB1, oB2]) rfl ⟨(F1, F2, F3), _, ⟨Hf.out, .inl ⟨hne.out, rfl⟩⟩, rfl, ?_⟩
      refine Below.drew (Below.alloc ?_ (by simp; omega) _)
      repeat (first | exact hl4 | refine Below.setCell ?_ (by first | (show w.heap.size ≤ w.heap.size + 1 + 1; omega) | (show w.heap.size ≤ w.heap.size + 1; omega)) _)
end Go.Proofs.YthjnpipincpkgaaGreatDoor.Num
