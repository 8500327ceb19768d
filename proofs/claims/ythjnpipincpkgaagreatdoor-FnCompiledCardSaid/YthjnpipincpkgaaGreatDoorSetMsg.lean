/-
  A message laid into its place in a description that the call owns, and a row of empty messages. For any program.
-/
import Derived.Test.YthjnpipincpkgaaGreatDoorPushWith
import Derived.Test.YthjnpipincpkgaaGreatDoorRound
namespace Go.Proofs.YthjnpipincpkgaaGreatDoor.Num
open Go.RowKit Go.Proofs
set_option linter.unusedVariables false
set_option linter.unusedSimpArgs false

section
variable {w w' : World} {B : Nat} {TM TF : TypeId} {v : Value} {ms : List OM}
/-- Another row of fields, in a block of none of the others, at the i-th message. -/
theorem OwnRaw.setVal {g cap : Nat} {u : Value} {l : List RF} (h : OwnRaw w B TM TF (.slice (some ⟨g, 0, none⟩) ms.length cap) ms) (i : Nat) (hi : i < ms.length) (hu : FOwn w B TF (ms[i].1, u, l))
    (hug : u.ownBlock ≠ some g) (ha : ∀ j (hj : j < ms.length), Apart ms[j].2.1 u ∧ Apart u ms[j].2.1) :
    OwnRaw (w.setCell ⟨g, i * 2 + 1, none⟩ u) B TM TF (.slice (some ⟨g, 0, none⟩) ms.length cap) (ms.set i (ms[i].1, u, l)) := by
  have hlen : (ms.set i (ms[i].1, u, l)).length = ms.length := List.length_set
  refine ⟨?_, fun j hj => ?_, fun j hj => ?_, fun j k hj hk hjk => ?_⟩
  · rw [hlen]
    have := (h.row.stored (i * 2 + 1) u).1
    rw [flat_set ms i hi (ms[i].1, u, l) rfl] at this
    exact this
  · have hj' : j < ms.length := by rw [hlen] at hj; exact hj
    by_cases e : i = j
    · subst e
      rw [List.getElem_set_self]
      exact ownsRow_setCell_other hu hug u
    · rw [List.getElem_set_ne e]
      refine ownsRow_setCell_other (h.fields j hj') ?_ u
      rcases h.apart j hj' with a | a
      · rw [a]; simp
      · exact a
  · have hj' : j < ms.length := by rw [hlen] at hj; exact hj
    by_cases e : i = j
    · subst e; rw [List.getElem_set_self]; exact .inr hug
    · rw [List.getElem_set_ne e]; exact h.apart j hj'
  · have hj' : j < ms.length := by rw [hlen] at hj; exact hj
    have hk' : k < ms.length := by rw [hlen] at hk; exact hk
    by_cases e : i = j
    · subst e
      rw [List.getElem_set_self, List.getElem_set_ne hjk]
      exact (ha k hk').2
    · by_cases e2 : i = k
      · subst e2
        rw [List.getElem_set_self, List.getElem_set_ne e]
        exact (ha j hj').1
      · rw [List.getElem_set_ne e, List.getElem_set_ne e2]; exact h.each j k hj' hk' hjk
/-- A whole message at the i-th place. -/
theorem OwnRaw.setMsg {g cap : Nat} {u : Value} {id : Int} {l : List RF} (h : OwnRaw w B TM TF (.slice (some ⟨g, 0, none⟩) ms.length cap) ms) (i : Nat) (hi : i < ms.length) (hu : FOwn w B TF (id, u, l))
    (hug : u.ownBlock ≠ some g) (ha : ∀ j (hj : j < ms.length), Apart ms[j].2.1 u ∧ Apart u ms[j].2.1) :
    OwnRaw ((w.setCell ⟨g, i * 2, none⟩ (.int .i64 id)).setCell ⟨g, i * 2 + 1, none⟩ u) B TM TF (.slice (some ⟨g, 0, none⟩) ms.length cap) (ms.set i (id, u, l)) := by
  have h1 := h.setId i hi id
  have hlen : (ms.set i (id, ms[i].2)).length = ms.length := List.length_set
  rw [← hlen] at h1 ⊢
  have h2 := h1.setVal (u := u) (l := l) i (by rw [hlen]; exact hi) (ownsRow_setCell_other (a := ⟨g, i * 2, none⟩) hu hug _) hug fun j hj => by
    rw [List.getElem_set]
    split
    · rename_i e; subst e; exact ha i hi
    · exact ha j (by rw [hlen] at hj; exact hj)
  rw [List.set_set, List.getElem_set_self] at h2
  exact h2
theorem made_two (n : Nat) : (madeCells #[.int .i64 0, .slice none 0 0] (n * 2)).toList = (List.replicate n ((0, .slice none 0 0, []) : OM)).flatMap msgC := by
  have hl : ((List.replicate n ((0, .slice none 0 0, []) : OM)).flatMap msgC).length = n * 2 := by
    rw [flat_len (f := msgC) (sz := 2) (fun _ => rfl), List.length_replicate]
  have hm : (madeCells #[.int .i64 0, .slice none 0 0] (n * 2)).toList.length = n * 2 := by simp [madeCells]
  apply List.ext_getElem (by rw [hl, hm])
  intro j h1 h2
  rw [hm] at h1
  obtain ⟨i, q, hq, rfl⟩ : ∃ i q, q < 2 ∧ j = i * 2 + q := ⟨j / 2, j % 2, Nat.mod_lt _ (by omega), by omega⟩
  have hi : i < n := by omega
  have h3 := flat_get (f := msgC) (sz := 2) (fun _ => rfl) (List.replicate n ((0, .slice none 0 0, []) : OM)) i (by simpa using hi) q hq
  rw [List.getElem?_eq_getElem h2, List.getElem_replicate, List.getElem?_eq_getElem hq] at h3
  rw [Option.some.inj h3]
  match q, hq with
  | 0, _ => simp [madeCells, msgC]
  | 1, _ => simp [madeCells, msgC]
/-- A row of empty messages, newly made. -/
theorem OwnRaw.made {g n : Nat} (h : w.ownsRow B TM 2 (.slice (some ⟨g, 0, none⟩) n n) n (madeCells #[.int .i64 0, .slice none 0 0] (n * 2)).toList) : OwnRaw w B TM TF (.slice (some ⟨g, 0, none⟩) n n) (List.replicate n (0, .slice none 0 0, [])) := by
  rw [made_two] at h
  refine ⟨by simpa using h, fun i hi => ?_, fun i hi => ?_, fun i j hi hj _ => ?_⟩
  · simp only [List.getElem_replicate]; exact World.ownsRow_nil w B TF 5
  · simp only [List.getElem_replicate]; exact .inl rfl
  · simp only [List.getElem_replicate]; exact .inl rfl
end
end Go.Proofs.YthjnpipincpkgaaGreatDoor.Num
