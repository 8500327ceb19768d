/-
  A description that the call owns, read: RawAt of it; and what writing into a message's Id or into a field of it leaves. For any program.
-/
import Derived.Test.YtpkofbdfnbpfpaaGreatOwnRaw
namespace Go.Proofs.YtpkofbdfnbpfpaaGreat.Num
open Go.RowKit Go.Proofs
set_option linter.unusedVariables false

theorem flat_len {α : Type} {f : α → List Value} {sz : Nat} (hf : ∀ x, (f x).length = sz) : ∀ l : List α, (l.flatMap f).length = l.length * sz
  | [] => by simp
  | a :: l => by rw [List.flatMap_cons, List.length_append, hf, flat_len hf l, List.length_cons, Nat.succ_mul, Nat.add_comm]
theorem flat_get {α : Type} {f : α → List Value} {sz : Nat} (hf : ∀ x, (f x).length = sz) : ∀ (l : List α) (i : Nat) (h : i < l.length) (j : Nat), j < sz → (l.flatMap f)[i * sz + j]? = (f l[i])[j]?
  | a :: l, 0, _, j, hj => by
    rw [List.flatMap_cons, Nat.zero_mul, Nat.zero_add, List.getElem?_append_left (by rw [hf]; exact hj)]; rfl
  | a :: l, i + 1, h, j, hj => by
    have e : (i + 1) * sz + j = (i * sz + j) + sz := by rw [Nat.succ_mul]; omega
    rw [List.flatMap_cons, List.getElem?_append_right (by rw [hf, e]; omega), hf, e, Nat.add_sub_cancel, flat_get hf l i (by simpa using h) j hj]; rfl
theorem rowAt_of_owns {α : Type} {f : α → List Value} {sz : Nat} {w : World} {S : Nat → Prop} {R : α → List Value → Prop} {B : Nat} {T : TypeId} {v : Value} {l : List α} (hf : ∀ x, (f x).length = sz)
    (h : w.ownsRow B T sz v l.length (l.flatMap f)) (hS : ∀ k, v.ownBlock = some k → S k) (hR : ∀ i (hi : i < l.length), R l[i] (f l[i])) : RowAt w S sz R v l := by
  by_cases h0 : l.length = 0
  · left
    refine ⟨List.length_eq_zero_iff.mp h0, ?_⟩
    rcases h.2 with ⟨e, _⟩ | ⟨g, cap, cur, e, _⟩
    · exact ⟨none, 0, e⟩
    · exact ⟨_, cap, by rw [e, h0]⟩
  · right
    obtain ⟨g, cap, rfl, _, _⟩ := h.form (by omega)
    have hc : l.length ≤ cap := by
      rcases h.2 with ⟨e, _⟩ | ⟨g', c', cur, e, _, _, hc, _⟩
      · simp at e
      · simp at e; omega
    refine ⟨g, 0, cap, rfl, ⟨by omega, hc⟩, hS g rfl, fun i hi => ⟨f l[i], hf _, hR i hi, fun j hj => ?_⟩⟩
    have hj' : j < sz := by rw [hf] at hj; exact hj
    have hlt : i * sz + j < l.length * sz := by
      have : (i + 1) * sz ≤ l.length * sz := Nat.mul_le_mul_right _ hi
      rw [Nat.succ_mul] at this; omega
    rw [Nat.zero_add, h.cellAt _ hlt, flat_get hf l i hi j hj', List.getElem?_eq_getElem hj]
theorem RowAt.map {α β : Type} {g : α → β} {w : World} {S : Nat → Prop} {sz : Nat} {R : β → List Value → Prop} {v : Value} {l : List α} (h : RowAt w S sz (fun m cs => R (g m) cs) v l) : RowAt w S sz R v (l.map g) := by
  rcases h with ⟨rfl, a⟩ | ⟨b, o, cap, hv, h0, hS, hc⟩
  · exact .inl ⟨rfl, a⟩
  · refine .inr ⟨b, o, cap, by simpa using hv, by simpa using h0, hS, fun i hi => ?_⟩
    have hi' : i < l.length := by simpa using hi
    obtain ⟨cs, h1, h2, h3⟩ := hc i hi'
    exact ⟨cs, h1, by simpa using h2, h3⟩
section
variable {w w' : World} {B : Nat} {TM TF : TypeId} {v : Value} {ms : List OM}
theorem OwnRaw.msgsAt (h : OwnRaw w B TM TF v ms) : MsgsAt w (fun b => B ≤ b ∧ b < w.heap.size) v (plain ms) := by
  refine RowAt.map (g := fun m : OM => (m.1, m.2.2)) (rowAt_of_owns (f := msgC) (fun _ => rfl) h.row (fun k hk => h.row.lt k hk) fun i hi => ?_)
  exact ⟨ms[i].2.1, rfl, rowAt_of_owns (f := fieldC) (fun _ => rfl) (h.fields i hi) (fun k hk => World.ownsRow.lt (h.fields i hi) k hk) fun _ _ => rfl⟩
theorem OwnRaw.rawAt (h : OwnRaw w B TM TF v ms) : RawAt w (fun b => B ≤ b ∧ b < w.heap.size) (.agg #[v]) (plain ms) := ⟨v, rfl, h.msgsAt⟩
theorem OwnRaw.rawAtAll (h : OwnRaw w B TM TF v ms) : RawAt w (· < w.heap.size) (.agg #[v]) (plain ms) := h.rawAt.keep (fun _ _ _ => rfl) fun _ h => h.2
theorem OwnRaw.fieldsAt (h : OwnRaw w B TM TF v ms) (i : Nat) (hi : i < ms.length) : FieldsAt w (· < w.heap.size) ms[i].2.1 ms[i].2.2 :=
  rowAt_of_owns (f := fieldC) (fun _ => rfl) (h.fields i hi) (fun k hk => (World.ownsRow.lt (h.fields i hi) k hk).2) fun _ _ => rfl
/-- A block below B is not among them. -/
theorem OwnRaw.out (h : OwnRaw w B TM TF v ms) {k : Nat} (hk : k < B) : v.ownBlock ≠ some k ∧ ∀ i (hi : i < ms.length), ms[i].2.1.ownBlock ≠ some k :=
  ⟨fun e => by have := (h.row.lt k e).1; omega, fun i hi e => by have := (World.ownsRow.lt (h.fields i hi) k e).1; omega⟩
theorem flat_setId : ∀ (ms : List OM) (i : Nat) (h : i < ms.length) (id : Int), (ms.flatMap msgC).set (i * 2) (.int .i64 id) = (ms.set i (id, ms[i].2)).flatMap msgC
  | a :: ms, 0, _, id => rfl
  | a :: ms, i + 1, h, id => by
    have := flat_setId ms i (by simpa using h) id
    have e : (i + 1) * 2 = (i * 2) + 2 := by omega
    rw [e]
    simp only [List.flatMap_cons, List.set_cons_succ, List.getElem_cons_succ]
    rw [← this]
    rfl
/-- Another Id at the i-th message. -/
theorem OwnRaw.setId {g cap : Nat} (h : OwnRaw w B TM TF (.slice (some ⟨g, 0, none⟩) ms.length cap) ms) (i : Nat) (hi : i < ms.length) (id : Int) :
    OwnRaw (w.setCell ⟨g, i * 2, none⟩ (.int .i64 id)) B TM TF (.slice (some ⟨g, 0, none⟩) ms.length cap) (ms.set i (id, ms[i].2)) := by
  have hlen : (ms.set i (id, ms[i].2)).length = ms.length := List.length_set
  have he : ∀ j (hj : j < ms.length) (hj' : j < (ms.set i (id, ms[i].2)).length), (ms.set i (id, ms[i].2))[j].2 = ms[j].2 := by
    intro j hj hj'
    rw [List.getElem_set]; split
    · rename_i e; subst e; rfl
    · rfl
  refine ⟨?_, fun j hj => ?_, fun j hj => ?_, fun j k hj hk hjk => ?_⟩
  · rw [hlen]
    have := (h.row.stored (i * 2) (.int .i64 id)).1
    rw [flat_setId ms i hi id] at this
    exact this
  · have hj' : j < ms.length := by rw [hlen] at hj; exact hj
    unfold FOwn
    rw [he j hj' hj]
    refine ownsRow_setCell_other (h.fields j hj') ?_ _
    rcases h.apart j hj' with a | a
    · rw [a]; simp
    · exact a
  · have hj' : j < ms.length := by rw [hlen] at hj; exact hj
    rw [he j hj' hj]; exact h.apart j hj'
  · have hj' : j < ms.length := by rw [hlen] at hj; exact hj
    have hk' : k < ms.length := by rw [hlen] at hk; exact hk
    rw [he j hj' hj, he k hk' hk]; exact h.each j k hj' hk' hjk
/-- Another row of fields at the i-th message, in the same block. -/
theorem OwnRaw.setFields {w1 : World} {fs : List RF} (h : OwnRaw w B TM TF v ms) (i : Nat) (hi : i < ms.length) (h2 : w1.ownsRow B TF 5 ms[i].2.1 fs.length (fs.flatMap fieldC)) (hg : w.grownBy w1 ms[i].2.1.ownBlock) :
    OwnRaw w1 B TM TF v (ms.set i (ms[i].1, ms[i].2.1, fs)) := by
  have hlen : (ms.set i (ms[i].1, ms[i].2.1, fs)).length = ms.length := List.length_set
  have he : ∀ j (hj : j < ms.length) (hj' : j < (ms.set i (ms[i].1, ms[i].2.1, fs)).length), (ms.set i (ms[i].1, ms[i].2.1, fs))[j].2.1 = ms[j].2.1 := by
    intro j hj hj'
    rw [List.getElem_set]; split
    · rename_i e; subst e; rfl
    · rfl
  have hfl : (ms.set i (ms[i].1, ms[i].2.1, fs)).flatMap msgC = ms.flatMap msgC := by
    have : ∀ (ms : List OM) (i : Nat) (hi : i < ms.length), (ms.set i (ms[i].1, ms[i].2.1, fs)).flatMap msgC = ms.flatMap msgC := by
      intro ms
      induction ms with
      | nil => intro i hi; simp at hi
      | cons a ms ih =>
        intro i hi
        cases i with
        | zero => rfl
        | succ i =>
          have := ih i (by simpa using hi)
          simp only [List.set_cons_succ, List.flatMap_cons, List.getElem_cons_succ]
          rw [this]
    exact this ms i hi
  refine ⟨?_, fun j hj => ?_, fun j hj => ?_, fun j k hj hk hjk => ?_⟩
  · rw [hlen, hfl]
    refine h.row.kept hg ?_
    rcases h.apart i hi with e | e
    · cases hv : v.ownBlock with
      | none => exact .inl rfl
      | some k => right; rw [e]; simp
    · exact .inr fun c => e c.symm
  · have hj' : j < ms.length := by rw [hlen] at hj; exact hj
    by_cases e : i = j
    · subst e; rw [List.getElem_set_self]; exact h2
    · rw [List.getElem_set_ne e]; exact World.ownsRow.kept (h.fields j hj') hg (h.each j i hj' hi fun c => e c.symm)
  · have hj' : j < ms.length := by rw [hlen] at hj; exact hj
    rw [he j hj' hj]; exact h.apart j hj'
  · have hj' : j < ms.length := by rw [hlen] at hj; exact hj
    have hk' : k < ms.length := by rw [hlen] at hk; exact hk
    rw [he j hj' hj, he k hk' hk]; exact h.each j k hj' hk' hjk
end
end Go.Proofs.YtpkofbdfnbpfpaaGreat.Num
