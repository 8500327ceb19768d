/-
  A description that the call owns: the messages' row and each message's fields' row in blocks of their own, all apart. What appending to them and writing into them leaves. For any program.
-/
import Derived.Test.YtpkofbdfnbpfpaaGreatRaw
import Derived.Laws.AppendOwn
import Derived.Laws.OwnMore
import Derived.Deep.AppendLies
import Derived.OneCell
namespace Go.Proofs.YtpkofbdfnbpfpaaGreat.Num
open Go.RowKit Go.Proofs
set_option linter.unusedVariables false

/-- Id, the fields' slice value, the fields. -/
abbrev OM := Int × Value × List RF
def msgC (m : OM) : List Value := [.int .i64 m.1, m.2.1]
def plain (ms : List OM) : List RM := ms.map fun m => (m.1, m.2.2)
def FOwn (w : World) (B : Nat) (TF : TypeId) (m : OM) : Prop := w.ownsRow B TF 5 m.2.1 m.2.2.length (m.2.2.flatMap fieldC)
/-- Apart: no block in common. -/
def Apart (u v : Value) : Prop := u.ownBlock = none ∨ u.ownBlock ≠ v.ownBlock
structure OwnRaw (w : World) (B : Nat) (TM TF : TypeId) (v : Value) (ms : List OM) : Prop where
  row : w.ownsRow B TM 2 v ms.length (ms.flatMap msgC)
  fields : ∀ i (h : i < ms.length), FOwn w B TF ms[i]
  apart : ∀ i (h : i < ms.length), Apart ms[i].2.1 v
  each : ∀ i j (hi : i < ms.length) (hj : j < ms.length), i ≠ j → Apart ms[i].2.1 ms[j].2.1
section
variable {w w' : World} {B : Nat} {TM TF : TypeId} {v : Value} {ms : List OM}
theorem own_none {u : Value} {T : TypeId} {sz n : Nat} {xs : List Value} (h : w.ownsRow B T sz u n xs) (hn : u.ownBlock = none) : u = .slice none 0 0 ∧ n = 0 := by
  rcases h.2 with h | ⟨g, cap, cur, rfl, _⟩
  · exact h
  · simp [Value.ownBlock] at hn
theorem OwnRaw.start (w : World) (B : Nat) (TM TF : TypeId) : OwnRaw w B TM TF (.slice none 0 0) [] :=
  ⟨World.ownsRow_nil w B TM 2, fun i h => by simp at h, fun i h => by simp at h, fun i j h => by simp at h⟩
/-- Where another row alone is written, and new memory made. -/
theorem OwnRaw.kept {row : Option Nat} (h : OwnRaw w B TM TF v ms) (hg : w.grownBy w' row) (hrow : ∀ k, row = some k → k < B) : OwnRaw w' B TM TF v ms := by
  have key : ∀ {T : TypeId} {sz n : Nat} {u : Value} {xs : List Value}, w.ownsRow B T sz u n xs → u.ownBlock = none ∨ u.ownBlock ≠ row := by
    intro T sz n u xs hu
    cases hr : row with
    | none => cases hb : u.ownBlock <;> simp
    | some k =>
      by_cases e : u.ownBlock = some k
      · have := (hu.lt k e).1; have := hrow k hr; omega
      · exact .inr e
  exact ⟨h.row.kept hg (key h.row), fun i hi => World.ownsRow.kept (h.fields i hi) hg (key (h.fields i hi)), h.apart, h.each⟩
theorem OwnRaw.alloc (h : OwnRaw w B TM TF v ms) (o : Obj) : OwnRaw (w.alloc o) B TM TF v ms := h.kept (World.grownBy_alloc w o none) fun k hk => by cases hk
theorem OwnRaw.drew (h : OwnRaw w B TM TF v ms) : OwnRaw w.drew B TM TF v ms := ⟨h.row, h.fields, h.apart, h.each⟩
theorem OwnRaw.drewN (h : OwnRaw w B TM TF v ms) (n : Nat) : OwnRaw (w.drewN n) B TM TF v ms := ⟨h.row, h.fields, h.apart, h.each⟩
/-- A cell of a block that is not among them is written. -/
theorem OwnRaw.other (h : OwnRaw w B TM TF v ms) {p : Addr} (u : Value) (hv : v.ownBlock ≠ some p.block) (hf : ∀ i (hi : i < ms.length), ms[i].2.1.ownBlock ≠ some p.block) : OwnRaw (w.setCell p u) B TM TF v ms :=
  ⟨ownsRow_setCell_other h.row hv u, fun i hi => ownsRow_setCell_other (h.fields i hi) (hf i hi) u, h.apart, h.each⟩
/-- A message more, without fields. -/
theorem OwnRaw.push {v' : Value} {id : Int} (h : OwnRaw w B TM TF v ms) (hB : B ≤ w.heap.size) (h2 : w'.ownsRow B TM 2 v' (ms.length + 1) (ms.flatMap msgC ++ [.int .i64 id, .slice none 0 0])) (hg : w.grownBy w' v.ownBlock) (hb : v'.ownBlock = v.ownBlock ∨ v'.ownBlock = some w.heap.size) :
    OwnRaw w' B TM TF v' (ms ++ [(id, .slice none 0 0, [])]) := by
  have hold : ∀ i (hi : i < ms.length), Apart ms[i].2.1 v' := by
    intro i hi
    rcases h.apart i hi with e | e
    · exact .inl e
    · rcases hb with hb | hb
      · exact .inr (by rw [hb]; exact e)
      · refine .inr fun c => ?_
        have := (World.ownsRow.lt (h.fields i hi) _ (c.trans hb)).2
        omega
  refine ⟨by simpa [msgC] using h2, fun i hi => ?_, fun i hi => ?_, fun i j hi hj hij => ?_⟩
  · by_cases e : i < ms.length
    · rw [List.getElem_append_left e]; exact World.ownsRow.kept (h.fields i e) hg (h.apart i e)
    · obtain rfl : i = ms.length := by simp at hi; omega
      rw [List.getElem_append_right (by omega)]
      simp only [Nat.sub_self, List.getElem_cons_zero]
      exact World.ownsRow_nil w' B TF 5
  · by_cases e : i < ms.length
    · rw [List.getElem_append_left e]; exact hold i e
    · obtain rfl : i = ms.length := by simp at hi; omega
      rw [List.getElem_append_right (by omega)]
      simp only [Nat.sub_self, List.getElem_cons_zero]
      exact .inl rfl
  · by_cases e : i < ms.length
    · by_cases e2 : j < ms.length
      · rw [List.getElem_append_left e, List.getElem_append_left e2]; exact h.each i j e e2 hij
      · obtain rfl : j = ms.length := by simp at hj; omega
        rw [List.getElem_append_left e, List.getElem_append_right (by omega)]
        simp only [Nat.sub_self, List.getElem_cons_zero]
        cases hb : ms[i].2.1.ownBlock with
        | none => exact .inl hb
        | some k => exact .inr (by rw [hb]; simp [Value.ownBlock])
    · obtain rfl : i = ms.length := by simp at hi; omega
      rw [List.getElem_append_right (by omega)]
      simp only [Nat.sub_self, List.getElem_cons_zero]
      exact .inl rfl
theorem flat_set : ∀ (ms : List OM) (i : Nat) (h : i < ms.length) (m : OM), m.1 = ms[i].1 → (ms.flatMap msgC).set (i * 2 + 1) m.2.1 = (ms.set i m).flatMap msgC
  | a :: ms, 0, _, m, he => by
    simp only [List.getElem_cons_zero] at he
    simp [msgC, he]
  | a :: ms, i + 1, h, m, he => by
    simp only [List.getElem_cons_succ] at he
    have := flat_set ms i (by simpa using h) m he
    have e : (i + 1) * 2 + 1 = (i * 2 + 1) + 2 := by omega
    rw [e]
    simp only [List.flatMap_cons, List.set_cons_succ]
    rw [← this]
    rfl
/-- A field more at the i-th message: appended to its row in w1, and the new slice written into the message's cell. -/
theorem OwnRaw.pushField {w1 : World} {g cap : Nat} {u' : Value} {f : RF} (h : OwnRaw w B TM TF (.slice (some ⟨g, 0, none⟩) ms.length cap) ms) (i : Nat) (hi : i < ms.length)
    (h2 : w1.ownsRow B TF 5 u' (ms[i].2.2.length + 1) (ms[i].2.2.flatMap fieldC ++ fieldC f)) (hg : w.grownBy w1 ms[i].2.1.ownBlock) (hb : u'.ownBlock = ms[i].2.1.ownBlock ∨ u'.ownBlock = some w.heap.size) :
    OwnRaw (w1.setCell ⟨g, i * 2 + 1, none⟩ u') B TM TF (.slice (some ⟨g, 0, none⟩) ms.length cap) (ms.set i (ms[i].1, u', ms[i].2.2 ++ [f])) := by
  have hlen : (ms.set i (ms[i].1, u', ms[i].2.2 ++ [f])).length = ms.length := List.length_set
  have hgw : g < w.heap.size := (h.row.lt g rfl).2
  have hug : u'.ownBlock ≠ some g := by
    rcases hb with hb | hb
    · rw [hb]
      rcases h.apart i hi with e | e
      · rw [e]; simp
      · exact e
    · rw [hb]; intro c; injection c with c; omega
  have hrow1 : w1.ownsRow B TM 2 (.slice (some ⟨g, 0, none⟩) ms.length cap) ms.length (ms.flatMap msgC) := by
    refine h.row.kept hg ?_
    rcases h.apart i hi with e | e
    · right; rw [e]; simp [Value.ownBlock]
    · right; exact fun c => e c.symm
  refine ⟨?_, fun j hj => ?_, fun j hj => ?_, fun j k hj hk hjk => ?_⟩
  · rw [hlen]
    have := (hrow1.stored (i * 2 + 1) u').1
    rw [flat_set ms i hi (ms[i].1, u', ms[i].2.2 ++ [f]) rfl] at this
    exact this
  · rw [hlen] at hj
    by_cases e : i = j
    · subst e
      rw [List.getElem_set_self]
      refine ownsRow_setCell_other ?_ hug u'
      simpa [FOwn] using h2
    · rw [List.getElem_set_ne e]
      refine ownsRow_setCell_other (World.ownsRow.kept (h.fields j hj) hg (h.each j i hj hi (fun c => e c.symm))) ?_ u'
      rcases h.apart j hj with a | a
      · rw [a]; simp
      · exact a
  · rw [hlen] at hj
    by_cases e : i = j
    · subst e; rw [List.getElem_set_self]; exact .inr hug
    · rw [List.getElem_set_ne e]; exact h.apart j hj
  · rw [hlen] at hj hk
    have new : ∀ j (hj : j < ms.length), j ≠ i → Apart ms[j].2.1 u' := by
      intro j hj hne
      rcases h.each j i hj hi hne with e | e
      · exact .inl e
      · rcases hb with hb | hb
        · exact .inr (by rw [hb]; exact e)
        · refine .inr fun c => ?_
          have := (World.ownsRow.lt (h.fields j hj) _ (c.trans hb)).2
          omega
    by_cases e : i = j
    · subst e
      rw [List.getElem_set_self, List.getElem_set_ne hjk]
      rcases new k hk (fun c => hjk c.symm) with a | a
      · cases hu : u'.ownBlock with
        | none => exact .inl hu
        | some b => exact .inr (by rw [hu, a]; simp)
      · exact .inr fun c => a c.symm
    · by_cases e2 : i = k
      · subst e2
        rw [List.getElem_set_self, List.getElem_set_ne e]
        exact new j hj hjk
      · rw [List.getElem_set_ne e, List.getElem_set_ne e2]; exact h.each j k hj hk hjk
end
end Go.Proofs.YtpkofbdfnbpfpaaGreat.Num
