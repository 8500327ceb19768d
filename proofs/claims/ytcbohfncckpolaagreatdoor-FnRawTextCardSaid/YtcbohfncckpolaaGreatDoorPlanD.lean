/-
  Several texts in one: CompMath CompFacts PushWith ZeroF Shape SchemaOk RawFrom CompBack CompRight CompOk TextRead TextField TextRaw TextBack RawTextS TextGood TextParse TakeWord KindLook SlsOf ErrIs NumCall ParseI.
-/
import Derived.Test.YtcbohfncckpolaaGreatDoorRaw
import Derived.Test.YtcbohfncckpolaaGreatDoorOwnRead
import Derived.Below
import Derived.Test.YtcbohfncckpolaaGreatDoorRawBase
import Derived.Test.YtcbohfncckpolaaGreatDoorKind
import Derived.Test.YtcbohfncckpolaaGreatDoorTag
import Derived.Deep.RegionWith
import Derived.Deep.DeepCutAuto
import Derived.Deep.QuietTactic
import Derived.Deep.RegionHeld3
import Derived.BigQuiet
import Derived.Test.YtcbohfncckpolaaGreatDoorRound
import Derived.Test.YtcbohfncckpolaaGreatDoorCodes
import Derived.Test.YtcbohfncckpolaaGreatDoorFirst
import Derived.Test.YtcbohfncckpolaaGreatDoorTextMath
import Derived.Test.YtcbohfncckpolaaGreatDoorFieldTextI
import Derived.Test.YtcbohfncckpolaaGreatDoorStrs
import Derived.Test.YtcbohfncckpolaaGreatDoorDraw
import Derived.WalkLawsBesides
import Derived.WalkSpells
import Derived.Test.YtcbohfncckpolaaGreatDoorKindMap
import Derived.Maps.Views
import Derived.Test.YtcbohfncckpolaaGreatDoorParts
import Derived.Test.YtcbohfncckpolaaGreatDoorProg
import Derived.WalkKit
import Derived.LaidEql
import Derived.Stop.Asserts
import Derived.RowKitTokens
import Derived.LaidHandle
import Derived.Stop.LaidErr
import Derived.Test.YtcbohfncckpolaaGreatDoorBox
import Derived.Test.YtcbohfncckpolaaGreatDoorNumWalk
import Derived.Defers

/-
  Compiling, as the reference does it, told by plain lists: ranks of Ids, fields put in order, shapes put in their places. For any program.
-/
namespace Go.Proofs.YtcbohfncckpolaaGreatDoor.Num
set_option linter.unusedVariables false
set_option linter.unusedSimpArgs false

/-- How many messages have a lesser Id. -/
def rankR (r : List RM) (id : Int) : Nat := (r.filter fun m => decide (m.1 < id)).length
/-- A field put into its place among fields in order. -/
def putR (l : List RF) (f : RF) : List RF := l.takeWhile (fun g => decide (g.1 < f.1)) ++ f :: l.dropWhile (fun g => decide (g.1 < f.1))
def compF (r : List RM) (f : RF) : RF := (f.1, f.2.1, f.2.2.1, f.2.2.2.1, if f.2.1 = 8 then (rankR r f.2.2.2.2 : Int) else -1)
def compFs (r : List RM) (l : List RF) : List RF := l.foldl (fun acc f => putR acc (compF r f)) []
def compStep (r : List RM) (acc : List RM) (m : RM) : List RM := acc.set (rankR r m.1) (m.1, compFs r m.2)
def compileR (r : List RM) : List RM := r.foldl (compStep r) (List.replicate r.length (0, []))
theorem rank_le (r : List RM) (id : Int) : rankR r id ≤ r.length := List.length_filter_le ..
theorem rank_take (r : List RM) (id : Int) (k : Nat) (hk : k < r.length) : ((r.take (k + 1)).filter fun m => decide (m.1 < id)).length = ((r.take k).filter fun m => decide (m.1 < id)).length + (if r[k].1 < id then 1 else 0) := by
  rw [List.take_succ_eq_append_getElem hk, List.filter_append, List.length_append]
  by_cases h : r[k].1 < id
  · simp [h]
  · simp [h]
theorem rank_lt {r : List RM} {k : Nat} (hk : k < r.length) : rankR r r[k].1 < r.length := by
  unfold rankR
  rcases Nat.lt_or_ge (r.filter fun m => decide (m.1 < r[k].1)).length r.length with h | h
  · exact h
  · exfalso
    have he : (r.filter fun m => decide (m.1 < r[k].1)).length = r.length := Nat.le_antisymm (List.length_filter_le ..) h
    have := (List.length_filter_eq_length_iff.1 he) r[k] (List.getElem_mem hk)
    simp at this
theorem putR_len (l : List RF) (f : RF) : (putR l f).length = l.length + 1 := by
  unfold putR
  have := congrArg List.length (List.takeWhile_append_dropWhile (p := fun g : RF => decide (g.1 < f.1)) (l := l))
  rw [List.length_append] at this
  simp only [List.length_append, List.length_cons]
  omega
theorem foldPut_len (r : List RM) : ∀ (l : List RF) (acc : List RF), (l.foldl (fun acc f => putR acc (compF r f)) acc).length = acc.length + l.length
  | [], acc => by simp
  | f :: l, acc => by rw [List.foldl_cons, foldPut_len r l, putR_len, List.length_cons]; omega
theorem compFs_len (r : List RM) (l : List RF) : (compFs r l).length = l.length := by unfold compFs; rw [foldPut_len]; simp
theorem foldStep_len (r : List RM) : ∀ (l : List RM) (acc : List RM), (l.foldl (compStep r) acc).length = acc.length
  | [], acc => rfl
  | m :: l, acc => by rw [List.foldl_cons, foldStep_len r l]; simp [compStep]
theorem compileR_len (r : List RM) : (compileR r).length = r.length := by unfold compileR; rw [foldStep_len]; simp
theorem fold_take {α β : Type} (f : β → α → β) (l : List α) (b : β) (k : Nat) (hk : k < l.length) : (l.take (k + 1)).foldl f b = f ((l.take k).foldl f b) l[k] := by
  rw [List.take_succ_eq_append_getElem hk, List.foldl_append]; rfl
/-- Where a field is put: behind the k first ones, all lesser, ahead of the k-th, which is not. -/
theorem putR_at (l : List RF) (f : RF) (k : Nat) (hk : k ≤ l.length) (hlt : ∀ j (hj : j < l.length), j < k → l[j].1 < f.1) (hge : ∀ h : k < l.length, ¬ l[k].1 < f.1) : putR l f = l.take k ++ f :: l.drop k := by
  unfold putR
  have h1 : l.takeWhile (fun g => decide (g.1 < f.1)) = l.take k ∧ l.dropWhile (fun g => decide (g.1 < f.1)) = l.drop k := by
    induction l generalizing k with
    | nil => simp
    | cons a l ih =>
      cases k with
      | zero =>
        have := hge (by simp)
        simp only [List.getElem_cons_zero] at this
        simp [List.takeWhile_cons, List.dropWhile_cons, this]
      | succ k =>
        have h0 := hlt 0 (by simp) (by omega)
        simp only [List.getElem_cons_zero] at h0
        have hi := ih k (by simpa using hk) (fun j hj hjk => by have := hlt (j + 1) (by simpa using hj) (by omega); simpa using this) (fun h => by have := hge (by simpa using h); simpa using this)
        simp [List.takeWhile_cons, List.dropWhile_cons, h0, hi.1, hi.2]
  rw [h1.1, h1.2]
end Go.Proofs.YtcbohfncckpolaaGreatDoor.Num

/-
  Facts on compiling by plain lists: ranks of Ids that differ, where a message's shape lies, fields in order. For any program.
-/
namespace Go.Proofs.YtcbohfncckpolaaGreatDoor.Num
set_option linter.unusedVariables false
set_option linter.unusedSimpArgs false

theorem rank_cons (m : RM) (r : List RM) (a : Int) : rankR (m :: r) a = (if m.1 < a then 1 else 0) + rankR r a := by
  unfold rankR
  by_cases h : m.1 < a
  · rw [List.filter_cons_of_pos (by simpa using h), List.length_cons, if_pos h]; omega
  · rw [List.filter_cons_of_neg (by simpa using h), if_neg h]; omega
theorem rank_mono : ∀ (r : List RM) {a b : Int}, a ≤ b → rankR r a ≤ rankR r b
  | [], _, _, _ => by simp [rankR]
  | m :: r, a, b, h => by
    have ih := rank_mono r h
    rw [rank_cons, rank_cons]
    split <;> split <;> omega
theorem rank_strict : ∀ (r : List RM) {a b : Int}, a < b → (∃ m ∈ r, m.1 = a) → rankR r a < rankR r b
  | [], _, _, _, ⟨m, hm, _⟩ => by simp at hm
  | m :: r, a, b, h, ⟨x, hx, he⟩ => by
    rw [rank_cons, rank_cons]
    rcases List.mem_cons.1 hx with rfl | hx
    · have := rank_mono r (Int.le_of_lt h)
      rw [if_neg (by omega), if_pos (by omega)]; omega
    · have ih := rank_strict r h ⟨x, hx, he⟩
      split <;> split <;> omega
theorem rank_inj {r : List RM} {a b : Int} (ha : ∃ m ∈ r, m.1 = a) (hb : ∃ m ∈ r, m.1 = b) (h : rankR r a = rankR r b) : a = b := by
  rcases Int.lt_trichotomy a b with h1 | h1 | h1
  · have := rank_strict r h1 ha; omega
  · exact h1
  · have := rank_strict r h1 hb; omega
theorem fold_other {r : List RM} : ∀ (l acc : List RM) (p : Nat), (∀ x ∈ l, rankR r x.1 ≠ p) → (l.foldl (compStep r) acc)[p]? = acc[p]?
  | [], _, _, _ => rfl
  | x :: l, acc, p, h => by
    rw [List.foldl_cons, fold_other l _ p fun y hy => h y (List.mem_cons_of_mem _ hy)]
    unfold compStep
    rw [List.getElem?_set_ne (h x List.mem_cons_self)]
theorem fold_at {r : List RM} : ∀ (l acc : List RM), (∀ x ∈ l, x ∈ r) → (l.Pairwise fun m n => m.1 ≠ n.1) → ∀ x ∈ l, rankR r x.1 < acc.length → (l.foldl (compStep r) acc)[rankR r x.1]? = some (x.1, compFs r x.2)
  | [], _, _, _, x, hx, _ => by simp at hx
  | y :: l, acc, hr, hp, x, hx, hlt => by
    rw [List.foldl_cons]
    rw [List.pairwise_cons] at hp
    rcases List.mem_cons.1 hx with rfl | hx
    · rw [fold_other l _ _ fun z hz e => hp.1 z hz (rank_inj ⟨x, hr x List.mem_cons_self, rfl⟩ ⟨z, hr z (List.mem_cons_of_mem _ hz), rfl⟩ e.symm)]
      unfold compStep
      rw [List.getElem?_set_self hlt]
    · exact fold_at l _ (fun z hz => hr z (List.mem_cons_of_mem _ hz)) hp.2 x hx (by simpa [compStep] using hlt)
/-- Where a message's shape lies. -/
theorem compileR_at {r : List RM} (hp : r.Pairwise fun m n => m.1 ≠ n.1) {x : RM} (hx : x ∈ r) : (compileR r)[rankR r x.1]? = some (x.1, compFs r x.2) := by
  obtain ⟨k, hk, rfl⟩ := List.getElem_of_mem hx
  exact fold_at r _ (fun _ h => h) hp _ (List.getElem_mem hk) (by rw [List.length_replicate]; exact rank_lt hk)
theorem nodup_bound : ∀ (n : Nat) (l : List Nat), l.Nodup → (∀ x ∈ l, x < n) → l.length ≤ n
  | 0, l, _, h => by
    cases l with
    | nil => simp
    | cons a l => exact absurd (h a List.mem_cons_self) (by omega)
  | n + 1, l, hn, h => by
    have ih := nodup_bound n (l.erase n) (hn.erase n) fun x hx => by
      have h1 := h x (List.mem_of_mem_erase hx)
      have h2 := (hn.mem_erase_iff.1 hx).1
      omega
    rw [List.length_erase] at ih
    split at ih <;> omega
/-- Each place is some message's. -/
theorem rank_onto {r : List RM} (hp : r.Pairwise fun m n => m.1 ≠ n.1) (p : Nat) (h : p < r.length) : ∃ x ∈ r, rankR r x.1 = p := by
  by_cases hc : ∃ x ∈ r, rankR r x.1 = p
  · exact hc
  · exfalso
    have hnd : (r.map fun x => rankR r x.1).Nodup := by
      rw [List.nodup_iff_pairwise_ne, List.pairwise_map]
      refine List.Pairwise.imp_of_mem ?_ hp
      intro a b ha hb hab e
      exact hab (rank_inj ⟨a, ha, rfl⟩ ⟨b, hb, rfl⟩ e)
    have hb := nodup_bound r.length (p :: r.map fun x => rankR r x.1) (List.nodup_cons.2 ⟨fun hm => by
      obtain ⟨x, hx, e⟩ := List.mem_map.1 hm
      exact hc ⟨x, hx, e⟩, hnd⟩) fun q hq => by
      rcases List.mem_cons.1 hq with rfl | hq
      · exact h
      · obtain ⟨x, hx, rfl⟩ := List.mem_map.1 hq
        obtain ⟨k, hk, rfl⟩ := List.getElem_of_mem hx
        exact rank_lt hk
    rw [List.length_cons, List.length_map] at hb
    omega
end Go.Proofs.YtcbohfncckpolaaGreatDoor.Num

/-
  A message with its fields appended to a description that the call owns. For any program.
-/
namespace Go.Proofs.YtcbohfncckpolaaGreatDoor.Num
open Go.RowKit Go.Proofs
set_option linter.unusedVariables false

theorem ownsRow_below {w w' : World} {C B : Nat} {T : TypeId} {sz n : Nat} {v : Value} {xs : List Value} (h : w.ownsRow B T sz v n xs) (hb : Below C w w') (hC : ∀ k, v.ownBlock = some k → k < C) : w'.ownsRow B T sz v n xs := by
  obtain ⟨h1, h2⟩ := h
  refine ⟨h1, ?_⟩
  rcases h2 with h2 | ⟨g, cap, cur, rfl, a, b, c⟩
  · exact .inl h2
  · exact .inr ⟨g, cap, cur, rfl, a, (hb.block g (hC g rfl)).trans b, c⟩
theorem ownsRow_base {w : World} {B B' : Nat} {T : TypeId} {sz n : Nat} {v : Value} {xs : List Value} (h : w.ownsRow B T sz v n xs) (hB : B' ≤ B) : w.ownsRow B' T sz v n xs := by
  obtain ⟨h1, h2⟩ := h
  refine ⟨h1, ?_⟩
  rcases h2 with h2 | ⟨g, cap, cur, e, a, b⟩
  · exact .inl h2
  · exact .inr ⟨g, cap, cur, e, Nat.le_trans hB a, b⟩
theorem ownsRow_form {w : World} {B : Nat} {T : TypeId} {sz n : Nat} {v : Value} {xs : List Value} (h : w.ownsRow B T sz v n xs) : ∃ a c, v = .slice a n c := by
  rcases h.2 with ⟨rfl, rfl⟩ | ⟨g, cap, cur, e, _⟩
  · exact ⟨_, _, rfl⟩
  · exact ⟨_, _, e⟩
section
variable {w w' : World} {B : Nat} {TM TF : TypeId} {v : Value} {ms : List OM}
theorem OwnRaw.pushWith {v' u : Value} {id : Int} {l : List RF} (h : OwnRaw w B TM TF v ms) (hB : B ≤ w.heap.size) (hu : FOwn w B TF (id, u, l)) (ha1 : ∀ i (hi : i < ms.length), Apart ms[i].2.1 u) (ha2 : ∀ i (hi : i < ms.length), Apart u ms[i].2.1) (huv : Apart u v)
    (h2 : w'.ownsRow B TM 2 v' (ms.length + 1) (ms.flatMap msgC ++ [.int .i64 id, u])) (hg : w.grownBy w' v.ownBlock) (hb : v'.ownBlock = v.ownBlock ∨ v'.ownBlock = some w.heap.size) :
    OwnRaw w' B TM TF v' (ms ++ [(id, u, l)]) := by
  have away : ∀ {x : Value} {m : OM}, FOwn w B TF (m.1, x, m.2.2) → Apart x v → Apart x v' := by
    intro x m hf ha
    rcases ha with e | e
    · exact .inl e
    · rcases hb with hb | hb
      · exact .inr (by rw [hb]; exact e)
      · refine .inr fun c => ?_
        have := (World.ownsRow.lt hf _ (c.trans hb)).2
        omega
  refine ⟨by simpa [msgC] using h2, fun i hi => ?_, fun i hi => ?_, fun i j hi hj hij => ?_⟩
  · by_cases e : i < ms.length
    · rw [List.getElem_append_left e]; exact World.ownsRow.kept (h.fields i e) hg (h.apart i e)
    · obtain rfl : i = ms.length := by simp at hi; omega
      rw [List.getElem_append_right (by omega)]
      simp only [Nat.sub_self, List.getElem_cons_zero]
      exact World.ownsRow.kept hu hg huv
  · by_cases e : i < ms.length
    · rw [List.getElem_append_left e]; exact away (m := ms[i]) (h.fields i e) (h.apart i e)
    · obtain rfl : i = ms.length := by simp at hi; omega
      rw [List.getElem_append_right (by omega)]
      simp only [Nat.sub_self, List.getElem_cons_zero]
      exact away (m := (id, u, l)) hu huv
  · by_cases e : i < ms.length
    · by_cases e2 : j < ms.length
      · rw [List.getElem_append_left e, List.getElem_append_left e2]; exact h.each i j e e2 hij
      · obtain rfl : j = ms.length := by simp at hj; omega
        rw [List.getElem_append_left e, List.getElem_append_right (by omega)]
        simp only [Nat.sub_self, List.getElem_cons_zero]
        exact ha1 i e
    · obtain rfl : i = ms.length := by simp at hi; omega
      rw [List.getElem_append_right (by omega)]
      simp only [Nat.sub_self, List.getElem_cons_zero]
      by_cases e2 : j < ms.length
      · rw [List.getElem_append_left e2]; exact ha2 j e2
      · obtain rfl : j = ms.length := by simp at hj; omega
        exact absurd rfl hij
end
end Go.Proofs.YtcbohfncckpolaaGreatDoor.Num

/-
  The field that is all zero.
-/
namespace Go.Proofs.YtcbohfncckpolaaGreatDoor.Num
def zeroF : RF := (0, 0, false, false, 0)
end Go.Proofs.YtcbohfncckpolaaGreatDoor.Num

/-
  The walks of the reference's ShapeAt, FieldAt and Runs: they give what the plain definitions here say; only new memory is written.
-/
namespace Go.Proofs.YtcbohfncckpolaaGreatDoor.Num
open Go.RowKit Go.Proofs
set_option linter.unusedVariables false
set_option linter.unusedSimpArgs false

def shapeAtR (s : List RM) (id : Int) : Int := match s.findIdx? (fun m => m.1 == id) with | some i => (i : Int) | none => -1
theorem shapeAt_yes {s : List RM} {id : Int} {k : Nat} (hk : k < s.length) (h : s[k].1 = id) (hno : ∀ j (hj : j < s.length), j < k → s[j].1 ≠ id) : shapeAtR s id = (k : Int) := by
  unfold shapeAtR
  rw [List.findIdx?_eq_some_iff_getElem.2 ⟨hk, by simpa using h, fun j hj => by simpa using hno j (by omega) hj⟩]
theorem shapeAt_no {s : List RM} {id : Int} (hno : ∀ j (hj : j < s.length), s[j].1 ≠ id) : shapeAtR s id = -1 := by
  unfold shapeAtR
  rw [List.findIdx?_eq_none_iff.2 (fun m hm => by obtain ⟨j, hj, rfl⟩ := List.getElem_of_mem hm; simpa using hno j hj)]
def fieldIn (l : List RF) (x : Int) : RF × Bool := match l.find? (fun f => f.1 == x) with | some f => (f, true) | none => (zeroF, false)
def fieldAtR (s : List RM) (shape x : Int) : RF × Bool := if h : 0 ≤ shape ∧ shape.toNat < s.length then fieldIn (s[shape.toNat]'h.2).2 x else (zeroF, false)
theorem fieldIn_yes {l : List RF} {x : Int} {k : Nat} (hk : k < l.length) (h : l[k].1 = x) (hno : ∀ j (hj : j < l.length), j < k → l[j].1 ≠ x) : fieldIn l x = (l[k], true) := by
  unfold fieldIn
  rw [List.find?_eq_some_iff_getElem.2 ⟨by simpa using h, k, hk, rfl, fun j hj => by simpa using hno j (by omega) hj⟩]
theorem fieldIn_no {l : List RF} {x : Int} (hno : ∀ j (hj : j < l.length), l[j].1 ≠ x) : fieldIn l x = (zeroF, false) := by
  unfold fieldIn
  rw [List.find?_eq_none.2 (fun m hm => by obtain ⟨j, hj, rfl⟩ := List.getElem_of_mem hm; simpa using hno j hj)]
theorem fieldAt_in {s : List RM} {k : Nat} {x : Int} (h : k < s.length) : fieldAtR s (k : Int) x = fieldIn s[k].2 x := by
  unfold fieldAtR
  rw [dif_pos ⟨by omega, by simpa using h⟩]
  simp
theorem fieldAt_out {s : List RM} {shape x : Int} (h : ¬ (0 ≤ shape ∧ shape ≤ (s.length : Int) - 1)) : fieldAtR s shape x = (zeroF, false) := by
  unfold fieldAtR
  rw [dif_neg (by omega)]
def runsB (f : RF) : Bool := f.2.2.1 && numericB f.2.1
theorem neS {x c : Int} (h : x ≠ c) : (x == c) = false := by rw [beq_eq_false_iff_ne]; exact h
end Go.Proofs.YtcbohfncckpolaaGreatDoor.Num

/-
  The walks of the reference's l8FieldOk and SchemaOk: they give what the plain definitions here say; only new memory is written.
-/
namespace Go.Proofs.YtcbohfncckpolaaGreatDoor.Num
open Go.RowKit Go.Proofs
set_option linter.unusedVariables false
set_option linter.unusedSimpArgs false

def fieldOkB (n : Nat) (f : RF) : Bool :=
  if numOkB f.1 = false then false else if ¬ (1 ≤ f.2.1 ∧ f.2.1 ≤ 8) then false
  else if f.2.2.2.1 = true ∧ (f.2.2.1 = false ∨ numericB f.2.1 = false) then false
  else if f.2.1 = 8 then decide (0 ≤ f.2.2.2.2 ∧ f.2.2.2.2 ≤ (n : Int) - 1) else f.2.2.2.2 == -1
def fieldGood (n : Nat) (l : List RF) (k : Nat) (f : RF) : Prop := fieldOkB n f = true ∧ ∀ p (hp : p < l.length), p + 1 = k → l[p].1 < f.1
def shapeGood (s : List RM) (i : Nat) (m : RM) : Prop := (1 ≤ m.1 ∧ m.1 ≤ 99) ∧ (∀ p (hp : p < s.length), p + 1 = i → s[p].1 < m.1) ∧ m.2.length ≤ 8 ∧ ∀ k (hk : k < m.2.length), fieldGood s.length m.2 k m.2[k]
def SchemaP (s : List RM) : Prop := s.length ≤ 6 ∧ ∀ i (hi : i < s.length), shapeGood s i s[i]
noncomputable def schemaB (s : List RM) : Bool := @decide (SchemaP s) (Classical.propDecidable _)
theorem schema_yes {s : List RM} (h : SchemaP s) : schemaB s = true := by unfold schemaB; exact @decide_eq_true _ (Classical.propDecidable _) h
theorem schema_no {s : List RM} (h : ¬ SchemaP s) : schemaB s = false := by unfold schemaB; exact @decide_eq_false _ (Classical.propDecidable _) h
end Go.Proofs.YtcbohfncckpolaaGreatDoor.Num

/-
  The walk of the reference's RawFrom: the schema's shapes and fields, with Ids in the place of indices; only new memory is written.
-/
namespace Go.Proofs.YtcbohfncckpolaaGreatDoor.Num
open Go.RowKit Go.Proofs
set_option linter.unusedVariables false
set_option linter.unusedSimpArgs false

/-- A field with the Id of its message in the place of the index. -/
def backF (s : List RM) (f : RF) : RF := (f.1, f.2.1, f.2.2.1, f.2.2.2.1, if f.2.1 = 8 then (s.getD f.2.2.2.2.toNat (0, [])).1 else 0)
def backM (s : List RM) (m : RM) : RM := (m.1, m.2.map (backF s))
noncomputable def rawFromR (s : List RM) : List RM := if schemaB s = true then s.map (backM s) else []
theorem small_rawFrom {s : List RM} (h : Small s) : Small (rawFromR s) := by
  unfold rawFromR
  split
  · refine ⟨by simpa using h.1, fun m hm => ?_⟩
    obtain ⟨x, hx, rfl⟩ := List.mem_map.1 hm
    simpa [backM] using h.2 x hx
  · exact ⟨by simp, fun m hm => by simp at hm⟩
theorem schemaB_of {s : List RM} (h : schemaB s = true) : SchemaP s := Classical.byContradiction fun h' => by rw [schema_no h'] at h; cases h
theorem apart_of {u v : Value} {n : Nat} (hu : ∀ k, u.ownBlock = some k → k < n) (hv : ∀ k, v.ownBlock = some k → n < k) : Apart u v ∧ Apart v u := by
  refine ⟨?_, ?_⟩
  · cases h : u.ownBlock with
    | none => exact .inl h
    | some k => exact .inr fun e => by have h1 := hu k h; rw [h] at e; have h2 := hv k e.symm; omega
  · cases h : v.ownBlock with
    | none => exact .inl h
    | some k => exact .inr fun e => by have h1 := hv k h; rw [h] at e; have h2 := hu k e.symm; omega
theorem infoF : (Tryz.prog.info? 58).map (fun i => (i.zero, i.size, i.bytes)) = some (some (.agg #[.int .i64 0, .int .i64 0, .bool false, .bool false, .int .i64 0]), 5, 32) := by kernel_rfl
theorem infoM : (Tryz.prog.info? 42).map (fun i => (i.zero, i.size, i.bytes)) = some (some (.agg #[.int .i64 0, .slice none 0 0]), 2, 32) := by kernel_rfl
end Go.Proofs.YtcbohfncckpolaaGreatDoor.Num

/-
  Facts on compiling by plain lists: what RawFrom gives of a valid schema compiles to that schema. For any program.
-/
namespace Go.Proofs.YtcbohfncckpolaaGreatDoor.Num
set_option linter.unusedVariables false
set_option linter.unusedSimpArgs false

/-- A field that is greater than all goes to the end. -/
theorem putR_end : ∀ (l : List RF) (f : RF), (∀ g ∈ l, g.1 < f.1) → putR l f = l ++ [f]
  | [], f, _ => rfl
  | g :: l, f, h => by
    have hg := h g List.mem_cons_self
    have ih := putR_end l f fun x hx => h x (List.mem_cons_of_mem _ hx)
    unfold putR at ih ⊢
    rw [List.takeWhile_cons_of_pos (by simpa using hg), List.dropWhile_cons_of_pos (by simpa using hg), List.cons_append, ih, List.cons_append]
theorem foldPut_asc (r : List RM) : ∀ (l acc : List RF), (∀ g ∈ acc, ∀ f ∈ l, g.1 < f.1) → (l.Pairwise fun f g => f.1 < g.1) → l.foldl (fun acc f => putR acc (compF r f)) acc = acc ++ l.map (compF r)
  | [], acc, _, _ => by simp
  | f :: l, acc, h, hp => by
    rw [List.pairwise_cons] at hp
    rw [List.foldl_cons, putR_end acc (compF r f) (fun g hg => h g hg f List.mem_cons_self), foldPut_asc r l _ (fun g hg x hx => by
      rcases List.mem_append.1 hg with hg | hg
      · exact h g hg x (List.mem_cons_of_mem _ hx)
      · obtain rfl := List.mem_singleton.1 hg; exact hp.1 x hx) hp.2]
    simp
theorem compFs_asc (r : List RM) (l : List RF) (hp : l.Pairwise fun f g => f.1 < g.1) : compFs r l = l.map (compF r) := by
  unfold compFs
  rw [foldPut_asc r l [] (fun g hg => by simp at hg) hp, List.nil_append]
theorem rank_zero : ∀ (r : List RM) (a : Int), (∀ m ∈ r, ¬ m.1 < a) → rankR r a = 0
  | [], _, _ => rfl
  | m :: r, a, h => by rw [rank_cons, if_neg (h m List.mem_cons_self), rank_zero r a fun x hx => h x (List.mem_cons_of_mem _ hx)]
/-- The rank in a list in order is the place. -/
theorem rank_asc : ∀ (r : List RM), (r.Pairwise fun m n => m.1 < n.1) → ∀ k (hk : k < r.length), rankR r r[k].1 = k
  | [], _, k, hk => by simp at hk
  | m :: r, hp, 0, _ => by
    rw [List.pairwise_cons] at hp
    refine rank_zero _ _ fun x hx => ?_
    rcases List.mem_cons.1 hx with rfl | hx
    · simp
    · have := hp.1 x hx; simp only [List.getElem_cons_zero]; omega
  | m :: r, hp, k + 1, hk => by
    rw [List.pairwise_cons] at hp
    have hk' : k < r.length := by simpa using hk
    have := hp.1 r[k] (List.getElem_mem hk')
    rw [List.getElem_cons_succ, rank_cons, if_pos this, rank_asc r hp.2 k hk', Nat.add_comm]
theorem compileR_asc {r : List RM} (hp : r.Pairwise fun m n => m.1 < n.1) (hf : ∀ m ∈ r, m.2.Pairwise fun f g => f.1 < g.1) : compileR r = r.map fun m => (m.1, m.2.map (compF r)) := by
  refine List.ext_getElem? fun k => ?_
  by_cases hk : k < r.length
  · have h1 := compileR_at (hp.imp fun h => by omega) (List.getElem_mem hk)
    rw [rank_asc r hp k hk] at h1
    rw [h1, List.getElem?_map, List.getElem?_eq_getElem hk, compFs_asc r _ (hf _ (List.getElem_mem hk))]
    rfl
  · rw [List.getElem?_eq_none (by rw [compileR_len]; omega), List.getElem?_eq_none (by rw [List.length_map]; omega)]
theorem asc_of {α : Type} (g : α → Int) : ∀ (l : List α), (∀ k (hk : k + 1 < l.length), g l[k] < g l[k + 1]) → l.Pairwise fun a b => g a < g b
  | [], _ => .nil
  | [a], _ => by simp
  | a :: b :: l, h => by
    have ih := asc_of g (b :: l) fun k hk => by have := h (k + 1) (by simpa using hk); simpa using this
    have h0 : g a < g b := h 0 (by simp)
    rw [List.pairwise_cons] at ih ⊢
    refine ⟨fun x hx => ?_, List.pairwise_cons.2 ih⟩
    rcases List.mem_cons.1 hx with rfl | hx
    · exact h0
    · exact Int.lt_trans h0 (ih.1 x hx)
theorem SchemaP.ids {s : List RM} (h : SchemaP s) : s.Pairwise fun m n => m.1 < n.1 :=
  asc_of (fun m : RM => m.1) s fun k hk => (h.2 (k + 1) hk).2.1 k (by omega) rfl
theorem SchemaP.fields {s : List RM} (h : SchemaP s) {m : RM} (hm : m ∈ s) : m.2.Pairwise fun f g => f.1 < g.1 := by
  obtain ⟨i, hi, rfl⟩ := List.getElem_of_mem hm
  exact asc_of (fun f : RF => f.1) _ fun k hk => ((h.2 i hi).2.2.2 (k + 1) hk).2 k (by omega) rfl
theorem rank_back (s : List RM) : ∀ (l : List RM) (a : Int), rankR (l.map (backM s)) a = rankR l a
  | [], _ => rfl
  | m :: l, a => by rw [List.map_cons, rank_cons, rank_cons, rank_back s l a]; rfl
/-- A field is given back. -/
theorem comp_back {s : List RM} (h : SchemaP s) {f : RF} (hf : fieldOkB s.length f = true) : compF (s.map (backM s)) (backF s f) = f := by
  obtain ⟨a, b, c, d, e⟩ := f
  unfold fieldOkB at hf
  unfold compF backF
  simp only at hf ⊢
  split at hf
  · cases hf
  · split at hf
    · cases hf
    · split at hf
      · cases hf
      · split at hf
        · rename_i h8
          have he : 0 ≤ e ∧ e ≤ (s.length : Int) - 1 := of_decide_eq_true hf
          obtain ⟨n, rfl⟩ := Int.eq_ofNat_of_zero_le he.1
          have hn : n < s.length := by omega
          rw [if_pos h8, if_pos h8, rank_back, Int.toNat_natCast, List.getD_eq_getElem?_getD, List.getElem?_eq_getElem hn, Option.getD_some, rank_asc s h.ids n hn]
        · rename_i h8
          have he : e = -1 := by simpa using hf
          rw [if_neg h8, he]
/-- Compiling what RawFrom gives of a valid schema gives the schema. -/
theorem compile_back {s : List RM} (h : SchemaP s) : compileR (rawFromR s) = s := by
  unfold rawFromR
  rw [if_pos (schema_yes h)]
  rw [compileR_asc (by rw [List.pairwise_map]; exact h.ids) fun m hm => by
    obtain ⟨x, hx, rfl⟩ := List.mem_map.1 hm
    show (x.2.map (backF s)).Pairwise fun f g => f.1 < g.1
    rw [List.pairwise_map]
    exact h.fields hx]
  rw [List.map_map]
  refine (List.map_congr_left fun m hm => ?_).trans (List.map_id s)
  obtain ⟨i, hi, rfl⟩ := List.getElem_of_mem hm
  show (s[i].1, (s[i].2.map (backF s)).map (compF (s.map (backM s)))) = s[i]
  rw [List.map_map]
  have : s[i].2.map (compF (s.map (backM s)) ∘ backF s) = s[i].2 :=
    (List.map_congr_left fun f hf => by
      obtain ⟨k, hk, rfl⟩ := List.getElem_of_mem hf
      exact comp_back h ((h.2 i hi).2.2.2 k hk).1).trans (List.map_id _)
  rw [this]
end Go.Proofs.YtcbohfncckpolaaGreatDoor.Num

/-
  Facts on compiling by plain lists: what RawFrom gives of a valid schema has no violation; what is compiled of a description without a violation is a valid schema. For any program.
-/
namespace Go.Proofs.YtcbohfncckpolaaGreatDoor.Num
set_option linter.unusedVariables false
set_option linter.unusedSimpArgs false

theorem asc_get {α : Type} {g : α → Int} {l : List α} (h : l.Pairwise fun a b => g a < g b) {i j : Nat} (hj : j < l.length) (hij : i < j) : g l[i] < g l[j] :=
  List.pairwise_iff_getElem.1 h i j (by omega) hj hij
theorem fieldOk_of {n : Nat} {f : RF} (h : fieldOkB n f = true) : numOkB f.1 = true ∧ (1 ≤ f.2.1 ∧ f.2.1 ≤ 8) ∧ ¬ (f.2.2.2.1 = true ∧ (f.2.2.1 = false ∨ numericB f.2.1 = false)) ∧ (f.2.1 = 8 → 0 ≤ f.2.2.2.2 ∧ f.2.2.2.2 ≤ (n : Int) - 1) ∧ (f.2.1 ≠ 8 → f.2.2.2.2 = -1) := by
  unfold fieldOkB at h
  split at h
  · cases h
  · split at h
    · cases h
    · split at h
      · cases h
      · rename_i h1 h2 h3
        refine ⟨by simpa using h1, Classical.byContradiction fun e => h2 e, h3, fun e => ?_, fun e => ?_⟩
        · rw [if_pos e] at h; exact of_decide_eq_true h
        · rw [if_neg e] at h; simpa using h
theorem fieldOk_to {n : Nat} {f : RF} (h1 : numOkB f.1 = true) (h2 : 1 ≤ f.2.1 ∧ f.2.1 ≤ 8) (h3 : ¬ (f.2.2.2.1 = true ∧ (f.2.2.1 = false ∨ numericB f.2.1 = false))) (h4 : f.2.1 = 8 → 0 ≤ f.2.2.2.2 ∧ f.2.2.2.2 ≤ (n : Int) - 1) (h5 : f.2.1 ≠ 8 → f.2.2.2.2 = -1) : fieldOkB n f = true := by
  unfold fieldOkB
  rw [if_neg (by simp [h1]), if_neg (fun e => e h2), if_neg h3]
  split
  · rename_i e; exact decide_eq_true (h4 e)
  · rename_i e; simp [h5 e]
theorem fieldCode_zero {r : List RM} {l : List RF} {k : Nat} {f : RF} : fieldCodeN r l k f = 0 ↔ (numOkB f.1 = true ∧ hasNum (l.take k) f.1 = false ∧ (1 ≤ f.2.1 ∧ f.2.1 ≤ 8) ∧ ¬ (f.2.2.2.1 = true ∧ (f.2.2.1 = false ∨ numericB f.2.1 = false)) ∧ (f.2.1 = 8 → hasId r f.2.2.2.2 r.length = true) ∧ (f.2.1 ≠ 8 → f.2.2.2.2 = 0)) := by
  unfold fieldCodeN
  constructor
  · intro h
    split at h
    · cases h
    · split at h
      · cases h
      · split at h
        · cases h
        · split at h
          · cases h
          · split at h
            · cases h
            · rename_i h1 h2 h3 h4 h5
              refine ⟨by simpa using h1, by simpa using h2, Classical.byContradiction fun e => h3 e, h4, fun e => ?_, fun e => ?_⟩
              · cases hh : hasId r f.2.2.2.2 r.length with
                | true => rfl
                | false => exact absurd (.inl ⟨e, hh⟩) h5
              · exact Classical.byContradiction fun hh => h5 (.inr ⟨e, hh⟩)
  · rintro ⟨h1, h2, h3, h4, h5, h6⟩
    rw [if_neg (by simp [h1]), if_neg (by simp [h2]), if_neg (fun e => e h3), if_neg h4, if_neg]
    rintro (⟨e, hh⟩ | ⟨e, hh⟩)
    · rw [h5 e] at hh; cases hh
    · exact hh (h6 e)
theorem msgCode_zero {r : List RM} {k : Nat} {m : RM} : msgCodeN r k m = 0 ↔ ((1 ≤ m.1 ∧ m.1 ≤ 99) ∧ hasId r m.1 k = false ∧ m.2.length ≤ 8) := by
  unfold msgCodeN
  constructor
  · intro h
    split at h
    · cases h
    · split at h
      · cases h
      · split at h
        · cases h
        · rename_i h1 h2 h3
          exact ⟨Classical.byContradiction fun e => h1 e, by simpa using h2, by omega⟩
  · rintro ⟨h1, h2, h3⟩
    rw [if_neg (fun e => e h1), if_neg (by simp [h2]), if_neg (by omega)]
/-- What RawFrom gives of a valid schema has no violation. -/
theorem back_all {s : List RM} (h : SchemaP s) : AllB (rawFromR s) (rawFromR s).length := by
  have hr : rawFromR s = s.map (backM s) := by unfold rawFromR; rw [if_pos (schema_yes h)]
  rw [hr]
  intro j hj _
  have hjs : j < s.length := by simpa using hj
  obtain ⟨i1, i2, i3, i4⟩ := h.2 j hjs
  have hm : (s.map (backM s))[j] = backM s s[j] := List.getElem_map ..
  refine ⟨?_, fun p hp => ?_⟩
  · rw [msgCode_in hj, hm]
    refine msgCode_zero.2 ⟨i1, ?_, by simpa [backM] using i3⟩
    refine hasId_no fun q hq hqj => ?_
    rw [List.getElem_map]
    have := asc_get (g := fun m : RM => m.1) h.ids hjs hqj
    show s[q].1 ≠ s[j].1
    omega
  · rw [fieldCode_in hj hp]
    simp only [hm] at hp ⊢
    have hps : p < s[j].2.length := by simpa [backM] using hp
    obtain ⟨k1, k2⟩ := i4 p hps
    obtain ⟨f1, f2, f3, f4, f5⟩ := fieldOk_of k1
    have hf : (backM s s[j]).2[p] = backF s s[j].2[p] := List.getElem_map ..
    rw [hf]
    refine fieldCode_zero.2 ⟨f1, ?_, f2, f3, fun e => ?_, fun e => ?_⟩
    · refine hasNum_no fun q hq => ?_
      have hq' : q < p := by rw [List.length_take] at hq; omega
      rw [List.getElem_take]
      have h1 : (backM s s[j]).2[q]'(by omega) = backF s (s[j].2[q]'(by omega)) := List.getElem_map ..
      rw [h1]
      have := asc_get (g := fun f : RF => f.1) (h.fields (List.getElem_mem hjs)) hps hq'
      show (s[j].2[q]'(by omega)).1 ≠ s[j].2[p].1
      omega
    · have e' : s[j].2[p].2.1 = 8 := e
      have hb := f4 e'
      obtain ⟨n, hn⟩ := Int.eq_ofNat_of_zero_le hb.1
      have hns : n < s.length := by omega
      refine hasId_yes (k := n) (by simpa using hns) (by simpa using hns) ?_
      rw [List.getElem_map]
      show s[n].1 = if s[j].2[p].2.1 = 8 then (s.getD s[j].2[p].2.2.2.2.toNat (0, [])).1 else 0
      rw [if_pos e', hn, Int.toNat_natCast, List.getD_eq_getElem?_getD, List.getElem?_eq_getElem hns, Option.getD_some]
    · have e' : ¬ s[j].2[p].2.1 = 8 := e
      show (if s[j].2[p].2.1 = 8 then (s.getD s[j].2[p].2.2.2.2.toNat (0, [])).1 else 0) = 0
      rw [if_neg e']
theorem back_first {s : List RM} (h : SchemaP s) {f : Int × Int × Int} (hf : First (rawFromR s) f) : f = (0, 0, 0) := by
  have hl : (rawFromR s).length ≤ 6 := by unfold rawFromR; rw [if_pos (schema_yes h), List.length_map]; exact h.1
  exact hf.one (.inr ⟨hl, .inl ⟨back_all h, rfl⟩⟩)
theorem first_all {r : List RM} (h : First r (0, 0, 0)) : r.length ≤ 6 ∧ AllB r r.length := by
  rcases h with ⟨_, e⟩ | ⟨h0, ⟨h, _⟩ | ⟨i, hi, _, hc, e⟩ | ⟨i, q, hi, _, _, _, _, hc, e⟩⟩
  · cases e
  · exact ⟨h0, h⟩
  · exact absurd (Prod.mk.inj e).1.symm hc
  · exact absurd (Prod.mk.inj e).1.symm hc
end Go.Proofs.YtcbohfncckpolaaGreatDoor.Num

/-
  Facts on compiling by plain lists: what is compiled of a description without a violation is a valid schema; each message's shape, each field of it. For any program.
-/
namespace Go.Proofs.YtcbohfncckpolaaGreatDoor.Num
set_option linter.unusedVariables false
set_option linter.unusedSimpArgs false

theorem putR_cons (g : RF) (l : List RF) (f : RF) : putR (g :: l) f = if g.1 < f.1 then g :: putR l f else f :: g :: l := by
  unfold putR
  by_cases h : g.1 < f.1
  · rw [if_pos h, List.takeWhile_cons_of_pos (by simpa using h), List.dropWhile_cons_of_pos (by simpa using h), List.cons_append]
  · rw [if_neg h, List.takeWhile_cons_of_neg (by simpa using h), List.dropWhile_cons_of_neg (by simpa using h), List.nil_append]
theorem putR_mem : ∀ (l : List RF) (f x : RF), x ∈ putR l f ↔ x = f ∨ x ∈ l
  | [], f, x => by simp [putR]
  | g :: l, f, x => by
    have ih := putR_mem l f x
    rw [putR_cons]
    split
    · rw [List.mem_cons, ih, List.mem_cons]
      constructor
      · rintro (h | h | h)
        · exact .inr (.inl h)
        · exact .inl h
        · exact .inr (.inr h)
      · rintro (h | h | h)
        · exact .inr (.inl h)
        · exact .inl h
        · exact .inr (.inr h)
    · rw [List.mem_cons]
theorem putR_asc : ∀ (l : List RF) (f : RF), (l.Pairwise fun a b => a.1 < b.1) → (∀ g ∈ l, g.1 ≠ f.1) → (putR l f).Pairwise fun a b => a.1 < b.1
  | [], f, _, _ => by simp [putR]
  | g :: l, f, hp, hn => by
    have hp' := hp
    rw [List.pairwise_cons] at hp
    have ih := putR_asc l f hp.2 fun x hx => hn x (List.mem_cons_of_mem _ hx)
    rw [putR_cons]
    split
    · rename_i h
      refine List.pairwise_cons.2 ⟨fun x hx => ?_, ih⟩
      rcases (putR_mem l f x).1 hx with rfl | hx
      · exact h
      · exact hp.1 x hx
    · rename_i h
      have hne := hn g List.mem_cons_self
      refine List.pairwise_cons.2 ⟨fun x hx => ?_, hp'⟩
      rcases List.mem_cons.1 hx with rfl | hx
      · omega
      · have := hp.1 x hx; omega
theorem foldPut_mem (r : List RM) (x : RF) : ∀ (l acc : List RF), x ∈ l.foldl (fun acc f => putR acc (compF r f)) acc ↔ x ∈ acc ∨ ∃ f ∈ l, x = compF r f
  | [], acc => by simp
  | f :: l, acc => by
    rw [List.foldl_cons, foldPut_mem r x l, putR_mem]
    constructor
    · rintro ((h | h) | ⟨g, hg, h⟩)
      · exact .inr ⟨f, List.mem_cons_self, h⟩
      · exact .inl h
      · exact .inr ⟨g, List.mem_cons_of_mem _ hg, h⟩
    · rintro (h | ⟨g, hg, h⟩)
      · exact .inl (.inr h)
      · rcases List.mem_cons.1 hg with rfl | hg
        · exact .inl (.inl h)
        · exact .inr ⟨g, hg, h⟩
theorem compFs_mem (r : List RM) (l : List RF) (x : RF) : x ∈ compFs r l ↔ ∃ f ∈ l, x = compF r f := by
  unfold compFs; rw [foldPut_mem]; simp
theorem foldPut_sorted (r : List RM) : ∀ (l acc : List RF), (acc.Pairwise fun a b => a.1 < b.1) → (∀ g ∈ acc, ∀ f ∈ l, g.1 ≠ f.1) → (l.Pairwise fun a b => a.1 ≠ b.1) → (l.foldl (fun acc f => putR acc (compF r f)) acc).Pairwise fun a b => a.1 < b.1
  | [], acc, h, _, _ => h
  | f :: l, acc, h, hn, hp => by
    rw [List.pairwise_cons] at hp
    rw [List.foldl_cons]
    refine foldPut_sorted r l _ (putR_asc acc (compF r f) h fun g hg => hn g hg f List.mem_cons_self) (fun g hg x hx => ?_) hp.2
    rcases (putR_mem acc _ g).1 hg with rfl | hg
    · exact hp.1 x hx
    · exact hn g hg x (List.mem_cons_of_mem _ hx)
theorem compFs_sorted (r : List RM) (l : List RF) (hp : l.Pairwise fun a b => a.1 ≠ b.1) : (compFs r l).Pairwise fun a b => a.1 < b.1 :=
  foldPut_sorted r l [] .nil (fun g hg => by simp at hg) hp
theorem hasId_false {r : List RM} {id : Int} {n : Nat} (h : hasId r id n = false) (j : Nat) (hj : j < r.length) (hn : j < n) : r[j].1 ≠ id := fun e => by
  rw [hasId_yes hj hn e] at h; cases h
theorem hasId_true {r : List RM} {id : Int} {n : Nat} (h : hasId r id n = true) : ∃ (j : Nat) (hj : j < r.length), r[j].1 = id := by
  refine Classical.byContradiction fun e => ?_
  rw [hasId_no fun j hj _ he => e ⟨j, hj, he⟩] at h
  cases h
theorem hasNum_false {l : List RF} {x : Int} (h : hasNum l x = false) (j : Nat) (hj : j < l.length) : l[j].1 ≠ x := fun e => by
  rw [hasNum_yes hj e] at h; cases h
theorem AllB.ids {r : List RM} (h : AllB r r.length) : r.Pairwise fun m n => m.1 ≠ n.1 := by
  rw [List.pairwise_iff_getElem]
  intro i j hi hj hij
  have h1 := (h j hj hj).1
  rw [msgCode_in hj] at h1
  exact hasId_false (msgCode_zero.1 h1).2.1 i hi hij
theorem AllB.nums {r : List RM} (h : AllB r r.length) {m : RM} (hm : m ∈ r) : m.2.Pairwise fun f g => f.1 ≠ g.1 := by
  obtain ⟨k, hk, rfl⟩ := List.getElem_of_mem hm
  rw [List.pairwise_iff_getElem]
  intro i j hi hj hij
  have h1 := (h k hk hk).2 j hj
  rw [fieldCode_in hk hj] at h1
  have h2 := hasNum_false (fieldCode_zero.1 h1).2.1 i (by rw [List.length_take]; omega)
  rwa [List.getElem_take] at h2
theorem AllB.field {r : List RM} (h : AllB r r.length) {m : RM} (hm : m ∈ r) {f : RF} (hf : f ∈ m.2) : fieldOkB r.length (compF r f) = true := by
  obtain ⟨k, hk, rfl⟩ := List.getElem_of_mem hm
  obtain ⟨j, hj, rfl⟩ := List.getElem_of_mem hf
  have h1 := (h k hk hk).2 j hj
  rw [fieldCode_in hk hj] at h1
  obtain ⟨g1, _, g3, g4, g5, g6⟩ := fieldCode_zero.1 h1
  refine fieldOk_to g1 g3 g4 (fun e => ?_) (fun e => ?_)
  · obtain ⟨q, hq, he⟩ := hasId_true (g5 e)
    have hl := rank_lt hq
    have e' : r[k].2[j].2.1 = 8 := e
    show 0 ≤ (if r[k].2[j].2.1 = 8 then (rankR r r[k].2[j].2.2.2.2 : Int) else -1) ∧ (if r[k].2[j].2.1 = 8 then (rankR r r[k].2[j].2.2.2.2 : Int) else -1) ≤ (r.length : Int) - 1
    rw [if_pos e', ← he]
    omega
  · have e' : ¬ r[k].2[j].2.1 = 8 := e
    show (if r[k].2[j].2.1 = 8 then (rankR r r[k].2[j].2.2.2.2 : Int) else -1) = -1
    rw [if_neg e']
/-- What is compiled of a description without a violation is a valid schema. -/
theorem AllB.schema {r : List RM} (h : AllB r r.length) (h6 : r.length ≤ 6) : SchemaP (compileR r) := by
  have hids := AllB.ids h
  have hat : ∀ i (hi : i < (compileR r).length), ∃ x ∈ r, rankR r x.1 = i ∧ (compileR r)[i] = (x.1, compFs r x.2) := by
    intro i hi
    obtain ⟨x, hx, he⟩ := rank_onto hids i (by rwa [compileR_len] at hi)
    refine ⟨x, hx, he, ?_⟩
    have h1 := compileR_at hids hx
    rw [he, List.getElem?_eq_getElem hi] at h1
    exact Option.some.inj h1
  refine ⟨by rw [compileR_len]; exact h6, fun i hi => ?_⟩
  obtain ⟨x, hx, he, hv⟩ := hat i hi
  rw [hv]
  obtain ⟨k, hk, hxk⟩ := List.getElem_of_mem hx
  have h1 := (h k hk hk).1
  rw [msgCode_in hk, hxk] at h1
  obtain ⟨m1, m2, m3⟩ := msgCode_zero.1 h1
  refine ⟨m1, fun p hp hpi => ?_, by rw [compFs_len]; exact m3, fun q hq => ?_⟩
  · obtain ⟨y, hy, hye, hyv⟩ := hat p hp
    rw [hyv]
    show y.1 < x.1
    refine Classical.byContradiction fun hc => ?_
    have := rank_mono r (show x.1 ≤ y.1 by omega)
    omega
  · have hs := compFs_sorted r x.2 (AllB.nums h hx)
    obtain ⟨f, hf, hfe⟩ := (compFs_mem r x.2 _).1 (List.getElem_mem hq)
    refine ⟨?_, fun p hp hpq => ?_⟩
    · show fieldOkB (compileR r).length (compFs r x.2)[q] = true
      rw [hfe, compileR_len]
      exact AllB.field h hx hf
    · exact asc_get (g := fun f : RF => f.1) hs hq (by omega)
end Go.Proofs.YtcbohfncckpolaaGreatDoor.Num

/-
  What the reference's ReadField takes out of the words of a string (stage 9): of a field's own text it takes the field. Plain facts; no program is named here.
-/
namespace Go.Proofs.YtcbohfncckpolaaGreatDoor.Num
set_option linter.unusedVariables false
/-- The kind behind a word: the kinds from 1 to j looked at, the last that fits. -/
def kindTo (w : List UInt8) (k0 : Int) : Nat → Int
  | 0 => k0
  | j + 1 => if w = wordL ((j : Int) + 1) then (j : Int) + 1 else kindTo w k0 j
def stepW (f : RF) (w : List UInt8) : RF := (f.1, kindTo w f.2.1 8, f.2.2.1 || w == repW, f.2.2.2.1 || w == packW, if (parse 999999999 w).2 = true then ((parse 999999999 w).1 : Int) else f.2.2.2.2)
def readW : List (List UInt8) → RF
  | [] => (0, 0, false, false, 0)
  | h :: t => t.foldl stepW (((parse 999999999 h).1 : Int), 0, false, false, 0)
theorem kindTo_word {k : Int} (h : 1 ≤ k ∧ k ≤ 8) (k0 : Int) : kindTo (wordL k) k0 8 = k := by
  obtain rfl | rfl | rfl | rfl | rfl | rfl | rfl | rfl : k = 1 ∨ k = 2 ∨ k = 3 ∨ k = 4 ∨ k = 5 ∨ k = 6 ∨ k = 7 ∨ k = 8 := by omega
  all_goals simp [kindTo, wordL, wordR]
theorem kindTo_none {w : List UInt8} (h : ∀ k : Int, 1 ≤ k ∧ k ≤ 8 → w ≠ wordL k) (k0 : Int) : ∀ j : Nat, j ≤ 8 → kindTo w k0 j = k0
  | 0, _ => rfl
  | j + 1, hj => by
    rw [kindTo, if_neg (h _ ⟨by omega, by omega⟩)]
    exact kindTo_none h k0 j (by omega)
theorem parse_letter {c : UInt8} {l : List UInt8} (h : isDig c = false) : parse 999999999 (c :: l) = (0, false) := by
  refine parse_no ?_
  unfold numOk canon
  simp [h]
theorem dec_first {u : Nat} {c : UInt8} {l : List UInt8} (h : dec u = c :: l) : isDig c = true := by
  have := dec_all u
  rw [h] at this
  simp at this
  exact this.1
theorem wordL_first {k : Int} (h : 1 ≤ k ∧ k ≤ 8) : ∃ c l, wordL k = c :: l ∧ isDig c = false := by
  rcases wordL_cases h with ⟨_, e⟩ | ⟨_, e⟩ | ⟨_, e⟩ | ⟨_, e⟩ | ⟨_, e⟩ | ⟨_, e⟩ | ⟨_, e⟩ | ⟨_, e⟩ <;> exact ⟨_, _, e, by decide⟩
theorem dec_not_word {u : Nat} {k : Int} (h : 1 ≤ k ∧ k ≤ 8) : dec u ≠ wordL k := fun e => by
  obtain ⟨c, l, e', hc⟩ := wordL_first h
  rw [e'] at e
  rw [dec_first e] at hc
  cases hc
theorem step_word {k : Int} (h : 1 ≤ k ∧ k ≤ 8) (n : Int) : stepW (n, 0, false, false, 0) (wordL k) = (n, k, false, false, 0) := by
  obtain ⟨c, l, e, hc⟩ := wordL_first h
  have hp : parse 999999999 (wordL k) = (0, false) := by rw [e]; exact parse_letter hc
  have hr : (wordL k == repW) = false ∧ (wordL k == packW) = false := by
    rcases wordL_cases h with ⟨_, e⟩ | ⟨_, e⟩ | ⟨_, e⟩ | ⟨_, e⟩ | ⟨_, e⟩ | ⟨_, e⟩ | ⟨_, e⟩ | ⟨_, e⟩ <;> rw [e] <;> exact ⟨by decide, by decide⟩
  unfold stepW
  simp only [kindTo_word h, hp, hr.1, hr.2]
  simp
theorem step_ref {u : Nat} (hu : u ≤ 999999999) (n k : Int) : stepW (n, k, false, false, 0) (dec u) = (n, k, false, false, (u : Int)) := by
  have hp : parse 999999999 (dec u) = (u, true) := by rw [parse_yes (numOk_dec hu), val_dec]
  have hr : (dec u == repW) = false := by
    refine beq_eq_false_iff_ne.2 fun e => ?_
    have := dec_first e
    exact absurd this (by decide)
  have hq : (dec u == packW) = false := by
    refine beq_eq_false_iff_ne.2 fun e => ?_
    have := dec_first e
    exact absurd this (by decide)
  unfold stepW
  simp only [kindTo_none (fun k h => dec_not_word h) k 8 (Nat.le_refl _), hp, hr, hq]
  simp
theorem step_rep (n k x : Int) (p : Bool) : stepW (n, k, false, p, x) repW = (n, k, true, p, x) := by
  have hk : ∀ k : Int, 1 ≤ k ∧ k ≤ 8 → repW ≠ wordL k := fun k h => by
    rcases wordL_cases h with ⟨_, e⟩ | ⟨_, e⟩ | ⟨_, e⟩ | ⟨_, e⟩ | ⟨_, e⟩ | ⟨_, e⟩ | ⟨_, e⟩ | ⟨_, e⟩ <;> rw [e] <;> decide
  unfold stepW
  simp only [kindTo_none hk k 8 (Nat.le_refl _)]
  rw [show parse 999999999 repW = (0, false) from parse_letter (by decide), show (repW == packW) = false by decide]
  simp
theorem step_pack (n k x : Int) (a : Bool) : stepW (n, k, a, false, x) packW = (n, k, a, true, x) := by
  have hk : ∀ k : Int, 1 ≤ k ∧ k ≤ 8 → packW ≠ wordL k := fun k h => by
    rcases wordL_cases h with ⟨_, e⟩ | ⟨_, e⟩ | ⟨_, e⟩ | ⟨_, e⟩ | ⟨_, e⟩ | ⟨_, e⟩ | ⟨_, e⟩ | ⟨_, e⟩ <;> rw [e] <;> decide
  unfold stepW
  simp only [kindTo_none hk k 8 (Nat.le_refl _)]
  rw [show parse 999999999 packW = (0, false) from parse_letter (by decide), show (packW == repW) = false by decide]
  simp
theorem read_words {f : RF} (h : hasText f) : readW (dec f.1.toNat :: moreW f) = f := by
  obtain ⟨n, k, a, p, x⟩ := f
  obtain ⟨hn, hk, h8, h0⟩ := h
  simp only at hn hk h8 h0
  have hp : parse 999999999 (dec n.toNat) = (n.toNat, true) := by rw [parse_yes (numOk_dec (by omega)), val_dec]
  unfold readW moreW
  simp only [hp]
  rw [show ((n.toNat : Nat) : Int) = n by omega, List.foldl_cons, step_word hk, List.foldl_append]
  have hx : (if k = 8 then [dec x.toNat] else []).foldl stepW (n, k, false, false, 0) = (n, k, false, false, x) := by
    by_cases e : k = 8
    · rw [if_pos e, List.foldl_cons, step_ref (by have := h8 e; omega), List.foldl_nil]
      rw [show ((x.toNat : Nat) : Int) = x by have := h8 e; omega]
    · rw [if_neg e, List.foldl_nil, h0 e]
  rw [hx, List.foldl_append]
  cases a <;> cases p <;> simp [step_rep, step_pack]
/-- Of a field's text the words give the field. -/
theorem read_text {f : RF} (h : hasText f) : readW (partsF 32 (textF f)) = f := by rw [textF_words h]; exact read_words h
/-- Is a string some field's text? Then what its words give has that text; else it has not. -/
theorem read_tells (s : List UInt8) (hs : s ≠ []) : (textF (readW (partsF 32 s)) = s ↔ ∃ f, hasText f ∧ textF f = s) := by
  constructor
  · intro h
    refine ⟨_, Classical.byContradiction fun hn => hs ?_, h⟩
    rw [← h]; unfold textF; rw [if_neg hn]
  · rintro ⟨f, hf, rfl⟩
    rw [read_text hf]
end Go.Proofs.YtcbohfncckpolaaGreatDoor.Num

/-
  What the reference's ReadField takes out of a string (stage 9): of a field's own text it takes the field. Plain facts; no program is named here.
-/
namespace Go.Proofs.YtcbohfncckpolaaGreatDoor.Num
set_option linter.unusedVariables false
/-- The field of a string, where the string is a field's text. -/
def readF (s : List UInt8) : Option RF := if s ≠ [] ∧ s.length ≤ 60 ∧ textF (readW (partsF 32 s)) = s then some (readW (partsF 32 s)) else none
theorem wordL_len {k : Int} (h : 1 ≤ k ∧ k ≤ 8) : (wordL k).length ≤ 5 := by
  rcases wordL_cases h with ⟨_, e⟩ | ⟨_, e⟩ | ⟨_, e⟩ | ⟨_, e⟩ | ⟨_, e⟩ | ⟨_, e⟩ | ⟨_, e⟩ | ⟨_, e⟩ <;> rw [e] <;> decide
theorem textF_len {f : RF} (h : hasText f) : (textF f).length ≤ 60 := by
  obtain ⟨n, k, a, p, x⟩ := f
  unfold textF
  rw [if_pos h]
  obtain ⟨hn, hk, h8, h0⟩ := h
  simp only at hn hk h8 h0
  have h1 := dec_length (u := n.toNat) 9 (by omega) (by omega)
  have h2 := wordL_len hk
  unfold joinF moreW
  by_cases e : k = 8
  · have h3 := dec_length (u := x.toNat) 2 (by omega) (by have := h8 e; omega)
    cases a <;> cases p <;> simp [e, repW, packW] <;> subst e <;> omega
  · cases a <;> cases p <;> simp [e, repW, packW] <;> omega
theorem readF_text {f : RF} (h : hasText f) : readF (textF f) = some f := by
  unfold readF
  rw [read_text h, if_pos ⟨textF_ne h, textF_len h, rfl⟩]
/-- Read: some field, then the string is its text; none, then it is no field's text. -/
theorem readF_some {s : List UInt8} {f : RF} (h : readF s = some f) : hasText f ∧ textF f = s := by
  unfold readF at h
  by_cases hc : s ≠ [] ∧ s.length ≤ 60 ∧ textF (readW (partsF 32 s)) = s
  · rw [if_pos hc] at h
    injection h with h
    subst h
    refine ⟨Classical.byContradiction fun hn => hc.1 ?_, hc.2.2⟩
    rw [← hc.2.2]; unfold textF; rw [if_neg hn]
  · rw [if_neg hc] at h; cases h
theorem readF_none {s : List UInt8} (h : readF s = none) (f : RF) (hf : hasText f) : textF f ≠ s := fun e => by
  rw [← e, readF_text hf] at h; cases h
end Go.Proofs.YtcbohfncckpolaaGreatDoor.Num

/-
  The text of a description as the document gives it (stage 9), as a list of bytes, and that it tells the description. Plain facts; no program is named here.
-/
namespace Go.Proofs.YtcbohfncckpolaaGreatDoor.Num
set_option linter.unusedVariables false
/-- Texts joined at a byte; none of them: the empty text. -/
def joined {α : Type} (b : UInt8) (t : α → List UInt8) : List α → List UInt8
  | [] => []
  | x :: l => joinF b (t x) (l.map t)
theorem mem_joinF {b c : UInt8} {h : List UInt8} {t : List (List UInt8)} (hc : c ∈ joinF b h t) : c ∈ h ∨ c = b ∨ ∃ p ∈ t, c ∈ p := by
  unfold joinF at hc
  rcases List.mem_append.1 hc with hc | hc
  · exact .inl hc
  · obtain ⟨p, hp, hc⟩ := List.mem_flatMap.1 hc
    rcases List.mem_cons.1 hc with hc | hc
    · exact .inr (.inl hc)
    · exact .inr (.inr ⟨p, hp, hc⟩)
theorem mem_joined {α : Type} {b c : UInt8} {t : α → List UInt8} {l : List α} (hc : c ∈ joined b t l) : c = b ∨ ∃ x ∈ l, c ∈ t x := by
  cases l with
  | nil => cases hc
  | cons x l =>
    rcases mem_joinF hc with h | h | ⟨p, hp, h⟩
    · exact .inr ⟨x, List.mem_cons_self, h⟩
    · exact .inl h
    · obtain ⟨y, hy, rfl⟩ := List.mem_map.1 hp
      exact .inr ⟨y, List.mem_cons_of_mem _ hy, h⟩
theorem map_tells {α : Type} {t : α → List UInt8} {P : α → Prop} (hinj : ∀ x y, P x → P y → t x = t y → x = y) : ∀ (l m : List α), (∀ x ∈ l, P x) → (∀ x ∈ m, P x) → l.map t = m.map t → l = m
  | [], [], _, _, _ => rfl
  | [], y :: m, _, _, h => by simp at h
  | x :: l, [], _, _, h => by simp at h
  | x :: l, y :: m, hl, hm, h => by
    simp only [List.map_cons] at h
    injection h with h1 h2
    rw [hinj x y (hl x List.mem_cons_self) (hm y List.mem_cons_self) h1, map_tells hinj l m (fun z hz => hl z (List.mem_cons_of_mem _ hz)) (fun z hz => hm z (List.mem_cons_of_mem _ hz)) h2]
theorem joined_parts {α : Type} {b : UInt8} {t : α → List UInt8} {l : List α} (h0 : l ≠ []) (hno : ∀ x ∈ l, ∀ c ∈ t x, c ≠ b) : partsF b (joined b t l) = l.map t := by
  cases l with
  | nil => exact absurd rfl h0
  | cons x l =>
    refine partsF_join b (l.map t) (t x) fun p hp => ?_
    rcases List.mem_cons.1 hp with rfl | hp
    · exact hno x List.mem_cons_self
    · obtain ⟨y, hy, rfl⟩ := List.mem_map.1 hp
      exact hno y (List.mem_cons_of_mem _ hy)
theorem joined_ne {α : Type} {b : UInt8} {t : α → List UInt8} {l : List α} (h0 : l ≠ []) (hne : ∀ x ∈ l, t x ≠ []) : joined b t l ≠ [] := by
  cases l with
  | nil => exact absurd rfl h0
  | cons x l =>
    have := hne x List.mem_cons_self
    unfold joined joinF
    simp [this]
theorem joined_len {α : Type} {b : UInt8} {t : α → List UInt8} {B : Nat} : ∀ l : List α, (∀ x ∈ l, (t x).length ≤ B) → (joined b t l).length ≤ l.length * (B + 1)
  | [], _ => by simp [joined]
  | [x], h => by
    have := h x List.mem_cons_self
    simp [joined, joinF]; omega
  | x :: y :: l, h => by
    have h1 := h x List.mem_cons_self
    have h2 := joined_len (b := b) (t := t) (y :: l) fun z hz => h z (List.mem_cons_of_mem _ hz)
    have e : joined b t (x :: y :: l) = t x ++ (b :: joined b t (y :: l)) := by simp [joined, joinF]
    rw [e, List.length_append, List.length_cons]
    have h3 : (x :: y :: l).length * (B + 1) = (y :: l).length * (B + 1) + (B + 1) := by rw [List.length_cons, Nat.add_mul, Nat.one_mul]
    omega
theorem joined_tells {α : Type} {b : UInt8} {t : α → List UInt8} {P : α → Prop} (hinj : ∀ x y, P x → P y → t x = t y → x = y) (hno : ∀ x, P x → ∀ c ∈ t x, c ≠ b) (hne : ∀ x, P x → t x ≠ []) {l m : List α} (hl : ∀ x ∈ l, P x) (hm : ∀ x ∈ m, P x) (h : joined b t l = joined b t m) : l = m := by
  by_cases l0 : l = []
  · subst l0
    by_cases m0 : m = []
    · exact m0.symm
    · exact absurd h.symm (joined_ne m0 fun x hx => hne x (hm x hx))
  by_cases m0 : m = []
  · subst m0
    exact absurd h (joined_ne l0 fun x hx => hne x (hl x hx))
  refine map_tells hinj l m hl hm ?_
  rw [← joined_parts l0 fun x hx => hno x (hl x hx), h, joined_parts m0 fun x hx => hno x (hm x hx)]
def fieldsText (l : List RF) : List UInt8 := joined 44 textF l
def msgText (m : RM) : List UInt8 := dec m.1.toNat ++ 58 :: fieldsText m.2
def rawText (r : List RM) : List UInt8 := joined 59 msgText r
/-- Has the message a text that tells it? -/
def msgTold (m : RM) : Prop := (1 ≤ m.1 ∧ m.1 ≤ 99) ∧ ∀ f ∈ m.2, hasText f
theorem textF_bytes {f : RF} (h : hasText f) {c : UInt8} (hc : c ∈ textF f) : c = 32 ∨ wordy c := by
  unfold textF at hc
  rw [if_pos h] at hc
  rcases mem_joinF hc with hc | hc | ⟨p, hp, hc⟩
  · exact .inr (dec_wordy hc)
  · exact .inl hc
  · exact .inr (moreW_wordy h p hp c hc)
theorem wordy_ne {c b : UInt8} (h : wordy c) (hb : ¬ wordy b) : c ≠ b := fun e => hb (e ▸ h)
theorem fieldsText_bytes {l : List RF} (h : ∀ f ∈ l, hasText f) {c : UInt8} (hc : c ∈ fieldsText l) : c = 44 ∨ c = 32 ∨ wordy c := by
  rcases mem_joined hc with h1 | ⟨f, hf, h1⟩
  · exact .inl h1
  · exact .inr (textF_bytes (h f hf) h1)
theorem fieldsText_inj {l m : List RF} (hl : ∀ f ∈ l, hasText f) (hm : ∀ f ∈ m, hasText f) (h : fieldsText l = fieldsText m) : l = m :=
  joined_tells (P := hasText) (fun x y hx _ e => textF_inj hx e) (fun x hx c hc => by
    rcases textF_bytes hx hc with rfl | hw
    · decide
    · exact wordy_ne hw (by decide)) (fun x hx => textF_ne hx) hl hm h
theorem msgText_ne (m : RM) : msgText m ≠ [] := by unfold msgText; simp
theorem msgText_parts {m : RM} (h : msgTold m) : partsF 58 (msgText m) = [dec m.1.toNat, fieldsText m.2] := by
  have e : msgText m = joinF 58 (dec m.1.toNat) [fieldsText m.2] := by simp [msgText, joinF]
  rw [e]
  refine partsF_join 58 _ _ fun p hp c hc => ?_
  rcases List.mem_cons.1 hp with rfl | hp
  · exact wordy_ne (dec_wordy hc) (by decide)
  · obtain rfl := List.mem_singleton.1 hp
    rcases fieldsText_bytes h.2 hc with rfl | rfl | hw
    · decide
    · decide
    · exact wordy_ne hw (by decide)
theorem msgText_inj {m n : RM} (hm : msgTold m) (hn : msgTold n) (h : msgText m = msgText n) : m = n := by
  have hw := msgText_parts hm
  rw [h, msgText_parts hn] at hw
  injection hw with h1 h2
  injection h2 with h2 _
  have := dec_inj h1
  have e1 := hm.1; have e2 := hn.1
  exact Prod.ext (by omega) (fieldsText_inj hm.2 hn.2 h2.symm)
theorem msgText_bytes {m : RM} (h : msgTold m) {c : UInt8} (hc : c ∈ msgText m) : c ≠ 59 := by
  unfold msgText at hc
  rcases List.mem_append.1 hc with hc | hc
  · exact wordy_ne (dec_wordy hc) (by decide)
  rcases List.mem_cons.1 hc with rfl | hc
  · decide
  rcases fieldsText_bytes h.2 hc with rfl | rfl | hw
  · decide
  · decide
  · exact wordy_ne hw (by decide)
/-- The text tells the description. -/
theorem rawText_inj {r s : List RM} (hr : ∀ m ∈ r, msgTold m) (hs : ∀ m ∈ s, msgTold m) (h : rawText r = rawText s) : r = s :=
  joined_tells (P := msgTold) (fun x y hx hy e => msgText_inj hx hy e) (fun x hx c hc => msgText_bytes hx hc) (fun x _ => msgText_ne x) hr hs h
/-- The messages of a description without a violation have texts. -/
theorem AllB.told {r : List RM} (h : AllB r r.length) {m : RM} (hm : m ∈ r) : msgTold m := by
  obtain ⟨k, hk, rfl⟩ := List.getElem_of_mem hm
  have hc := (h k hk hk).1
  rw [msgCode_in hk] at hc
  refine ⟨(msgCode_zero.1 hc).1, fun f hf => ?_⟩
  obtain ⟨j, hj, rfl⟩ := List.getElem_of_mem hf
  have h1 := (h k hk hk).2 j hj
  rw [fieldCode_in hk hj] at h1
  obtain ⟨g1, _, g3, g4, g5, g6⟩ := fieldCode_zero.1 h1
  refine ⟨(of_decide_eq_true g1).1, g3, fun e => ?_, fun e => ?_⟩
  · obtain ⟨q, hq, he⟩ := hasId_true (g5 e)
    have hc := (h q hq hq).1
    rw [msgCode_in hq] at hc
    rw [← he]
    exact (msgCode_zero.1 hc).1
  · exact g6 e
end Go.Proofs.YtcbohfncckpolaaGreatDoor.Num

/-
  What the reference's ReadRaw takes out of a string (stage 9): of a description's own text it takes the description. Plain facts; no program is named here.
-/
namespace Go.Proofs.YtcbohfncckpolaaGreatDoor.Num
set_option linter.unusedVariables false
/-- The message of a piece: its Id, and the fields if each piece of them is a field's text. -/
def readM (s : List UInt8) : Option RM :=
  match partsF 58 s with
  | [a, b] => if b = [] then some (((parse 999999999 a).1 : Int), []) else (((partsF 44 b).mapM readF).map fun l => (((parse 999999999 a).1 : Int), l))
  | _ => none
theorem mapM_text : ∀ l : List RF, (∀ f ∈ l, hasText f) → (l.map textF).mapM readF = some l
  | [], _ => rfl
  | f :: l, h => by
    rw [List.map_cons, List.mapM_cons, readF_text (h f List.mem_cons_self), mapM_text l fun g hg => h g (List.mem_cons_of_mem _ hg)]
    rfl
theorem readM_text {m : RM} (h : msgTold m) : readM (msgText m) = some m := by
  have hp : parse 999999999 (dec m.1.toNat) = (m.1.toNat, true) := by rw [parse_yes (numOk_dec (by have := h.1; omega)), val_dec]
  have hi : ((m.1.toNat : Nat) : Int) = m.1 := by have := h.1; omega
  unfold readM
  rw [msgText_parts h]
  simp only [hp, hi]
  obtain ⟨id, l⟩ := m
  by_cases h0 : l = []
  · subst h0
    rfl
  · have hne : fieldsText l ≠ [] := joined_ne h0 fun f hf => textF_ne (h.2 f hf)
    rw [if_neg hne]
    have hpt : partsF 44 (fieldsText l) = l.map textF := joined_parts h0 fun f hf c hc => by
      rcases textF_bytes (h.2 f hf) hc with rfl | hw
      · decide
      · exact wordy_ne hw (by decide)
    rw [hpt, mapM_text l h.2]
    rfl
theorem mapM_msgs : ∀ r : List RM, (∀ m ∈ r, msgTold m) → (r.map msgText).mapM readM = some r
  | [], _ => rfl
  | m :: r, h => by
    rw [List.map_cons, List.mapM_cons, readM_text (h m List.mem_cons_self), mapM_msgs r fun g hg => h g (List.mem_cons_of_mem _ hg)]
    rfl
/-- Of a description's text, cut at ';', the messages are the description's. -/
theorem read_raw {r : List RM} (h0 : r ≠ []) (h : ∀ m ∈ r, msgTold m) : (partsF 59 (rawText r)).mapM readM = some r := by
  have hpt : partsF 59 (rawText r) = r.map msgText := joined_parts h0 fun m hm c hc => msgText_bytes (h m hm) hc
  rw [hpt, mapM_msgs r h]
theorem fieldsText_len {l : List RF} (h : ∀ f ∈ l, hasText f) (h8 : l.length ≤ 8) : (fieldsText l).length ≤ 488 := by
  have := joined_len (b := 44) (t := textF) (B := 60) l fun f hf => textF_len (h f hf)
  unfold fieldsText
  omega
theorem msgText_len {m : RM} (h : msgTold m) (h8 : m.2.length ≤ 8) : (msgText m).length ≤ 491 := by
  have h1 := dec_length (u := m.1.toNat) 2 (by omega) (by have := h.1; omega)
  have h2 := fieldsText_len h.2 h8
  unfold msgText
  rw [List.length_append, List.length_cons]
  omega
theorem rawText_len {r : List RM} (h : ∀ m ∈ r, msgTold m) (h8 : ∀ m ∈ r, m.2.length ≤ 8) (h6 : r.length ≤ 6) : (rawText r).length ≤ 4000 := by
  have := joined_len (b := 59) (t := msgText) (B := 491) r fun m hm => msgText_len (h m hm) (h8 m hm)
  unfold rawText
  omega
end Go.Proofs.YtcbohfncckpolaaGreatDoor.Num

/-
  The walk of the reference's l9Text and RawText: the text of a description, put together message by message; only new memory is written.
-/
namespace Go.Proofs.YtcbohfncckpolaaGreatDoor.Num
open Go.RowKit Go.Proofs
set_option linter.unusedVariables false
set_option linter.unusedSimpArgs false

theorem textF_le (f : RF) : (textF f).length ≤ 60 := by
  by_cases h : hasText f
  · exact textF_len h
  · rw [textF_no h]; simp
/-- A message's text as the reference puts it together, whatever the Id. -/
def l9M (m : RM) : List UInt8 := intDec m.1 ++ 58 :: fieldsText m.2
def l9R (r : List RM) : List UInt8 := joined 59 l9M r
/-- What stands ahead of the k-th piece. -/
def ahead {α : Type} (b : UInt8) (t : α → List UInt8) (l : List α) (k : Nat) : List UInt8 := if k = 0 then [] else joined b t (l.take k) ++ [b]
theorem joined_take {α : Type} (b : UInt8) (t : α → List UInt8) (l : List α) (k : Nat) (hk : k < l.length) : joined b t (l.take (k + 1)) = ahead b t l k ++ t l[k] := by
  unfold ahead
  rw [List.take_succ_eq_append_getElem hk]
  by_cases h0 : k = 0
  · subst h0
    simp [joined, joinF]
  · rw [if_neg h0]
    cases hl : l.take k with
    | nil =>
      have := congrArg List.length hl
      rw [List.length_take] at this
      simp only [List.length_nil] at this
      omega
    | cons x l' => simp [joined, joinF]
/-- The sizes that this chapter meets: few messages, few fields. -/
def Few (r : List RM) : Prop := r.length ≤ 16 ∧ (∀ m ∈ r, m.2.length ≤ 16) ∧ ∀ m ∈ r, I64 m.1
theorem fields_le {l : List RF} {n : Nat} (h : l.length ≤ n) : (fieldsText l).length ≤ n * 61 := by
  have := joined_len (b := 44) (t := textF) (B := 60) l fun f _ => textF_le f
  unfold fieldsText
  exact Nat.le_trans this (Nat.mul_le_mul_right _ h)
theorem fields_take_le (l : List RF) (k : Nat) (h : l.length ≤ 16) : (joined 44 textF (l.take k)).length ≤ 1000 := by
  have := fields_le (l := l.take k) (n := 16) (by simp; omega)
  unfold fieldsText at this
  omega
theorem l9M_le {m : RM} (h : m.2.length ≤ 16) (hi : I64 m.1) : (l9M m).length ≤ 1000 := by
  have h1 := intDec_len20 hi
  have h2 := fields_le h
  unfold l9M
  simp; omega
theorem l9R_take_le {r : List RM} (h : Few r) (k : Nat) : (joined 59 l9M (r.take k)).length ≤ 17000 := by
  have := joined_len (b := 59) (t := l9M) (B := 1000) (r.take k) fun m hm => l9M_le (h.2.1 m (List.mem_of_mem_take hm)) (h.2.2 m (List.mem_of_mem_take hm))
  have h2 : (r.take k).length * (1000 + 1) ≤ 16 * (1000 + 1) := Nat.mul_le_mul_right _ (by simp; have := h.1; omega)
  omega
theorem ahead_le {α : Type} {b : UInt8} {t : α → List UInt8} {l : List α} {k n : Nat} (h : (joined b t (l.take k)).length ≤ n) : (ahead b t l k).length ≤ n + 1 := by
  unfold ahead
  split
  · simp
  · simp; omega
set_option maxHeartbeats 4000000 in
set_option maxRecDepth 100000 in
theorem specText_any (v : Value) (r : List RM) (w : World) (h : RawAt w (· < w.heap.size) v r) (hr : Few r) :
    Calls Tryz.prog 25 #[v] w fun e w' => e = .returned (.string ⟨(l9R r).toArray⟩) ∧ Below w.heap.size w w' := by
  obtain ⟨u, rfl, hu⟩ := h
  obtain ⟨a, cap, rfl⟩ := hu.len
  have H := Lib.hid hu
  have Hr := Lib.hid hr
  have hr1 := hr.1
  clear hu hr
  have hl1 : Below w.heap.size w (w.alloc (.cells #[.slice a r.length cap] 26)) := (Below.refl _ _).alloc (Nat.le_refl _) _
  have hx1 := Box.fresh w #[.slice a r.length cap] 26
  have HR : Hid (joined 59 l9M r = l9R r) := Lib.hid rfl
  obtain ⟨sR, esR⟩ : ∃ s : ByteArray, s = ⟨(l9R r).toArray⟩ := ⟨_, rfl⟩
  rw [← esR]
  have HsR := Lib.hid esR
  clear esR
  go_enter Tryz.func25, Tryz.ntmps25
  go_wp2_with fail
  go_loopw [3, 4] (fun s x wr => ∃ i : Nat, i ≤ r.length ∧ x = .int .i64 i ∧ s = .string ⟨(joined 59 l9M (r.take i)).toArray⟩ ∧ Hid (Box wr w.heap.size [.slice a r.length cap]) ∧ Below w.heap.size w wr) (fun _ x _ => r.length - (intOf x).toNat)
  case atStart => exact ⟨0, by omega, rfl, rfl, Lib.hid hx1, hl1⟩
  case round =>
    clear hx1 hl1
    obtain ⟨wo, rfl⟩ : ∃ wo : World, wo = wr := ⟨_, rfl⟩
    obtain ⟨i, hi, rfl, rfl, hbx, hl⟩ := hrel
    obtain ⟨s0, _⟩ := hbx.out.one
    obtain ⟨S, eS⟩ : ∃ S : ByteArray, S = ⟨(joined 59 l9M (r.take i)).toArray⟩ := ⟨_, rfl⟩
    rw [← eS]
    by_cases hlt : i < r.length
    · have hlti : (i : Int) < (r.length : Int) := by omega
      obtain ⟨b, o, c, hv, hbS, hcs⟩ := H.out.cells (by omega)
      obtain ⟨rfl, rfl⟩ : a = some ⟨b, o, none⟩ ∧ cap = c := by injection hv with e1 e2 e3; exact ⟨e1, e3⟩
      obtain ⟨fv, m0, m1, hfv⟩ := hcs i hlt
      clear hcs hv
      have hmem : r[i] ∈ r := List.getElem_mem hlt
      have hf16 := Hr.out.2.1 _ hmem
      have hid := Hr.out.2.2 _ hmem
      have hJ := l9R_take_le Hr.out i
      have hA : (ahead 59 l9M r i).length ≤ 17001 := ahead_le hJ
      have HJ : Hid (joined 59 l9M (r.take (i + 1)) = ahead 59 l9M r i ++ l9M r[i]) := Lib.hid (joined_take 59 l9M r i hlt)
      have HI : Hid ((i = 0 → ahead 59 l9M r i = [] ∧ joined 59 l9M (r.take i) = []) ∧ (i ≠ 0 → ahead 59 l9M r i = joined 59 l9M (r.take i) ++ [59])) := Lib.hid ⟨fun e => by subst e; exact ⟨rfl, rfl⟩, fun e => by unfold ahead; rw [if_neg e]⟩
      generalize ahead 59 l9M r i = P at hA HJ HI
      generalize joined 59 l9M (r.take i) = Jt at hJ HI eS
      generalize r[i] = m at m0 m1 hfv hf16 hid HJ
      obtain ⟨id, fs⟩ := m
      simp only at m0 m1 hfv hf16 hid HJ
      obtain ⟨fa, fc, rfl⟩ := hfv.len
      have HF := Lib.hid hfv
      have hdl := intDec_len20 hid
      have HD : Hid (∀ wx, Calls Tryz.prog 51 #[.int .i64 id] wx fun e w' => e = .returned (.string ⟨(intDec id).toArray⟩) ∧ Below wx.heap.size wx w') := Lib.hid fun wx => specDigits_any id wx hid.1 hid.2
      have HJ' : Hid (joined 59 l9M (r.take (i + 1)) = P ++ (intDec id ++ 58 :: joined 44 textF fs)) := Lib.hid HJ.out
      clear hfv HJ
      generalize intDec id = di at hdl HD HJ'
      obtain ⟨S1, eS1⟩ : ∃ S : ByteArray, S = ⟨P.toArray⟩ := ⟨_, rfl⟩
      obtain ⟨sd, esd⟩ : ∃ S : ByteArray, S = ⟨di.toArray⟩ := ⟨_, rfl⟩
      obtain ⟨S2, eS2⟩ : ∃ S : ByteArray, S = ⟨(P ++ di).toArray⟩ := ⟨_, rfl⟩
      obtain ⟨S3, eS3⟩ : ∃ S : ByteArray, S = ⟨(P ++ di ++ [58]).toArray⟩ := ⟨_, rfl⟩
      have a1 : Hid ((i = 0 → S = S1) ∧ (i ≠ 0 → ∀ w, (Op.stringOp .add S ⟨#[59]⟩).run Tryz.prog w = .ok (.string S1) w)) := Lib.hid
        ⟨fun e => by rw [eS, eS1, (HI.out.1 e).1, (HI.out.1 e).2], fun e => sum_run (a := Jt) (b := [59]) eS rfl (by rw [← HI.out.2 e]; exact eS1) (by simp; omega)⟩
      have a2 := sum_run (a := P) (b := di) eS1 esd eS2 (by omega)
      have a3 := sum_run (a := P ++ di) (b := [58]) (B := ⟨#[58]⟩) eS2 rfl eS3 (by simp; omega)
      rw [← esd] at HD
      have HS3 := Lib.hid eS3
      clear eS eS1 eS2 eS3 esd HI
      go_upto_if 14 with fail
      go_cut [3] (fun s3 wx => s3 = .string S1 ∧ Hid (Box wx w.heap.size [.slice (some ⟨b, o, none⟩) r.length cap]) ∧ Below w.heap.size w wx)
      case first =>
        by_cases h0 : i = 0
        · obtain rfl := a1.out.1 h0
          subst h0
          clear a1 a2 a3
          go_wp2_with fail
          go_meet
          exact ⟨rfl, hbx, hl⟩
        · have a1' := a1.out.2 h0
          have hi0 : (0 : Int) < (i : Int) := by omega
          clear a1 a2 a3 h0
          go_wp2_with fail
          go_meet
          exact ⟨rfl, hbx, hl⟩
      case rest =>
        obtain ⟨rfl, hbx2, hl2⟩ := hcut
        clear a1 s0 hbx hl
        obtain ⟨s0, _⟩ := hbx2.out.one
        have hbw : b < wc.heap.size := Nat.lt_of_lt_of_le hbS hl2.size
        have n0 := (hl2.cell (p := ⟨b, _, none⟩) hbS).trans m0
        have n1 := (hl2.cell (p := ⟨b, _, none⟩) hbS).trans m1
        go_wp2_with fail
        refine (HD.out _).mono ?_
        rintro e w4 ⟨rfl, hb4⟩
        have hl4 := hl2.trans (hb4.mono hl2.size)
        have hbx4 := Lib.hid (hbx2.out.below hb4 hbx2.out.lt)
        clear s0 n0 n1 hbw hb4 hl2 hbx2 HD
        have HB : Hid (P ++ di ++ [58] ++ joined 44 textF (fs.take 0) = P ++ di ++ [58]) := Lib.hid (by simp [joined])
        go_wp2_with fail
        go_loopw [3, 5] (fun s y wq => ∃ k : Nat, k ≤ fs.length ∧ y = .int .i64 k ∧ s = .string ⟨(P ++ di ++ [58] ++ joined 44 textF (fs.take k)).toArray⟩ ∧ Hid (Box wq w.heap.size [.slice (some ⟨b, o, none⟩) r.length cap]) ∧ Below w.heap.size w wq) (fun _ y _ => fs.length - (intOf y).toNat)
        case atStart => exact ⟨0, by omega, rfl, by rw [HB.out, HS3.out], hbx4, hl4⟩
        case round =>
          clear hl4 hbx4
          obtain ⟨k, hk, rfl, rfl, hbx5, hl5⟩ := hrel
          obtain ⟨s0, _⟩ := hbx5.out.one
          have hbw : b < wr.heap.size := Nat.lt_of_lt_of_le hbS hl5.size
          have n0 := (hl5.cell (p := ⟨b, _, none⟩) hbS).trans m0
          have n1 := (hl5.cell (p := ⟨b, _, none⟩) hbS).trans m1
          have hK := fields_take_le fs k hf16
          by_cases hkl : k < fs.length
          · have hkli : (k : Int) < (fs.length : Int) := by omega
            obtain ⟨gb, go, gc, gv, gS, gcs⟩ := HF.out.cells (by omega)
            obtain ⟨rfl, rfl⟩ : fa = some ⟨gb, go, none⟩ ∧ fc = gc := by injection gv with e1 e2 e3; exact ⟨e1, e3⟩
            obtain ⟨x0, x1, x2, x3, x4⟩ := gcs k hkl
            have HKt : Hid (joined 44 textF (fs.take (k + 1)) = ahead 44 textF fs k ++ textF fs[k]) := Lib.hid (joined_take 44 textF fs k hkl)
            have HKI : Hid ((k = 0 → ahead 44 textF fs k = [] ∧ joined 44 textF (fs.take k) = []) ∧ (k ≠ 0 → ahead 44 textF fs k = joined 44 textF (fs.take k) ++ [44])) := Lib.hid ⟨fun e => by subst e; exact ⟨rfl, rfl⟩, fun e => by unfold ahead; rw [if_neg e]⟩
            have hKA : (ahead 44 textF fs k).length ≤ 1001 := ahead_le hK
            have htl := textF_le fs[k]
            have HFT := Lib.hid (specFieldText_any fs[k])
            obtain ⟨T0, eT0⟩ : ∃ S : ByteArray, S = ⟨(P ++ di ++ [58] ++ joined 44 textF (fs.take k)).toArray⟩ := ⟨_, rfl⟩
            rw [← eT0]
            generalize ahead 44 textF fs k = Q at HKt HKI hKA
            generalize joined 44 textF (fs.take k) = Jk at HKI hK eT0
            generalize textF fs[k] = tf at HKt htl HFT
            generalize fs[k] = f at x0 x1 x2 x3 x4 HFT
            obtain ⟨A1, A2, A3, A4, A5⟩ := f
            simp only at x0 x1 x2 x3 x4
            unfold fieldV at HFT
            simp only at HFT
            have hgw : gb < wr.heap.size := Nat.lt_of_lt_of_le gS hl5.size
            have y0 := (hl5.cell (p := ⟨gb, _, none⟩) gS).trans x0
            have y1 := (hl5.cell (p := ⟨gb, _, none⟩) gS).trans x1
            have y2 := (hl5.cell (p := ⟨gb, _, none⟩) gS).trans x2
            have y3 := (hl5.cell (p := ⟨gb, _, none⟩) gS).trans x3
            have y4 := (hl5.cell (p := ⟨gb, _, none⟩) gS).trans x4
            obtain ⟨T1, eT1⟩ : ∃ S : ByteArray, S = ⟨(P ++ di ++ [58] ++ Q).toArray⟩ := ⟨_, rfl⟩
            obtain ⟨st, est⟩ : ∃ S : ByteArray, S = ⟨tf.toArray⟩ := ⟨_, rfl⟩
            obtain ⟨T2, eT2⟩ : ∃ S : ByteArray, S = ⟨(P ++ di ++ [58] ++ Q ++ tf).toArray⟩ := ⟨_, rfl⟩
            have hPd : (P ++ di ++ [58]).length ≤ 17100 := by simp; omega
            have b1 : Hid ((k = 0 → T0 = T1) ∧ (k ≠ 0 → ∀ w, (Op.stringOp .add T0 ⟨#[44]⟩).run Tryz.prog w = .ok (.string T1) w)) := Lib.hid
              ⟨fun e => by rw [eT0, eT1, (HKI.out.1 e).1, (HKI.out.1 e).2], fun e => sum_run (a := P ++ di ++ [58] ++ Jk) (b := [44]) eT0 rfl (by rw [List.append_assoc _ Jk, ← HKI.out.2 e]; exact eT1) (by rw [List.length_append]; simp only [List.length_singleton]; omega)⟩
            have b2 := sum_run (a := P ++ di ++ [58] ++ Q) (b := tf) eT1 est eT2 (by rw [List.length_append]; omega)
            have HT2 : Hid (T2 = ⟨(P ++ di ++ [58] ++ joined 44 textF (fs.take (k + 1))).toArray⟩) := Lib.hid (by rw [eT2, HKt.out, List.append_assoc _ Q])
            rw [← est] at HFT
            clear eT0 eT1 eT2 est HKI HKt x0 x1 x2 x3 x4 gcs gv
            by_cases h0 : k = 0
            · obtain rfl := b1.out.1 h0
              have hk0 : decide ((0 : Int) < (k : Int)) = false := decide_eq_false (by omega)
              have hk1 : decide (0 < k) = false := decide_eq_false (by omega)
              clear b1 h0
              go_wp2_with fail
              refine (HFT.out _).mono ?_
              rintro e w6 ⟨rfl, hb6⟩
              have hl6 := hl5.trans (hb6.mono hl5.size)
              have hbx6 := Lib.hid (hbx5.out.below hb6 hbx5.out.lt)
              clear s0 n0 n1 hbw hgw y0 y1 y2 y3 y4 hb6 hl5 hbx5 HFT
              go_wp2_with fail
              go_roundw
              case rel => exact ⟨k + 1, by omega, by go_num, by rw [HT2.out], hbx6, hl6⟩
              case measure => simp [intOf]; omega
            · have b1' := b1.out.2 h0
              have hk0 : (0 : Int) < (k : Int) := by omega
              clear b1 h0
              go_wp2_with fail
              refine (HFT.out _).mono ?_
              rintro e w6 ⟨rfl, hb6⟩
              have hl6 := hl5.trans (hb6.mono hl5.size)
              have hbx6 := Lib.hid (hbx5.out.below hb6 hbx5.out.lt)
              clear s0 n0 n1 hbw hgw y0 y1 y2 y3 y4 hb6 hl5 hbx5 HFT b1'
              go_wp2_with fail
              go_roundw
              case rel => exact ⟨k + 1, by omega, by go_num, by rw [HT2.out], hbx6, hl6⟩
              case measure => simp [intOf]; omega
          · have hge : (fs.length : Int) ≤ (k : Int) := by omega
            have hend : decide (k < fs.length) = false := decide_eq_false hkl
            obtain rfl : k = fs.length := by omega
            obtain ⟨T0, eT0⟩ : ∃ S : ByteArray, S = ⟨(P ++ di ++ [58] ++ joined 44 textF (fs.take fs.length)).toArray⟩ := ⟨_, rfl⟩
            rw [← eT0]
            have HT0 : Hid (T0 = ⟨(joined 59 l9M (r.take (i + 1))).toArray⟩) := Lib.hid (by rw [eT0, HJ'.out, List.take_length]; simp)
            clear eT0
            go_wp2_with fail
            go_roundw
            case rel => exact ⟨i + 1, by omega, by go_num, by rw [HT0.out], hbx5, hl5⟩
            case measure => simp [intOf]; omega
    · have hge : (r.length : Int) ≤ (i : Int) := by omega
      have hend : decide (i < r.length) = false := decide_eq_false hlt
      obtain rfl : i = r.length := by omega
      obtain rfl : S = sR := by rw [eS, List.take_length, HR.out, HsR.out]
      clear eS
      go_wp2_with fail
      go_ret
      exact ⟨rfl, hl⟩
/-- A description without a violation is small, and each of its messages has a text. -/
theorem first_ok {r : List RM} {f : Int × Int × Int} (h : First r f) (h0 : f.1 = 0) : r.length ≤ 6 ∧ AllB r r.length := by
  rcases h with ⟨_, rfl⟩ | ⟨h6, h⟩
  · exact absurd h0 (by decide)
  · rcases h with ⟨ha, _⟩ | ⟨k, hk, _, hm, rfl⟩ | ⟨k, q, hk, _, hm, _, hq, hF, rfl⟩
    · exact ⟨h6, ha⟩
    · exact absurd h0 hm
    · exact absurd h0 hF
theorem AllB.fields8 {r : List RM} (h : AllB r r.length) {m : RM} (hm : m ∈ r) : m.2.length ≤ 8 := by
  obtain ⟨k, hk, rfl⟩ := List.getElem_of_mem hm
  have hc := (h k hk hk).1
  rw [msgCode_in hk] at hc
  exact (msgCode_zero.1 hc).2.2
theorem few_ok {r : List RM} (h6 : r.length ≤ 6) (h : AllB r r.length) : Few r :=
  ⟨by omega, fun m hm => by have := h.fields8 hm; omega, fun m hm => by have := (h.told hm).1; unfold I64; omega⟩
theorem l9M_told {m : RM} (h : msgTold m) : l9M m = msgText m := by
  unfold l9M msgText
  rw [show intDec m.1 = dec m.1.toNat from by
    have := h.1
    rw [show m.1 = (m.1.toNat : Int) by omega, intDec_nat]
    rfl]
theorem l9R_told {r : List RM} (h : ∀ m ∈ r, msgTold m) : l9R r = rawText r := by
  unfold l9R rawText
  cases r with
  | nil => rfl
  | cons m r =>
    unfold joined
    simp only
    rw [l9M_told (h m List.mem_cons_self)]
    congr 1
    exact List.map_congr_left fun x hx => l9M_told (h x (List.mem_cons_of_mem _ hx))
/-- The text of a description: none where it has a violation. -/
def rawT (r : List RM) (f : Int × Int × Int) : List UInt8 := if f.1 = 0 then rawText r else []
/-- The reference's RawText: of a description without a violation its text, else the empty string. -/
theorem specRawText_any (v : Value) (r : List RM) (w : World) (h : RawAt w (· < w.heap.size) v r) (hS : Small r) :
    Calls Tryz.prog 29 #[v] w fun e w' => ∃ f, First r f ∧ e = .returned (.string ⟨(rawT r f).toArray⟩) ∧ Below w.heap.size w w' := by
  obtain ⟨u, rfl, hu⟩ := h
  obtain ⟨a, cap, rfl⟩ := hu.len
  have H := Lib.hid hu
  have HS := Lib.hid hS
  clear hu hS
  have hl1 : Below w.heap.size w (w.alloc (.cells #[.slice a r.length cap] 26)) := (Below.refl _ _).alloc (Nat.le_refl _) _
  have hx1 := Box.fresh w #[.slice a r.length cap] 26
  have Hraw : Hid (∀ wx : World, Below w.heap.size w wx → RawAt wx (· < wx.heap.size) (.agg #[.slice a r.length cap]) r) :=
    Lib.hid fun wx hb => ⟨_, rfl, H.out.keep (below_sees hb) fun b hb' => Nat.lt_of_lt_of_le hb' hb.size⟩
  go_enter Tryz.func29, Tryz.ntmps29
  go_wp2_with fail
  generalize (w.alloc (.cells #[.slice a r.length cap] 26)) = w1 at hl1 hx1 ⊢
  refine (specRawOk_any _ r _ (Hraw.out _ hl1) HS.out).mono ?_
  rintro e w2 ⟨f, hf, rfl, hb2⟩
  have hl2 := hl1.trans (hb2.mono hl1.size)
  obtain ⟨s0, _⟩ := (hx1.below hb2 hx1.lt).one
  have Hf := Lib.hid hf
  clear hf hb2 hl1 hx1
  by_cases h0 : f.1 = 0
  · have hb0 : (f.1 == 0) = true := by rw [beq_iff_eq]; exact h0
    obtain ⟨h6, hA⟩ := first_ok Hf.out h0
    have HT := Lib.hid (specText_any _ r w2 (Hraw.out _ hl2) (few_ok h6 hA))
    have HE : Hid (l9R r = rawT r f) := Lib.hid (by unfold rawT; rw [if_pos h0]; exact l9R_told fun m hm => hA.told hm)
    clear h0 h6 hA
    go_wp2_with fail
    refine HT.out.mono ?_
    rintro e w3 ⟨rfl, hb3⟩
    have hl3 := hl2.trans (hb3.mono hl2.size)
    clear hb3 hl2 HT s0
    go_wp2_with fail
    go_ret
    exact ⟨f, Hf.out, by rw [← HE.out]; rfl, hl3⟩
  · have hb0 : (f.1 == 0) = false := by rw [beq_eq_false_iff_ne]; exact h0
    have HE : Hid (rawT r f = []) := Lib.hid (by unfold rawT; rw [if_neg h0])
    clear h0
    go_wp2_with fail
    go_ret
    exact ⟨f, Hf.out, by rw [HE.out]; rfl, hl2⟩
end Go.Proofs.YtcbohfncckpolaaGreatDoor.Num

/-
  What ReadRaw gives, as the document has it: the valid description whose text the string is; and what the reference and the program take out of the pieces (stage 9). Plain facts; no program is named here.
-/
namespace Go.Proofs.YtcbohfncckpolaaGreatDoor.Num
set_option linter.unusedVariables false
/-- The description without a violation whose text the string is. -/
def Good (s : List UInt8) (r : List RM) : Prop := r.length ≤ 6 ∧ AllB r r.length ∧ rawText r = s
theorem Good.told {s : List UInt8} {r : List RM} (h : Good s r) : ∀ m ∈ r, msgTold m := fun m hm => h.2.1.told hm
theorem Good.one {s : List UInt8} {r t : List RM} (h : Good s r) (k : Good s t) : r = t := rawText_inj h.told k.told (h.2.2.trans k.2.2.symm)
theorem good_nil : Good [] [] := ⟨by simp, fun j hj => by simp at hj, rfl⟩
theorem Good.few {s : List UInt8} {r : List RM} (h : Good s r) : Few r := few_ok h.1 h.2.1
theorem Good.len {s : List UInt8} {r : List RM} (h : Good s r) : s.length ≤ 4000 := by
  rw [← h.2.2]
  exact rawText_len h.told (fun m hm => h.2.1.fields8 hm) h.1
theorem rawText_nil {r : List RM} (h : rawText r = []) : r = [] := by
  cases r with
  | nil => rfl
  | cons m r => exact absurd h (joined_ne (by simp) fun x _ => msgText_ne x)
/-- The reference reads the messages of a good string. -/
theorem good_read {s : List UInt8} {r : List RM} (h : Good s r) (hs : s ≠ []) : (partsF 59 s).mapM readM = some r := by
  have h0 : r ≠ [] := fun e => hs (by rw [← h.2.2, e]; rfl)
  rw [← h.2.2]
  exact read_raw h0 h.told
/-- What has the string for its text is good. -/
theorem good_of {s : List UInt8} {r : List RM} {f : Int × Int × Int} (hf : First r f) (h : rawT r f = s) (hs : s ≠ []) : Good s r := by
  unfold rawT at h
  by_cases h0 : f.1 = 0
  · rw [if_pos h0] at h
    obtain ⟨h6, hA⟩ := first_ok hf h0
    exact ⟨h6, hA, h⟩
  · rw [if_neg h0] at h
    exact absurd h.symm hs
/-- .. and a good one has it. -/
theorem good_text {s : List UInt8} {r : List RM} {f : Int × Int × Int} (hf : First r f) (h : Good s r) : rawT r f = s := by
  have : f = (0, 0, 0) := hf.one (.inr ⟨h.1, .inl ⟨h.2.1, rfl⟩⟩)
  subst this
  unfold rawT
  rw [if_pos rfl]
  exact h.2.2
theorem good_zero {s : List UInt8} {r : List RM} {f : Int × Int × Int} (hf : First r f) (h : Good s r) : f.1 = 0 := by
  have : f = (0, 0, 0) := hf.one (.inr ⟨h.1, .inl ⟨h.2.1, rfl⟩⟩)
  rw [this]
/-! ### The program: cut at the first ':'. -/
/-- The fields of what stands behind the ':'. -/
def parseFs (s : List UInt8) : Option (List RF) := if s = [] then some [] else (partsF 44 s).mapM readF
/-- The message of a piece. -/
def parseM (s : List UInt8) : Option RM :=
  match partsF 58 s with
  | [] => none
  | [_] => none
  | a :: b :: t => if (parse 999999999 a).2 = true then (parseFs (joinF 58 b t)).map fun l => (((parse 999999999 a).1 : Int), l) else none
theorem mapM_some {α β : Type} {f : α → Option β} : ∀ {l : List α} {r : List β}, l.mapM f = some r → l.length = r.length ∧ ∀ i (h : i < l.length) (h' : i < r.length), f l[i] = some r[i]
  | [], r, h => by
    simp at h
    subst h
    exact ⟨rfl, fun i h => by simp at h⟩
  | x :: l, r, h => by
    rw [List.mapM_cons] at h
    cases hx : f x with
    | none => rw [hx] at h; simp at h
    | some y =>
      rw [hx] at h
      cases hl : l.mapM f with
      | none => rw [hl] at h; simp at h
      | some ys =>
        rw [hl] at h
        simp at h
        subst h
        obtain ⟨h1, h2⟩ := mapM_some hl
        refine ⟨by simp [h1], fun i hi hi' => ?_⟩
        cases i with
        | zero => simpa using hx
        | succ i => simpa using h2 i (by simpa using hi) (by simpa using hi')
theorem mapM_eq_map {l : List (List UInt8)} {r : List RF} (h : l.mapM readF = some r) : l = r.map textF ∧ ∀ f ∈ r, hasText f := by
  obtain ⟨h1, h2⟩ := mapM_some h
  refine ⟨List.ext_getElem (by simp [h1]) fun i hi hi' => ?_, fun f hf => ?_⟩
  · rw [List.getElem_map]
    exact (readF_some (h2 i hi (by simpa using hi'))).2.symm
  · obtain ⟨i, hi, rfl⟩ := List.getElem_of_mem hf
    exact (readF_some (h2 i (by omega) hi)).1
theorem parts_joined (b : UInt8) {α : Type} {t : α → List UInt8} {l : List α} {s : List UInt8} (h : partsF b s = l.map t) : s = joined b t l := by
  obtain ⟨p, q, e, j⟩ := parts_join b s
  rw [e] at h
  cases l with
  | nil => simp at h
  | cons x l =>
    rw [List.map_cons] at h
    injection h with h1 h2
    rw [← j, h1, h2]
    rfl
theorem parseFs_some {s : List UInt8} {l : List RF} (h : parseFs s = some l) : s = fieldsText l ∧ ∀ f ∈ l, hasText f := by
  unfold parseFs at h
  by_cases h0 : s = []
  · rw [if_pos h0] at h
    injection h with h
    subst h h0
    exact ⟨rfl, fun f hf => by cases hf⟩
  · rw [if_neg h0] at h
    obtain ⟨h1, h2⟩ := mapM_eq_map h
    exact ⟨parts_joined 44 h1, h2⟩
theorem parseFs_text {l : List RF} (h : ∀ f ∈ l, hasText f) : parseFs (fieldsText l) = some l := by
  unfold parseFs
  by_cases h0 : l = []
  · subst h0; rfl
  · have hne : fieldsText l ≠ [] := joined_ne h0 fun f hf => textF_ne (h f hf)
    rw [if_neg hne]
    have hpt : partsF 44 (fieldsText l) = l.map textF := joined_parts h0 fun f hf c hc => by
      rcases textF_bytes (h f hf) hc with rfl | hw
      · decide
      · exact wordy_ne hw (by decide)
    rw [hpt, mapM_text l h]
theorem parseM_some {s : List UInt8} {m : RM} (h : parseM s = some m) : s = msgText m ∧ 0 ≤ m.1 ∧ ∀ f ∈ m.2, hasText f := by
  obtain ⟨p, q, e, j⟩ := parts_join 58 s
  unfold parseM at h
  rw [e] at h
  cases q with
  | nil => simp at h
  | cons b t =>
    simp only at h
    by_cases hn : (parse 999999999 p).2 = true
    · rw [if_pos hn] at h
      obtain ⟨l, hl, hm⟩ := Option.map_eq_some_iff.1 h
      obtain ⟨h1, h2⟩ := parseFs_some hl
      subst hm
      have hp : p = dec (parse 999999999 p).1 := by
        unfold parse at hn ⊢
        split at hn
        · rename_i hk
          rw [if_pos hk]
          refine (dec_val p ?_).symm
          simp only [numOk, Bool.and_eq_true] at hk
          exact hk.1
        · cases hn
      refine ⟨?_, by simp, h2⟩
      rw [← j]
      unfold msgText
      simp only [Int.toNat_natCast]
      rw [← hp, ← h1]
      simp [joinF]
    · rw [if_neg hn] at h; cases h
theorem parseM_text {m : RM} (h : msgTold m) : parseM (msgText m) = some m := by
  have hp : parse 999999999 (dec m.1.toNat) = (m.1.toNat, true) := by rw [parse_yes (numOk_dec (by have := h.1; omega)), val_dec]
  unfold parseM
  rw [msgText_parts h]
  simp only [hp, if_true]
  rw [show joinF 58 (fieldsText m.2) [] = fieldsText m.2 by simp [joinF], parseFs_text h.2]
  have : ((m.1.toNat : Nat) : Int) = m.1 := by have := h.1; omega
  simp [this]
theorem mapM_parse : ∀ r : List RM, (∀ m ∈ r, msgTold m) → (r.map msgText).mapM parseM = some r
  | [], _ => rfl
  | m :: r, h => by
    rw [List.map_cons, List.mapM_cons, parseM_text (h m List.mem_cons_self), mapM_parse r fun g hg => h g (List.mem_cons_of_mem _ hg)]
    rfl
/-- The program reads the messages of a good string .. -/
theorem good_parse {s : List UInt8} {r : List RM} (h : Good s r) (hs : s ≠ []) : (partsF 59 s).mapM parseM = some r := by
  have h0 : r ≠ [] := fun e => hs (by rw [← h.2.2, e]; rfl)
  have hpt : partsF 59 s = r.map msgText := by
    rw [← h.2.2]
    exact joined_parts h0 fun m hm c hc => msgText_bytes (h.told m hm) hc
  rw [hpt, mapM_parse r h.told]
/-- .. and what it reads has the string for its text. -/
theorem parse_good {s : List UInt8} {r : List RM} (h : (partsF 59 s).mapM parseM = some r) (h6 : r.length ≤ 6) (hA : AllB r r.length) : Good s r := by
  obtain ⟨h1, h2⟩ := mapM_some h
  refine ⟨h6, hA, (parts_joined 59 ?_).symm⟩
  refine List.ext_getElem (by simp [h1]) fun i hi hi' => ?_
  rw [List.getElem_map]
  exact (parseM_some (h2 i hi (by simpa using hi'))).1
end Go.Proofs.YtcbohfncckpolaaGreatDoor.Num

/-
  What the program's parseField takes out of the words of a string (stage 9): the field whose text the string is, or none. Plain facts; no program is named here.
-/
namespace Go.Proofs.YtcbohfncckpolaaGreatDoor.Num
set_option linter.unusedVariables false
def takeR (word : List UInt8) : List (List UInt8) → Bool × List (List UInt8)
  | [] => (false, [])
  | s :: r => if s = word then (true, r) else (false, s :: r)
/-- The Ref and the words behind it. -/
def refW (k : Int) (t : List (List UInt8)) : Int × List (List UInt8) :=
  if k = 8 then match t with | [] => (0, []) | y :: t => (((parse 999999999 y).1 : Int), t) else (0, t)
/-- What is read, and what is left over. -/
def parseT (h k : List UInt8) (t : List (List UInt8)) : RF × List (List UInt8) :=
  let K := kindTo k 0 8
  let x := refW K t
  let a := takeR repW x.2
  let p := takeR packW a.2
  ((((parse 999999999 h).1 : Int), K, a.1, p.1, x.1), p.2)
theorem parse_pos {w : List UInt8} (h : 1 ≤ (parse 999999999 w).1) : w = dec (parse 999999999 w).1 := by
  unfold parse at h ⊢
  split at h
  · rename_i hn
    rw [if_pos hn]
    refine (dec_val w ?_).symm
    simp only [numOk, Bool.and_eq_true] at hn
    exact hn.1
  · simp at h
theorem kindTo_pos {w : List UInt8} : ∀ j : Nat, j ≤ 8 → 1 ≤ kindTo w 0 j → w = wordL (kindTo w 0 j)
  | 0, _, h => by simp [kindTo] at h
  | j + 1, hj, h => by
    rw [kindTo] at h ⊢
    by_cases e : w = wordL ((j : Int) + 1)
    · rw [if_pos e]; exact e
    · rw [if_neg e] at h ⊢; exact kindTo_pos j (by omega) h
theorem takeR_eq (word : List UInt8) (t : List (List UInt8)) : t = (if (takeR word t).1 = true then [word] else []) ++ (takeR word t).2 := by
  cases t with
  | nil => rfl
  | cons s r =>
    unfold takeR
    by_cases h : s = word
    · simp [h]
    · simp [h]
/-- Nothing is left over and the field has a text: then the words are its text's. -/
theorem parseT_words {h k : List UInt8} {t : List (List UInt8)} (h0 : (parseT h k t).2 = []) (ht : hasText (parseT h k t).1) : h :: k :: t = dec (parseT h k t).1.1.toNat :: moreW (parseT h k t).1 := by
  obtain ⟨h1, h2, h3, h4⟩ := ht
  have e1 : h = dec (parseT h k t).1.1.toNat := by
    have hp : 1 ≤ (parse 999999999 h).1 := by have := h1.1; unfold parseT at this; simp only at this; omega
    have := parse_pos hp
    unfold parseT
    simpa using this
  have e2 : k = wordL (parseT h k t).1.2.1 := kindTo_pos 8 (Nat.le_refl _) h2.1
  rw [moreW, ← e1, ← e2]
  congr 2
  unfold parseT at h0 h3 ⊢
  simp only at h0 h3 ⊢
  generalize hK : kindTo k 0 8 = K at h0 h3 ⊢
  have hx : t = (if K = 8 then [dec (refW K t).1.toNat] else []) ++ (refW K t).2 := by
    by_cases h8 : K = 8
    · have h3 := h3 h8
      unfold refW at h3 ⊢
      rw [if_pos h8] at h3 ⊢
      cases t with
      | nil => simp at h3
      | cons y t =>
        simp only at h3
        have := parse_pos (w := y) (by omega)
        rw [if_pos h8]
        simpa using this
    · unfold refW; rw [if_neg h8, if_neg h8]; rfl
  have ha := takeR_eq repW (refW K t).2
  have hp := takeR_eq packW (takeR repW (refW K t).2).2
  rw [h0, List.append_nil] at hp
  rw [← hp, ← ha]
  exact hx
theorem takeR_yes (word : List UInt8) (b : Bool) (t : List (List UInt8)) (ht : ∀ s r, t = s :: r → s ≠ word) : takeR word ((if b = true then [word] else []) ++ t) = (b, t) := by
  cases b with
  | true => simp [takeR]
  | false =>
    cases t with
    | nil => rfl
    | cons s r => simp [takeR, ht s r rfl]
theorem parseT_back {f : RF} (hf : hasText f) : ∃ t, moreW f = wordL f.2.1 :: t ∧ parseT (dec f.1.toNat) (wordL f.2.1) t = (f, []) := by
  obtain ⟨n, k, a, p, x⟩ := f
  obtain ⟨h1, h2, h3, h4⟩ := hf
  simp only at h1 h2 h3 h4
  refine ⟨_, rfl, ?_⟩
  have hn : ((parse 999999999 (dec n.toNat)).1 : Int) = n := by
    rw [parse_yes (numOk_dec (by omega)), val_dec]; simp only; omega
  unfold parseT
  simp only [kindTo_word h2, hn]
  have hR : refW k ((if k = 8 then [dec x.toNat] else []) ++ ((if a = true then [repW] else []) ++ if p = true then [packW] else [])) = (x, (if a = true then [repW] else []) ++ if p = true then [packW] else []) := by
    unfold refW
    by_cases h8 : k = 8
    · have hx : ((parse 999999999 (dec x.toNat)).1 : Int) = x := by
        have := h3 h8
        rw [parse_yes (numOk_dec (by omega)), val_dec]; simp only; omega
      rw [if_pos h8, if_pos h8]
      simp [hx]
    · rw [if_neg h8, if_neg h8, h4 h8]; simp
  rw [hR]
  simp only
  rw [takeR_yes repW a _ (by cases p <;> simp [repW, packW])]
  simp only
  have : (if p = true then [packW] else []) = (if p = true then [packW] else []) ++ ([] : List (List UInt8)) := by simp
  rw [this, takeR_yes packW p [] (by simp)]
/-- The field of the words: none if there are fewer than two, or some left over, or if it has no text. -/
def parseW : List (List UInt8) → Option RF
  | h :: k :: t => if (parseT h k t).2 = [] ∧ hasText (parseT h k t).1 then some (parseT h k t).1 else none
  | _ => none
theorem parseW_readF (s : List UInt8) : parseW (partsF 32 s) = readF s := by
  cases hr : readF s with
  | some f =>
    obtain ⟨hf, rfl⟩ := readF_some hr
    obtain ⟨t, hm, ht⟩ := parseT_back hf
    rw [textF_words hf, hm]
    unfold parseW
    simp only
    rw [ht, if_pos ⟨rfl, hf⟩]
  | none =>
    cases hp : parseW (partsF 32 s) with
    | none => rfl
    | some f =>
      exfalso
      obtain ⟨g, r, hg, hj⟩ := parts_join 32 s
      rw [hg] at hp
      cases r with
      | nil => simp [parseW] at hp
      | cons k t =>
        unfold parseW at hp
        simp only at hp
        by_cases hc : (parseT g k t).2 = [] ∧ hasText (parseT g k t).1
        · rw [if_pos hc] at hp
          injection hp with hp
          subst hp
          have hw := parseT_words hc.1 hc.2
          refine readF_none hr _ hc.2 ?_
          unfold textF
          rw [if_pos hc.2, ← hj]
          injection hw with e1 e2
          rw [← e1, ← e2]
        · rw [if_neg hc] at hp; cases hp
theorem readF_zero : readF [] = none := by unfold readF; rw [if_neg (by simp)]
end Go.Proofs.YtcbohfncckpolaaGreatDoor.Num

/-
  A slice of strings that can be read and is cut from the front, and the walk of the program's takeWord: whether the first word is the one asked for, and the words behind it; nothing is written.
-/
namespace Go.Proofs.YtcbohfncckpolaaGreatDoor.Num
open Go.RowKit Go.Proofs
set_option linter.unusedVariables false
set_option linter.unusedSimpArgs false

/-- The slice reads as the strings ss; its block lies below D. -/
def SlS (w : World) (D : Nat) (p : Option Addr) (n cap : Nat) (ss : List (List UInt8)) : Prop :=
  ss.length = n ∧ n ≤ cap ∧ (n = 0 ∨ ∃ b o, p = some ⟨b, o, none⟩ ∧ b < D ∧ ∀ j (h : j < ss.length), w.cell? ⟨b, o + j, none⟩ = some (.string ⟨ss[j].toArray⟩))
section
variable {w w' : World} {D : Nat} {p : Option Addr} {n cap : Nat} {ss : List (List UInt8)}
theorem SlS.below (h : SlS w D p n cap ss) (hb : Below D w w') : SlS w' D p n cap ss := by
  refine ⟨h.1, h.2.1, ?_⟩
  rcases h.2.2 with h0 | ⟨b, o, hp, hlt, hc⟩
  · exact .inl h0
  · exact .inr ⟨b, o, hp, hlt, fun j hj => (hb.cell (p := ⟨b, o + j, none⟩) hlt).trans (hc j hj)⟩
theorem SlS.drew (h : SlS w D p n cap ss) : SlS w.drew D p n cap ss := h
theorem SlS.set (h : SlS w D p n cap ss) {a : Addr} (ha : D ≤ a.block) (v : Value) : SlS (w.setCell a v) D p n cap ss := by
  refine ⟨h.1, h.2.1, ?_⟩
  rcases h.2.2 with h0 | ⟨b, o, hp, hlt, hc⟩
  · exact .inl h0
  · exact .inr ⟨b, o, hp, hlt, fun j hj => by rw [World.cell?_setCell_other _ _ _ _ (by rintro rfl; simp at ha; omega)]; exact hc j hj⟩
theorem SlS.mono {D' : Nat} (h : SlS w D p n cap ss) (hD : D ≤ D') : SlS w D' p n cap ss := by
  refine ⟨h.1, h.2.1, ?_⟩
  rcases h.2.2 with h0 | ⟨b, o, hp, hlt, hc⟩
  · exact .inl h0
  · exact .inr ⟨b, o, hp, by omega, hc⟩
/-- Where the slice lies, if it is not empty, and its cells. -/
theorem SlS.cells (h : SlS w D p n cap ss) (h0 : 0 < n) : ∃ b o, p = some ⟨b, o, none⟩ ∧ b < D ∧ ∀ j (h : j < ss.length), w.cell? ⟨b, o + j, none⟩ = some (.string ⟨ss[j].toArray⟩) := by
  rcases h.2.2 with h | h
  · omega
  · exact h
/-- The rest of it from the k-th on. -/
theorem SlS.from (h : SlS w D p n cap ss) (k : Nat) (hk : k ≤ n) : SlS w D (if cap = k then p else p.map (·.add (k * 1))) (n - k) (cap - k) (ss.drop k) := by
  obtain ⟨h1, h2, h3⟩ := h
  refine ⟨by simp [h1], by omega, ?_⟩
  by_cases hn : n - k = 0
  · exact .inl hn
  rcases h3 with h3 | ⟨b, o, rfl, hlt, hc⟩
  · exact .inl (by omega)
  · right
    rw [if_neg (by omega)]
    refine ⟨b, o + k, ?_, hlt, fun j hj => ?_⟩
    · have ha : (⟨b, o, none⟩ : Addr).add (k * 1) = ⟨b, o + k, none⟩ := by
        unfold Addr.add
        split
        · next e => simp at e; subst e; rfl
        · simp
      show some ((⟨b, o, none⟩ : Addr).add (k * 1)) = _
      rw [ha]
    · rw [List.length_drop] at hj
      have := hc (k + j) (by omega)
      rw [List.getElem_drop, Nat.add_assoc]
      exact this
end
theorem run_from (p : Option Addr) (n cap k : Nat) (hk : k ≤ n) (h63 : n ≤ 9223372036854775807) (w : World) :
    (Instr.slice 39 (.slice p n cap) (some (.int .i64 (k : Int))) none none).run Tryz.prog w = .ok (.slice (if cap = k then p else p.map (·.add (k * 1))) (n - k) (cap - k)) w := by
  have hk' : (k : Int) ≤ (n : Int) := by omega
  have hsz : (sizeOf 9).run Tryz.prog w = .ok 1 w := by kernel_rfl
  have hel : Tryz.prog.elem 39 = 9 := by kernel_rfl
  rw [run_slice_any w 39 p n cap (by rw [hel]; exact Tryz.underlying39)]
  rw [hel]
  simp [Instr.sliceBounds, go_sem, hk', hsz, Result.andThen, sliced]
theorem takeWord_none (p : Option Addr) (cap : Nat) (word : ByteArray) (w : World) :
    Calls Tryz.prog 105 #[.slice p 0 cap, .string word] w fun e w' => e = .returned (.tuple #[.bool false, .slice p 0 cap]) ∧ w = w' := by
  go_enter Tryz.func105, Tryz.ntmps105
  go_wp2_with fail
  go_ret2
  exact ⟨rfl, rfl⟩
theorem takeWord_miss (D : Nat) (p : Option Addr) (n cap : Nat) (ss : List (List UInt8)) (x : List UInt8) (word : ByteArray) (w : World) (h : SlS w D p n cap (x :: ss)) (hn : n ≤ 1048577) (hx : x ≠ word.data.toList) :
    Calls Tryz.prog 105 #[.slice p n cap, .string word] w fun e w' => e = .returned (.tuple #[.bool false, .slice p n cap]) ∧ w = w' := by
  have hn1 : 0 < n := by have := h.1; simp at this; omega
  obtain ⟨b, o, rfl, hlt, hc⟩ := h.cells hn1
  have hc0 := hc 0 (by simp)
  simp only [List.getElem_cons_zero, Nat.add_zero] at hc0
  obtain ⟨s, hs⟩ : ∃ s : ByteArray, s = ⟨x.toArray⟩ := ⟨_, rfl⟩
  rw [← hs] at hc0
  have ht : (s.toList == word.toList) = false := by
    rw [beq_eq_false_iff_ne]
    intro e
    apply hx
    rw [ByteArray.toList_eq, ByteArray.toList_eq, hs] at e
    simpa using e
  have hn1i : (0 : Int) < (n : Int) := by omega
  clear hc h hs hx
  go_enter Tryz.func105, Tryz.ntmps105
  go_wp2_with fail
  go_ret2
  exact ⟨rfl, rfl⟩
set_option maxHeartbeats 1000000 in
theorem takeWord_hit (D : Nat) (p : Option Addr) (n cap : Nat) (ss : List (List UInt8)) (word : ByteArray) (w : World) (h : SlS w D p n cap (word.data.toList :: ss)) (hn : n ≤ 1048577) :
    Calls Tryz.prog 105 #[.slice p n cap, .string word] w fun e w' => ∃ p' n' cap', e = .returned (.tuple #[.bool true, .slice p' n' cap']) ∧ n' ≤ n ∧ SlS w' D p' n' cap' ss ∧ Below w.heap.size w w' := by
  have hn1 : 0 < n := by have := h.1; simp at this; omega
  have hf := h.from 1 hn1
  have hcap := h.2.1
  rw [show List.drop 1 (word.data.toList :: ss) = ss from rfl] at hf
  obtain ⟨b, o, rfl, hlt, hc⟩ := h.cells hn1
  have ha : (⟨b, o, none⟩ : Addr).add (1 * 1) = ⟨b, o + 1, none⟩ := rfl
  have hc0 := hc 0 (by simp)
  simp only [List.getElem_cons_zero, Nat.add_zero] at hc0
  have ht : (word.toList == word.toList) = true := by simp
  have hw : (⟨word.data.toList.toArray⟩ : ByteArray) = word := by simp
  rw [hw] at hc0
  have hn1i : (0 : Int) < (n : Int) := by omega
  clear hc h hw
  by_cases hc1 : cap = 1
  · subst hc1
    obtain rfl : n = 1 := by omega
    rw [if_pos rfl] at hf
    have Hf := Lib.hid hf
    clear hf ha
    go_enter Tryz.func105, Tryz.ntmps105
    go_wp2_with fail
    go_quiet (fail)
    go_wp2_with fail
    go_ret2
    exact ⟨_, 0, 0, rfl, by omega, Hf.out, below_drewN (Below.refl _ _) _⟩
  · rw [if_neg hc1, show (some (⟨b, o, none⟩ : Addr)).map (·.add (1 * 1)) = some ⟨b, o + 1, none⟩ from rfl] at hf
    have Hf := Lib.hid hf
    have hc2 : cap - 1 ≠ 0 := by omega
    clear hf ha
    go_enter Tryz.func105, Tryz.ntmps105
    go_wp2_with fail
    go_quiet (fail)
    go_wp2_with fail
    go_ret2
    exact ⟨_, n - 1, cap - 1, rfl, by omega, Hf.out, below_drewN (Below.refl _ _) _⟩
/-- takeWord, whatever the words are: as takeR has it. -/
theorem takeWord_any (D : Nat) (p : Option Addr) (n cap : Nat) (ss : List (List UInt8)) (word : ByteArray) (w : World) (h : SlS w D p n cap ss) (hn : n ≤ 1048577) :
    Calls Tryz.prog 105 #[.slice p n cap, .string word] w fun e w' => ∃ p' n' cap', e = .returned (.tuple #[.bool (takeR word.data.toList ss).1, .slice p' n' cap']) ∧ n' ≤ 1048577 ∧ SlS w' D p' n' cap' (takeR word.data.toList ss).2 ∧ Below w.heap.size w w' := by
  cases ss with
  | nil =>
    obtain rfl : n = 0 := by have := h.1; simpa using this.symm
    exact (takeWord_none p cap word w).mono fun e w' ⟨he, hb⟩ => ⟨p, 0, cap, he, by omega, hb ▸ h, hb ▸ Below.refl _ _⟩
  | cons x ss =>
    by_cases hx : x = word.data.toList
    · subst hx
      refine (takeWord_hit D p n cap ss word w h hn).mono fun e w' ⟨p', n', c', he, hn', hs, hb⟩ => ?_
      have ht : takeR word.data.toList (word.data.toList :: ss) = (true, ss) := by simp [takeR]
      rw [ht]
      exact ⟨p', n', c', he, by omega, hs, hb⟩
    · refine (takeWord_miss D p n cap ss x word w h hn hx).mono fun e w' ⟨he, hb⟩ => ?_
      have ht : takeR word.data.toList (x :: ss) = (false, x :: ss) := by simp [takeR, hx]
      rw [ht]
      exact ⟨p, n, cap, he, hn, hb ▸ h, hb ▸ Below.refl _ _⟩
end Go.Proofs.YtcbohfncckpolaaGreatDoor.Num

/-
  The table of kinds looked up at a word: its kind, or 0.
-/
namespace Go.Proofs.YtcbohfncckpolaaGreatDoor.Num
open Go.RowKit Go.Proofs Go Go.WideMaps
set_option linter.unusedVariables false

theorem kd_look (s : List UInt8) : KD.atKey (.string s) (.lit (.int .i64 0)) = .lit (.int .i64 (kindTo s 0 8)) := by
  by_cases h : ∃ k : Int, (1 ≤ k ∧ k ≤ 8) ∧ s = wordL k
  · obtain ⟨k, hk, rfl⟩ := h
    rw [kindTo_word hk]
    exact kd_at hk
  · rw [kindTo_none (fun k hk e => h ⟨k, hk, e⟩) 0 8 (Nat.le_refl _)]
    refine Maps.atKey_of_not_has ?_ _
    cases hh : Maps.has KD (.string s) with
    | false => rfl
    | true =>
      obtain ⟨k, hk, e⟩ := kd_key hh
      injection e with e
      exact absurd ⟨k, hk, e⟩ h
set_option maxRecDepth 100000 in
theorem kd_run (s : ByteArray) (hs : s.size ≤ maxLen) {w : World} {b : Nat} (hown : w.ownsMap Tryz.prog 9 (plainElem Tryz.prog 3) b 8 KD) :
    (Instr.lookup 123 (.map (some b)) (.string s) false).run Tryz.prog w = .ok (.int .i64 (kindTo s.data.toList 0 8)) w := by
  obtain ⟨c, hr, hat, _⟩ := hown.lookup_int lawW Tryz.underlying123 Tryz.underlying3 (by kernel_rfl) (keyOf_string_mk Tryz.underlying9 hs)
  rw [kd_look] at hat
  injection hat with hat
  injection hat with _ hat
  rw [hr, hat]
end Go.Proofs.YtcbohfncckpolaaGreatDoor.Num

/-
  The words that Parts gives, as a slice that is cut from the front.
-/
namespace Go.Proofs.YtcbohfncckpolaaGreatDoor.Num
open Go.RowKit Go.Proofs
set_option linter.unusedVariables false
/-- The words that Parts gives, as a slice that is cut from the front. -/
theorem slS_of {w w' : World} {B : Nat} {T : TypeId} {v : Value} {P : List ByteArray} {ws : List (List UInt8)} (h : w'.ownsRow B T 1 v P.length (P.map Value.string)) (hP : strL P = ws) (h0 : ws ≠ []) :
    ∃ g cap, v = .slice (some ⟨g, 0, none⟩) ws.length cap ∧ B ≤ g ∧ SlS w' w'.heap.size (some ⟨g, 0, none⟩) ws.length cap ws := by
  have hl : ws.length = P.length := by rw [← hP]; simp [strL]
  have hp : 0 < P.length := by rw [← hl]; exact List.length_pos_iff.2 h0
  obtain ⟨l, h5⟩ := h
  rcases h5 with ⟨_, h0⟩ | ⟨g, cap, cur, rfl, hB, hg, hc, hcm, hcs, hcur⟩
  · omega
  · have hown : w'.ownsRow B T 1 (.slice (some ⟨g, 0, none⟩) P.length cap) P.length (P.map Value.string) := ⟨l, .inr ⟨g, cap, cur, rfl, hB, hg, hc, hcm, hcs, hcur⟩⟩
    refine ⟨g, cap, by rw [hl], hB, rfl, by omega, .inr ⟨g, 0, rfl, (Array.getElem?_eq_some_iff.1 hg).1, fun j hj => ?_⟩⟩
    rw [Nat.zero_add, World.ownsRow.cellAt hown j (by omega), List.getElem?_map, List.getElem?_eq_getElem (by omega)]
    subst hP
    simp [strL]
end Go.Proofs.YtcbohfncckpolaaGreatDoor.Num

/-
  errors.Is, as the program calls it: with nil, and with the very sentinel that it is asked for. And what it says that the program's sentinel lies in its variable.
-/
namespace Go.Proofs.YtcbohfncckpolaaGreatDoor.Num
open Go.RowKit Go.Proofs Go Go.Extern.Stop Go.Stop Go.Extern
set_option linter.unusedVariables false

/-- What the model has for (rtype).Comparable, under a name that no rewriting opens. -/
def isCmp (t : TypeId) : Sem Value := do Rtype.noPackHeld "Comparable" t; pure (.bool (← typeInfo t).comparable)
theorem is_typeOf (v : Value) (w : World) : (Extern.ReflectliteType.typeOf #[.iface 171 v]).run Tryz.prog w = .ok (.iface 106 (.agg #[.pointer (some ⟨7, 171, none⟩)])) w := by kernel_rfl
theorem is_comparable (w : World) : ((Extern.ReflectliteType.method isCmp) #[.agg #[.pointer (some ⟨7, 171, none⟩)]]).run Tryz.prog w = .ok (.bool true) w := by kernel_rfl
theorem is_mComparable (v : Value) (w : World) : (Go.method 305 106 v "Comparable").run Tryz.prog w = .ok (153, v) w := by kernel_rfl
theorem is_comp : (Tryz.prog.info? 171).map (·.comparable) = some true := by kernel_rfl
theorem is_size : (Tryz.prog.info? 194).map (·.size) = some 1 := by kernel_rfl
/-- errors.Is(x, x), x a pointer to an errors.errorString. -/
theorem is_same (a : Addr) (w : World) :
    Calls Tryz.prog 22 #[.iface 171 (.pointer (some a)), .iface 171 (.pointer (some a))] w fun e w' => e = .returned (.bool true) ∧ w = w' := by
  obtain ⟨i, hi, hcmp⟩ := Option.map_eq_some_iff.1 is_comp
  obtain ⟨j, hj, hjs⟩ := Option.map_eq_some_iff.1 is_size
  have h8 := @run_callFunc_extern Tryz.prog 46 _ Extern.ReflectliteType.typeOf Tryz.func46 (by kernel_rfl) (by kernel_rfl) (by kernel_rfl) (by kernel_rfl)
  have h32 := @run_callFunc_extern Tryz.prog 153 _ (Extern.ReflectliteType.method isCmp) Tryz.func153 (by kernel_rfl) (by kernel_rfl) (by kernel_rfl) (by kernel_rfl)
  have tT := is_typeOf
  have cT := is_comparable
  have mR := is_mComparable
  have heq := run_eql_iface_ptr_same (P := Tryz.prog) w a Tryz.underlying46 Tryz.underlying171 hi hcmp hj
  go_enter Tryz.func22, Tryz.ntmps22
  go_wp2
  refine wp_loop_rounds 1 ?_
  rw [rounds_succ]
  go_wp2
  go_ret
  exact ⟨rfl, rfl⟩
/-- errors.Is(nil, x). -/
theorem is_nil (b : Addr) (w : World) :
    Calls Tryz.prog 22 #[.nilIface, .iface 171 (.pointer (some b))] w fun e w' => e = .returned (.bool false) ∧ w = w' := by
  have hn := run_eql_iface_nil_left (P := Tryz.prog) w 171 (.pointer (some b)) Tryz.underlying46
  go_enter Tryz.func22, Tryz.ntmps22
  go_wp2
  go_ret
  exact ⟨rfl, rfl⟩
end Go.Proofs.YtcbohfncckpolaaGreatDoor.Num

/-
  The walks of impl.Number, impl.LongOf (with their deferred functions), spec.Long, spec.LongOf, spec.Number: each returns the value of a shortest decimal numeral within its limit and true, and at every other string 0 and false; only new memory is written.
-/
namespace Go.Proofs.YtcbohfncckpolaaGreatDoor.Num
open Go.RowKit Go.Proofs

theorem nrec_panicking (p : Addr) (x : Bool) (u : TypeId) (pv : Value) (older : List PanicEntry) (w : World) (hc : w.cell? p = some (.bool x)) (hz : w.frozen? p = false) :
    CallsD Tryz.prog 89 #[.pointer (some p)] (.panicking ({ v := .iface u pv, recovered := false } :: older)) w fun e u' w' =>
      e = .returned (.tuple #[]) ∧ u' = .panicking ({ v := .iface u pv, recovered := true } :: older) ∧ w' = w.setCell p (.bool false) := by
  refine callsD_of_wpS Tryz.func89 rfl fun c₀ cs hu => ?_
  apply wpS_region
  simp [wpOpsS, go_sem, recoverD, hu, Tryz.ntmps89, hc, hz, bodyPostS, results, Tryz.results89]
theorem nrec_idle (p : Addr) (x : Bool) (w : World) (hc : w.cell? p = some (.bool x)) (hz : w.frozen? p = false) :
    CallsD Tryz.prog 89 #[.pointer (some p)] .returning w fun e u' w' => e = .returned (.tuple #[]) ∧ u' = .returning ∧ w' = w.setCell p (.bool true) := by
  refine callsD_of_wpS Tryz.func89 rfl fun c₀ cs hu => ?_
  apply wpS_region
  simp [wpOpsS, go_sem, recoverD, hu, Tryz.ntmps89, hc, hz, bodyPostS, results, Tryz.results89]
  cases c₀
  simp_all
theorem number_any (s : ByteArray) (w : World) (hs : s.size ≤ 9223372036854775807) :
    Calls Tryz.prog 70 #[.string s] w fun e w' => e = .returned (.tuple #[.int .i64 (parse 999999999 s.data.toList).1, .bool (parse 999999999 s.data.toList).2]) ∧ Below w.heap.size w w' := by
  have hmf : ∀ (fn : Fn) (first cap : Array Value) (w : World), (Instr.makeFunc fn first cap).run Tryz.prog w = .ok (.func fn first cap) w := fun _ _ _ _ => rfl
  go_enter_defers Tryz.func70, Tryz.ntmps70
  go_wp2_with fail
  refine (numeral_any s 999999999 _ hs (by omega) (by omega)).mono ?_
  rintro e w' ⟨⟨hok, rfl⟩ | ⟨hok, t, v, rfl⟩, rfl⟩
  · have hv : val s.data.toList ≤ 999999999 := by simp only [numOk, Bool.and_eq_true, decide_eq_true_eq] at hok; exact hok.2
    have Hp : Hid (parse 999999999 s.data.toList = (val s.data.toList, true)) := Lib.hid (by unfold parse; rw [if_pos hok])
    clear hok
    go_wp2_with fail
    refine leaves_cons (f := 89) (args := #[.pointer (some ⟨w.heap.size, 0, none⟩)]) (by simp) (by simp [go_sem]) ?_
    refine (nrec_idle ⟨w.heap.size, 0, none⟩ true _ ?_ ?_).mono ?_
    · simp [go_sem]
    · simp [go_sem]
    rintro e u' w'' ⟨rfl, rfl, rfl⟩
    simp [Leaves, settle, results, Tryz.results70, go_sem, Hp.out]
    exact (Below.refl _ _).alloc (Nat.le_refl _) _
  · have Hp : Hid (parse 999999999 s.data.toList = (0, false)) := Lib.hid (by unfold parse; rw [if_neg (by rw [hok]; simp)])
    go_wp2_with fail
    refine leaves_cons (f := 89) (args := #[.pointer (some ⟨w.heap.size, 0, none⟩)]) (by simp) (by simp [go_sem]) ?_
    refine (nrec_panicking ⟨w.heap.size, 0, none⟩ false t v [] _ ?_ ?_).mono ?_
    · simp [go_sem]
    · simp [go_sem]
    rintro e u' w'' ⟨rfl, rfl, rfl⟩
    simp [Leaves, settle, results, Tryz.results70, go_sem, Hp.out]
    exact (Below.refl _ _).alloc (Nat.le_refl _) _
end Go.Proofs.YtcbohfncckpolaaGreatDoor.Num

/-
  The walks of the program's parseField and ReadField: the field whose text the string is, or the zero field and the sentinel (false); only new memory is written.
-/
namespace Go.Proofs.YtcbohfncckpolaaGreatDoor.Num
open Go.RowKit Go.Proofs Go Go.WideMaps
set_option linter.unusedVariables false
set_option linter.unusedSimpArgs false

/-- The program's sentinel lies in its variable. -/
def sentV (a : Addr) : Value := .iface 171 (.pointer (some a))
def ErrText (w : World) (a : Addr) : Prop := w.cell? ⟨0, 0, none⟩ = some (sentV a) ∧ 0 < w.heap.size
theorem ErrText.below {w w' : World} {a : Addr} (h : ErrText w a) (hb : Below w.heap.size w w') : ErrText w' a := ⟨(hb.cell (p := ⟨_, 0, none⟩) h.2).trans h.1, Nat.lt_of_lt_of_le h.2 hb.size⟩
theorem ErrText.set {w : World} {a p : Addr} (h : ErrText w a) (hp : 0 < p.block) (v : Value) : ErrText (w.setCell p v) a := by
  refine ⟨?_, by simpa [World.setCell] using h.2⟩
  rw [World.cell?_setCell_other _ _ _ _ (by rintro rfl; exact absurd hp (by decide))]
  exact h.1
/-- Within the walk: the result's cell is still zero, the field being read lies at gf, the words that are left in v. -/
def PSt (a : Addr) (w wx : World) (D gf : Nat) (f : RF) (v : Value) (ss : List (List UInt8)) : Prop :=
  Box wx w.heap.size (fieldC zeroF) ∧ Box wx gf (fieldC f) ∧ w.heap.size < D ∧ D ≤ gf ∧ Below w.heap.size w wx ∧ ErrText wx a ∧ ∃ p n cap, v = .slice p n cap ∧ n ≤ 1048577 ∧ SlS wx D p n cap ss
section
variable {a : Addr} {w wx : World} {D gf : Nat} {f : RF} {v : Value} {ss : List (List UInt8)}
theorem PSt.all {w' : World} (h : PSt a w wx D gf f v ss) (hb : Below wx.heap.size wx w') : PSt a w w' D gf f v ss := by
  obtain ⟨h1, h2, h3, h4, h5, h6, p, n, cap, e, hn, hS⟩ := h
  exact ⟨h1.below hb h1.lt, h2.below hb h2.lt, h3, h4, h5.trans (hb.mono h5.size), h6.below hb, p, n, cap, e, hn, hS.below (hb.mono (Nat.le_of_lt (Nat.lt_of_le_of_lt h4 h2.lt)))⟩
theorem PSt.set (h : PSt a w wx D gf f v ss) (j : Nat) (u : Value) (f' : RF) (hf : (fieldC f).set j u = fieldC f') : PSt a w (wx.setCell ⟨gf, j, none⟩ u) D gf f' v ss := by
  obtain ⟨h1, h2, h3, h4, h5, h6, p, n, cap, e, hn, hS⟩ := h
  exact ⟨h1.other (by simp; omega) _, by rw [← hf]; exact h2.set j u, h3, h4, h5.setCell (by simp; omega) _, h6.set (by simp; omega) _, p, n, cap, e, hn, hS.set (by simpa using h4) _⟩
theorem PSt.words (h : PSt a w wx D gf f v ss) {p : Option Addr} {n cap : Nat} {ss' : List (List UInt8)} (hn : n ≤ 1048577) (hS : SlS wx D p n cap ss') : PSt a w wx D gf f (.slice p n cap) ss' := by
  obtain ⟨h1, h2, h3, h4, h5, h6, _⟩ := h
  exact ⟨h1, h2, h3, h4, h5, h6, p, n, cap, rfl, hn, hS⟩
end
set_option maxHeartbeats 4000000 in
set_option maxRecDepth 100000 in
theorem implParse_any (s : ByteArray) (a : Addr) (w : World) (hs : s.size ≤ 1048576) (hsh : w.ShapedOpen Tryz.prog) (hE : ErrText w a) :
    Calls Tryz.prog 91 #[.string s] w fun e w' => ((∃ f, readF s.data.toList = some f ∧ e = .returned (.tuple #[fieldV f, .nilIface])) ∨ (readF s.data.toList = none ∧ e = .returned (.tuple #[fieldV zeroF, sentV a]))) ∧ Below w.heap.size w w' := by
  rw [← parseW_readF]
  have hplen := partsF_length 32 s.data.toList
  have hpne := partsF_ne 32 s.data.toList
  have hpmem := partsF_mem 32 s.data.toList
  have hsl : s.data.toList.length = s.size := by simp
  have hb1 : Below w.heap.size w (w.alloc (.cells #[.int .i64 0, .int .i64 0, .bool false, .bool false, .int .i64 0] 58)) := (Below.refl _ _).alloc (Nat.le_refl _) _
  have hx1 := Box.fresh w #[.int .i64 0, .int .i64 0, .bool false, .bool false, .int .i64 0] 58
  have HP := Lib.hid (implParts_any s 32 (w.alloc (.cells #[.int .i64 0, .int .i64 0, .bool false, .bool false, .int .i64 0] 58)) hs (shaped_below hsh hb1))
  rw [show ((32 : UInt8).toNat : Int) = 32 from rfl] at HP
  generalize hws : partsF 32 s.data.toList = ws at hplen hpne hpmem HP ⊢
  have Hws := Lib.hid hws
  clear hws hsh
  obtain ⟨R, hR⟩ : ∃ R, parseW ws = R := ⟨_, rfl⟩
  rw [hR]
  have HR := Lib.hid hR
  clear hR
  have hz1 : w.heap.size < (w.alloc (.cells #[.int .i64 0, .int .i64 0, .bool false, .bool false, .int .i64 0] 58)).heap.size := by simp
  go_enter Tryz.func91, Tryz.ntmps91
  go_wp2_with fail
  generalize (w.alloc (.cells #[.int .i64 0, .int .i64 0, .bool false, .bool false, .int .i64 0] 58)) = w1 at hb1 hx1 HP hz1 ⊢
  refine HP.out.mono ?_
  rintro e w2 ⟨v, P, rfl, hP, hown, hb2⟩
  rw [Hws.out] at hP
  obtain ⟨g, cap, rfl, hg, hS⟩ := slS_of (w := w) hown hP hpne
  have hl2 := hb1.trans (hb2.mono hb1.size)
  have hz0 : 0 < w.heap.size := Nat.lt_of_le_of_lt (Nat.zero_le _) hE.2
  have HX2 := Lib.hid (hx1.below hb2 hz1)
  have HE2 := Lib.hid (hE.below hl2)
  have hz2 : w.heap.size < w2.heap.size := Nat.lt_of_lt_of_le hz1 hb2.size
  have hn : ws.length ≤ 1048577 := by omega
  have Hmem : Hid (∀ p ∈ ws, p.length ≤ 1048576) := Lib.hid fun p hp => by have := hpmem p hp; omega
  have HS := Lib.hid hS
  clear hown hb2 hx1 hE hP hb1 hS HP hplen hpmem hsl Hws
  match ws, hpne, HS, hn, Hmem, HR with
  | [], hpne, HS, hn, Hmem, HR => exact absurd rfl hpne
  | [x], hpne, HS, hn, Hmem, HR =>
    have Hr : Hid (R = none) := Lib.hid (by rw [← HR.out]; rfl)
    clear HS Hmem HR
    obtain ⟨e0, e1⟩ := HE2.out
    have hne1 : ¬ ((0 : Nat) = w.heap.size) := by omega
    have hne2 : ¬ (w.heap.size = 0) := by omega
    obtain ⟨⟨c0, c1, c2, c3, c4⟩, k0, k1, k2, k3, k4⟩ := Box.five HX2.out
    unfold sentV at *
    go_wp2_with fail
    go_region
    all_goals
      go_wp2_with fail
      refine bodyPost_ret (v := .tuple #[.agg #[.int .i64 0, .int .i64 0, .bool false, .bool false, .int .i64 0], .iface 171 (.pointer (some a))]) (by simp [results, Tryz.results91, go_sem, c0, c1, c2, c3, c4]) rfl ?_
      refine ⟨.inr ⟨Hr.out, rfl⟩, ?_⟩
      first
        | exact (((((hl2.setCell (by simp) _).setCell (by simp) _).setCell (by simp) _).setCell (by simp) _).setCell (by simp) _).drew
        | exact (((((hl2.drew.setCell (by simp) _).setCell (by simp) _).setCell (by simp) _).setCell (by simp) _).setCell (by simp) _)
  | h :: k :: t, hpne, HS, hn, Hmem, HR =>
    obtain ⟨e0, e1⟩ := HE2.out
    have hne1 : ¬ ((0 : Nat) = w.heap.size) := by omega
    have hne2 : ¬ (w.heap.size = 0) := by omega
    have hn2 : 2 ≤ (h :: k :: t).length := by simp
    obtain ⟨hSl, hSc, hSv⟩ := HS.out
    obtain ⟨b, o, hp, hblt, hcells⟩ := HS.out.cells (by omega)
    obtain ⟨rfl, rfl⟩ : g = b ∧ 0 = o := by injection hp with hp; injection hp with h1 h2; exact ⟨h1, h2⟩
    have q0 := hcells 0 (by simp)
    have q1 := hcells 1 (by simp)
    simp only [List.getElem_cons_zero, List.getElem_cons_succ, Nat.zero_add] at q0 q1
    have hkm := Hmem.out k (by simp)
    obtain ⟨sk, hsk⟩ : ∃ s : ByteArray, s = ⟨k.toArray⟩ := ⟨_, rfl⟩
    obtain ⟨sh, hsh⟩ : ∃ s : ByteArray, s = ⟨h.toArray⟩ := ⟨_, rfl⟩
    rw [← hsk] at q1
    rw [← hsh] at q0
    have hskz : sk.size ≤ maxLen := by rw [hsk]; simp [ByteArray.size]; unfold maxLen; omega
    have Hsk : Hid (sk.data.toList = k) := Lib.hid (by rw [hsk])
    have Hsh : Hid (sh.data.toList = h) := Lib.hid (by rw [hsh])
    have Hshz : Hid (sh.size ≤ 9223372036854775807) := Lib.hid (by have := Hmem.out h (by simp); rw [hsh]; simp [ByteArray.size]; omega)
    clear hcells hp hSv hsk hsh hkm
    generalize hN : (h :: k :: t).length = N at *
    have hNi : ¬ ((N : Int) < 2) := by omega
    have hN1 : (1 : Int) < (N : Int) := by omega
    obtain ⟨K, hK⟩ : ∃ K, kindTo k 0 8 = K := ⟨_, rfl⟩
    have Hk : Hid (∀ (wx : World) (bb : Nat), wx.ownsMap Tryz.prog 9 (plainElem Tryz.prog 3) bb 8 KD → (Instr.lookup 123 (.map (some bb)) (.string sk) false).run Tryz.prog wx = .ok (.int .i64 K) wx) := Lib.hid fun wx bb hm => by
      rw [kd_run sk hskz hm, Hsk.out, hK]
    have HK := Lib.hid hK
    have HN := Lib.hid hN
    have hgg : g < w2.heap.size := hblt
    clear hK hskz hN
    go_upto_region 4 with fail
    go_cut [5] (fun s5 wx => ∃ gf, s5 = .pointer (some ⟨gf, 0, none⟩) ∧ w2.heap.size ≤ gf ∧ Hid (Box wx gf [.int .i64 0, .int .i64 K, .bool false, .bool false, .int .i64 0]) ∧ Below w2.heap.size w2 wx)
    case first =>
      go_region_with (go_at_call 83; refine (kinds_any _).mono ?_; rintro e w4 ⟨rfl, hown, hg4⟩; (first
        | (have hb4 : Below w2.heap.size w2 w4 := Below.grown (row := none) (w := (w2.alloc (.cells #[.int .i64 0, .int .i64 0, .bool false, .bool false, .int .i64 0] 58)).drew) ((Below.refl _ _).alloc (Nat.le_refl _) _).drew hg4 (by simp) (fun j hj => by cases hj)
           have hx4 : Box w4 w2.heap.size [.int .i64 0, .int .i64 0, .bool false, .bool false, .int .i64 0] := Box.grown hg4 (Box.drew (Box.fresh w2 #[.int .i64 0, .int .i64 0, .bool false, .bool false, .int .i64 0] 58)) (fun j hj => by cases hj)
           obtain ⟨⟨d0, d1, d2, d3, d4⟩, f0, f1, f2, f3, f4⟩ := Box.five hx4
           have hk4 : (Instr.lookup 123 (.map (some (w2.heap.size + 1))) (.string sk) false).run Tryz.prog w4 = .ok (.int .i64 K) w4 := Hk.out w4 _ (by have h := hown; rwa [show (w2.alloc (.cells #[.int .i64 0, .int .i64 0, .bool false, .bool false, .int .i64 0] 58)).drew.heap.size = w2.heap.size + 1 by simp] at h))
        | (have hb4 : Below w2.heap.size w2 w4 := Below.grown (Below.refl _ _).drew hg4 (Nat.le_refl _) (fun j hj => by cases hj)
           have hk4 : (Instr.lookup 123 (.map (some w2.heap.size)) (.string sk) false).run Tryz.prog w4 = .ok (.int .i64 K) w4 := Hk.out w4 _ hown
           have hk5 : ∀ o, (Instr.lookup 123 (.map (some w2.heap.size)) (.string sk) false).run Tryz.prog (w4.alloc o) = .ok (.int .i64 K) (w4.alloc o) := fun o => Hk.out _ _ (hown.alloc o))); have q4 := (hb4.cell (p := ⟨g, 1, none⟩) hblt).trans q1; have hz4 : g < w4.heap.size := Nat.lt_of_lt_of_le hblt hb4.size)
      all_goals
        go_wp2_with fail
        go_meet
        first
          | (have hB5 : Box (((((w4.setCell ⟨w2.heap.size, 0, none⟩ (.int .i64 0)).setCell ⟨w2.heap.size, 1, none⟩ (.int .i64 K)).setCell ⟨w2.heap.size, 2, none⟩ (.bool false)).setCell ⟨w2.heap.size, 3, none⟩ (.bool false)).setCell ⟨w2.heap.size, 4, none⟩ (.int .i64 0)) w2.heap.size [.int .i64 0, .int .i64 K, .bool false, .bool false, .int .i64 0] := ((((hx4.set 0 (.int .i64 0)).set 1 (.int .i64 K)).set 2 (.bool false)).set 3 (.bool false)).set 4 (.int .i64 0)
             have hb5 : Below w2.heap.size w2 (((((w4.setCell ⟨w2.heap.size, 0, none⟩ (.int .i64 0)).setCell ⟨w2.heap.size, 1, none⟩ (.int .i64 K)).setCell ⟨w2.heap.size, 2, none⟩ (.bool false)).setCell ⟨w2.heap.size, 3, none⟩ (.bool false)).setCell ⟨w2.heap.size, 4, none⟩ (.int .i64 0)) := ((((hb4.setCell (by simp) _).setCell (by simp) _).setCell (by simp) _).setCell (by simp) _).setCell (by simp) _
             exact ⟨w2.heap.size, rfl, Nat.le_refl _, Lib.hid (by with_reducible exact hB5), by with_reducible exact hb5⟩)
          | exact ⟨w4.heap.size, rfl, hb4.size, Lib.hid (by with_reducible exact Box.fresh w4 #[.int .i64 0, .int .i64 K, .bool false, .bool false, .int .i64 0] 58), by with_reducible exact hb4.alloc hb4.size _⟩
          | (trace_state; sorry)
    case rest =>
      obtain ⟨gf, rfl, hgf, HF, hl⟩ := hcut
      have hll := hl2.trans (hl.mono (Nat.le_of_lt hz2))
      have q0' := (hl.cell (p := ⟨g, 0, none⟩) hblt).trans q0
      have HPx : Hid (PSt a w wc w2.heap.size gf (0, K, false, false, 0) (.slice (some ⟨g, 0, none⟩) N cap) (h :: k :: t)) := Lib.hid ⟨HX2.out.below hl hz2, HF.out, hz2, hgf, hll, HE2.out.below hl, _, _, _, rfl, hn, HS.out.below hl⟩
      clear HX2 HE2 HS e0 q0 q1 HF hl hll
      obtain ⟨⟨f0, f1, f2, f3, f4⟩, g0, g1, g2, g3, g4⟩ := Box.five HPx.out.2.1
      obtain ⟨nh, hnh⟩ : ∃ n : Int, ((parse 999999999 h).1 : Int) = n := ⟨_, rfl⟩
      obtain ⟨bh, hbh⟩ : ∃ b, (parse 999999999 h).2 = b := ⟨_, rfl⟩
      have HNum : Hid (∀ wx, Calls Tryz.prog 70 #[.string sh] wx fun e w' => e = .returned (.tuple #[.int .i64 nh, .bool bh]) ∧ Below wx.heap.size wx w') := Lib.hid fun wx => by
        have h := number_any sh wx Hshz.out
        rw [Hsh.out, hnh, hbh] at h
        exact h
      have Hnh := Lib.hid hnh
      clear hnh hbh Hsh Hshz
      go_wp2_with fail
      refine (HNum.out _).mono ?_
      rintro e w6 ⟨rfl, hb6⟩
      have HP6 := Lib.hid (HPx.out.all hb6)
      clear HPx hb6 q0' f0 f1 f2 f3 f4 g0 g1 g2 g3 g4 HNum
      obtain ⟨⟨f0, f1, f2, f3, f4⟩, g0, g1, g2, g3, g4⟩ := Box.five HP6.out.2.1
      go_upto_region 6 with fail
      have HP7 : Hid (PSt a w (w6.setCell ⟨gf, 0, none⟩ (.int .i64 nh)) w2.heap.size gf (nh, K, false, false, 0) (.slice (some ⟨g, 0, none⟩) N cap) (h :: k :: t)) := Lib.hid (HP6.out.set 0 _ _ rfl)
      clear HP6 f0 f1 f2 f3 f4 g0 g1 g2 g3 g4
      generalize w6.setCell ⟨gf, 0, none⟩ (.int .i64 nh) = w7 at HP7 ⊢
      have hS7 : SlS w7 w2.heap.size (some ⟨g, 0, none⟩) N cap (h :: k :: t) := by
        obtain ⟨_, _, _, _, _, _, p, n, c, e, _, hS⟩ := HP7.out
        injection e with e1 e2 e3
        subst e1 e2 e3
        exact hS
      have hf7 := hS7.from 2 hn2
      rw [show List.drop 2 (h :: k :: t) = t from rfl] at hf7
      go_cut [4] (fun s4 wx => Hid (PSt a w wx w2.heap.size gf (nh, K, false, false, 0) s4 t))
      case first =>
        have hn2i : (2 : Int) ≤ (N : Int) := by omega
        by_cases hc2 : cap = 2
        · subst hc2
          obtain rfl : N = 2 := by omega
          rw [if_pos rfl] at hf7
          simp only [Nat.sub_self] at hf7
          have HE := Lib.hid (HP7.out.words (by omega) hf7)
          clear hS7 hf7 HP7
          go_wp2_with fail
          go_meet
          exact HE
        · rw [if_neg hc2, show (some (⟨g, 0, none⟩ : Addr)).map (·.add (2 * 1)) = some ⟨g, 2, none⟩ from rfl] at hf7
          have HE := Lib.hid (HP7.out.words (by omega) hf7)
          have hc3 : cap - 2 ≠ 0 := by omega
          clear hS7 hf7 HP7
          go_wp2_with fail
          go_meet
          exact HE
      case rest =>
        have HP8 := hcut
        obtain ⟨p8, n8, c8, rfl, hn8, hS8⟩ := HP8.out.2.2.2.2.2.2
        have HS8 := Lib.hid hS8
        clear hcut HP7 hf7 hS7 hS8
        by_cases h8 : K = 8
        · subst h8
          match t, HP8, HS8, HR, HN, Hmem with
          | [], HP8, HS8, HR, HN, Hmem =>
            obtain rfl : n8 = 0 := by have := HS8.out.1; simpa using this.symm
            have Hx : Hid (refW 8 [] = (0, [])) := Lib.hid (by unfold refW; rw [if_pos rfl])
            have HPr : Hid (PSt a w _ w2.heap.size gf (nh, 8, false, false, 0) (.slice p8 0 c8) []) := HP8
            have HSr := HS8
            have hnr : 0 ≤ 1048577 := by omega
            clear HP8 HS8 hn8
            obtain ⟨⟨f0, f1, f2, f3, f4⟩, g0, g1, g2, g3, g4⟩ := Box.five HPr.out.2.1
            go_wp2_with fail
            obtain ⟨a1, r1, ha1⟩ : ∃ a1 r1, takeR repW [] = (a1, r1) := ⟨_, _, rfl⟩
            obtain ⟨b1, r2, hb1⟩ : ∃ b1 r2, takeR packW r1 = (b1, r2) := ⟨_, _, rfl⟩
            have HT1 : Hid (∀ (wx : World) (p : Option Addr) (n c : Nat), SlS wx w2.heap.size p n c [] → n ≤ 1048577 → Calls Tryz.prog 105 #[.slice p n c, .string ⟨#[114, 101, 112, 101, 97, 116, 101, 100]⟩] wx fun e w' => ∃ p' n' cap', e = .returned (.tuple #[.bool a1, .slice p' n' cap']) ∧ n' ≤ 1048577 ∧ SlS w' w2.heap.size p' n' cap' r1 ∧ Below wx.heap.size wx w') := Lib.hid fun wx p n c hS hn => by
              have h := takeWord_any w2.heap.size p n c [] ⟨#[114, 101, 112, 101, 97, 116, 101, 100]⟩ wx hS hn
              rw [show (⟨#[114, 101, 112, 101, 97, 116, 101, 100]⟩ : ByteArray).data.toList = repW from rfl, ha1] at h
              simp only at h
              exact h
            have HT2 : Hid (∀ (wx : World) (p : Option Addr) (n c : Nat), SlS wx w2.heap.size p n c r1 → n ≤ 1048577 → Calls Tryz.prog 105 #[.slice p n c, .string ⟨#[112, 97, 99, 107, 101, 100]⟩] wx fun e w' => ∃ p' n' cap', e = .returned (.tuple #[.bool b1, .slice p' n' cap']) ∧ n' ≤ 1048577 ∧ SlS w' w2.heap.size p' n' cap' r2 ∧ Below wx.heap.size wx w') := Lib.hid fun wx p n c hS hn => by
              have h := takeWord_any w2.heap.size p n c r1 ⟨#[112, 97, 99, 107, 101, 100]⟩ wx hS hn
              rw [show (⟨#[112, 97, 99, 107, 101, 100]⟩ : ByteArray).data.toList = packW from rfl, hb1] at h
              simp only at h
              exact h
            have Hpt : Hid (parseT h k [] = ((nh, 8, a1, b1, 0), r2)) := Lib.hid (by
              unfold parseT
              simp only [HK.out, Hnh.out, Hx.out, ha1, hb1])
            clear ha1 hb1 Hx
            refine (HT1.out _ _ _ _ HSr.out hnr).mono ?_
            rintro e w10 ⟨p10, n10, c10, rfl, hn10, hS10, hb10⟩
            have HP10 := Lib.hid ((HPr.out.all hb10).words hn10 hS10)
            clear HPr HSr hnr hS10 hb10 f0 f1 f2 f3 f4 g0 g1 g2 g3 g4 HT1
            obtain ⟨⟨f0, f1, f2, f3, f4⟩, g0, g1, g2, g3, g4⟩ := Box.five HP10.out.2.1
            go_upto_region 11 with fail
            have HP11 : Hid (PSt a w (w10.setCell ⟨gf, 2, none⟩ (.bool a1)) w2.heap.size gf (nh, 8, a1, false, 0) (.slice p10 n10 c10) r1) := Lib.hid (HP10.out.set 2 _ _ rfl)
            clear HP10 f0 f1 f2 f3 f4 g0 g1 g2 g3 g4
            generalize w10.setCell ⟨gf, 2, none⟩ (.bool a1) = w11 at HP11 ⊢
            have HS11 : Hid (SlS w11 w2.heap.size p10 n10 c10 r1) := Lib.hid (by
              obtain ⟨_, _, _, _, _, _, p, n, c, e, _, hS⟩ := HP11.out
              injection e with e1 e2 e3
              subst e1 e2 e3
              exact hS)
            go_wp2_with fail
            refine (HT2.out _ _ _ _ HS11.out hn10).mono ?_
            rintro e w12 ⟨p12, n12, c12, rfl, hn12, hS12, hb12⟩
            have HP12 := Lib.hid ((HP11.out.all hb12).words hn12 hS12)
            have hl12 : r2.length = n12 := hS12.1
            clear HP11 HS11 hn10 hS12 hb12 HT2
            obtain ⟨⟨f0, f1, f2, f3, f4⟩, g0, g1, g2, g3, g4⟩ := Box.five HP12.out.2.1
            go_upto_region 12 with fail
            have HP13 : Hid (PSt a w (w12.setCell ⟨gf, 3, none⟩ (.bool b1)) w2.heap.size gf (nh, 8, a1, b1, 0) (.slice p12 n12 c12) r2) := Lib.hid (HP12.out.set 3 _ _ rfl)
            clear HP12 f0 f1 f2 f3 f4 g0 g1 g2 g3 g4
            generalize w12.setCell ⟨gf, 3, none⟩ (.bool b1) = w13 at HP13 ⊢
            obtain ⟨⟨f0, f1, f2, f3, f4⟩, g0, g1, g2, g3, g4⟩ := Box.five HP13.out.2.1
            by_cases h0 : r2 = []
            · obtain rfl : n12 = 0 := by rw [← hl12, h0]; rfl
              have HH := Lib.hid (implHasText_any (nh, 8, a1, b1, 0))
              by_cases ht : hasText (nh, 8, a1, b1, 0)
              · rw [decide_eq_true ht] at HH
                have Hr : Hid (R = some (nh, 8, a1, b1, 0)) := Lib.hid (by rw [← HR.out]; unfold parseW; simp only; rw [Hpt.out]; rw [if_pos ⟨h0, ht⟩])
                unfold fieldV at HH
                simp only at HH
                clear h0 ht Hpt HR hl12
                go_wp2_with fail
                refine (HH.out _).mono ?_
                rintro e w14 ⟨rfl, hb14⟩
                have HP14 := Lib.hid (HP13.out.all hb14)
                clear HP13 hb14 f0 f1 f2 f3 f4 g0 g1 g2 g3 g4 HH
                obtain ⟨⟨f0, f1, f2, f3, f4⟩, g0, g1, g2, g3, g4⟩ := Box.five HP14.out.2.1
                obtain ⟨⟨c0, c1, c2, c3, c4⟩, k0, k1, k2, k3, k4⟩ := Box.five HP14.out.1
                go_wp2_with fail
                refine bodyPost_ret (v := .tuple #[.agg #[.int .i64 nh, .int .i64 8, .bool a1, .bool b1, .int .i64 0], .nilIface]) (by simp [results, Tryz.results91, go_sem, c0, c1, c2, c3, c4]) rfl ?_
                exact ⟨.inl ⟨_, Hr.out, rfl⟩, (((((HP14.out.2.2.2.2.1.setCell (by simp) _).setCell (by simp) _).setCell (by simp) _).setCell (by simp) _).setCell (by simp) _)⟩
              · rw [decide_eq_false ht] at HH
                have Hr : Hid (R = none) := Lib.hid (by rw [← HR.out]; unfold parseW; simp only; rw [Hpt.out]; rw [if_neg fun e => ht e.2])
                unfold fieldV at HH
                simp only at HH
                clear h0 ht Hpt HR hl12
                go_wp2_with fail
                refine (HH.out _).mono ?_
                rintro e w14 ⟨rfl, hb14⟩
                have HP14 := Lib.hid (HP13.out.all hb14)
                clear HP13 hb14 f0 f1 f2 f3 f4 g0 g1 g2 g3 g4 HH
                obtain ⟨⟨c0, c1, c2, c3, c4⟩, k0, k1, k2, k3, k4⟩ := Box.five HP14.out.1
                obtain ⟨e0, e1⟩ := HP14.out.2.2.2.2.2.1
                unfold sentV at e0
                go_wp2_with fail
                go_region
                all_goals
                  go_wp2_with fail
                  refine bodyPost_ret (v := .tuple #[.agg #[.int .i64 0, .int .i64 0, .bool false, .bool false, .int .i64 0], .iface 171 (.pointer (some a))]) (by simp [results, Tryz.results91, go_sem, c0, c1, c2, c3, c4]) rfl ?_
                  refine ⟨.inr ⟨Hr.out, rfl⟩, ?_⟩
                  first
                    | exact (((((HP14.out.2.2.2.2.1.setCell (by simp) _).setCell (by simp) _).setCell (by simp) _).setCell (by simp) _).setCell (by simp) _).drew
                    | exact (((((HP14.out.2.2.2.2.1.drew.setCell (by simp) _).setCell (by simp) _).setCell (by simp) _).setCell (by simp) _).setCell (by simp) _)
            · have hp12 : 0 < n12 := by rw [← hl12]; exact List.length_pos_iff.2 h0
              have Hr : Hid (R = none) := Lib.hid (by rw [← HR.out]; unfold parseW; simp only; rw [Hpt.out]; rw [if_neg fun e => h0 e.1])
              have hp12i : (0 : Int) < (n12 : Int) := by omega
              clear h0 Hpt HR hl12 f0 f1 f2 f3 f4 g0 g1 g2 g3 g4
              obtain ⟨⟨c0, c1, c2, c3, c4⟩, k0, k1, k2, k3, k4⟩ := Box.five HP13.out.1
              obtain ⟨e0, e1⟩ := HP13.out.2.2.2.2.2.1
              unfold sentV at e0
              go_wp2_with fail
              go_region
              all_goals
                go_wp2_with fail
                refine bodyPost_ret (v := .tuple #[.agg #[.int .i64 0, .int .i64 0, .bool false, .bool false, .int .i64 0], .iface 171 (.pointer (some a))]) (by simp [results, Tryz.results91, go_sem, c0, c1, c2, c3, c4]) rfl ?_
                refine ⟨.inr ⟨Hr.out, rfl⟩, ?_⟩
                first
                  | exact (((((HP13.out.2.2.2.2.1.setCell (by simp) _).setCell (by simp) _).setCell (by simp) _).setCell (by simp) _).setCell (by simp) _).drew
                  | exact (((((HP13.out.2.2.2.2.1.drew.setCell (by simp) _).setCell (by simp) _).setCell (by simp) _).setCell (by simp) _).setCell (by simp) _)
          | y :: t, HP8, HS8, HR, HN, Hmem =>
            have hn81 : 0 < n8 := by have := HS8.out.1; simp at this; omega
            have hn8i : (0 : Int) < (n8 : Int) := by omega
            obtain ⟨x, hx⟩ : ∃ x : Int, ((parse 999999999 y).1 : Int) = x := ⟨_, rfl⟩
            obtain ⟨r, hr⟩ : ∃ r, t = r := ⟨_, rfl⟩
            have Hx : Hid (refW 8 (y :: t) = (x, r)) := Lib.hid (by unfold refW; rw [if_pos rfl]; simp only [hx, hr])
            obtain ⟨by', hby⟩ : ∃ b, (parse 999999999 y).2 = b := ⟨_, rfl⟩
            obtain ⟨sy, hsy⟩ : ∃ s : ByteArray, s = ⟨y.toArray⟩ := ⟨_, rfl⟩
            have HNy : Hid (∀ wx, Calls Tryz.prog 70 #[.string sy] wx fun e w' => e = .returned (.tuple #[.int .i64 x, .bool by']) ∧ Below wx.heap.size wx w') := Lib.hid fun wx => by
              have h := number_any sy wx (by have := Hmem.out y (by simp); rw [hsy]; simp [ByteArray.size]; omega)
              rw [show sy.data.toList = y by rw [hsy], hx, hby] at h
              exact h
            obtain ⟨b8, o8, rfl, hb8, hcs8⟩ := HS8.out.cells hn81
            have q8 := hcs8 0 (by simp)
            simp only [List.getElem_cons_zero, Nat.add_zero] at q8
            rw [← hsy] at q8
            have hcap8 := HS8.out.2.1
            clear hcs8 hx hby hsy
            obtain ⟨⟨f0, f1, f2, f3, f4⟩, g0, g1, g2, g3, g4⟩ := Box.five HP8.out.2.1
            go_wp2_with fail
            refine (HNy.out _).mono ?_
            rintro e w8 ⟨rfl, hb9⟩
            have HP9 := Lib.hid (HP8.out.all hb9)
            clear HP8 HS8 hb9 q8 f0 f1 f2 f3 f4 g0 g1 g2 g3 g4 HNy
            obtain ⟨⟨f0, f1, f2, f3, f4⟩, g0, g1, g2, g3, g4⟩ := Box.five HP9.out.2.1
            go_upto_region 9 with fail
            have HP9' : Hid (PSt a w (w8.setCell ⟨gf, 4, none⟩ (.int .i64 x)) w2.heap.size gf (nh, 8, false, false, x) (.slice (some ⟨b8, o8, none⟩) n8 c8) (y :: t)) := Lib.hid (HP9.out.set 4 _ _ rfl)
            clear HP9 f0 f1 f2 f3 f4 g0 g1 g2 g3 g4
            generalize w8.setCell ⟨gf, 4, none⟩ (.int .i64 x) = w9 at HP9' ⊢
            have hS9 : SlS w9 w2.heap.size (some ⟨b8, o8, none⟩) n8 c8 (y :: t) := by
              obtain ⟨_, _, _, _, _, _, p, n, c, e, _, hS⟩ := HP9'.out
              injection e with e1 e2 e3
              subst e1 e2 e3
              exact hS
            have hf9 := hS9.from 1 hn81
            rw [show List.drop 1 (y :: t) = t from rfl, hr] at hf9
            go_cut [4] (fun s4 wx => Hid (PSt a w wx w2.heap.size gf (nh, 8, false, false, x) s4 r))
            case first =>
              have hn1i : (1 : Int) ≤ (n8 : Int) := by omega
              by_cases hc2 : c8 = 1
              · subst hc2
                obtain rfl : n8 = 1 := by omega
                rw [if_pos rfl] at hf9
                simp only [Nat.sub_self] at hf9
                have HE := Lib.hid (HP9'.out.words (by omega) hf9)
                clear hS9 hf9 HP9'
                go_wp2_with fail
                go_meet
                exact HE
              · rw [if_neg hc2, show (some (⟨b8, o8, none⟩ : Addr)).map (·.add (1 * 1)) = some ⟨b8, o8 + 1, none⟩ from rfl] at hf9
                have HE := Lib.hid (HP9'.out.words (by omega) hf9)
                have hc3 : c8 - 1 ≠ 0 := by omega
                clear hS9 hf9 HP9'
                go_wp2_with fail
                go_meet
                exact HE
            case rest =>
              have HPr := hcut
              obtain ⟨p9, n9, c9, rfl, hnr, hSr⟩ := HPr.out.2.2.2.2.2.2
              have HSr := Lib.hid hSr
              clear hcut HP9' hf9 hS9 hSr hr
              obtain ⟨⟨f0, f1, f2, f3, f4⟩, g0, g1, g2, g3, g4⟩ := Box.five HPr.out.2.1
              go_wp2_with fail
              obtain ⟨a1, r1, ha1⟩ : ∃ a1 r1, takeR repW r = (a1, r1) := ⟨_, _, rfl⟩
              obtain ⟨b1, r2, hb1⟩ : ∃ b1 r2, takeR packW r1 = (b1, r2) := ⟨_, _, rfl⟩
              have HT1 : Hid (∀ (wx : World) (p : Option Addr) (n c : Nat), SlS wx w2.heap.size p n c r → n ≤ 1048577 → Calls Tryz.prog 105 #[.slice p n c, .string ⟨#[114, 101, 112, 101, 97, 116, 101, 100]⟩] wx fun e w' => ∃ p' n' cap', e = .returned (.tuple #[.bool a1, .slice p' n' cap']) ∧ n' ≤ 1048577 ∧ SlS w' w2.heap.size p' n' cap' r1 ∧ Below wx.heap.size wx w') := Lib.hid fun wx p n c hS hn => by
                have h := takeWord_any w2.heap.size p n c r ⟨#[114, 101, 112, 101, 97, 116, 101, 100]⟩ wx hS hn
                rw [show (⟨#[114, 101, 112, 101, 97, 116, 101, 100]⟩ : ByteArray).data.toList = repW from rfl, ha1] at h
                simp only at h
                exact h
              have HT2 : Hid (∀ (wx : World) (p : Option Addr) (n c : Nat), SlS wx w2.heap.size p n c r1 → n ≤ 1048577 → Calls Tryz.prog 105 #[.slice p n c, .string ⟨#[112, 97, 99, 107, 101, 100]⟩] wx fun e w' => ∃ p' n' cap', e = .returned (.tuple #[.bool b1, .slice p' n' cap']) ∧ n' ≤ 1048577 ∧ SlS w' w2.heap.size p' n' cap' r2 ∧ Below wx.heap.size wx w') := Lib.hid fun wx p n c hS hn => by
                have h := takeWord_any w2.heap.size p n c r1 ⟨#[112, 97, 99, 107, 101, 100]⟩ wx hS hn
                rw [show (⟨#[112, 97, 99, 107, 101, 100]⟩ : ByteArray).data.toList = packW from rfl, hb1] at h
                simp only at h
                exact h
              have Hpt : Hid (parseT h k (y :: t) = ((nh, 8, a1, b1, x), r2)) := Lib.hid (by
                unfold parseT
                simp only [HK.out, Hnh.out, Hx.out, ha1, hb1])
              clear ha1 hb1 Hx
              refine (HT1.out _ _ _ _ HSr.out hnr).mono ?_
              rintro e w10 ⟨p10, n10, c10, rfl, hn10, hS10, hb10⟩
              have HP10 := Lib.hid ((HPr.out.all hb10).words hn10 hS10)
              clear HPr HSr hnr hS10 hb10 f0 f1 f2 f3 f4 g0 g1 g2 g3 g4 HT1
              obtain ⟨⟨f0, f1, f2, f3, f4⟩, g0, g1, g2, g3, g4⟩ := Box.five HP10.out.2.1
              go_upto_region 11 with fail
              have HP11 : Hid (PSt a w (w10.setCell ⟨gf, 2, none⟩ (.bool a1)) w2.heap.size gf (nh, 8, a1, false, x) (.slice p10 n10 c10) r1) := Lib.hid (HP10.out.set 2 _ _ rfl)
              clear HP10 f0 f1 f2 f3 f4 g0 g1 g2 g3 g4
              generalize w10.setCell ⟨gf, 2, none⟩ (.bool a1) = w11 at HP11 ⊢
              have HS11 : Hid (SlS w11 w2.heap.size p10 n10 c10 r1) := Lib.hid (by
                obtain ⟨_, _, _, _, _, _, p, n, c, e, _, hS⟩ := HP11.out
                injection e with e1 e2 e3
                subst e1 e2 e3
                exact hS)
              go_wp2_with fail
              refine (HT2.out _ _ _ _ HS11.out hn10).mono ?_
              rintro e w12 ⟨p12, n12, c12, rfl, hn12, hS12, hb12⟩
              have HP12 := Lib.hid ((HP11.out.all hb12).words hn12 hS12)
              have hl12 : r2.length = n12 := hS12.1
              clear HP11 HS11 hn10 hS12 hb12 HT2
              obtain ⟨⟨f0, f1, f2, f3, f4⟩, g0, g1, g2, g3, g4⟩ := Box.five HP12.out.2.1
              go_upto_region 12 with fail
              have HP13 : Hid (PSt a w (w12.setCell ⟨gf, 3, none⟩ (.bool b1)) w2.heap.size gf (nh, 8, a1, b1, x) (.slice p12 n12 c12) r2) := Lib.hid (HP12.out.set 3 _ _ rfl)
              clear HP12 f0 f1 f2 f3 f4 g0 g1 g2 g3 g4
              generalize w12.setCell ⟨gf, 3, none⟩ (.bool b1) = w13 at HP13 ⊢
              obtain ⟨⟨f0, f1, f2, f3, f4⟩, g0, g1, g2, g3, g4⟩ := Box.five HP13.out.2.1
              by_cases h0 : r2 = []
              · obtain rfl : n12 = 0 := by rw [← hl12, h0]; rfl
                have HH := Lib.hid (implHasText_any (nh, 8, a1, b1, x))
                by_cases ht : hasText (nh, 8, a1, b1, x)
                · rw [decide_eq_true ht] at HH
                  have Hr : Hid (R = some (nh, 8, a1, b1, x)) := Lib.hid (by rw [← HR.out]; unfold parseW; simp only; rw [Hpt.out]; rw [if_pos ⟨h0, ht⟩])
                  unfold fieldV at HH
                  simp only at HH
                  clear h0 ht Hpt HR hl12
                  go_wp2_with fail
                  refine (HH.out _).mono ?_
                  rintro e w14 ⟨rfl, hb14⟩
                  have HP14 := Lib.hid (HP13.out.all hb14)
                  clear HP13 hb14 f0 f1 f2 f3 f4 g0 g1 g2 g3 g4 HH
                  obtain ⟨⟨f0, f1, f2, f3, f4⟩, g0, g1, g2, g3, g4⟩ := Box.five HP14.out.2.1
                  obtain ⟨⟨c0, c1, c2, c3, c4⟩, k0, k1, k2, k3, k4⟩ := Box.five HP14.out.1
                  go_wp2_with fail
                  refine bodyPost_ret (v := .tuple #[.agg #[.int .i64 nh, .int .i64 8, .bool a1, .bool b1, .int .i64 x], .nilIface]) (by simp [results, Tryz.results91, go_sem, c0, c1, c2, c3, c4]) rfl ?_
                  exact ⟨.inl ⟨_, Hr.out, rfl⟩, (((((HP14.out.2.2.2.2.1.setCell (by simp) _).setCell (by simp) _).setCell (by simp) _).setCell (by simp) _).setCell (by simp) _)⟩
                · rw [decide_eq_false ht] at HH
                  have Hr : Hid (R = none) := Lib.hid (by rw [← HR.out]; unfold parseW; simp only; rw [Hpt.out]; rw [if_neg fun e => ht e.2])
                  unfold fieldV at HH
                  simp only at HH
                  clear h0 ht Hpt HR hl12
                  go_wp2_with fail
                  refine (HH.out _).mono ?_
                  rintro e w14 ⟨rfl, hb14⟩
                  have HP14 := Lib.hid (HP13.out.all hb14)
                  clear HP13 hb14 f0 f1 f2 f3 f4 g0 g1 g2 g3 g4 HH
                  obtain ⟨⟨c0, c1, c2, c3, c4⟩, k0, k1, k2, k3, k4⟩ := Box.five HP14.out.1
                  obtain ⟨e0, e1⟩ := HP14.out.2.2.2.2.2.1
                  unfold sentV at e0
                  go_wp2_with fail
                  go_region
                  all_goals
                    go_wp2_with fail
                    refine bodyPost_ret (v := .tuple #[.agg #[.int .i64 0, .int .i64 0, .bool false, .bool false, .int .i64 0], .iface 171 (.pointer (some a))]) (by simp [results, Tryz.results91, go_sem, c0, c1, c2, c3, c4]) rfl ?_
                    refine ⟨.inr ⟨Hr.out, rfl⟩, ?_⟩
                    first
                      | exact (((((HP14.out.2.2.2.2.1.setCell (by simp) _).setCell (by simp) _).setCell (by simp) _).setCell (by simp) _).setCell (by simp) _).drew
                      | exact (((((HP14.out.2.2.2.2.1.drew.setCell (by simp) _).setCell (by simp) _).setCell (by simp) _).setCell (by simp) _).setCell (by simp) _)
              · have hp12 : 0 < n12 := by rw [← hl12]; exact List.length_pos_iff.2 h0
                have Hr : Hid (R = none) := Lib.hid (by rw [← HR.out]; unfold parseW; simp only; rw [Hpt.out]; rw [if_neg fun e => h0 e.1])
                have hp12i : (0 : Int) < (n12 : Int) := by omega
                clear h0 Hpt HR hl12 f0 f1 f2 f3 f4 g0 g1 g2 g3 g4
                obtain ⟨⟨c0, c1, c2, c3, c4⟩, k0, k1, k2, k3, k4⟩ := Box.five HP13.out.1
                obtain ⟨e0, e1⟩ := HP13.out.2.2.2.2.2.1
                unfold sentV at e0
                go_wp2_with fail
                go_region
                all_goals
                  go_wp2_with fail
                  refine bodyPost_ret (v := .tuple #[.agg #[.int .i64 0, .int .i64 0, .bool false, .bool false, .int .i64 0], .iface 171 (.pointer (some a))]) (by simp [results, Tryz.results91, go_sem, c0, c1, c2, c3, c4]) rfl ?_
                  refine ⟨.inr ⟨Hr.out, rfl⟩, ?_⟩
                  first
                    | exact (((((HP13.out.2.2.2.2.1.setCell (by simp) _).setCell (by simp) _).setCell (by simp) _).setCell (by simp) _).setCell (by simp) _).drew
                    | exact (((((HP13.out.2.2.2.2.1.drew.setCell (by simp) _).setCell (by simp) _).setCell (by simp) _).setCell (by simp) _).setCell (by simp) _)
        · have h8b : (K == 8) = false := eqF h8
          have Hx : Hid (refW K t = (0, t)) := Lib.hid (by unfold refW; rw [if_neg h8])
          have HPr := HP8
          have HSr := HS8
          have hnr := hn8
          clear HP8 HS8 hn8 h8
          obtain ⟨⟨f0, f1, f2, f3, f4⟩, g0, g1, g2, g3, g4⟩ := Box.five HPr.out.2.1
          go_wp2_with fail
          obtain ⟨a1, r1, ha1⟩ : ∃ a1 r1, takeR repW t = (a1, r1) := ⟨_, _, rfl⟩
          obtain ⟨b1, r2, hb1⟩ : ∃ b1 r2, takeR packW r1 = (b1, r2) := ⟨_, _, rfl⟩
          have HT1 : Hid (∀ (wx : World) (p : Option Addr) (n c : Nat), SlS wx w2.heap.size p n c t → n ≤ 1048577 → Calls Tryz.prog 105 #[.slice p n c, .string ⟨#[114, 101, 112, 101, 97, 116, 101, 100]⟩] wx fun e w' => ∃ p' n' cap', e = .returned (.tuple #[.bool a1, .slice p' n' cap']) ∧ n' ≤ 1048577 ∧ SlS w' w2.heap.size p' n' cap' r1 ∧ Below wx.heap.size wx w') := Lib.hid fun wx p n c hS hn => by
            have h := takeWord_any w2.heap.size p n c t ⟨#[114, 101, 112, 101, 97, 116, 101, 100]⟩ wx hS hn
            rw [show (⟨#[114, 101, 112, 101, 97, 116, 101, 100]⟩ : ByteArray).data.toList = repW from rfl, ha1] at h
            simp only at h
            exact h
          have HT2 : Hid (∀ (wx : World) (p : Option Addr) (n c : Nat), SlS wx w2.heap.size p n c r1 → n ≤ 1048577 → Calls Tryz.prog 105 #[.slice p n c, .string ⟨#[112, 97, 99, 107, 101, 100]⟩] wx fun e w' => ∃ p' n' cap', e = .returned (.tuple #[.bool b1, .slice p' n' cap']) ∧ n' ≤ 1048577 ∧ SlS w' w2.heap.size p' n' cap' r2 ∧ Below wx.heap.size wx w') := Lib.hid fun wx p n c hS hn => by
            have h := takeWord_any w2.heap.size p n c r1 ⟨#[112, 97, 99, 107, 101, 100]⟩ wx hS hn
            rw [show (⟨#[112, 97, 99, 107, 101, 100]⟩ : ByteArray).data.toList = packW from rfl, hb1] at h
            simp only at h
            exact h
          have Hpt : Hid (parseT h k t = ((nh, K, a1, b1, 0), r2)) := Lib.hid (by
            unfold parseT
            simp only [HK.out, Hnh.out, Hx.out, ha1, hb1])
          clear ha1 hb1 Hx
          refine (HT1.out _ _ _ _ HSr.out hnr).mono ?_
          rintro e w10 ⟨p10, n10, c10, rfl, hn10, hS10, hb10⟩
          have HP10 := Lib.hid ((HPr.out.all hb10).words hn10 hS10)
          clear HPr HSr hnr hS10 hb10 f0 f1 f2 f3 f4 g0 g1 g2 g3 g4 HT1
          obtain ⟨⟨f0, f1, f2, f3, f4⟩, g0, g1, g2, g3, g4⟩ := Box.five HP10.out.2.1
          go_upto_region 11 with fail
          have HP11 : Hid (PSt a w (w10.setCell ⟨gf, 2, none⟩ (.bool a1)) w2.heap.size gf (nh, K, a1, false, 0) (.slice p10 n10 c10) r1) := Lib.hid (HP10.out.set 2 _ _ rfl)
          clear HP10 f0 f1 f2 f3 f4 g0 g1 g2 g3 g4
          generalize w10.setCell ⟨gf, 2, none⟩ (.bool a1) = w11 at HP11 ⊢
          have HS11 : Hid (SlS w11 w2.heap.size p10 n10 c10 r1) := Lib.hid (by
            obtain ⟨_, _, _, _, _, _, p, n, c, e, _, hS⟩ := HP11.out
            injection e with e1 e2 e3
            subst e1 e2 e3
            exact hS)
          go_wp2_with fail
          refine (HT2.out _ _ _ _ HS11.out hn10).mono ?_
          rintro e w12 ⟨p12, n12, c12, rfl, hn12, hS12, hb12⟩
          have HP12 := Lib.hid ((HP11.out.all hb12).words hn12 hS12)
          have hl12 : r2.length = n12 := hS12.1
          clear HP11 HS11 hn10 hS12 hb12 HT2
          obtain ⟨⟨f0, f1, f2, f3, f4⟩, g0, g1, g2, g3, g4⟩ := Box.five HP12.out.2.1
          go_upto_region 12 with fail
          have HP13 : Hid (PSt a w (w12.setCell ⟨gf, 3, none⟩ (.bool b1)) w2.heap.size gf (nh, K, a1, b1, 0) (.slice p12 n12 c12) r2) := Lib.hid (HP12.out.set 3 _ _ rfl)
          clear HP12 f0 f1 f2 f3 f4 g0 g1 g2 g3 g4
          generalize w12.setCell ⟨gf, 3, none⟩ (.bool b1) = w13 at HP13 ⊢
          obtain ⟨⟨f0, f1, f2, f3, f4⟩, g0, g1, g2, g3, g4⟩ := Box.five HP13.out.2.1
          by_cases h0 : r2 = []
          · obtain rfl : n12 = 0 := by rw [← hl12, h0]; rfl
            have HH := Lib.hid (implHasText_any (nh, K, a1, b1, 0))
            by_cases ht : hasText (nh, K, a1, b1, 0)
            · rw [decide_eq_true ht] at HH
              have Hr : Hid (R = some (nh, K, a1, b1, 0)) := Lib.hid (by rw [← HR.out]; unfold parseW; simp only; rw [Hpt.out]; rw [if_pos ⟨h0, ht⟩])
              unfold fieldV at HH
              simp only at HH
              clear h0 ht Hpt HR hl12
              go_wp2_with fail
              refine (HH.out _).mono ?_
              rintro e w14 ⟨rfl, hb14⟩
              have HP14 := Lib.hid (HP13.out.all hb14)
              clear HP13 hb14 f0 f1 f2 f3 f4 g0 g1 g2 g3 g4 HH
              obtain ⟨⟨f0, f1, f2, f3, f4⟩, g0, g1, g2, g3, g4⟩ := Box.five HP14.out.2.1
              obtain ⟨⟨c0, c1, c2, c3, c4⟩, k0, k1, k2, k3, k4⟩ := Box.five HP14.out.1
              go_wp2_with fail
              refine bodyPost_ret (v := .tuple #[.agg #[.int .i64 nh, .int .i64 K, .bool a1, .bool b1, .int .i64 0], .nilIface]) (by simp [results, Tryz.results91, go_sem, c0, c1, c2, c3, c4]) rfl ?_
              exact ⟨.inl ⟨_, Hr.out, rfl⟩, (((((HP14.out.2.2.2.2.1.setCell (by simp) _).setCell (by simp) _).setCell (by simp) _).setCell (by simp) _).setCell (by simp) _)⟩
            · rw [decide_eq_false ht] at HH
              have Hr : Hid (R = none) := Lib.hid (by rw [← HR.out]; unfold parseW; simp only; rw [Hpt.out]; rw [if_neg fun e => ht e.2])
              unfold fieldV at HH
              simp only at HH
              clear h0 ht Hpt HR hl12
              go_wp2_with fail
              refine (HH.out _).mono ?_
              rintro e w14 ⟨rfl, hb14⟩
              have HP14 := Lib.hid (HP13.out.all hb14)
              clear HP13 hb14 f0 f1 f2 f3 f4 g0 g1 g2 g3 g4 HH
              obtain ⟨⟨c0, c1, c2, c3, c4⟩, k0, k1, k2, k3, k4⟩ := Box.five HP14.out.1
              obtain ⟨e0, e1⟩ := HP14.out.2.2.2.2.2.1
              unfold sentV at e0
              go_wp2_with fail
              go_region
              all_goals
                go_wp2_with fail
                refine bodyPost_ret (v := .tuple #[.agg #[.int .i64 0, .int .i64 0, .bool false, .bool false, .int .i64 0], .iface 171 (.pointer (some a))]) (by simp [results, Tryz.results91, go_sem, c0, c1, c2, c3, c4]) rfl ?_
                refine ⟨.inr ⟨Hr.out, rfl⟩, ?_⟩
                first
                  | exact (((((HP14.out.2.2.2.2.1.setCell (by simp) _).setCell (by simp) _).setCell (by simp) _).setCell (by simp) _).setCell (by simp) _).drew
                  | exact (((((HP14.out.2.2.2.2.1.drew.setCell (by simp) _).setCell (by simp) _).setCell (by simp) _).setCell (by simp) _).setCell (by simp) _)
          · have hp12 : 0 < n12 := by rw [← hl12]; exact List.length_pos_iff.2 h0
            have Hr : Hid (R = none) := Lib.hid (by rw [← HR.out]; unfold parseW; simp only; rw [Hpt.out]; rw [if_neg fun e => h0 e.1])
            have hp12i : (0 : Int) < (n12 : Int) := by omega
            clear h0 Hpt HR hl12 f0 f1 f2 f3 f4 g0 g1 g2 g3 g4
            obtain ⟨⟨c0, c1, c2, c3, c4⟩, k0, k1, k2, k3, k4⟩ := Box.five HP13.out.1
            obtain ⟨e0, e1⟩ := HP13.out.2.2.2.2.2.1
            unfold sentV at e0
            go_wp2_with fail
            go_region
            all_goals
              go_wp2_with fail
              refine bodyPost_ret (v := .tuple #[.agg #[.int .i64 0, .int .i64 0, .bool false, .bool false, .int .i64 0], .iface 171 (.pointer (some a))]) (by simp [results, Tryz.results91, go_sem, c0, c1, c2, c3, c4]) rfl ?_
              refine ⟨.inr ⟨Hr.out, rfl⟩, ?_⟩
              first
                | exact (((((HP13.out.2.2.2.2.1.setCell (by simp) _).setCell (by simp) _).setCell (by simp) _).setCell (by simp) _).setCell (by simp) _).drew
                | exact (((((HP13.out.2.2.2.2.1.drew.setCell (by simp) _).setCell (by simp) _).setCell (by simp) _).setCell (by simp) _).setCell (by simp) _)
end Go.Proofs.YtcbohfncckpolaaGreatDoor.Num
