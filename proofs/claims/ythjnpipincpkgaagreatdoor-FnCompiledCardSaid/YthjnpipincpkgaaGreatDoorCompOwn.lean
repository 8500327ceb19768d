/-
  What Compile gives, at a violation or none, as a schema in memory of its own; and what the exact law on it holds beside its calls. For any program.
-/
import Derived.Test.YthjnpipincpkgaaGreatDoorFirst
import Derived.Test.YthjnpipincpkgaaGreatDoorCompMath
import Derived.Test.YthjnpipincpkgaaGreatDoorZone
import Derived.Test.YthjnpipincpkgaaGreatDoorPushWith
namespace Go.Proofs.YthjnpipincpkgaaGreatDoor.Num
open Go.RowKit Go.Proofs
set_option linter.unusedVariables false

/-- What Compile gives: the schema (a Value) and the violation, as the description is. -/
def Compiled (w w' : World) (r : List RM) (f : Int × Int × Int) (u : Value) : Prop :=
  First r f ∧ ((f.1 ≠ 0 ∧ u = .slice none 0 0) ∨ (f.1 = 0 ∧ ∃ ms, plain ms = compileR r ∧ OwnIn w' w.heap.size w'.heap.size u ms))
/-- The same, its rows owned, with their types: so that more can be appended. -/
def CompiledO (w w' : World) (TM TF : TypeId) (r : List RM) (f : Int × Int × Int) (u : Value) : Prop :=
  First r f ∧ ((f.1 ≠ 0 ∧ u = .slice none 0 0) ∨ (f.1 = 0 ∧ ∃ ms, plain ms = compileR r ∧ OwnRaw w' w.heap.size TM TF u ms))
theorem CompiledO.plain {w w' : World} {TM TF : TypeId} {r : List RM} {f : Int × Int × Int} {u : Value} (h : CompiledO w w' TM TF r f u) : Compiled w w' r f u :=
  ⟨h.1, h.2.imp id fun ⟨h0, ms, hp, ho⟩ => ⟨h0, ms, hp, ho.inZone⟩⟩
theorem OwnRaw.base {w : World} {B B' : Nat} {TM TF : TypeId} {v : Value} {ms : List OM} (h : OwnRaw w B TM TF v ms) (hB : B' ≤ B) : OwnRaw w B' TM TF v ms :=
  ⟨ownsRow_base h.row hB, fun i hi => ownsRow_base (h.fields i hi) hB, h.apart, h.each⟩
/-- The schema that Compile gives, told by a list. -/
def resS (r : List RM) (f : Int × Int × Int) : List RM := if f.1 = 0 then compileR r else []
theorem ownIn_nil (w : World) (lo hi : Nat) : OwnIn w lo hi (.slice none 0 0) [] :=
  ⟨fun b hb => (by cases hb), fun j hj => (by simp at hj), .inl ⟨rfl, _, _, rfl⟩, .inl ⟨rfl, rfl⟩⟩
theorem Compiled.own {w w' : World} {r : List RM} {f : Int × Int × Int} {u : Value} (h : Compiled w w' r f u) : First r f ∧ ∃ ms, plain ms = resS r f ∧ OwnIn w' w.heap.size w'.heap.size u ms := by
  obtain ⟨hf, hu⟩ := h
  refine ⟨hf, ?_⟩
  unfold resS
  rcases hu with ⟨h0, rfl⟩ | ⟨h0, ms, hp, ho⟩
  · rw [if_neg h0]; exact ⟨[], rfl, ownIn_nil _ _ _⟩
  · rw [if_pos h0]; exact ⟨ms, hp, ho⟩
theorem comp_small {r : List RM} {N : Nat} (h : ∀ m ∈ r, m.2.length ≤ N) : ∀ (l acc : List RM), (∀ m ∈ l, m.2.length ≤ N) → (∀ m ∈ acc, m.2.length ≤ N) → ∀ m ∈ l.foldl (compStep r) acc, m.2.length ≤ N
  | [], acc, _, ha => ha
  | x :: l, acc, hl, ha => by
    rw [List.foldl_cons]
    refine comp_small h l _ (fun m hm => hl m (List.mem_cons_of_mem _ hm)) fun m hm => ?_
    unfold compStep at hm
    rcases List.mem_or_eq_of_mem_set hm with h1 | h1
    · exact ha m h1
    · subst h1; simp only; rw [compFs_len]; exact hl x List.mem_cons_self
theorem small_res {r : List RM} {f : Int × Int × Int} (h : Small r) : Small (resS r f) := by
  unfold resS
  split
  · refine ⟨by rw [compileR_len]; exact h.1, ?_⟩
    unfold compileR
    refine comp_small h.2 r _ h.2 fun m hm => ?_
    rw [List.eq_of_mem_replicate hm]
    simp
  · exact ⟨by simp, fun m hm => by simp at hm⟩
/-- What the exact law holds: the argument, the reference's answer, the call's argument and its answer, each where it lies. -/
structure LC (w : World) (gA gW loX gX gG : Nat) (uA : Value) (t : List RM) (uW : Value) (rs : List RM) (uX : Value) (mx : List OM) (uG : Value) (mg : List OM) (F1 F2 F3 : Int) : Prop where
  A : Holds w gA gA uA t
  W : Holds w gW gW uW rs
  V : Box w (gW + 1) [.int .i64 F1, .int .i64 F2, .int .i64 F3]
  X : Box w gX [uX]
  OX : OwnIn w loX gX uX mx
  G : Box w gG [uG]
  U : Box w (gG + 1) [.int .i64 F1, .int .i64 F2, .int .i64 F3]
  OG : OwnIn w (gX + 1) gG uG mg
  lt : gA < loX ∧ gW + 1 < loX ∧ loX ≤ gX ∧ gX + 1 ≤ gG ∧ gG + 2 ≤ w.heap.size
section
variable {w w' : World} {gA gW loX gX gG : Nat} {uA : Value} {t : List RM} {uW : Value} {rs : List RM} {uX : Value} {mx : List OM} {uG : Value} {mg : List OM} {F1 F2 F3 : Int}
theorem LC.below (h : LC w gA gW loX gX gG uA t uW rs uX mx uG mg F1 F2 F3) (hb : Below w.heap.size w w') : LC w' gA gW loX gX gG uA t uW rs uX mx uG mg F1 F2 F3 := by
  have hl := h.lt
  have hs := hb.size
  exact ⟨h.A.all hb, h.W.all hb, h.V.below hb h.V.1, h.X.below hb h.X.1, h.OX.below hb (by omega), h.G.below hb h.G.1, h.U.below hb h.U.1, h.OG.below hb (by omega), by omega⟩
theorem LC.drew (h : LC w gA gW loX gX gG uA t uW rs uX mx uG mg F1 F2 F3) : LC w.drew gA gW loX gX gG uA t uW rs uX mx uG mg F1 F2 F3 :=
  ⟨h.A, h.W, h.V, h.X, h.OX.drew, h.G, h.U, h.OG.drew, h.lt⟩
/-- The same without the call's own argument (it has been marked). -/
structure LD (w : World) (gA gW gX gG : Nat) (uA : Value) (t : List RM) (uW : Value) (rs : List RM) (uG : Value) (mg : List OM) (F1 F2 F3 : Int) : Prop where
  A : Holds w gA gA uA t
  W : Holds w gW gW uW rs
  V : Box w (gW + 1) [.int .i64 F1, .int .i64 F2, .int .i64 F3]
  G : Box w gG [uG]
  U : Box w (gG + 1) [.int .i64 F1, .int .i64 F2, .int .i64 F3]
  OG : OwnIn w (gX + 1) gG uG mg
  lt : gA ≤ gX ∧ gW + 1 ≤ gX ∧ gX + 1 ≤ gG ∧ gG + 2 ≤ w.heap.size
theorem LC.marked (h : LC w gA gW loX gX gG uA t uW rs uX mx uG mg F1 F2 F3) (hz : Zone loX gX w w') : LD w' gA gW gX gG uA t uW rs uG mg F1 F2 F3 := by
  have hl := h.lt
  have hs := hz.size
  exact ⟨h.A.zone hz (by omega) (by omega), h.W.zone hz (by omega) (by omega), h.V.zone hz (by omega), h.G.zone hz (by omega), h.U.zone hz (by omega), h.OG.zone hz (by omega) (by omega), by omega⟩
theorem LD.below (h : LD w gA gW gX gG uA t uW rs uG mg F1 F2 F3) (hb : Below w.heap.size w w') : LD w' gA gW gX gG uA t uW rs uG mg F1 F2 F3 := by
  have hl := h.lt
  have hs := hb.size
  exact ⟨h.A.all hb, h.W.all hb, h.V.below hb h.V.1, h.G.below hb h.G.1, h.U.below hb h.U.1, h.OG.below hb (by omega), by omega⟩
/-- The same, the answer marked too. -/
structure LE (w : World) (gA gW gX gG : Nat) (uA : Value) (t : List RM) (uW : Value) (rs : List RM) (uG : Value) (mg : List OM) (F1 F2 F3 : Int) : Prop where
  A : Holds w gA gA uA t
  W : Holds w gW gW uW rs
  V : Box w (gW + 1) [.int .i64 F1, .int .i64 F2, .int .i64 F3]
  G : Box w gG [uG]
  OG : MarkedIn w (gX + 1) gG uG 1 mg
  lt : gA ≤ gX ∧ gW + 1 ≤ gX ∧ gX + 1 ≤ gG ∧ gG + 2 ≤ w.heap.size
theorem LD.marked (h : LD w gA gW gX gG uA t uW rs uG mg F1 F2 F3) (hz : Zone (gX + 1) gG w w') (hm : MarkedIn w' (gX + 1) gG uG 1 mg) : LE w' gA gW gX gG uA t uW rs uG mg F1 F2 F3 := by
  have hl := h.lt
  have hs := hz.size
  exact ⟨h.A.zone hz (by omega) (by omega), h.W.zone hz (by omega) (by omega), h.V.zone hz (by omega), h.G.zone hz (by omega), hm, by omega⟩
theorem LE.below (h : LE w gA gW gX gG uA t uW rs uG mg F1 F2 F3) (hb : Below w.heap.size w w') : LE w' gA gW gX gG uA t uW rs uG mg F1 F2 F3 := by
  have hl := h.lt
  have hs := hb.size
  exact ⟨h.A.all hb, h.W.all hb, h.V.below hb h.V.1, h.G.below hb h.G.1, h.OG.below hb (by omega), by omega⟩
end
end Go.Proofs.YthjnpipincpkgaaGreatDoor.Num
