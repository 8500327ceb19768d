/-
  The walks of the reference's l8FieldOk and SchemaOk: they give what the plain definitions here say; only new memory is written.
-/
import Derived.Test.YtcbohfncckpolaaDoorShape
import Derived.Test.YtcbohfncckpolaaDoorTag
import Derived.Deep.RegionWith
import Derived.Deep.DeepCutAuto
import Derived.Deep.QuietTactic
import Derived.Deep.RegionHeld3
import Derived.BigQuiet
namespace Go.Proofs.YtcbohfncckpolaaDoor.Num
open Go.RowKit Go.Proofs
set_option linter.unusedVariables false
set_option linter.unusedSimpArgs false

def fieldOkB (n : Nat) (f : RF) : Bool :=
  if numOkB f.1 = false then false else if ¬ (1 ≤ f.2.1 ∧ f.2.1 ≤ 8) then false
  else if f.2.2.2.1 = true ∧ (f.2.2.1 = false ∨ numericB f.2.1 = false) then false
  else if f.2.1 = 8 then decide (0 ≤ f.2.2.2.2 ∧ f.2.2.2.2 ≤ (n : Int) - 1) else f.2.2.2.2 == -1
def fieldGood (n : Nat) (l : List RF) (k : Nat) (f : RF) : Prop := fieldOkB n f = true ∧ ∀ p (hp : p < l.length), p + 1 = k → l[p].1 < f.1
def shapeGood (s : List RM) (i : Nat) (m : RM) : Prop := (1 ≤ m.1 ∧ m.1 ≤ 99) ∧ (∀ p (hp : p < s.length), p + 1 = i → s[p].1 < m.1) ∧ m.2.length ≤ 8 ∧ ∀ k (hk : k < m.2.length), fieldGood s.length m.2 k m.2[k]
def SchemaP (s : List RM) : Prop := s.length ≤ 6 ∧ ∀ i (hi : i < s.length), shapeGood s i s[i]
noncomputable def schemaB (s : List RM) : Bool := @decide (SchemaP s) (Classical.propDecidable _)
theorem schema_yes {s : List RM} (h : SchemaP s) : schemaB s = true := by unfold schemaB; exact @decide_eq_true _ (Classical.propDecidable _) h
theorem schema_no {s : List RM} (h : ¬ SchemaP s) : schemaB s = false := by unfold schemaB; exact @decide_eq_false _ (Classical.propDecidable _) h
end Go.Proofs.YtcbohfncckpolaaDoor.Num
