/-
  A scope whose gotos jump ahead only: what holds behind a label is shown once for each jump to it. For any program.
-/
import Derived.ScopeJumps
import Derived.WalkMore
namespace Go.Proofs.Ytpkofbdfnbpfpaa.Num
open Go

/-- As Q; a goto to label l: R l. -/
def aheadOf (R : Nat → Act → World → Prop) (Q : Exit → Act → World → Prop) : Exit → Act → World → Prop
  | .goto l, a, w => R l a w
  | e, a, w => Q e a w
section
variable {P : Program} {Q : Exit → Act → World → Prop} {R : Nat → Act → World → Prop} {a : Act} {w : World}
@[go_sem] theorem aheadOf_normal : aheadOf R Q .normal a w = Q .normal a w := rfl
@[go_sem] theorem aheadOf_exit (id : Nat) : aheadOf R Q (.exit id) a w = Q (.exit id) a w := rfl
@[go_sem] theorem aheadOf_ret : aheadOf R Q .ret a w = Q .ret a w := rfl
@[go_sem] theorem aheadOf_panic (ch : List PanicEntry) : aheadOf R Q (.panic ch) a w = Q (.panic ch) a w := rfl
@[go_sem] theorem aheadOf_goto (l : Nat) : aheadOf R Q (.goto l) a w = R l a w := rfl
/-- What the run does from label l of the code c on. -/
def From (P : Program) (c : Code) (Q : Exit → Act → World → Prop) (l : Nat) (a : Act) (w : World) : Prop := ∃ rest, findLabel c l = some rest ∧ rest.wp P (Exit.noGoto Q) a w
theorem wp_scope_ahead {c : Code} (h : c.wp P (aheadOf (From P c Q) Q) a w) : (Code.scope c).wp P Q a w := by
  intro b k cs
  obtain ⟨e, a₁, w₁, hq, harr⟩ := h b (.inScope c :: k) cs
  cases e with
  | normal => exact ⟨.normal, a₁, w₁, hq, .head step_scope (Steps.trans harr (.one step_inScope))⟩
  | exit id => exact ⟨.exit id, a₁, w₁, hq, fun k' hk => .head step_scope (harr k' (by simp [exitTo, hk]))⟩
  | goto l =>
    obtain ⟨rest, hf, hw⟩ := hq
    have hg : gotoIn l (.inScope c :: k) = some (.code rest :: .inScope c :: k) := by simp [gotoIn, hf]
    have hs := harr _ hg
    obtain ⟨e₂, a₂, w₂, hq₂, harr₂⟩ := hw b (.inScope c :: k) cs
    cases e₂ with
    | normal => exact ⟨.normal, a₂, w₂, hq₂, .head step_scope (Steps.trans hs (Steps.trans harr₂ (.one step_inScope)))⟩
    | exit id => exact ⟨.exit id, a₂, w₂, hq₂, fun k' hk => .head step_scope (Steps.trans hs (harr₂ k' (by simp [exitTo, hk])))⟩
    | goto l' => exact hq₂.elim
    | ret => exact ⟨_, a₂, w₂, hq₂, .of_steps (.head step_scope hs) harr₂⟩
    | panic ch => exact ⟨_, a₂, w₂, hq₂, .of_steps (.head step_scope hs) harr₂⟩
    | outgrown => exact ⟨_, a₂, w₂, hq₂, .of_steps (.head step_scope hs) harr₂⟩
  | ret => exact ⟨_, a₁, w₁, hq, .of_steps (.one step_scope) harr⟩
  | panic ch => exact ⟨_, a₁, w₁, hq, .of_steps (.one step_scope) harr⟩
  | outgrown => exact ⟨_, a₁, w₁, hq, .of_steps (.one step_scope) harr⟩
end
end Go.Proofs.Ytpkofbdfnbpfpaa.Num
