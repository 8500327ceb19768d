/-
  A message that is read, as plain functions: the place, what was told, what went wrong; and how the reference's reader holds it in memory.
-/
import Derived.Test.YtcnpdcmdnmfnaaaGreatPlanS
import Derived.Test.YtcnpdcmdnmfnaaaGreatWithin
import Derived.Test.YtcnpdcmdnmfnaaaGreatOwnEv
import Derived.Test.YtcnpdcmdnmfnaaaGreatTag
import Derived.Test.YtcnpdcmdnmfnaaaGreatShape
namespace Go.Proofs.YtcnpdcmdnmfnaaaGreat.Num
open Go.RowKit Go.Proofs
set_option linter.unusedVariables false
/-- Where a reader stands, what it has told, and how it failed (its kind is 0 as long as it did not). -/
structure RdM where
  place : Nat
  out : List Ev
  fail : Ev
def zeroE : Ev := ⟨0, 0, 0, 0, ⟨#[]⟩, 0, 0⟩
def failE (c a : Int) : Ev := ⟨10, 0, 0, 0, ⟨#[]⟩, c, a⟩
def RdM.bad (r : RdM) (c a : Int) : RdM := { r with fail := failE c a }
def RdM.to (r : RdM) (p : Nat) : RdM := { r with place := p }
def RdM.tell (r : RdM) (e : Ev) : RdM := { r with out := r.out ++ [e] }
def RdM.ok (r : RdM) : Bool := r.fail.kind == 0
/-- A number is read up to a place. -/
def rdVar (s : ByteArray) (E : Int) (r : RdM) : Int × RdM :=
  if (withinR s r.place E).2.2 ≠ 0 then (0, r.bad (withinR s r.place E).2.2 (withinR s r.place E).2.1)
  else ((withinR s r.place E).1, r.to (withinR s r.place E).2.1.toNat)
/-- The reader's block: the plan, the text, the place, what was told, what went wrong. -/
structure RdAt (w : World) (g : Nat) (u : Value) (sch : List RM) (A B C : Int) (s : ByteArray) (o : Value) (r : RdM) : Prop where
  box : Box w g ([u, .int .i64 A, .int .i64 B, .int .i64 C, .string s, .int .i64 r.place, o] ++ evC r.fail)
  out : OwnE w (g + 1) 34 o r.out
  msgs : MsgsAt w (· < g) u sch
  place : r.place ≤ s.size
section
variable {w w' : World} {g : Nat} {u : Value} {sch : List RM} {A B C : Int} {s : ByteArray} {o : Value} {r : RdM}
theorem Box.at7 {a b c d e f o k1 k2 k3 k4 k5 k6 k7 : Value} (h : Box w g [a, b, c, d, e, f, o, k1, k2, k3, k4, k5, k6, k7]) :
    (w.cell? ⟨g, 0, none⟩ = some a ∧ w.cell? ⟨g, 1, none⟩ = some b ∧ w.cell? ⟨g, 2, none⟩ = some c ∧ w.cell? ⟨g, 3, none⟩ = some d ∧ w.cell? ⟨g, 4, none⟩ = some e ∧ w.cell? ⟨g, 5, none⟩ = some f ∧ w.cell? ⟨g, 6, none⟩ = some o ∧
      w.cell? ⟨g, 7, none⟩ = some k1 ∧ w.cell? ⟨g, 8, none⟩ = some k2 ∧ w.cell? ⟨g, 9, none⟩ = some k3 ∧ w.cell? ⟨g, 10, none⟩ = some k4 ∧ w.cell? ⟨g, 11, none⟩ = some k5 ∧ w.cell? ⟨g, 12, none⟩ = some k6 ∧ w.cell? ⟨g, 13, none⟩ = some k7) ∧
    (w.frozen? ⟨g, 5, none⟩ = false ∧ w.frozen? ⟨g, 6, none⟩ = false ∧ w.frozen? ⟨g, 7, none⟩ = false ∧ w.frozen? ⟨g, 8, none⟩ = false ∧ w.frozen? ⟨g, 9, none⟩ = false ∧ w.frozen? ⟨g, 10, none⟩ = false ∧ w.frozen? ⟨g, 11, none⟩ = false ∧ w.frozen? ⟨g, 12, none⟩ = false ∧ w.frozen? ⟨g, 13, none⟩ = false) :=
  ⟨⟨(h.2 0 (by simp)).1, (h.2 1 (by simp)).1, (h.2 2 (by simp)).1, (h.2 3 (by simp)).1, (h.2 4 (by simp)).1, (h.2 5 (by simp)).1, (h.2 6 (by simp)).1, (h.2 7 (by simp)).1, (h.2 8 (by simp)).1, (h.2 9 (by simp)).1, (h.2 10 (by simp)).1, (h.2 11 (by simp)).1, (h.2 12 (by simp)).1, (h.2 13 (by simp)).1⟩,
    (h.2 5 (by simp)).2, (h.2 6 (by simp)).2, (h.2 7 (by simp)).2, (h.2 8 (by simp)).2, (h.2 9 (by simp)).2, (h.2 10 (by simp)).2, (h.2 11 (by simp)).2, (h.2 12 (by simp)).2, (h.2 13 (by simp)).2⟩
theorem RdAt.lt (h : RdAt w g u sch A B C s o r) : g < w.heap.size := h.box.lt
/-- A call that writes new memory only leaves the reader as it is. -/
theorem RdAt.below (h : RdAt w g u sch A B C s o r) (hb : Below w.heap.size w w') : RdAt w' g u sch A B C s o r :=
  ⟨h.box.below hb h.box.lt, h.out.below hb (Nat.le_refl _), h.msgs.keep (.of_below hb fun b hb' => Nat.lt_trans hb' h.box.lt) fun _ h => h, h.place⟩
/-- The place is written. -/
theorem RdAt.to (h : RdAt w g u sch A B C s o r) (p : Nat) (hp : p ≤ s.size) : RdAt (w.setCell ⟨g, 5, none⟩ (.int .i64 p)) g u sch A B C s o (r.to p) :=
  ⟨by have := h.box.set 5 (.int .i64 p); exact this, h.out.other (p := ⟨g, 5, none⟩) (Nat.lt_succ_self g) _, h.msgs.keep (.of_set _ (Nat.lt_irrefl g)) fun _ h => h, hp⟩
/-- The failure is written. -/
theorem RdAt.bad (h : RdAt w g u sch A B C s o r) (c a : Int) :
    RdAt (((((((w.setCell ⟨g, 7, none⟩ (.int .i64 10)).setCell ⟨g, 8, none⟩ (.int .i64 0)).setCell ⟨g, 9, none⟩ (.int .u64 0)).setCell ⟨g, 10, none⟩ (.int .i64 0)).setCell ⟨g, 11, none⟩ (.string ⟨#[]⟩)).setCell ⟨g, 12, none⟩ (.int .i64 c)).setCell ⟨g, 13, none⟩ (.int .i64 a)) g u sch A B C s o (r.bad c a) := by
  refine ⟨?_, ?_, ?_, h.place⟩
  · have := ((((((h.box.set 7 (.int .i64 10)).set 8 (.int .i64 0)).set 9 (.int .u64 0)).set 10 (.int .i64 0)).set 11 (.string ⟨#[]⟩)).set 12 (.int .i64 c)).set 13 (.int .i64 a)
    exact this
  · have hg : g < g + 1 := Nat.lt_succ_self g
    exact ((((((h.out.other (p := ⟨g, 7, none⟩) hg _).other (p := ⟨g, 8, none⟩) hg _).other (p := ⟨g, 9, none⟩) hg _).other (p := ⟨g, 10, none⟩) hg _).other (p := ⟨g, 11, none⟩) hg _).other (p := ⟨g, 12, none⟩) hg _).other (p := ⟨g, 13, none⟩) hg _
  · have hg : ¬ g < g := Nat.lt_irrefl g
    exact ((((((h.msgs.keep (.of_set (p := ⟨g, 7, none⟩) _ hg) fun _ h => h).keep (.of_set (p := ⟨g, 8, none⟩) _ hg) fun _ h => h).keep (.of_set (p := ⟨g, 9, none⟩) _ hg) fun _ h => h).keep (.of_set (p := ⟨g, 10, none⟩) _ hg) fun _ h => h).keep (.of_set (p := ⟨g, 11, none⟩) _ hg) fun _ h => h).keep (.of_set (p := ⟨g, 12, none⟩) _ hg) fun _ h => h).keep (.of_set (p := ⟨g, 13, none⟩) _ hg) fun _ h => h
end
/-- A call that writes only the reader's block, the row of what was told, and new memory; the row stays where it was, or is new. -/
structure Moved (g : Nat) (o o' : Value) (w w' : World) : Prop where
  os : w'.os = w.os
  tape : w'.tape = w.tape
  output : w'.output = w.output
  size : w.heap.size ≤ w'.heap.size
  block : ∀ k, k < w.heap.size → k ≠ g → o.ownBlock ≠ some k → w'.heap[k]? = w.heap[k]?
  own : ∀ k, o'.ownBlock = some k → o.ownBlock = some k ∨ w.heap.size ≤ k
section
variable {g : Nat} {o o' o'' : Value} {w w' w'' : World}
theorem Moved.refl (g : Nat) (o : Value) (w : World) : Moved g o o w w := ⟨rfl, rfl, rfl, Nat.le_refl _, fun _ _ _ _ => rfl, fun _ h => .inl h⟩
theorem Moved.trans (h : Moved g o o' w w') (k : Moved g o' o'' w' w'') : Moved g o o'' w w'' :=
  ⟨k.os.trans h.os, k.tape.trans h.tape, k.output.trans h.output, Nat.le_trans h.size k.size,
    fun b hb hg ho => (k.block b (Nat.lt_of_lt_of_le hb h.size) hg fun e => by rcases h.own b e with h1 | h1; exact ho h1; omega).trans (h.block b hb hg ho),
    fun b hb => by rcases k.own b hb with h1 | h1; exact h.own b h1; exact .inr (Nat.le_trans h.size h1)⟩
theorem Moved.of_below (h : Below w.heap.size w w') : Moved g o o w w' := ⟨h.os, h.tape, h.output, h.size, fun k hk _ _ => h.block k hk, fun _ h => .inl h⟩
theorem Moved.drewN (g : Nat) (o : Value) (w : World) (n : Nat) : Moved g o o w (w.drewN n) := .of_below (by exact ⟨rfl, rfl, rfl, Nat.le_refl _, fun _ _ => rfl⟩)
theorem Moved.setCell (h : Moved g o o' w w') (hg : g < w.heap.size) (j : Nat) (v : Value) : Moved g o o' w (w'.setCell ⟨g, j, none⟩ v) := by
  have hb : Below g w' (w'.setCell ⟨g, j, none⟩ v) := (Below.refl _ _).setCell (Nat.le_refl g) v
  exact ⟨hb.os.trans h.os, hb.tape.trans h.tape, hb.output.trans h.output, Nat.le_trans h.size hb.size,
    fun k hk hn ho => (Below.heap_setCell _ _ _ _ (fun e => hn (by rw [e]))).trans (h.block k hk hn ho), h.own⟩
theorem Moved.box {b : Nat} {vs : List Value} (h : Moved g o o' w w') (hb : Box w b vs) (hn : b ≠ g) (ho : o.ownBlock ≠ some b) : Box w' b vs :=
  ⟨Nat.lt_of_lt_of_le hb.1 h.size, fun j hj => by
    have he := h.block b hb.1 hn ho
    exact ⟨(World.cell?_of_block (a := ⟨b, j, none⟩) he).trans (hb.2 j hj).1, (World.frozen?_of_block (a := ⟨b, j, none⟩) he).trans (hb.2 j hj).2⟩⟩
theorem Moved.below (h : Moved g o o' w w') (hg : g ≤ w.heap.size) (ho : ∀ k, o.ownBlock = some k → g ≤ k) : Below g w w' :=
  ⟨h.os, h.tape, h.output, h.size, fun k hk => h.block k (by omega) (by omega) fun e => by have := ho k e; omega⟩
end
theorem l12Fail_any (c a : Int) (w : World) : Calls Tryz.prog 62 #[.int .i64 c, .int .i64 a] w fun e w' => e = .returned (.agg #[.int .i64 10, .int .i64 0, .int .u64 0, .int .i64 0, .string ⟨#[]⟩, .int .i64 c, .int .i64 a]) ∧ Below w.heap.size w w' := by
  go_enter Tryz.func62, Tryz.ntmps62
  go_wp2_with fail
  refine bodyPost_ret (v := .agg #[.int .i64 10, .int .i64 0, .int .u64 0, .int .i64 0, .string ⟨#[]⟩, .int .i64 c, .int .i64 a]) (by simp [results, Tryz.results62, go_sem]) rfl ⟨rfl, ?_⟩
  exact (Below.refl _ _).alloc (Nat.le_refl _) _
end Go.Proofs.YtcnpdcmdnmfnaaaGreat.Num
