/-
  Descriptions in memory: what it says that a value holds a description, told by plain lists; it stays where only new memory is written. For any program.
-/
import Derived.WalkKit
import Derived.Below
import Derived.Lib.Hide
import Derived.Laws.Rows
import Derived.Laws.OwnMore
import Derived.OwnWalk
import Derived.Test.YtpkofbdfnbpfpaaGreatDraw
namespace Go.Proofs.YtpkofbdfnbpfpaaGreat.Num
open Go.RowKit Go.Proofs
set_option linter.unusedVariables false

/-- Number, Kind, Repeated, Packed, Ref. -/
abbrev RF := Int × Int × Bool × Bool × Int
/-- Id and fields. -/
abbrev RM := Int × List RF
def fieldC (f : RF) : List Value := [.int .i64 f.1, .int .i64 f.2.1, .bool f.2.2.1, .bool f.2.2.2.1, .int .i64 f.2.2.2.2]
def fieldV (f : RF) : Value := .agg #[.int .i64 f.1, .int .i64 f.2.1, .bool f.2.2.1, .bool f.2.2.2.1, .int .i64 f.2.2.2.2]
/-- The slice value v holds, in a block of which S tells, elements of sz cells each, the i-th one's cells as R tells of l's i-th. -/
def RowAt {α : Type} (w : World) (S : Nat → Prop) (sz : Nat) (R : α → List Value → Prop) (v : Value) (l : List α) : Prop :=
  (l = [] ∧ ∃ a cap, v = .slice a 0 cap) ∨
  ∃ b o cap, v = .slice (some ⟨b, o, none⟩) l.length cap ∧ (0 < l.length ∧ l.length ≤ cap) ∧ S b ∧
    ∀ i (h : i < l.length), ∃ cs : List Value, cs.length = sz ∧ R l[i] cs ∧ ∀ j (hj : j < cs.length), w.cell? ⟨b, o + (i * sz + j), none⟩ = some cs[j]
/-- Of the blocks that S tells of, each cell of w' is w's. -/
def Kept (S : Nat → Prop) (w w' : World) : Prop := ∀ b o, S b → w'.cell? ⟨b, o, none⟩ = w.cell? ⟨b, o, none⟩
theorem Kept.of_below {w w' : World} {D : Nat} {S : Nat → Prop} (hb : Below D w w') (hS : ∀ b, S b → b < D) : Kept S w w' := fun b o h => hb.cell (p := ⟨b, o, none⟩) (hS b h)
theorem Kept.of_set {w : World} {S : Nat → Prop} {p : Addr} (v : Value) (hS : ¬ S p.block) : Kept S w (w.setCell p v) := fun b o h => World.cell?_setCell_other _ _ _ _ (by rintro rfl; exact hS h)
theorem Kept.trans {S : Nat → Prop} {a b c : World} (h : Kept S a b) (k : Kept S b c) : Kept S a c := fun i o hi => (k i o hi).trans (h i o hi)
theorem RowAt.keep {α : Type} {w w' : World} {S S' : Nat → Prop} {sz : Nat} {R R' : α → List Value → Prop} {v : Value} {l : List α} (h : RowAt w S sz R v l) (hk : Kept S w w') (hS : ∀ b, S b → S' b) (hR : ∀ x cs, R x cs → R' x cs) : RowAt w' S' sz R' v l := by
  rcases h with h | ⟨b, o, cap, hv, h0, hbC, hc⟩
  · exact .inl h
  · refine .inr ⟨b, o, cap, hv, h0, hS b hbC, fun i hi => ?_⟩
    obtain ⟨cs, h1, h2, h3⟩ := hc i hi
    exact ⟨cs, h1, hR _ _ h2, fun j hj => (hk b _ hbC).trans (h3 j hj)⟩
theorem RowAt.cap {α : Type} {w : World} {S : Nat → Prop} {sz : Nat} {R : α → List Value → Prop} {a : Option Addr} {n cap : Nat} {l : List α} (h : RowAt w S sz R (.slice a n cap) l) : l.length ≤ cap := by
  rcases h with ⟨rfl, _⟩ | ⟨b, o, c, hv, h0, _⟩
  · simp
  · injection hv with _ _ e; subst e; exact h0.2
def fieldR (f : RF) (cs : List Value) : Prop := cs = fieldC f
def FieldsAt (w : World) (S : Nat → Prop) (v : Value) (l : List RF) : Prop := RowAt w S 5 fieldR v l
def msgR (w : World) (S : Nat → Prop) (m : RM) (cs : List Value) : Prop := ∃ u, cs = [.int .i64 m.1, u] ∧ FieldsAt w S u m.2
def MsgsAt (w : World) (S : Nat → Prop) (v : Value) (l : List RM) : Prop := RowAt w S 2 (msgR w S) v l
def RawAt (w : World) (S : Nat → Prop) (v : Value) (r : List RM) : Prop := ∃ u, v = .agg #[u] ∧ MsgsAt w S u r
section
variable {w w' : World} {S S' : Nat → Prop} {v : Value}
theorem FieldsAt.keep {l : List RF} (h : FieldsAt w S v l) (hk : Kept S w w') (hS : ∀ b, S b → S' b) : FieldsAt w' S' v l := RowAt.keep h hk hS fun _ _ h => h
theorem MsgsAt.keep {l : List RM} (h : MsgsAt w S v l) (hk : Kept S w w') (hS : ∀ b, S b → S' b) : MsgsAt w' S' v l :=
  RowAt.keep h hk hS fun _ _ ⟨u, h1, h2⟩ => ⟨u, h1, h2.keep hk hS⟩
theorem RawAt.keep {r : List RM} (h : RawAt w S v r) (hk : Kept S w w') (hS : ∀ b, S b → S' b) : RawAt w' S' v r := by
  obtain ⟨u, h1, h2⟩ := h; exact ⟨u, h1, h2.keep hk hS⟩
theorem RawAt.below {r : List RM} {D : Nat} (h : RawAt w S v r) (hb : Below D w w') (hS : ∀ b, S b → b < D) : RawAt w' S v r := h.keep (.of_below hb hS) fun _ h => h
/-- The value and the cells of the i-th field. -/
theorem FieldsAt.len {l : List RF} (h : FieldsAt w S v l) : ∃ a cap, v = .slice a l.length cap := by
  rcases h with ⟨rfl, a, cap, rfl⟩ | ⟨b, o, cap, rfl, _⟩
  · exact ⟨a, cap, rfl⟩
  · exact ⟨_, cap, rfl⟩
theorem FieldsAt.cells {l : List RF} (h : FieldsAt w S v l) (h0 : 0 < l.length) : ∃ b o cap, v = .slice (some ⟨b, o, none⟩) l.length cap ∧ S b ∧ ∀ i (hi : i < l.length),
    w.cell? ⟨b, o + i * 5, none⟩ = some (.int .i64 l[i].1) ∧ w.cell? ⟨b, o + i * 5 + 1, none⟩ = some (.int .i64 l[i].2.1) ∧ w.cell? ⟨b, o + i * 5 + 2, none⟩ = some (.bool l[i].2.2.1) ∧ w.cell? ⟨b, o + i * 5 + 3, none⟩ = some (.bool l[i].2.2.2.1) ∧ w.cell? ⟨b, o + i * 5 + 4, none⟩ = some (.int .i64 l[i].2.2.2.2) := by
  rcases h with ⟨rfl, _⟩ | ⟨b, o, cap, hv, _, hC, hc⟩
  · simp at h0
  · refine ⟨b, o, cap, hv, hC, fun i hi => ?_⟩
    obtain ⟨cs, hl, hR, hcs⟩ := hc i hi
    unfold fieldR at hR
    subst hR
    exact ⟨hcs 0 (by simp [fieldC]), hcs 1 (by simp [fieldC]), hcs 2 (by simp [fieldC]), hcs 3 (by simp [fieldC]), hcs 4 (by simp [fieldC])⟩
theorem MsgsAt.len {l : List RM} (h : MsgsAt w S v l) : ∃ a cap, v = .slice a l.length cap := by
  rcases h with ⟨rfl, a, cap, rfl⟩ | ⟨b, o, cap, rfl, _⟩
  · exact ⟨a, cap, rfl⟩
  · exact ⟨_, cap, rfl⟩
theorem MsgsAt.cells {l : List RM} (h : MsgsAt w S v l) (h0 : 0 < l.length) : ∃ b o cap, v = .slice (some ⟨b, o, none⟩) l.length cap ∧ S b ∧ ∀ i (hi : i < l.length), ∃ u,
    w.cell? ⟨b, o + i * 2, none⟩ = some (.int .i64 l[i].1) ∧ w.cell? ⟨b, o + i * 2 + 1, none⟩ = some u ∧ FieldsAt w S u l[i].2 := by
  rcases h with ⟨rfl, _⟩ | ⟨b, o, cap, hv, _, hC, hc⟩
  · simp at h0
  · refine ⟨b, o, cap, hv, hC, fun i hi => ?_⟩
    obtain ⟨cs, hl, ⟨u, rfl, hu⟩, hcs⟩ := hc i hi
    exact ⟨u, hcs 0 (by simp), hcs 1 (by simp), hu⟩
end
/-! A row that is being filled: block g has n elements' cells, the first k are those of l. -/
def Fill (w : World) (g m : Nat) : Prop := g < w.heap.size ∧ ∀ j, j < m → (∃ v, w.cell? ⟨g, j, none⟩ = some v) ∧ w.frozen? ⟨g, j, none⟩ = false
theorem Fill.below {w w' : World} {g m B : Nat} (h : Fill w g m) (hb : Below B w w') (hg : g < B) : Fill w' g m :=
  ⟨Nat.lt_of_lt_of_le h.1 hb.size, fun j hj => by rw [hb.cell (p := ⟨g, j, none⟩) hg, hb.frozen (p := ⟨g, j, none⟩) hg]; exact h.2 j hj⟩
theorem Fill.set {w : World} {g m : Nat} (h : Fill w g m) (o : Nat) (v : Value) : Fill (w.setCell ⟨g, o, none⟩ v) g m := by
  refine ⟨by simpa [World.setCell] using h.1, fun j hj => ?_⟩
  rw [World.frozen?_setCell]
  refine ⟨?_, (h.2 j hj).2⟩
  by_cases e : o = j
  · subst e; obtain ⟨u, hu⟩ := (h.2 o hj).1; exact ⟨v, World.cell?_setCell_same _ _ _ hu⟩
  · rw [World.cell?_setCell_other _ _ _ _ (by intro h; injection h with _ h; exact e h)]; exact (h.2 j hj).1
theorem Fill.same {w : World} {g m : Nat} (h : Fill w g m) {o : Nat} (ho : o < m) (v : Value) : (w.setCell ⟨g, o, none⟩ v).cell? ⟨g, o, none⟩ = some v := by
  obtain ⟨u, hu⟩ := (h.2 o ho).1; exact World.cell?_setCell_same _ _ _ hu
theorem cell_off {w : World} {g o j : Nat} (h : o ≠ j) (v : Value) : (w.setCell ⟨g, o, none⟩ v).cell? ⟨g, j, none⟩ = w.cell? ⟨g, j, none⟩ :=
  World.cell?_setCell_other _ _ _ _ (by intro e; injection e with _ e; exact h e)
theorem Fill.own {w : World} {B g n sz : Nat} {E : TypeId} {xs : List Value} (h : w.ownsRow B E sz (.slice (some ⟨g, 0, none⟩) n n) n xs) : Fill w g (n * sz) := by
  refine ⟨(h.lt g rfl).2, fun j hj => ⟨?_, h.frozenAt j⟩⟩
  have hx : xs.length = n * sz := h.1
  rw [h.cellAt j hj, List.getElem?_eq_getElem (by omega)]
  exact ⟨_, rfl⟩
def cells5 (w : World) (b p : Nat) (f : RF) : Prop :=
  w.cell? ⟨b, p + 0, none⟩ = some (.int .i64 f.1) ∧ w.cell? ⟨b, p + 1, none⟩ = some (.int .i64 f.2.1) ∧ w.cell? ⟨b, p + 2, none⟩ = some (.bool f.2.2.1) ∧ w.cell? ⟨b, p + 3, none⟩ = some (.bool f.2.2.2.1) ∧ w.cell? ⟨b, p + 4, none⟩ = some (.int .i64 f.2.2.2.2)
def FRow (w : World) (g n k : Nat) (l : List RF) : Prop := Fill w g (n * 5) ∧ ∀ i (hi : i < l.length), i < k → cells5 w g (i * 5) l[i]
theorem FRow.start {w : World} {B g n : Nat} {E : TypeId} {xs : List Value} {l : List RF} (h : w.ownsRow B E 5 (.slice (some ⟨g, 0, none⟩) n n) n xs) : FRow w g n 0 l := ⟨Fill.own h, fun i _ hi => by omega⟩
theorem FRow.below {w w' : World} {g n k B : Nat} {l : List RF} (h : FRow w g n k l) (hb : Below B w w') (hg : g < B) : FRow w' g n k l := by
  refine ⟨h.1.below hb hg, fun i hi hk => ?_⟩
  have := h.2 i hi hk
  unfold cells5 at this ⊢
  rw [hb.cell (p := ⟨g, _, none⟩) hg, hb.cell (p := ⟨g, _, none⟩) hg, hb.cell (p := ⟨g, _, none⟩) hg, hb.cell (p := ⟨g, _, none⟩) hg, hb.cell (p := ⟨g, _, none⟩) hg]
  exact this
theorem FRow.put {w : World} {g n k : Nat} {l : List RF} (h : FRow w g n k l) (hk : k < n) (hl : k < l.length) :
    FRow (((((w.setCell ⟨g, k * 5, none⟩ (.int .i64 l[k].1)).setCell ⟨g, k * 5 + 1, none⟩ (.int .i64 l[k].2.1)).setCell ⟨g, k * 5 + 2, none⟩ (.bool l[k].2.2.1)).setCell ⟨g, k * 5 + 3, none⟩ (.bool l[k].2.2.2.1)).setCell ⟨g, k * 5 + 4, none⟩ (.int .i64 l[k].2.2.2.2)) g n (k + 1) l := by
  have hf := h.1
  refine ⟨((((hf.set _ _).set _ _).set _ _).set _ _).set _ _, fun i hi hik => ?_⟩
  by_cases e : i = k
  · subst e
    unfold cells5
    refine ⟨?_, ?_, ?_, ?_, ?_⟩
    · rw [cell_off (by omega), cell_off (by omega), cell_off (by omega), cell_off (by omega)]; exact hf.same (by omega) _
    · rw [cell_off (by omega), cell_off (by omega), cell_off (by omega)]; exact (hf.set _ _).same (by omega) _
    · rw [cell_off (by omega), cell_off (by omega)]; exact ((hf.set _ _).set _ _).same (by omega) _
    · rw [cell_off (by omega)]; exact (((hf.set _ _).set _ _).set _ _).same (by omega) _
    · exact ((((hf.set _ _).set _ _).set _ _).set _ _).same (by omega) _
  · have := h.2 i hi (by omega)
    unfold cells5 at this ⊢
    rw [cell_off (by omega), cell_off (by omega), cell_off (by omega), cell_off (by omega), cell_off (by omega),
      cell_off (by omega), cell_off (by omega), cell_off (by omega), cell_off (by omega), cell_off (by omega),
      cell_off (by omega), cell_off (by omega), cell_off (by omega), cell_off (by omega), cell_off (by omega),
      cell_off (by omega), cell_off (by omega), cell_off (by omega), cell_off (by omega), cell_off (by omega),
      cell_off (by omega), cell_off (by omega), cell_off (by omega), cell_off (by omega), cell_off (by omega)]
    exact this
theorem FRow.done {w : World} {g : Nat} {l : List RF} (h : FRow w g l.length l.length l) (cap : Nat) (hcap : l.length ≤ cap) : FieldsAt w (· = g) (.slice (some ⟨g, 0, none⟩) l.length cap) l := by
  by_cases h0 : l = []
  · subst h0; exact .inl ⟨rfl, _, cap, rfl⟩
  · have hp : 0 < l.length := List.length_pos_iff.2 h0
    refine .inr ⟨g, 0, cap, rfl, ⟨hp, hcap⟩, rfl, fun i hi => ⟨fieldC l[i], rfl, rfl, fun j hj => ?_⟩⟩
    obtain ⟨e0, e1, e2, e3, e4⟩ := h.2 i hi hi
    have hj5 : j < 5 := hj
    rw [Nat.zero_add]
    match j, hj5 with
    | 0, _ => exact e0
    | 1, _ => exact e1
    | 2, _ => exact e2
    | 3, _ => exact e3
    | 4, _ => exact e4
theorem Fill.slots5 {w : World} {g n k : Nat} (h : Fill w g (n * 5)) (hk : k < n) : ∃ v0 v1 v2 v3 v4, w.cell? ⟨g, k * 5, none⟩ = some v0 ∧ w.cell? ⟨g, k * 5 + 1, none⟩ = some v1 ∧ w.cell? ⟨g, k * 5 + 2, none⟩ = some v2 ∧ w.cell? ⟨g, k * 5 + 3, none⟩ = some v3 ∧ w.cell? ⟨g, k * 5 + 4, none⟩ = some v4 ∧
    w.frozen? ⟨g, k * 5, none⟩ = false ∧ w.frozen? ⟨g, k * 5 + 1, none⟩ = false ∧ w.frozen? ⟨g, k * 5 + 2, none⟩ = false ∧ w.frozen? ⟨g, k * 5 + 3, none⟩ = false ∧ w.frozen? ⟨g, k * 5 + 4, none⟩ = false := by
  obtain ⟨⟨v0, h0⟩, f0⟩ := h.2 (k * 5) (by omega)
  obtain ⟨⟨v1, h1⟩, f1⟩ := h.2 (k * 5 + 1) (by omega)
  obtain ⟨⟨v2, h2⟩, f2⟩ := h.2 (k * 5 + 2) (by omega)
  obtain ⟨⟨v3, h3⟩, f3⟩ := h.2 (k * 5 + 3) (by omega)
  obtain ⟨⟨v4, h4⟩, f4⟩ := h.2 (k * 5 + 4) (by omega)
  exact ⟨v0, v1, v2, v3, v4, h0, h1, h2, h3, h4, f0, f1, f2, f3, f4⟩
theorem Fill.slots2 {w : World} {g n k : Nat} (h : Fill w g (n * 2)) (hk : k < n) : ∃ v0 v1, w.cell? ⟨g, k * 2, none⟩ = some v0 ∧ w.cell? ⟨g, k * 2 + 1, none⟩ = some v1 ∧ w.frozen? ⟨g, k * 2, none⟩ = false ∧ w.frozen? ⟨g, k * 2 + 1, none⟩ = false := by
  obtain ⟨⟨v0, h0⟩, f0⟩ := h.2 (k * 2) (by omega)
  obtain ⟨⟨v1, h1⟩, f1⟩ := h.2 (k * 2 + 1) (by omega)
  exact ⟨v0, v1, h0, h1, f0, f1⟩
/-- The same for messages: the first k are those of l, their fields in newer blocks. -/
def MRow (w : World) (g n k : Nat) (l : List RM) : Prop := Fill w g (n * 2) ∧ ∀ i (hi : i < l.length), i < k → ∃ u, w.cell? ⟨g, i * 2 + 0, none⟩ = some (.int .i64 l[i].1) ∧ w.cell? ⟨g, i * 2 + 1, none⟩ = some u ∧ FieldsAt w (fun b => g < b ∧ b < w.heap.size) u l[i].2
theorem MRow.start {w : World} {B g n : Nat} {E : TypeId} {xs : List Value} {l : List RM} (h : w.ownsRow B E 2 (.slice (some ⟨g, 0, none⟩) n n) n xs) : MRow w g n 0 l := ⟨Fill.own h, fun i _ hi => by omega⟩
theorem MRow.below {w w' : World} {g n k : Nat} {l : List RM} (h : MRow w g n k l) (hb : Below w.heap.size w w') : MRow w' g n k l := by
  have hg := h.1.1
  have hz := hb.size
  refine ⟨h.1.below hb hg, fun i hi hk => ?_⟩
  obtain ⟨u, h1, h2, h3⟩ := h.2 i hi hk
  exact ⟨u, (hb.cell (p := ⟨g, _, none⟩) hg).trans h1, (hb.cell (p := ⟨g, _, none⟩) hg).trans h2, h3.keep (.of_below hb fun b hb' => hb'.2) fun b hb' => ⟨hb'.1, by omega⟩⟩
theorem MRow.put {w : World} {g n k : Nat} {l : List RM} (h : MRow w g n k l) (hk : k < n) (hl : k < l.length) {u : Value} (hu : FieldsAt w (fun b => g < b ∧ b < w.heap.size) u l[k].2) :
    MRow ((w.setCell ⟨g, k * 2, none⟩ (.int .i64 l[k].1)).setCell ⟨g, k * 2 + 1, none⟩ u) g n (k + 1) l := by
  have hf := h.1
  have kept : Kept (fun b => g < b ∧ b < w.heap.size) w ((w.setCell ⟨g, k * 2, none⟩ (.int .i64 l[k].1)).setCell ⟨g, k * 2 + 1, none⟩ u) := (Kept.of_set _ (by simp)).trans (.of_set _ (by simp))
  refine ⟨(hf.set _ _).set _ _, fun i hi hik => ?_⟩
  by_cases e : i = k
  · subst e
    refine ⟨u, ?_, ?_, hu.keep kept fun b hb => ⟨hb.1, by simpa [World.setCell] using hb.2⟩⟩
    · rw [cell_off (by omega)]; exact hf.same (by omega) _
    · exact (hf.set _ _).same (by omega) _
  · obtain ⟨v, h1, h2, h3⟩ := h.2 i hi (by omega)
    refine ⟨v, ?_, ?_, h3.keep kept fun b hb => ⟨hb.1, by simpa [World.setCell] using hb.2⟩⟩
    · rw [cell_off (by omega), cell_off (by omega)]; exact h1
    · rw [cell_off (by omega), cell_off (by omega)]; exact h2
theorem MRow.done {w : World} {g : Nat} {l : List RM} (h : MRow w g l.length l.length l) (cap : Nat) (hcap : l.length ≤ cap) : MsgsAt w (fun b => g ≤ b ∧ b < w.heap.size) (.slice (some ⟨g, 0, none⟩) l.length cap) l := by
  by_cases h0 : l = []
  · subst h0; exact .inl ⟨rfl, _, cap, rfl⟩
  · have hp : 0 < l.length := List.length_pos_iff.2 h0
    refine .inr ⟨g, 0, cap, rfl, ⟨hp, hcap⟩, ⟨Nat.le_refl _, h.1.1⟩, fun i hi => ?_⟩
    obtain ⟨u, e0, e1, hu⟩ := h.2 i hi hi
    refine ⟨[.int .i64 l[i].1, u], rfl, ⟨u, rfl, hu.keep (fun _ _ _ => rfl) fun b hb => ⟨by omega, hb.2⟩⟩, fun j hj => ?_⟩
    have hj2 : j < 2 := hj
    rw [Nat.zero_add]
    match j, hj2 with
    | 0, _ => exact e0
    | 1, _ => exact e1
end Go.Proofs.YtpkofbdfnbpfpaaGreat.Num
