/-
  Marked rows: what the laws' marks leave in a row of fields and in a row of messages whose blocks lie apart. For any program.
-/
import Derived.Test.YtpkofbdfnbpfpaaGreatRawBase
import Derived.Test.YtpkofbdfnbpfpaaGreatOwnRead
import Derived.OwnWalk
import Derived.LoopTactic
import Derived.WalkLawsBesides
namespace Go.Proofs.YtpkofbdfnbpfpaaGreat.Num
open Go.RowKit Go.Proofs
set_option linter.unusedVariables false
set_option linter.unusedSimpArgs false

/-- What the j-th cell of a marked row of fields holds, the marks counted from k. -/
def markAt (k : Int) (j : Nat) : Value := if j % 5 = 2 ∨ j % 5 = 3 then .bool ((k + (j : Int)) % 3 == 0) else .int .i64 (k + (j : Int))
def Marked (w : World) (g : Nat) (k : Int) (m : Nat) : Prop := ∀ j, j < m → w.cell? ⟨g, j, none⟩ = some (markAt k j)
theorem Marked.set {w : World} {g : Nat} {k : Int} {m : Nat} (h : Marked w g k m) (hx : ∃ v, w.cell? ⟨g, m, none⟩ = some v) : Marked (w.setCell ⟨g, m, none⟩ (markAt k m)) g k (m + 1) := fun j hj => by
  by_cases e : m = j
  · subst e; obtain ⟨v, hv⟩ := hx; exact World.cell?_setCell_same _ _ _ hv
  · rw [World.cell?_setCell_other _ _ _ _ (by intro h; injection h with _ h; exact e h)]; exact h j (by omega)
theorem Fill.cell {w : World} {g m j : Nat} (h : Fill w g m) (hj : j < m) : ∃ v, w.cell? ⟨g, j, none⟩ = some v ∧ w.frozen? ⟨g, j, none⟩ = false := by
  obtain ⟨⟨v, hv⟩, hf⟩ := h.2 j hj
  exact ⟨v, hv, hf⟩
theorem mark0 (k : Int) (i : Nat) : markAt k (i * 5) = .int .i64 (k + 5 * (i : Int)) := by unfold markAt; rw [if_neg (by omega)]; congr 1; push_cast; omega
theorem mark1 (k : Int) (i : Nat) : markAt k (i * 5 + 1) = .int .i64 (k + 5 * (i : Int) + 1) := by unfold markAt; rw [if_neg (by omega)]; congr 1; push_cast; omega
theorem mark2 (k : Int) (i : Nat) : markAt k (i * 5 + 2) = .bool ((k + 5 * (i : Int) + 1 + 1) % 3 == 0) := by unfold markAt; rw [if_pos (by omega)]; congr 3; push_cast; omega
theorem mark3 (k : Int) (i : Nat) : markAt k (i * 5 + 3) = .bool ((k + 5 * (i : Int) + 1 + 1 + 1) % 3 == 0) := by unfold markAt; rw [if_pos (by omega)]; congr 3; push_cast; omega
theorem mark4 (k : Int) (i : Nat) : markAt k (i * 5 + 4) = .int .i64 (k + 5 * (i : Int) + 1 + 1 + 1 + 1) := by unfold markAt; rw [if_neg (by omega)]; congr 1; push_cast; omega
/-- The mark with which message i begins. -/
def kAt (k : Int) (ms : List OM) (i : Nat) : Int := k + ((ms.take i).map fun m => 1 + 5 * (m.2.2.length : Int)).sum
theorem kAt_zero (k : Int) (ms : List OM) : kAt k ms 0 = k := by simp [kAt]
theorem kAt_succ {k : Int} {ms : List OM} {i : Nat} (h : i < ms.length) : kAt k ms (i + 1) = kAt k ms i + (1 + 5 * (ms[i].2.2.length : Int)) := by
  unfold kAt; rw [List.take_succ_eq_append_getElem h, List.map_append, List.sum_append]; simp only [List.map_cons, List.map_nil, List.sum_cons, List.sum_nil]; omega
theorem kAt_le {k : Int} {ms : List OM} (hs : ∀ m ∈ ms, m.2.2.length ≤ 1048576) : ∀ i, i ≤ ms.length → k ≤ kAt k ms i ∧ kAt k ms i ≤ k + 5242881 * (i : Int)
  | 0, _ => by rw [kAt_zero]; omega
  | i + 1, h => by
    have ih := kAt_le (k := k) hs i (by omega)
    have hl := hs _ (List.getElem_mem (show i < ms.length by omega))
    rw [kAt_succ (show i < ms.length by omega)]
    push_cast
    omega
/-- The fields' part of message m: nothing, or a row in a block of its own. -/
def FShp (w : World) (gv : Nat) (m : OM) : Prop := (m.2.1 = .slice none 0 0 ∧ m.2.2 = []) ∨ ∃ g cap, m.2.1 = .slice (some ⟨g, 0, none⟩) m.2.2.length cap ∧ g ≠ gv ∧ Fill w g (m.2.2.length * 5)
structure Shp (w : World) (gv : Nat) (ms : List OM) : Prop where
  row : Fill w gv (ms.length * 2)
  vals : ∀ j (h : j < ms.length), w.cell? ⟨gv, j * 2 + 1, none⟩ = some ms[j].2.1
  flds : ∀ j (h : j < ms.length), FShp w gv ms[j]
  each : ∀ i j (hi : i < ms.length) (hj : j < ms.length), i ≠ j → Apart ms[i].2.1 ms[j].2.1
def MarkM (w : World) (gv : Nat) (k : Int) (ms : List OM) (i : Nat) : Prop := ∀ j (h : j < ms.length), j < i →
  w.cell? ⟨gv, j * 2, none⟩ = some (.int .i64 (kAt k ms j)) ∧ ∀ g cap, ms[j].2.1 = .slice (some ⟨g, 0, none⟩) ms[j].2.2.length cap → Marked w g (kAt k ms j + 1) (ms[j].2.2.length * 5)
/-- Of the blocks that are none of theirs nothing has turned. -/
def Touch (gv : Nat) (ms : List OM) (w w' : World) : Prop := w'.os = w.os ∧ w'.tape = w.tape ∧ w'.output = w.output ∧ w'.heap.size = w.heap.size ∧ ∀ b, b ≠ gv → (∀ j (h : j < ms.length), ms[j].2.1.ownBlock ≠ some b) → w'.heap[b]? = w.heap[b]?
theorem Touch.refl (gv : Nat) (ms : List OM) (w : World) : Touch gv ms w w := ⟨rfl, rfl, rfl, rfl, fun _ _ _ => rfl⟩
theorem Touch.trans {gv : Nat} {ms : List OM} {a b c : World} (h : Touch gv ms a b) (k : Touch gv ms b c) : Touch gv ms a c :=
  ⟨k.1.trans h.1, k.2.1.trans h.2.1, k.2.2.1.trans h.2.2.1, k.2.2.2.1.trans h.2.2.2.1, fun x h1 h2 => (k.2.2.2.2 x h1 h2).trans (h.2.2.2.2 x h1 h2)⟩
theorem Fill.block {w w' : World} {g m : Nat} (h : Fill w g m) (hb : w'.heap[g]? = w.heap[g]?) (hz : w'.heap.size = w.heap.size) : Fill w' g m :=
  ⟨by rw [hz]; exact h.1, fun j hj => by rw [World.cell?_of_block (a := ⟨g, j, none⟩) hb, World.frozen?_of_block (a := ⟨g, j, none⟩) hb]; exact h.2 j hj⟩
theorem Marked.block {w w' : World} {g m : Nat} {k : Int} (h : Marked w g k m) (hb : w'.heap[g]? = w.heap[g]?) : Marked w' g k m := fun j hj => (World.cell?_of_block (a := ⟨g, j, none⟩) hb).trans (h j hj)
theorem grown_cell {w w' : World} {g x : Nat} (hg : w.grownBy w' (some g)) (hx : x < w.heap.size) (hne : x ≠ g) : w'.heap[x]? = w.heap[x]? := hg.block x hx (by intro e; exact hne (Option.some.inj e))
theorem fill_of {w : World} {B sz n g cap : Nat} {T : TypeId} {xs : List Value} (h : w.ownsRow B T sz (.slice (some ⟨g, 0, none⟩) n cap) n xs) : Fill w g (n * sz) ∧ ∀ j (hj : j < xs.length), w.cell? ⟨g, j, none⟩ = some xs[j] := by
  obtain ⟨hl, h⟩ := h
  rcases h with ⟨e, _⟩ | ⟨g', cap', cur, e, _, hb, hle, _, hsz, htk⟩
  · cases e
  · obtain ⟨rfl, rfl⟩ : g = g' ∧ cap = cap' := by injection e with e1 e2 e3; injection e1 with e1; injection e1 with e1; exact ⟨e1, e3⟩
    have hcs : n * sz ≤ cur.size := by rw [hsz]; exact Nat.mul_le_mul_right sz hle
    have hcell : ∀ j, w.cell? ⟨g, j, none⟩ = cur[j]? := fun j => cell_of_row w g j cur T (0, 0) hb
    refine ⟨⟨(Array.getElem?_eq_some_iff.1 hb).1, fun j hj => ⟨⟨cur[j]'(by omega), by rw [hcell]; exact Array.getElem?_eq_getElem (by omega)⟩, ?_⟩⟩, fun j hj => ?_⟩
    · unfold World.frozen?; simp [hb]
    · rw [hcell]
      have hj' : j < n * sz := by rw [← hl]; exact hj
      have : (cur.toList.take (n * sz))[j]? = some xs[j] := by rw [htk]; exact List.getElem?_eq_getElem hj
      rw [List.getElem?_take_of_lt hj'] at this
      rw [← Array.getElem?_toList]; exact this
theorem shp_of {w : World} {B gv cap : Nat} {TM TF : TypeId} {ms : List OM} (h : OwnRaw w B TM TF (.slice (some ⟨gv, 0, none⟩) ms.length cap) ms) : Shp w gv ms := by
  obtain ⟨hf, hc⟩ := fill_of h.row
  have hlen : (ms.flatMap msgC).length = ms.length * 2 := flat_len (f := msgC) (sz := 2) (fun _ => rfl) ms
  refine ⟨hf, fun j hj => ?_, fun j hj => ?_, h.each⟩
  · have h1 := hc (j * 2 + 1) (by omega)
    have h2 := flat_get (f := msgC) (sz := 2) (fun _ => rfl) ms j hj 1 (by omega)
    have h3 : (ms.flatMap msgC)[j * 2 + 1]? = some ((ms.flatMap msgC)[j * 2 + 1]'(by omega)) := List.getElem?_eq_getElem (by omega)
    rw [h2] at h3
    have h4 : (msgC ms[j])[1]? = some ms[j].2.1 := rfl
    rw [h4] at h3
    rw [h1, ← h3]
  · have hF : w.ownsRow B TF 5 ms[j].2.1 ms[j].2.2.length (ms[j].2.2.flatMap fieldC) := h.fields j hj
    rcases hF.2 with ⟨e, hn⟩ | ⟨g, c, cur, e, rest⟩
    · exact .inl ⟨e, List.length_eq_zero_iff.1 hn⟩
    · refine .inr ⟨g, c, e, ?_, ?_⟩
      · rcases h.apart j hj with h1 | h1
        · rw [e] at h1; cases h1
        · rw [e] at h1; intro e2; subst e2; exact h1 rfl
      · rw [e] at hF; exact (fill_of hF).1
/-- The description that v holds, marked from k on. -/
def MarkedR (w : World) (v : Value) (k : Int) (ms : List OM) : Prop := (v = .slice none 0 0 ∧ ms = []) ∨ ∃ gv cap, v = .slice (some ⟨gv, 0, none⟩) ms.length cap ∧ MarkM w gv k ms ms.length ∧ Shp w gv ms
/-- Of the blocks that were there and are none of the description's nothing has turned. -/
def Spared (v : Value) (ms : List OM) (w w' : World) : Prop := w'.os = w.os ∧ w'.tape = w.tape ∧ w'.output = w.output ∧ w.heap.size ≤ w'.heap.size ∧ ∀ b, b < w.heap.size → v.ownBlock ≠ some b → (∀ j (h : j < ms.length), ms[j].2.1.ownBlock ≠ some b) → w'.heap[b]? = w.heap[b]?
theorem Spared.below {w w' : World} {B : Nat} {TM TF : TypeId} {v : Value} {ms : List OM} (h : Spared v ms w w') (ho : OwnRaw w B TM TF v ms) (hB : B ≤ w.heap.size) : Below B w w' :=
  ⟨h.1, h.2.1, h.2.2.1, h.2.2.2.1, fun b hb => h.2.2.2.2 b (by omega) (fun e => by have := (World.ownsRow.lt ho.row b e).1; omega) (fun j hj e => by have := (World.ownsRow.lt (ho.fields j hj) b e).1; omega)⟩
end Go.Proofs.YtpkofbdfnbpfpaaGreat.Num
