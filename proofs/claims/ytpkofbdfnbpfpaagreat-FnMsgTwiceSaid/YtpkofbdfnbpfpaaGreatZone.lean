/-
  What a call leaves that writes into the blocks of one zone, from lo up to hi, and into new memory only; and a description whose blocks all lie in a zone. For any program.
-/
import Derived.Test.YtpkofbdfnbpfpaaGreatMarkBase
namespace Go.Proofs.YtpkofbdfnbpfpaaGreat.Num
open Go.RowKit Go.Proofs
set_option linter.unusedVariables false
set_option linter.unusedSimpArgs false

/-- Of the blocks that were there, those outside of the zone are as they were. -/
structure Zone (lo hi : Nat) (w w' : World) : Prop where
  os : w'.os = w.os
  tape : w'.tape = w.tape
  output : w'.output = w.output
  size : w.heap.size ≤ w'.heap.size
  block : ∀ b, b < w.heap.size → (b < lo ∨ hi ≤ b) → w'.heap[b]? = w.heap[b]?
theorem Zone.of_below {lo hi : Nat} {w w' : World} (h : Below w.heap.size w w') : Zone lo hi w w' := ⟨h.os, h.tape, h.output, h.size, fun b hb _ => h.block b hb⟩
theorem Zone.trans {lo hi : Nat} {a b c : World} (h : Zone lo hi a b) (k : Zone lo hi b c) : Zone lo hi a c :=
  ⟨k.os.trans h.os, k.tape.trans h.tape, k.output.trans h.output, Nat.le_trans h.size k.size, fun i hi' hz => (k.block i (Nat.lt_of_lt_of_le hi' h.size) hz).trans (h.block i hi' hz)⟩
theorem Zone.below {lo hi B : Nat} {w w' : World} (h : Zone lo hi w w') (hB : B ≤ lo) (hz : B ≤ w.heap.size) : Below B w w' :=
  ⟨h.os, h.tape, h.output, h.size, fun k hk => h.block k (by omega) (.inl (by omega))⟩
theorem Zone.cell {lo hi b : Nat} {w w' : World} (h : Zone lo hi w w') (hb : b < w.heap.size) (hz : b < lo ∨ hi ≤ b) (o : Nat) : w'.cell? ⟨b, o, none⟩ = w.cell? ⟨b, o, none⟩ := World.cell?_of_block (a := ⟨b, o, none⟩) (h.block b hb hz)
theorem Box.zone {lo hi g : Nat} {vs : List Value} {w w' : World} (h : Box w g vs) (hz : Zone lo hi w w') (hg : g < lo ∨ hi ≤ g) : Box w' g vs :=
  ⟨Nat.lt_of_lt_of_le h.1 hz.size, fun j hj => by
    rw [World.cell?_of_block (a := ⟨g, j, none⟩) (hz.block g h.1 hg), World.frozen?_of_block (a := ⟨g, j, none⟩) (hz.block g h.1 hg)]; exact h.2 j hj⟩
theorem Kept.zone {lo hi : Nat} {S : Nat → Prop} {w w' : World} (hz : Zone lo hi w w') (hS : ∀ b, S b → b < w.heap.size ∧ (b < lo ∨ hi ≤ b)) : Kept S w w' := fun b o h => hz.cell (hS b h).1 (hS b h).2 o
theorem RawAt.zone {lo hi : Nat} {S : Nat → Prop} {v : Value} {r : List RM} {w w' : World} (h : RawAt w S v r) (hz : Zone lo hi w w') (hS : ∀ b, S b → b < w.heap.size ∧ (b < lo ∨ hi ≤ b)) : RawAt w' S v r := h.keep (.zone hz hS) fun _ h => h
theorem Fill.zone {lo hi g m : Nat} {w w' : World} (h : Fill w g m) (hz : Zone lo hi w w') (hg : g < lo ∨ hi ≤ g) : Fill w' g m :=
  ⟨Nat.lt_of_lt_of_le h.1 hz.size, fun j hj => by
    rw [World.cell?_of_block (a := ⟨g, j, none⟩) (hz.block g h.1 hg), World.frozen?_of_block (a := ⟨g, j, none⟩) (hz.block g h.1 hg)]; exact h.2 j hj⟩
theorem Holds.zone {lo hi g C : Nat} {a : Value} {r : List RM} {w w' : World} (h : Holds w g C a r) (hz : Zone lo hi w w') (hg : g < lo) (hC : C ≤ lo) : Holds w' g C a r :=
  ⟨h.1.zone hz (.inl hg), h.2.1.zone hz fun b hb => ⟨Nat.lt_of_lt_of_le hb h.2.2.2.1, .inl (Nat.lt_of_lt_of_le hb hC)⟩, Nat.lt_of_lt_of_le h.2.2.1 hz.size, Nat.le_trans h.2.2.2.1 hz.size, h.2.2.2.2⟩
theorem small_own {ms : List OM} {r : List RM} (h : plain ms = r) (hr : Small r) : ms.length ≤ 1048576 ∧ ∀ m ∈ ms, m.2.2.length ≤ 1048576 := by
  subst h
  exact ⟨by simpa [plain] using hr.1, fun m hm => hr.2 (m.1, m.2.2) (List.mem_map.2 ⟨m, hm, rfl⟩)⟩
/-- A description with all its blocks in the zone, each to be written, none of them shared. -/
structure OwnIn (w : World) (lo hi : Nat) (v : Value) (ms : List OM) : Prop where
  top : ∀ b, v.ownBlock = some b → lo ≤ b ∧ b < hi
  sub : ∀ j (h : j < ms.length) b, ms[j].2.1.ownBlock = some b → lo ≤ b ∧ b < hi
  at_ : MsgsAt w (fun b => lo ≤ b ∧ b < hi) v (plain ms)
  form : (v = .slice none 0 0 ∧ ms = []) ∨ ∃ gv cap, v = .slice (some ⟨gv, 0, none⟩) ms.length cap ∧ Shp w gv ms
theorem OwnRaw.inZone {w : World} {B : Nat} {TM TF : TypeId} {v : Value} {ms : List OM} (h : OwnRaw w B TM TF v ms) : OwnIn w B w.heap.size v ms :=
  ⟨fun b hb => World.ownsRow.lt h.row b hb, fun j hj b hb => World.ownsRow.lt (h.fields j hj) b hb, h.msgsAt, by
    rcases h.row.2 with ⟨rfl, hn⟩ | ⟨gv, cap, cur, rfl, _⟩
    · exact .inl ⟨rfl, List.length_eq_zero_iff.1 hn⟩
    · exact .inr ⟨gv, cap, rfl, shp_of h⟩⟩
theorem Shp.zone {w w' : World} {lo hi lo' hi' gv : Nat} {ms : List OM} (h : Shp w gv ms) (hz : Zone lo' hi' w w') (hg : gv < lo' ∨ hi' ≤ gv) (hs : ∀ j (h : j < ms.length) b, ms[j].2.1.ownBlock = some b → b < lo' ∨ hi' ≤ b) : Shp w' gv ms :=
  ⟨h.row.zone hz hg, fun j hj => (hz.cell h.row.1 hg _).trans (h.vals j hj), fun j hj => by
    rcases h.flds j hj with h1 | ⟨g, c, h1, h2, h3⟩
    · exact .inl h1
    · exact .inr ⟨g, c, h1, h2, h3.zone hz (hs j hj g (by rw [h1]; rfl))⟩, h.each⟩
theorem OwnIn.zone {w w' : World} {lo hi lo' hi' : Nat} {v : Value} {ms : List OM} (h : OwnIn w lo hi v ms) (hz : Zone lo' hi' w w') (hd : hi ≤ lo' ∨ hi' ≤ lo) (hw : hi ≤ w.heap.size) : OwnIn w' lo hi v ms := by
  refine ⟨h.top, h.sub, h.at_.keep (.zone hz fun b hb => ⟨by omega, by omega⟩) fun _ h => h, ?_⟩
  rcases h.form with h1 | ⟨gv, cap, rfl, h1⟩
  · exact .inl h1
  · have := h.top gv rfl
    exact .inr ⟨gv, cap, rfl, h1.zone (lo := lo) (hi := hi) hz (by omega) fun j hj b hb => by have := h.sub j hj b hb; omega⟩
theorem OwnIn.below {w w' : World} {lo hi : Nat} {v : Value} {ms : List OM} (h : OwnIn w lo hi v ms) (hb : Below w.heap.size w w') (hw : hi ≤ w.heap.size) : OwnIn w' lo hi v ms :=
  h.zone (lo' := w.heap.size) (hi' := w.heap.size) (.of_below hb) (.inl hw) hw
theorem Shp.drew {w : World} {gv : Nat} {ms : List OM} (h : Shp w gv ms) : Shp w.drew gv ms := ⟨h.row, h.vals, h.flds, h.each⟩
theorem OwnIn.drew {w : World} {lo hi : Nat} {v : Value} {ms : List OM} (h : OwnIn w lo hi v ms) : OwnIn w.drew lo hi v ms :=
  ⟨h.top, h.sub, h.at_, by
    rcases h.form with h1 | ⟨gv, cap, h1, h2⟩
    · exact .inl h1
    · exact .inr ⟨gv, cap, h1, h2.drew⟩⟩
theorem OwnIn.wide {w : World} {lo hi lo' hi' : Nat} {v : Value} {ms : List OM} (h : OwnIn w lo hi v ms) (h1 : lo' ≤ lo) (h2 : hi ≤ hi') : OwnIn w lo' hi' v ms :=
  ⟨fun b hb => by have := h.top b hb; omega, fun j hj b hb => by have := h.sub j hj b hb; omega, h.at_.keep (fun _ _ _ => rfl) fun b hb => by omega, h.form⟩
theorem OwnIn.raw {w : World} {lo hi : Nat} {v : Value} {ms : List OM} (h : OwnIn w lo hi v ms) : RawAt w (fun b => lo ≤ b ∧ b < hi) (.agg #[v]) (plain ms) := ⟨v, rfl, h.at_⟩
theorem Zone.set {w : World} (p : Addr) (v : Value) : Zone p.block (p.block + 1) w (w.setCell p v) :=
  ⟨rfl, rfl, rfl, by simp [World.setCell], fun b _ hz => Below.heap_setCell w p v b (by omega)⟩
theorem OwnIn.off {w : World} {lo hi : Nat} {v : Value} {ms : List OM} (h : OwnIn w lo hi v ms) {p : Addr} (hp : p.block < lo) (hw : hi ≤ w.heap.size) (u : Value) : OwnIn (w.setCell p u) lo hi v ms := h.zone (.set p u) (.inr hp) hw
/-- The same, marked from k on. -/
structure MarkedIn (w : World) (lo hi : Nat) (v : Value) (k : Int) (ms : List OM) : Prop where
  top : ∀ b, v.ownBlock = some b → lo ≤ b ∧ b < hi
  sub : ∀ j (h : j < ms.length) b, ms[j].2.1.ownBlock = some b → lo ≤ b ∧ b < hi
  marked : MarkedR w v k ms
theorem MarkedIn.zone {w w' : World} {lo hi lo' hi' : Nat} {v : Value} {k : Int} {ms : List OM} (h : MarkedIn w lo hi v k ms) (hz : Zone lo' hi' w w') (hd : hi ≤ lo' ∨ hi' ≤ lo) (hw : hi ≤ w.heap.size) : MarkedIn w' lo hi v k ms := by
  refine ⟨h.top, h.sub, ?_⟩
  rcases h.marked with h1 | ⟨gv, cap, rfl, hm, hs⟩
  · exact .inl h1
  · have hg := h.top gv rfl
    refine .inr ⟨gv, cap, rfl, fun j hj hji => ?_, hs.zone (lo := lo) (hi := hi) hz (by omega) fun j hj b hb => by have := h.sub j hj b hb; omega⟩
    obtain ⟨h1, h2⟩ := hm j hj hji
    exact ⟨(hz.cell (by omega) (by omega) _).trans h1, fun g c hgc => by
      have := h.sub j hj g (by rw [hgc]; rfl)
      exact (h2 g c hgc).block (hz.block g (by omega) (by omega))⟩
theorem MarkedIn.below {w w' : World} {lo hi : Nat} {v : Value} {k : Int} {ms : List OM} (h : MarkedIn w lo hi v k ms) (hb : Below w.heap.size w w') (hw : hi ≤ w.heap.size) : MarkedIn w' lo hi v k ms :=
  h.zone (lo' := w.heap.size) (hi' := w.heap.size) (.of_below hb) (.inl hw) hw
/-! Messages that are being laid anew: each one's fields in a block of its own, newer than those before. -/
structure Laid (w : World) (gv : Nat) (ms : List OM) : Prop where
  vals : ∀ j (h : j < ms.length), w.cell? ⟨gv, j * 2 + 1, none⟩ = some ms[j].2.1
  flds : ∀ j (h : j < ms.length), ∃ g cap, ms[j].2.1 = .slice (some ⟨g, 0, none⟩) ms[j].2.2.length cap ∧ gv < g ∧ g < w.heap.size ∧ Fill w g (ms[j].2.2.length * 5)
  each : ∀ i j (hi : i < ms.length) (hj : j < ms.length), i ≠ j → Apart ms[i].2.1 ms[j].2.1
theorem Laid.start (w : World) (gv : Nat) : Laid w gv [] := ⟨fun j h => by simp at h, fun j h => by simp at h, fun i j h => by simp at h⟩
theorem Laid.below {w w' : World} {gv : Nat} {ms : List OM} (h : Laid w gv ms) (hb : Below w.heap.size w w') (hg : gv < w.heap.size) : Laid w' gv ms :=
  ⟨fun j hj => (hb.cell (p := ⟨gv, _, none⟩) hg).trans (h.vals j hj), fun j hj => by
    obtain ⟨g, c, h1, h2, h3, h4⟩ := h.flds j hj
    exact ⟨g, c, h1, h2, Nat.lt_of_lt_of_le h3 hb.size, h4.below hb h3⟩, h.each⟩
theorem Fill.off {w : World} {g m : Nat} (h : Fill w g m) {p : Addr} (hp : p.block ≠ g) (v : Value) : Fill (w.setCell p v) g m :=
  ⟨by simpa [World.setCell] using h.1, fun j hj => by
    rw [World.frozen?_setCell, World.cell?_setCell_other _ _ _ _ (by intro e; exact hp (by rw [e]))]; exact h.2 j hj⟩
/-- One message more: its value and its fields lie where nothing of the others does. -/
theorem Laid.push {w w2 : World} {gv g cap k : Nat} {ms : List OM} {id : Int} {fs : List RF} {a : Value} (h : Laid w gv ms) (hk : ms.length = k) (hb : Below w.heap.size w w2) (hg : gv < w.heap.size) (hlo : w.heap.size ≤ g) (hhi : g < w2.heap.size) (hf : Fill w2 g (fs.length * 5))
    (hc : ∃ v, w2.cell? ⟨gv, k * 2 + 1, none⟩ = some v) :
    Laid ((w2.setCell ⟨gv, k * 2, none⟩ a).setCell ⟨gv, k * 2 + 1, none⟩ (.slice (some ⟨g, 0, none⟩) fs.length cap)) gv (ms ++ [(id, .slice (some ⟨g, 0, none⟩) fs.length cap, fs)]) := by
  subst hk
  have hL := h.below hb hg
  have hz : ((w2.setCell ⟨gv, ms.length * 2, none⟩ a).setCell ⟨gv, ms.length * 2 + 1, none⟩ (.slice (some ⟨g, 0, none⟩) fs.length cap)).heap.size = w2.heap.size := by simp [World.setCell]
  have hold : ∀ j (hj : j < ms.length), ∃ g' cap', ms[j].2.1 = .slice (some ⟨g', 0, none⟩) ms[j].2.2.length cap' ∧ gv < g' ∧ g' < w.heap.size := fun j hj => by
    obtain ⟨g', c', h1, h2, h3, _⟩ := h.flds j hj
    exact ⟨g', c', h1, h2, h3⟩
  refine ⟨fun j hj => ?_, fun j hj => ?_, fun i j hi hj hij => ?_⟩
  · by_cases e : j < ms.length
    · rw [List.getElem_append_left e, cell_off (by omega), cell_off (by omega)]; exact hL.vals j e
    · obtain rfl : j = ms.length := by simp at hj; omega
      rw [List.getElem_append_right (by omega)]
      simp only [Nat.sub_self, List.getElem_cons_zero]
      obtain ⟨v, hv⟩ := hc
      exact World.cell?_setCell_same _ _ _ (by rw [cell_off (by omega)]; exact hv)
  · by_cases e : j < ms.length
    · rw [List.getElem_append_left e]
      obtain ⟨g', c', h1, h2, h3, h4⟩ := hL.flds j e
      exact ⟨g', c', h1, h2, by omega, (h4.off (by simp; omega) _).off (by simp; omega) _⟩
    · obtain rfl : j = ms.length := by simp at hj; omega
      rw [List.getElem_append_right (by omega)]
      simp only [Nat.sub_self, List.getElem_cons_zero]
      exact ⟨g, cap, rfl, by omega, by omega, (hf.off (by simp; omega) _).off (by simp; omega) _⟩
  · by_cases e : i < ms.length
    · by_cases e2 : j < ms.length
      · rw [List.getElem_append_left e, List.getElem_append_left e2]; exact h.each i j e e2 hij
      · obtain rfl : j = ms.length := by simp at hj; omega
        rw [List.getElem_append_left e, List.getElem_append_right (by omega)]
        simp only [Nat.sub_self, List.getElem_cons_zero]
        obtain ⟨g', c', h1, h2, h3⟩ := hold i e
        rw [h1]
        exact .inr (by simp [Value.ownBlock]; omega)
    · obtain rfl : i = ms.length := by simp at hi; omega
      have e2 : j < ms.length := by simp at hj; omega
      rw [List.getElem_append_right (by omega), List.getElem_append_left e2]
      simp only [Nat.sub_self, List.getElem_cons_zero]
      obtain ⟨g', c', h1, h2, h3⟩ := hold j e2
      rw [h1]
      exact .inr (by simp [Value.ownBlock]; omega)
/-- A row of fields in a block of its own, from B on. -/
def FLies (w : World) (B : Nat) (u : Value) (n : Nat) : Prop := ∃ g cap, u = .slice (some ⟨g, 0, none⟩) n cap ∧ B ≤ g ∧ Fill w g (n * 5)
theorem Laid.done {w : World} {gv cap : Nat} {ms : List OM} (h : Laid w gv ms) (hf : Fill w gv (ms.length * 2)) (hat : MsgsAt w (fun b => gv ≤ b ∧ b < w.heap.size) (.slice (some ⟨gv, 0, none⟩) ms.length cap) (plain ms)) : OwnIn w gv w.heap.size (.slice (some ⟨gv, 0, none⟩) ms.length cap) ms :=
  ⟨fun b hb => by obtain rfl : gv = b := Option.some.inj hb; exact ⟨Nat.le_refl _, hf.1⟩, fun j hj b hb => by
    obtain ⟨g, c, h1, h2, h3, _⟩ := h.flds j hj
    rw [h1] at hb
    obtain rfl : g = b := Option.some.inj hb
    omega, hat, .inr ⟨gv, cap, rfl, hf, h.vals, fun j hj => by
    obtain ⟨g, c, h1, h2, h3, h4⟩ := h.flds j hj
    exact .inr ⟨g, c, h1, by omega, h4⟩, h.each⟩⟩
theorem plain_snoc {ms : List OM} {r : List RM} {k : Nat} (h : plain ms = r.take k) (hk : k < r.length) (v : Value) : plain (ms ++ [(r[k].1, v, r[k].2)]) = r.take (k + 1) := by
  rw [List.take_succ_eq_append_getElem hk, ← h]; simp [plain]
theorem plain_len {ms : List OM} {r : List RM} {k : Nat} (h : plain ms = r.take k) (hk : k ≤ r.length) : ms.length = k := by
  have := congrArg List.length h; simp [plain] at this; omega
end Go.Proofs.YtpkofbdfnbpfpaaGreat.Num
