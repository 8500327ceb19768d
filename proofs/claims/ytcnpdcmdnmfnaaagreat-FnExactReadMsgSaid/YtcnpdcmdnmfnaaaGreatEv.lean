/-
  Events in memory: what it says that a value holds a list of events, told by plain lists; a row that is being filled. For any program.
-/
import Derived.Test.YtcnpdcmdnmfnaaaGreatRaw
namespace Go.Proofs.YtcnpdcmdnmfnaaaGreat.Num
open Go.RowKit Go.Proofs
set_option linter.unusedVariables false

structure Ev where
  kind : Int
  field : Int
  bits : Int
  len : Int
  text : ByteArray
  code : Int
  pos : Int
theorem Ev.eta (e : Ev) : ∃ k f b l t c p, e = ⟨k, f, b, l, t, c, p⟩ := by obtain ⟨k, f, b, l, t, c, p⟩ := e; exact ⟨k, f, b, l, t, c, p, rfl⟩
theorem Ev.same {a b : Ev} : a = b ↔ a.kind = b.kind ∧ a.field = b.field ∧ a.bits = b.bits ∧ a.len = b.len ∧ a.text = b.text ∧ a.code = b.code ∧ a.pos = b.pos := by
  obtain ⟨k, f, b', l, t, c, p⟩ := a
  obtain ⟨k', f', b'', l', t', c', p'⟩ := b
  constructor
  · intro h; injection h with h1 h2 h3 h4 h5 h6 h7; exact ⟨h1, h2, h3, h4, h5, h6, h7⟩
  · rintro ⟨h1, h2, h3, h4, h5, h6, h7⟩; simp only at h1 h2 h3 h4 h5 h6 h7; subst h1 h2 h3 h4 h5 h6 h7; rfl
instance : DecidableEq Ev := fun a b => decidable_of_iff _ (Ev.same (a := a) (b := b)).symm
/-- The numbers are in their types' ranges, the text is a Go string's. -/
structure Ev.Wf (e : Ev) : Prop where
  kind : -9223372036854775808 ≤ e.kind ∧ e.kind ≤ 9223372036854775807
  field : -9223372036854775808 ≤ e.field ∧ e.field ≤ 9223372036854775807
  bits : 0 ≤ e.bits ∧ e.bits ≤ 18446744073709551615
  len : -9223372036854775808 ≤ e.len ∧ e.len ≤ 9223372036854775807
  text : e.text.size ≤ 9223372036854775807
  code : -9223372036854775808 ≤ e.code ∧ e.code ≤ 9223372036854775807
  pos : -9223372036854775808 ≤ e.pos ∧ e.pos ≤ 9223372036854775807
def evC (e : Ev) : List Value := [.int .i64 e.kind, .int .i64 e.field, .int .u64 e.bits, .int .i64 e.len, .string e.text, .int .i64 e.code, .int .i64 e.pos]
def evV (e : Ev) : Value := .agg #[.int .i64 e.kind, .int .i64 e.field, .int .u64 e.bits, .int .i64 e.len, .string e.text, .int .i64 e.code, .int .i64 e.pos]
def evR (e : Ev) (cs : List Value) : Prop := cs = evC e
def EvsAt (w : World) (S : Nat → Prop) (v : Value) (l : List Ev) : Prop := RowAt w S 7 evR v l
/-- The seven cells of an event from p on. -/
def cells7 (w : World) (b p : Nat) (e : Ev) : Prop :=
  w.cell? ⟨b, p, none⟩ = some (.int .i64 e.kind) ∧ w.cell? ⟨b, p + 1, none⟩ = some (.int .i64 e.field) ∧ w.cell? ⟨b, p + 2, none⟩ = some (.int .u64 e.bits) ∧ w.cell? ⟨b, p + 3, none⟩ = some (.int .i64 e.len) ∧ w.cell? ⟨b, p + 4, none⟩ = some (.string e.text) ∧ w.cell? ⟨b, p + 5, none⟩ = some (.int .i64 e.code) ∧ w.cell? ⟨b, p + 6, none⟩ = some (.int .i64 e.pos)
theorem cells7.same {w w' : World} {b p : Nat} {e : Ev} (h : cells7 w b p e) (hc : ∀ o, w'.cell? ⟨b, o, none⟩ = w.cell? ⟨b, o, none⟩) : cells7 w' b p e := by
  unfold cells7 at h ⊢
  rw [hc, hc, hc, hc, hc, hc, hc]; exact h
theorem cells7.below {w w' : World} {b p B : Nat} {e : Ev} (h : cells7 w b p e) (hb : Below B w w') (hB : b < B) : cells7 w' b p e := h.same fun o => hb.cell (p := ⟨b, o, none⟩) hB
section
variable {w w' : World} {S S' : Nat → Prop} {v : Value} {l : List Ev}
theorem EvsAt.keep (h : EvsAt w S v l) (hk : Kept S w w') (hS : ∀ b, S b → S' b) : EvsAt w' S' v l := RowAt.keep h hk hS fun _ _ h => h
theorem EvsAt.below {D : Nat} (h : EvsAt w S v l) (hb : Below D w w') (hS : ∀ b, S b → b < D) : EvsAt w' S v l := h.keep (.of_below hb hS) fun _ h => h
theorem EvsAt.grow {D : Nat} (h : EvsAt w (· < D) v l) (hb : Below D w w') (hD : D ≤ w.heap.size) : EvsAt w' (· < w'.heap.size) v l :=
  h.keep (.of_below hb fun _ h => h) fun b hb' => Nat.lt_of_lt_of_le hb' (Nat.le_trans hD hb.size)
theorem EvsAt.wide (h : EvsAt w S v l) (hS : ∀ b, S b → S' b) : EvsAt w S' v l := h.keep (fun _ _ _ => rfl) hS
theorem EvsAt.nil (w : World) (S : Nat → Prop) (a : Option Addr) (cap : Nat) : EvsAt w S (.slice a 0 cap) [] := .inl ⟨rfl, a, cap, rfl⟩
theorem EvsAt.len (h : EvsAt w S v l) : ∃ a cap, v = .slice a l.length cap := by
  rcases h with ⟨rfl, a, cap, rfl⟩ | ⟨b, o, cap, rfl, _⟩
  · exact ⟨a, cap, rfl⟩
  · exact ⟨_, cap, rfl⟩
theorem EvsAt.cells (h : EvsAt w S v l) (h0 : 0 < l.length) : ∃ b o cap, v = .slice (some ⟨b, o, none⟩) l.length cap ∧ S b ∧ ∀ i (hi : i < l.length), cells7 w b (o + i * 7) l[i] := by
  rcases h with ⟨rfl, _⟩ | ⟨b, o, cap, hv, _, hC, hc⟩
  · simp at h0
  · refine ⟨b, o, cap, hv, hC, fun i hi => ?_⟩
    obtain ⟨cs, hl, hR, hcs⟩ := hc i hi
    unfold evR at hR
    subst hR
    exact ⟨hcs 0 (by simp [evC]), hcs 1 (by simp [evC]), hcs 2 (by simp [evC]), hcs 3 (by simp [evC]), hcs 4 (by simp [evC]), hcs 5 (by simp [evC]), hcs 6 (by simp [evC])⟩
/-- The i-th event's cells, where the slice's parts are known. -/
theorem EvsAt.cellsAt {a : Option Addr} {n cap : Nat} (h : EvsAt w S (.slice a n cap) l) (i : Nat) (hi : i < l.length) : ∃ b o, a = some ⟨b, o, none⟩ ∧ S b ∧ cells7 w b (o + i * 7) l[i] := by
  obtain ⟨b, o, c, hv, hS, hc⟩ := h.cells (by omega)
  injection hv with e1 e2 e3
  exact ⟨b, o, e1, hS, hc i hi⟩
end
/-! A row that is being filled. -/
def ERow (w : World) (g n k : Nat) (l : List Ev) : Prop := Fill w g (n * 7) ∧ ∀ i (hi : i < l.length), i < k → cells7 w g (i * 7) l[i]
theorem ERow.start {w : World} {B g n : Nat} {E : TypeId} {xs : List Value} {l : List Ev} (h : w.ownsRow B E 7 (.slice (some ⟨g, 0, none⟩) n n) n xs) : ERow w g n 0 l := ⟨Fill.own h, fun i _ hi => by omega⟩
theorem ERow.below {w w' : World} {g n k B : Nat} {l : List Ev} (h : ERow w g n k l) (hb : Below B w w') (hg : g < B) : ERow w' g n k l :=
  ⟨h.1.below hb hg, fun i hi hk => (h.2 i hi hk).below hb hg⟩
/-- An event stored at p, field by field. -/
def putEv (w : World) (g p : Nat) (e : Ev) : World :=
  ((((((w.setCell ⟨g, p, none⟩ (.int .i64 e.kind)).setCell ⟨g, p + 1, none⟩ (.int .i64 e.field)).setCell ⟨g, p + 2, none⟩ (.int .u64 e.bits)).setCell ⟨g, p + 3, none⟩ (.int .i64 e.len)).setCell ⟨g, p + 4, none⟩ (.string e.text)).setCell ⟨g, p + 5, none⟩ (.int .i64 e.code)).setCell ⟨g, p + 6, none⟩ (.int .i64 e.pos)
theorem Fill.putEv {w : World} {g m : Nat} (h : Fill w g m) (p : Nat) (e : Ev) : Fill (putEv w g p e) g m := ((((((h.set _ _).set _ _).set _ _).set _ _).set _ _).set _ _).set _ _
theorem putEv_off {w : World} {g p q : Nat} (e : Ev) (h : q < p ∨ p + 7 ≤ q) : (putEv w g p e).cell? ⟨g, q, none⟩ = w.cell? ⟨g, q, none⟩ := by
  unfold putEv
  rw [cell_off (by omega), cell_off (by omega), cell_off (by omega), cell_off (by omega), cell_off (by omega), cell_off (by omega), cell_off (by omega)]
theorem putEv_cells {w : World} {g m p : Nat} (hf : Fill w g m) (e : Ev) (hp : p + 7 ≤ m) : cells7 (putEv w g p e) g p e := by
  unfold putEv
  refine ⟨?_, ?_, ?_, ?_, ?_, ?_, ?_⟩
  · rw [cell_off (by omega), cell_off (by omega), cell_off (by omega), cell_off (by omega), cell_off (by omega), cell_off (by omega)]; exact hf.same (by omega) _
  · rw [cell_off (by omega), cell_off (by omega), cell_off (by omega), cell_off (by omega), cell_off (by omega)]; exact (hf.set _ _).same (by omega) _
  · rw [cell_off (by omega), cell_off (by omega), cell_off (by omega), cell_off (by omega)]; exact ((hf.set _ _).set _ _).same (by omega) _
  · rw [cell_off (by omega), cell_off (by omega), cell_off (by omega)]; exact (((hf.set _ _).set _ _).set _ _).same (by omega) _
  · rw [cell_off (by omega), cell_off (by omega)]; exact ((((hf.set _ _).set _ _).set _ _).set _ _).same (by omega) _
  · rw [cell_off (by omega)]; exact (((((hf.set _ _).set _ _).set _ _).set _ _).set _ _).same (by omega) _
  · exact ((((((hf.set _ _).set _ _).set _ _).set _ _).set _ _).set _ _).same (by omega) _
theorem cells7.putOff {w : World} {g p q : Nat} {x : Ev} (h : cells7 w g q x) (e : Ev) (hp : q + 7 ≤ p ∨ p + 7 ≤ q) : cells7 (putEv w g p e) g q x := by
  unfold cells7 at h ⊢
  rw [putEv_off _ (by omega), putEv_off _ (by omega), putEv_off _ (by omega), putEv_off _ (by omega), putEv_off _ (by omega), putEv_off _ (by omega), putEv_off _ (by omega)]
  exact h
theorem ERow.put {w : World} {g n k : Nat} {l : List Ev} (h : ERow w g n k l) (hk : k < n) (hl : k < l.length) : ERow (putEv w g (k * 7) l[k]) g n (k + 1) l := by
  refine ⟨h.1.putEv _ _, fun i hi hik => ?_⟩
  by_cases e : i = k
  · subst e; exact putEv_cells h.1 _ (by omega)
  · exact (h.2 i hi (by omega)).putOff _ (by omega)
theorem evsAt_of {w : World} {g o cap : Nat} {S : Nat → Prop} {l : List Ev} (h : ∀ i (hi : i < l.length), cells7 w g (o + i * 7) l[i]) (hS : S g) (hcap : l.length ≤ cap) : EvsAt w S (.slice (some ⟨g, o, none⟩) l.length cap) l := by
  by_cases h0 : l = []
  · subst h0; exact .inl ⟨rfl, _, cap, rfl⟩
  · have hp : 0 < l.length := List.length_pos_iff.2 h0
    refine .inr ⟨g, o, cap, rfl, ⟨hp, hcap⟩, hS, fun i hi => ⟨evC l[i], rfl, rfl, fun j hj => ?_⟩⟩
    obtain ⟨e0, e1, e2, e3, e4, e5, e6⟩ := h i hi
    have hj7 : j < 7 := hj
    rw [← Nat.add_assoc]
    match j, hj7 with
    | 0, _ => exact e0
    | 1, _ => exact e1
    | 2, _ => exact e2
    | 3, _ => exact e3
    | 4, _ => exact e4
    | 5, _ => exact e5
    | 6, _ => exact e6
theorem ERow.done {w : World} {g : Nat} {l : List Ev} (h : ERow w g l.length l.length l) (cap : Nat) (hcap : l.length ≤ cap) : EvsAt w (· = g) (.slice (some ⟨g, 0, none⟩) l.length cap) l :=
  evsAt_of (fun i hi => by rw [Nat.zero_add]; exact h.2 i hi hi) rfl hcap
theorem Fill.slots7 {w : World} {g n k : Nat} (h : Fill w g (n * 7)) (hk : k < n) : ∃ v0 v1 v2 v3 v4 v5 v6, w.cell? ⟨g, k * 7, none⟩ = some v0 ∧ w.cell? ⟨g, k * 7 + 1, none⟩ = some v1 ∧ w.cell? ⟨g, k * 7 + 2, none⟩ = some v2 ∧ w.cell? ⟨g, k * 7 + 3, none⟩ = some v3 ∧ w.cell? ⟨g, k * 7 + 4, none⟩ = some v4 ∧ w.cell? ⟨g, k * 7 + 5, none⟩ = some v5 ∧ w.cell? ⟨g, k * 7 + 6, none⟩ = some v6 ∧
    w.frozen? ⟨g, k * 7, none⟩ = false ∧ w.frozen? ⟨g, k * 7 + 1, none⟩ = false ∧ w.frozen? ⟨g, k * 7 + 2, none⟩ = false ∧ w.frozen? ⟨g, k * 7 + 3, none⟩ = false ∧ w.frozen? ⟨g, k * 7 + 4, none⟩ = false ∧ w.frozen? ⟨g, k * 7 + 5, none⟩ = false ∧ w.frozen? ⟨g, k * 7 + 6, none⟩ = false := by
  obtain ⟨⟨v0, h0⟩, f0⟩ := h.2 (k * 7) (by omega)
  obtain ⟨⟨v1, h1⟩, f1⟩ := h.2 (k * 7 + 1) (by omega)
  obtain ⟨⟨v2, h2⟩, f2⟩ := h.2 (k * 7 + 2) (by omega)
  obtain ⟨⟨v3, h3⟩, f3⟩ := h.2 (k * 7 + 3) (by omega)
  obtain ⟨⟨v4, h4⟩, f4⟩ := h.2 (k * 7 + 4) (by omega)
  obtain ⟨⟨v5, h5⟩, f5⟩ := h.2 (k * 7 + 5) (by omega)
  obtain ⟨⟨v6, h6⟩, f6⟩ := h.2 (k * 7 + 6) (by omega)
  exact ⟨v0, v1, v2, v3, v4, v5, v6, h0, h1, h2, h3, h4, h5, h6, f0, f1, f2, f3, f4, f5, f6⟩
/-- The events' count and their texts together are small, as the laws' szEventS bounds them. -/
def textsLen (l : List Ev) : Nat := (l.map fun e => e.text.size).sum
def SmallE (l : List Ev) : Prop := l.length ≤ 1048576 ∧ textsLen l ≤ 1048576
def EvsWf (l : List Ev) : Prop := ∀ e ∈ l, e.Wf
theorem textsLen_nil : textsLen [] = 0 := rfl
theorem textsLen_append (a b : List Ev) : textsLen (a ++ b) = textsLen a + textsLen b := by simp [textsLen]
theorem textsLen_take (l : List Ev) (k : Nat) (hk : k < l.length) : textsLen (l.take (k + 1)) = textsLen (l.take k) + l[k].text.size := by
  rw [List.take_succ_eq_append_getElem hk, textsLen_append]; simp [textsLen]
theorem textsLen_mem {l : List Ev} {e : Ev} (h : e ∈ l) : e.text.size ≤ textsLen l := by
  induction l with
  | nil => simp at h
  | cons x xs ih =>
    rcases List.mem_cons.1 h with rfl | h
    · simp [textsLen]
    · have := ih h; simp [textsLen] at this ⊢; omega
end Go.Proofs.YtcnpdcmdnmfnaaaGreat.Num
