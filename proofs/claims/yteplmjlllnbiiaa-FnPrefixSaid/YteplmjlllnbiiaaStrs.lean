/-
  Lemmas on slices of one-cell elements of the call's own, for any program: append; a slice of strings that can be read. No function of the program is named here.
-/
import Derived.Test.YteplmjlllnbiiaaBytes
import Derived.Laws.Rows
namespace Go.Proofs.Yteplmjlllnbiiaa.Num
open Go.RowKit Go.Proofs

section
variable {w : World} {B : Nat} {E : TypeId} {v : Value} {n : Nat} {xs : List Value}
theorem run_appV {P : Program} (t ty : TypeId) (i : TypeInfo) (z : Value) (size bytes : Nat) (ht : P.underlying t = some (.slice E)) (hi : P.info? E = some i) (hz : i.zero = some z) (hsize : i.size = size) (hby : i.bytes = bytes) (hzs : z.cells.size = size) (hsz : 0 < size)
    (hown : w.ownsRow B E size v n xs) (b : Nat) (C : Array Value) (fr : Nat × Nat) (hb : w.heap[b]? = some (.cells C E fr)) (m c : Nat) (hm : C.toList.length = m * size) (h1 : ∀ u ∈ C.toList, u.oneCell' = true)
    (hlen : (n + m) * bytes ≤ 140737488355328) (h63 : n + m ≤ maxLen) (hB : B ≤ w.heap.size) :
    ∃ v' w', (Builtin.append_ #[t, t] ty #[v, .slice (some ⟨b, 0, none⟩) m c]).run P w = .ok v' w' ∧ w'.ownsRow B E size v' (n + m) (xs ++ C.toList) ∧ Below B w w' ∧ w.grownBy w' v.ownBlock ∧ (v'.ownBlock = v.ownBlock ∨ v'.ownBlock = some w.heap.size) := by
  obtain ⟨v', w', hr, h2, h3, _, h5⟩ := run_append_own_at (P := P) w B t ty E i z size bytes ht hi hz hsize hby hzs hsz v n xs hown ⟨b, 0, none⟩ m c C.toList hm
    (fun j u hj => World.news_of_block hb j u hj) h1 h63 hlen hB
  exact ⟨v', w', hr, h2, (Below.refl _ _).grown h3 hB (fun k hk => (hown.lt k hk).1), h3, h5⟩
/-- append of elements that lie in a block of their own, at the list of a plain region's operations. -/
theorem wpList_appV {P : Program} {ops : Array Oper} {rest : List Oper} {o : Oper} {a : Act} {Q : Exit → Act → World → Prop} (hgd : o.guard = none) (s x : Operand) (t : TypeId)
    (ho : o.op = .call { callee := .builtin .append, args := #[s, x], argTypes := #[t, t] })
    (B : Nat) (E : TypeId) (i : TypeInfo) (z : Value) (size bytes : Nat) (ht : P.underlying t = some (.slice E)) (hi : P.info? E = some i) (hz : i.zero = some z) (hsize : i.size = size) (hby : i.bytes = bytes) (hzs : z.cells.size = size) (hsz : 0 < size)
    (v : Value) (n : Nat) (xs : List Value) (hs : a.eval s = v) (hown : w.ownsRow B E size v n xs) (b : Nat) (C : Array Value) (fr : Nat × Nat) (hb : w.heap[b]? = some (.cells C E fr)) (m c : Nat) (hx : a.eval x = .slice (some ⟨b, 0, none⟩) m c)
    (hm : C.toList.length = m * size) (h1 : ∀ u ∈ C.toList, u.oneCell' = true) (hlen : (n + m) * bytes ≤ 140737488355328) (h63 : n + m ≤ maxLen) (hB : B ≤ w.heap.size)
    (h : ∀ v' w', w'.ownsRow B E size v' (n + m) (xs ++ C.toList) → Below B w w' → wpList P ops Q rest (a.put o.dst v') w') : wpList P ops Q (o :: rest) a w := by
  refine wpList_plain hgd fun _ hK => ?_
  obtain ⟨v', w', hr, h2, h3, _, _⟩ := run_appV (P := P) t o.type i z size bytes ht hi hz hsize hby hzs hsz hown b C fr hb m c hm h1 hlen h63 hB
  unfold Oper.wp execOp
  simp only [ho, resolve, invoke, builtin, Sem.run_bind, Sem.run_pure, Result.andThen_ok, List.map_toArray, List.map_cons, List.map_nil, hs, hx, hr]
  exact hK _ _ (h v' w' h2 h3)

/-- A slice of strings reads as ss. -/
def RdS (w : World) (p : Option Addr) (n : Nat) (ss : List ByteArray) : Prop :=
  ss.length = n ∧ (n = 0 ∨ ∃ b off, p = some ⟨b, off, none⟩ ∧ b < w.heap.size ∧ ∀ j (h : j < ss.length), w.cell? ⟨b, off + j, none⟩ = some (.string ss[j]))
/-- An owned slice of strings: its value, its block, its reading. -/
theorem readOwn {ss : List ByteArray} (h : w.ownsRow B E 1 v ss.length (ss.map Value.string)) (h0 : 0 < ss.length) :
    ∃ g cap, v = .slice (some ⟨g, 0, none⟩) ss.length cap ∧ B ≤ g ∧ g < w.heap.size ∧ RdS w (some ⟨g, 0, none⟩) ss.length ss := by
  obtain ⟨g, cap, rfl, hg, hlt⟩ := World.ownsRow.form h h0
  refine ⟨g, cap, rfl, hg, hlt, rfl, .inr ⟨g, 0, rfl, hlt, fun j hj => ?_⟩⟩
  have := World.ownsRow.cellAt h j (by omega)
  rw [Nat.zero_add, this]
  simp [hj]
theorem RdS.below {w' : World} {p : Option Addr} {ss : List ByteArray} (h : RdS w p n ss) (hb : Below w.heap.size w w') : RdS w' p n ss := by
  refine ⟨h.1, ?_⟩
  rcases h.2 with h0 | ⟨b, off, hp, hlt, hc⟩
  · exact .inl h0
  · exact .inr ⟨b, off, hp, Nat.lt_of_lt_of_le hlt hb.size, fun j hj => (hb.cell (p := ⟨b, off + j, none⟩) hlt).trans (hc j hj)⟩
/-- .. and it stays so while another block is written. -/
theorem RdS.off {w' : World} {C g : Nat} {b off : Nat} {ss : List ByteArray} (h : RdS w (some ⟨b, off, none⟩) n ss) (hbC : b < C) (hbg : b ≠ g) (hs : w.heap.size ≤ w'.heap.size) (hk : ∀ k, k < C → k ≠ g → w'.heap[k]? = w.heap[k]?) : RdS w' (some ⟨b, off, none⟩) n ss := by
  refine ⟨h.1, ?_⟩
  rcases h.2 with h0 | ⟨b', off', hp, hlt, hc⟩
  · exact .inl h0
  · obtain ⟨rfl, rfl⟩ : b = b' ∧ off = off' := by injection hp with hp; injection hp with h1 h2; exact ⟨h1, h2⟩
    exact .inr ⟨b, off, rfl, Nat.lt_of_lt_of_le hlt hs, fun j hj => (World.cell?_of_block (a := ⟨b, off + j, none⟩) (hk b hbC hbg)).trans (hc j hj)⟩
end
end Go.Proofs.Yteplmjlllnbiiaa.Num
