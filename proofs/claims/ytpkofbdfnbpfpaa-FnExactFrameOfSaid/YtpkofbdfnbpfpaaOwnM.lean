/-
  Lemmas on a byte slice that the call itself made, told by its cells (so the slice of a converted string is one too): what it holds as a list of bytes, what append, a store and string(..) do to it. For any program.
-/
import Derived.Test.YtpkofbdfnbpfpaaBytes
import Derived.ArgAppend
import Derived.Laws.IdiomCopy
namespace Go.Proofs.Ytpkofbdfnbpfpaa.Num
open Go.RowKit Go.Proofs

/-- The slice value v lies at the head of a block from B on, holds just the bytes l, and all its cells up to the capacity may be written. -/
def OwnM (w : World) (B : Nat) (v : Value) (l : List UInt8) : Prop :=
  ∃ g cap, v = .slice (some ⟨g, 0, none⟩) l.length cap ∧ B ≤ g ∧ g < w.heap.size ∧ l.length ≤ cap ∧ (∀ j (h : j < l.length), w.cell? ⟨g, j, none⟩ = some (byteV l[j])) ∧
    ∀ j, j < cap → (w.cell? ⟨g, j, none⟩).isSome = true ∧ w.frozen? ⟨g, j, none⟩ = false
section
variable {w : World} {B : Nat} {E : TypeId} {v : Value} {l : List UInt8}
theorem OwnM.drew (h : OwnM w B v l) : OwnM w.drew B v l := h
theorem OwnM.mono {C : Nat} (h : OwnM w B v l) (hC : C ≤ B) : OwnM w C v l := by
  obtain ⟨g, cap, hv, hB, hr⟩ := h
  exact ⟨g, cap, hv, Nat.le_trans hC hB, hr⟩
/-- New memory leaves it as it is. -/
theorem OwnM.below {w' : World} (h : OwnM w B v l) (hb : Below w.heap.size w w') : OwnM w' B v l := by
  obtain ⟨g, cap, hv, hB, hg, hl, hc, ho⟩ := h
  refine ⟨g, cap, hv, hB, Nat.lt_of_lt_of_le hg hb.size, hl, fun j hj => (hb.cell (p := ⟨g, j, none⟩) hg).trans (hc j hj), fun j hj => ?_⟩
  rw [hb.cell (p := ⟨g, j, none⟩) hg, hb.frozen (p := ⟨g, j, none⟩) hg]
  exact ho j hj
theorem OwnM.alloc (h : OwnM w B v l) (o : Obj) : OwnM (w.alloc o) B v l := h.below ((Below.refl _ _).alloc (Nat.le_refl _) o)
/-- The bytes of a string, laid in a new row. -/
theorem OwnM.of_cells {g cap : Nat} {C : Array Value} {fr : Nat × Nat} (hblk : w.heap[g]? = some (.cells C E fr)) (hB : B ≤ g) (hl : l.length ≤ cap) (hcap : cap ≤ C.size) (hC : ∀ j (h : j < l.length), C[j]? = some (byteV l[j])) (hf : ∀ j, j < cap → w.frozen? ⟨g, j, none⟩ = false) :
    OwnM w B (.slice (some ⟨g, 0, none⟩) l.length cap) l := by
  have hg : g < w.heap.size := by
    rcases Nat.lt_or_ge g w.heap.size with h' | h'
    · exact h'
    · rw [Array.getElem?_eq_none h'] at hblk; cases hblk
  refine ⟨g, cap, rfl, hB, hg, hl, fun j hj => ?_, fun j hj => ⟨?_, hf j hj⟩⟩
  · rw [cell_of_row w g j C E fr hblk]; exact hC j hj
  · rw [cell_of_row w g j C E fr hblk, Array.getElem?_eq_getElem (by omega)]; rfl
theorem OwnM.of_own (h : OwnB w B E v l) (h0 : 0 < l.length) : OwnM w B v l := by
  have h2 := h
  obtain ⟨hl, h | ⟨g, cap, cur, rfl, hg, hblk, hn, _, hsz, htk⟩⟩ := h
  · omega
  · refine OwnM.of_cells hblk hg hn (by omega) (fun j hj => ?_) (fun j _ => World.ownsRow.frozenAt h2 j)
    have := World.ownsRow.cellAt h2 j (by omega)
    rw [cell_of_row w g j cur E (0, 0) hblk] at this
    rw [this]; simp [hj]
/-- One byte is stored over another. -/
theorem OwnM.store {g cap n : Nat} (h : OwnM w B (.slice (some ⟨g, 0, none⟩) n cap) l) (j : Nat) (hj : j < l.length) (b : UInt8) : OwnM (w.setCell ⟨g, j, none⟩ (byteV b)) B (.slice (some ⟨g, 0, none⟩) n cap) (l.set j b) := by
  obtain ⟨g', cap', hv, hB, hg, hl, hc, ho⟩ := h
  injection hv with h1 h2 h3
  injection h1 with h1
  injection h1 with h1
  subst h1; subst h2; subst h3
  have hold := hc j hj
  refine ⟨g, cap, by rw [List.length_set], hB, by simpa [World.setCell] using hg, by rw [List.length_set]; exact hl, fun i hi => ?_, fun i hi => ?_⟩
  · rw [List.length_set] at hi
    by_cases e : j = i
    · subst e
      rw [World.cell?_setCell_same _ _ _ hold]; simp
    · rw [World.cell?_setCell_other _ _ _ _ (by intro h; injection h with _ h; exact e h), hc i hi, List.getElem_set_ne e]
  · rw [World.frozen?_setCell]
    refine ⟨?_, (ho i hi).2⟩
    by_cases e : j = i
    · subst e
      rw [World.cell?_setCell_same _ _ _ hold]; rfl
    · rw [World.cell?_setCell_other _ _ _ _ (by intro h; injection h with _ h; exact e h)]; exact (ho i hi).1
theorem OwnM.value (h : OwnM w B v l) : ∃ g cap, v = .slice (some ⟨g, 0, none⟩) l.length cap ∧ B ≤ g ∧ g < w.heap.size := by
  obtain ⟨g, cap, hv, hB, hg, _⟩ := h
  exact ⟨g, cap, hv, hB, hg⟩
theorem OwnM.place {g cap n : Nat} (h : OwnM w B (.slice (some ⟨g, 0, none⟩) n cap) l) : B ≤ g ∧ g < w.heap.size := by
  obtain ⟨g', cap', hv, hB, hg, _⟩ := h
  injection hv with h1 _ _
  injection h1 with h1
  injection h1 with h1
  subst h1
  exact ⟨hB, hg⟩
theorem OwnM.cell {g cap n : Nat} (h : OwnM w B (.slice (some ⟨g, 0, none⟩) n cap) l) (j : Nat) (hj : j < l.length) : w.cell? ⟨g, j, none⟩ = some (.int .u8 (l[j].toNat : Int)) ∧ w.frozen? ⟨g, j, none⟩ = false := by
  obtain ⟨g', cap', hv, hB, hg, hl, hc, ho⟩ := h
  injection hv with h1 h2 h3
  injection h1 with h1
  injection h1 with h1
  subst h1
  exact ⟨hc j hj, (ho j (by omega)).2⟩
/-- 'string(b)'. -/
theorem run_convM {P : Program} (src dst : TypeId) (hs : P.underlying src = some (.slice E)) (he : P.underlying E = some (.int .u8)) (hd : P.underlying dst = some .string) (h : OwnM w B v l) :
    (convert src dst v).run P w = .ok (.string ⟨l.toArray⟩) w := by
  obtain ⟨g, cap, rfl, _, _, _, hc, _⟩ := h
  exact run_convert_bytes_back (P := P) w src dst E ⟨g, 0, none⟩ cap l hs he hd (fun j hj => by
    have hadd : (⟨g, 0, none⟩ : Addr).add j = ⟨g, j, none⟩ := by unfold Addr.add; split <;> simp_all
    rw [hadd]; exact hc j hj)
theorem below_setCells {C : Nat} {w0 : World} (g : Nat) (hg : C ≤ g) : ∀ (vs : List Value) (o : Nat) (w : World), Below C w0 w → Below C w0 (w.setCells g o vs)
  | [], _, _, h => h
  | _ :: r, o, _, h => below_setCells g hg r (o + 1) _ (h.setCell hg _)
theorem run_appM {P : Program} (t ty : TypeId) (i : TypeInfo) (ht : P.underlying t = some (.slice E)) (hi : P.info? E = some i) (hz : i.zero = some (.int .u8 0)) (hsize : i.size = 1) (hby : i.bytes = 1)
    (hown : OwnM w B v l) (b : Nat) (C : Array Value) (fr : Nat × Nat) (hb : w.heap[b]? = some (.cells C E fr)) (m c : Nat) (new : List UInt8) (hC : C.toList = new.map byteV) (hm : new.length = m)
    (hlen : l.length + m ≤ 140737488355328) (hB : B ≤ w.heap.size) :
    ∃ v' w', (Builtin.append_ #[t, t] ty #[v, .slice (some ⟨b, 0, none⟩) m c]).run P w = .ok v' w' ∧ OwnM w' B v' (l ++ new) ∧ Below B w w' := by
  subst hm
  obtain ⟨g, cap, rfl, hBg, hg, hl, hc, ho⟩ := hown
  have hnews : ∀ j u, (new.map byteV)[j]? = some u → w.cell? ((⟨b, 0, none⟩ : Addr).add j) = some u := fun j u hj => World.news_of_block hb j u (by rw [hC]; exact hj)
  have hadd : ∀ j, (⟨g, 0, none⟩ : Addr).add j = ⟨g, j, none⟩ := fun j => by unfold Addr.add; split <;> simp_all
  by_cases hroom : l.length + new.length ≤ cap
  · have hr := run_append_room_cells (P := P) w t ty E i ht hi g 0 l.length cap ⟨b, 0, none⟩ new.length c (new.map byteV) (by rw [hsize]; simp) hnews (oneCell_map new) hroom
      (fun j hj => by rw [hsize]; simp only [List.length_map] at hj; simpa using (ho (l.length + j) (by omega)).1) (fun j hj => by rw [hsize]; simp only [List.length_map] at hj; simpa using (ho (l.length + j) (by omega)).2)
    rw [hsize] at hr
    simp only [Nat.zero_add, Nat.mul_one] at hr
    refine ⟨_, _, hr, ⟨g, cap, by rw [List.length_append], hBg, ?_, by rw [List.length_append]; exact hroom, fun j hj => ?_, fun j hj => ?_⟩, below_setCells g hBg _ _ _ (Below.refl _ _)⟩
    · have := (below_setCells g (Nat.zero_le _) (new.map byteV) l.length w (Below.refl 0 w)).size
      omega
    · by_cases hj2 : j < l.length
      · rw [World.cell?_setCells_out g _ _ _ _ (fun _ _ => .inl hj2), hc j hj2, List.getElem_append_left hj2]
      · have hj3 : j - l.length < new.length := by rw [List.length_append] at hj; omega
        have := World.cell?_setCells_in g (new.map byteV) l.length w (fun i hi => by simp only [List.length_map] at hi; exact (ho (l.length + i) (by omega)).1) (j - l.length) (by simpa using hj3)
        rw [show l.length + (j - l.length) = j by omega] at this
        rw [this, List.getElem_append_right (by omega)]
        simp
    · rw [World.frozen?_setCells]
      refine ⟨?_, (ho j hj).2⟩
      by_cases hj2 : j < l.length ∨ l.length + new.length ≤ j
      · rw [World.cell?_setCells_out g _ _ _ _ (fun _ _ => by simpa using hj2)]; exact (ho j hj).1
      · have := World.cell?_setCells_in g (new.map byteV) l.length w (fun i hi => by simp only [List.length_map] at hi; exact (ho (l.length + i) (by omega)).1) (j - l.length) (by simp; omega)
        rw [show l.length + (j - l.length) = j by omega] at this
        rw [this]; rfl
  · obtain ⟨v', w', hr, hown, hgr⟩ := run_append_arg_grows (P := P) w t ty E i (.int .u8 0) 1 1 ht hi hz hsize hby rfl (by decide) ⟨g, 0, none⟩ l.length cap (l.map byteV) (by simp)
      (fun j u hj => by
        obtain ⟨hj2, rfl⟩ := List.getElem?_eq_some_iff.1 hj
        rw [hadd]
        have hj3 : j < l.length := by simpa using hj2
        rw [hc j hj3]; simp) ⟨b, 0, none⟩ new.length c (new.map byteV) (by simp) hnews (by omega) (by unfold maxLen; omega) (by omega)
    have hown2 : OwnB w' w.heap.size E v' (l ++ new) := by unfold OwnB; rw [List.length_append, List.map_append]; exact hown
    refine ⟨v', w', hr, ?_, (Below.refl _ _).grown hgr hB (fun k hk => by cases hk)⟩
    obtain ⟨g', cap', hv, hB', hrest⟩ := OwnM.of_own hown2 (by rw [List.length_append]; omega)
    exact ⟨g', cap', hv, by omega, hrest⟩
/-- append, at the list of a plain region's operations. -/
theorem wpList_appM {P : Program} {ops : Array Oper} {rest : List Oper} {o : Oper} {a : Act} {Q : Exit → Act → World → Prop} (hgd : o.guard = none) (s x : Operand) (t : TypeId)
    (ho : o.op = .call { callee := .builtin .append, args := #[s, x], argTypes := #[t, t] })
    (B : Nat) (E : TypeId) (i : TypeInfo) (ht : P.underlying t = some (.slice E)) (hi : P.info? E = some i) (hz : i.zero = some (.int .u8 0)) (hsize : i.size = 1) (hby : i.bytes = 1)
    (v : Value) (l : List UInt8) (hs : a.eval s = v) (hown : OwnM w B v l) (b : Nat) (C : Array Value) (fr : Nat × Nat) (hb : w.heap[b]? = some (.cells C E fr)) (m c : Nat) (hx : a.eval x = .slice (some ⟨b, 0, none⟩) m c)
    (new : List UInt8) (hC : C.toList = new.map byteV) (hm : new.length = m) (hlen : l.length + m ≤ 140737488355328) (hB : B ≤ w.heap.size)
    (h : ∀ v' w', OwnM w' B v' (l ++ new) → Below B w w' → wpList P ops Q rest (a.put o.dst v') w') : wpList P ops Q (o :: rest) a w := by
  refine wpList_plain hgd fun _ hK => ?_
  obtain ⟨v', w', hr, h2, h3⟩ := run_appM (P := P) t o.type i ht hi hz hsize hby hown b C fr hb m c new hC hm hlen hB
  unfold Oper.wp execOp
  simp only [ho, resolve, invoke, builtin, Sem.run_bind, Sem.run_pure, Result.andThen_ok, List.map_toArray, List.map_cons, List.map_nil, hs, hx, hr]
  exact hK _ _ (h v' w' h2 h3)
end
end Go.Proofs.Ytpkofbdfnbpfpaa.Num
