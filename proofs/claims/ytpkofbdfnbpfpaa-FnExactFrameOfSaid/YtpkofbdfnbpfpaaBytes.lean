/-
  Lemmas on a byte slice of the call's own, for any program: what it holds as a list of bytes, what append and string(..) do to it. No function of the program is named here.
-/
import Derived.WalkKit
import Derived.Below
import Derived.Deep.AppendLies
import Derived.Laws.BytesArg
import Derived.Laws.IdiomStrings
import Derived.Lib.Hide
import Derived.OwnWalk
namespace Go.Proofs.Ytpkofbdfnbpfpaa.Num
open Go.RowKit Go.Proofs

def byteV (b : UInt8) : Value := .int .u8 (b.toNat : Int)
/-- The slice value v owns, in blocks from B on, just the bytes l (E: the number of the type uint8). -/
def OwnB (w : World) (B : Nat) (E : TypeId) (v : Value) (l : List UInt8) : Prop := w.ownsRow B E 1 v l.length (l.map byteV)

section
variable {w : World} {B : Nat} {E : TypeId} {v : Value} {l : List UInt8}
theorem OwnB.alloc (h : OwnB w B E v l) (o : Obj) : OwnB (w.alloc o) B E v l := World.ownsRow.alloc h o
theorem OwnB.drew (h : OwnB w B E v l) : OwnB w.drew B E v l := h
theorem OwnB.nil : OwnB w B E (.slice none 0 0) [] := World.ownsRow_nil w B E 1
/-- '[]byte{}' and its like: a block of no cells. -/
theorem OwnB.empty (hB : B ≤ w.heap.size) : OwnB (w.alloc (.cells #[] E)) B E (.slice (some ⟨w.heap.size, 0, none⟩) 0 0) [] :=
  World.ownsRow_lit w #[] 0 hB (Nat.zero_le _) rfl
/-- 'make([]byte, 0, c)'. -/
theorem OwnB.made (cur : Array Value) (c : Nat) (hB : B ≤ w.heap.size) (hm : c ≤ maxLen) (hs : cur.size = c) : OwnB (w.alloc (.cells cur E)) B E (.slice (some ⟨w.heap.size, 0, none⟩) 0 c) [] :=
  World.ownsRow_made w cur c hB hm (by rw [hs, Nat.mul_one])
theorem oneCell_map (new : List UInt8) : ∀ u ∈ new.map byteV, u.oneCell' = true := by
  intro u hu
  obtain ⟨b, _, rfl⟩ := List.mem_map.1 hu
  rfl

theorem byteV_of (x : Int) (h0 : 0 ≤ x) (h : x < 256) : byteV (UInt8.ofNat x.toNat) = .int .u8 x := by
  unfold byteV
  have h1 : (UInt8.ofNat x.toNat).toNat = x.toNat := by simp [UInt8.toNat_ofNat']; omega
  rw [h1]
  congr 1
  omega

theorem run_appB {P : Program} (t ty : TypeId) (i : TypeInfo) (ht : P.underlying t = some (.slice E)) (hi : P.info? E = some i) (hz : i.zero = some (.int .u8 0)) (hsize : i.size = 1) (hby : i.bytes = 1)
    (hown : OwnB w B E v l) (b : Nat) (C : Array Value) (fr : Nat × Nat) (hb : w.heap[b]? = some (.cells C E fr)) (m c : Nat) (new : List UInt8) (hC : C.toList = new.map byteV) (hm : new.length = m) (h0 : 0 < m)
    (hlen : l.length + m ≤ 140737488355328) (hB : B ≤ w.heap.size) :
    ∃ v' w', (Builtin.append_ #[t, t] ty #[v, .slice (some ⟨b, 0, none⟩) m c]).run P w = .ok v' w' ∧ OwnB w' B E v' (l ++ new) ∧ Below B w w' ∧ w.grownBy w' v.ownBlock ∧ (v'.ownBlock = v.ownBlock ∨ v'.ownBlock = some w.heap.size) := by
  subst hm
  obtain ⟨v', w', hr, h2, h3, _, h5⟩ := run_append_own_at (P := P) w B t ty E i (.int .u8 0) 1 1 ht hi hz hsize hby rfl (by decide) v l.length (l.map byteV) hown ⟨b, 0, none⟩ new.length c (new.map byteV) (by simp)
    (fun j u hj => World.news_of_block hb j u (by rw [hC]; exact hj)) (oneCell_map new) (by unfold maxLen; omega) (by omega) hB
  refine ⟨v', w', hr, ?_, (Below.refl _ _).grown h3 hB (fun k hk => (hown.lt k hk).1), h3, h5⟩
  unfold OwnB
  rw [List.length_append, List.map_append]
  exact h2

/-- 'make([]byte, 0, n)'. -/
theorem wpList_makeB {P : Program} {ops : Array Oper} {rest : List Oper} {o : Oper} {a : Act} {Q : Exit → Act → World → Prop} (hg : o.guard = none) (l c : Operand) (t : TypeId) (hop : o.op = Op.makeSlice t l c)
    (B : Nat) (E : TypeId) (i : TypeInfo) (ht : P.underlying t = some (.slice E)) (hi : P.info? E = some i) (hz : i.zero = some (.int .u8 0)) (hsize : i.size = 1) (hby : i.bytes = 1)
    (C : Int) (n : Nat) (hl : a.eval l = .int .i64 0) (hc : a.eval c = .int .i64 C) (hC : C = (n : Int)) (hn : n ≤ 281474976710656) (hB : B ≤ w.heap.size)
    (h : ∀ v' w', OwnB w' B E v' [] → Below B w w' → wpList P ops Q rest (a.put o.dst v') w') : wpList P ops Q (o :: rest) a w :=
  wpList_make_own (P := P) w hg l c t hop B E i (.int .u8 0) 1 ht hi hz hsize .i64 .i64 C n hl hc hC (by rw [hby]; omega) (by unfold maxLen; omega) hB
    (fun w' h1 h2 => h _ w' h1 ((Below.refl _ _).grown h2 hB (fun k hk => by cases hk)))
/-- append, at the list of a plain region's operations. -/
theorem wpList_appB {P : Program} {ops : Array Oper} {rest : List Oper} {o : Oper} {a : Act} {Q : Exit → Act → World → Prop} (hgd : o.guard = none) (s x : Operand) (t : TypeId)
    (ho : o.op = .call { callee := .builtin .append, args := #[s, x], argTypes := #[t, t] })
    (B : Nat) (E : TypeId) (i : TypeInfo) (ht : P.underlying t = some (.slice E)) (hi : P.info? E = some i) (hz : i.zero = some (.int .u8 0)) (hsize : i.size = 1) (hby : i.bytes = 1)
    (v : Value) (l : List UInt8) (hs : a.eval s = v) (hown : OwnB w B E v l) (b : Nat) (C : Array Value) (fr : Nat × Nat) (hb : w.heap[b]? = some (.cells C E fr)) (m c : Nat) (hx : a.eval x = .slice (some ⟨b, 0, none⟩) m c)
    (new : List UInt8) (hC : C.toList = new.map byteV) (hm : new.length = m) (h0 : 0 < m) (hlen : l.length + m ≤ 140737488355328) (hB : B ≤ w.heap.size)
    (h : ∀ v' w', OwnB w' B E v' (l ++ new) → Below B w w' → wpList P ops Q rest (a.put o.dst v') w') : wpList P ops Q (o :: rest) a w := by
  refine wpList_plain hgd fun _ hK => ?_
  obtain ⟨v', w', hr, h2, h3, _, _⟩ := run_appB (P := P) t o.type i ht hi hz hsize hby hown b C fr hb m c new hC hm h0 hlen hB
  unfold Oper.wp execOp
  simp only [ho, resolve, invoke, builtin, Sem.run_bind, Sem.run_pure, Result.andThen_ok, List.map_toArray, List.map_cons, List.map_nil, hs, hx, hr]
  exact hK _ _ (h v' w' h2 h3)
/-- append, at a step of a region that draws its order. -/
theorem step_appB {P : Program} {ops : Array Oper} {o : Oper} {a : Act} {K : Act → World → Prop} {Q : Exit → Act → World → Prop} {X : Prop} (hgd : o.guard = none) (s x : Operand) (t : TypeId)
    (ho : o.op = .call { callee := .builtin .append, args := #[s, x], argTypes := #[t, t] })
    (B : Nat) (E : TypeId) (i : TypeInfo) (ht : P.underlying t = some (.slice E)) (hi : P.info? E = some i) (hz : i.zero = some (.int .u8 0)) (hsize : i.size = 1) (hby : i.bytes = 1)
    (v : Value) (l : List UInt8) (hs : a.eval s = v) (hown : OwnB w B E v l) (b : Nat) (C : Array Value) (fr : Nat × Nat) (hb : w.heap[b]? = some (.cells C E fr)) (m c : Nat) (hx : a.eval x = .slice (some ⟨b, 0, none⟩) m c)
    (new : List UInt8) (hC : C.toList = new.map byteV) (hm : new.length = m) (h0 : 0 < m) (hlen : l.length + m ≤ 140737488355328) (hB : B ≤ w.heap.size)
    (h : ∀ v' w', OwnB w' B E v' (l ++ new) → Below B w w' → K (a.put o.dst v') w') : if Region.wanted o (yielded ops a.tmps) = true then Oper.wp P o a w K Q else X := by
  have hw : Region.wanted o (yielded ops a.tmps) = true := by simp [Region.wanted, hgd]
  rw [if_pos hw]
  obtain ⟨v', w', hr, h2, h3, _, _⟩ := run_appB (P := P) t o.type i ht hi hz hsize hby hown b C fr hb m c new hC hm h0 hlen hB
  unfold Oper.wp execOp
  simp only [ho, resolve, invoke, builtin, Sem.run_bind, Sem.run_pure, Result.andThen_ok, List.map_toArray, List.map_cons, List.map_nil, hs, hx, hr]
  exact h v' w' h2 h3

/-- 'string(b)'. -/
theorem run_convB {P : Program} (src dst : TypeId) (hs : P.underlying src = some (.slice E)) (he : P.underlying E = some (.int .u8)) (hd : P.underlying dst = some .string) (hown : OwnB w B E v l) :
    (convert src dst v).run P w = .ok (.string ⟨l.toArray⟩) w := by
  have hown2 := hown
  obtain ⟨hl, h | ⟨g, cap, cur, rfl, hg, hblk, hn, _, hsz, htk⟩⟩ := hown
  · obtain ⟨rfl, h0⟩ := h
    have hl0 : l = [] := List.length_eq_zero_iff.1 h0
    subst hl0
    exact run_convert_bytes_nil (P := P) w src E hs he 0 0 dst hd
  · refine run_convert_bytes_back (P := P) w src dst E ⟨g, 0, none⟩ cap l hs he hd (fun j hj => ?_)
    have hc := World.ownsRow.cells hown2 (g := g) rfl j (byteV l[j]) (by simp [List.getElem?_eq_getElem hj])
    exact hc
end
end Go.Proofs.Ytpkofbdfnbpfpaa.Num
