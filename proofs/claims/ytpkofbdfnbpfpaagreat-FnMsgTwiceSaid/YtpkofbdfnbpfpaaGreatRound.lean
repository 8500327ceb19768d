/-
  What a round of the draw of a right plan (l6Right) keeps: the field's block beside the description that the call owns. For any program.
-/
import Derived.Test.YtpkofbdfnbpfpaaGreatOwnRead
import Derived.Test.YtpkofbdfnbpfpaaGreatBox
namespace Go.Proofs.YtpkofbdfnbpfpaaGreat.Num
open Go.RowKit Go.Proofs
set_option linter.unusedVariables false

theorem OwnRaw.only {w w' : World} {B g : Nat} {TM TF : TypeId} {v : Value} {ms : List OM} (h : OwnRaw w B TM TF v ms) (ho : Only g w w') (hg : g < B) : OwnRaw w' B TM TF v ms :=
  OwnRaw.kept h ho fun k hk => by have : g = k := Option.some.inj hk; omega
theorem OwnRaw.below {w w' : World} {B : Nat} {TM TF : TypeId} {v : Value} {ms : List OM} (h : OwnRaw w B TM TF v ms) (ho : Below w.heap.size w w') : OwnRaw w' B TM TF v ms :=
  OwnRaw.kept (row := none) h ⟨ho.os, ho.tape, ho.output, ho.size, fun k hk _ => ho.block k hk⟩ fun k hk => by cases hk
theorem Box.grown {w w' : World} {g : Nat} {vs : List Value} {row : Option Nat} (hg : w.grownBy w' row) (h : Box w g vs) (hne : ∀ k, row = some k → g ≠ k) : Box w' g vs :=
  ⟨Nat.lt_of_lt_of_le h.1 hg.size, fun j hj => by
    have hb := hg.block g h.1 (fun e => hne g e.symm rfl)
    exact ⟨(World.cell?_of_block (a := ⟨g, j, none⟩) hb).trans (h.2 j hj).1, (World.frozen?_of_block (a := ⟨g, j, none⟩) hb).trans (h.2 j hj).2⟩⟩
theorem Box.fresh2 (w : World) (o : Obj) (cs : Array Value) (t : TypeId) : Box ((w.alloc o).alloc (.cells cs t)) (w.heap.size + 1) cs.toList := by
  have h := Box.fresh (w.alloc o) cs t
  rwa [show (w.alloc o).heap.size = w.heap.size + 1 by simp] at h
/-- How many fields the messages have while the k-th is being filled, c rounds of it done. -/
def Fs (ms : List OM) (k c : Nat) : Prop := ∀ j (hj : j < ms.length), (j < k → ms[j].2.2.length ≤ 5) ∧ (j = k → ms[j].2.2.length ≤ c) ∧ (k < j → ms[j].2.2.length = 0)
theorem Fs.push {ms : List OM} (h : Fs ms 0 0) (id : Int) (v : Value) : Fs (ms ++ [(id, v, [])]) 0 0 := by
  intro j hj
  by_cases e : j < ms.length
  · rw [List.getElem_append_left e]; exact h j e
  · obtain rfl : j = ms.length := by simp at hj; omega
    rw [List.getElem_append_right (by omega)]
    simp
theorem Fs.next {ms : List OM} {k c : Nat} (h : Fs ms k c) (hc : c ≤ 5) : Fs ms (k + 1) 0 := by
  intro j hj
  obtain ⟨h1, h2, h3⟩ := h j hj
  refine ⟨fun a => ?_, fun a => ?_, fun a => ?_⟩
  · by_cases e : j = k
    · have := h2 e; omega
    · exact h1 (by omega)
  · have := h3 (by omega); omega
  · exact h3 (by omega)
theorem Box.five {w : World} {g : Nat} {a b c d e : Value} (h : Box w g [a, b, c, d, e]) : (w.cell? ⟨g, 0, none⟩ = some a ∧ w.cell? ⟨g, 1, none⟩ = some b ∧ w.cell? ⟨g, 2, none⟩ = some c ∧ w.cell? ⟨g, 3, none⟩ = some d ∧ w.cell? ⟨g, 4, none⟩ = some e) ∧
    (w.frozen? ⟨g, 0, none⟩ = false ∧ w.frozen? ⟨g, 1, none⟩ = false ∧ w.frozen? ⟨g, 2, none⟩ = false ∧ w.frozen? ⟨g, 3, none⟩ = false ∧ w.frozen? ⟨g, 4, none⟩ = false) :=
  ⟨⟨(h.2 0 (by simp)).1, (h.2 1 (by simp)).1, (h.2 2 (by simp)).1, (h.2 3 (by simp)).1, (h.2 4 (by simp)).1⟩, (h.2 0 (by simp)).2, (h.2 1 (by simp)).2, (h.2 2 (by simp)).2, (h.2 3 (by simp)).2, (h.2 4 (by simp)).2⟩
theorem OwnRaw.new {w : World} {B : Nat} {TM TF : TypeId} {v : Value} {ms : List OM} (h : OwnRaw w B TM TF v ms) : v.ownBlock ≠ some w.heap.size ∧ ∀ i (hi : i < ms.length), ms[i].2.1.ownBlock ≠ some w.heap.size :=
  ⟨fun e => by have := (h.row.lt _ e).2; omega, fun i hi e => by have := (World.ownsRow.lt (h.fields i hi) _ e).2; omega⟩
theorem OwnRaw.cellsAt {w : World} {B : Nat} {TM TF : TypeId} {g n cap : Nat} {ms : List OM} (h : OwnRaw w B TM TF (.slice (some ⟨g, 0, none⟩) n cap) ms) (hn : ms.length = n) (i : Nat) (hi : i < ms.length) :
    w.cell? ⟨g, i * 2, none⟩ = some (.int .i64 ms[i].1) ∧ w.cell? ⟨g, i * 2 + 1, none⟩ = some ms[i].2.1 ∧ w.frozen? ⟨g, i * 2, none⟩ = false ∧ w.frozen? ⟨g, i * 2 + 1, none⟩ = false := by
  subst hn
  have h2 : (i + 1) * 2 ≤ ms.length * 2 := Nat.mul_le_mul_right _ hi
  refine ⟨?_, ?_, h.row.frozenAt _, h.row.frozenAt _⟩
  · rw [h.row.cellAt _ (by omega)]
    exact (flat_get (f := msgC) (sz := 2) (fun _ => rfl) ms i hi 0 (by omega)).trans rfl
  · rw [h.row.cellAt _ (by omega)]
    exact (flat_get (f := msgC) (sz := 2) (fun _ => rfl) ms i hi 1 (by omega)).trans rfl
/-- Where the walk stands inside a round: a field's block F beside the description. -/
structure St (w : World) (B g : Nat) (a : Option Addr) (len cap : Nat) (TM TF : TypeId) (u : Value) (ms : List OM) (F : Nat) (fs : List Value) (wx : World) : Prop where
  bf : Box wx F fs
  own : OwnRaw wx (w.heap.size + 2) TM TF u ms
  bx : Box wx (w.heap.size + 1) [u]
  bz : Box wx w.heap.size [.slice none 0 0]
  cur : Cur wx B g a len cap
  off : Off w.heap.size g w wx
  lt : g < w.heap.size ∧ w.heap.size + 2 ≤ F ∧ B ≤ w.heap.size
  ap : u.ownBlock ≠ some F ∧ ∀ i (hi : i < ms.length), ms[i].2.1.ownBlock ≠ some F
section
variable {w wx wy : World} {B g : Nat} {a : Option Addr} {len cap : Nat} {TM TF : TypeId} {u : Value} {ms : List OM} {F : Nat} {fs : List Value}
theorem St.only (h : St w B g a len cap TM TF u ms F fs wx) (ho : Only g wx wy) (hc : Cur wy B g a len cap) : St w B g a len cap TM TF u ms F fs wy := by
  obtain ⟨h1, h2, h3⟩ := h.lt
  have hz := h.bf.1
  exact ⟨Box.grown ho h.bf (fun k hk => by have := Option.some.inj hk; omega), OwnRaw.only h.own ho (by omega), Box.grown ho h.bx (fun k hk => by have := Option.some.inj hk; omega), Box.grown ho h.bz (fun k hk => by have := Option.some.inj hk; omega), hc, h.off.trans (Only.off ho (by omega)), h.lt, h.ap⟩
theorem St.below (h : St w B g a len cap TM TF u ms F fs wx) (hb : Below wx.heap.size wx wy) : St w B g a len cap TM TF u ms F fs wy := by
  obtain ⟨h1, h2, h3⟩ := h.lt
  have hz := h.bf.1
  exact ⟨h.bf.below hb hz, OwnRaw.below h.own hb, h.bx.below hb (by omega), h.bz.below hb (by omega), h.cur.other hb (by omega) (by omega), h.off.trans (Below.off (hb.mono (by omega))), h.lt, h.ap⟩
theorem St.alloc (h : St w B g a len cap TM TF u ms F fs wx) (o : Obj) : St w B g a len cap TM TF u ms F fs (wx.alloc o) := h.below ((Below.refl _ _).alloc (Nat.le_refl _) o)
theorem St.drew (h : St w B g a len cap TM TF u ms F fs wx) : St w B g a len cap TM TF u ms F fs wx.drew := h.below (Below.refl _ _).drew
theorem St.set (h : St w B g a len cap TM TF u ms F fs wx) (j : Nat) (v : Value) : St w B g a len cap TM TF u ms F (fs.set j v) (wx.setCell ⟨F, j, none⟩ v) := by
  obtain ⟨h1, h2, h3⟩ := h.lt
  exact ⟨h.bf.set j v, h.own.other v h.ap.1 h.ap.2, h.bx.other (by simp; omega) v, h.bz.other (by simp; omega) v, h.cur.other (C := F) ((Below.refl _ _).setCell (by simp) v) (by omega) (by omega), h.off.trans (Below.off ((Below.refl _ _).setCell (by simp; omega) v)), h.lt, h.ap⟩
end
theorem Fs.more {ms : List OM} {k c : Nat} (h : Fs ms k c) : Fs ms k (c + 1) := fun j hj => ⟨(h j hj).1, fun e => by have := (h j hj).2.1 e; omega, (h j hj).2.2⟩
/-- What the round still reads, where the fields' row has grown. -/
theorem round_cells {w wx w2 : World} {B g : Nat} {a : Option Addr} {len cap : Nat} {TM TF : TypeId} {gm n capm : Nat} {ms : List OM} {F : Nat} {fs : List Value} (h : St w B g a len cap TM TF (.slice (some ⟨gm, 0, none⟩) n capm) ms F fs wx) (hn : ms.length = n) (k : Nat) (hk : k < ms.length)
    (o : Obj) (hg : ((wx.alloc o).drew).grownBy w2 ms[k].2.1.ownBlock) :
    w2.cell? ⟨w.heap.size + 1, 0, none⟩ = some (.slice (some ⟨gm, 0, none⟩) n capm) ∧ w2.cell? ⟨gm, k * 2 + 1, none⟩ = some ms[k].2.1 ∧ w2.frozen? ⟨gm, k * 2 + 1, none⟩ = false := by
  have h1 := ((h.alloc o).drew)
  have hb := Box.grown hg h1.bx (fun j hj e => by have := (World.ownsRow.lt (h.own.fields k hk) j hj).1; omega)
  have hrow : (((wx.alloc o).drew)).ownsRow (w.heap.size + 2) TM 2 (.slice (some ⟨gm, 0, none⟩) n capm) ms.length (ms.flatMap msgC) := h1.own.row
  have hgl : gm < ((wx.alloc o).drew).heap.size := (hrow.lt gm rfl).2
  have hne : some gm ≠ ms[k].2.1.ownBlock := by
    rcases h.own.apart k hk with e | e
    · rw [e]; simp
    · exact fun c => e c.symm
  have hbk := hg.block gm hgl hne
  obtain ⟨_, c1, _, c3⟩ := h1.own.cellsAt hn k hk
  exact ⟨(hb.2 0 (by simp)).1, (World.cell?_of_block (a := ⟨gm, k * 2 + 1, none⟩) hbk).trans c1, (World.frozen?_of_block (a := ⟨gm, k * 2 + 1, none⟩) hbk).trans c3⟩
theorem Fs.set {ms : List OM} {k c : Nat} (h : Fs ms k c) (hk : k < ms.length) (v : Value) (f : RF) : Fs (ms.set k (ms[k].1, v, ms[k].2.2 ++ [f])) k (c + 1) := by
  intro j hj
  have hj' : j < ms.length := by rw [List.length_set] at hj; exact hj
  by_cases e : k = j
  · subst e
    rw [List.getElem_set_self]
    have := (h k hk).2.1 rfl
    refine ⟨fun a => by omega, fun _ => ?_, fun a => by omega⟩
    rw [List.length_append]; simp; omega
  · rw [List.getElem_set_ne e]; exact h.more j hj'
/-- What the round leaves, where the fields' row has grown and its slice is written. -/
theorem round_end {w wx w2 : World} {B g : Nat} {a : Option Addr} {len cap : Nat} {TM TF : TypeId} {gm n capm : Nat} {ms : List OM} {F : Nat} {fs : List Value} (h : St w B g a len cap TM TF (.slice (some ⟨gm, 0, none⟩) n capm) ms F fs wx) (hn : ms.length = n) (k : Nat) (hk : k < ms.length)
    (o : Obj) (hg : ((wx.alloc o).drew).grownBy w2 ms[k].2.1.ownBlock) (f : RF) (g' cap' : Nat) (h2 : w2.ownsRow (w.heap.size + 2) TF 5 (.slice (some ⟨g', 0, none⟩) (ms[k].2.2.length + 1) cap') (ms[k].2.2.length + 1) (ms[k].2.2.flatMap fieldC ++ fieldC f)) (hor : ms[k].2.1.ownBlock = some g' ∨ g' = wx.heap.size + 1) :
    Hid (OwnRaw (w2.setCell ⟨gm, k * 2 + 1, none⟩ (.slice (some ⟨g', 0, none⟩) (ms[k].2.2.length + 1) cap')) (w.heap.size + 2) TM TF (.slice (some ⟨gm, 0, none⟩) n capm) (ms.set k (ms[k].1, .slice (some ⟨g', 0, none⟩) (ms[k].2.2.length + 1) cap', ms[k].2.2 ++ [f]))) ∧
    Hid (Box (w2.setCell ⟨gm, k * 2 + 1, none⟩ (.slice (some ⟨g', 0, none⟩) (ms[k].2.2.length + 1) cap')) (w.heap.size + 1) [.slice (some ⟨gm, 0, none⟩) n capm]) ∧
    Hid (Box (w2.setCell ⟨gm, k * 2 + 1, none⟩ (.slice (some ⟨g', 0, none⟩) (ms[k].2.2.length + 1) cap')) w.heap.size [.slice none 0 0]) ∧
    Hid (Cur (w2.setCell ⟨gm, k * 2 + 1, none⟩ (.slice (some ⟨g', 0, none⟩) (ms[k].2.2.length + 1) cap')) B g a len cap) ∧
    Off w.heap.size g w (w2.setCell ⟨gm, k * 2 + 1, none⟩ (.slice (some ⟨g', 0, none⟩) (ms[k].2.2.length + 1) cap')) ∧
    w.heap.size + 2 ≤ (w2.setCell ⟨gm, k * 2 + 1, none⟩ (.slice (some ⟨g', 0, none⟩) (ms[k].2.2.length + 1) cap')).heap.size := by
  obtain ⟨l1, l2, l3⟩ := h.lt
  have hF := h.bf.1
  have h1 := ((h.alloc o).drew)
  have hgm : w.heap.size + 2 ≤ gm := (h.own.row.lt gm rfl).1
  have hb2 : Below (w.heap.size + 2) wx w2 := Below.grown (Below.drew (Below.alloc (Below.refl _ _) (by omega) o)) hg (by simp; omega) (fun j hj => (World.ownsRow.lt (h.own.fields k hk) j hj).1)
  have hb3 : Below (w.heap.size + 2) wx (w2.setCell ⟨gm, k * 2 + 1, none⟩ (.slice (some ⟨g', 0, none⟩) (ms[k].2.2.length + 1) cap')) := hb2.setCell hgm _
  refine ⟨?_, Lib.hid (h.bx.below hb3 (by omega)), Lib.hid (h.bz.below hb3 (by omega)), Lib.hid (h.cur.other hb3 (by omega) (by omega)), h.off.trans (Below.off (hb3.mono (by omega))), by have := hb3.size; omega⟩
  subst hn
  exact Lib.hid (OwnRaw.pushField h1.own k hk h2 hg (by
    rcases hor with e | e
    · exact .inl e.symm
    · exact .inr (by simp [Value.ownBlock, e])))
end Go.Proofs.YtpkofbdfnbpfpaaGreat.Num
