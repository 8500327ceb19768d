/-
  What the draw of a bent plan (l6Bent) keeps: the plan's variable in a block of its own beside the description that the call owns; a message or a field more, another Id, another field. For any program.
-/
import Derived.Test.YtcbohfncckpolaaGreatDoorRound
namespace Go.Proofs.YtcbohfncckpolaaGreatDoor.Num
open Go.RowKit Go.Proofs
set_option linter.unusedVariables false

/-- Where the walk stands: the plan's slice in block R beside the description. -/
structure Bt (w : World) (B g : Nat) (a : Option Addr) (len cap : Nat) (TM TF : TypeId) (u : Value) (ms : List OM) (R : Nat) (wx : World) : Prop where
  br : Box wx R [u]
  own : OwnRaw wx (w.heap.size + 3) TM TF u ms
  bz : Box wx w.heap.size [.slice none 0 0]
  cur : Cur wx B g a len cap
  off : Off w.heap.size g w wx
  lt : g < w.heap.size ∧ w.heap.size + 3 ≤ R ∧ B ≤ w.heap.size
  ap : u.ownBlock ≠ some R ∧ ∀ i (hi : i < ms.length), ms[i].2.1.ownBlock ≠ some R
section
variable {w wx wy : World} {B g : Nat} {a : Option Addr} {len cap : Nat} {TM TF : TypeId} {u : Value} {ms : List OM} {R : Nat}
theorem Bt.only (h : Bt w B g a len cap TM TF u ms R wx) (ho : Only g wx wy) (hc : Cur wy B g a len cap) : Bt w B g a len cap TM TF u ms R wy := by
  obtain ⟨h1, h2, h3⟩ := h.lt
  have hz := h.br.1
  exact ⟨Box.grown ho h.br (fun k hk => by have := Option.some.inj hk; omega), OwnRaw.only h.own ho (by omega), Box.grown ho h.bz (fun k hk => by have := Option.some.inj hk; omega), hc, h.off.trans (Only.off ho (by omega)), h.lt, h.ap⟩
theorem Bt.below (h : Bt w B g a len cap TM TF u ms R wx) (hb : Below wx.heap.size wx wy) : Bt w B g a len cap TM TF u ms R wy := by
  obtain ⟨h1, h2, h3⟩ := h.lt
  have hz := h.br.1
  exact ⟨h.br.below hb hz, OwnRaw.below h.own hb, h.bz.below hb (by omega), h.cur.other hb (by omega) (by omega), h.off.trans (Below.off (hb.mono (by omega))), h.lt, h.ap⟩
theorem Bt.alloc (h : Bt w B g a len cap TM TF u ms R wx) (o : Obj) : Bt w B g a len cap TM TF u ms R (wx.alloc o) := h.below ((Below.refl _ _).alloc (Nat.le_refl _) o)
theorem Bt.drew (h : Bt w B g a len cap TM TF u ms R wx) : Bt w B g a len cap TM TF u ms R wx.drew := h.below (Below.refl _ _).drew
theorem Bt.off' (h : Bt w B g a len cap TM TF u ms R wx) {k : Nat} (hk : wx.heap.size ≤ k) : u.ownBlock ≠ some k ∧ ∀ i (hi : i < ms.length), ms[i].2.1.ownBlock ≠ some k :=
  ⟨fun e => by have := (h.own.row.lt _ e).2; omega, fun i hi e => by have := (World.ownsRow.lt (h.own.fields i hi) _ e).2; omega⟩
/-- A cell of another block is written. -/
theorem Bt.other (h : Bt w B g a len cap TM TF u ms R wx) {p : Addr} (v : Value) (hv : u.ownBlock ≠ some p.block) (hf : ∀ i (hi : i < ms.length), ms[i].2.1.ownBlock ≠ some p.block) (hR : p.block ≠ R) (hp : w.heap.size + 1 ≤ p.block) : Bt w B g a len cap TM TF u ms R (wx.setCell p v) := by
  obtain ⟨h1, h2, h3⟩ := h.lt
  exact ⟨h.br.other hR v, h.own.other v hv hf, h.bz.other (by omega) v, h.cur.other (C := p.block) ((Below.refl _ _).setCell (Nat.le_refl _) v) (by omega) (by omega), h.off.trans (Below.off ((Below.refl _ _).setCell (by omega) v)), h.lt, h.ap⟩
/-- Another Id at a message. -/
theorem Bt.setId {gm n capm : Nat} (h : Bt w B g a len cap TM TF (.slice (some ⟨gm, 0, none⟩) n capm) ms R wx) (hn : ms.length = n) (i : Nat) (hi : i < ms.length) (id : Int) :
    Bt w B g a len cap TM TF (.slice (some ⟨gm, 0, none⟩) n capm) (ms.set i (id, ms[i].2)) R (wx.setCell ⟨gm, i * 2, none⟩ (.int .i64 id)) := by
  obtain ⟨h1, h2, h3⟩ := h.lt
  subst hn
  have hgm : w.heap.size + 3 ≤ gm := (h.own.row.lt gm rfl).1
  have hR : gm ≠ R := fun e => h.ap.1 (by rw [e]; rfl)
  refine ⟨h.br.other hR _, h.own.setId i hi id, h.bz.other (by simp; omega) _, h.cur.other (C := gm) ((Below.refl _ _).setCell (by simp) _) (by omega) (by omega), h.off.trans (Below.off ((Below.refl _ _).setCell (by simp; omega) _)), h.lt, h.ap.1, fun j hj => ?_⟩
  have hj' : j < ms.length := by rw [List.length_set] at hj; exact hj
  rw [List.getElem_set]
  split
  · rename_i e; subst e; exact h.ap.2 i hi
  · exact h.ap.2 j hj'
/-- What is read where the messages' row has grown. -/
theorem bt_cells {w2 : World} (h : Bt w B g a len cap TM TF u ms R wx) (o : Obj) (hg : (wx.alloc o).grownBy w2 u.ownBlock) : w2.cell? ⟨R, 0, none⟩ = some u ∧ w2.frozen? ⟨R, 0, none⟩ = false :=
  (Box.grown hg (h.alloc o).br (fun j hj e => h.ap.1 (by rw [hj, e]))).2 0 (by simp)
/-- A message more. -/
theorem bt_push {w2 : World} (h : Bt w B g a len cap TM TF u ms R wx) (o : Obj) (hg : (wx.alloc o).grownBy w2 u.ownBlock) (id : Int) (g' cap' : Nat) (h2 : w2.ownsRow (w.heap.size + 3) TM 2 (.slice (some ⟨g', 0, none⟩) (ms.length + 1) cap') (ms.length + 1) (ms.flatMap msgC ++ [.int .i64 id, .slice none 0 0])) (hor : u.ownBlock = some g' ∨ g' = wx.heap.size + 1) :
    Bt w B g a len cap TM TF (.slice (some ⟨g', 0, none⟩) (ms.length + 1) cap') (ms ++ [(id, .slice none 0 0, [])]) R (w2.setCell ⟨R, 0, none⟩ (.slice (some ⟨g', 0, none⟩) (ms.length + 1) cap')) := by
  obtain ⟨l1, l2, l3⟩ := h.lt
  have hz := h.br.1
  have h1 := h.alloc o
  have hgr : ∀ k, u.ownBlock = some k → w.heap.size + 3 ≤ k := fun k hk => (h.own.row.lt k hk).1
  have hp := OwnRaw.push h1.own (by simp; omega) h2 hg (by rcases hor with e | e; exact .inl e.symm; exact .inr (by simp [Value.ownBlock, e]))
  have hb2 : Below (w.heap.size + 3) wx w2 := Below.grown (Below.alloc (Below.refl _ _) (by omega) o) hg (by simp; omega) hgr
  have hb3 : Below (w.heap.size + 3) wx (w2.setCell ⟨R, 0, none⟩ (.slice (some ⟨g', 0, none⟩) (ms.length + 1) cap')) := hb2.setCell l2 _
  have hgR : g' ≠ R := by
    rcases hor with e | e
    · exact fun c => h.ap.1 (by rw [e, c])
    · omega
  have hap : (Value.slice (some ⟨g', 0, none⟩) (ms.length + 1) cap').ownBlock ≠ some R ∧ ∀ i (hi : i < (ms ++ [((id : Int), Value.slice none 0 0, ([] : List RF))]).length), (ms ++ [((id : Int), Value.slice none 0 0, ([] : List RF))])[i].2.1.ownBlock ≠ some R := by
    refine ⟨by simp [Value.ownBlock, hgR], fun i hi => ?_⟩
    by_cases e : i < ms.length
    · rw [List.getElem_append_left e]; exact h.ap.2 i e
    · obtain rfl : i = ms.length := by simp at hi; omega
      rw [List.getElem_append_right (by omega)]; simp [Value.ownBlock]
  exact ⟨(Box.grown hg h1.br (fun j hj e => h.ap.1 (by rw [hj, e]))).set 0 _, hp.other _ hap.1 hap.2, h.bz.below hb3 (by omega), h.cur.other hb3 (by omega) (by omega), h.off.trans (Below.off (hb3.mono (by omega))), h.lt, hap⟩
/-- What is read where a fields' row has grown. -/
theorem bt_cellsF {w2 : World} {gm n capm : Nat} (h : Bt w B g a len cap TM TF (.slice (some ⟨gm, 0, none⟩) n capm) ms R wx) (hn : ms.length = n) (k : Nat) (hk : k < ms.length)
    (o : Obj) (hg : ((wx.alloc o).drew).grownBy w2 ms[k].2.1.ownBlock) :
    w2.cell? ⟨R, 0, none⟩ = some (.slice (some ⟨gm, 0, none⟩) n capm) ∧ w2.cell? ⟨gm, k * 2 + 1, none⟩ = some ms[k].2.1 ∧ w2.frozen? ⟨gm, k * 2 + 1, none⟩ = false := by
  have h1 := ((h.alloc o).drew)
  have hb := Box.grown hg h1.br (fun j hj e => h.ap.2 k hk (by rw [hj, e]))
  have hrow : (((wx.alloc o).drew)).ownsRow (w.heap.size + 3) TM 2 (.slice (some ⟨gm, 0, none⟩) n capm) ms.length (ms.flatMap msgC) := h1.own.row
  have hgl : gm < ((wx.alloc o).drew).heap.size := (hrow.lt gm rfl).2
  have hne : some gm ≠ ms[k].2.1.ownBlock := by
    rcases h.own.apart k hk with e | e
    · rw [e]; simp
    · exact fun c => e c.symm
  have hbk := hg.block gm hgl hne
  obtain ⟨_, c1, _, c3⟩ := h1.own.cellsAt hn k hk
  exact ⟨(hb.2 0 (by simp)).1, (World.cell?_of_block (a := ⟨gm, k * 2 + 1, none⟩) hbk).trans c1, (World.frozen?_of_block (a := ⟨gm, k * 2 + 1, none⟩) hbk).trans c3⟩
/-- A field more. -/
theorem bt_field {w2 : World} {gm n capm : Nat} (h : Bt w B g a len cap TM TF (.slice (some ⟨gm, 0, none⟩) n capm) ms R wx) (hn : ms.length = n) (k : Nat) (hk : k < ms.length)
    (o : Obj) (hg : ((wx.alloc o).drew).grownBy w2 ms[k].2.1.ownBlock) (f : RF) (g' cap' : Nat) (h2 : w2.ownsRow (w.heap.size + 3) TF 5 (.slice (some ⟨g', 0, none⟩) (ms[k].2.2.length + 1) cap') (ms[k].2.2.length + 1) (ms[k].2.2.flatMap fieldC ++ fieldC f)) (hor : ms[k].2.1.ownBlock = some g' ∨ g' = wx.heap.size + 1) :
    Bt w B g a len cap TM TF (.slice (some ⟨gm, 0, none⟩) n capm) (ms.set k (ms[k].1, .slice (some ⟨g', 0, none⟩) (ms[k].2.2.length + 1) cap', ms[k].2.2 ++ [f])) R (w2.setCell ⟨gm, k * 2 + 1, none⟩ (.slice (some ⟨g', 0, none⟩) (ms[k].2.2.length + 1) cap')) := by
  obtain ⟨l1, l2, l3⟩ := h.lt
  have hz := h.br.1
  have h1 := ((h.alloc o).drew)
  have hgm : w.heap.size + 3 ≤ gm := (h.own.row.lt gm rfl).1
  have hR : gm ≠ R := fun e => h.ap.1 (by rw [e]; rfl)
  have hb2 : Below (w.heap.size + 3) wx w2 := Below.grown (Below.drew (Below.alloc (Below.refl _ _) (by omega) o)) hg (by simp; omega) (fun j hj => (World.ownsRow.lt (h.own.fields k hk) j hj).1)
  have hb3 : Below (w.heap.size + 3) wx (w2.setCell ⟨gm, k * 2 + 1, none⟩ (.slice (some ⟨g', 0, none⟩) (ms[k].2.2.length + 1) cap')) := hb2.setCell hgm _
  have hgR : g' ≠ R := by
    rcases hor with e | e
    · exact fun c => h.ap.2 k hk (by rw [e, c])
    · omega
  refine ⟨(Box.grown hg h1.br (fun j hj e => h.ap.2 k hk (by rw [hj, e]))).other hR _, ?_, h.bz.below hb3 (by omega), h.cur.other hb3 (by omega) (by omega), h.off.trans (Below.off (hb3.mono (by omega))), h.lt, h.ap.1, fun j hj => ?_⟩
  · subst hn
    exact OwnRaw.pushField h1.own k hk h2 hg (by
      rcases hor with e | e
      · exact .inl e.symm
      · exact .inr (by simp [Value.ownBlock, e]))
  · have hj' : j < ms.length := by rw [List.length_set] at hj; exact hj
    rw [List.getElem_set]
    split
    · simp [Value.ownBlock, hgR]
    · exact h.ap.2 j hj'
theorem flat_set5 : ∀ (fs : List RF) (q : Nat) (h : q < fs.length) (f : RF), (((((fs.flatMap fieldC).set (q * 5) (.int .i64 f.1)).set (q * 5 + 1) (.int .i64 f.2.1)).set (q * 5 + 2) (.bool f.2.2.1)).set (q * 5 + 3) (.bool f.2.2.2.1)).set (q * 5 + 4) (.int .i64 f.2.2.2.2) = (fs.set q f).flatMap fieldC
  | b :: fs, 0, _, f => rfl
  | b :: fs, q + 1, h, f => by
    have := flat_set5 fs q (by simpa using h) f
    rw [show (q + 1) * 5 = q * 5 + 5 by omega, show q * 5 + 5 + 1 = (q * 5 + 1) + 5 by omega, show q * 5 + 5 + 2 = (q * 5 + 2) + 5 by omega, show q * 5 + 5 + 3 = (q * 5 + 3) + 5 by omega, show q * 5 + 5 + 4 = (q * 5 + 4) + 5 by omega]
    simp only [List.flatMap_cons, List.set_cons_succ]
    rw [← this]
    rfl
/-- Five cells written in the row of fields. -/
def put5 (w : World) (gf q : Nat) (f : RF) : World :=
  ((((w.setCell ⟨gf, q * 5, none⟩ (.int .i64 f.1)).setCell ⟨gf, q * 5 + 1, none⟩ (.int .i64 f.2.1)).setCell ⟨gf, q * 5 + 2, none⟩ (.bool f.2.2.1)).setCell ⟨gf, q * 5 + 3, none⟩ (.bool f.2.2.2.1)).setCell ⟨gf, q * 5 + 4, none⟩ (.int .i64 f.2.2.2.2)
theorem put5_own {gf n cap : Nat} {fs : List RF} {D : Nat} (h : wx.ownsRow D TF 5 (.slice (some ⟨gf, 0, none⟩) n cap) n (fs.flatMap fieldC)) (hn : n = fs.length) (q : Nat) (hq : q < fs.length) (f : RF) :
    (put5 wx gf q f).ownsRow D TF 5 (.slice (some ⟨gf, 0, none⟩) n cap) (fs.set q f).length ((fs.set q f).flatMap fieldC) ∧ wx.grownBy (put5 wx gf q f) (some gf) := by
  have s1 := h.stored (q * 5) (.int .i64 f.1)
  have s2 := s1.1.stored (q * 5 + 1) (.int .i64 f.2.1)
  have s3 := s2.1.stored (q * 5 + 2) (.bool f.2.2.1)
  have s4 := s3.1.stored (q * 5 + 3) (.bool f.2.2.2.1)
  have s5 := s4.1.stored (q * 5 + 4) (.int .i64 f.2.2.2.2)
  refine ⟨?_, (((s1.2.trans s2.2).trans s3.2).trans s4.2).trans s5.2⟩
  have := s5.1
  rw [flat_set5 fs q hq f] at this
  rw [List.length_set, ← hn]
  exact this
/-- Another field in the place of one. -/
theorem bt_put {gm n capm gf capf : Nat} (h : Bt w B g a len cap TM TF (.slice (some ⟨gm, 0, none⟩) n capm) ms R wx) (k : Nat) (hk : k < ms.length) (hu : ms[k].2.1 = .slice (some ⟨gf, 0, none⟩) ms[k].2.2.length capf) (q : Nat) (hq : q < ms[k].2.2.length) (f : RF) :
    Bt w B g a len cap TM TF (.slice (some ⟨gm, 0, none⟩) n capm) (ms.set k (ms[k].1, ms[k].2.1, ms[k].2.2.set q f)) R (put5 wx gf q f) := by
  obtain ⟨l1, l2, l3⟩ := h.lt
  have hrow : wx.ownsRow (w.heap.size + 3) TF 5 ms[k].2.1 ms[k].2.2.length (ms[k].2.2.flatMap fieldC) := h.own.fields k hk
  have hgf : w.heap.size + 3 ≤ gf ∧ gf < wx.heap.size := hrow.lt gf (by rw [hu]; rfl)
  have hR : gf ≠ R := fun e => h.ap.2 k hk (by rw [hu, e]; rfl)
  rw [hu] at hrow
  obtain ⟨p1, p2⟩ := put5_own hrow rfl q hq f
  have hb : Below (w.heap.size + 3) wx (put5 wx gf q f) := Below.grown (Below.refl _ _) p2 (by omega) (fun j hj => by have := Option.some.inj hj; omega)
  refine ⟨Box.grown p2 h.br (fun j hj e => hR (by have := Option.some.inj hj; omega)), ?_, h.bz.below hb (by omega), h.cur.other hb (by omega) (by omega), h.off.trans (Below.off (hb.mono (by omega))), h.lt, h.ap.1, fun j hj => ?_⟩
  · refine OwnRaw.setFields h.own k hk ?_ ?_
    · rw [hu]; exact p1
    · rw [hu]; exact p2
  · have hj' : j < ms.length := by rw [List.length_set] at hj; exact hj
    rw [List.getElem_set]
    split
    · rename_i e; subst e; exact h.ap.2 k hk
    · exact h.ap.2 j hj'
end
end Go.Proofs.YtcbohfncckpolaaGreatDoor.Num
