/-
  What the draw of a bent schema (l8Bent) keeps: one cell of a message's first field, a field more in a world that already has the new field. For any program.
-/
import Derived.Test.YthjnpipincpkgaaBent
namespace Go.Proofs.Ythjnpipincpkgaa.Num
open Go.RowKit Go.Proofs
set_option linter.unusedVariables false
section
variable {w wx wy : World} {B g : Nat} {a : Option Addr} {len cap : Nat} {TM TF : TypeId} {u : Value} {ms : List OM} {R : Nat}
theorem flat_set1 : ∀ (fs : List RF) (h : 0 < fs.length) (c : Nat) (hc : c < 5) (v : Value) (f : RF) (hf : fieldC f = (fieldC fs[0]).set c v), (fs.flatMap fieldC).set c v = (fs.set 0 f).flatMap fieldC
  | b :: fs, h, c, hc, v, f, hf => by
    have hf' : fieldC f = (fieldC b).set c v := hf
    simp only [List.flatMap_cons, List.set_cons_zero]
    rw [hf', List.set_append, if_pos (by simpa [fieldC] using hc)]
/-- One cell of the first field of a message is written. -/
theorem bt_put1 {gm n capm gf capf : Nat} (h : Bt w B g a len cap TM TF (.slice (some ⟨gm, 0, none⟩) n capm) ms R wx) (k : Nat) (hk : k < ms.length) (hu : ms[k].2.1 = .slice (some ⟨gf, 0, none⟩) ms[k].2.2.length capf) (hq : 0 < ms[k].2.2.length) (c : Nat) (hc : c < 5) (v : Value) (f : RF) (hf : fieldC f = (fieldC ms[k].2.2[0]).set c v) :
    Bt w B g a len cap TM TF (.slice (some ⟨gm, 0, none⟩) n capm) (ms.set k (ms[k].1, ms[k].2.1, ms[k].2.2.set 0 f)) R (wx.setCell ⟨gf, c, none⟩ v) := by
  obtain ⟨l1, l2, l3⟩ := h.lt
  have hrow : wx.ownsRow (w.heap.size + 3) TF 5 ms[k].2.1 ms[k].2.2.length (ms[k].2.2.flatMap fieldC) := h.own.fields k hk
  have hgf : w.heap.size + 3 ≤ gf ∧ gf < wx.heap.size := hrow.lt gf (by rw [hu]; rfl)
  have hR : gf ≠ R := fun e => h.ap.2 k hk (by rw [hu, e]; rfl)
  rw [hu] at hrow
  obtain ⟨p1, p2⟩ := hrow.stored c v
  rw [flat_set1 _ hq c hc v f hf] at p1
  have hb : Below (w.heap.size + 3) wx (wx.setCell ⟨gf, c, none⟩ v) := (Below.refl _ _).setCell (by simp; omega) v
  refine ⟨Box.grown p2 h.br (fun j hj e => hR (by have := Option.some.inj hj; omega)), ?_, h.bz.below hb (by omega), h.cur.other hb (by omega) (by omega), h.off.trans (Below.off (hb.mono (by omega))), h.lt, h.ap.1, fun j hj => ?_⟩
  · refine OwnRaw.setFields h.own k hk ?_ ?_
    · rw [hu, List.length_set]; exact p1
    · rw [hu]; exact p2
  · have hj' : j < ms.length := by rw [List.length_set] at hj; exact hj
    rw [List.getElem_set]
    split
    · rename_i e; subst e; exact h.ap.2 k hk
    · exact h.ap.2 j hj'
/-- What is read where a fields' row has grown. -/
theorem bt_cellsW {w2 : World} {gm n capm : Nat} (h : Bt w B g a len cap TM TF (.slice (some ⟨gm, 0, none⟩) n capm) ms R wx) (hn : ms.length = n) (k : Nat) (hk : k < ms.length) (hg : wx.grownBy w2 ms[k].2.1.ownBlock) :
    w2.cell? ⟨R, 0, none⟩ = some (.slice (some ⟨gm, 0, none⟩) n capm) ∧ w2.cell? ⟨gm, k * 2 + 1, none⟩ = some ms[k].2.1 ∧ w2.frozen? ⟨gm, k * 2 + 1, none⟩ = false := by
  have hb := Box.grown hg h.br (fun j hj e => h.ap.2 k hk (by rw [hj, e]))
  have hgl : gm < wx.heap.size := (h.own.row.lt gm rfl).2
  have hne : some gm ≠ ms[k].2.1.ownBlock := by
    rcases h.own.apart k hk with e | e
    · rw [e]; simp
    · exact fun c => e c.symm
  have hbk := hg.block gm hgl hne
  obtain ⟨_, c1, _, c3⟩ := h.own.cellsAt hn k hk
  exact ⟨(hb.2 0 (by simp)).1, (World.cell?_of_block (a := ⟨gm, k * 2 + 1, none⟩) hbk).trans c1, (World.frozen?_of_block (a := ⟨gm, k * 2 + 1, none⟩) hbk).trans c3⟩
/-- A field more. -/
theorem bt_fieldW {w2 : World} {gm n capm : Nat} (h : Bt w B g a len cap TM TF (.slice (some ⟨gm, 0, none⟩) n capm) ms R wx) (hn : ms.length = n) (k : Nat) (hk : k < ms.length)
    (hg : wx.grownBy w2 ms[k].2.1.ownBlock) (f : RF) (g' cap' : Nat) (h2 : w2.ownsRow (w.heap.size + 3) TF 5 (.slice (some ⟨g', 0, none⟩) (ms[k].2.2.length + 1) cap') (ms[k].2.2.length + 1) (ms[k].2.2.flatMap fieldC ++ fieldC f)) (hor : ms[k].2.1.ownBlock = some g' ∨ g' = wx.heap.size) :
    Bt w B g a len cap TM TF (.slice (some ⟨gm, 0, none⟩) n capm) (ms.set k (ms[k].1, .slice (some ⟨g', 0, none⟩) (ms[k].2.2.length + 1) cap', ms[k].2.2 ++ [f])) R (w2.setCell ⟨gm, k * 2 + 1, none⟩ (.slice (some ⟨g', 0, none⟩) (ms[k].2.2.length + 1) cap')) := by
  obtain ⟨l1, l2, l3⟩ := h.lt
  have hz := h.br.1
  have hgm : w.heap.size + 3 ≤ gm := (h.own.row.lt gm rfl).1
  have hR : gm ≠ R := fun e => h.ap.1 (by rw [e]; rfl)
  have hb2 : Below (w.heap.size + 3) wx w2 := Below.grown (Below.refl _ _) hg (by omega) (fun j hj => (World.ownsRow.lt (h.own.fields k hk) j hj).1)
  have hb3 : Below (w.heap.size + 3) wx (w2.setCell ⟨gm, k * 2 + 1, none⟩ (.slice (some ⟨g', 0, none⟩) (ms[k].2.2.length + 1) cap')) := hb2.setCell hgm _
  have hgR : g' ≠ R := by
    rcases hor with e | e
    · exact fun c => h.ap.2 k hk (by rw [e, c])
    · omega
  refine ⟨(Box.grown hg h.br (fun j hj e => h.ap.2 k hk (by rw [hj, e]))).other hR _, ?_, h.bz.below hb3 (by omega), h.cur.other hb3 (by omega) (by omega), h.off.trans (Below.off (hb3.mono (by omega))), h.lt, h.ap.1, fun j hj => ?_⟩
  · subst hn
    exact OwnRaw.pushField h.own k hk h2 hg (by
      rcases hor with e | e
      · exact .inl e.symm
      · exact .inr (by simp [Value.ownBlock, e]))
  · have hj' : j < ms.length := by rw [List.length_set] at hj; exact hj
    rw [List.getElem_set]
    split
    · simp [Value.ownBlock, hgR]
    · exact h.ap.2 j hj'
end
end Go.Proofs.Ythjnpipincpkgaa.Num
