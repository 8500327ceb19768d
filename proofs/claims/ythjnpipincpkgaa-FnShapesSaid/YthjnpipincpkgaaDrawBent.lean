/-
  The walk of the reference's draw of a bent plan (l6Bent): some description that the call owns, its sizes bounded; nothing that was there is written but the cursor.
-/
import Derived.Test.YthjnpipincpkgaaDrawRaw
import Derived.Test.YthjnpipincpkgaaBent
import Derived.Test.YthjnpipincpkgaaDrawNo
import Derived.Deep.RegionWith
import Derived.Deep.RegionLaw
import Derived.Deep.DrawnRows
import Derived.Deep.DeepCutAuto
import Derived.Deep.CutBlock
import Derived.StillTailTactics
namespace Go.Proofs.Ythjnpipincpkgaa.Num
open Go.RowKit Go.Proofs
set_option linter.unusedVariables false

theorem Off.only {g : Nat} {w w' : World} (h : Off w.heap.size g w w') : Only g w w' :=
  ⟨h.os, h.tape, h.output, h.size, fun k hk hn => h.block k hk (fun e => hn (by rw [e]))⟩
/-- The plan that l6Bent gives: its sizes. -/
def BentSz (ms : List OM) : Prop := 0 < ms.length ∧ ms.length ≤ 7 ∧ ∀ j (hj : j < ms.length), ms[j].2.2.length ≤ 14
theorem len_set {ms : List OM} {n m : Nat} (h : ∀ j (hj : j < ms.length), ms[j].2.2.length ≤ n) (k : Nat) (x : OM) (hx : x.2.2.length ≤ m) (hnm : n ≤ m) : ∀ j (hj : j < (ms.set k x).length), (ms.set k x)[j].2.2.length ≤ m := by
  intro j hj
  have hj' : j < ms.length := by rw [List.length_set] at hj; exact hj
  rw [List.getElem_set]
  split
  · exact hx
  · exact Nat.le_trans (h j hj') hnm
theorem len_push {ms : List OM} {n : Nat} (h : ∀ j (hj : j < ms.length), ms[j].2.2.length ≤ n) (x : OM) (hx : x.2.2.length ≤ n) : ∀ j (hj : j < (ms ++ [x]).length), (ms ++ [x])[j].2.2.length ≤ n := by
  intro j hj
  by_cases e : j < ms.length
  · rw [List.getElem_append_left e]; exact h j e
  · obtain rfl : j = ms.length := by simp at hj; omega
    rw [List.getElem_append_right (by omega)]
    simpa using hx
/-- What the end of the walk asks. -/
theorem bt_end {w wx : World} {B g : Nat} {a : Option Addr} {len cap : Nat} {TM TF : TypeId} {u : Value} {ms : List OM} {R : Nat} (h : Bt w B g a len cap TM TF u ms R wx) (hs : BentSz ms) (x : Value) :
    ∃ (v : Value) (ms : List OM), BentSz ms ∧ Ending.returned (.agg #[u]) = .returned (.agg #[v]) ∧ OwnRaw (wx.setCell ⟨w.heap.size, 0, none⟩ x) (w.heap.size + 3) TM TF v ms ∧ Cur (wx.setCell ⟨w.heap.size, 0, none⟩ x) B g a len cap ∧ Off w.heap.size g w (wx.setCell ⟨w.heap.size, 0, none⟩ x) := by
  obtain ⟨l1, l2, l3⟩ := h.lt
  exact ⟨u, ms, hs, rfl, h.own.other _ (h.own.out (k := w.heap.size) (by omega)).1 (h.own.out (k := w.heap.size) (by omega)).2, h.cur.other (C := w.heap.size) ((Below.refl _ _).setCell (by simp) _) (by omega) (by omega), h.off.trans (Below.off ((Below.refl _ _).setCell (by simp) _))⟩
def lenAt (w : World) (R : Nat) : Nat := match w.cell? ⟨R, 0, none⟩ with | some (.slice _ n _) => n | _ => 0
theorem lenAt_of {w : World} {R n cap : Nat} {a : Option Addr} (h : Box w R [.slice a n cap]) : lenAt w R = n := by
  unfold lenAt; rw [(h.2 0 (by simp)).1]; rfl
theorem fcells {w : World} {D gf n cap : Nat} {TF : TypeId} {fs : List RF} (h : w.ownsRow D TF 5 (.slice (some ⟨gf, 0, none⟩) n cap) n (fs.flatMap fieldC)) (hn : fs.length = n) (q : Nat) (hq : q < fs.length) :
    w.cell? ⟨gf, q * 5, none⟩ = some (.int .i64 fs[q].1) ∧ w.cell? ⟨gf, q * 5 + 1, none⟩ = some (.int .i64 fs[q].2.1) ∧ w.cell? ⟨gf, q * 5 + 2, none⟩ = some (.bool fs[q].2.2.1) ∧ w.cell? ⟨gf, q * 5 + 3, none⟩ = some (.bool fs[q].2.2.2.1) ∧ w.cell? ⟨gf, q * 5 + 4, none⟩ = some (.int .i64 fs[q].2.2.2.2) ∧
    w.frozen? ⟨gf, q * 5, none⟩ = false ∧ w.frozen? ⟨gf, q * 5 + 1, none⟩ = false ∧ w.frozen? ⟨gf, q * 5 + 2, none⟩ = false ∧ w.frozen? ⟨gf, q * 5 + 3, none⟩ = false ∧ w.frozen? ⟨gf, q * 5 + 4, none⟩ = false := by
  subst hn
  have h2 : (q + 1) * 5 ≤ fs.length * 5 := Nat.mul_le_mul_right _ hq
  refine ⟨?_, ?_, ?_, ?_, ?_, h.frozenAt _, h.frozenAt _, h.frozenAt _, h.frozenAt _, h.frozenAt _⟩
  · rw [h.cellAt _ (by omega)]; exact (flat_get (f := fieldC) (sz := 5) (fun _ => rfl) fs q hq 0 (by omega)).trans rfl
  · rw [h.cellAt _ (by omega)]; exact (flat_get (f := fieldC) (sz := 5) (fun _ => rfl) fs q hq 1 (by omega)).trans rfl
  · rw [h.cellAt _ (by omega)]; exact (flat_get (f := fieldC) (sz := 5) (fun _ => rfl) fs q hq 2 (by omega)).trans rfl
  · rw [h.cellAt _ (by omega)]; exact (flat_get (f := fieldC) (sz := 5) (fun _ => rfl) fs q hq 3 (by omega)).trans rfl
  · rw [h.cellAt _ (by omega)]; exact (flat_get (f := fieldC) (sz := 5) (fun _ => rfl) fs q hq 4 (by omega)).trans rfl
theorem set_drew (w : World) (p : Addr) (v : Value) : w.drew.setCell p v = (w.setCell p v).drew := rfl
theorem put5_drew (w : World) (gf q : Nat) (f : RF) : put5 w.drew gf q f = (put5 w gf q f).drew := by
  unfold put5
  rw [set_drew, set_drew, set_drew, set_drew, set_drew]
theorem bt_F {w wx : World} {B g : Nat} {a : Option Addr} {len cap : Nat} {TM TF : TypeId} {gm n capm : Nat} {ms : List OM} {R F : Nat} (h : Bt w B g a len cap TM TF (.slice (some ⟨gm, 0, none⟩) n capm) ms R wx) (ha : gm ≠ F ∧ ∀ i (hi : i < ms.length), ms[i].2.1.ownBlock ≠ some F) (hRF : R < F) (j : Nat) (v : Value) :
    Bt w B g a len cap TM TF (.slice (some ⟨gm, 0, none⟩) n capm) ms R (wx.setCell ⟨F, j, none⟩ v) :=
  h.other v (fun e => ha.1 (Option.some.inj e)) ha.2 (by show F ≠ R; omega) (by show w.heap.size + 1 ≤ F; have := h.lt.2.1; omega)
end Go.Proofs.Ythjnpipincpkgaa.Num
