/-
  The walk of the reference's draw of a right schema (l8Right): the compiled right plan; nothing that was there is written but the cursor.
-/
import Derived.Test.YthjnpipincpkgaaDrawRaw
import Derived.Test.YthjnpipincpkgaaComp
import Derived.Test.YthjnpipincpkgaaDrawNo
namespace Go.Proofs.Ythjnpipincpkgaa.Num
open Go.RowKit Go.Proofs
set_option linter.unusedVariables false
set_option linter.unusedSimpArgs false

theorem below_two {w w2 : World} {B : Nat} (h : Below B w w2) (hB : B ≤ w2.heap.size) (o p : Obj) : Below B w ((w2.alloc o).alloc p) := (h.alloc hB o).alloc (by simp; omega) p
theorem comp_each {r : List RM} {N : Nat} (h : ∀ m ∈ r, m.2.length ≤ N) : ∀ m ∈ compileR r, m.2.length ≤ N := by
  unfold compileR
  exact comp_small h r _ h fun m hm => by rw [List.eq_of_mem_replicate hm]; simp
set_option maxHeartbeats 2000000 in
set_option maxRecDepth 100000 in
theorem l8Right_any (B g : Nat) (a : Option Addr) (len cap : Nat) (w : World) (h : Cur w B g a len cap) (hB : B ≤ w.heap.size) (hg : g < w.heap.size) :
    Calls Try.prog 55 #[.pointer (some ⟨g, 0, none⟩)] w fun e w' => ∃ (v : Value) (ms mr : List OM), ((0 < ms.length ∧ ms.length ≤ 4 ∧ ∀ j (hj : j < ms.length), ms[j].2.2.length ≤ 5) ∧ Right mr ∧ plain ms = compileR (plain mr)) ∧ e = .returned (.agg #[v]) ∧ OwnRaw w' (w.heap.size + 2) 32 34 v ms ∧ Cur w' B g a len cap ∧ Off w.heap.size g w w' := by
  have H := Lib.hid h; clear h
  have hgB : B ≤ g := H.out.choose_spec.choose_spec.1
  go_enter Try.func55, Try.ntmps55
  go_wp2_with fail
  have hx0 := Box.fresh w #[.slice none 0 0] 26
  refine (l6Right_any B g a len cap _ (H.out.other ((Below.refl w.heap.size w).alloc (Nat.le_refl _) _) (by omega) (by omega)) (by simp; omega) (by simp; omega)).mono ?_
  rintro e w1 ⟨v, mr, ⟨h0, h4, h5, hR⟩, rfl, hown, hcur, hoff⟩
  have hx1 : Box w1 w.heap.size [.slice none 0 0] := Box.offAt hoff hx0 (by simp) (by omega)
  have hof1 : Off w.heap.size g w w1 := (Below.off ((Below.refl w.heap.size w).alloc (Nat.le_refl _) _)).trans (hoff.mono (by simp))
  have hz1 : w.heap.size + 1 ≤ w1.heap.size := by have := hoff.size; simpa using this
  have hsm : Small (plain mr) := ⟨by simp [plain]; omega, fun m hm => by
    obtain ⟨x, hx, rfl⟩ := List.mem_map.1 hm
    obtain ⟨j, hj, rfl⟩ := List.getElem_of_mem hx
    have := h5 j hj
    simp only; omega⟩
  have hraw := hown.rawAtAll
  obtain ⟨gr, cr, hv, hgr1, hgr2⟩ := World.ownsRow.form hown.row h0
  have hz2 : w.heap.size + 3 < w1.heap.size := by simp at hgr1; omega
  subst hv
  clear hx0 hoff hown
  go_wp2_with fail
  refine (specCompile_own _ (plain mr) _ hraw hsm).mono ?_
  rintro e w2 ⟨f, u, hc, rfl, hb2⟩
  obtain rfl := hR.first (fun j hj => Nat.le_trans (h5 j hj) (by omega)) hc.1
  obtain ⟨ms, hp, ho⟩ : ∃ ms, plain ms = compileR (plain mr) ∧ OwnRaw w2 w1.heap.size 32 34 u ms := by
    rcases hc.2 with ⟨e, _⟩ | ⟨_, h⟩
    · exact absurd rfl e
    · exact h
  have hml : ms.length = mr.length := by
    have := congrArg List.length hp
    rw [compileR_len] at this
    simpa [plain] using this
  obtain ⟨gm, cm, hu, hg1, hg2⟩ := World.ownsRow.form ho.row (by omega)
  subst hu
  have hx2 := hx1.below hb2 hx1.1
  have hcur2 : Cur w2 B g a len cap := hcur.other hb2 (by omega) (by omega)
  have hof2 : Off w.heap.size g w w2 := hof1.trans (Below.off (hb2.mono (by omega)))
  have hfl : ∀ j (hj : j < ms.length), ms[j].2.2.length ≤ 5 := fun j hj => by
    have h1 : ∀ m ∈ plain mr, m.2.length ≤ 5 := fun m hm => by
      obtain ⟨x, hx, rfl⟩ := List.mem_map.1 hm
      obtain ⟨i, hi, rfl⟩ := List.getElem_of_mem hx
      exact h5 i hi
    have h2 := comp_each h1
    rw [← hp] at h2
    exact h2 (ms[j].1, ms[j].2.2) (List.mem_map.2 ⟨ms[j], List.getElem_mem hj, rfl⟩)
  obtain ⟨x0, x1⟩ := hx2.2 0 (by simp)
  have HO := Lib.hid ho
  have HC := Lib.hid hcur2
  have HF := Lib.hid hof2
  have hw2 : w.heap.size < w2.heap.size := hx2.1
  have hbz : w1.heap.size ≤ w2.heap.size := hb2.size
  have HX := Lib.hid hx2
  clear hx1 hraw hsm hc hb2 ho hcur hcur2 hof1 hof2 hx2
  unfold violV
  have hy : Box (((w2.setCell ⟨w.heap.size, 0, none⟩ (.slice (some ⟨gm, 0, none⟩) ms.length cm)).alloc (.cells #[.slice (some ⟨gm, 0, none⟩) ms.length cm] 26)).alloc (.cells #[.int .i64 0, .int .i64 0, .int .i64 0] 100)) w.heap.size [.slice (some ⟨gm, 0, none⟩) ms.length cm] := ((HX.out.set 0 (.slice (some ⟨gm, 0, none⟩) ms.length cm)).alloc _).alloc _
  have hbS : Below w.heap.size w2 (((w2.setCell ⟨w.heap.size, 0, none⟩ (.slice (some ⟨gm, 0, none⟩) ms.length cm)).alloc (.cells #[.slice (some ⟨gm, 0, none⟩) ms.length cm] 26)).alloc (.cells #[.int .i64 0, .int .i64 0, .int .i64 0] 100)) := below_two ((Below.refl _ _).setCell (Nat.le_refl _) _) (Nat.le_trans (Nat.le_of_lt hw2) ((Below.refl w.heap.size w2).setCell (p := ⟨w.heap.size, 0, none⟩) (Nat.le_refl _) _).size) _ _
  obtain ⟨y0, _⟩ := hy.2 0 (by simp)
  simp only [List.getElem_cons_zero] at y0
  have HW : Hid (OwnRaw (((w2.setCell ⟨w.heap.size, 0, none⟩ (.slice (some ⟨gm, 0, none⟩) ms.length cm)).alloc (.cells #[.slice (some ⟨gm, 0, none⟩) ms.length cm] 26)).alloc (.cells #[.int .i64 0, .int .i64 0, .int .i64 0] 100)) (w.heap.size + 2) 32 34 (.slice (some ⟨gm, 0, none⟩) ms.length cm) ms ∧ Cur (((w2.setCell ⟨w.heap.size, 0, none⟩ (.slice (some ⟨gm, 0, none⟩) ms.length cm)).alloc (.cells #[.slice (some ⟨gm, 0, none⟩) ms.length cm] 26)).alloc (.cells #[.int .i64 0, .int .i64 0, .int .i64 0] 100)) B g a len cap ∧ Off w.heap.size g w (((w2.setCell ⟨w.heap.size, 0, none⟩ (.slice (some ⟨gm, 0, none⟩) ms.length cm)).alloc (.cells #[.slice (some ⟨gm, 0, none⟩) ms.length cm] 26)).alloc (.cells #[.int .i64 0, .int .i64 0, .int .i64 0] 100))) := Lib.hid
    ⟨(((HO.out.other (p := ⟨w.heap.size, 0, none⟩) _ (HO.out.out (k := w.heap.size) (by omega)).1 (HO.out.out (k := w.heap.size) (by omega)).2).alloc _).alloc _).base (by omega), HC.out.other (C := w.heap.size) hbS (by omega) (by omega), HF.out.trans (Below.off hbS)⟩
  have Hml := Lib.hid hml
  clear hy hbS hml
  go_wp2_with fail
  refine bodyPost_ret (v := .agg #[.slice (some ⟨gm, 0, none⟩) ms.length cm]) (by simp [results, Try.results55, go_sem, y0]) rfl ⟨_, ms, mr, ⟨⟨by have := Hml.out; omega, by have := Hml.out; omega, hfl⟩, hR, hp⟩, rfl, HW.out.1, HW.out.2.1, HW.out.2.2⟩
end Go.Proofs.Ythjnpipincpkgaa.Num
