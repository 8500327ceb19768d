/-
  The walk of the reference's l1Whole once more: some number of the type int; of what was there only the cursor's block is written, and the cursor goes on.
-/
import Derived.Test.YtbjndnpdmohjiaaDoorDrawPickInt
namespace Go.Proofs.YtbjndnpdmohjiaaDoor.Num
open Go.RowKit Go.Proofs
set_option linter.unusedVariables false

/-- Some number of the type int; the cursor goes on. -/
def WholeC (B g : Nat) (a : Option Addr) (len cap : Nat) (w : World) (e : Ending) (w' : World) : Prop := ∃ n : Int, (-9223372036854775808 ≤ n ∧ n ≤ 9223372036854775807) ∧ e = .returned (.int .i64 n) ∧ Cur w' B g a len cap ∧ Off w.heap.size g w w'
set_option maxHeartbeats 400000 in
set_option maxRecDepth 100000 in
theorem l1Whole_cur (B g : Nat) (a : Option Addr) (len cap : Nat) (w : World) (h : Cur w B g a len cap) (hB : B ≤ w.heap.size) (hg : g < w.heap.size) :
    Calls Tryd.prog 27 #[.pointer (some ⟨g, 0, none⟩)] w (WholeC B g a len cap w) := by
  have hgB : B ≤ g := h.choose_spec.choose_spec.1
  have H := Lib.hid h; clear h
  go_enter Tryd.func27, Tryd.ntmps27
  go_wp2_with fail
  refine (l1Below_any B g a len cap _ _ H.out (by omega)).mono ?_
  rintro e w1 ⟨r, r0, r1, rfl, hc1, ho1⟩
  clear r1
  have Hc1 := Lib.hid hc1; clear hc1
  have hb1 : Off w.heap.size g w w1 := Only.off ho1 (Nat.le_refl _)
  have hz1 := ho1.size
  clear ho1
  by_cases c0 : r = 0
  · subst c0
    go_wp2_with fail
    refine (l1PickInt_any B g a len cap _ 11 11 [0, 1, -1, 9, 10, 127, 128, 999999999, 1000000000, 9223372036854775807, -9223372036854775808] _ _ _ _ (Hc1.out.other ((Below.refl w1.heap.size _).alloc (Nat.le_refl _) _) (by omega) (by omega)) (heap_alloc_new _ _) rfl rfl (by omega) (by omega) (by omega)).mono ?_
    rintro e w2 ⟨z, hz, rfl, hc2, ho2⟩
    have hzb : -9223372036854775808 ≤ z ∧ z ≤ 9223372036854775807 := by
      simp only [List.mem_cons, List.not_mem_nil, or_false] at hz
      omega
    have hb2 : Off w.heap.size g w1 w2 := (Below.off ((Below.refl _ _).alloc (by omega) _)).trans (Only.off ho2 (by simp; omega))
    have Hc2 := Lib.hid hc2
    clear ho2 hc2 hz
    have Hz := Lib.hid hzb; clear hzb
    go_wp2_with fail
    go_ret
    exact ⟨z, Hz.out, rfl, Hc2.out, hb1.trans hb2⟩
  · have n0 : (r == 0) = false := by rw [beq_eq_false_iff_ne]; exact c0
    by_cases c1 : r = 1
    · subst c1
      clear c0 n0
      go_wp2_with fail
      refine (l1Below_any B g a len cap _ _ Hc1.out (by omega)).mono ?_
      rintro e w2 ⟨q, q0, q1, rfl, hc2, ho2⟩
      have hq : q < 1000000 := q1 (by omega)
      have hb2 : Off w.heap.size g w1 w2 := Only.off ho2 (by omega)
      have Hc2 := Lib.hid hc2
      clear ho2 hc2 q1
      go_wp2_with fail
      go_ret
      exact ⟨q - 500000, ⟨by omega, by omega⟩, rfl, Hc2.out, hb1.trans hb2⟩
    · have n1 : (r == 1) = false := by rw [beq_eq_false_iff_ne]; exact c1
      clear c0 c1
      go_wp2_with fail
      refine (l1Below_any B g a len cap _ _ Hc1.out (by omega)).mono ?_
      rintro e w2 ⟨q, q0, q1, rfl, hc2, ho2⟩
      have hq : q < 20 := q1 (by omega)
      have hb2 : Off w.heap.size g w1 w2 := Only.off ho2 (by omega)
      have Hc2 := Lib.hid hc2
      clear ho2 hc2 q1
      go_wp2_with fail
      go_ret
      exact ⟨q, ⟨by omega, by omega⟩, rfl, Hc2.out, hb1.trans hb2⟩
end Go.Proofs.YtbjndnpdmohjiaaDoor.Num
