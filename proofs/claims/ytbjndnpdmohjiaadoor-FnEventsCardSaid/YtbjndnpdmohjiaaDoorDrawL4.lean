/-
  The walk of the reference's l4Number: some number of the type int; of what was there only the cursor's block is written.
-/
import Derived.Test.YtbjndnpdmohjiaaDoorDrawOnce
import Derived.Test.YtbjndnpdmohjiaaDoorDrawPickInt
namespace Go.Proofs.YtbjndnpdmohjiaaDoor.Num
open Go.RowKit Go.Proofs
set_option linter.unusedVariables false

def i64R (n : Int) : Prop := -9223372036854775808 ≤ n ∧ n ≤ 9223372036854775807
set_option maxHeartbeats 400000 in
theorem l4Number_any (B g : Nat) (a : Option Addr) (len cap : Nat) (w : World) (h : Cur w B g a len cap) (hB : B ≤ w.heap.size) (hg : g < w.heap.size) :
    Calls Tryd.prog 26 #[.pointer (some ⟨g, 0, none⟩)] w fun e w' => ∃ z : Int, i64R z ∧ e = .returned (.int .i64 z) ∧ Cur w' B g a len cap ∧ Off w.heap.size g w w' := by
  have H := Lib.hid h; clear h
  go_enter Tryd.func26, Tryd.ntmps26
  go_wp2_with fail
  refine (l1Once_any B g a len cap _ _ H.out (by omega)).mono ?_
  rintro e w1 ⟨b, rfl, hc1, ho1⟩
  have Hc1 := Lib.hid hc1; clear hc1
  have hf1 : Off w.heap.size g w w1 := Only.off ho1 (Nat.le_refl _)
  have hz1 := ho1.size
  clear ho1
  cases b with
  | true =>
    go_wp2_with fail
    refine (l1PickInt_any _ g a len cap _ 10 10 [0, 1, -1, 18999, 19000, 19999, 20000, 536870911, 536870912, 9223372036854775807] _ _ _ _ (Hc1.out.other ((Below.refl w1.heap.size _).alloc (Nat.le_refl _) _) (by omega) (by omega)) (heap_alloc_new _ _) rfl rfl (by omega) (by omega) (by omega)).mono ?_
    rintro e w2 ⟨z, hz, rfl, hc2, ho2⟩
    have Hz := Lib.hid hz
    have Hc2 := Lib.hid hc2
    have hf2 : Off w.heap.size g w1 w2 := (Below.off ((Below.refl _ _).alloc (by omega) _)).trans (Only.off ho2 (by simp; omega))
    clear hz hc2 ho2
    go_wp2_with fail
    go_ret
    exact ⟨z, by have := Hz.out; simp only [List.mem_cons, List.not_mem_nil, or_false] at this; unfold i64R; omega, rfl, Hc2.out, hf1.trans hf2⟩
  | false =>
    go_wp2_with fail
    refine (l1Below_any B g a len cap _ _ Hc1.out (by omega)).mono ?_
    rintro e w2 ⟨r, r0, r1, rfl, hc2, ho2⟩
    have hr : r < 20 := r1 (by omega)
    have hw : IntKind.i64.wrap (1 + r) = 1 + r := IntWalk.i64_in _ (by omega)
    have Hc2 := Lib.hid hc2
    have hf2 : Off w.heap.size g w1 w2 := Only.off ho2 (by omega)
    clear hc2 ho2 r1
    go_wp2_with fail
    go_ret
    exact ⟨1 + r, by unfold i64R; omega, rfl, Hc2.out, hf1.trans hf2⟩
end Go.Proofs.YtbjndnpdmohjiaaDoor.Num
