/-
  The walk of the reference's draw of a field number (l4Number): some number; nothing that was there is written but the cursor.
-/
import Derived.Test.YtcbohfncckpolaaGreatDoorDrawOnce
import Derived.Test.YtcbohfncckpolaaGreatDoorBox
import Derived.Test.YtcbohfncckpolaaGreatDoorDrawPickInt
import Derived.Deep.DrawnRows
namespace Go.Proofs.YtcbohfncckpolaaGreatDoor.Num
open Go.RowKit Go.Proofs
set_option linter.unusedVariables false

theorem Box.offAt {w w' : World} {C g k : Nat} {vs : List Value} (h : Off C g w w') (hx : Box w k vs) (hk : k < C) (hg : k ≠ g) : Box w' k vs :=
  ⟨Nat.lt_of_lt_of_le hx.1 h.size, fun j hj => by
    have hb := h.block k hk hg
    exact ⟨(World.cell?_of_block (a := ⟨k, j, none⟩) hb).trans (hx.2 j hj).1, (World.frozen?_of_block (a := ⟨k, j, none⟩) hb).trans (hx.2 j hj).2⟩⟩
def i64R (n : Int) : Prop := -9223372036854775808 ≤ n ∧ n ≤ 9223372036854775807
set_option maxHeartbeats 400000 in
theorem l4Number_any (B g : Nat) (a : Option Addr) (len cap : Nat) (w : World) (h : Cur w B g a len cap) (hB : B ≤ w.heap.size) (hg : g < w.heap.size) :
    Calls Tryz.prog 37 #[.pointer (some ⟨g, 0, none⟩)] w fun e w' => ∃ z : Int, i64R z ∧ e = .returned (.int .i64 z) ∧ Cur w' B g a len cap ∧ Off w.heap.size g w w' := by
  have H := Lib.hid h; clear h
  go_enter Tryz.func37, Tryz.ntmps37
  go_wp2_with fail
  refine (l1Once_any B g a len cap _ _ H.out (by omega)).mono ?_
  rintro e w1 ⟨b, rfl, hc1, ho1⟩
  have Hc1 := Lib.hid hc1; clear hc1
  have hf1 : Off w.heap.size g w w1 := Only.off ho1 (Nat.le_refl _)
  have hz1 := ho1.size
  clear ho1
  cases b with
  | true =>
    go_wp2_with fail
    refine (l1PickInt_any _ g a len cap _ 10 10 [0, 1, -1, 18999, 19000, 19999, 20000, 536870911, 536870912, 9223372036854775807] _ _ _ _ (Hc1.out.other ((Below.refl w1.heap.size _).alloc (Nat.le_refl _) _) (by omega) (by omega)) (heap_alloc_new _ _) rfl rfl (by omega) (by omega) (by omega)).mono ?_
    rintro e w2 ⟨z, hz, rfl, hc2, ho2⟩
    have Hz := Lib.hid hz
    have Hc2 := Lib.hid hc2
    have hf2 : Off w.heap.size g w1 w2 := (Below.off ((Below.refl _ _).alloc (by omega) _)).trans (Only.off ho2 (by simp; omega))
    clear hz hc2 ho2
    go_wp2_with fail
    go_ret
    exact ⟨z, by have := Hz.out; simp only [List.mem_cons, List.not_mem_nil, or_false] at this; unfold i64R; omega, rfl, Hc2.out, hf1.trans hf2⟩
  | false =>
    go_wp2_with fail
    refine (l1Below_any B g a len cap _ _ Hc1.out (by omega)).mono ?_
    rintro e w2 ⟨r, r0, r1, rfl, hc2, ho2⟩
    have hr : r < 20 := r1 (by omega)
    have hw : IntKind.i64.wrap (1 + r) = 1 + r := IntWalk.i64_in _ (by omega)
    have Hc2 := Lib.hid hc2
    have hf2 : Off w.heap.size g w1 w2 := Only.off ho2 (by omega)
    clear hc2 ho2 r1
    go_wp2_with fail
    go_ret
    exact ⟨1 + r, by unfold i64R; omega, rfl, Hc2.out, hf1.trans hf2⟩
end Go.Proofs.YtcbohfncckpolaaGreatDoor.Num
