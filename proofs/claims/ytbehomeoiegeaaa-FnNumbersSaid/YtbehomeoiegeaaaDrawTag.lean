/-
  The walks of the reference's draws of stage 4 (l4Number, DrawNumberOk, DrawTagOf, DrawTagIn, DrawZig, DrawUnzig): each gives some number of its type; nothing that was there is written but the cursor.
-/
import Derived.Test.YtbehomeoiegeaaaDrawWhole
import Derived.Test.YtbehomeoiegeaaaDrawWide
import Derived.Test.YtbehomeoiegeaaaDrawOnce
import Derived.Test.YtbehomeoiegeaaaTagWalk
import Derived.Deep.DrawnRows
namespace Go.Proofs.Ytbehomeoiegeaaa.Num
open Go.RowKit Go.Proofs
set_option linter.unusedVariables false

def i64R (n : Int) : Prop := -9223372036854775808 ≤ n ∧ n ≤ 9223372036854775807
set_option maxHeartbeats 400000 in
theorem l4Number_any (B g : Nat) (a : Option Addr) (len cap : Nat) (w : World) (h : Cur w B g a len cap) (hB : B ≤ w.heap.size) (hg : g < w.heap.size) :
    Calls Try.prog 34 #[.pointer (some ⟨g, 0, none⟩)] w fun e w' => ∃ z : Int, i64R z ∧ e = .returned (.int .i64 z) ∧ Cur w' B g a len cap ∧ Off w.heap.size g w w' := by
  have H := Lib.hid h; clear h
  go_enter Try.func34, Try.ntmps34
  go_wp2_with fail
  refine (l1Once_any B g a len cap _ _ H.out (by omega)).mono ?_
  rintro e w1 ⟨b, rfl, hc1, ho1⟩
  have Hc1 := Lib.hid hc1; clear hc1
  have hf1 : Off w.heap.size g w w1 := Only.off ho1 (Nat.le_refl _)
  have hz1 := ho1.size
  clear ho1
  cases b with
  | true =>
    go_wp2_with fail
    refine (l1PickInt_any _ g a len cap _ 10 10 [0, 1, -1, 18999, 19000, 19999, 20000, 536870911, 536870912, 9223372036854775807] _ _ _ _ (Hc1.out.other ((Below.refl w1.heap.size _).alloc (Nat.le_refl _) _) (by omega) (by omega)) (heap_alloc_new _ _) rfl rfl (by omega) (by omega) (by omega)).mono ?_
    rintro e w2 ⟨z, hz, rfl, hc2, ho2⟩
    have Hz := Lib.hid hz
    have Hc2 := Lib.hid hc2
    have hf2 : Off w.heap.size g w1 w2 := (Below.off ((Below.refl _ _).alloc (by omega) _)).trans (Only.off ho2 (by simp; omega))
    clear hz hc2 ho2
    go_wp2_with fail
    go_ret
    exact ⟨z, by have := Hz.out; simp only [List.mem_cons, List.not_mem_nil, or_false] at this; unfold i64R; omega, rfl, Hc2.out, hf1.trans hf2⟩
  | false =>
    go_wp2_with fail
    refine (l1Below_any B g a len cap _ _ Hc1.out (by omega)).mono ?_
    rintro e w2 ⟨r, r0, r1, rfl, hc2, ho2⟩
    have hr : r < 20 := r1 (by omega)
    have hw : IntKind.i64.wrap (1 + r) = 1 + r := IntWalk.i64_in _ (by omega)
    have Hc2 := Lib.hid hc2
    have hf2 : Off w.heap.size g w1 w2 := Only.off ho2 (by omega)
    clear hc2 ho2 r1
    go_wp2_with fail
    go_ret
    exact ⟨1 + r, by unfold i64R; omega, rfl, Hc2.out, hf1.trans hf2⟩
theorem drawNumberOk_any (a : Option Addr) (len cap : Nat) (w : World) (h : CodeAt w w.heap.size a len) :
    Calls Try.prog 24 #[.slice a len cap] w fun e w' => ∃ z : Int, i64R z ∧ e = .returned (.int .i64 z) ∧ Below w.heap.size w w' := by
  have H := Lib.hid h; clear h
  go_enter Try.func24, Try.ntmps24
  go_wp2_with fail
  refine (l1New_any _ a len cap _ (Nat.le_refl _) H.out).mono ?_
  rintro e w1 ⟨g, rfl, hc1, hb1, hg1, hg1'⟩
  have Hc1 := Lib.hid hc1; clear hc1
  have hz1 := hb1.size
  go_wp2_with fail
  refine (l4Number_any _ g a len cap _ Hc1.out hz1 hg1').mono ?_
  rintro e w2 ⟨z, hz, rfl, hc2, hf2⟩
  have hb2 : Below w.heap.size w1 w2 := hf2.below hg1 hz1
  have Hz := Lib.hid hz
  clear hz hc2 hf2
  go_wp2_with fail
  go_ret
  exact ⟨z, Hz.out, rfl, hb1.trans hb2⟩
theorem drawTagOf_any (a : Option Addr) (len cap : Nat) (w : World) (h : CodeAt w w.heap.size a len) :
    Calls Try.prog 14 #[.slice a len cap] w fun e w' => ∃ n x : Int, i64R n ∧ i64R x ∧ e = .returned (.tuple #[.int .i64 n, .int .i64 x]) ∧ Below w.heap.size w w' := by
  have H := Lib.hid h; clear h
  go_enter Try.func14, Try.ntmps14
  go_wp2_with fail
  refine (l1New_any _ a len cap _ (Nat.le_refl _) H.out).mono ?_
  rintro e w1 ⟨g, rfl, hc1, hb1, hg1, hg1'⟩
  have Hc1 := Lib.hid hc1; clear hc1
  have hz1 := hb1.size
  go_wp2_with fail
  refine (l4Number_any _ g a len cap _ Hc1.out hz1 hg1').mono ?_
  rintro e w2 ⟨z, hz, rfl, hc2, hf2⟩
  have hb2 : Below w.heap.size w1 w2 := hf2.below hg1 hz1
  have Hc2 := Lib.hid hc2
  have hz2 := hf2.size
  have Hz := Lib.hid hz
  clear hz hc2 hf2
  go_wp2_with fail
  refine (l1Below_any _ g a len cap _ _ Hc2.out (by omega)).mono ?_
  rintro e w3 ⟨r, r0, r1, rfl, hc3, ho3⟩
  have hr : r < 10 := r1 (by omega)
  have hw : IntKind.i64.wrap (r - 1) = r - 1 := IntWalk.i64_in _ (by omega)
  have hb3 : Below w.heap.size w2 w3 := ho3.below hg1 (by omega)
  clear hc3 ho3 r1
  go_wp2_with fail
  go_ret2
  exact ⟨z, r - 1, Hz.out, by unfold i64R; omega, rfl, (hb1.trans hb2).trans hb3⟩
theorem drawTagIn_any (a : Option Addr) (len cap : Nat) (w : World) (h : CodeAt w w.heap.size a len) :
    Calls Try.prog 18 #[.slice a len cap] w fun e w' => ∃ u : Nat, u ≤ 18446744073709551615 ∧ e = .returned (.int .u64 u) ∧ Below w.heap.size w w' := by
  have H := Lib.hid h; clear h
  go_enter Try.func18, Try.ntmps18
  go_wp2_with fail
  refine (l1New_any _ a len cap _ (Nat.le_refl _) H.out).mono ?_
  rintro e w1 ⟨g, rfl, hc1, hb1, hg1, hg1'⟩
  have Hc1 := Lib.hid hc1; clear hc1
  have hz1 := hb1.size
  go_wp2_with fail
  refine (l1Once_any _ g a len cap _ _ Hc1.out (by omega)).mono ?_
  rintro e w2 ⟨b, rfl, hc2, ho2⟩
  have Hc2 := Lib.hid hc2; clear hc2
  have hb2 : Below w.heap.size w1 w2 := ho2.below hg1 hz1
  have hb12 := hb1.trans hb2
  have hz2 := ho2.size
  clear ho2 hb2
  cases b with
  | true =>
    go_wp2_with fail
    refine (l1Wide_any _ g a len cap _ Hc2.out (by omega)).mono ?_
    rintro e w3 ⟨u, h0, rfl, _, ho3⟩
    have hb3 : Below w.heap.size w2 w3 := ho3.below hg1 (by omega)
    clear ho3
    have H0 := Lib.hid h0
    clear h0
    go_wp2_with fail
    go_ret
    exact ⟨u, H0.out, rfl, hb12.trans hb3⟩
  | false =>
    go_wp2_with fail
    refine (l4Number_any _ g a len cap _ Hc2.out (by omega) (by omega)).mono ?_
    rintro e w3 ⟨z, hz, rfl, hc3, hf3⟩
    have hb3 : Below w.heap.size w2 w3 := hf3.below hg1 (by omega)
    have Hc3 := Lib.hid hc3
    have hz3 := hf3.size
    clear hz hc3 hf3
    go_wp2_with fail
    refine (l1Below_any _ g a len cap _ _ Hc3.out (by omega)).mono ?_
    rintro e w4 ⟨r, r0, r1, rfl, hc4, ho4⟩
    have hb4 : Below w.heap.size w3 w4 := ho4.below hg1 (by omega)
    clear hc4 ho4 r1
    go_wp2_with fail
    refine (specTagOf_any z r _).mono ?_
    obtain ⟨u, hu, hT⟩ := tagR_is z r
    rw [hT]
    have Hu := Lib.hid hu
    clear hT hu
    rintro e w5 ⟨rfl, rfl⟩
    go_wp2_with fail
    go_ret
    exact ⟨u, Hu.out, rfl, (hb12.trans hb3).trans hb4⟩
theorem drawZig_any (a : Option Addr) (len cap : Nat) (w : World) (h : CodeAt w w.heap.size a len) :
    Calls Try.prog 19 #[.slice a len cap] w fun e w' => ∃ n : Int, i64R n ∧ e = .returned (.int .i64 n) ∧ Below w.heap.size w w' := by
  have H := Lib.hid h; clear h
  go_enter Try.func19, Try.ntmps19
  go_wp2_with fail
  refine (l1New_any _ a len cap _ (Nat.le_refl _) H.out).mono ?_
  rintro e w1 ⟨g, rfl, hc1, hb1, hg1, hg1'⟩
  have Hc1 := Lib.hid hc1; clear hc1
  have hz1 := hb1.size
  go_wp2_with fail
  refine (l1Whole_any _ g a len cap _ Hc1.out hz1 hg1').mono ?_
  rintro e w2 ⟨n, h0, h1, rfl, hb2⟩
  have H0 := Lib.hid (show i64R n from ⟨h0, h1⟩)
  clear h0 h1
  go_wp2_with fail
  go_ret
  exact ⟨n, H0.out, rfl, hb1.trans hb2⟩
theorem drawUnzig_any (a : Option Addr) (len cap : Nat) (w : World) (h : CodeAt w w.heap.size a len) :
    Calls Try.prog 21 #[.slice a len cap] w fun e w' => ∃ u : Nat, u ≤ 18446744073709551615 ∧ e = .returned (.int .u64 u) ∧ Below w.heap.size w w' := by
  have H := Lib.hid h; clear h
  go_enter Try.func21, Try.ntmps21
  go_wp2_with fail
  refine (l1New_any _ a len cap _ (Nat.le_refl _) H.out).mono ?_
  rintro e w1 ⟨g, rfl, hc1, hb1, hg1, hg1'⟩
  have Hc1 := Lib.hid hc1; clear hc1
  have hz1 := hb1.size
  go_wp2_with fail
  refine (l1Wide_any _ g a len cap _ Hc1.out hg1').mono ?_
  rintro e w2 ⟨n, h0, rfl, _, ho2⟩
  have hb2 : Below w.heap.size w1 w2 := ho2.below hg1 hz1
  clear ho2
  have H0 := Lib.hid h0
  clear h0
  go_wp2_with fail
  go_ret
  exact ⟨n, H0.out, rfl, hb1.trans hb2⟩
end Go.Proofs.Ytbehomeoiegeaaa.Num
