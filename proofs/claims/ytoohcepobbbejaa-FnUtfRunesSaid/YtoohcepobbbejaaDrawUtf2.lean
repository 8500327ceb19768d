/-
  The walks of the reference's l5State, DrawUtfGood, DrawUtfByte and DrawRuneText: each gives some state, number or short string; nothing that was there is written but the cursor.
-/
import Derived.Test.YtoohcepobbbejaaDrawUtf
namespace Go.Proofs.Ytoohcepobbbejaa.Num
open Go.RowKit Go.Proofs
set_option linter.unusedVariables false
set_option linter.unusedSimpArgs false

theorem state_small (l : List UInt8) : ∃ W L H : Int, (Utf.run Utf.z l).1 = (W, L, H) ∧ i64U W ∧ i64U L ∧ i64U H := by
  obtain ⟨⟨W, L, H⟩, hr⟩ : ∃ u, (Utf.run Utf.z l).1 = u := ⟨_, rfl⟩
  have h := Utf.ok_small (Utf.run_ok l Utf.z Utf.ok_z)
  rw [hr] at h
  simp only at h
  exact ⟨W, L, H, hr, by unfold i64U; omega, by unfold i64U; omega, by unfold i64U; omega⟩
theorem OffSet {C g : Nat} {a w : World} (h : Off C g a w) {p : Addr} (hp : C ≤ p.block) (v : Value) : Off C g a (w.setCell p v) := h.trans (Below.off ((Below.refl _ _).setCell hp v))
theorem CurSet {w : World} {B g : Nat} {a : Option Addr} {len cap : Nat} (h : Cur w B g a len cap) (hgB : B ≤ g) {p : Addr} (hp : g < p.block) (v : Value) : Cur (w.setCell p v) B g a len cap :=
  h.other (C := g + 1) ((Below.refl _ _).setCell hp v) (by omega) (by omega)
theorem OffCell {C g : Nat} {a w : World} (h : Off C g a w) {b : Nat} (hb : b < C) (hne : b ≠ g) (j : Nat) : w.cell? ⟨b, j, none⟩ = a.cell? ⟨b, j, none⟩ := by
  unfold World.cell?; simp only [h.block b hb hne]
theorem BoxOff {w w' : World} {b C g : Nat} {vs : List Value} (h : Box w b vs) (ho : Off C g w w') (hne : b ≠ g) (hC : b < C) : Box w' b vs := by
  refine ⟨Nat.lt_of_lt_of_le h.1 ho.size, fun j hj => ?_⟩
  have hb := ho.block b hC hne
  have e1 : w'.cell? ⟨b, j, none⟩ = w.cell? ⟨b, j, none⟩ := by unfold World.cell?; simp only [hb]
  have e2 : w'.frozen? ⟨b, j, none⟩ = w.frozen? ⟨b, j, none⟩ := by unfold World.frozen?; simp only [hb]
  rw [e1, e2]; exact h.2 j hj
set_option maxHeartbeats 2000000 in
theorem l5State_any (B g : Nat) (a : Option Addr) (len cap : Nat) (w : World) (h : Cur w B g a len cap) (hB : B ≤ w.heap.size) (hg : g < w.heap.size) :
    Calls Try.prog 35 #[.pointer (some ⟨g, 0, none⟩)] w fun e w' => ∃ W L H : Int, i64U W ∧ i64U L ∧ i64U H ∧ e = .returned (.agg #[.int .i64 W, .int .i64 L, .int .i64 H]) ∧ Cur w' B g a len cap ∧ Off w.heap.size g w w' := by
  have H := Lib.hid h; clear h
  have hgB : B ≤ g := H.out.choose_spec.choose_spec.1
  go_enter Try.func35, Try.ntmps35
  go_wp2_with fail
  have hx0 := Box.fresh w #[.int .i64 0, .int .i64 0, .int .i64 0] 29
  have hf0 : Off w.heap.size g w (w.alloc (.cells #[.int .i64 0, .int .i64 0, .int .i64 0] 29)) := Below.off ((Below.refl _ _).alloc (Nat.le_refl _) _)
  have Hc0 := Lib.hid (H.out.other ((Below.refl w.heap.size w).alloc (Nat.le_refl _) (.cells #[.int .i64 0, .int .i64 0, .int .i64 0] 29)) (by omega) (by omega))
  have hz0 : w.heap.size < (w.alloc (.cells #[.int .i64 0, .int .i64 0, .int .i64 0] 29)).heap.size := by simp
  generalize w.alloc (.cells #[.int .i64 0, .int .i64 0, .int .i64 0] 29) = w0 at hx0 hf0 Hc0 hz0 ⊢
  refine (l5Bent_any B g a len cap _ Hc0.out (by omega) (by omega)).mono ?_
  rintro e w1 ⟨s, hs, rfl, hc1, hf1⟩
  have Hc1 := Lib.hid hc1
  have hx1 := BoxOff hx0 hf1 (by omega) (by omega)
  have hf01 := hf0.trans (hf1.mono (D := w.heap.size) (by omega))
  have hz1 := hf1.size
  clear hc1 hx0 hf0 hf1
  go_wp2_with fail
  refine (specUtfState_any s _ (by omega)).mono ?_
  obtain ⟨W, L, U, hr, hW, hL, hU⟩ := state_small s.data.toList
  rw [hr]
  unfold utV
  simp only
  rintro e w2 ⟨rfl, hb2⟩
  have Hc2 := Lib.hid (Hc1.out.other hb2 (by omega) (by omega))
  have hx2 := hx1.below hb2 (by omega)
  have hf02 := hf01.trans (Below.off (g := g) (show Below w.heap.size w1 w2 from hb2.mono (by omega)))
  have hz2 := hb2.size
  clear hr hb2 hx1 hf01
  go_wp2_with fail
  have hy3 := Box.fresh w2 #[.int .i64 W, .int .i64 L, .int .i64 U] 29
  have hx3 := hx2.alloc (.cells #[.int .i64 W, .int .i64 L, .int .i64 U] 29)
  have hf03 : Off w.heap.size g w (w2.alloc (.cells #[.int .i64 W, .int .i64 L, .int .i64 U] 29)) := hf02.trans (Below.off ((Below.refl _ _).alloc (by omega) _))
  have Hc3 := Lib.hid (Hc2.out.other ((Below.refl w2.heap.size w2).alloc (Nat.le_refl _) (.cells #[.int .i64 W, .int .i64 L, .int .i64 U] 29)) (by omega) (by omega))
  have hz3 : w2.heap.size < (w2.alloc (.cells #[.int .i64 W, .int .i64 L, .int .i64 U] 29)).heap.size := by simp
  generalize w2.alloc (.cells #[.int .i64 W, .int .i64 L, .int .i64 U] 29) = w3 at hy3 hx3 hf03 Hc3 hz3 ⊢
  generalize w2.heap.size = b2 at hy3 hz2 hz3 ⊢
  clear hx2 hf02
  refine (l1Below_any B g a len cap _ _ Hc3.out (by omega)).mono ?_
  rintro e w4 ⟨q, q0, q1, rfl, hc4, ho4⟩
  have Hc4 := Lib.hid hc4
  have hx4 := BoxOff hx3 (Only.off ho4 (Nat.le_refl _)) (by omega) (by omega)
  have hy4 := BoxOff hy3 (Only.off ho4 (Nat.le_refl _)) (by omega) (by omega)
  have hf04 := hf03.trans (Only.off ho4 (C := w.heap.size) (by omega))
  have hz4 := ho4.size
  have HW := Lib.hid hW
  have HL := Lib.hid hL
  have HU := Lib.hid hU
  clear hc4 hx3 hy3 hf03 ho4 q1 hW hL hU
  by_cases c0 : q = 0
  · subst c0
    go_wp2_with fail
    refine (l1Below_any B g a len cap _ _ Hc4.out (by omega)).mono ?_
    rintro e w5 ⟨r, r0, r1, rfl, hc5, ho5⟩
    have hr : r < 6 := r1 (by omega)
    have hw : IntKind.i64.wrap (r - 1) = r - 1 := IntWalk.i64_in _ (by omega)
    have Hc5 := Lib.hid hc5
    have hx5 := BoxOff hx4 (Only.off ho5 (Nat.le_refl _)) (by omega) (by omega)
    have hy5 := BoxOff hy4 (Only.off ho5 (Nat.le_refl _)) (by omega) (by omega)
    have hf05 := hf04.trans (Only.off ho5 (C := w.heap.size) (by omega))
    obtain ⟨c0, c1, c2, f0, f1, f2⟩ := hx5.three
    obtain ⟨d0, d1, d2, g0, g1, g2⟩ := hy5.three
    clear hc5 hx4 hy4 hf04 ho5 r1 hx5 hy5
    go_wp2_with fail
    refine bodyPost_ret (v := .agg #[.int .i64 (r - 1), .int .i64 L, .int .i64 U]) (by simp [results, Try.results35, go_sem, c0, c1, c2, d0, d1, d2]) rfl ⟨r - 1, L, U, by unfold i64U; omega, HL.out, HU.out, rfl, ?_, ?_⟩
    · repeat (first | exact Hc5.out | refine CurSet ?_ hgB (by simp only; omega) _)
    · repeat (first | exact hf05 | refine OffSet ?_ (by simp only; omega) _)
  · have n0 : (q == 0) = false := by rw [beq_eq_false_iff_ne]; exact c0
    by_cases c1 : q = 1
    · subst c1
      clear c0 n0
      go_wp2_with fail
      refine (l1PickInt_any B g a len cap _ 5 5 [0, 128, 144, 160, -1] _ _ _ _ (Hc4.out.other ((Below.refl w4.heap.size _).alloc (Nat.le_refl _) _) (by omega) (by omega)) (heap_alloc_new _ _) rfl rfl (by omega) (by omega) (by omega)).mono ?_
      rintro e w5 ⟨r, hr, rfl, hc5, ho5⟩
      have hrB : i64U r := by simp only [List.mem_cons, List.not_mem_nil, or_false] at hr; unfold i64U; omega
      have Hr := Lib.hid hrB
      have Hc5 := Lib.hid hc5
      have hf5 : Off w4.heap.size g w4 w5 := (Below.off ((Below.refl _ _).alloc (Nat.le_refl _) _)).trans (Only.off ho5 (by simp))
      have hx5 := BoxOff hx4 hf5 (by omega) (by omega)
      have hy5 := BoxOff hy4 hf5 (by omega) (by omega)
      have hf05 := hf04.trans (hf5.mono (D := w.heap.size) (by omega))
      obtain ⟨c0, c1, c2, f0, f1, f2⟩ := hx5.three
      obtain ⟨d0, d1, d2, g0, g1, g2⟩ := hy5.three
      clear hc5 hx4 hy4 hf04 ho5 hx5 hy5 hf5 hr hrB
      go_wp2_with fail
      refine bodyPost_ret (v := .agg #[.int .i64 W, .int .i64 r, .int .i64 U]) (by simp [results, Try.results35, go_sem, c0, c1, c2, d0, d1, d2]) rfl ⟨W, r, U, HW.out, Hr.out, HU.out, rfl, ?_, ?_⟩
      · repeat (first | exact Hc5.out | refine CurSet ?_ hgB (by simp only; omega) _)
      · repeat (first | exact hf05 | refine OffSet ?_ (by simp only; omega) _)
    · have n1 : (q == 1) = false := by rw [beq_eq_false_iff_ne]; exact c1
      by_cases c2 : q = 2
      · subst c2
        clear c0 n0 c1 n1
        go_wp2_with fail
        refine (l1PickInt_any B g a len cap _ 5 5 [0, 143, 159, 191, 255] _ _ _ _ (Hc4.out.other ((Below.refl w4.heap.size _).alloc (Nat.le_refl _) _) (by omega) (by omega)) (heap_alloc_new _ _) rfl rfl (by omega) (by omega) (by omega)).mono ?_
        rintro e w5 ⟨r, hr, rfl, hc5, ho5⟩
        have hrB : i64U r := by simp only [List.mem_cons, List.not_mem_nil, or_false] at hr; unfold i64U; omega
        have Hr := Lib.hid hrB
        have Hc5 := Lib.hid hc5
        have hf5 : Off w4.heap.size g w4 w5 := (Below.off ((Below.refl _ _).alloc (Nat.le_refl _) _)).trans (Only.off ho5 (by simp))
        have hx5 := BoxOff hx4 hf5 (by omega) (by omega)
        have hy5 := BoxOff hy4 hf5 (by omega) (by omega)
        have hf05 := hf04.trans (hf5.mono (D := w.heap.size) (by omega))
        obtain ⟨c0, c1, c2, f0, f1, f2⟩ := hx5.three
        obtain ⟨d0, d1, d2, g0, g1, g2⟩ := hy5.three
        clear hc5 hx4 hy4 hf04 ho5 hx5 hy5 hf5 hr hrB
        go_wp2_with fail
        refine bodyPost_ret (v := .agg #[.int .i64 W, .int .i64 L, .int .i64 r]) (by simp [results, Try.results35, go_sem, c0, c1, c2, d0, d1, d2]) rfl ⟨W, L, r, HW.out, HL.out, Hr.out, rfl, ?_, ?_⟩
        · repeat (first | exact Hc5.out | refine CurSet ?_ hgB (by simp only; omega) _)
        · repeat (first | exact hf05 | refine OffSet ?_ (by simp only; omega) _)
      · have n2 : (q == 2) = false := by rw [beq_eq_false_iff_ne]; exact c2
        obtain ⟨x0, x1, x2, f0, f1, f2⟩ := hx4.three
        obtain ⟨d0, d1, d2, g0, g1, g2⟩ := hy4.three
        clear c0 c1 c2 hx4 hy4
        go_wp2_with fail
        refine bodyPost_ret (v := .agg #[.int .i64 W, .int .i64 L, .int .i64 U]) (by simp [results, Try.results35, go_sem, x0, x1, x2, d0, d1, d2]) rfl ⟨W, L, U, HW.out, HL.out, HU.out, rfl, ?_, ?_⟩
        · repeat (first | exact Hc4.out | refine CurSet ?_ hgB (by simp only; omega) _)
        · repeat (first | exact hf04 | refine OffSet ?_ (by simp only; omega) _)
theorem drawUtfGood_any (a : Option Addr) (len cap : Nat) (w : World) (h : CodeAt w w.heap.size a len) :
    Calls Try.prog 14 #[.slice a len cap] w fun e w' => ∃ s : ByteArray, s.size ≤ 32 ∧ e = .returned (.string s) ∧ Below w.heap.size w w' := by
  have H := Lib.hid h; clear h
  go_enter Try.func14, Try.ntmps14
  go_wp2_with fail
  refine (l1New_any _ a len cap _ (Nat.le_refl _) H.out).mono ?_
  rintro e w1 ⟨g, rfl, hc1, hb1, hg1, hg1'⟩
  have Hc1 := Lib.hid hc1; clear hc1
  have hz1 := hb1.size
  go_wp2_with fail
  refine (l5Bent_any _ g a len cap _ Hc1.out hz1 hg1').mono ?_
  rintro e w2 ⟨s, hs, rfl, hc2, hf2⟩
  have hb2 : Below w.heap.size w1 w2 := hf2.below hg1 hz1
  clear hc2 hf2
  go_wp2_with fail
  go_ret
  exact ⟨s, hs, rfl, hb1.trans hb2⟩
theorem drawRuneText_any (a : Option Addr) (len cap : Nat) (w : World) (h : CodeAt w w.heap.size a len) :
    Calls Try.prog 28 #[.slice a len cap] w fun e w' => ∃ n : Int, i64U n ∧ e = .returned (.int .i64 n) ∧ Below w.heap.size w w' := by
  have H := Lib.hid h; clear h
  go_enter Try.func28, Try.ntmps28
  go_wp2_with fail
  refine (l1New_any _ a len cap _ (Nat.le_refl _) H.out).mono ?_
  rintro e w1 ⟨g, rfl, hc1, hb1, hg1, hg1'⟩
  have Hc1 := Lib.hid hc1; clear hc1
  have hz1 := hb1.size
  go_wp2_with fail
  refine (l1Once_any _ g a len cap _ _ Hc1.out (by omega)).mono ?_
  rintro e w2 ⟨b, rfl, hc2, ho2⟩
  have Hc2 := Lib.hid hc2; clear hc2
  have hb2 : Below w.heap.size w1 w2 := ho2.below hg1 hz1
  have hb12 := hb1.trans hb2
  have hz2 := ho2.size
  clear ho2 hb2
  cases b with
  | true =>
    go_wp2_with fail
    refine (l1PickInt_any _ g a len cap _ 6 6 [-1, 55296, 57343, 1114112, 9223372036854775807, -9223372036854775808] _ _ _ _ (Hc2.out.other ((Below.refl w2.heap.size _).alloc (Nat.le_refl _) _) (by omega) (by omega)) (heap_alloc_new _ _) rfl rfl (by omega) (by omega) (by omega)).mono ?_
    rintro e w3 ⟨z, hz, rfl, hc3, ho3⟩
    have hzB : i64U z := by simp only [List.mem_cons, List.not_mem_nil, or_false] at hz; unfold i64U; omega
    have Hz := Lib.hid hzB
    have hb3 : Below w.heap.size w2 w3 := ((Below.refl _ _).alloc (by omega) _).trans (ho3.below hg1 (by simp; omega))
    clear hz hc3 ho3 hzB
    go_wp2_with fail
    go_ret
    exact ⟨z, Hz.out, rfl, hb12.trans hb3⟩
  | false =>
    go_wp2_with fail
    refine (l5Rune_any _ g a len cap _ Hc2.out (by omega) (by omega)).mono ?_
    rintro e w3 ⟨z, hz, rfl, hc3, hf3⟩
    have hb3 : Below w.heap.size w2 w3 := hf3.below hg1 (by omega)
    have Hz := Lib.hid (show i64U z by unfold i64U; omega)
    clear hz hc3 hf3
    go_wp2_with fail
    go_ret
    exact ⟨z, Hz.out, rfl, hb12.trans hb3⟩
set_option maxHeartbeats 1000000 in
theorem drawUtfByte_any (a : Option Addr) (len cap : Nat) (w : World) (h : CodeAt w w.heap.size a len) :
    Calls Try.prog 23 #[.slice a len cap] w fun e w' => ∃ W L H b : Int, i64U W ∧ i64U L ∧ i64U H ∧ i64U b ∧ e = .returned (.tuple #[.agg #[.int .i64 W, .int .i64 L, .int .i64 H], .int .i64 b]) ∧ Below w.heap.size w w' := by
  have H := Lib.hid h; clear h
  go_enter Try.func23, Try.ntmps23
  go_wp2_with fail
  have hx0 := Box.fresh w #[.int .i64 0, .int .i64 0, .int .i64 0] 29
  have hb0 : Below w.heap.size w (w.alloc (.cells #[.int .i64 0, .int .i64 0, .int .i64 0] 29)) := (Below.refl _ _).alloc (Nat.le_refl _) _
  have hz0 : w.heap.size < (w.alloc (.cells #[.int .i64 0, .int .i64 0, .int .i64 0] 29)).heap.size := by simp
  generalize w.alloc (.cells #[.int .i64 0, .int .i64 0, .int .i64 0] 29) = w0 at hx0 hb0 hz0 ⊢
  refine (l1New_any w.heap.size a len cap _ (by omega) (H.out.below hb0)).mono ?_
  rintro e w1 ⟨g, rfl, hc1, hb1, hg1, hg1'⟩
  have Hc1 := Lib.hid hc1
  have hx1 := hx0.below hb1 hz0
  have hb01 := hb0.trans (hb1.mono (by omega))
  have hz1 := hb1.size
  clear hc1 hx0 hb0 hb1
  go_wp2_with fail
  refine (l5State_any _ g a len cap _ Hc1.out (by omega) hg1').mono ?_
  rintro e w2 ⟨W, L, U, hW, hL, hU, rfl, hc2, hf2⟩
  have HW := Lib.hid hW
  have HL := Lib.hid hL
  have HU := Lib.hid hU
  have Hc2 := Lib.hid hc2
  have hx2 := BoxOff hx1 hf2 (by omega) (by omega)
  have hb02 : Below w.heap.size w w2 := hb01.trans (hf2.below (by omega) (by omega))
  have hz2 := hf2.size
  clear hW hL hU hc2 hf2 hx1 hb01
  go_wp2_with fail
  refine (l1Below_any _ g a len cap _ _ Hc2.out (by omega)).mono ?_
  rintro e w3 ⟨r, r0, r1, rfl, hc3, ho3⟩
  have hr : r < 256 := r1 (by omega)
  have Hc3 := Lib.hid hc3
  have hx3 := BoxOff hx2 (Only.off ho3 (Nat.le_refl _)) (by omega) (by omega)
  have hb03 : Below w.heap.size w w3 := hb02.trans (ho3.below (by omega) (by omega))
  have hz3 := ho3.size
  clear hc3 ho3 hx2 hb02 r1
  go_wp2_with fail
  refine (l1PickInt_any _ g a len cap _ 22 22 [0, 127, 128, 143, 144, 159, 160, 191, 192, 193, 194, 223, 224, 237, 239, 240, 244, 245, 255, 256, -1, r] _ _ _ _ (Hc3.out.other ((Below.refl w3.heap.size _).alloc (Nat.le_refl _) _) (by omega) (by omega)) (heap_alloc_new _ _) rfl rfl (by omega) (by omega) (by omega)).mono ?_
  rintro e w4 ⟨x, hx, rfl, hc4, ho4⟩
  have hxB : i64U x := by simp only [List.mem_cons, List.not_mem_nil, or_false] at hx; unfold i64U; omega
  have Hx := Lib.hid hxB
  have hf4 : Off w3.heap.size g w3 w4 := (Below.off ((Below.refl _ _).alloc (Nat.le_refl _) _)).trans (Only.off ho4 (by simp))
  have hx4 := BoxOff hx3 hf4 (by omega) (by omega)
  have hb04 : Below w.heap.size w w4 := hb03.trans (hf4.below (by omega) (by omega))
  obtain ⟨d0, d1, d2, g0, g1, g2⟩ := hx4.three
  clear hx hxB hc4 ho4 hf4 hx3 hb03 hx4
  go_wp2_with fail
  refine bodyPost_ret (v := .tuple #[.agg #[.int .i64 W, .int .i64 L, .int .i64 U], .int .i64 x]) (by simp [results, Try.results23, go_sem, d0, d1, d2]) rfl ⟨W, L, U, x, HW.out, HL.out, HU.out, Hx.out, rfl, ?_⟩
  repeat (first | exact hb04 | refine Below.setCell ?_ (by simp) _)
end Go.Proofs.Ytoohcepobbbejaa.Num
