/-
  The walks of the laws' tail (a code without its first byte) and of the reference's draw of a violation; only new memory is written.
-/
import Derived.Test.YtlepaimcgofkoaaDoorDraw
import Derived.Test.YtlepaimcgofkoaaDoorBox
namespace Go.Proofs.YtlepaimcgofkoaaDoor.Num
open Go.RowKit Go.Proofs
set_option linter.unusedVariables false

theorem tail_any (B : Nat) (a : Option Addr) (len cap : Nat) (w : World) (h : CodeAt w B a len) (hc : len ≤ cap) :
    Calls Tryd.prog 15 #[.slice a len cap] w fun e w' => ∃ a' len' cap', e = .returned (.slice a' len' cap') ∧ CodeAt w B a' len' ∧ w = w' := by
  have hl := h.1
  have H := Lib.hid h
  clear h
  by_cases h0 : len = 0
  · subst h0
    go_enter Tryd.func15, Tryd.ntmps15
    go_wp2_with fail
    go_ret
    exact ⟨a, 0, cap, rfl, H.out, rfl⟩
  · obtain ⟨b, off, rfl, hb, hcs⟩ : ∃ b off, a = some ⟨b, off, none⟩ ∧ b < B ∧ ∀ j, j < len → ∃ n : Nat, n < 256 ∧ w.cell? ⟨b, off + j, none⟩ = some (.int .u8 n) := by
      rcases H.out.2 with h | h
      · exact absurd h h0
      · exact h
    have h1 : ((len : Int) == 0) = false := by rw [beq_eq_false_iff_ne]; omega
    have h2 : (len == 0) = false := by rw [beq_eq_false_iff_ne]; omega
    have h3 : 1 ≤ len := by omega
    by_cases hc1 : cap = 1
    · subst hc1
      obtain rfl : len = 1 := by omega
      have He : Hid (CodeAt w B (some ⟨b, off, none⟩) 0) := Lib.hid ⟨by omega, .inl rfl⟩
      clear hcs h0
      go_enter Tryd.func15, Tryd.ntmps15
      go_wp2_with fail
      go_ret
      exact ⟨_, 0, 0, rfl, He.out, rfl⟩
    · have Hc : Hid (CodeAt w B (some ⟨b, off + 1, none⟩) (len - 1)) := Lib.hid ⟨by omega, .inr ⟨b, off + 1, rfl, hb, fun j hj => by
        obtain ⟨n, hn, hv⟩ := hcs (j + 1) (by omega)
        exact ⟨n, hn, by rw [Nat.add_assoc, Nat.add_comm 1 j]; exact hv⟩⟩⟩
      have hc2 : cap - 1 ≠ 0 := by omega
      clear hcs h0
      go_enter Tryd.func15, Tryd.ntmps15
      go_wp2_with fail
      go_ret
      exact ⟨_, len - 1, cap - 1, rfl, Hc.out, rfl⟩
theorem drawViol_any (B : Nat) (a : Option Addr) (len cap : Nat) (w : World) (hB : B ≤ w.heap.size) (h : CodeAt w B a len) :
    Calls Tryd.prog 14 #[.slice a len cap] w fun e w' => ∃ c m f : Int, (-1 ≤ c ∧ c ≤ 10) ∧ (0 ≤ m ∧ m ≤ 3) ∧ (-1 ≤ f ∧ f ≤ 2) ∧ e = .returned (.agg #[.int .i64 c, .int .i64 m, .int .i64 f]) ∧ Below w.heap.size w w' := by
  have H := Lib.hid h; clear h
  go_enter Tryd.func14, Tryd.ntmps14
  go_wp2_with fail
  have hx0 := Box.fresh w #[.int .i64 0, .int .i64 0, .int .i64 0] 29
  have hb0 : Below w.heap.size w (w.alloc (.cells #[.int .i64 0, .int .i64 0, .int .i64 0] 29)) := (Below.refl _ _).alloc (Nat.le_refl _) _
  have hz0 : w.heap.size < (w.alloc (.cells #[.int .i64 0, .int .i64 0, .int .i64 0] 29)).heap.size := by simp
  generalize w.alloc (.cells #[.int .i64 0, .int .i64 0, .int .i64 0] 29) = w0 at hx0 hb0 hz0 ⊢
  refine (l1New_any B a len cap _ (by omega) (H.out.below (hb0.mono hB))).mono ?_
  rintro e w1 ⟨g, rfl, hc1, hb1, hg1, hg1'⟩
  have Hc1 := Lib.hid hc1
  have hx1 := hx0.below hb1 hz0
  have hb01 := hb0.trans (hb1.mono (by omega))
  have hz1 := hb1.size
  clear hc1 hx0 hb0 hb1
  go_wp2_with fail
  refine (l1Below_any B g a len cap _ _ Hc1.out (by omega)).mono ?_
  rintro e w2 ⟨r, r0, r1, rfl, hc2, ho2⟩
  have hr : r < 12 := r1 (by omega)
  have hw : IntKind.i64.wrap (r - 1) = r - 1 := IntWalk.i64_in _ (by omega)
  have Hc2 := Lib.hid hc2
  have hz2 := ho2.size
  have hx2 := hx1.below (ho2.below hg1 hz1) hz0
  have hb02 := hb01.trans ((ho2.below hg1 (by omega)).mono (by omega))
  clear hc2 ho2 r1 hx1 hb01
  go_wp2_with fail
  refine (l1Below_any B g a len cap _ _ Hc2.out (by omega)).mono ?_
  rintro e w3 ⟨s, s0, s1, rfl, hc3, ho3⟩
  have hs : s < 4 := s1 (by omega)
  have Hc3 := Lib.hid hc3
  have hz3 := ho3.size
  have hx3 := hx2.below (ho3.below hg1 (by omega)) hz0
  have hb03 := hb02.trans ((ho3.below hg1 (by omega)).mono (by omega))
  clear hc3 ho3 s1 hx2 hb02
  go_wp2_with fail
  refine (l1Below_any B g a len cap _ _ Hc3.out (by omega)).mono ?_
  rintro e w4 ⟨t, t0, t1, rfl, hc4, ho4⟩
  have ht : t < 4 := t1 (by omega)
  have hw2 : IntKind.i64.wrap (t - 1) = t - 1 := IntWalk.i64_in _ (by omega)
  have hz4 := ho4.size
  have hx4 := hx3.below (ho4.below hg1 (by omega)) hz0
  have hb04 := hb03.trans ((ho4.below hg1 (by omega)).mono (by omega))
  clear hc4 ho4 t1 hx3 hb03
  obtain ⟨c0, c1, c2, f0, f1, f2⟩ := Box.three hx4
  have hx5 := hx4.set 0 (.int .i64 (r - 1)) |>.set 1 (.int .i64 s) |>.set 2 (.int .i64 (t - 1))
  obtain ⟨y0, y1, y2, _⟩ := Box.three hx5
  go_wp2_with fail
  refine bodyPost_ret (v := .agg #[.int .i64 (r - 1), .int .i64 s, .int .i64 (t - 1)]) (by simp [results, Tryd.results14, go_sem, y0, y1, y2]) rfl ?_
  exact ⟨r - 1, s, t - 1, by omega, by omega, by omega, rfl, ((hb04.setCell (Nat.le_refl _) _).setCell (Nat.le_refl _) _).setCell (Nat.le_refl _) _⟩
end Go.Proofs.YtlepaimcgofkoaaDoor.Num
