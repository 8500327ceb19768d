/-
  The walks of the reference's l10Bent and of the draws of stage 10 (DrawEventOk, DrawEventWord): some event with a small text; some small number. Of what was there only the cursor's block is written.
-/
import Derived.Test.YtbjndnpdmohjiaaDoorDrawEv
namespace Go.Proofs.YtbjndnpdmohjiaaDoor.Num
open Go.RowKit Go.Proofs
set_option linter.unusedVariables false
set_option linter.unusedSimpArgs false

set_option maxHeartbeats 8000000 in
set_option maxRecDepth 100000 in
theorem l10Bent_any (B g : Nat) (a : Option Addr) (len cap : Nat) (w : World) (h : Cur w B g a len cap) (hB : B ≤ w.heap.size) (hg : g < w.heap.size) :
    Calls Tryd.prog 18 #[.pointer (some ⟨g, 0, none⟩)] w (EvP B g a len cap w) := by
  have H := Lib.hid h; clear h
  have hx0 := Box.fresh w #[.int .i64 0, .int .i64 0, .int .u64 0, .int .i64 0, .string ⟨#[]⟩, .int .i64 0, .int .i64 0] 26
  have hb0 : Below w.heap.size w (w.alloc (.cells #[.int .i64 0, .int .i64 0, .int .u64 0, .int .i64 0, .string ⟨#[]⟩, .int .i64 0, .int .i64 0] 26)) := (Below.refl _ _).alloc (Nat.le_refl _) _
  have hz0 : (w.alloc (.cells #[.int .i64 0, .int .i64 0, .int .u64 0, .int .i64 0, .string ⟨#[]⟩, .int .i64 0, .int .i64 0] 26)).heap.size = w.heap.size + 1 := by simp
  go_enter Tryd.func18, Tryd.ntmps18
  go_wp2_with fail
  generalize (w.alloc (.cells #[.int .i64 0, .int .i64 0, .int .u64 0, .int .i64 0, .string ⟨#[]⟩, .int .i64 0, .int .i64 0] 26)) = w1 at hx0 hb0 hz0 ⊢
  refine (l10Right_any B g a len cap _ (H.out.other hb0 hg hB) (by omega) (by omega)).mono ?_
  rintro e w2 ⟨⟨k, f, b, l, t, c, p⟩, hok, rfl, hc2, ho2⟩
  have hz2 := ho2.size
  have hd2 : DE B g a len cap w (w2.alloc (.cells #[.int .i64 k, .int .i64 f, .int .u64 b, .int .i64 l, .string t, .int .i64 c, .int .i64 p] 26)) w.heap.size w2.heap.size ⟨k, f, b, l, t, c, p⟩ := by
    have hb : Below w2.heap.size w2 (w2.alloc (.cells #[.int .i64 k, .int .i64 f, .int .u64 b, .int .i64 l, .string t, .int .i64 c, .int .i64 p] 26)) := (Below.refl _ _).alloc (Nat.le_refl _) _
    have hoff : Off w.heap.size g w w2 := (Below.off hb0).trans (ho2.mono (by omega))
    exact ⟨hc2.other hb (by omega) (by omega), hoff.trans (Below.off (hb.mono (by omega))), (boxOff ho2 hx0 (by omega) (by omega)).alloc _, Box.fresh _ _ _, Nat.le_refl _, by omega, hok⟩
  clear hx0 hb0 hc2 ho2
  unfold evV
  go_upto_region 2 with fail
  generalize (w2.alloc (.cells #[.int .i64 k, .int .i64 f, .int .u64 b, .int .i64 l, .string t, .int .i64 c, .int .i64 p] 26)) = w3 at hd2 ⊢
  generalize w2.heap.size = gE at hd2 hz2 ⊢
  have HD := Lib.hid hd2
  clear hd2
  go_wp2_with fail
  refine (l1Below_any B g a len cap _ _ HD.out.cur (by omega)).mono ?_
  rintro e w4 ⟨r, r0, r1, rfl, hc, ho⟩
  have HD4 := Lib.hid (HD.out.call hg hc ho)
  have Hok := Lib.hid hok
  generalize ({ kind := k, field := f, bits := b, len := l, text := t, code := c, pos := p } : Ev) = e0 at HD4 Hok
  have hk : r = 0 ∨ r = 1 ∨ r = 2 ∨ r = 3 ∨ r = 4 ∨ r = 5 ∨ r = 6 ∨ (r ≠ 0 ∧ r ≠ 1 ∧ r ≠ 2 ∧ r ≠ 3 ∧ r ≠ 4 ∧ r ≠ 5 ∧ r ≠ 6) := by omega
  clear hok HD hc ho r0 r1 hz2 hz0
  go_upto_block 0 with fail
  go_cut [] from 8 to 45 (fun wx => ∃ e : Ev, Hid (DE B g a len cap w wx w.heap.size gE e))
  case first =>
    rcases hk with rfl | rfl | rfl | rfl | rfl | rfl | rfl | ⟨k0, k1, k2, k3, k4, k5, k6⟩
    · go_wp2_with fail
      refine (l1Below_any B g a len cap _ _ HD4.out.cur (by omega)).mono ?_
      rintro e w5 ⟨x, x0, x1, rfl, hc, ho⟩
      have hx : x < 13 := x1 (by omega)
      have hw : IntKind.i64.wrap (x - 1) = x - 1 := IntWalk.i64_in _ (by omega)
      have HD5 := Lib.hid (HD4.out.call hg hc ho)
      clear hc ho x1 HD4
      obtain ⟨⟨q0, q1, q2, q3, q4, q5, q6⟩, g0, g1, g2, g3, g4, g5, g6⟩ := HD5.out.box.seven
      go_wp2_with fail
      go_meet
      exact ⟨_, Lib.hid (HD5.out.set hg hB 0 _ { e0 with kind := x - 1 } rfl ⟨{ Hok.out.1 with kind := ⟨by simp only; omega, by simp only; omega⟩ }, Hok.out.2⟩)⟩
    · go_wp2_with fail
      refine (l4Number_any B g a len cap _ HD4.out.cur (by have := HD4.out.off.size; omega) (by have := HD4.out.off.size; omega)).mono ?_
      rintro e w5 ⟨x, hx, rfl, hc, ho⟩
      have HD5 := Lib.hid (HD4.out.step hg hc ho)
      have Hx := Lib.hid hx
      clear hc ho hx HD4
      obtain ⟨⟨q0, q1, q2, q3, q4, q5, q6⟩, g0, g1, g2, g3, g4, g5, g6⟩ := HD5.out.box.seven
      go_wp2_with fail
      go_meet
      exact ⟨_, Lib.hid (HD5.out.set hg hB 1 _ { e0 with field := x } rfl ⟨{ Hok.out.1 with field := Hx.out }, Hok.out.2⟩)⟩
    · go_wp2_with fail
      refine (l1Whole_cur B g a len cap _ HD4.out.cur (by have := HD4.out.off.size; omega) (by have := HD4.out.off.size; omega)).mono ?_
      rintro e w5 ⟨x, hx, rfl, hc, ho⟩
      have HD5 := Lib.hid (HD4.out.step hg hc ho)
      have Hx := Lib.hid hx
      clear hc ho hx HD4
      obtain ⟨⟨q0, q1, q2, q3, q4, q5, q6⟩, g0, g1, g2, g3, g4, g5, g6⟩ := HD5.out.box.seven
      go_wp2_with fail
      go_meet
      exact ⟨_, Lib.hid (HD5.out.set hg hB 3 _ { e0 with len := x } rfl ⟨{ Hok.out.1 with len := Hx.out }, Hok.out.2⟩)⟩
    · go_wp2_with fail
      have hz3 := HD4.out.off.size
      refine (l1Pick_any B g a len cap _ 2 2 [⟨#[]⟩, ⟨#[120]⟩] _ _ _ _ (HD4.out.alloc hg hB _).cur (heap_alloc_new _ _) rfl rfl (by omega) (by omega) (by omega)).mono ?_
      rintro e w5 ⟨s, hs, rfl, hc, ho⟩
      have hs8 : s.size ≤ 8 := by
        simp only [List.mem_cons, List.not_mem_nil, or_false] at hs
        rcases hs with rfl | rfl <;> simp [ByteArray.size]
      have HD5 := Lib.hid ((HD4.out.alloc hg hB _).call hg hc ho)
      clear hc ho HD4 hs
      obtain ⟨⟨q0, q1, q2, q3, q4, q5, q6⟩, g0, g1, g2, g3, g4, g5, g6⟩ := HD5.out.box.seven
      go_wp2_with fail
      go_meet
      exact ⟨_, Lib.hid (HD5.out.set hg hB 4 _ { e0 with text := s } rfl ⟨{ Hok.out.1 with text := by simp only; omega }, hs8⟩)⟩
    · go_wp2_with fail
      have hz3 := HD4.out.off.size
      refine (l1PickInt_any B g a len cap _ 4 4 [0, -1, 11, 20] _ _ _ _ (HD4.out.alloc hg hB _).cur (heap_alloc_new _ _) rfl rfl (by omega) (by omega) (by omega)).mono ?_
      rintro e w5 ⟨x, hx, rfl, hc, ho⟩
      have hxr : -1 ≤ x ∧ x ≤ 20 := by
        simp only [List.mem_cons, List.not_mem_nil, or_false] at hx
        omega
      have HD5 := Lib.hid ((HD4.out.alloc hg hB _).call hg hc ho)
      clear hc ho HD4 hx
      obtain ⟨⟨q0, q1, q2, q3, q4, q5, q6⟩, g0, g1, g2, g3, g4, g5, g6⟩ := HD5.out.box.seven
      go_wp2_with fail
      go_meet
      exact ⟨_, Lib.hid (HD5.out.set hg hB 5 _ { e0 with code := x } rfl ⟨{ Hok.out.1 with code := ⟨by simp only; omega, by simp only; omega⟩ }, Hok.out.2⟩)⟩
    · go_wp2_with fail
      refine (l1Whole_cur B g a len cap _ HD4.out.cur (by have := HD4.out.off.size; omega) (by have := HD4.out.off.size; omega)).mono ?_
      rintro e w5 ⟨x, hx, rfl, hc, ho⟩
      have HD5 := Lib.hid (HD4.out.step hg hc ho)
      have Hx := Lib.hid hx
      clear hc ho hx HD4
      obtain ⟨⟨q0, q1, q2, q3, q4, q5, q6⟩, g0, g1, g2, g3, g4, g5, g6⟩ := HD5.out.box.seven
      go_wp2_with fail
      go_meet
      exact ⟨_, Lib.hid (HD5.out.set hg hB 6 _ { e0 with pos := x } rfl ⟨{ Hok.out.1 with pos := Hx.out }, Hok.out.2⟩)⟩
    · go_wp2_with fail
      refine (l1Wide_any B g a len cap _ HD4.out.cur (by have := HD4.out.off.size; omega)).mono ?_
      rintro e w5 ⟨u, hu, rfl, hc, ho⟩
      have HD5 := Lib.hid (HD4.out.step hg hc ho)
      have Hu := Lib.hid hu
      clear hc ho hu HD4
      obtain ⟨⟨q0, q1, q2, q3, q4, q5, q6⟩, g0, g1, g2, g3, g4, g5, g6⟩ := HD5.out.box.seven
      go_wp2_with fail
      go_meet
      exact ⟨_, Lib.hid (HD5.out.set hg hB 2 _ { e0 with bits := u } rfl ⟨{ Hok.out.1 with bits := ⟨by simp only; omega, by have := Hu.out; simp only; omega⟩ }, Hok.out.2⟩)⟩
    · have n0 := neI k0
      have n1 := neI k1
      have n2 := neI k2
      have n3 := neI k3
      have n4 := neI k4
      have n5 := neI k5
      have n6 := neI k6
      clear k0 k1 k2 k3 k4 k5 k6
      go_wp2_with fail
      go_meet
      exact ⟨e0, HD4⟩
  case rest =>
    obtain ⟨e, HD'⟩ := hcut
    clear HD4
    obtain ⟨⟨q0, q1, q2, q3, q4, q5, q6⟩, _⟩ := HD'.out.box.seven
    obtain ⟨⟨p0, p1, p2, p3, p4, p5, p6⟩, f0, f1, f2, f3, f4, f5, f6⟩ := Box.seven HD'.out.res
    have hq := HD'.out.box.lt
    have hp := HD'.out.res.lt
    have hlt := HD'.out.lt
    have hne1 : ¬ gE = w.heap.size := by omega
    have hne2 : ¬ w.heap.size = gE := by omega
    clear hlt
    go_wp2_with fail
    obtain ⟨k', f', b', l', t', c', p', rfl⟩ := e.eta
    simp only at q0 q1 q2 q3 q4 q5 q6
    refine bodyPost_ret (v := .agg #[.int .i64 k', .int .i64 f', .int .u64 b', .int .i64 l', .string t', .int .i64 c', .int .i64 p']) (by simp [results, Tryd.results18, go_sem, p0, p1, p2, p3, p4, p5, p6]) rfl ⟨⟨k', f', b', l', t', c', p'⟩, HD'.out.ok, rfl, ?_, ?_⟩
    · refine HD'.out.cur.other (C := w.heap.size) ?_ hg hB
      repeat (first | with_reducible exact Below.refl _ _ | refine Below.setCell ?_ (by simp) _)
    · refine HD'.out.off.trans (Below.off (C := w.heap.size) ?_)
      repeat (first | with_reducible exact Below.refl _ _ | refine Below.setCell ?_ (by simp) _)
theorem drawEventOk_any (a : Option Addr) (len cap : Nat) (w : World) (h : CodeAt w w.heap.size a len) :
    Calls Tryd.prog 8 #[.slice a len cap] w fun x w' => ∃ e : Ev, DrawnE e ∧ x = .returned (evV e) ∧ Below w.heap.size w w' := by
  have H := Lib.hid h; clear h
  have hx0 := Box.fresh w #[.int .i64 0, .int .i64 0, .int .u64 0, .int .i64 0, .string ⟨#[]⟩, .int .i64 0, .int .i64 0] 26
  have hb0 : Below w.heap.size w (w.alloc (.cells #[.int .i64 0, .int .i64 0, .int .u64 0, .int .i64 0, .string ⟨#[]⟩, .int .i64 0, .int .i64 0] 26)) := (Below.refl _ _).alloc (Nat.le_refl _) _
  have hz0 : (w.alloc (.cells #[.int .i64 0, .int .i64 0, .int .u64 0, .int .i64 0, .string ⟨#[]⟩, .int .i64 0, .int .i64 0] 26)).heap.size = w.heap.size + 1 := by simp
  go_enter Tryd.func8, Tryd.ntmps8
  go_wp2_with fail
  generalize (w.alloc (.cells #[.int .i64 0, .int .i64 0, .int .u64 0, .int .i64 0, .string ⟨#[]⟩, .int .i64 0, .int .i64 0] 26)) = w1 at hx0 hb0 hz0 ⊢
  refine (l1New_any w.heap.size a len cap _ (by omega) (H.out.below hb0)).mono ?_
  rintro e w2 ⟨g, rfl, hc2, hb2, hg2, hg2'⟩
  have hx2 := hx0.below hb2 hx0.lt
  have hl2 := hb0.trans (hb2.mono (by omega))
  have Hc2 := Lib.hid hc2; clear hc2
  have hz2 := hb2.size
  clear hx0 hb0 hb2
  go_wp2_with fail
  refine (l10Bent_any _ g a len cap _ Hc2.out (by omega) (by omega)).mono ?_
  rintro e w3 ⟨⟨k, f, b, l, t, c, p⟩, hok, rfl, hc3, ho3⟩
  have hx3 := Lib.hid (boxOff ho3 hx2 hx2.lt (by omega))
  have hl3 : Below w.heap.size w w3 := hl2.trans (ho3.below (by omega) (by omega))
  have Hok := Lib.hid hok
  clear hok hc3 ho3 hx2 hl2
  unfold evV
  obtain ⟨⟨p0, p1, p2, p3, p4, p5, p6⟩, f0, f1, f2, f3, f4, f5, f6⟩ := Box.seven hx3.out
  have hp := hx3.out.lt
  go_wp2_with fail
  refine bodyPost_ret (v := .agg #[.int .i64 k, .int .i64 f, .int .u64 b, .int .i64 l, .string t, .int .i64 c, .int .i64 p]) (by simp [results, Tryd.results8, go_sem, p0, p1, p2, p3, p4, p5, p6]) rfl ⟨⟨k, f, b, l, t, c, p⟩, Hok.out, rfl, ?_⟩
  repeat (first | with_reducible exact hl3 | refine Below.setCell ?_ (by simp) _)
theorem drawEventWord_any (B : Nat) (a : Option Addr) (len cap : Nat) (w : World) (hB : B ≤ w.heap.size) (h : CodeAt w B a len) :
    Calls Tryd.prog 13 #[.slice a len cap] w fun x w' => ∃ k : Int, (-1 ≤ k ∧ k ≤ 11) ∧ x = .returned (.int .i64 k) ∧ Below w.heap.size w w' := by
  have H := Lib.hid h; clear h
  go_enter Tryd.func13, Tryd.ntmps13
  go_wp2_with fail
  refine (l1New_any B a len cap _ hB H.out).mono ?_
  rintro e w1 ⟨g, rfl, hc1, hb1, hg1, hg1'⟩
  have Hc1 := Lib.hid hc1; clear hc1
  have hz1 := hb1.size
  go_wp2_with fail
  refine (l1Below_any B g a len cap _ _ Hc1.out (by omega)).mono ?_
  rintro e w2 ⟨r, r0, r1, rfl, hc2, ho2⟩
  have hr : r < 13 := r1 (by omega)
  have hw : IntKind.i64.wrap (r - 1) = r - 1 := IntWalk.i64_in _ (by omega)
  have hb2 : Below w.heap.size w w2 := hb1.trans (Only.below ho2 (by omega) (by omega))
  clear hc2 ho2 r1 hb1
  go_wp2_with fail
  go_ret
  exact ⟨r - 1, by omega, rfl, hb2⟩
end Go.Proofs.YtbjndnpdmohjiaaDoor.Num
