/-
  The walks of the reference's draws of an event (l10Right, l10Bent): some event with a small text; of what was there only the cursor's block is written.
-/
import Derived.Test.YteplmjlllnbiiaaEv
import Derived.Test.YteplmjlllnbiiaaEvSame
import Derived.Test.YteplmjlllnbiiaaDrawWide
import Derived.Test.YteplmjlllnbiiaaDrawWholeC
import Derived.Test.YteplmjlllnbiiaaDrawPickInt
import Derived.Test.YteplmjlllnbiiaaPick
import Derived.Test.YteplmjlllnbiiaaDrawL4
import Derived.Deep.DeepCutAuto
import Derived.Deep.CutBlock
namespace Go.Proofs.Yteplmjlllnbiiaa.Num
open Go.RowKit Go.Proofs
set_option linter.unusedVariables false
set_option linter.unusedSimpArgs false

/-- An event that may be drawn. -/
def DrawnE (e : Ev) : Prop := e.Wf ∧ e.text.size ≤ 8
/-- What a draw of an event leaves. -/
def EvP (B g : Nat) (a : Option Addr) (len cap : Nat) (w : World) (x : Ending) (w' : World) : Prop := ∃ e : Ev, DrawnE e ∧ x = .returned (evV e) ∧ Cur w' B g a len cap ∧ Off w.heap.size g w w'
def zeroC : List Value := [.int .i64 0, .int .i64 0, .int .u64 0, .int .i64 0, .string ⟨#[]⟩, .int .i64 0, .int .i64 0]
/-- While it is drawn: the cursor, the result's cells, the event's variable. -/
structure DE (B g : Nat) (a : Option Addr) (len cap : Nat) (w wx : World) (gR gE : Nat) (e : Ev) : Prop where
  cur : Cur wx B g a len cap
  off : Off w.heap.size g w wx
  res : Box wx gR zeroC
  box : Box wx gE (evC e)
  lo : w.heap.size ≤ gR
  lt : gR < gE
  ok : DrawnE e
section
variable {B g len cap gR gE : Nat} {a : Option Addr} {w wx wy : World} {e : Ev}
theorem boxOff {w w' : World} {C g k : Nat} {vs : List Value} (h : Off C g w w') (hx : Box w k vs) (hk : k < C) (hg : k ≠ g) : Box w' k vs :=
  ⟨Nat.lt_of_lt_of_le hx.1 h.size, fun j hj => by
    have hb := h.block k hk hg
    exact ⟨(World.cell?_of_block (a := ⟨k, j, none⟩) hb).trans (hx.2 j hj).1, (World.frozen?_of_block (a := ⟨k, j, none⟩) hb).trans (hx.2 j hj).2⟩⟩
theorem DE.step (h : DE B g a len cap w wx gR gE e) (hg : g < w.heap.size) (hc : Cur wy B g a len cap) (ho : Off wx.heap.size g wx wy) : DE B g a len cap w wy gR gE e :=
  ⟨hc, h.off.trans (ho.mono h.off.size), boxOff ho h.res h.res.lt (by have := h.lo; omega), boxOff ho h.box h.box.lt (by have := h.lo; have := h.lt; omega), h.lo, h.lt, h.ok⟩
theorem DE.call (h : DE B g a len cap w wx gR gE e) (hg : g < w.heap.size) (hc : Cur wy B g a len cap) (ho : Only g wx wy) : DE B g a len cap w wy gR gE e := h.step hg hc (Only.off ho (Nat.le_refl _))
theorem DE.alloc (h : DE B g a len cap w wx gR gE e) (hg : g < w.heap.size) (hB : B ≤ w.heap.size) (o : Obj) : DE B g a len cap w (wx.alloc o) gR gE e := by
  have hb : Below wx.heap.size wx (wx.alloc o) := (Below.refl _ _).alloc (Nat.le_refl _) _
  have hz := h.off.size
  exact h.step hg (h.cur.other hb (by omega) (by omega)) (Below.off hb)
theorem DE.set (h : DE B g a len cap w wx gR gE e) (hg : g < w.heap.size) (hB : B ≤ w.heap.size) (j : Nat) (v : Value) (e' : Ev) (he : (evC e).set j v = evC e') (hd : DrawnE e') : DE B g a len cap w (wx.setCell ⟨gE, j, none⟩ v) gR gE e' := by
  have hlo := h.lo
  have hlt := h.lt
  have hb : Below w.heap.size wx (wx.setCell ⟨gE, j, none⟩ v) := (Below.refl _ _).setCell (by simp only; omega) _
  exact ⟨h.cur.other hb hg hB, h.off.trans (Below.off hb), h.res.other (by simp only; omega) v, he ▸ h.box.set j v, hlo, hlt, hd⟩
end
set_option maxHeartbeats 8000000 in
set_option maxRecDepth 100000 in
theorem l10Right_any (B g : Nat) (a : Option Addr) (len cap : Nat) (w : World) (h : Cur w B g a len cap) (hB : B ≤ w.heap.size) (hg : g < w.heap.size) :
    Calls Try.prog 45 #[.pointer (some ⟨g, 0, none⟩)] w (EvP B g a len cap w) := by
  have H := Lib.hid h; clear h
  have hx0 := Box.fresh w #[.int .i64 0, .int .i64 0, .int .u64 0, .int .i64 0, .string ⟨#[]⟩, .int .i64 0, .int .i64 0] 31
  have hb0 : Below w.heap.size w (w.alloc (.cells #[.int .i64 0, .int .i64 0, .int .u64 0, .int .i64 0, .string ⟨#[]⟩, .int .i64 0, .int .i64 0] 31)) := (Below.refl _ _).alloc (Nat.le_refl _) _
  have hz0 : (w.alloc (.cells #[.int .i64 0, .int .i64 0, .int .u64 0, .int .i64 0, .string ⟨#[]⟩, .int .i64 0, .int .i64 0] 31)).heap.size = w.heap.size + 1 := by simp
  go_enter Try.func45, Try.ntmps45
  go_wp2_with fail
  generalize (w.alloc (.cells #[.int .i64 0, .int .i64 0, .int .u64 0, .int .i64 0, .string ⟨#[]⟩, .int .i64 0, .int .i64 0] 31)) = w1 at hx0 hb0 hz0 ⊢
  refine (l1Below_any B g a len cap _ _ (H.out.other hb0 hg hB) (by omega)).mono ?_
  rintro e w2 ⟨r, r0, r1, rfl, hc2, ho2⟩
  have hr : r < 10 := r1 (by omega)
  have hw : IntKind.i64.wrap (1 + r) = 1 + r := IntWalk.i64_in _ (by omega)
  have hz2 := ho2.size
  have hd2 : DE B g a len cap w (w2.alloc (.cells #[.int .i64 (1 + r), .int .i64 0, .int .u64 0, .int .i64 0, .string ⟨#[]⟩, .int .i64 0, .int .i64 0] 31)) w.heap.size w2.heap.size ⟨1 + r, 0, 0, 0, ⟨#[]⟩, 0, 0⟩ := by
    have hb : Below w2.heap.size w2 (w2.alloc (.cells #[.int .i64 (1 + r), .int .i64 0, .int .u64 0, .int .i64 0, .string ⟨#[]⟩, .int .i64 0, .int .i64 0] 31)) := (Below.refl _ _).alloc (Nat.le_refl _) _
    have hoff : Off w.heap.size g w w2 := (Below.off hb0).trans (Only.off ho2 (by omega))
    refine ⟨hc2.other hb (by omega) (by omega), hoff.trans (Below.off (hb.mono (by omega))), (boxOff (Only.off ho2 (Nat.le_refl _)) hx0 (by omega) (by omega)).alloc _, Box.fresh _ _ _, Nat.le_refl _, by omega, ⟨⟨by simp only; omega, by simp only; omega, by simp only; omega, by simp only; omega, by simp [ByteArray.size], by simp only; omega, by simp only; omega⟩, by simp [ByteArray.size]⟩⟩
  clear hx0 hb0 hc2 ho2 r1
  go_upto_block 0 with fail
  generalize (w2.alloc (.cells #[.int .i64 (1 + r), .int .i64 0, .int .u64 0, .int .i64 0, .string ⟨#[]⟩, .int .i64 0, .int .i64 0] 31)) = w3 at hd2 ⊢
  generalize w2.heap.size = gE at hd2 hz2 ⊢
  have HD := Lib.hid hd2
  have hk : 1 + r = 1 ∨ 1 + r = 2 ∨ 1 + r = 3 ∨ 1 + r = 6 ∨ 1 + r = 4 ∨ 1 + r = 9 ∨ 1 + r = 10 ∨ (1 + r ≠ 1 ∧ 1 + r ≠ 2 ∧ 1 + r ≠ 3 ∧ 1 + r ≠ 6 ∧ 1 + r ≠ 4 ∧ 1 + r ≠ 9 ∧ 1 + r ≠ 10) := by omega
  have Hok := Lib.hid hd2.ok
  generalize ({ kind := 1 + r, field := 0, bits := 0, len := 0, text := ⟨#[]⟩, code := 0, pos := 0 } : Ev) = e0 at HD Hok
  clear hd2 hw r0 hr
  generalize 1 + r = k at hk ⊢
  go_cut [] from 11 to 54 (fun wx => ∃ e : Ev, Hid (DE B g a len cap w wx w.heap.size gE e))
  case first =>
    rcases hk with rfl | rfl | rfl | rfl | rfl | rfl | rfl | ⟨k1, k2, k3, k6, k4, k9, k10⟩
    · go_wp2_with fail
      refine (l1Below_any B g a len cap _ _ HD.out.cur (by omega)).mono ?_
      rintro e w4 ⟨xa, ya, za, rfl, hc, ho⟩
      have hxa : xa < 40 := za (by omega)
      have HD4 := Lib.hid (HD.out.call hg hc ho)
      clear hc ho za HD
      obtain ⟨⟨q0, q1, q2, q3, q4, q5, q6⟩, g0, g1, g2, g3, g4, g5, g6⟩ := HD4.out.box.seven
      go_wp2_with fail
      go_meet
      exact ⟨_, Lib.hid (HD4.out.set hg hB 3 _ { e0 with len := xa } rfl ⟨{ Hok.out.1 with len := ⟨by simp only; omega, by simp only; omega⟩ }, Hok.out.2⟩)⟩
    · go_wp2_with fail
      refine (l1Below_any B g a len cap _ _ HD.out.cur (by omega)).mono ?_
      rintro e w4 ⟨xa, ya, za, rfl, hc, ho⟩
      have hxa : xa < 12 := za (by omega)
      have hwa : IntKind.i64.wrap (1 + xa) = 1 + xa := IntWalk.i64_in _ (by omega)
      have HD4 := Lib.hid (HD.out.call hg hc ho)
      clear hc ho za HD
      obtain ⟨⟨q0, q1, q2, q3, q4, q5, q6⟩, g0, g1, g2, g3, g4, g5, g6⟩ := HD4.out.box.seven
      go_upto_region 8 with fail
      have HD5 := Lib.hid (HD4.out.set hg hB 1 (.int .i64 (1 + xa)) { e0 with field := 1 + xa } rfl ⟨{ Hok.out.1 with field := ⟨by simp only; omega, by simp only; omega⟩ }, Hok.out.2⟩)
      clear HD4 q0 q1 q2 q3 q4 q5 q6 g0 g1 g2 g3 g4 g5 g6
      generalize w4.setCell ⟨gE, 1, none⟩ (.int .i64 (1 + xa)) = w5 at HD5 ⊢
      have Hok5 := Lib.hid HD5.out.ok
      generalize ({ e0 with field := 1 + xa } : Ev) = e5 at HD5 Hok5
      go_wp2_with fail
      refine (l1Wide_any B g a len cap _ HD5.out.cur (by have := HD5.out.off.size; omega)).mono ?_
      rintro e w6 ⟨u, hu, rfl, hc, ho⟩
      have HD6 := Lib.hid (HD5.out.step hg hc ho)
      have Hu := Lib.hid hu
      clear hc ho hu HD5
      obtain ⟨⟨q0, q1, q2, q3, q4, q5, q6⟩, g0, g1, g2, g3, g4, g5, g6⟩ := HD6.out.box.seven
      go_wp2_with fail
      go_meet
      exact ⟨_, Lib.hid (HD6.out.set hg hB 2 _ { e5 with bits := u } rfl ⟨{ Hok5.out.1 with bits := ⟨by simp only; omega, by have := Hu.out; simp only; omega⟩ }, Hok5.out.2⟩)⟩
    · go_wp2_with fail
      refine (l1Below_any B g a len cap _ _ HD.out.cur (by omega)).mono ?_
      rintro e w4 ⟨xa, ya, za, rfl, hc, ho⟩
      have hxa : xa < 12 := za (by omega)
      have hwa : IntKind.i64.wrap (1 + xa) = 1 + xa := IntWalk.i64_in _ (by omega)
      have HD4 := Lib.hid (HD.out.call hg hc ho)
      clear hc ho za HD
      obtain ⟨⟨q0, q1, q2, q3, q4, q5, q6⟩, g0, g1, g2, g3, g4, g5, g6⟩ := HD4.out.box.seven
      go_upto_region 12 with fail
      have HD5 := Lib.hid (HD4.out.set hg hB 1 (.int .i64 (1 + xa)) { e0 with field := 1 + xa } rfl ⟨{ Hok.out.1 with field := ⟨by simp only; omega, by simp only; omega⟩ }, Hok.out.2⟩)
      clear HD4 q0 q1 q2 q3 q4 q5 q6 g0 g1 g2 g3 g4 g5 g6
      generalize w4.setCell ⟨gE, 1, none⟩ (.int .i64 (1 + xa)) = w5 at HD5 ⊢
      have Hok5 := Lib.hid HD5.out.ok
      generalize ({ e0 with field := 1 + xa } : Ev) = e5 at HD5 Hok5
      go_wp2_with fail
      refine (l1Below_any B g a len cap _ _ HD5.out.cur (by omega)).mono ?_
      rintro e w6 ⟨xb, yb, zb, rfl, hc, ho⟩
      have hxb : xb < 12 := zb (by omega)
      have HD6 := Lib.hid (HD5.out.call hg hc ho)
      clear hc ho zb HD5
      obtain ⟨⟨q0, q1, q2, q3, q4, q5, q6⟩, g0, g1, g2, g3, g4, g5, g6⟩ := HD6.out.box.seven
      go_wp2_with fail
      go_meet
      exact ⟨_, Lib.hid (HD6.out.set hg hB 3 _ { e5 with len := xb } rfl ⟨{ Hok5.out.1 with len := ⟨by simp only; omega, by simp only; omega⟩ }, Hok5.out.2⟩)⟩
    · go_wp2_with fail
      refine (l1Below_any B g a len cap _ _ HD.out.cur (by omega)).mono ?_
      rintro e w4 ⟨xa, ya, za, rfl, hc, ho⟩
      have hxa : xa < 12 := za (by omega)
      have hwa : IntKind.i64.wrap (1 + xa) = 1 + xa := IntWalk.i64_in _ (by omega)
      have HD4 := Lib.hid (HD.out.call hg hc ho)
      clear hc ho za HD
      obtain ⟨⟨q0, q1, q2, q3, q4, q5, q6⟩, g0, g1, g2, g3, g4, g5, g6⟩ := HD4.out.box.seven
      go_upto_region 12 with fail
      have HD5 := Lib.hid (HD4.out.set hg hB 1 (.int .i64 (1 + xa)) { e0 with field := 1 + xa } rfl ⟨{ Hok.out.1 with field := ⟨by simp only; omega, by simp only; omega⟩ }, Hok.out.2⟩)
      clear HD4 q0 q1 q2 q3 q4 q5 q6 g0 g1 g2 g3 g4 g5 g6
      generalize w4.setCell ⟨gE, 1, none⟩ (.int .i64 (1 + xa)) = w5 at HD5 ⊢
      have Hok5 := Lib.hid HD5.out.ok
      generalize ({ e0 with field := 1 + xa } : Ev) = e5 at HD5 Hok5
      go_wp2_with fail
      refine (l1Below_any B g a len cap _ _ HD5.out.cur (by omega)).mono ?_
      rintro e w6 ⟨xb, yb, zb, rfl, hc, ho⟩
      have hxb : xb < 12 := zb (by omega)
      have HD6 := Lib.hid (HD5.out.call hg hc ho)
      clear hc ho zb HD5
      obtain ⟨⟨q0, q1, q2, q3, q4, q5, q6⟩, g0, g1, g2, g3, g4, g5, g6⟩ := HD6.out.box.seven
      go_wp2_with fail
      go_meet
      exact ⟨_, Lib.hid (HD6.out.set hg hB 3 _ { e5 with len := xb } rfl ⟨{ Hok5.out.1 with len := ⟨by simp only; omega, by simp only; omega⟩ }, Hok5.out.2⟩)⟩
    · go_wp2_with fail
      have hz3 := HD.out.off.size
      refine (l1Pick_any B g a len cap _ 4 4 [⟨#[97]⟩, ⟨#[98, 99]⟩, ⟨#[195, 169]⟩, ⟨#[255]⟩] _ _ _ _ (HD.out.alloc hg hB _).cur (heap_alloc_new _ _) rfl rfl (by omega) (by omega) (by omega)).mono ?_
      rintro e w5 ⟨s, hs, rfl, hc, ho⟩
      have hs8 : s.size ≤ 8 := by
        simp only [List.mem_cons, List.not_mem_nil, or_false] at hs
        rcases hs with rfl | rfl | rfl | rfl <;> simp [ByteArray.size]
      have HD5 := Lib.hid ((HD.out.alloc hg hB _).call hg hc ho)
      clear hc ho HD hs
      obtain ⟨⟨q0, q1, q2, q3, q4, q5, q6⟩, g0, g1, g2, g3, g4, g5, g6⟩ := HD5.out.box.seven
      go_wp2_with fail
      go_meet
      exact ⟨_, Lib.hid (HD5.out.set hg hB 4 _ { e0 with text := s } rfl ⟨{ Hok.out.1 with text := by simp only; omega }, hs8⟩)⟩
    · go_wp2_with fail
      refine (l1Below_any B g a len cap _ _ HD.out.cur (by omega)).mono ?_
      rintro e w4 ⟨xa, ya, za, rfl, hc, ho⟩
      have hxa : xa < 99 := za (by omega)
      have HD4 := Lib.hid (HD.out.call hg hc ho)
      clear hc ho za HD
      obtain ⟨⟨q0, q1, q2, q3, q4, q5, q6⟩, g0, g1, g2, g3, g4, g5, g6⟩ := HD4.out.box.seven
      go_wp2_with fail
      go_meet
      exact ⟨_, Lib.hid (HD4.out.set hg hB 6 _ { e0 with pos := xa } rfl ⟨{ Hok.out.1 with pos := ⟨by simp only; omega, by simp only; omega⟩ }, Hok.out.2⟩)⟩
    · go_wp2_with fail
      refine (l1Below_any B g a len cap _ _ HD.out.cur (by omega)).mono ?_
      rintro e w4 ⟨xa, ya, za, rfl, hc, ho⟩
      have hxa : xa < 99 := za (by omega)
      have HD4 := Lib.hid (HD.out.call hg hc ho)
      clear hc ho za HD
      obtain ⟨⟨q0, q1, q2, q3, q4, q5, q6⟩, g0, g1, g2, g3, g4, g5, g6⟩ := HD4.out.box.seven
      go_upto_region 19 with fail
      have HD5 := Lib.hid (HD4.out.set hg hB 6 (.int .i64 xa) { e0 with pos := xa } rfl ⟨{ Hok.out.1 with pos := ⟨by simp only; omega, by simp only; omega⟩ }, Hok.out.2⟩)
      clear HD4 q0 q1 q2 q3 q4 q5 q6 g0 g1 g2 g3 g4 g5 g6
      generalize w4.setCell ⟨gE, 6, none⟩ (.int .i64 xa) = w5 at HD5 ⊢
      have Hok5 := Lib.hid HD5.out.ok
      generalize ({ e0 with pos := xa } : Ev) = e5 at HD5 Hok5
      go_wp2_with fail
      refine (l1Below_any B g a len cap _ _ HD5.out.cur (by omega)).mono ?_
      rintro e w6 ⟨xb, yb, zb, rfl, hc, ho⟩
      have hxb : xb < 10 := zb (by omega)
      have hwb : IntKind.i64.wrap (1 + xb) = 1 + xb := IntWalk.i64_in _ (by omega)
      have HD6 := Lib.hid (HD5.out.call hg hc ho)
      clear hc ho zb HD5
      obtain ⟨⟨q0, q1, q2, q3, q4, q5, q6⟩, g0, g1, g2, g3, g4, g5, g6⟩ := HD6.out.box.seven
      go_wp2_with fail
      go_meet
      exact ⟨_, Lib.hid (HD6.out.set hg hB 5 _ { e5 with code := 1 + xb } rfl ⟨{ Hok5.out.1 with code := ⟨by simp only; omega, by simp only; omega⟩ }, Hok5.out.2⟩)⟩
    · have n1 := neI k1
      have n2 := neI k2
      have n3 := neI k3
      have n6 := neI k6
      have n4 := neI k4
      have n9 := neI k9
      have n10 := neI k10
      clear k1 k2 k3 k6 k4 k9 k10
      go_wp2_with fail
      go_meet
      exact ⟨e0, HD⟩
  case rest =>
    obtain ⟨e, HD'⟩ := hcut
    clear HD
    obtain ⟨⟨q0, q1, q2, q3, q4, q5, q6⟩, _⟩ := HD'.out.box.seven
    obtain ⟨⟨p0, p1, p2, p3, p4, p5, p6⟩, f0, f1, f2, f3, f4, f5, f6⟩ := Box.seven HD'.out.res
    have hq := HD'.out.box.lt
    have hp := HD'.out.res.lt
    have hlt := HD'.out.lt
    have hne1 : ¬ gE = w.heap.size := by omega
    have hne2 : ¬ w.heap.size = gE := by omega
    clear hlt
    go_wp2_with fail
    obtain ⟨k, f, b, l, t, c, p, rfl⟩ := e.eta
    simp only at q0 q1 q2 q3 q4 q5 q6
    refine bodyPost_ret (v := .agg #[.int .i64 k, .int .i64 f, .int .u64 b, .int .i64 l, .string t, .int .i64 c, .int .i64 p]) (by simp [results, Try.results45, go_sem, p0, p1, p2, p3, p4, p5, p6]) rfl ⟨⟨k, f, b, l, t, c, p⟩, HD'.out.ok, rfl, ?_, ?_⟩
    · refine HD'.out.cur.other (C := w.heap.size) ?_ hg hB
      repeat (first | with_reducible exact Below.refl _ _ | refine Below.setCell ?_ (by simp) _)
    · refine HD'.out.off.trans (Below.off (C := w.heap.size) ?_)
      repeat (first | with_reducible exact Below.refl _ _ | refine Below.setCell ?_ (by simp) _)
end Go.Proofs.Yteplmjlllnbiiaa.Num
