/-
  The walks of the reference's DrawNumEvent, DrawAllowed and DrawVarWithin: only new memory is written.
-/
import Derived.Test.YtcnpdcmdnmfnaaaDrawGetVar
import Derived.Test.YtcnpdcmdnmfnaaaShape
namespace Go.Proofs.Ytcnpdcmdnmfnaaa.Num
open Go.RowKit Go.Proofs
set_option linter.unusedVariables false
theorem drawNumEvent_any (a : Option Addr) (len cap : Nat) (w : World) (h : CodeAt w w.heap.size a len) :
    Calls Try.prog 13 #[.slice a len cap] w fun e w' => ∃ (n k : Int) (u : Nat), (1 ≤ n ∧ n ≤ 9) ∧ (1 ≤ k ∧ k ≤ 8) ∧ u ≤ 18446744073709551615 ∧ e = .returned (.tuple #[.agg #[.int .i64 n, .int .i64 k, .bool false, .bool false, .int .i64 0], .int .u64 u]) ∧ Below w.heap.size w w' := by
  have hl0 : Below w.heap.size w (w.alloc (.cells #[.int .i64 0, .int .i64 0, .bool false, .bool false, .int .i64 0] 31)) := (Below.refl _ _).alloc (Nat.le_refl _) _
  have hx0 : Box (w.alloc (.cells #[.int .i64 0, .int .i64 0, .bool false, .bool false, .int .i64 0] 31)) w.heap.size [.int .i64 0, .int .i64 0, .bool false, .bool false, .int .i64 0] := Box.fresh w #[.int .i64 0, .int .i64 0, .bool false, .bool false, .int .i64 0] _
  have H := Lib.hid (h.grow hl0 hl0.size); clear h
  go_enter Try.func13, Try.ntmps13
  go_wp2_with fail
  generalize w.alloc (.cells #[.int .i64 0, .int .i64 0, .bool false, .bool false, .int .i64 0] 31) = wa at hl0 hx0 H ⊢
  have hsz := hx0.lt
  refine (l1New_any _ a len cap _ (Nat.le_refl _) H.out).mono ?_
  rintro e w1 ⟨g, rfl, hc1, hb1, hg1, hg1'⟩
  have Hc1 := Lib.hid hc1; clear hc1
  have hz1 := hb1.size
  have hx1 := hx0.below hb1 hx0.lt
  have hl1 := hl0.trans (hb1.mono hl0.size)
  clear hx0 hl0 hb1 H
  go_wp2_with fail
  refine (l1Below_any _ g a len cap _ _ Hc1.out (by omega)).mono ?_
  rintro e w2 ⟨x, x0, x1, rfl, hc2, ho2⟩
  have hx : x < 9 := x1 (by omega)
  have Hc2 := Lib.hid hc2
  have hb2 : Below wa.heap.size w1 w2 := ho2.below hg1 hz1
  have hx2 := hx1.below hb2 hsz
  have hl2 := hl1.trans (hb2.mono (by omega))
  have hz2 := hb2.size
  clear x1 hc2 ho2 hb2 hx1 hl1 Hc1
  have hw1 : IntKind.i64.wrap (1 + x) = 1 + x := IntWalk.i64_in _ (by omega)
  go_wp2_with fail
  refine (l1Below_any _ g a len cap _ _ Hc2.out (by omega)).mono ?_
  rintro e w3 ⟨y, y0, y1, rfl, hc3, ho3⟩
  have hy : y < 8 := y1 (by omega)
  have Hc3 := Lib.hid hc3
  have hb3 : Below wa.heap.size w2 w3 := ho3.below hg1 (by omega)
  have hx3 := hx2.below hb3 hsz
  have hl3 := hl2.trans (hb3.mono (by omega))
  have hz3 := hb3.size
  clear y1 hc3 ho3 hb3 hx2 hl2 Hc2
  have hw2 : IntKind.i64.wrap (1 + y) = 1 + y := IntWalk.i64_in _ (by omega)
  go_wp2_with fail
  refine (l1Wide_any _ g a len cap _ Hc3.out (by omega)).mono ?_
  rintro e w4 ⟨u, hu, rfl, _, ho4⟩
  have hb4 : Below wa.heap.size w3 w4 := ho4.below hg1 (by omega)
  have hx4 := hx3.below hb4 hsz
  have hl4 := hl3.trans (hb4.mono (by omega))
  have Hu := Lib.hid hu
  clear hu ho4 hb4 hx3 hl3 Hc3
  obtain ⟨⟨c0, c1, c2, c3, c4⟩, k0, k1, k2, k3, k4⟩ := Box.five hx4
  have hx6 := hx4.set 0 (.int .i64 (1 + x)) |>.set 1 (.int .i64 (1 + y)) |>.set 2 (.bool false) |>.set 3 (.bool false) |>.set 4 (.int .i64 0)
  obtain ⟨⟨y0', y1', y2', y3', y4'⟩, _⟩ := Box.five (a := .int .i64 (1 + x)) (b := .int .i64 (1 + y)) (c := .bool false) (d := .bool false) (e := .int .i64 0) hx6
  clear hx6
  go_wp2_with fail
  refine bodyPost_ret (v := .tuple #[.agg #[.int .i64 (1 + x), .int .i64 (1 + y), .bool false, .bool false, .int .i64 0], .int .u64 u]) (by simp [results, Try.results13, go_sem, y0', y1', y2', y3', y4']) rfl ⟨1 + x, 1 + y, u, by omega, by omega, Hu.out, rfl, ?_⟩
  repeat (first | with_reducible exact hl4 | refine Below.setCell ?_ (by simp) _)
set_option maxHeartbeats 1000000 in
theorem drawVarWithin_any (a : Option Addr) (len cap : Nat) (w : World) (h : CodeAt w w.heap.size a len) :
    Calls Try.prog 9 #[.slice a len cap] w fun e w' => ∃ (s : ByteArray) (n m : Int), s.size ≤ 64 ∧ (-9223372036854775808 ≤ n ∧ n ≤ 9223372036854775807) ∧ (-9223372036854775808 ≤ m ∧ m ≤ 9223372036854775807) ∧ e = .returned (.tuple #[.string s, .int .i64 n, .int .i64 m]) ∧ Below w.heap.size w w' := by
  have H := Lib.hid h; clear h
  go_enter Try.func9, Try.ntmps9
  go_wp2_with fail
  refine (l1New_any _ a len cap _ (Nat.le_refl _) H.out).mono ?_
  rintro e w1 ⟨g, rfl, hc1, hb1, hg1, hg1'⟩
  have Hc1 := Lib.hid hc1; clear hc1
  have hz1 := hb1.size
  have H1 := Lib.hid (H.out.grow hb1 hz1)
  clear H
  go_wp2_with fail
  refine (drawGetVar_any a len cap _ H1.out).mono ?_
  rintro e w2 ⟨s, n, hs, hn0, hn1, rfl, hb2⟩
  have hz2 := hb2.size
  have Hc2 := Lib.hid (Hc1.out.other hb2 hg1' (by omega))
  have hl2 := hb1.trans (hb2.mono hz1)
  clear hb1 hb2 H1 Hc1
  have hw1 : IntKind.i64.wrap ((s.size : Int) + 5) = (s.size : Int) + 5 := IntWalk.i64_in _ (by omega)
  go_wp2_with fail
  refine (l1Below_any _ g a len cap _ _ Hc2.out (by omega)).mono ?_
  rintro e w3 ⟨x, x0, x1, rfl, hc3, ho3⟩
  have hx : x < 8 := x1 (by omega)
  have Hc3 := Lib.hid hc3
  have hl3 : Below w.heap.size w w3 := hl2.trans (ho3.below hg1 (by omega))
  have hz3 := ho3.size
  clear x1 hc3 ho3 hl2 Hc2
  go_wp2_with fail
  refine (l1PickInt_any _ g a len cap _ 8 8 [(s.size : Int), (s.size : Int), (s.size : Int) + 5, n, x, -1, 9223372036854775807, -9223372036854775808] _ _ _ _ (Hc3.out.other ((Below.refl w3.heap.size _).alloc (Nat.le_refl _) _) (by omega) (by omega)) (heap_alloc_new _ _) rfl rfl (by omega) (by omega) (by omega)).mono ?_
  rintro e w4 ⟨z, hz, rfl, _, ho4⟩
  have hzb : -9223372036854775808 ≤ z ∧ z ≤ 9223372036854775807 := by
    simp only [List.mem_cons, List.not_mem_nil, or_false] at hz
    omega
  have hb4 : Below w.heap.size w w4 := (hl3.alloc (by omega) _).trans (ho4.below hg1 (by simp; omega))
  have Hz := Lib.hid hzb
  have Hn := Lib.hid (show -9223372036854775808 ≤ n ∧ n ≤ 9223372036854775807 from ⟨hn0, hn1⟩)
  clear ho4 hz hzb hl3 Hc3
  go_wp2_with fail
  go_ret3
  exact ⟨s, n, z, hs, Hn.out, Hz.out, rfl, hb4⟩
end Go.Proofs.Ytcnpdcmdnmfnaaa.Num
