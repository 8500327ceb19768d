/-
  The walk of the program's ReadField: the field whose text the string is and true, or the zero field and false; only new memory is written.
-/
import Derived.Test.YtcbohfncckpolaaDoorParseI
import Derived.Deep.RegionWith
namespace Go.Proofs.YtcbohfncckpolaaDoor.Num
open Go.RowKit Go.Proofs
set_option linter.unusedVariables false
set_option linter.unusedSimpArgs false

set_option maxHeartbeats 2000000 in
set_option maxRecDepth 100000 in
theorem implReadField_any (s : ByteArray) (a : Addr) (w : World) (hs : s.size ≤ 1048576) (hsh : w.ShapedOpen Tryd.prog) (hE : ErrText w a) :
    Calls Tryd.prog 11 #[.string s] w fun e w' => e = .returned (.tuple #[fieldV ((readF s.data.toList).getD zeroF), .bool (readF s.data.toList).isSome]) ∧ Below w.heap.size w w' := by
  have hb1 : Below w.heap.size w (w.alloc (.cells #[.int .i64 0, .int .i64 0, .bool false, .bool false, .int .i64 0] 25)) := (Below.refl _ _).alloc (Nat.le_refl _) _
  have hx1 := Box.fresh w #[.int .i64 0, .int .i64 0, .bool false, .bool false, .int .i64 0] 25
  have HP := Lib.hid (implParse_any s a (w.alloc (.cells #[.int .i64 0, .int .i64 0, .bool false, .bool false, .int .i64 0] 25)) hs (shaped_below hsh hb1) (hE.below hb1))
  have hz0 : 0 < w.heap.size := Nat.lt_of_le_of_lt (Nat.zero_le _) hE.2
  have hne1 : ¬ ((0 : Nat) = w.heap.size) := by omega
  have hne2 : ¬ (w.heap.size = 0) := by omega
  generalize readF s.data.toList = R at HP ⊢
  have HI := Lib.hid (is_nil a)
  have HJ := Lib.hid (is_same a)
  clear hsh
  go_enter Tryd.func11, Tryd.ntmps11
  go_wp2_with fail
  generalize (w.alloc (.cells #[.int .i64 0, .int .i64 0, .bool false, .bool false, .int .i64 0] 25)) = w1 at hb1 hx1 HP ⊢
  refine HP.out.mono ?_
  rintro e w2 ⟨hcase, hb2⟩
  have hl2 := hb1.trans (hb2.mono hb1.size)
  have HX2 := Lib.hid (hx1.below hb2 hx1.lt)
  have HE2 := Lib.hid (hE.below hl2)
  have hz2 : w.heap.size < w2.heap.size := HX2.out.lt
  obtain ⟨⟨c0, c1, c2, c3, c4⟩, k0, k1, k2, k3, k4⟩ := Box.five HX2.out
  obtain ⟨e0, e1⟩ := HE2.out
  unfold sentV at e0 hcase
  clear HP hb1 hx1 hb2
  rcases hcase with ⟨f, rfl, rfl⟩ | ⟨rfl, rfl⟩
  · obtain ⟨A1, A2, A3, A4, A5⟩ := f
    unfold fieldV
    simp only [Option.getD_some, Option.isSome_some]
    go_wp2_with fail
    go_region_with (go_at_call 32; refine (HI.out _).mono ?_; rintro e w4 ⟨rfl, rfl⟩)
    all_goals
      go_wp2_with fail
      refine bodyPost_ret (v := .tuple #[.agg #[.int .i64 A1, .int .i64 A2, .bool A3, .bool A4, .int .i64 A5], .bool true]) (by simp [results, Tryd.results11, go_sem, c0, c1, c2, c3, c4, hz2]) rfl ?_
      refine ⟨rfl, ?_⟩
      first
        | exact ((((((hl2.setCell (by simp) _).setCell (by simp) _).setCell (by simp) _).setCell (by simp) _).setCell (by simp) _).alloc (by simpa [World.setCell] using Nat.le_of_lt hz2) _).drew
        | exact (((((hl2.setCell (by simp) _).setCell (by simp) _).setCell (by simp) _).setCell (by simp) _).setCell (by simp) _).drew.alloc (by simpa [World.setCell] using Nat.le_of_lt hz2) _
        | (trace_state; sorry)
  · unfold fieldV zeroF
    simp only [Option.getD_none, Option.isSome_none]
    go_wp2_with fail
    go_region_with (go_at_call 32; refine (HJ.out _).mono ?_; rintro e w4 ⟨rfl, rfl⟩)
    all_goals
      go_wp2_with fail
      refine bodyPost_ret (v := .tuple #[.agg #[.int .i64 0, .int .i64 0, .bool false, .bool false, .int .i64 0], .bool false]) (by simp [results, Tryd.results11, go_sem, c0, c1, c2, c3, c4, hz2]) rfl ?_
      refine ⟨rfl, ?_⟩
      first
        | exact ((((((hl2.setCell (by simp) _).setCell (by simp) _).setCell (by simp) _).setCell (by simp) _).setCell (by simp) _).alloc (by simpa [World.setCell] using Nat.le_of_lt hz2) _).drew
        | exact (((((hl2.setCell (by simp) _).setCell (by simp) _).setCell (by simp) _).setCell (by simp) _).setCell (by simp) _).drew.alloc (by simpa [World.setCell] using Nat.le_of_lt hz2) _
        | (trace_state; sorry)
end Go.Proofs.YtcbohfncckpolaaDoor.Num
