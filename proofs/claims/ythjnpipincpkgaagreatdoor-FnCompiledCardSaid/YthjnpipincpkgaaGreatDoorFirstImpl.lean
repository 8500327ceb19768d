/-
  The walk of the program's FirstViolation: it recovers the first violation from checkRaw's error by errors.As.
-/
import Derived.Test.YthjnpipincpkgaaGreatDoorCheckImpl
import Derived.Test.YthjnpipincpkgaaGreatDoorErrType
namespace Go.Proofs.YthjnpipincpkgaaGreatDoor.Num
open Go.RowKit Go.Proofs
set_option linter.unusedVariables false
set_option linter.unusedSimpArgs false

theorem first_zero {r : List RM} {v : Int × Int × Int} (h : First r v) (h0 : v.1 = 0) : v = (0, 0, 0) := by
  rcases h with ⟨_, rfl⟩ | ⟨_, ⟨_, rfl⟩ | ⟨i, hi, _, hc, rfl⟩ | ⟨i, q, hi, _, _, _, _, hc, rfl⟩⟩
  · exact absurd h0 (by decide)
  · rfl
  · exact absurd h0 hc
  · exact absurd h0 hc
set_option maxHeartbeats 4000000 in
set_option maxRecDepth 100000 in
theorem implFirst_any (v : Value) (r : List RM) (w : World) (h : RawAt w (· < w.heap.size) v r) (hr : Small r) (hE : ErrType w) :
    Calls Tryz.prog 32 #[v] w fun e w' => ∃ f, First r f ∧ e = .returned (violV f) ∧ Below w.heap.size w w' := by
  obtain ⟨u, rfl, hu⟩ := h
  obtain ⟨a, cap, rfl⟩ := hu.len
  have H := Lib.hid hu
  have HE := Lib.hid hE
  clear hu hE
  go_enter Tryz.func32, Tryz.ntmps32
  go_wp2_with fail
  have e1 : (w.alloc (.cells #[.slice a r.length cap] 26)).heap.size = w.heap.size + 1 := by simp
  have hb3 : Below w.heap.size w (((w.alloc (.cells #[.slice a r.length cap] 26)).alloc (.cells #[.int .i64 0, .int .i64 0, .int .i64 0] 32)).alloc (.cells #[.int .i64 0, .int .i64 0, .int .i64 0] 100)) := (((Below.refl _ _).alloc (Nat.le_refl _) _).alloc (by simp) _).alloc (by simp; omega) _
  have hx3 : Box (((w.alloc (.cells #[.slice a r.length cap] 26)).alloc (.cells #[.int .i64 0, .int .i64 0, .int .i64 0] 32)).alloc (.cells #[.int .i64 0, .int .i64 0, .int .i64 0] 100)) (w.heap.size + 1) [.int .i64 0, .int .i64 0, .int .i64 0] := by
    have h := (Box.fresh (w.alloc (.cells #[.slice a r.length cap] 26)) #[.int .i64 0, .int .i64 0, .int .i64 0] 32).alloc (.cells #[.int .i64 0, .int .i64 0, .int .i64 0] 100)
    rw [e1] at h; exact h
  have ht3 : Box (((w.alloc (.cells #[.slice a r.length cap] 26)).alloc (.cells #[.int .i64 0, .int .i64 0, .int .i64 0] 32)).alloc (.cells #[.int .i64 0, .int .i64 0, .int .i64 0] 100)) (w.heap.size + 1 + 1) [.int .i64 0, .int .i64 0, .int .i64 0] := by
    have h := Box.fresh ((w.alloc (.cells #[.slice a r.length cap] 26)).alloc (.cells #[.int .i64 0, .int .i64 0, .int .i64 0] 32)) #[.int .i64 0, .int .i64 0, .int .i64 0] 100
    rw [show ((w.alloc (.cells #[.slice a r.length cap] 26)).alloc (.cells #[.int .i64 0, .int .i64 0, .int .i64 0] 32)).heap.size = w.heap.size + 1 + 1 by simp] at h; exact h
  clear e1
  generalize (((w.alloc (.cells #[.slice a r.length cap] 26)).alloc (.cells #[.int .i64 0, .int .i64 0, .int .i64 0] 32)).alloc (.cells #[.int .i64 0, .int .i64 0, .int .i64 0] 100)) = w3 at hb3 hx3 ht3 ⊢
  refine (checkRaw_any _ r _ ((show RawAt w (· < w.heap.size) _ r from ⟨_, rfl, H.out⟩).keep (.of_below hb3 fun _ h => h) (fun _ h => Nat.lt_of_lt_of_le h hb3.size)) hr).mono ?_
  rintro e w4 ⟨f, hf, hcase, hb4⟩
  have Hf := Lib.hid hf
  have hx4 := hx3.below hb4 hx3.lt
  have ht4 := ht3.below hb4 ht3.lt
  have hl4 := hb3.trans (hb4.mono hb3.size)
  clear hf hx3 ht3 hb3 hb4
  rcases hcase with ⟨h0, rfl⟩ | ⟨h0, rfl⟩
  · obtain rfl := first_zero Hf.out h0
    clear h0
    go_wp2_with fail
    refine (asViol_nil _ _).mono ?_
    rintro e w5 ⟨rfl, rfl⟩
    obtain ⟨c0, c1, c2, f0, f1, f2⟩ := Box.three hx4
    have hx5 := hx4.set 0 (.int .i64 0) |>.set 1 (.int .i64 0) |>.set 2 (.int .i64 0)
    obtain ⟨y0, y1, y2, _⟩ := Box.three hx5
    go_wp2_with fail
    refine bodyPost_ret (v := .agg #[.int .i64 0, .int .i64 0, .int .i64 0]) (by simp [results, Tryz.results32, go_sem, y0, y1, y2]) rfl ?_
    exact ⟨(0, 0, 0), Hf.out, rfl, ((hl4.setCell (Nat.le_succ _) _).setCell (Nat.le_succ _) _).setCell (Nat.le_succ _) _⟩
  · obtain ⟨F1, F2, F3⟩ := f
    have HE4 := Lib.hid (HE.out.all hl4)
    clear h0
    unfold errV
    go_wp2_with fail
    refine (asViol_hit (w.heap.size + 1 + 1) F1 F2 F3 0 0 0 _ HE4.out ht4).mono ?_
    rintro e w5 ⟨rfl, hT, hB⟩
    have hx5 := hx4.below hB (by omega)
    have hl5 := hl4.trans (hB.mono (by omega))
    obtain ⟨c0, c1, c2, f0, f1, f2⟩ := Box.three hx5
    obtain ⟨t0, t1, t2, _⟩ := Box.three hT
    have hx6 := hx5.set 0 (.int .i64 F1) |>.set 1 (.int .i64 F2) |>.set 2 (.int .i64 F3)
    obtain ⟨y0, y1, y2, _⟩ := Box.three hx6
    clear hx4 ht4 hl4 hB
    go_wp2_with fail
    refine bodyPost_ret (v := .agg #[.int .i64 F1, .int .i64 F2, .int .i64 F3]) (by simp [results, Tryz.results32, go_sem, y0, y1, y2]) rfl ?_
    exact ⟨(F1, F2, F3), Hf.out, rfl, ((hl5.setCell (Nat.le_succ _) _).setCell (Nat.le_succ _) _).setCell (Nat.le_succ _) _⟩
end Go.Proofs.YthjnpipincpkgaaGreatDoor.Num
