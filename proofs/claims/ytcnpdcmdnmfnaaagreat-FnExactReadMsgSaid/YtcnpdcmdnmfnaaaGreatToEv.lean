/-
  The walks of the laws' toEvent, szEvent and eqEvent: events laid anew in new memory; what is left is not below 0 only where they are small; equal lists are told so.
-/
import Derived.Test.YtcnpdcmdnmfnaaaGreatEv
import Derived.Test.YtcnpdcmdnmfnaaaGreatZone
import Derived.OwnWalk
import Derived.LoopTactic
import Derived.Deep.RegionWith
namespace Go.Proofs.YtcnpdcmdnmfnaaaGreat.Num
open Go.RowKit Go.Proofs
set_option linter.unusedVariables false
set_option linter.unusedSimpArgs false

theorem info_event : (Tryz.prog.info? 34).map (fun i => (i.zero, i.size, i.bytes)) = some (some (.agg #[.int .i64 0, .int .i64 0, .int .u64 0, .int .i64 0, .string ByteArray.empty, .int .i64 0, .int .i64 0]), 7, 64) := by kernel_rfl
set_option maxHeartbeats 1000000 in
theorem eqEvent_same (e : Ev) (w : World) :
    Calls Tryz.prog 18 #[evV e, evV e] w fun x w' => x = .returned (.bool true) ∧ Below w.heap.size w w' := by
  unfold evV
  obtain ⟨k, f, b, l, t, c, p⟩ := e
  simp only
  go_enter Tryz.func18, Tryz.ntmps18
  go_wp2_with fail
  go_ret
  refine ⟨rfl, ?_⟩
  repeat (first | with_reducible exact Below.refl _ _ | refine Below.setCell ?_ (by simp) _ | refine Below.alloc ?_ (by simp <;> omega) _)
set_option maxHeartbeats 2000000 in
theorem eqEventS_same (v u : Value) (l : List Ev) (w : World) (hv : EvsAt w (· < w.heap.size) v l) (hu : EvsAt w (· < w.heap.size) u l) (hl : l.length ≤ 1048576000) :
    Calls Tryz.prog 17 #[v, u] w fun e w' => e = .returned (.bool true) ∧ Below w.heap.size w w' := by
  obtain ⟨a, cap, rfl⟩ := hv.len
  obtain ⟨a', cap', rfl⟩ := hu.len
  have H := Lib.hid hv
  have H' := Lib.hid hu
  clear hv hu
  go_enter Tryz.func17, Tryz.ntmps17
  go_wp2_with fail
  go_loopw [5] (fun i wr => ∃ k : Nat, k ≤ l.length ∧ i = .int .i64 k ∧ Below w.heap.size w wr) (fun i _ => l.length - (intOf i).toNat)
  case atStart => exact ⟨0, by omega, rfl, Below.refl _ _⟩
  case round =>
    obtain ⟨k, hk, rfl, hbr⟩ := hrel
    by_cases hlt : k < l.length
    · have hlti : (k : Int) < (l.length : Int) := by omega
      obtain ⟨b, o, rfl, hbC, c0, c1, c2, c3, c4, c5, c6⟩ := H.out.cellsAt k hlt
      obtain ⟨b', o', rfl, hbC', d0, d1, d2, d3, d4, d5, d6⟩ := H'.out.cellsAt k hlt
      rw [← hbr.cell (p := ⟨b, _, none⟩) hbC] at c0 c1 c2 c3 c4 c5 c6
      rw [← hbr.cell (p := ⟨b', _, none⟩) hbC'] at d0 d1 d2 d3 d4 d5 d6
      have He := Lib.hid (eqEvent_same l[k])
      unfold evV at He
      generalize l[k] = f at He c0 c1 c2 c3 c4 c5 c6 d0 d1 d2 d3 d4 d5 d6
      go_wp2_with fail
      go_region_with (go_at_call 18; refine (He.out _).mono ?_; rintro e w2 ⟨rfl, hb2⟩; have hl2 := hbr.drew.trans (hb2.mono hbr.size))
      all_goals
        clear c0 c1 c2 c3 c4 c5 c6 d0 d1 d2 d3 d4 d5 d6
        go_wp2_with fail
        go_roundw
        case rel => exact ⟨k + 1, by omega, by go_num, hl2⟩
        case measure => simp [intOf]; omega
    · have hge : (l.length : Int) ≤ (k : Int) := by omega
      have hend : decide (k < l.length) = false := decide_eq_false hlt
      go_wp2_with fail
      go_ret
      exact ⟨rfl, hbr⟩
end Go.Proofs.YtcnpdcmdnmfnaaaGreat.Num
