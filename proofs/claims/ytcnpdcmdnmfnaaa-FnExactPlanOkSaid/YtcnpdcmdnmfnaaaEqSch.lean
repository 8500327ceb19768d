/-
  The walks of the laws' eqSchema: two values that hold the same description are equal; only new memory is written.
-/
import Derived.Test.YtcnpdcmdnmfnaaaSzSch
import Derived.Deep.RegionWith
namespace Go.Proofs.Ytcnpdcmdnmfnaaa.Num.Sch
open Go.RowKit Go.Proofs
set_option linter.unusedVariables false

theorem eqRawField_same (f : RF) (w : World) :
    Calls Try.prog 70 #[fieldV f, fieldV f] w fun e w' => e = .returned (.bool true) ∧ Below w.heap.size w w' := by
  unfold fieldV
  go_enter Try.func70, Try.ntmps70
  go_wp2_with fail
  go_ret
  refine ⟨rfl, ?_⟩
  repeat (first | exact Below.refl _ _ | refine Below.setCell ?_ (by simp) _ | refine Below.alloc ?_ (by simp <;> omega) _)
set_option maxHeartbeats 1000000 in
theorem eqRawFieldS_same (v u : Value) (l : List RF) (w : World) (hv : FieldsAt w (· < w.heap.size) v l) (hu : FieldsAt w (· < w.heap.size) u l) (hl : l.length ≤ 1048576) :
    Calls Try.prog 67 #[v, u] w fun e w' => e = .returned (.bool true) ∧ Below w.heap.size w w' := by
  obtain ⟨a, cap, rfl⟩ := hv.len
  obtain ⟨a', cap', rfl⟩ := hu.len
  have H := Lib.hid hv
  have H' := Lib.hid hu
  clear hv hu
  go_enter Try.func67, Try.ntmps67
  go_wp2_with fail
  go_loopw [5] (fun i wr => ∃ k : Nat, k ≤ l.length ∧ i = .int .i64 k ∧ Below w.heap.size w wr) (fun i _ => l.length - (intOf i).toNat)
  case atStart => exact ⟨0, by omega, rfl, Below.refl _ _⟩
  case round =>
    obtain ⟨k, hk, rfl, hbr⟩ := hrel
    by_cases hlt : k < l.length
    · have hlti : (k : Int) < (l.length : Int) := by omega
      obtain ⟨b, o, c, hv, hbC, hcs⟩ := H.out.cells (by omega)
      obtain ⟨rfl, rfl⟩ : a = some ⟨b, o, none⟩ ∧ cap = c := by injection hv with e1 e2 e3; exact ⟨e1, e3⟩
      obtain ⟨c0, c1, c2, c3, c4⟩ := hcs k hlt
      obtain ⟨b', o', c', hv', hbC', hcs'⟩ := H'.out.cells (by omega)
      obtain ⟨rfl, rfl⟩ : a' = some ⟨b', o', none⟩ ∧ cap' = c' := by injection hv' with e1 e2 e3; exact ⟨e1, e3⟩
      obtain ⟨d0, d1, d2, d3, d4⟩ := hcs' k hlt
      clear hcs hv hcs' hv'
      rw [← hbr.cell (p := ⟨b, _, none⟩) hbC] at c0 c1 c2 c3 c4
      rw [← hbr.cell (p := ⟨b', _, none⟩) hbC'] at d0 d1 d2 d3 d4
      have He := Lib.hid (eqRawField_same l[k])
      unfold fieldV at He
      generalize l[k] = f at He c0 c1 c2 c3 c4 d0 d1 d2 d3 d4
      go_wp2_with fail
      go_region_with (go_at_call 70; refine (He.out _).mono ?_; rintro e w2 ⟨rfl, hb2⟩; have hl2 := hbr.drew.trans (hb2.mono hbr.size))
      all_goals
        clear c0 c1 c2 c3 c4 d0 d1 d2 d3 d4
        go_wp2_with fail
        go_roundw
        case rel => exact ⟨k + 1, by omega, by go_num, hl2⟩
        case measure => simp [intOf]; omega
    · have hge : (l.length : Int) ≤ (k : Int) := by omega
      have hend : decide (k < l.length) = false := decide_eq_false hlt
      go_wp2_with fail
      go_ret
      exact ⟨rfl, hbr⟩
theorem eqRawMsg_same (m : RM) (a a' : Option Addr) (cap cap' : Nat) (w : World) (hv : FieldsAt w (· < w.heap.size) (.slice a m.2.length cap) m.2) (hu : FieldsAt w (· < w.heap.size) (.slice a' m.2.length cap') m.2) (hl : m.2.length ≤ 1048576) :
    Calls Try.prog 60 #[.agg #[.int .i64 m.1, .slice a m.2.length cap], .agg #[.int .i64 m.1, .slice a' m.2.length cap']] w fun e w' => e = .returned (.bool true) ∧ Below w.heap.size w w' := by
  have H := Lib.hid hv
  have H' := Lib.hid hu
  have Hl := Lib.hid hl
  clear hv hu hl
  go_enter Try.func60, Try.ntmps60
  go_wp2_with fail
  have hl2 : Below w.heap.size w ((w.alloc (.cells #[.int .i64 m.1, .slice a m.2.length cap] 93)).alloc (.cells #[.int .i64 m.1, .slice a' m.2.length cap'] 93)) := by
    repeat (first | exact Below.refl _ _ | refine Below.alloc ?_ (by simp <;> omega) _)
  have hz2 : w.heap.size ≤ ((w.alloc (.cells #[.int .i64 m.1, .slice a m.2.length cap] 93)).alloc (.cells #[.int .i64 m.1, .slice a' m.2.length cap'] 93)).heap.size := hl2.size
  refine (eqRawFieldS_same _ _ m.2 _ (H.out.keep (below_sees hl2) fun b hb => by omega) (H'.out.keep (below_sees hl2) fun b hb => by omega) Hl.out).mono ?_
  rintro e w1 ⟨rfl, hb1⟩
  have hl3 := hl2.trans (hb1.mono hz2)
  clear hb1 hl2
  go_wp2_with fail
  go_ret
  exact ⟨rfl, hl3⟩
set_option maxHeartbeats 1000000 in
theorem eqRawMsgS_same (v u : Value) (l : List RM) (w : World) (hv : MsgsAt w (· < w.heap.size) v l) (hu : MsgsAt w (· < w.heap.size) u l) (hl : Small l) :
    Calls Try.prog 49 #[v, u] w fun e w' => e = .returned (.bool true) ∧ Below w.heap.size w w' := by
  obtain ⟨a, cap, rfl⟩ := hv.len
  obtain ⟨a', cap', rfl⟩ := hu.len
  have H := Lib.hid hv
  have H' := Lib.hid hu
  have hl1 := hl.1
  have Hl := Lib.hid hl.2
  clear hv hu hl
  go_enter Try.func49, Try.ntmps49
  go_wp2_with fail
  go_loopw [5] (fun i wr => ∃ k : Nat, k ≤ l.length ∧ i = .int .i64 k ∧ Below w.heap.size w wr) (fun i _ => l.length - (intOf i).toNat)
  case atStart => exact ⟨0, by omega, rfl, Below.refl _ _⟩
  case round =>
    obtain ⟨k, hk, rfl, hbr⟩ := hrel
    by_cases hlt : k < l.length
    · have hlti : (k : Int) < (l.length : Int) := by omega
      obtain ⟨b, o, c, hv, hbC, hcs⟩ := H.out.cells (by omega)
      obtain ⟨rfl, rfl⟩ : a = some ⟨b, o, none⟩ ∧ cap = c := by injection hv with e1 e2 e3; exact ⟨e1, e3⟩
      obtain ⟨x, c0, c1, hx⟩ := hcs k hlt
      obtain ⟨xa, xcap, rfl⟩ := hx.len
      obtain ⟨b', o', c', hv', hbC', hcs'⟩ := H'.out.cells (by omega)
      obtain ⟨rfl, rfl⟩ : a' = some ⟨b', o', none⟩ ∧ cap' = c' := by injection hv' with e1 e2 e3; exact ⟨e1, e3⟩
      obtain ⟨y, d0, d1, hy⟩ := hcs' k hlt
      obtain ⟨ya, ycap, rfl⟩ := hy.len
      have Hx := Lib.hid (hx.keep (below_sees hbr) (S' := (· < wr.heap.size)) fun b hb => Nat.lt_of_lt_of_le hb hbr.size)
      have Hy := Lib.hid (hy.keep (below_sees hbr) (S' := (· < wr.heap.size)) fun b hb => Nat.lt_of_lt_of_le hb hbr.size)
      have hsm := Lib.hid (Hl.out _ (List.getElem_mem hlt))
      clear hcs hv hcs' hv' hx hy
      rw [← hbr.cell (p := ⟨b, _, none⟩) hbC] at c0 c1
      rw [← hbr.cell (p := ⟨b', _, none⟩) hbC'] at d0 d1
      have He := Lib.hid (eqRawMsg_same l[k] xa ya xcap ycap wr.drew (Hx.out.keep (fun _ _ _ => rfl) fun _ h => h) (Hy.out.keep (fun _ _ _ => rfl) fun _ h => h) hsm.out)
      clear Hx Hy hsm
      generalize l[k] = f at He c0 c1 d0 d1
      go_wp2_with fail
      go_region_with (go_at_call 60; refine He.out.mono ?_; rintro e w2 ⟨rfl, hb2⟩; have hl2 := hbr.drew.trans (hb2.mono hbr.size))
      all_goals
        clear c0 c1 d0 d1
        go_wp2_with fail
        go_roundw
        case rel => exact ⟨k + 1, by omega, by go_num, hl2⟩
        case measure => simp [intOf]; omega
    · have hge : (l.length : Int) ≤ (k : Int) := by omega
      have hend : decide (k < l.length) = false := decide_eq_false hlt
      go_wp2_with fail
      go_ret
      exact ⟨rfl, hbr⟩
theorem eqRaw_same (v u : Value) (r : List RM) (w : World) (hv : RawAt w (· < w.heap.size) v r) (hu : RawAt w (· < w.heap.size) u r) (hl : Small r) :
    Calls Try.prog 38 #[v, u] w fun e w' => e = .returned (.bool true) ∧ Below w.heap.size w w' := by
  obtain ⟨x, rfl, hx⟩ := hv
  obtain ⟨y, rfl, hy⟩ := hu
  obtain ⟨a, cap, rfl⟩ := hx.len
  obtain ⟨a', cap', rfl⟩ := hy.len
  have H := Lib.hid hx
  have H' := Lib.hid hy
  have Hl := Lib.hid hl
  clear hx hy hl
  go_enter Try.func38, Try.ntmps38
  go_wp2_with fail
  have hl2 : Below w.heap.size w ((w.alloc (.cells #[.slice a r.length cap] 47)).alloc (.cells #[.slice a' r.length cap'] 47)) := by
    repeat (first | exact Below.refl _ _ | refine Below.alloc ?_ (by simp <;> omega) _)
  have hz2 := hl2.size
  refine (eqRawMsgS_same _ _ r _ (H.out.keep (below_sees hl2) fun b hb => by omega) (H'.out.keep (below_sees hl2) fun b hb => by omega) Hl.out).mono ?_
  rintro e w1 ⟨rfl, hb1⟩
  have hl3 := hl2.trans (hb1.mono hz2)
  clear hb1 hl2
  go_wp2_with fail
  go_ret
  exact ⟨rfl, hl3⟩
end Go.Proofs.Ytcnpdcmdnmfnaaa.Num.Sch
