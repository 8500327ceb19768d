/-
  Several texts in one: TwoRaw ToSch SzSch EqSch MarkRaw MarkSch OpenRow OpenRaw.
-/
import Derived.Test.YthjnpipincpkgaaGreatDoorEqRaw
import Derived.Test.YthjnpipincpkgaaGreatDoorZone
import Derived.OwnWalk
import Derived.LoopTactic
import Derived.Deep.RegionWith
import Derived.Test.YthjnpipincpkgaaGreatDoorRaw
import Derived.Deep.Slices
import Derived.Deep.Fields
import Derived.ChangeSame
import Derived.ChangeArms
import Derived.Test.YthjnpipincpkgaaGreatDoorSzRaw
import Derived.Test.YthjnpipincpkgaaGreatDoorChecked
import Derived.ProofKit

/-
  Two descriptions held in two local variables, as the exact laws hold their arguments: what each call of the laws leaves of them.
-/
namespace Go.Proofs.YthjnpipincpkgaaGreatDoor.Num
open Go.RowKit Go.Proofs
set_option linter.unusedVariables false

theorem toRaw_held {w : World} {g C : Nat} {a : Value} {r : List RM} (h : Holds w g C a r) (hl : Small r) :
    Calls Tryz.prog 23 #[.agg #[a]] w fun e w' => ∃ x cap, e = .returned (.agg #[.slice x r.length cap]) ∧ RawAt w' (· < w'.heap.size) (.agg #[.slice x r.length cap]) r ∧ Below w.heap.size w w' :=
  (toRaw_any _ r w h.raw hl).mono fun e w' ⟨u, he, hu, hb⟩ => by
    obtain ⟨y, rfl, hy⟩ := hu
    obtain ⟨x, cap, rfl⟩ := hy.len
    exact ⟨x, cap, he, (show RawAt w' _ _ r from ⟨_, rfl, hy⟩).keep (fun _ _ _ => rfl) fun b hb' => hb'.2, hb⟩
end Go.Proofs.YthjnpipincpkgaaGreatDoor.Num

/-
  The walks of the laws' toSchema: a description laid anew in new memory, each of its rows in a block of its own.
-/
namespace Go.Proofs.YthjnpipincpkgaaGreatDoor.Num.Sch
open Go.RowKit Go.Proofs
set_option linter.unusedVariables false
set_option linter.unusedSimpArgs false

end Go.Proofs.YthjnpipincpkgaaGreatDoor.Num.Sch

/-
  The walks of the laws' szSchema: what is left is not below 0 only where no list is longer than the bound; nothing that was there is written.
-/
namespace Go.Proofs.YthjnpipincpkgaaGreatDoor.Num.Sch
open Go.RowKit Go.Proofs
set_option linter.unusedVariables false

end Go.Proofs.YthjnpipincpkgaaGreatDoor.Num.Sch

/-
  The walks of the laws' eqSchema: two values that hold the same description are equal; only new memory is written.
-/
namespace Go.Proofs.YthjnpipincpkgaaGreatDoor.Num.Sch
open Go.RowKit Go.Proofs
set_option linter.unusedVariables false

theorem eqRawField_same (f : RF) (w : World) :
    Calls Tryz.prog 124 #[fieldV f, fieldV f] w fun e w' => e = .returned (.bool true) ∧ Below w.heap.size w w' := by
  unfold fieldV
  go_enter Tryz.func124, Tryz.ntmps124
  go_wp2_with fail
  go_ret
  refine ⟨rfl, ?_⟩
  repeat (first | exact Below.refl _ _ | refine Below.setCell ?_ (by simp) _ | refine Below.alloc ?_ (by simp <;> omega) _)
set_option maxHeartbeats 1000000 in
theorem eqRawFieldS_same (v u : Value) (l : List RF) (w : World) (hv : FieldsAt w (· < w.heap.size) v l) (hu : FieldsAt w (· < w.heap.size) u l) (hl : l.length ≤ 1048576) :
    Calls Tryz.prog 103 #[v, u] w fun e w' => e = .returned (.bool true) ∧ Below w.heap.size w w' := by
  obtain ⟨a, cap, rfl⟩ := hv.len
  obtain ⟨a', cap', rfl⟩ := hu.len
  have H := Lib.hid hv
  have H' := Lib.hid hu
  clear hv hu
  go_enter Tryz.func103, Tryz.ntmps103
  go_wp2_with fail
  go_loopw [5] (fun i wr => ∃ k : Nat, k ≤ l.length ∧ i = .int .i64 k ∧ Below w.heap.size w wr) (fun i _ => l.length - (intOf i).toNat)
  case atStart => exact ⟨0, by omega, rfl, Below.refl _ _⟩
  case round =>
    obtain ⟨k, hk, rfl, hbr⟩ := hrel
    by_cases hlt : k < l.length
    · have hlti : (k : Int) < (l.length : Int) := by omega
      obtain ⟨b, o, c, hv, hbC, hcs⟩ := H.out.cells (by omega)
      obtain ⟨rfl, rfl⟩ : a = some ⟨b, o, none⟩ ∧ cap = c := by injection hv with e1 e2 e3; exact ⟨e1, e3⟩
      obtain ⟨c0, c1, c2, c3, c4⟩ := hcs k hlt
      obtain ⟨b', o', c', hv', hbC', hcs'⟩ := H'.out.cells (by omega)
      obtain ⟨rfl, rfl⟩ : a' = some ⟨b', o', none⟩ ∧ cap' = c' := by injection hv' with e1 e2 e3; exact ⟨e1, e3⟩
      obtain ⟨d0, d1, d2, d3, d4⟩ := hcs' k hlt
      clear hcs hv hcs' hv'
      rw [← hbr.cell (p := ⟨b, _, none⟩) hbC] at c0 c1 c2 c3 c4
      rw [← hbr.cell (p := ⟨b', _, none⟩) hbC'] at d0 d1 d2 d3 d4
      have He := Lib.hid (eqRawField_same l[k])
      unfold fieldV at He
      generalize l[k] = f at He c0 c1 c2 c3 c4 d0 d1 d2 d3 d4
      go_wp2_with fail
      go_region_with (go_at_call 124; refine (He.out _).mono ?_; rintro e w2 ⟨rfl, hb2⟩; have hl2 := hbr.drew.trans (hb2.mono hbr.size))
      all_goals
        clear c0 c1 c2 c3 c4 d0 d1 d2 d3 d4
        go_wp2_with fail
        go_roundw
        case rel => exact ⟨k + 1, by omega, by go_num, hl2⟩
        case measure => simp [intOf]; omega
    · have hge : (l.length : Int) ≤ (k : Int) := by omega
      have hend : decide (k < l.length) = false := decide_eq_false hlt
      go_wp2_with fail
      go_ret
      exact ⟨rfl, hbr⟩
theorem eqRawMsg_same (m : RM) (a a' : Option Addr) (cap cap' : Nat) (w : World) (hv : FieldsAt w (· < w.heap.size) (.slice a m.2.length cap) m.2) (hu : FieldsAt w (· < w.heap.size) (.slice a' m.2.length cap') m.2) (hl : m.2.length ≤ 1048576) :
    Calls Tryz.prog 82 #[.agg #[.int .i64 m.1, .slice a m.2.length cap], .agg #[.int .i64 m.1, .slice a' m.2.length cap']] w fun e w' => e = .returned (.bool true) ∧ Below w.heap.size w w' := by
  have H := Lib.hid hv
  have H' := Lib.hid hu
  have Hl := Lib.hid hl
  clear hv hu hl
  go_enter Tryz.func82, Tryz.ntmps82
  go_wp2_with fail
  have hl2 : Below w.heap.size w ((w.alloc (.cells #[.int .i64 m.1, .slice a m.2.length cap] 43)).alloc (.cells #[.int .i64 m.1, .slice a' m.2.length cap'] 43)) := by
    repeat (first | exact Below.refl _ _ | refine Below.alloc ?_ (by simp <;> omega) _)
  have hz2 : w.heap.size ≤ ((w.alloc (.cells #[.int .i64 m.1, .slice a m.2.length cap] 43)).alloc (.cells #[.int .i64 m.1, .slice a' m.2.length cap'] 43)).heap.size := hl2.size
  refine (eqRawFieldS_same _ _ m.2 _ (H.out.keep (below_sees hl2) fun b hb => by omega) (H'.out.keep (below_sees hl2) fun b hb => by omega) Hl.out).mono ?_
  rintro e w1 ⟨rfl, hb1⟩
  have hl3 := hl2.trans (hb1.mono hz2)
  clear hb1 hl2
  go_wp2_with fail
  go_ret
  exact ⟨rfl, hl3⟩
set_option maxHeartbeats 1000000 in
theorem eqRawMsgS_same (v u : Value) (l : List RM) (w : World) (hv : MsgsAt w (· < w.heap.size) v l) (hu : MsgsAt w (· < w.heap.size) u l) (hl : Small l) :
    Calls Tryz.prog 55 #[v, u] w fun e w' => e = .returned (.bool true) ∧ Below w.heap.size w w' := by
  obtain ⟨a, cap, rfl⟩ := hv.len
  obtain ⟨a', cap', rfl⟩ := hu.len
  have H := Lib.hid hv
  have H' := Lib.hid hu
  have hl1 := hl.1
  have Hl := Lib.hid hl.2
  clear hv hu hl
  go_enter Tryz.func55, Tryz.ntmps55
  go_wp2_with fail
  go_loopw [5] (fun i wr => ∃ k : Nat, k ≤ l.length ∧ i = .int .i64 k ∧ Below w.heap.size w wr) (fun i _ => l.length - (intOf i).toNat)
  case atStart => exact ⟨0, by omega, rfl, Below.refl _ _⟩
  case round =>
    obtain ⟨k, hk, rfl, hbr⟩ := hrel
    by_cases hlt : k < l.length
    · have hlti : (k : Int) < (l.length : Int) := by omega
      obtain ⟨b, o, c, hv, hbC, hcs⟩ := H.out.cells (by omega)
      obtain ⟨rfl, rfl⟩ : a = some ⟨b, o, none⟩ ∧ cap = c := by injection hv with e1 e2 e3; exact ⟨e1, e3⟩
      obtain ⟨x, c0, c1, hx⟩ := hcs k hlt
      obtain ⟨xa, xcap, rfl⟩ := hx.len
      obtain ⟨b', o', c', hv', hbC', hcs'⟩ := H'.out.cells (by omega)
      obtain ⟨rfl, rfl⟩ : a' = some ⟨b', o', none⟩ ∧ cap' = c' := by injection hv' with e1 e2 e3; exact ⟨e1, e3⟩
      obtain ⟨y, d0, d1, hy⟩ := hcs' k hlt
      obtain ⟨ya, ycap, rfl⟩ := hy.len
      have Hx := Lib.hid (hx.keep (below_sees hbr) (S' := (· < wr.heap.size)) fun b hb => Nat.lt_of_lt_of_le hb hbr.size)
      have Hy := Lib.hid (hy.keep (below_sees hbr) (S' := (· < wr.heap.size)) fun b hb => Nat.lt_of_lt_of_le hb hbr.size)
      have hsm := Lib.hid (Hl.out _ (List.getElem_mem hlt))
      clear hcs hv hcs' hv' hx hy
      rw [← hbr.cell (p := ⟨b, _, none⟩) hbC] at c0 c1
      rw [← hbr.cell (p := ⟨b', _, none⟩) hbC'] at d0 d1
      have He := Lib.hid (eqRawMsg_same l[k] xa ya xcap ycap wr.drew (Hx.out.keep (fun _ _ _ => rfl) fun _ h => h) (Hy.out.keep (fun _ _ _ => rfl) fun _ h => h) hsm.out)
      clear Hx Hy hsm
      generalize l[k] = f at He c0 c1 d0 d1
      go_wp2_with fail
      go_region_with (go_at_call 82; refine He.out.mono ?_; rintro e w2 ⟨rfl, hb2⟩; have hl2 := hbr.drew.trans (hb2.mono hbr.size))
      all_goals
        clear c0 c1 d0 d1
        go_wp2_with fail
        go_roundw
        case rel => exact ⟨k + 1, by omega, by go_num, hl2⟩
        case measure => simp [intOf]; omega
    · have hge : (l.length : Int) ≤ (k : Int) := by omega
      have hend : decide (k < l.length) = false := decide_eq_false hlt
      go_wp2_with fail
      go_ret
      exact ⟨rfl, hbr⟩
theorem eqRaw_same (v u : Value) (r : List RM) (w : World) (hv : RawAt w (· < w.heap.size) v r) (hu : RawAt w (· < w.heap.size) u r) (hl : Small r) :
    Calls Tryz.prog 24 #[v, u] w fun e w' => e = .returned (.bool true) ∧ Below w.heap.size w w' := by
  obtain ⟨x, rfl, hx⟩ := hv
  obtain ⟨y, rfl, hy⟩ := hu
  obtain ⟨a, cap, rfl⟩ := hx.len
  obtain ⟨a', cap', rfl⟩ := hy.len
  have H := Lib.hid hx
  have H' := Lib.hid hy
  have Hl := Lib.hid hl
  clear hx hy hl
  go_enter Tryz.func24, Tryz.ntmps24
  go_wp2_with fail
  have hl2 : Below w.heap.size w ((w.alloc (.cells #[.slice a r.length cap] 30)).alloc (.cells #[.slice a' r.length cap'] 30)) := by
    repeat (first | exact Below.refl _ _ | refine Below.alloc ?_ (by simp <;> omega) _)
  have hz2 := hl2.size
  refine (eqRawMsgS_same _ _ r _ (H.out.keep (below_sees hl2) fun b hb => by omega) (H'.out.keep (below_sees hl2) fun b hb => by omega) Hl.out).mono ?_
  rintro e w1 ⟨rfl, hb1⟩
  have hl3 := hl2.trans (hb1.mono hz2)
  clear hb1 hl2
  go_wp2_with fail
  go_ret
  exact ⟨rfl, hl3⟩
end Go.Proofs.YthjnpipincpkgaaGreatDoor.Num.Sch

/-
  The walks of the laws' markRaw and heldRaw: a description of the call's own marked cell by cell, and found so again; no other block is written.
-/
namespace Go.Proofs.YthjnpipincpkgaaGreatDoor.Num
open Go.RowKit Go.Proofs
set_option linter.unusedVariables false
set_option linter.unusedSimpArgs false

set_option maxHeartbeats 4000000 in
theorem markF_any (g n cap : Nat) (k : Int) (w : World) (hf : Fill w g (n * 5)) (hn : n ≤ 1048576) (hk : 0 ≤ k ∧ k ≤ 1000000000000000) :
    Calls Tryz.prog 84 #[.slice (some ⟨g, 0, none⟩) n cap, .int .i64 k] w fun e w' => e = .returned (.int .i64 (k + 5 * (n : Int))) ∧ Marked w' g k (n * 5) ∧ Fill w' g (n * 5) ∧ w.grownBy w' (some g) ∧ w'.heap.size = w.heap.size := by
  have HF := Lib.hid hf
  clear hf
  go_enter Tryz.func84, Tryz.ntmps84
  go_wp2_with fail
  go_loopw [1, 5] (fun kk ii wr => ∃ i : Nat, i ≤ n ∧ kk = .int .i64 (k + 5 * (i : Int)) ∧ ii = .int .i64 i ∧ Hid (Marked wr g k (i * 5)) ∧ Hid (Fill wr g (n * 5)) ∧ Hid (w.grownBy wr (some g)) ∧ wr.heap.size = w.heap.size) (fun _ ii _ => n - (intOf ii).toNat)
  case atStart => exact ⟨0, by omega, by simp, rfl, Lib.hid fun j hj => by omega, HF, Lib.hid ⟨rfl, rfl, rfl, Nat.le_refl _, fun _ _ _ => rfl⟩, rfl⟩
  case round =>
    obtain ⟨i, hi, rfl, rfl, hm, hf, hg, hz⟩ := hrel
    by_cases hlt : i < n
    · have hlti : (i : Int) < (n : Int) := by omega
      obtain ⟨v0, a0, b0⟩ := hf.out.cell (j := i * 5) (by omega)
      obtain ⟨v1, a1, b1⟩ := hf.out.cell (j := i * 5 + 1) (by omega)
      obtain ⟨v2, a2, b2⟩ := hf.out.cell (j := i * 5 + 2) (by omega)
      obtain ⟨v3, a3, b3⟩ := hf.out.cell (j := i * 5 + 3) (by omega)
      obtain ⟨v4, a4, b4⟩ := hf.out.cell (j := i * 5 + 4) (by omega)
      have w1 : IntKind.i64.wrap (k + 5 * (i : Int) + 1) = k + 5 * (i : Int) + 1 := IntWalk.i64_in _ (by omega)
      have w2 : IntKind.i64.wrap (k + 5 * (i : Int) + 1 + 1) = k + 5 * (i : Int) + 1 + 1 := IntWalk.i64_in _ (by omega)
      have w3 : IntKind.i64.wrap (k + 5 * (i : Int) + 1 + 1 + 1) = k + 5 * (i : Int) + 1 + 1 + 1 := IntWalk.i64_in _ (by omega)
      have w4 : IntKind.i64.wrap (k + 5 * (i : Int) + 1 + 1 + 1 + 1) = k + 5 * (i : Int) + 1 + 1 + 1 + 1 := IntWalk.i64_in _ (by omega)
      have w5 : IntKind.i64.wrap (k + 5 * (i : Int) + 1 + 1 + 1 + 1 + 1) = k + 5 * (i : Int) + 1 + 1 + 1 + 1 + 1 := IntWalk.i64_in _ (by omega)
      have F0 := hf.out
      have F1 := F0.set (i * 5) (markAt k (i * 5))
      have F2 := F1.set (i * 5 + 1) (markAt k (i * 5 + 1))
      have F3 := F2.set (i * 5 + 2) (markAt k (i * 5 + 2))
      have F4 := F3.set (i * 5 + 3) (markAt k (i * 5 + 3))
      have F5 := Lib.hid (F4.set (i * 5 + 4) (markAt k (i * 5 + 4)))
      have M5 := Lib.hid (((((hm.out.set (F0.2 _ (by omega)).1).set (F1.2 _ (by omega)).1).set (F2.2 _ (by omega)).1).set (F3.2 _ (by omega)).1).set (F4.2 _ (by omega)).1)
      have G5 : Hid (w.grownBy (((((wr.setCell ⟨g, i * 5, none⟩ (markAt k (i * 5))).setCell ⟨g, i * 5 + 1, none⟩ (markAt k (i * 5 + 1))).setCell ⟨g, i * 5 + 2, none⟩ (markAt k (i * 5 + 2))).setCell ⟨g, i * 5 + 3, none⟩ (markAt k (i * 5 + 3))).setCell ⟨g, i * 5 + 4, none⟩ (markAt k (i * 5 + 4))) (some g)) := Lib.hid (Only.setCell (Only.setCell (Only.setCell (Only.setCell (Only.setCell hg.out _ _) _ _) _ _) _ _) _ _)
      rw [mark0, mark1, mark2, mark3, mark4] at F5 M5 G5
      clear F0 F1 F2 F3 F4
      go_wp2_with fail
      refine ⟨⟨i + 1, by omega, by congr 1; push_cast; omega, by simp, ?_, F5, G5, by simpa [World.setCell] using hz⟩, by simp [intOf]; omega⟩
      rw [show (i + 1) * 5 = i * 5 + 4 + 1 by omega]
      exact M5
    · have hge : (n : Int) ≤ (i : Int) := by omega
      have hend : decide (i < n) = false := decide_eq_false hlt
      obtain rfl : i = n := by omega
      go_wp2_with fail
      go_ret
      exact ⟨rfl, hm.out, hf.out, hg.out, hz⟩
/-- A nil row. -/
theorem markF_nil (k : Int) (w : World) : Calls Tryz.prog 84 #[.slice none 0 0, .int .i64 k] w fun e w' => e = .returned (.int .i64 k) ∧ w = w' := by
  go_enter Tryz.func84, Tryz.ntmps84
  go_wp2_with fail
  refine wp_loop_rounds 1 ?_
  rw [rounds_succ]
  go_wp2_with fail
  go_ret
  exact ⟨rfl, rfl⟩
set_option maxHeartbeats 4000000 in
theorem markM_any (gv cap : Nat) (ms : List OM) (k : Int) (w : World) (hs : Shp w gv ms) (h6 : ms.length ≤ 1048576) (hl : ∀ m ∈ ms, m.2.2.length ≤ 1048576) (hk : 0 ≤ k ∧ k ≤ 1000000) :
    Calls Tryz.prog 57 #[.slice (some ⟨gv, 0, none⟩) ms.length cap, .int .i64 k] w fun e w' => e = .returned (.int .i64 (kAt k ms ms.length)) ∧ MarkM w' gv k ms ms.length ∧ Shp w' gv ms ∧ Touch gv ms w w' := by
  have HS := Lib.hid hs
  have HL := Lib.hid hl
  clear hs hl
  go_enter Tryz.func57, Tryz.ntmps57
  go_wp2_with fail
  go_loopw [1, 5] (fun kk ii wr => ∃ i : Nat, i ≤ ms.length ∧ kk = .int .i64 (kAt k ms i) ∧ ii = .int .i64 i ∧ Hid (MarkM wr gv k ms i) ∧ Hid (Shp wr gv ms) ∧ Hid (Touch gv ms w wr)) (fun _ ii _ => ms.length - (intOf ii).toNat)
  case atStart => exact ⟨0, by omega, by rw [kAt_zero], rfl, Lib.hid fun j _ hj => by omega, HS, Lib.hid (Touch.refl _ _ _)⟩
  case round =>
    obtain ⟨i, hi, rfl, rfl, hm, hs, ht⟩ := hrel
    by_cases hlt : i < ms.length
    · have hlti : (i : Int) < (ms.length : Int) := by omega
      have hb := kAt_le (k := k) HL.out i hi
      have hlf := HL.out _ (List.getElem_mem hlt)
      have hks := kAt_succ (k := k) hlt
      obtain ⟨⟨v0, a0⟩, b0⟩ := hs.out.row.2 (i * 2) (by omega)
      have a1 := hs.out.vals i hlt
      have hgv := hs.out.row.1
      have w1 : IntKind.i64.wrap (kAt k ms i + 1) = kAt k ms i + 1 := IntWalk.i64_in _ (by omega)
      -- the world behind the Id's mark
      have hblk : ∀ x, x ≠ gv → (wr.setCell ⟨gv, i * 2, none⟩ (.int .i64 (kAt k ms i))).heap[x]? = wr.heap[x]? := fun x hx => by
        have := Below.heap_setCell wr ⟨gv, i * 2, none⟩ (.int .i64 (kAt k ms i)) x (by intro e; exact hx e)
        exact this
      have hsz : (wr.setCell ⟨gv, i * 2, none⟩ (.int .i64 (kAt k ms i))).heap.size = wr.heap.size := by simp [World.setCell]
      have hs1 : Shp (wr.setCell ⟨gv, i * 2, none⟩ (.int .i64 (kAt k ms i))) gv ms := ⟨hs.out.row.set _ _, fun j hj => by
          rw [World.cell?_setCell_other _ _ _ _ (by intro e; injection e with _ e; omega)]; exact hs.out.vals j hj, fun j hj => by
          rcases hs.out.flds j hj with h | ⟨g, c, h1, h2, h3⟩
          · exact .inl h
          · exact .inr ⟨g, c, h1, h2, h3.block (hblk g h2) hsz⟩, hs.out.each⟩
      have hm1 : MarkM (wr.setCell ⟨gv, i * 2, none⟩ (.int .i64 (kAt k ms i))) gv k ms i := fun j hj hji => by
        obtain ⟨h1, h2⟩ := hm.out j hj hji
        refine ⟨by rw [World.cell?_setCell_other _ _ _ _ (by intro e; injection e with _ e; omega)]; exact h1, fun g c hg => ?_⟩
        rcases hs.out.flds j hj with ⟨h, _⟩ | ⟨g', c', h3, h4, _⟩
        · rw [h] at hg; cases hg
        · rw [h3] at hg
          obtain rfl : g' = g := by injection hg with e; injection e with e; injection e
          exact (h2 _ _ h3).block (hblk _ h4)
      have hid : (wr.setCell ⟨gv, i * 2, none⟩ (.int .i64 (kAt k ms i))).cell? ⟨gv, i * 2, none⟩ = some (.int .i64 (kAt k ms i)) := World.cell?_setCell_same _ _ _ a0
      have ht1 : Touch gv ms w (wr.setCell ⟨gv, i * 2, none⟩ (.int .i64 (kAt k ms i))) := ht.out.trans ⟨rfl, rfl, rfl, hsz, fun x h1 _ => hblk x h1⟩
      have HS1 := Lib.hid hs1
      have HM1 := Lib.hid hm1
      have Hid1 := Lib.hid hid
      have HT1 := Lib.hid ht1
      have hap := Lib.hid fun j hj hne => (hs.out.each j i hj hlt hne)
      clear hs1 hm1 hid ht1 hblk hsz
      rcases hs.out.flds i hlt with ⟨hv, hn⟩ | ⟨g, c, hv, hgne, hfill⟩
      · rw [hv] at a1
        have hk1 : kAt k ms (i + 1) = kAt k ms i + 1 := by rw [hks, hn]; simp
        have Hk1 := Lib.hid hk1
        have Hv := Lib.hid hv
        clear hv hn hks hs hm ht hk1
        go_wp2_with fail
        refine (markF_nil _ _).mono ?_
        rintro e w2 ⟨rfl, rfl⟩
        go_wp2_with fail
        go_roundw
        case rel =>
          refine ⟨i + 1, by omega, by rw [Hk1.out], by simp, Lib.hid fun j hj hji => ?_, HS1, HT1⟩
          by_cases e : j = i
          · subst e; exact ⟨Hid1.out, fun g c hg => by rw [Hv.out] at hg; cases hg⟩
          · exact HM1.out j hj (by omega)
        case measure => simp [intOf]; omega
      · rw [hv] at a1
        have Hk1 : Hid (kAt k ms (i + 1) = kAt k ms i + 1 + 5 * (ms[i].2.2.length : Int)) := Lib.hid (by rw [hks]; omega)
        have Hv := Lib.hid hv
        have Hf : Hid (Fill (wr.setCell ⟨gv, i * 2, none⟩ (.int .i64 (kAt k ms i))) g (ms[i].2.2.length * 5)) := Lib.hid (by
          rcases HS1.out.flds i hlt with ⟨h, _⟩ | ⟨g', c', h3, _, h5⟩
          · rw [h] at hv; cases hv
          · rw [h3] at hv
            obtain rfl : g' = g := by injection hv with e; injection e with e; injection e
            exact h5)
        generalize hnn : ms[i].2.2.length = n at a1 hlf Hk1 Hf
        have Hnn := Lib.hid hnn
        clear hv hks hs hm ht hfill hnn
        go_wp2_with fail
        refine (markF_any g n c _ _ Hf.out hlf (by omega)).mono ?_
        rintro e w2 ⟨rfl, hm2, hf2, hg2, hz2⟩
        generalize wr.setCell ⟨gv, i * 2, none⟩ (.int .i64 (kAt k ms i)) = wq at HS1 HM1 Hid1 HT1 Hf hg2 hz2
        have blk : ∀ x, x ≠ g → w2.heap[x]? = wq.heap[x]? := fun x hx => by
          rcases Nat.lt_or_ge x wq.heap.size with h | h
          · exact grown_cell hg2 h hx
          · rw [Array.getElem?_eq_none h, Array.getElem?_eq_none (by omega)]
        have hoth : ∀ j (hj : j < ms.length), j ≠ i → ∀ g' c', ms[j].2.1 = .slice (some ⟨g', 0, none⟩) ms[j].2.2.length c' → g' ≠ g := fun j hj hne g' c' h e => by
          subst e
          rcases hap.out j hj hne with h1 | h1
          · rw [h] at h1; cases h1
          · rw [h, Hv.out] at h1; exact h1 rfl
        have hgi : ∀ g' c', ms[i].2.1 = .slice (some ⟨g', 0, none⟩) ms[i].2.2.length c' → g' = g := fun g' c' h => by
          rw [Hv.out] at h; injection h with e; injection e with e; injection e with e; exact e.symm
        have S2 : Hid (Shp w2 gv ms) := Lib.hid ⟨HS1.out.row.block (blk gv (Ne.symm hgne)) hz2, fun j hj => (World.cell?_of_block (a := ⟨gv, j * 2 + 1, none⟩) (blk gv (Ne.symm hgne))).trans (HS1.out.vals j hj), fun j hj => by
          by_cases e : j = i
          · subst e; exact .inr ⟨g, c, Hv.out, hgne, by rw [Hnn.out]; exact hf2⟩
          · rcases HS1.out.flds j hj with h | ⟨g', c', h1, h2, h3⟩
            · exact .inl h
            · exact .inr ⟨g', c', h1, h2, h3.block (blk g' (hoth j hj e g' c' h1)) hz2⟩, HS1.out.each⟩
        have M2 : Hid (MarkM w2 gv k ms (i + 1)) := Lib.hid fun j hj hji => by
          by_cases e : j = i
          · subst e
            exact ⟨(World.cell?_of_block (a := ⟨gv, j * 2, none⟩) (blk gv (Ne.symm hgne))).trans Hid1.out, fun g' c' h => by obtain rfl := hgi g' c' h; rw [Hnn.out]; exact hm2⟩
          · obtain ⟨h1, h2⟩ := HM1.out j hj (by omega)
            exact ⟨(World.cell?_of_block (a := ⟨gv, j * 2, none⟩) (blk gv (Ne.symm hgne))).trans h1, fun g' c' h => (h2 g' c' h).block (blk g' (hoth j hj e g' c' h))⟩
        have T2 : Hid (Touch gv ms w w2) := Lib.hid (HT1.out.trans ⟨hg2.os, hg2.tape, hg2.output, hz2, fun x h1 h2 => blk x (fun e => h2 i hlt (by rw [Hv.out, e]; rfl))⟩)
        clear hm2 hf2 hg2 hz2 blk hoth hgi HS1 HM1 Hid1 HT1 Hf
        go_wp2_with fail
        go_roundw
        case rel => exact ⟨i + 1, by omega, by rw [Hk1.out], by simp, M2, S2, T2⟩
        case measure => simp [intOf]; omega
    · have hge : (ms.length : Int) ≤ (i : Int) := by omega
      have hend : decide (i < ms.length) = false := decide_eq_false hlt
      obtain rfl : i = ms.length := by omega
      go_wp2_with fail
      go_ret
      exact ⟨rfl, hm.out, hs.out, ht.out⟩
theorem markM_nil (k : Int) (w : World) : Calls Tryz.prog 57 #[.slice none 0 0, .int .i64 k] w fun e w' => e = .returned (.int .i64 k) ∧ w = w' := by
  go_enter Tryz.func57, Tryz.ntmps57
  go_wp2_with fail
  refine wp_loop_rounds 1 ?_
  rw [rounds_succ]
  go_wp2_with fail
  go_ret
  exact ⟨rfl, rfl⟩
theorem markRaw_any {lo hi : Nat} (v : Value) (ms : List OM) (k : Int) (w : World) (ho : OwnIn w lo hi v ms) (hw : hi ≤ w.heap.size) (h6 : ms.length ≤ 1048576) (hl : ∀ m ∈ ms, m.2.2.length ≤ 1048576) (hk : 0 ≤ k ∧ k ≤ 1000000) :
    Calls Tryz.prog 27 #[.agg #[v], .int .i64 k] w fun e w' => e = .returned (.int .i64 (kAt k ms ms.length)) ∧ MarkedIn w' lo hi v k ms ∧ Zone lo hi w w' := by
  rcases ho.form with ⟨rfl, rfl⟩ | ⟨gv, cap, rfl, hs0⟩
  · go_enter Tryz.func27, Tryz.ntmps27
    go_wp2_with fail
    refine (markM_nil _ _).mono ?_
    rintro e w1 ⟨rfl, rfl⟩
    go_wp2_with fail
    go_ret
    exact ⟨by simp [kAt], ⟨fun b hb => (by cases hb), fun j hj => (by simp at hj), .inl ⟨rfl, rfl⟩⟩, .of_below ((Below.refl _ _).alloc (Nat.le_refl _) _)⟩
  · have hz : Zone w.heap.size w.heap.size w (w.alloc (.cells #[.slice (some ⟨gv, 0, none⟩) ms.length cap] 26)) := .of_below ((Below.refl _ _).alloc (Nat.le_refl _) _)
    have hs1 : Shp (w.alloc (.cells #[.slice (some ⟨gv, 0, none⟩) ms.length cap] 26)) gv ms :=
      hs0.zone (lo := lo) (hi := hi) hz (.inl hs0.row.1) fun j hj b hb => by have := ho.sub j hj b hb; omega
    have HS1 := Lib.hid hs1
    have Ho := Lib.hid ho
    clear hs1 ho hs0
    go_enter Tryz.func27, Tryz.ntmps27
    go_wp2_with fail
    refine (markM_any gv cap ms k _ HS1.out h6 hl hk).mono ?_
    rintro e w1 ⟨rfl, hm, hs, ht⟩
    have Hm := Lib.hid hm
    have Hs := Lib.hid hs
    have Ht := Lib.hid ht
    clear hm hs ht
    go_wp2_with fail
    go_ret
    refine ⟨rfl, ⟨Ho.out.top, Ho.out.sub, .inr ⟨gv, cap, rfl, Hm.out, Hs.out⟩⟩, ?_⟩
    obtain ⟨t1, t2, t3, t4, t5⟩ := Ht.out
    have hb := (Below.refl w.heap.size w).alloc (Nat.le_refl _) (.cells #[.slice (some ⟨gv, 0, none⟩) ms.length cap] 26)
    have htop := Ho.out.top gv rfl
    exact ⟨t1.trans hb.os, t2.trans hb.tape, t3.trans hb.output, by rw [t4]; exact hb.size, fun b hb1 h1 => (t5 b (by omega) (fun j hj e => by have := Ho.out.sub j hj b e; omega)).trans (hb.block b hb1)⟩
end Go.Proofs.YthjnpipincpkgaaGreatDoor.Num

/-
  The walks of the laws' markRaw and heldRaw: a description of the call's own marked cell by cell, and found so again; no other block is written.
-/
namespace Go.Proofs.YthjnpipincpkgaaGreatDoor.Num.Sch
open Go.RowKit Go.Proofs
set_option linter.unusedVariables false
set_option linter.unusedSimpArgs false

set_option maxHeartbeats 4000000 in
theorem markF_any (g n cap : Nat) (k : Int) (w : World) (hf : Fill w g (n * 5)) (hn : n ≤ 1048576) (hk : 0 ≤ k ∧ k ≤ 1000000000000000) :
    Calls Tryz.prog 85 #[.slice (some ⟨g, 0, none⟩) n cap, .int .i64 k] w fun e w' => e = .returned (.int .i64 (k + 5 * (n : Int))) ∧ Marked w' g k (n * 5) ∧ Fill w' g (n * 5) ∧ w.grownBy w' (some g) ∧ w'.heap.size = w.heap.size := by
  have HF := Lib.hid hf
  clear hf
  go_enter Tryz.func85, Tryz.ntmps85
  go_wp2_with fail
  go_loopw [1, 5] (fun kk ii wr => ∃ i : Nat, i ≤ n ∧ kk = .int .i64 (k + 5 * (i : Int)) ∧ ii = .int .i64 i ∧ Hid (Marked wr g k (i * 5)) ∧ Hid (Fill wr g (n * 5)) ∧ Hid (w.grownBy wr (some g)) ∧ wr.heap.size = w.heap.size) (fun _ ii _ => n - (intOf ii).toNat)
  case atStart => exact ⟨0, by omega, by simp, rfl, Lib.hid fun j hj => by omega, HF, Lib.hid ⟨rfl, rfl, rfl, Nat.le_refl _, fun _ _ _ => rfl⟩, rfl⟩
  case round =>
    obtain ⟨i, hi, rfl, rfl, hm, hf, hg, hz⟩ := hrel
    by_cases hlt : i < n
    · have hlti : (i : Int) < (n : Int) := by omega
      obtain ⟨v0, a0, b0⟩ := hf.out.cell (j := i * 5) (by omega)
      obtain ⟨v1, a1, b1⟩ := hf.out.cell (j := i * 5 + 1) (by omega)
      obtain ⟨v2, a2, b2⟩ := hf.out.cell (j := i * 5 + 2) (by omega)
      obtain ⟨v3, a3, b3⟩ := hf.out.cell (j := i * 5 + 3) (by omega)
      obtain ⟨v4, a4, b4⟩ := hf.out.cell (j := i * 5 + 4) (by omega)
      have w1 : IntKind.i64.wrap (k + 5 * (i : Int) + 1) = k + 5 * (i : Int) + 1 := IntWalk.i64_in _ (by omega)
      have w2 : IntKind.i64.wrap (k + 5 * (i : Int) + 1 + 1) = k + 5 * (i : Int) + 1 + 1 := IntWalk.i64_in _ (by omega)
      have w3 : IntKind.i64.wrap (k + 5 * (i : Int) + 1 + 1 + 1) = k + 5 * (i : Int) + 1 + 1 + 1 := IntWalk.i64_in _ (by omega)
      have w4 : IntKind.i64.wrap (k + 5 * (i : Int) + 1 + 1 + 1 + 1) = k + 5 * (i : Int) + 1 + 1 + 1 + 1 := IntWalk.i64_in _ (by omega)
      have w5 : IntKind.i64.wrap (k + 5 * (i : Int) + 1 + 1 + 1 + 1 + 1) = k + 5 * (i : Int) + 1 + 1 + 1 + 1 + 1 := IntWalk.i64_in _ (by omega)
      have F0 := hf.out
      have F1 := F0.set (i * 5) (markAt k (i * 5))
      have F2 := F1.set (i * 5 + 1) (markAt k (i * 5 + 1))
      have F3 := F2.set (i * 5 + 2) (markAt k (i * 5 + 2))
      have F4 := F3.set (i * 5 + 3) (markAt k (i * 5 + 3))
      have F5 := Lib.hid (F4.set (i * 5 + 4) (markAt k (i * 5 + 4)))
      have M5 := Lib.hid (((((hm.out.set (F0.2 _ (by omega)).1).set (F1.2 _ (by omega)).1).set (F2.2 _ (by omega)).1).set (F3.2 _ (by omega)).1).set (F4.2 _ (by omega)).1)
      have G5 : Hid (w.grownBy (((((wr.setCell ⟨g, i * 5, none⟩ (markAt k (i * 5))).setCell ⟨g, i * 5 + 1, none⟩ (markAt k (i * 5 + 1))).setCell ⟨g, i * 5 + 2, none⟩ (markAt k (i * 5 + 2))).setCell ⟨g, i * 5 + 3, none⟩ (markAt k (i * 5 + 3))).setCell ⟨g, i * 5 + 4, none⟩ (markAt k (i * 5 + 4))) (some g)) := Lib.hid (Only.setCell (Only.setCell (Only.setCell (Only.setCell (Only.setCell hg.out _ _) _ _) _ _) _ _) _ _)
      rw [mark0, mark1, mark2, mark3, mark4] at F5 M5 G5
      clear F0 F1 F2 F3 F4
      go_wp2_with fail
      refine ⟨⟨i + 1, by omega, by congr 1; push_cast; omega, by simp, ?_, F5, G5, by simpa [World.setCell] using hz⟩, by simp [intOf]; omega⟩
      rw [show (i + 1) * 5 = i * 5 + 4 + 1 by omega]
      exact M5
    · have hge : (n : Int) ≤ (i : Int) := by omega
      have hend : decide (i < n) = false := decide_eq_false hlt
      obtain rfl : i = n := by omega
      go_wp2_with fail
      go_ret
      exact ⟨rfl, hm.out, hf.out, hg.out, hz⟩
set_option maxHeartbeats 4000000 in
theorem heldF_any (g n cap : Nat) (k : Int) (w : World) (hm : Marked w g k (n * 5)) (hn : n ≤ 1048576) (hk : 0 ≤ k ∧ k ≤ 1000000000000000) :
    Calls Tryz.prog 86 #[.slice (some ⟨g, 0, none⟩) n cap, .int .i64 k] w fun e w' => e = .returned (.int .i64 (k + 5 * (n : Int))) ∧ w = w' := by
  have HM := Lib.hid hm
  clear hm
  go_enter Tryz.func86, Tryz.ntmps86
  go_wp2_with fail
  go_loopw [1, 5] (fun kk ii wr => ∃ i : Nat, i ≤ n ∧ kk = .int .i64 (k + 5 * (i : Int)) ∧ ii = .int .i64 i ∧ w = wr) (fun _ ii _ => n - (intOf ii).toNat)
  case atStart => exact ⟨0, by omega, by simp, rfl, rfl⟩
  case round =>
    obtain ⟨i, hi, rfl, rfl, rfl⟩ := hrel
    by_cases hlt : i < n
    · have hlti : (i : Int) < (n : Int) := by omega
      have a0 := HM.out (i * 5) (by omega)
      have a1 := HM.out (i * 5 + 1) (by omega)
      have a2 := HM.out (i * 5 + 2) (by omega)
      have a3 := HM.out (i * 5 + 3) (by omega)
      have a4 := HM.out (i * 5 + 4) (by omega)
      rw [mark0] at a0
      rw [mark1] at a1
      rw [mark2] at a2
      rw [mark3] at a3
      rw [mark4] at a4
      have w1 : IntKind.i64.wrap (k + 5 * (i : Int) + 1) = k + 5 * (i : Int) + 1 := IntWalk.i64_in _ (by omega)
      have w2 : IntKind.i64.wrap (k + 5 * (i : Int) + 1 + 1) = k + 5 * (i : Int) + 1 + 1 := IntWalk.i64_in _ (by omega)
      have w3 : IntKind.i64.wrap (k + 5 * (i : Int) + 1 + 1 + 1) = k + 5 * (i : Int) + 1 + 1 + 1 := IntWalk.i64_in _ (by omega)
      have w4 : IntKind.i64.wrap (k + 5 * (i : Int) + 1 + 1 + 1 + 1) = k + 5 * (i : Int) + 1 + 1 + 1 + 1 := IntWalk.i64_in _ (by omega)
      have w5 : IntKind.i64.wrap (k + 5 * (i : Int) + 1 + 1 + 1 + 1 + 1) = k + 5 * (i : Int) + 1 + 1 + 1 + 1 + 1 := IntWalk.i64_in _ (by omega)
      have q2 : (((k + 5 * (i : Int) + 1 + 1) % 3 == 0) != ((k + 5 * (i : Int) + 1 + 1) % 3 == 0)) = false := by simp
      have q3 : (((k + 5 * (i : Int) + 1 + 1 + 1) % 3 == 0) != ((k + 5 * (i : Int) + 1 + 1 + 1) % 3 == 0)) = false := by simp
      go_wp2_with fail
      go_roundw
      case rel => exact ⟨i + 1, by omega, by congr 1; push_cast; omega, by simp, by trivial⟩
      case measure => simp [intOf]; omega
    · have hge : (n : Int) ≤ (i : Int) := by omega
      have hend : decide (i < n) = false := decide_eq_false hlt
      obtain rfl : i = n := by omega
      go_wp2_with fail
      go_ret
      exact ⟨rfl, rfl⟩
/-- A nil row. -/
theorem markF_nil (k : Int) (w : World) : Calls Tryz.prog 85 #[.slice none 0 0, .int .i64 k] w fun e w' => e = .returned (.int .i64 k) ∧ w = w' := by
  go_enter Tryz.func85, Tryz.ntmps85
  go_wp2_with fail
  refine wp_loop_rounds 1 ?_
  rw [rounds_succ]
  go_wp2_with fail
  go_ret
  exact ⟨rfl, rfl⟩
theorem heldF_nil (k : Int) (w : World) : Calls Tryz.prog 86 #[.slice none 0 0, .int .i64 k] w fun e w' => e = .returned (.int .i64 k) ∧ w = w' := by
  go_enter Tryz.func86, Tryz.ntmps86
  go_wp2_with fail
  refine wp_loop_rounds 1 ?_
  rw [rounds_succ]
  go_wp2_with fail
  go_ret
  exact ⟨rfl, rfl⟩
set_option maxHeartbeats 4000000 in
theorem markM_any (gv cap : Nat) (ms : List OM) (k : Int) (w : World) (hs : Shp w gv ms) (h6 : ms.length ≤ 1048576) (hl : ∀ m ∈ ms, m.2.2.length ≤ 1048576) (hk : 0 ≤ k ∧ k ≤ 1000000) :
    Calls Tryz.prog 58 #[.slice (some ⟨gv, 0, none⟩) ms.length cap, .int .i64 k] w fun e w' => e = .returned (.int .i64 (kAt k ms ms.length)) ∧ MarkM w' gv k ms ms.length ∧ Shp w' gv ms ∧ Touch gv ms w w' := by
  have HS := Lib.hid hs
  have HL := Lib.hid hl
  clear hs hl
  go_enter Tryz.func58, Tryz.ntmps58
  go_wp2_with fail
  go_loopw [1, 5] (fun kk ii wr => ∃ i : Nat, i ≤ ms.length ∧ kk = .int .i64 (kAt k ms i) ∧ ii = .int .i64 i ∧ Hid (MarkM wr gv k ms i) ∧ Hid (Shp wr gv ms) ∧ Hid (Touch gv ms w wr)) (fun _ ii _ => ms.length - (intOf ii).toNat)
  case atStart => exact ⟨0, by omega, by rw [kAt_zero], rfl, Lib.hid fun j _ hj => by omega, HS, Lib.hid (Touch.refl _ _ _)⟩
  case round =>
    obtain ⟨i, hi, rfl, rfl, hm, hs, ht⟩ := hrel
    by_cases hlt : i < ms.length
    · have hlti : (i : Int) < (ms.length : Int) := by omega
      have hb := kAt_le (k := k) HL.out i hi
      have hlf := HL.out _ (List.getElem_mem hlt)
      have hks := kAt_succ (k := k) hlt
      obtain ⟨⟨v0, a0⟩, b0⟩ := hs.out.row.2 (i * 2) (by omega)
      have a1 := hs.out.vals i hlt
      have hgv := hs.out.row.1
      have w1 : IntKind.i64.wrap (kAt k ms i + 1) = kAt k ms i + 1 := IntWalk.i64_in _ (by omega)
      -- the world behind the Id's mark
      have hblk : ∀ x, x ≠ gv → (wr.setCell ⟨gv, i * 2, none⟩ (.int .i64 (kAt k ms i))).heap[x]? = wr.heap[x]? := fun x hx => by
        have := Below.heap_setCell wr ⟨gv, i * 2, none⟩ (.int .i64 (kAt k ms i)) x (by intro e; exact hx e)
        exact this
      have hsz : (wr.setCell ⟨gv, i * 2, none⟩ (.int .i64 (kAt k ms i))).heap.size = wr.heap.size := by simp [World.setCell]
      have hs1 : Shp (wr.setCell ⟨gv, i * 2, none⟩ (.int .i64 (kAt k ms i))) gv ms := ⟨hs.out.row.set _ _, fun j hj => by
          rw [World.cell?_setCell_other _ _ _ _ (by intro e; injection e with _ e; omega)]; exact hs.out.vals j hj, fun j hj => by
          rcases hs.out.flds j hj with h | ⟨g, c, h1, h2, h3⟩
          · exact .inl h
          · exact .inr ⟨g, c, h1, h2, h3.block (hblk g h2) hsz⟩, hs.out.each⟩
      have hm1 : MarkM (wr.setCell ⟨gv, i * 2, none⟩ (.int .i64 (kAt k ms i))) gv k ms i := fun j hj hji => by
        obtain ⟨h1, h2⟩ := hm.out j hj hji
        refine ⟨by rw [World.cell?_setCell_other _ _ _ _ (by intro e; injection e with _ e; omega)]; exact h1, fun g c hg => ?_⟩
        rcases hs.out.flds j hj with ⟨h, _⟩ | ⟨g', c', h3, h4, _⟩
        · rw [h] at hg; cases hg
        · rw [h3] at hg
          obtain rfl : g' = g := by injection hg with e; injection e with e; injection e
          exact (h2 _ _ h3).block (hblk _ h4)
      have hid : (wr.setCell ⟨gv, i * 2, none⟩ (.int .i64 (kAt k ms i))).cell? ⟨gv, i * 2, none⟩ = some (.int .i64 (kAt k ms i)) := World.cell?_setCell_same _ _ _ a0
      have ht1 : Touch gv ms w (wr.setCell ⟨gv, i * 2, none⟩ (.int .i64 (kAt k ms i))) := ht.out.trans ⟨rfl, rfl, rfl, hsz, fun x h1 _ => hblk x h1⟩
      have HS1 := Lib.hid hs1
      have HM1 := Lib.hid hm1
      have Hid1 := Lib.hid hid
      have HT1 := Lib.hid ht1
      have hap := Lib.hid fun j hj hne => (hs.out.each j i hj hlt hne)
      clear hs1 hm1 hid ht1 hblk hsz
      rcases hs.out.flds i hlt with ⟨hv, hn⟩ | ⟨g, c, hv, hgne, hfill⟩
      · rw [hv] at a1
        have hk1 : kAt k ms (i + 1) = kAt k ms i + 1 := by rw [hks, hn]; simp
        have Hk1 := Lib.hid hk1
        have Hv := Lib.hid hv
        clear hv hn hks hs hm ht hk1
        go_wp2_with fail
        refine (markF_nil _ _).mono ?_
        rintro e w2 ⟨rfl, rfl⟩
        go_wp2_with fail
        go_roundw
        case rel =>
          refine ⟨i + 1, by omega, by rw [Hk1.out], by simp, Lib.hid fun j hj hji => ?_, HS1, HT1⟩
          by_cases e : j = i
          · subst e; exact ⟨Hid1.out, fun g c hg => by rw [Hv.out] at hg; cases hg⟩
          · exact HM1.out j hj (by omega)
        case measure => simp [intOf]; omega
      · rw [hv] at a1
        have Hk1 : Hid (kAt k ms (i + 1) = kAt k ms i + 1 + 5 * (ms[i].2.2.length : Int)) := Lib.hid (by rw [hks]; omega)
        have Hv := Lib.hid hv
        have Hf : Hid (Fill (wr.setCell ⟨gv, i * 2, none⟩ (.int .i64 (kAt k ms i))) g (ms[i].2.2.length * 5)) := Lib.hid (by
          rcases HS1.out.flds i hlt with ⟨h, _⟩ | ⟨g', c', h3, _, h5⟩
          · rw [h] at hv; cases hv
          · rw [h3] at hv
            obtain rfl : g' = g := by injection hv with e; injection e with e; injection e
            exact h5)
        generalize hnn : ms[i].2.2.length = n at a1 hlf Hk1 Hf
        have Hnn := Lib.hid hnn
        clear hv hks hs hm ht hfill hnn
        go_wp2_with fail
        refine (markF_any g n c _ _ Hf.out hlf (by omega)).mono ?_
        rintro e w2 ⟨rfl, hm2, hf2, hg2, hz2⟩
        generalize wr.setCell ⟨gv, i * 2, none⟩ (.int .i64 (kAt k ms i)) = wq at HS1 HM1 Hid1 HT1 Hf hg2 hz2
        have blk : ∀ x, x ≠ g → w2.heap[x]? = wq.heap[x]? := fun x hx => by
          rcases Nat.lt_or_ge x wq.heap.size with h | h
          · exact grown_cell hg2 h hx
          · rw [Array.getElem?_eq_none h, Array.getElem?_eq_none (by omega)]
        have hoth : ∀ j (hj : j < ms.length), j ≠ i → ∀ g' c', ms[j].2.1 = .slice (some ⟨g', 0, none⟩) ms[j].2.2.length c' → g' ≠ g := fun j hj hne g' c' h e => by
          subst e
          rcases hap.out j hj hne with h1 | h1
          · rw [h] at h1; cases h1
          · rw [h, Hv.out] at h1; exact h1 rfl
        have hgi : ∀ g' c', ms[i].2.1 = .slice (some ⟨g', 0, none⟩) ms[i].2.2.length c' → g' = g := fun g' c' h => by
          rw [Hv.out] at h; injection h with e; injection e with e; injection e with e; exact e.symm
        have S2 : Hid (Shp w2 gv ms) := Lib.hid ⟨HS1.out.row.block (blk gv (Ne.symm hgne)) hz2, fun j hj => (World.cell?_of_block (a := ⟨gv, j * 2 + 1, none⟩) (blk gv (Ne.symm hgne))).trans (HS1.out.vals j hj), fun j hj => by
          by_cases e : j = i
          · subst e; exact .inr ⟨g, c, Hv.out, hgne, by rw [Hnn.out]; exact hf2⟩
          · rcases HS1.out.flds j hj with h | ⟨g', c', h1, h2, h3⟩
            · exact .inl h
            · exact .inr ⟨g', c', h1, h2, h3.block (blk g' (hoth j hj e g' c' h1)) hz2⟩, HS1.out.each⟩
        have M2 : Hid (MarkM w2 gv k ms (i + 1)) := Lib.hid fun j hj hji => by
          by_cases e : j = i
          · subst e
            exact ⟨(World.cell?_of_block (a := ⟨gv, j * 2, none⟩) (blk gv (Ne.symm hgne))).trans Hid1.out, fun g' c' h => by obtain rfl := hgi g' c' h; rw [Hnn.out]; exact hm2⟩
          · obtain ⟨h1, h2⟩ := HM1.out j hj (by omega)
            exact ⟨(World.cell?_of_block (a := ⟨gv, j * 2, none⟩) (blk gv (Ne.symm hgne))).trans h1, fun g' c' h => (h2 g' c' h).block (blk g' (hoth j hj e g' c' h))⟩
        have T2 : Hid (Touch gv ms w w2) := Lib.hid (HT1.out.trans ⟨hg2.os, hg2.tape, hg2.output, hz2, fun x h1 h2 => blk x (fun e => h2 i hlt (by rw [Hv.out, e]; rfl))⟩)
        clear hm2 hf2 hg2 hz2 blk hoth hgi HS1 HM1 Hid1 HT1 Hf
        go_wp2_with fail
        go_roundw
        case rel => exact ⟨i + 1, by omega, by rw [Hk1.out], by simp, M2, S2, T2⟩
        case measure => simp [intOf]; omega
    · have hge : (ms.length : Int) ≤ (i : Int) := by omega
      have hend : decide (i < ms.length) = false := decide_eq_false hlt
      obtain rfl : i = ms.length := by omega
      go_wp2_with fail
      go_ret
      exact ⟨rfl, hm.out, hs.out, ht.out⟩
set_option maxHeartbeats 4000000 in
theorem heldM_any (gv cap : Nat) (ms : List OM) (k : Int) (w : World) (hm : MarkM w gv k ms ms.length) (hs : Shp w gv ms) (h6 : ms.length ≤ 1048576) (hl : ∀ m ∈ ms, m.2.2.length ≤ 1048576) (hk : 0 ≤ k ∧ k ≤ 1000000) :
    Calls Tryz.prog 59 #[.slice (some ⟨gv, 0, none⟩) ms.length cap, .int .i64 k] w fun e w' => e = .returned (.int .i64 (kAt k ms ms.length)) ∧ w = w' := by
  have HS := Lib.hid hs
  have HM := Lib.hid hm
  have HL := Lib.hid hl
  clear hs hl hm
  go_enter Tryz.func59, Tryz.ntmps59
  go_wp2_with fail
  go_loopw [1, 5] (fun kk ii wr => ∃ i : Nat, i ≤ ms.length ∧ kk = .int .i64 (kAt k ms i) ∧ ii = .int .i64 i ∧ w = wr) (fun _ ii _ => ms.length - (intOf ii).toNat)
  case atStart => exact ⟨0, by omega, by rw [kAt_zero], rfl, rfl⟩
  case round =>
    obtain ⟨i, hi, rfl, rfl, rfl⟩ := hrel
    by_cases hlt : i < ms.length
    · have hlti : (i : Int) < (ms.length : Int) := by omega
      have hb := kAt_le (k := k) HL.out i hi
      have hlf := HL.out _ (List.getElem_mem hlt)
      have hks := kAt_succ (k := k) hlt
      obtain ⟨a0, hmf⟩ := HM.out i hlt hlt
      have a1 := HS.out.vals i hlt
      have hgv := HS.out.row.1
      have w1 : IntKind.i64.wrap (kAt k ms i + 1) = kAt k ms i + 1 := IntWalk.i64_in _ (by omega)
      rcases HS.out.flds i hlt with ⟨hv, hn⟩ | ⟨g, c, hv, hgne, hfill⟩
      · rw [hv] at a1
        have Hk1 : Hid (kAt k ms (i + 1) = kAt k ms i + 1) := Lib.hid (by rw [hks, hn]; simp)
        have hneg : decide (kAt k ms i + 1 < 0) = false := decide_eq_false (by omega)
        clear hv hn hks hmf
        go_wp2_with fail
        refine (heldF_nil _ _).mono ?_
        rintro e w2 ⟨rfl, rfl⟩
        go_wp2_with fail
        go_roundw
        case rel => exact ⟨i + 1, by omega, by rw [Hk1.out], by simp, by trivial⟩
        case measure => simp [intOf]; omega
      · have hmk := Lib.hid (hmf g c hv)
        rw [hv] at a1
        have Hk1 : Hid (kAt k ms (i + 1) = kAt k ms i + 1 + 5 * (ms[i].2.2.length : Int)) := Lib.hid (by rw [hks]; omega)
        have hneg : decide (kAt k ms i + 1 + 5 * (ms[i].2.2.length : Int) < 0) = false := decide_eq_false (by omega)
        generalize ms[i].2.2.length = n at a1 hlf Hk1 hmk hneg
        clear hv hks hmf hfill
        go_wp2_with fail
        refine (heldF_any g n c _ _ hmk.out hlf (by omega)).mono ?_
        rintro e w2 ⟨rfl, rfl⟩
        go_wp2_with fail
        go_roundw
        case rel => exact ⟨i + 1, by omega, by rw [Hk1.out], by simp, by trivial⟩
        case measure => simp [intOf]; omega
    · have hge : (ms.length : Int) ≤ (i : Int) := by omega
      have hend : decide (i < ms.length) = false := decide_eq_false hlt
      obtain rfl : i = ms.length := by omega
      go_wp2_with fail
      go_ret
      exact ⟨rfl, rfl⟩
theorem markM_nil (k : Int) (w : World) : Calls Tryz.prog 58 #[.slice none 0 0, .int .i64 k] w fun e w' => e = .returned (.int .i64 k) ∧ w = w' := by
  go_enter Tryz.func58, Tryz.ntmps58
  go_wp2_with fail
  refine wp_loop_rounds 1 ?_
  rw [rounds_succ]
  go_wp2_with fail
  go_ret
  exact ⟨rfl, rfl⟩
theorem heldM_nil (k : Int) (w : World) : Calls Tryz.prog 59 #[.slice none 0 0, .int .i64 k] w fun e w' => e = .returned (.int .i64 k) ∧ w = w' := by
  go_enter Tryz.func59, Tryz.ntmps59
  go_wp2_with fail
  refine wp_loop_rounds 1 ?_
  rw [rounds_succ]
  go_wp2_with fail
  go_ret
  exact ⟨rfl, rfl⟩
theorem markRaw_any {lo hi : Nat} (v : Value) (ms : List OM) (k : Int) (w : World) (ho : OwnIn w lo hi v ms) (hw : hi ≤ w.heap.size) (h6 : ms.length ≤ 1048576) (hl : ∀ m ∈ ms, m.2.2.length ≤ 1048576) (hk : 0 ≤ k ∧ k ≤ 1000000) :
    Calls Tryz.prog 28 #[.agg #[v], .int .i64 k] w fun e w' => e = .returned (.int .i64 (kAt k ms ms.length)) ∧ MarkedIn w' lo hi v k ms ∧ Zone lo hi w w' := by
  rcases ho.form with ⟨rfl, rfl⟩ | ⟨gv, cap, rfl, hs0⟩
  · go_enter Tryz.func28, Tryz.ntmps28
    go_wp2_with fail
    refine (markM_nil _ _).mono ?_
    rintro e w1 ⟨rfl, rfl⟩
    go_wp2_with fail
    go_ret
    exact ⟨by simp [kAt], ⟨fun b hb => (by cases hb), fun j hj => (by simp at hj), .inl ⟨rfl, rfl⟩⟩, .of_below ((Below.refl _ _).alloc (Nat.le_refl _) _)⟩
  · have hz : Zone w.heap.size w.heap.size w (w.alloc (.cells #[.slice (some ⟨gv, 0, none⟩) ms.length cap] 30)) := .of_below ((Below.refl _ _).alloc (Nat.le_refl _) _)
    have hs1 : Shp (w.alloc (.cells #[.slice (some ⟨gv, 0, none⟩) ms.length cap] 30)) gv ms :=
      hs0.zone (lo := lo) (hi := hi) hz (.inl hs0.row.1) fun j hj b hb => by have := ho.sub j hj b hb; omega
    have HS1 := Lib.hid hs1
    have Ho := Lib.hid ho
    clear hs1 ho hs0
    go_enter Tryz.func28, Tryz.ntmps28
    go_wp2_with fail
    refine (markM_any gv cap ms k _ HS1.out h6 hl hk).mono ?_
    rintro e w1 ⟨rfl, hm, hs, ht⟩
    have Hm := Lib.hid hm
    have Hs := Lib.hid hs
    have Ht := Lib.hid ht
    clear hm hs ht
    go_wp2_with fail
    go_ret
    refine ⟨rfl, ⟨Ho.out.top, Ho.out.sub, .inr ⟨gv, cap, rfl, Hm.out, Hs.out⟩⟩, ?_⟩
    obtain ⟨t1, t2, t3, t4, t5⟩ := Ht.out
    have hb := (Below.refl w.heap.size w).alloc (Nat.le_refl _) (.cells #[.slice (some ⟨gv, 0, none⟩) ms.length cap] 30)
    have htop := Ho.out.top gv rfl
    exact ⟨t1.trans hb.os, t2.trans hb.tape, t3.trans hb.output, by rw [t4]; exact hb.size, fun b hb1 h1 => (t5 b (by omega) (fun j hj e => by have := Ho.out.sub j hj b e; omega)).trans (hb.block b hb1)⟩
theorem heldRaw_any {lo hi : Nat} (v : Value) (ms : List OM) (k : Int) (w : World) (hmi : MarkedIn w lo hi v k ms) (hw : hi ≤ w.heap.size) (h6 : ms.length ≤ 1048576) (hl : ∀ m ∈ ms, m.2.2.length ≤ 1048576) (hk : 0 ≤ k ∧ k ≤ 1000000) :
    Calls Tryz.prog 29 #[.agg #[v], .int .i64 k] w fun e w' => e = .returned (.int .i64 (kAt k ms ms.length)) ∧ Below w.heap.size w w' := by
  have hm := hmi.marked
  have hf : ∀ j (h : j < ms.length) b, ms[j].2.1.ownBlock = some b → b < w.heap.size := fun j hj b hb => by have := hmi.sub j hj b hb; omega
  clear hmi
  have hb := kAt_le (k := k) hl ms.length (Nat.le_refl _)
  have hneg : decide (kAt k ms ms.length < 0) = false := decide_eq_false (by omega)
  rcases hm with ⟨rfl, rfl⟩ | ⟨gv, cap, rfl, hm, hs⟩
  · have hneg2 : decide (k < 0) = false := decide_eq_false (by omega)
    go_enter Tryz.func29, Tryz.ntmps29
    go_wp2_with fail
    refine (heldM_nil _ _).mono ?_
    rintro e w1 ⟨rfl, rfl⟩
    go_wp2_with fail
    go_ret
    exact ⟨by simp [kAt], (Below.refl _ _).alloc (Nat.le_refl _) _⟩
  · have hbw : Below w.heap.size w (w.alloc (.cells #[.slice (some ⟨gv, 0, none⟩) ms.length cap] 30)) := (Below.refl _ _).alloc (Nat.le_refl _) _
    have hgv := hs.row.1
    have hs1 : Hid (Shp (w.alloc (.cells #[.slice (some ⟨gv, 0, none⟩) ms.length cap] 30)) gv ms) := Lib.hid ⟨hs.row.below hbw hgv, fun j hj => (hbw.cell (p := ⟨gv, _, none⟩) hgv).trans (hs.vals j hj), fun j hj => by
      rcases hs.flds j hj with h | ⟨g, c, h1, h2, h3⟩
      · exact .inl h
      · exact .inr ⟨g, c, h1, h2, h3.below hbw h3.1⟩, hs.each⟩
    have hm1 : Hid (MarkM (w.alloc (.cells #[.slice (some ⟨gv, 0, none⟩) ms.length cap] 30)) gv k ms ms.length) := Lib.hid fun j hj hji => by
      obtain ⟨h1, h2⟩ := hm j hj hji
      exact ⟨(hbw.cell (p := ⟨gv, _, none⟩) hgv).trans h1, fun g c hg => (h2 g c hg).block (hbw.block g (hf j hj g (by rw [hg]; rfl)))⟩
    clear hm hs hb hf
    go_enter Tryz.func29, Tryz.ntmps29
    go_wp2_with fail
    refine (heldM_any gv cap ms k _ hm1.out hs1.out h6 hl hk).mono ?_
    rintro e w1 ⟨rfl, rfl⟩
    go_wp2_with fail
    go_ret
    exact ⟨rfl, hbw⟩
end Go.Proofs.YthjnpipincpkgaaGreatDoor.Num.Sch

/-
  Data that came in, opened: a slice of structs as a row of known cells; a struct of one-cell fields field by field. For any program.
-/
namespace Go.Proofs.YthjnpipincpkgaaGreatDoor.Num
open Go.RowKit Go.Proofs Go.ChangeShapes Go.WideShapes Go.Deep
set_option linter.unusedVariables false

theorem exists_list {α : Type} {Q : Nat → α → Prop} : ∀ n, (∀ i, i < n → ∃ x, Q i x) → ∃ l : List α, l.length = n ∧ ∀ i (h : i < l.length), Q i l[i]
  | 0, _ => ⟨[], rfl, fun i h => by simp at h⟩
  | n + 1, h => by
    obtain ⟨l, hl, hq⟩ := exists_list n fun i hi => h i (by omega)
    obtain ⟨x, hx⟩ := h n (by omega)
    refine ⟨l ++ [x], by simp [hl], fun i hi => ?_⟩
    by_cases e : i < l.length
    · rw [List.getElem_append_left e]; exact hq i e
    · have hi2 : i < l.length + 1 := by simpa using hi
      obtain rfl : i = l.length := by omega
      rw [List.getElem_append_right (by omega)]
      simp only [Nat.sub_self, List.getElem_cons_zero]
      rw [hl]; exact hx
theorem add_none (b o n : Nat) : (⟨b, o, none⟩ : Addr).add n = ⟨b, o + n, none⟩ := by
  unfold Addr.add
  split
  · next h => subst h; rfl
  · rfl
theorem cell_lt {w : World} {p : Addr} {v : Value} (h : w.cell? p = some v) : p.block < w.heap.size := by
  rcases Nat.lt_or_ge p.block w.heap.size with hlt | hge
  · exact hlt
  · unfold World.cell? at h
    rw [Array.getElem?_eq_none hge] at h
    simp at h
section
variable {H : Type} {enc : TypeId × Value → H} {P : Program} {w : World} {base : Nat} {spare : Nat → Bool} {held : Bool}
/-- A struct of one-cell fields: each field's cell by itself. -/
theorem open_fields {t : TypeId} {fs : Array Field} {fuel : Nat} {cs : List Value} {x : DataW H × List MemPlace} (hs : P.underlying t = some (.struct fs)) (hone : oneCellFields P fs = true) (hC : P.cellsOf t = fs.size)
    (h : DataW.trod enc P w base spare held fuel t cs = some x) : cs.length = fs.size ∧ ∃ n, ∀ (j : Nat) (f : Field) (hf : fs[j]? = some f) (hj : j < cs.length), ∃ y, DataW.trod enc P w base spare held n f.type [cs[j]] = some y := by
  obtain ⟨xs, n, _, _, hl, hxl, hf⟩ := DataW.trod_struct hs h
  refine ⟨hl.trans hC, n, fun j f hj hlt => ?_⟩
  obtain ⟨ho, hk⟩ := hone_of hone j f hj
  have h1 := hf j f hj
  have hjl : j < fs.size := (Array.getElem?_eq_some_iff.1 hj).1
  rw [ho, hk, show (cs.drop j).take 1 = [cs[j]] by rw [List.drop_eq_getElem_cons hlt]; rfl] at h1
  rw [List.getElem?_eq_getElem (show j < xs.length by omega)] at h1
  exact ⟨_, h1⟩
/-- A slice: a row of elements of sz cells each, of which R tells what reading one of them tells. -/
theorem open_row {α : Type} {t e : TypeId} {sz fuel : Nat} {cs : List Value} {x : DataW H × List MemPlace} (ht : P.underlying t = some (.slice e)) (hsz : P.cellsOf e = sz) (hpos : 0 < sz) (R : α → List Value → Prop)
    (hR : ∀ (n : Nat) (cs' : List Value) (y : DataW H × List MemPlace), cs'.length = sz → DataW.trod enc P w base spare held n e cs' = some y → ∃ z : α, R z cs') (h : DataW.trod enc P w base spare held fuel t cs = some x) :
    ∃ (v : Value) (l : List α), cs = [v] ∧ RowAt w (· < w.heap.size) sz R v l ∧ l.length ≤ maxLen := by
  rcases open_slice ht h with ⟨hcs, _⟩ | ⟨a, len, cap, m, n, D, Pl, hcs, hb, hl, hm, hmm, hx, hi⟩
  · exact ⟨_, [], hcs, .inl ⟨rfl, none, 0, rfl⟩, by simp⟩
  · have hlm : len ≤ m := by rw [hmm]; split <;> omega
    have key : ∀ i, i < len → ∃ zc : α × List Value, R zc.1 zc.2 ∧ zc.2.length = sz ∧ ∀ j (hj : j < zc.2.length), w.cell? ((a.add (i * sz)).add j) = some zc.2[j] := by
      intro i hilt
      obtain ⟨cs', hc, ht'⟩ := hi i (by omega)
      rw [hsz] at hc
      obtain ⟨_, hcl, hat⟩ := World.cells?_some hc
      obtain ⟨z, hz⟩ := hR n cs' _ hcl ht'
      exact ⟨(z, cs'), hz, hcl, fun j hj => by rw [hat j (by rw [← hcl]; exact hj), List.getElem?_eq_getElem hj]⟩
    obtain ⟨l, hll, hq⟩ := exists_list len key
    by_cases h0 : len = 0
    · subst h0
      exact ⟨_, [], hcs, .inl ⟨rfl, some a, cap, rfl⟩, by simp⟩
    · obtain ⟨_, hz, hc0⟩ := hq 0 (by omega)
      have hfirst := hc0 0 (by omega)
      rw [Nat.zero_mul] at hfirst
      have hsp : a.spot = none := by simpa [Addr.add] using World.cell?_spot hfirst
      obtain ⟨b, o, sp⟩ := a
      simp only at hsp
      subst hsp
      have hblt := cell_lt hfirst
      rw [add_none, add_none] at hblt
      refine ⟨_, l.map (·.1), hcs, .inr ⟨b, o, cap, by rw [List.length_map, hll], ⟨by rw [List.length_map]; omega, by rw [List.length_map]; omega⟩, hblt, fun i hilt => ?_⟩, by rw [List.length_map]; omega⟩
      rw [List.length_map] at hilt
      obtain ⟨hR1, hl1, hc1⟩ := hq i hilt
      refine ⟨l[i].2, hl1, by rw [List.getElem_map]; exact hR1, fun j hj => ?_⟩
      have := hc1 j hj
      rw [add_none, add_none] at this
      rw [← Nat.add_assoc]; exact this
end
end Go.Proofs.YthjnpipincpkgaaGreatDoor.Num

/-
  A description that came in, opened: the value holds some description, in memory that was there.
-/
namespace Go.Proofs.YthjnpipincpkgaaGreatDoor.Num
open Go.RowKit Go.Proofs Go.ChangeShapes Go.WideShapes Go.Deep
set_option linter.unusedVariables false

section
variable {H : Type} {enc : TypeId × Value → H} {w : World} {base : Nat} {spare : Nat → Bool} {held : Bool}
set_option maxRecDepth 100000 in
theorem open_rawField {n : Nat} {cs : List Value} {y : DataW H × List MemPlace} (hl : cs.length = 5) (h : DataW.trod enc Tryz.prog w base spare held n 172 cs = some y) : ∃ f : RF, fieldR f cs := by
  obtain ⟨_, n', hf⟩ := open_fields Tryz.underlying172 (by kernel_rfl) (by kernel_rfl) h
  match cs, hl with
  | [c0, c1, c2, c3, c4], _ =>
    obtain ⟨y0, h0⟩ := hf 0 _ rfl (by simp)
    obtain ⟨y1, h1⟩ := hf 1 _ rfl (by simp)
    obtain ⟨y2, h2⟩ := hf 2 _ rfl (by simp)
    obtain ⟨y3, h3⟩ := hf 3 _ rfl (by simp)
    obtain ⟨y4, h4⟩ := hf 4 _ rfl (by simp)
    obtain ⟨a0, e0, _⟩ := DataW.trod_int Tryz.underlying3 h0
    obtain ⟨a1, e1, _⟩ := DataW.trod_int Tryz.underlying3 h1
    obtain ⟨a2, e2, _⟩ := DataW.trod_bool Tryz.underlying4 h2
    obtain ⟨a3, e3, _⟩ := DataW.trod_bool Tryz.underlying4 h3
    obtain ⟨a4, e4, _⟩ := DataW.trod_int Tryz.underlying3 h4
    simp at e0 e1 e2 e3 e4
    subst e0 e1 e2 e3 e4
    exact ⟨(a0, a1, a2, a3, a4), rfl⟩
set_option maxRecDepth 100000 in
theorem open_rawMsg {n : Nat} {cs : List Value} {y : DataW H × List MemPlace} (hl : cs.length = 2) (h : DataW.trod enc Tryz.prog w base spare held n 119 cs = some y) : ∃ m : RM, msgR w (· < w.heap.size) m cs ∧ m.2.length ≤ maxLen := by
  obtain ⟨_, n', hf⟩ := open_fields Tryz.underlying119 (by kernel_rfl) (by kernel_rfl) h
  match cs, hl with
  | [c0, c1], _ =>
    obtain ⟨y0, h0⟩ := hf 0 _ rfl (by simp)
    obtain ⟨y1, h1⟩ := hf 1 _ rfl (by simp)
    obtain ⟨a0, e0, _⟩ := DataW.trod_int Tryz.underlying3 h0
    obtain ⟨v, l, e1, hrow, hlen⟩ := open_row (sz := 5) (α := RF) Tryz.underlying117 (by kernel_rfl) (by omega) fieldR (fun n cs' y hl h => open_rawField hl h) h1
    simp at e0 e1
    subst e0 e1
    exact ⟨(a0, l), ⟨c1, rfl, hrow⟩, hlen⟩
set_option maxRecDepth 100000 in
theorem open_raw {r0 : Reach} {b0 : Nat} {v : Value} {d : DataW H} {p : List MemPlace} (hv : Value.okWide Tryz.prog w r0 b0 57 v) (h : DataW.Trod enc Tryz.prog w base spare held 57 v d p) :
    ∃ (y : Value) (r : List RM), v = .agg #[y] ∧ MsgsAt w (· < w.heap.size) y r ∧ inMem r := by
  obtain ⟨cs, rfl, hsz⟩ := okWide_struct Tryz.underlying57 hv
  obtain ⟨fuel, hf⟩ := h
  obtain ⟨hl, n', hfs⟩ := open_fields Tryz.underlying57 (by kernel_rfl) (by kernel_rfl) hf
  have hc : (Value.agg cs).cells = cs := rfl
  rw [hc] at hl hfs
  obtain ⟨l⟩ := cs
  simp only at hl hfs
  match l, hl with
  | [c0], _ =>
    obtain ⟨y0, h0⟩ := hfs 0 _ rfl (by simp)
    obtain ⟨v, ms, e1, hrow, hlen⟩ := open_row (sz := 2) (α := RM) Tryz.underlying55 (by kernel_rfl) (by omega) (fun m cs => msgR w (· < w.heap.size) m cs ∧ m.2.length ≤ maxLen) (fun n cs' y hl h => open_rawMsg hl h) h0
    simp at e1
    subst e1
    refine ⟨c0, ms, rfl, hrow.keep (fun _ _ _ => rfl) (fun _ h => h) fun m cs h => h.1, by unfold maxLen at hlen; omega, fun m hm => ?_⟩
    obtain ⟨i, hi, rfl⟩ := List.getElem_of_mem hm
    rcases hrow with ⟨rfl, _⟩ | ⟨b, o, cap, _, _, _, hc⟩
    · simp at hi
    · obtain ⟨_, _, ⟨_, h2⟩, _⟩ := hc i hi
      unfold maxLen at h2; omega
set_option maxRecDepth 100000 in
theorem open_field {r0 : Reach} {b0 : Nat} {v : Value} {d : DataW H} {p : List MemPlace} (hv : Value.okWide Tryz.prog w r0 b0 172 v) (h : DataW.Trod enc Tryz.prog w base spare held 172 v d p) : ∃ f : RF, v = fieldV f := by
  obtain ⟨cs, rfl, hsz⟩ := okWide_struct Tryz.underlying172 hv
  obtain ⟨fuel, hf⟩ := h
  obtain ⟨hl, _, _⟩ := open_fields Tryz.underlying172 (by kernel_rfl) (by kernel_rfl) hf
  have hc : (Value.agg cs).cells = cs := rfl
  rw [hc] at hl hf
  obtain ⟨l⟩ := cs
  obtain ⟨f, hf⟩ := open_rawField hl hf
  exact ⟨f, by unfold fieldR at hf; simp only at hf; rw [hf]; rfl⟩
end
end Go.Proofs.YthjnpipincpkgaaGreatDoor.Num
