/-
  The walks of the laws' toEvent, szEvent and eqEvent: events laid anew in new memory; what is left is not below 0 only where they are small; equal lists are told so.
-/
import Derived.Test.YteplmjlllnbiiaaEv
import Derived.Test.YteplmjlllnbiiaaZone
import Derived.OwnWalk
import Derived.LoopTactic
import Derived.Deep.RegionWith
namespace Go.Proofs.Yteplmjlllnbiiaa.Num
open Go.RowKit Go.Proofs
set_option linter.unusedVariables false
set_option linter.unusedSimpArgs false

theorem toEvent_any (e : Ev) (w : World) :
    Calls Try.prog 48 #[evV e] w fun x w' => x = .returned (evV e) ∧ Below w.heap.size w w' := by
  unfold evV
  obtain ⟨k, f, b, l, t, c, p⟩ := e
  simp only
  go_enter Try.func48, Try.ntmps48
  go_wp2_with fail
  refine bodyPost_ret (v := .agg #[.int .i64 k, .int .i64 f, .int .u64 b, .int .i64 l, .string t, .int .i64 c, .int .i64 p]) (by simp [results, Try.results48, go_sem]) rfl ⟨rfl, ?_⟩
  repeat (first | with_reducible exact Below.refl _ _ | refine Below.setCell ?_ (by simp) _ | refine Below.alloc ?_ (by simp <;> omega) _)
theorem info_event : (Try.prog.info? 31).map (fun i => (i.zero, i.size, i.bytes)) = some (some (.agg #[.int .i64 0, .int .i64 0, .int .u64 0, .int .i64 0, .string ByteArray.empty, .int .i64 0, .int .i64 0]), 7, 64) := by kernel_rfl
/-- A row of events in a block of its own, from B on. -/
def ELies (w : World) (B : Nat) (u : Value) (n : Nat) : Prop := ∃ g cap, u = .slice (some ⟨g, 0, none⟩) n cap ∧ B ≤ g ∧ n ≤ cap ∧ Fill w g (n * 7)
set_option maxHeartbeats 2000000 in
theorem toEventS_own (v : Value) (l : List Ev) (w : World) (h : EvsAt w (· < w.heap.size) v l) (hl : l.length ≤ 1048576) :
    Calls Try.prog 26 #[v] w fun e w' => e = .returned (.slice (some ⟨w.heap.size, 0, none⟩) l.length l.length) ∧ EvsAt w' (· = w.heap.size) (.slice (some ⟨w.heap.size, 0, none⟩) l.length l.length) l ∧ Fill w' w.heap.size (l.length * 7) ∧ Below w.heap.size w w' := by
  obtain ⟨i0, hi, hz0, hz1, hz2⟩ := info_parts info_event
  obtain ⟨a, cap, rfl⟩ := h.len
  have H := Lib.hid h
  clear h
  go_enter Try.func26, Try.ntmps26
  go_wp2_with (refine wpList_make_full _ rfl _ _ 24 rfl w.heap.size 31 i0 _ 7 Try.underlying24 hi hz0 hz1 .i64 .i64 _ _ l.length rfl rfl rfl rfl (by rw [hz2]; omega) (by unfold maxLen; omega) (Nat.le_refl _) ?_; intro w1 hown hgr)
  have hrow : ERow w1 w.heap.size l.length 0 l := ERow.start hown
  have hl1 : Below w.heap.size w w1 := (Below.refl _ _).grown hgr (Nat.le_refl _) (fun k hk => by cases hk)
  clear hown hgr hi hz0 hz1 hz2
  go_loopw [4] (fun i wr => ∃ k : Nat, k ≤ l.length ∧ i = .int .i64 k ∧ Hid (ERow wr w.heap.size l.length k l) ∧ Below w.heap.size w wr) (fun i _ => l.length - (intOf i).toNat)
  case atStart => exact ⟨0, by omega, rfl, Lib.hid hrow, hl1⟩
  case round =>
    obtain ⟨k, hk, rfl, hr, hbr⟩ := hrel
    by_cases hlt : k < l.length
    · have hlti : (k : Int) < (l.length : Int) := by omega
      obtain ⟨b, o, rfl, hbC, hcs⟩ := H.out.cellsAt k hlt
      obtain ⟨c0, c1, c2, c3, c4, c5, c6⟩ := hcs
      rw [← hbr.cell (p := ⟨b, _, none⟩) hbC] at c0 c1 c2 c3 c4 c5 c6
      go_wp2_with fail
      refine (toEvent_any l[k] _).mono ?_
      unfold evV
      rintro e w2 ⟨rfl, hb2⟩
      have hz := hr.out.1.1
      have hr2 := hr.out.below hb2 hz
      have hl2 := hbr.trans (hb2.mono hbr.size)
      have hput := Lib.hid (hr2.put hlt hlt)
      unfold putEv at hput
      obtain ⟨v0, v1, v2, v3, v4, v5, v6, s0, s1, s2, s3, s4, s5, s6, f0, f1, f2, f3, f4, f5, f6⟩ := hr2.1.slots7 hlt
      clear hr2 hb2 c0 c1 c2 c3 c4 c5 c6
      go_wp2_with fail
      go_roundw
      case rel =>
        refine ⟨k + 1, by omega, by go_num, hput, ?_⟩
        repeat (first | with_reducible exact hl2 | refine Below.setCell ?_ (by simp) _)
      case measure => simp [intOf]; omega
    · have hge : (l.length : Int) ≤ (k : Int) := by omega
      have hend : decide (k < l.length) = false := decide_eq_false hlt
      obtain rfl : k = l.length := by omega
      go_wp2_with fail
      go_ret
      exact ⟨rfl, hr.out.done _ (Nat.le_refl _), hr.out.1, hbr⟩
theorem toEventS_any (v : Value) (l : List Ev) (w : World) (h : EvsAt w (· < w.heap.size) v l) (hl : l.length ≤ 1048576) :
    Calls Try.prog 26 #[v] w fun e w' => ∃ a cap, e = .returned (.slice a l.length cap) ∧ EvsAt w' (· < w'.heap.size) (.slice a l.length cap) l ∧ Below w.heap.size w w' :=
  (toEventS_own v l w h hl).mono fun e w' ⟨he, hu, hf, hb⟩ => ⟨_, _, he, hu.wide fun b hb' => by subst hb'; exact hf.1, hb⟩
theorem szEvent_any (e : Ev) (left : Int) (w : World) (hn : e.text.size ≤ 9223372036854775807) (h0 : 0 ≤ left) (h1 : left ≤ 1048576) :
    Calls Try.prog 47 #[evV e, .int .i64 left] w fun x w' => x = .returned (.int .i64 (if left - (e.text.size : Int) < 0 then -1 else left - (e.text.size : Int))) ∧ Below w.heap.size w w' := by
  obtain ⟨k, f, b, l, t, c, p⟩ := e
  unfold evV
  simp only at hn ⊢
  have hw : IntKind.i64.wrap (left - (t.size : Int)) = left - (t.size : Int) := IntWalk.i64_in _ (by omega)
  by_cases hlt : left - (t.size : Int) < 0
  · rw [if_pos hlt]
    go_enter Try.func47, Try.ntmps47
    go_wp2_with fail
    go_ret
    exact ⟨rfl, (Below.refl _ _).alloc (Nat.le_refl _) _⟩
  · rw [if_neg hlt]
    have hlt2 : decide (left - (t.size : Int) < 0) = false := decide_eq_false hlt
    go_enter Try.func47, Try.ntmps47
    go_wp2_with fail
    go_ret
    exact ⟨rfl, (Below.refl _ _).alloc (Nat.le_refl _) _⟩
set_option maxHeartbeats 2000000 in
theorem szEventS_any (v : Value) (l : List Ev) (left : Int) (w : World) (h : EvsAt w (· < w.heap.size) v l) (hm : l.length ≤ 9223372036854775807) (hwf : EvsWf l) (h0 : 0 ≤ left) (h1 : left ≤ 1048576) :
    Calls Try.prog 25 #[v, .int .i64 left] w fun e w' => ∃ x : Int, e = .returned (.int .i64 x) ∧ -1 ≤ x ∧ x ≤ 1048576 ∧ (0 ≤ x → SmallE l) ∧ Below w.heap.size w w' := by
  obtain ⟨a, cap, rfl⟩ := h.len
  have H := Lib.hid h
  have Hw := Lib.hid hwf
  have hw : IntKind.i64.wrap (left - (l.length : Int)) = left - (l.length : Int) := IntWalk.i64_in _ (by omega)
  clear h hwf
  by_cases hlt : left - (l.length : Int) < 0
  · go_enter Try.func25, Try.ntmps25
    go_wp2_with fail
    go_ret
    exact ⟨-1, rfl, by omega, by omega, fun h => by omega, Below.refl _ _⟩
  · have hlt2 : decide (left - (l.length : Int) < 0) = false := decide_eq_false hlt
    have hl20 : l.length ≤ 1048576 := by omega
    go_enter Try.func25, Try.ntmps25
    go_wp2_with fail
    go_loopw [1, 5] (fun x i wr => ∃ (k : Nat) (y : Int), k ≤ l.length ∧ i = .int .i64 k ∧ x = .int .i64 y ∧ 0 ≤ y ∧ y ≤ 1048576 ∧ Hid ((textsLen (l.take k) : Int) + y ≤ 1048576) ∧ Below w.heap.size w wr) (fun _ i _ => l.length - (intOf i).toNat)
    case atStart => exact ⟨0, left - l.length, by omega, rfl, rfl, by omega, by omega, Lib.hid (by simp [textsLen_nil]; omega), Below.refl _ _⟩
    case round =>
      obtain ⟨k, y, hk, rfl, rfl, hy0, hy1, hdone, hbr⟩ := hrel
      clear hw hlt hlt2
      by_cases hlt : k < l.length
      · have hlti : (k : Int) < (l.length : Int) := by omega
        obtain ⟨b, o, rfl, hbC, hcs⟩ := H.out.cellsAt k hlt
        obtain ⟨c0, c1, c2, c3, c4, c5, c6⟩ := hcs
        rw [← hbr.cell (p := ⟨b, _, none⟩) hbC] at c0 c1 c2 c3 c4 c5 c6
        have Hy0 := Lib.hid hy0
        have Hy1 := Lib.hid hy1
        have Ht := Lib.hid (textsLen_take l k hlt)
        have Hsz := Lib.hid (Hw.out _ (List.getElem_mem hlt)).text
        go_wp2_with fail
        refine (szEvent_any l[k] y _ Hsz.out Hy0.out Hy1.out).mono ?_
        rintro e w2 ⟨rfl, hb2⟩
        have hl2 := hbr.trans (hb2.mono hbr.size)
        clear hb2 c0 c1 c2 c3 c4 c5 c6
        by_cases hneg : y - (l[k].text.size : Int) < 0
        · rw [if_pos hneg]
          go_wp2_with fail
          go_ret
          exact ⟨-1, rfl, by omega, by omega, fun h => by omega, hl2⟩
        · rw [if_neg hneg]
          have hneg2 : decide (y - (l[k].text.size : Int) < 0) = false := decide_eq_false hneg
          have Hn := Lib.hid hneg
          have Hd : Hid ((textsLen (l.take (k + 1)) : Int) + (y - (l[k].text.size : Int)) ≤ 1048576) := Lib.hid (by rw [Ht.out]; have := hdone.out; push_cast; omega)
          clear Ht hneg
          generalize l[k].text.size = tz at hneg2 Hd Hn
          go_wp2_with fail
          go_roundw
          case rel => exact ⟨k + 1, y - tz, by omega, by go_num, rfl, by have := Hn.out; omega, by have := Hy1.out; omega, Hd, hl2⟩
          case measure => simp [intOf]; omega
      · have hge : (l.length : Int) ≤ (k : Int) := by omega
        have hend : decide (k < l.length) = false := decide_eq_false hlt
        obtain rfl : k = l.length := by omega
        go_wp2_with fail
        go_ret
        refine ⟨y, rfl, by omega, hy1, fun _ => ⟨hl20, ?_⟩, hbr⟩
        have := hdone.out
        rw [List.take_length] at this
        omega
set_option maxHeartbeats 1000000 in
theorem eqEvent_same (e : Ev) (w : World) :
    Calls Try.prog 49 #[evV e, evV e] w fun x w' => x = .returned (.bool true) ∧ Below w.heap.size w w' := by
  unfold evV
  obtain ⟨k, f, b, l, t, c, p⟩ := e
  simp only
  go_enter Try.func49, Try.ntmps49
  go_wp2_with fail
  go_ret
  refine ⟨rfl, ?_⟩
  repeat (first | with_reducible exact Below.refl _ _ | refine Below.setCell ?_ (by simp) _ | refine Below.alloc ?_ (by simp <;> omega) _)
set_option maxHeartbeats 2000000 in
theorem eqEventS_same (v u : Value) (l : List Ev) (w : World) (hv : EvsAt w (· < w.heap.size) v l) (hu : EvsAt w (· < w.heap.size) u l) (hl : l.length ≤ 1048576000) :
    Calls Try.prog 27 #[v, u] w fun e w' => e = .returned (.bool true) ∧ Below w.heap.size w w' := by
  obtain ⟨a, cap, rfl⟩ := hv.len
  obtain ⟨a', cap', rfl⟩ := hu.len
  have H := Lib.hid hv
  have H' := Lib.hid hu
  clear hv hu
  go_enter Try.func27, Try.ntmps27
  go_wp2_with fail
  go_loopw [5] (fun i wr => ∃ k : Nat, k ≤ l.length ∧ i = .int .i64 k ∧ Below w.heap.size w wr) (fun i _ => l.length - (intOf i).toNat)
  case atStart => exact ⟨0, by omega, rfl, Below.refl _ _⟩
  case round =>
    obtain ⟨k, hk, rfl, hbr⟩ := hrel
    by_cases hlt : k < l.length
    · have hlti : (k : Int) < (l.length : Int) := by omega
      obtain ⟨b, o, rfl, hbC, c0, c1, c2, c3, c4, c5, c6⟩ := H.out.cellsAt k hlt
      obtain ⟨b', o', rfl, hbC', d0, d1, d2, d3, d4, d5, d6⟩ := H'.out.cellsAt k hlt
      rw [← hbr.cell (p := ⟨b, _, none⟩) hbC] at c0 c1 c2 c3 c4 c5 c6
      rw [← hbr.cell (p := ⟨b', _, none⟩) hbC'] at d0 d1 d2 d3 d4 d5 d6
      have He := Lib.hid (eqEvent_same l[k])
      unfold evV at He
      generalize l[k] = f at He c0 c1 c2 c3 c4 c5 c6 d0 d1 d2 d3 d4 d5 d6
      go_wp2_with fail
      go_region_with (go_at_call 49; refine (He.out _).mono ?_; rintro e w2 ⟨rfl, hb2⟩; have hl2 := hbr.drew.trans (hb2.mono hbr.size))
      all_goals
        clear c0 c1 c2 c3 c4 c5 c6 d0 d1 d2 d3 d4 d5 d6
        go_wp2_with fail
        go_roundw
        case rel => exact ⟨k + 1, by omega, by go_num, hl2⟩
        case measure => simp [intOf]; omega
    · have hge : (l.length : Int) ≤ (k : Int) := by omega
      have hend : decide (k < l.length) = false := decide_eq_false hlt
      go_wp2_with fail
      go_ret
      exact ⟨rfl, hbr⟩
end Go.Proofs.Yteplmjlllnbiiaa.Num
