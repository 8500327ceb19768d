/-
  The walks of the laws' szSchema: what is left is not below 0 only where no list is longer than the bound; nothing that was there is written.
-/
import Derived.Test.YtcnpdcmdnmfnaaaToSch
namespace Go.Proofs.Ytcnpdcmdnmfnaaa.Num.Sch
open Go.RowKit Go.Proofs
set_option linter.unusedVariables false

theorem szRawFieldS_any (a : Option Addr) (n cap : Nat) (left : Int) (w : World) (hn : n ≤ 9223372036854775807) (h0 : 0 ≤ left) (h1 : left ≤ 1048576) :
    Calls Try.prog 61 #[.slice a n cap, .int .i64 left] w fun e w' => ∃ x : Int, e = .returned (.int .i64 x) ∧ -1 ≤ x ∧ x ≤ 1048576 ∧ (0 ≤ x → n ≤ 1048576) ∧ w = w' := by
  have hw : IntKind.i64.wrap (left - (n : Int)) = left - (n : Int) := IntWalk.i64_in _ (by omega)
  by_cases hlt : left - (n : Int) < 0
  · go_enter Try.func61, Try.ntmps61
    go_wp2_with fail
    go_ret
    exact ⟨-1, rfl, by omega, by omega, fun h => by omega, rfl⟩
  · have hlt2 : decide (left - (n : Int) < 0) = false := decide_eq_false hlt
    go_enter Try.func61, Try.ntmps61
    go_wp2_with fail
    go_ret
    exact ⟨left - n, rfl, by omega, by omega, fun h => by omega, rfl⟩
theorem szRawMsg_any (m : RM) (a : Option Addr) (cap : Nat) (left : Int) (w : World) (hn : m.2.length ≤ 9223372036854775807) (h0 : 0 ≤ left) (h1 : left ≤ 1048576) :
    Calls Try.prog 55 #[.agg #[.int .i64 m.1, .slice a m.2.length cap], .int .i64 left] w fun e w' => ∃ x : Int, e = .returned (.int .i64 x) ∧ -1 ≤ x ∧ x ≤ 1048576 ∧ (0 ≤ x → m.2.length ≤ 1048576) ∧ Below w.heap.size w w' := by
  have H0 := Lib.hid h0
  have H1 := Lib.hid h1
  clear h0 h1
  go_enter Try.func55, Try.ntmps55
  go_wp2_with fail
  refine (szRawFieldS_any a m.2.length cap left _ hn H0.out H1.out).mono ?_
  rintro e w1 ⟨x, rfl, hx0, hx1, hx, rfl⟩
  by_cases hlt : x < 0
  · go_wp2_with fail
    go_ret
    exact ⟨-1, rfl, by omega, by omega, fun h => by omega, (Below.refl _ _).alloc (Nat.le_refl _) _⟩
  · have hlt2 : decide (x < 0) = false := decide_eq_false hlt
    go_wp2_with fail
    go_ret
    exact ⟨x, rfl, hx0, hx1, hx, (Below.refl _ _).alloc (Nat.le_refl _) _⟩
set_option maxHeartbeats 1000000 in
theorem szRawMsgS_any (v : Value) (l : List RM) (left : Int) (w : World) (h : MsgsAt w (· < w.heap.size) v l) (hm : inMem l) (h0 : 0 ≤ left) (h1 : left ≤ 1048576) :
    Calls Try.prog 45 #[v, .int .i64 left] w fun e w' => ∃ x : Int, e = .returned (.int .i64 x) ∧ -1 ≤ x ∧ x ≤ 1048576 ∧ (0 ≤ x → Small l) ∧ Below w.heap.size w w' := by
  obtain ⟨a, cap, rfl⟩ := h.len
  have H := Lib.hid h
  have Hm := Lib.hid hm.2
  have hm1 := hm.1
  have hw : IntKind.i64.wrap (left - (l.length : Int)) = left - (l.length : Int) := IntWalk.i64_in _ (by omega)
  clear h hm
  by_cases hlt : left - (l.length : Int) < 0
  · go_enter Try.func45, Try.ntmps45
    go_wp2_with fail
    go_ret
    exact ⟨-1, rfl, by omega, by omega, fun h => by omega, Below.refl _ _⟩
  · have hlt2 : decide (left - (l.length : Int) < 0) = false := decide_eq_false hlt
    have hl20 : l.length ≤ 1048576 := by omega
    go_enter Try.func45, Try.ntmps45
    go_wp2_with fail
    go_loopw [1, 5] (fun x i wr => ∃ (k : Nat) (y : Int), k ≤ l.length ∧ i = .int .i64 k ∧ x = .int .i64 y ∧ 0 ≤ y ∧ y ≤ 1048576 ∧ Hid (∀ j (hj : j < l.length), j < k → l[j].2.length ≤ 1048576) ∧ Below w.heap.size w wr) (fun _ i _ => l.length - (intOf i).toNat)
    case atStart => exact ⟨0, left - l.length, by omega, rfl, rfl, by omega, by omega, Lib.hid fun j _ hj => by omega, Below.refl _ _⟩
    case round =>
      obtain ⟨k, y, hk, rfl, rfl, hy0, hy1, hdone, hbr⟩ := hrel
      clear hw hlt hlt2
      by_cases hlt : k < l.length
      · have hlti : (k : Int) < (l.length : Int) := by omega
        obtain ⟨b, o, cap', hv, hbC, hcs⟩ := H.out.cells (by omega)
        obtain ⟨rfl, rfl⟩ : a = some ⟨b, o, none⟩ ∧ cap = cap' := by injection hv with e1 e2 e3; exact ⟨e1, e3⟩
        obtain ⟨u, c0, c1, hu⟩ := hcs k hlt
        obtain ⟨ua, ucap, rfl⟩ := hu.len
        have hsm := Lib.hid (Hm.out _ (List.getElem_mem hlt))
        clear hcs hv hu
        rw [← hbr.cell (p := ⟨b, _, none⟩) hbC] at c0 c1
        have Hy0 := Lib.hid hy0
        have Hy1 := Lib.hid hy1
        go_wp2_with fail
        refine (szRawMsg_any l[k] ua ucap y _ hsm.out Hy0.out Hy1.out).mono ?_
        rintro e w2 ⟨x, rfl, hx0, hx1, hx, hb2⟩
        have hl2 := hbr.trans (hb2.mono hbr.size)
        clear hb2 c0 c1
        by_cases hneg : x < 0
        · go_wp2_with fail
          go_ret
          exact ⟨-1, rfl, by omega, by omega, fun h => by omega, hl2⟩
        · have hneg2 : decide (x < 0) = false := decide_eq_false hneg
          have Hx := Lib.hid (hx (by omega))
          clear hx
          go_wp2_with fail
          go_roundw
          case rel =>
            refine ⟨k + 1, x, by omega, by go_num, rfl, by omega, hx1, Lib.hid fun j hj hjk => ?_, hl2⟩
            by_cases e : j = k
            · subst e; exact Hx.out
            · exact hdone.out j hj (by omega)
          case measure => simp [intOf]; omega
      · have hge : (l.length : Int) ≤ (k : Int) := by omega
        have hend : decide (k < l.length) = false := decide_eq_false hlt
        go_wp2_with fail
        go_ret
        refine ⟨y, rfl, by omega, hy1, fun _ => ⟨hl20, fun m hm => ?_⟩, hbr⟩
        obtain ⟨j, hj, rfl⟩ := List.getElem_of_mem hm
        exact hdone.out j hj (by omega)
theorem szRaw_any (v : Value) (r : List RM) (left : Int) (w : World) (h : RawAt w (· < w.heap.size) v r) (hm : inMem r) (h0 : 0 ≤ left) (h1 : left ≤ 1048576) :
    Calls Try.prog 33 #[v, .int .i64 left] w fun e w' => ∃ x : Int, e = .returned (.int .i64 x) ∧ -1 ≤ x ∧ x ≤ 1048576 ∧ (0 ≤ x → Small r) ∧ Below w.heap.size w w' := by
  obtain ⟨u, rfl, hu⟩ := h
  obtain ⟨a, cap, rfl⟩ := hu.len
  have H := Lib.hid hu
  have Hm := Lib.hid hm
  have H0 := Lib.hid h0
  have H1 := Lib.hid h1
  clear hu hm h0 h1
  go_enter Try.func33, Try.ntmps33
  go_wp2_with fail
  have hl1 : Below w.heap.size w (w.alloc (.cells #[.slice a r.length cap] 40)) := (Below.refl _ _).alloc (Nat.le_refl _) _
  refine (szRawMsgS_any _ r left _ (H.out.keep (below_sees hl1) fun b hb => by simp; omega) Hm.out H0.out H1.out).mono ?_
  rintro e w1 ⟨x, rfl, hx0, hx1, hx, hb1⟩
  have hl2 : Below w.heap.size w w1 := hl1.trans (hb1.mono (by simp))
  have Hx := Lib.hid hx
  clear hx
  by_cases hlt : x < 0
  · go_wp2_with fail
    go_ret
    exact ⟨-1, rfl, by omega, by omega, fun h => by omega, hl2⟩
  · have hlt2 : decide (x < 0) = false := decide_eq_false hlt
    go_wp2_with fail
    go_ret
    exact ⟨x, rfl, hx0, hx1, Hx.out, hl2⟩
end Go.Proofs.Ytcnpdcmdnmfnaaa.Num.Sch
