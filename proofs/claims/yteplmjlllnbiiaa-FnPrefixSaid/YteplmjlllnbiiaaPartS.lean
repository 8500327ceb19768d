/-
  The walks of the reference's l1Min, l1Max, PartBytes, LongestPart and PrefixOf; only new memory is written.
-/
import Derived.Test.YteplmjlllnbiiaaMergeS
namespace Go.Proofs.Yteplmjlllnbiiaa.Num
open Go.RowKit Go.Proofs
set_option linter.unusedVariables false
set_option linter.unusedSimpArgs false
attribute [local go_sem] Region.wanted yielded

theorem specMax_any (a b : Int) (w : World) : Calls Try.prog 51 #[.int .i64 a, .int .i64 b] w fun e w' => e = .returned (.int .i64 (max a b)) ∧ w = w' := by
  by_cases h : b < a
  · have hm : max a b = a := by omega
    rw [hm]
    go_enter Try.func51, Try.ntmps51
    go_wp2_with fail
    go_ret
    exact ⟨rfl, rfl⟩
  · have hm : max a b = b := by omega
    have hd : decide (b < a) = false := decide_eq_false h
    rw [hm]
    clear h hm
    go_enter Try.func51, Try.ntmps51
    go_wp2_with fail
    go_ret
    exact ⟨rfl, rfl⟩
theorem specMin_any (a b : Int) (w : World) : Calls Try.prog 42 #[.int .i64 a, .int .i64 b] w fun e w' => e = .returned (.int .i64 (min a b)) ∧ w = w' := by
  by_cases h : a < b
  · have hm : min a b = a := by omega
    rw [hm]
    go_enter Try.func42, Try.ntmps42
    go_wp2_with fail
    go_ret
    exact ⟨rfl, rfl⟩
  · have hm : min a b = b := by omega
    have hd : decide (a < b) = false := decide_eq_false h
    rw [hm]
    clear h hm
    go_enter Try.func42, Try.ntmps42
    go_wp2_with fail
    go_ret
    exact ⟨rfl, rfl⟩
set_option maxHeartbeats 1000000 in
theorem specPartBytes_any (v : Value) (l : List Ev) (w : World) (h : EvsAt w (· < w.heap.size) v l) (hl : SmallE l) :
    Calls Try.prog 30 #[v] w fun e w' => e = .returned (.int .i64 (partBytes l)) ∧ Below w.heap.size w w' := by
  obtain ⟨a, cap, rfl⟩ := h.len
  have H := Lib.hid h
  have hl1 := hl.1
  have Hl := Lib.hid hl.2
  clear h hl
  go_enter Try.func30, Try.ntmps30
  go_wp2_with fail
  go_loopw [3, 4] (fun n i wr => ∃ j : Nat, j ≤ l.length ∧ i = .int .i64 j ∧ n = .int .i64 (partBytes (l.take j)) ∧ Below w.heap.size w wr) (fun _ i _ => l.length - (intOf i).toNat)
  case atStart => exact ⟨0, by omega, rfl, rfl, Below.refl _ _⟩
  case round =>
    obtain ⟨j, hj, rfl, rfl, hbr⟩ := hrel
    by_cases hlt : j < l.length
    · have hlti : (j : Int) < (l.length : Int) := by omega
      obtain ⟨b, o, rfl, hbC, c0, c1, c2, c3, c4, c5, c6⟩ := H.out.cellsAt j hlt
      rw [← hbr.cell (p := ⟨b, _, none⟩) hbC] at c0 c1 c2 c3 c4 c5 c6
      have Hm := Lib.hid (partBytes_take l j hlt)
      have hmle : partBytes (l.take (j + 1)) ≤ 1048576 := by have := Hl.out; have := partBytes_le (l.take (j + 1)); have := texts_take l (j + 1); omega
      have Hmle := Lib.hid hmle
      clear hmle
      generalize partBytes (l.take j) = m at Hm ⊢
      generalize l[j] = e at Hm c0 c1 c2 c3 c4 c5 c6
      obtain ⟨K, F, Bt, L, Tx, C, P⟩ := e
      simp only at c0 c1 c2 c3 c4 c5 c6
      by_cases hk : K = 4
      · subst hk
        have Hm2 : Hid (partBytes (l.take (j + 1)) = m + Tx.size) := Lib.hid (by rw [Hm.out]; unfold partLen; rw [if_pos rfl])
        have hw : IntKind.i64.wrap ((m : Int) + (Tx.size : Int)) = ((m + Tx.size : Nat) : Int) := by rw [IntWalk.i64_in _ (by have := Hm2.out; have := Hmle.out; omega)]; omega
        clear Hm
        go_wp2_with fail
        go_roundw
        case rel => exact ⟨j + 1, by omega, by go_num, by rw [Hm2.out]; go_num, hbr⟩
        case measure => simp [intOf]; omega
      · have Hm2 : Hid (partBytes (l.take (j + 1)) = m) := Lib.hid (by rw [Hm.out]; unfold partLen; rw [if_neg hk]; rfl)
        have e1 := neI hk
        clear hk Hm
        go_wp2_with fail
        go_roundw
        case rel => exact ⟨j + 1, by omega, by go_num, by rw [Hm2.out], hbr⟩
        case measure => simp [intOf]; omega
    · have hge : (l.length : Int) ≤ (j : Int) := by omega
      have hend : decide (j < l.length) = false := decide_eq_false hlt
      obtain rfl : j = l.length := by omega
      go_wp2_with fail
      go_ret
      exact ⟨by rw [List.take_length]; rfl, hbr⟩
set_option maxHeartbeats 1000000 in
theorem specLongest_any (v : Value) (l : List Ev) (w : World) (h : EvsAt w (· < w.heap.size) v l) (hl : l.length ≤ 1048576000) :
    Calls Try.prog 31 #[v] w fun e w' => e = .returned (.int .i64 (longestPart l)) ∧ Below w.heap.size w w' := by
  obtain ⟨a, cap, rfl⟩ := h.len
  have H := Lib.hid h
  clear h
  go_enter Try.func31, Try.ntmps31
  go_wp2_with fail
  go_loopw [3, 4] (fun n i wr => ∃ j : Nat, j ≤ l.length ∧ i = .int .i64 j ∧ n = .int .i64 (longestPart (l.take j)) ∧ Below w.heap.size w wr) (fun _ i _ => l.length - (intOf i).toNat)
  case atStart => exact ⟨0, by omega, rfl, rfl, Below.refl _ _⟩
  case round =>
    obtain ⟨j, hj, rfl, rfl, hbr⟩ := hrel
    by_cases hlt : j < l.length
    · have hlti : (j : Int) < (l.length : Int) := by omega
      obtain ⟨b, o, rfl, hbC, c0, c1, c2, c3, c4, c5, c6⟩ := H.out.cellsAt j hlt
      rw [← hbr.cell (p := ⟨b, _, none⟩) hbC] at c0 c1 c2 c3 c4 c5 c6
      have Hm := Lib.hid (longest_take l j hlt)
      generalize longestPart (l.take j) = m at Hm ⊢
      generalize l[j] = e at Hm c0 c1 c2 c3 c4 c5 c6
      obtain ⟨K, F, Bt, L, Tx, C, P⟩ := e
      simp only at c0 c1 c2 c3 c4 c5 c6
      by_cases hk : K = 4
      · subst hk
        have Hm2 : Hid (((longestPart (l.take (j + 1)) : Nat) : Int) = max (m : Int) (Tx.size : Int)) := Lib.hid (by have h := Hm.out; unfold partLen at h; rw [if_pos rfl] at h; simp only at h; omega)
        clear Hm
        go_wp2_with fail
        refine (specMax_any (m : Int) (Tx.size : Int) _).mono ?_
        rw [← Hm2.out]
        rintro _ _ ⟨rfl, rfl⟩
        go_wp2_with fail
        go_roundw
        case rel => exact ⟨j + 1, by omega, by go_num, rfl, hbr⟩
        case measure => simp [intOf]; omega
      · have Hm2 : Hid (longestPart (l.take (j + 1)) = m) := Lib.hid (by rw [Hm.out]; unfold partLen; rw [if_neg hk]; omega)
        have e1 := neI hk
        clear hk Hm
        go_wp2_with fail
        go_roundw
        case rel => exact ⟨j + 1, by omega, by go_num, by rw [Hm2.out], hbr⟩
        case measure => simp [intOf]; omega
    · have hge : (l.length : Int) ≤ (j : Int) := by omega
      have hend : decide (j < l.length) = false := decide_eq_false hlt
      obtain rfl : j = l.length := by omega
      go_wp2_with fail
      go_ret
      exact ⟨by rw [List.take_length]; rfl, hbr⟩
end Go.Proofs.Yteplmjlllnbiiaa.Num
