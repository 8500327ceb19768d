/-
  The walks of the program's Terminal, Many and SameEvents (slices.Equal at events).
-/
import Derived.Test.YtbjndnpdmohjiaaEvSame
namespace Go.Proofs.Ytbjndnpdmohjiaa.Num
open Go.RowKit Go.Proofs
set_option linter.unusedVariables false
set_option linter.unusedSimpArgs false

theorem implTerminal_any (e : Ev) (w : World) : Calls Try.prog 17 #[evV e] w fun x w' => x = .returned (.bool (termB e)) ∧ Below w.heap.size w w' := by
  obtain ⟨k, f, b, l, t, c, p⟩ := e
  unfold evV
  simp only
  by_cases h1 : k = 9
  · subst h1
    go_enter Try.func17, Try.ntmps17
    go_wp2_with fail
    go_ret
    exact ⟨rfl, (Below.refl _ _).alloc (Nat.le_refl _) _⟩
  · have e1 := neI h1
    by_cases h2 : k = 10
    · subst h2
      go_enter Try.func17, Try.ntmps17
      go_wp2_with fail
      go_ret
      exact ⟨rfl, (Below.refl _ _).alloc (Nat.le_refl _) _⟩
    · have e2 := neI h2
      have hr : termB ⟨k, f, b, l, t, c, p⟩ = false := decide_eq_false (by simp only; omega)
      rw [hr]
      clear hr h1 h2
      go_enter Try.func17, Try.ntmps17
      go_wp2_with fail
      go_ret
      exact ⟨rfl, (Below.refl _ _).alloc (Nat.le_refl _) _⟩
set_option maxHeartbeats 1000000 in
theorem implMany_any (v : Value) (l : List Ev) (k : Int) (w : World) (h : EvsAt w (· < w.heap.size) v l) (hl : l.length ≤ 1048576000) :
    Calls Try.prog 19 #[v, .int .i64 k] w fun e w' => e = .returned (.int .i64 (manyN l k)) ∧ Below w.heap.size w w' := by
  obtain ⟨a, cap, rfl⟩ := h.len
  have H := Lib.hid h
  clear h
  go_enter Try.func19, Try.ntmps19
  go_wp2_with fail
  go_loopw [5, 10] (fun n i wr => ∃ j : Nat, j ≤ l.length ∧ i = .int .i64 j ∧ n = .int .i64 (manyN (l.take j) k) ∧ Below w.heap.size w wr) (fun _ i _ => l.length - (intOf i).toNat)
  case atStart => exact ⟨0, by omega, rfl, rfl, Below.refl _ _⟩
  case round =>
    obtain ⟨j, hj, rfl, rfl, hbr⟩ := hrel
    by_cases hlt : j < l.length
    · have hlti : (j : Int) < (l.length : Int) := by omega
      obtain ⟨b, o, rfl, hbC, c0, c1, c2, c3, c4, c5, c6⟩ := H.out.cellsAt j hlt
      rw [← hbr.cell (p := ⟨b, _, none⟩) hbC] at c0 c1 c2 c3 c4 c5 c6
      have hzr := hbr.size
      have Hm := Lib.hid (manyN_take l k j hlt)
      have hmle : manyN (l.take j) k ≤ l.length := Nat.le_trans (manyN_le _ _) (by simp; omega)
      generalize manyN (l.take j) k = m at Hm hmle ⊢
      by_cases hk : l[j].kind = k
      · have Hm2 : Hid (manyN (l.take (j + 1)) k = m + 1) := Lib.hid (by rw [Hm.out, if_pos hk])
        clear Hm
        generalize l[j] = e at hk c0 c1 c2 c3 c4 c5 c6
        obtain ⟨ek, ef, eb, el, et, ec, ep⟩ := e
        simp only at hk c0 c1 c2 c3 c4 c5 c6
        subst hk
        have hw : IntKind.i64.wrap ((m : Int) + 1) = ((m + 1 : Nat) : Int) := IntWalk.i64_in _ (by omega)
        go_wp2_with fail
        go_roundw
        case rel => exact ⟨j + 1, by omega, by go_num, by rw [Hm2.out]; go_num, hbr.alloc hzr _⟩
        case measure => simp [intOf]; omega
      · have Hm2 : Hid (manyN (l.take (j + 1)) k = m) := Lib.hid (by rw [Hm.out, if_neg hk]; rfl)
        clear Hm
        generalize l[j] = e at hk c0 c1 c2 c3 c4 c5 c6
        obtain ⟨ek, ef, eb, el, et, ec, ep⟩ := e
        simp only at hk c0 c1 c2 c3 c4 c5 c6
        have e1 := neI hk
        clear hk
        go_wp2_with fail
        go_roundw
        case rel => exact ⟨j + 1, by omega, by go_num, by rw [Hm2.out], hbr.alloc hzr _⟩
        case measure => simp [intOf]; omega
    · have hge : (l.length : Int) ≤ (j : Int) := by omega
      have hend : decide (j < l.length) = false := decide_eq_false hlt
      obtain rfl : j = l.length := by omega
      go_wp2_with fail
      go_ret
      exact ⟨by rw [List.take_length]; rfl, hbr⟩
set_option maxHeartbeats 2000000 in
theorem eventsEq_any (v u : Value) (l m : List Ev) (w : World) (hv : EvsAt w (· < w.heap.size) v l) (hu : EvsAt w (· < w.heap.size) u m) (hl : l.length ≤ 1048576000) (hm : m.length ≤ 1048576000) :
    Calls Try.prog 23 #[v, u] w fun e w' => e = .returned (.bool (decide (l = m))) ∧ Below w.heap.size w w' := by
  obtain ⟨R, hR⟩ : ∃ R, decide (l = m) = R := ⟨_, rfl⟩
  rw [hR]
  have Tell : Hid ((l = m → R = true) ∧ (l ≠ m → R = false)) := Lib.hid ⟨fun h => by rw [← hR]; exact decide_eq_true h, fun h => by rw [← hR]; exact decide_eq_false h⟩
  clear hR
  obtain ⟨a, cap, rfl⟩ := hv.len
  obtain ⟨a', cap', rfl⟩ := hu.len
  have H := Lib.hid hv
  have H' := Lib.hid hu
  clear hv hu
  by_cases hlen : l.length = m.length
  · have hlb : ((l.length : Int) == (m.length : Int)) = true := by rw [beq_iff_eq]; omega
    have hlb2 : (l.length == m.length) = true := by rw [beq_iff_eq]; exact hlen
    have hlb3 : ((l.length : Int) != (m.length : Int)) = false := by rw [bne, hlb]; rfl
    have hlb4 : (l.length != m.length) = false := by rw [bne, hlb2]; rfl
    have Hlen := Lib.hid hlen
    clear hlen
    go_enter Try.func23, Try.ntmps23
    go_wp2_with fail
    go_loopw [13] (fun i wr => ∃ k : Nat, k ≤ l.length ∧ i = .int .i64 k ∧ Hid (∀ j (h1 : j < l.length) (h2 : j < m.length), j < k → l[j] = m[j]) ∧ Below w.heap.size w wr) (fun i _ => l.length - (intOf i).toNat)
    case atStart => exact ⟨0, by omega, rfl, Lib.hid fun j _ _ hj => by omega, Below.refl _ _⟩
    case round =>
      obtain ⟨k, hk, rfl, hsame, hbr⟩ := hrel
      by_cases hlt : k < l.length
      · have hlts : k < m.length := by rw [← Hlen.out]; exact hlt
        have hlti : (k : Int) < (l.length : Int) := by omega
        have hltsi : (k : Int) < (m.length : Int) := by omega
        obtain ⟨b, o, rfl, hbC, c0, c1, c2, c3, c4, c5, c6⟩ := H.out.cellsAt k hlt
        obtain ⟨b', o', rfl, hbC', d0, d1, d2, d3, d4, d5, d6⟩ := H'.out.cellsAt k hlts
        rw [← hbr.cell (p := ⟨b, _, none⟩) hbC] at c0 c1 c2 c3 c4 c5 c6
        rw [← hbr.cell (p := ⟨b', _, none⟩) hbC'] at d0 d1 d2 d3 d4 d5 d6
        have Hne : Hid (l[k] ≠ m[k] → R = false) := Lib.hid fun h => Tell.out.2 fun e => h (by subst e; rfl)
        have Hnext : Hid (l[k] = m[k] → ∀ j (h1 : j < l.length) (h2 : j < m.length), j < k + 1 → l[j] = m[j]) := Lib.hid fun e j h1 h2 hj => by
          by_cases ej : j = k
          · subst ej; exact e
          · exact hsame.out j h1 h2 (by omega)
        clear hsame
        generalize l[k] = x at c0 c1 c2 c3 c4 c5 c6 Hne Hnext
        generalize m[k] = y at d0 d1 d2 d3 d4 d5 d6 Hne Hnext
        by_cases hxy : x = y
        · subst hxy
          have Hn := Lib.hid (Hnext.out rfl)
          have hE := evEq_as (a := x) (b := x) (Q := true) (decide_eq_true rfl)
          unfold evV at hE
          clear Hnext Hne
          go_wp2_with fail
          go_quiet (fail)
          go_wp2_with fail
          go_roundw
          case rel => exact ⟨k + 1, by omega, by go_num, Hn, below_drewN hbr _⟩
          case measure => simp [intOf]; omega
        · obtain rfl := Hne.out hxy
          have hE := evEq_as (a := x) (b := y) (Q := false) (decide_eq_false hxy)
          unfold evV at hE
          clear Hnext Hne hxy
          go_wp2_with fail
          go_quiet (fail)
          go_wp2_with fail
          go_ret
          exact ⟨rfl, below_drewN hbr _⟩
      · have hge : (l.length : Int) ≤ (k : Int) := by omega
        have hend : decide (k < l.length) = false := decide_eq_false hlt
        obtain rfl := Tell.out.1 (List.ext_getElem Hlen.out fun j h1 h2 => hsame.out j h1 h2 (by omega))
        go_wp2_with fail
        go_ret
        exact ⟨rfl, hbr⟩
  · obtain rfl := Tell.out.2 fun e => hlen (by rw [e])
    have hlb := neI (x := (l.length : Int)) (c := (m.length : Int)) (by omega)
    have hlb2 := neN hlen
    clear hlen
    go_enter Try.func23, Try.ntmps23
    go_wp2_with fail
    go_ret
    exact ⟨rfl, Below.refl _ _⟩
theorem implSameEvents_any (v u : Value) (l m : List Ev) (w : World) (hv : EvsAt w (· < w.heap.size) v l) (hu : EvsAt w (· < w.heap.size) u m) (hl : l.length ≤ 1048576000) (hm : m.length ≤ 1048576000) :
    Calls Try.prog 14 #[v, u] w fun e w' => e = .returned (.bool (decide (l = m))) ∧ Below w.heap.size w w' := by
  have HQ := Lib.hid (eventsEq_any v u l m w hv hu hl hm)
  obtain ⟨a, cap, rfl⟩ := hv.len
  obtain ⟨a', cap', rfl⟩ := hu.len
  clear hv hu
  generalize decide (l = m) = R at HQ ⊢
  go_enter Try.func14, Try.ntmps14
  go_wp2_with fail
  refine HQ.out.mono ?_
  rintro e w1 ⟨rfl, hb1⟩
  go_wp2_with fail
  go_ret
  exact ⟨rfl, hb1⟩
end Go.Proofs.Ytbjndnpdmohjiaa.Num
