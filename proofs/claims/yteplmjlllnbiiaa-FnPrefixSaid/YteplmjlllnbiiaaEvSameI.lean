/-
  The walks of the program's Terminal, Many and SameEvents (slices.Equal at events).
-/
import Derived.Test.YteplmjlllnbiiaaEvSame
namespace Go.Proofs.Yteplmjlllnbiiaa.Num
open Go.RowKit Go.Proofs
set_option linter.unusedVariables false
set_option linter.unusedSimpArgs false

set_option maxHeartbeats 2000000 in
theorem eventsEq_any (v u : Value) (l m : List Ev) (w : World) (hv : EvsAt w (· < w.heap.size) v l) (hu : EvsAt w (· < w.heap.size) u m) (hl : l.length ≤ 1048576000) (hm : m.length ≤ 1048576000) :
    Calls Try.prog 43 #[v, u] w fun e w' => e = .returned (.bool (decide (l = m))) ∧ Below w.heap.size w w' := by
  obtain ⟨R, hR⟩ : ∃ R, decide (l = m) = R := ⟨_, rfl⟩
  rw [hR]
  have Tell : Hid ((l = m → R = true) ∧ (l ≠ m → R = false)) := Lib.hid ⟨fun h => by rw [← hR]; exact decide_eq_true h, fun h => by rw [← hR]; exact decide_eq_false h⟩
  clear hR
  obtain ⟨a, cap, rfl⟩ := hv.len
  obtain ⟨a', cap', rfl⟩ := hu.len
  have H := Lib.hid hv
  have H' := Lib.hid hu
  clear hv hu
  by_cases hlen : l.length = m.length
  · have hlb : ((l.length : Int) == (m.length : Int)) = true := by rw [beq_iff_eq]; omega
    have hlb2 : (l.length == m.length) = true := by rw [beq_iff_eq]; exact hlen
    have hlb3 : ((l.length : Int) != (m.length : Int)) = false := by rw [bne, hlb]; rfl
    have hlb4 : (l.length != m.length) = false := by rw [bne, hlb2]; rfl
    have Hlen := Lib.hid hlen
    clear hlen
    go_enter Try.func43, Try.ntmps43
    go_wp2_with fail
    go_loopw [13] (fun i wr => ∃ k : Nat, k ≤ l.length ∧ i = .int .i64 k ∧ Hid (∀ j (h1 : j < l.length) (h2 : j < m.length), j < k → l[j] = m[j]) ∧ Below w.heap.size w wr) (fun i _ => l.length - (intOf i).toNat)
    case atStart => exact ⟨0, by omega, rfl, Lib.hid fun j _ _ hj => by omega, Below.refl _ _⟩
    case round =>
      obtain ⟨k, hk, rfl, hsame, hbr⟩ := hrel
      by_cases hlt : k < l.length
      · have hlts : k < m.length := by rw [← Hlen.out]; exact hlt
        have hlti : (k : Int) < (l.length : Int) := by omega
        have hltsi : (k : Int) < (m.length : Int) := by omega
        obtain ⟨b, o, rfl, hbC, c0, c1, c2, c3, c4, c5, c6⟩ := H.out.cellsAt k hlt
        obtain ⟨b', o', rfl, hbC', d0, d1, d2, d3, d4, d5, d6⟩ := H'.out.cellsAt k hlts
        rw [← hbr.cell (p := ⟨b, _, none⟩) hbC] at c0 c1 c2 c3 c4 c5 c6
        rw [← hbr.cell (p := ⟨b', _, none⟩) hbC'] at d0 d1 d2 d3 d4 d5 d6
        have Hne : Hid (l[k] ≠ m[k] → R = false) := Lib.hid fun h => Tell.out.2 fun e => h (by subst e; rfl)
        have Hnext : Hid (l[k] = m[k] → ∀ j (h1 : j < l.length) (h2 : j < m.length), j < k + 1 → l[j] = m[j]) := Lib.hid fun e j h1 h2 hj => by
          by_cases ej : j = k
          · subst ej; exact e
          · exact hsame.out j h1 h2 (by omega)
        clear hsame
        generalize l[k] = x at c0 c1 c2 c3 c4 c5 c6 Hne Hnext
        generalize m[k] = y at d0 d1 d2 d3 d4 d5 d6 Hne Hnext
        by_cases hxy : x = y
        · subst hxy
          have Hn := Lib.hid (Hnext.out rfl)
          have hE := evEq_as (a := x) (b := x) (Q := true) (decide_eq_true rfl)
          unfold evV at hE
          clear Hnext Hne
          go_wp2_with fail
          go_quiet (fail)
          go_wp2_with fail
          go_roundw
          case rel => exact ⟨k + 1, by omega, by go_num, Hn, below_drewN hbr _⟩
          case measure => simp [intOf]; omega
        · obtain rfl := Hne.out hxy
          have hE := evEq_as (a := x) (b := y) (Q := false) (decide_eq_false hxy)
          unfold evV at hE
          clear Hnext Hne hxy
          go_wp2_with fail
          go_quiet (fail)
          go_wp2_with fail
          go_ret
          exact ⟨rfl, below_drewN hbr _⟩
      · have hge : (l.length : Int) ≤ (k : Int) := by omega
        have hend : decide (k < l.length) = false := decide_eq_false hlt
        obtain rfl := Tell.out.1 (List.ext_getElem Hlen.out fun j h1 h2 => hsame.out j h1 h2 (by omega))
        go_wp2_with fail
        go_ret
        exact ⟨rfl, hbr⟩
  · obtain rfl := Tell.out.2 fun e => hlen (by rw [e])
    have hlb := neI (x := (l.length : Int)) (c := (m.length : Int)) (by omega)
    have hlb2 := neN hlen
    clear hlen
    go_enter Try.func43, Try.ntmps43
    go_wp2_with fail
    go_ret
    exact ⟨rfl, Below.refl _ _⟩
theorem implSameEvents_any (v u : Value) (l m : List Ev) (w : World) (hv : EvsAt w (· < w.heap.size) v l) (hu : EvsAt w (· < w.heap.size) u m) (hl : l.length ≤ 1048576000) (hm : m.length ≤ 1048576000) :
    Calls Try.prog 17 #[v, u] w fun e w' => e = .returned (.bool (decide (l = m))) ∧ Below w.heap.size w w' := by
  have HQ := Lib.hid (eventsEq_any v u l m w hv hu hl hm)
  obtain ⟨a, cap, rfl⟩ := hv.len
  obtain ⟨a', cap', rfl⟩ := hu.len
  clear hv hu
  generalize decide (l = m) = R at HQ ⊢
  go_enter Try.func17, Try.ntmps17
  go_wp2_with fail
  refine HQ.out.mono ?_
  rintro e w1 ⟨rfl, hb1⟩
  go_wp2_with fail
  go_ret
  exact ⟨rfl, hb1⟩
end Go.Proofs.Yteplmjlllnbiiaa.Num
