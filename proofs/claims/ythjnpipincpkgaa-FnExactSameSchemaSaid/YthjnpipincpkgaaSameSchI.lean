/-
  The walks of slices.EqualFunc at shapes, as the program calls it, and of the program's SameSchema: whether two schemas are equal; only new memory is written.
-/
import Derived.Test.YthjnpipincpkgaaSameShapeI
namespace Go.Proofs.Ythjnpipincpkgaa.Num.Sch
open Go.RowKit Go.Proofs
set_option linter.unusedVariables false
set_option linter.unusedSimpArgs false

set_option maxHeartbeats 8000000 in
set_option maxRecDepth 100000 in
theorem msgsEq_any (v u : Value) (r s : List RM) (R : Bool) (w : World) (S : Nat → Prop) (hS : ∀ b, S b → b < w.heap.size) (hv : MsgsAt w S v r) (hu : MsgsAt w S u s) (hr : Small r) (hs : Small s) (tell : (r = s → R = true) ∧ (r ≠ s → R = false)) :
    Calls Try.prog 48 #[v, u, .func (.func 49) #[] #[]] w fun e w' => e = .returned (.bool R) ∧ Below w.heap.size w w' := by
  have Tell := Lib.hid tell
  obtain ⟨a, cap, rfl⟩ := hv.len
  obtain ⟨a', cap', rfl⟩ := hu.len
  have H := Lib.hid hv
  have H' := Lib.hid hu
  have HS := Lib.hid hS
  have Hr := Lib.hid hr.2
  have Hs := Lib.hid hs.2
  have hr1 := hr.1
  have hs1 := hs.1
  clear tell hv hu hS hr hs
  by_cases hlen : r.length = s.length
  · have hlb : ((r.length : Int) == (s.length : Int)) = true := by rw [beq_iff_eq]; omega
    have hlb2 : (r.length == s.length) = true := by rw [beq_iff_eq]; exact hlen
    have hlb3 : ((r.length : Int) != (s.length : Int)) = false := by rw [bne, hlb]; rfl
    have hlb4 : (r.length != s.length) = false := by rw [bne, hlb2]; rfl
    have Hlen := Lib.hid hlen
    clear hlen
    go_enter Try.func48, Try.ntmps48
    go_wp2_with fail
    go_loopw [17] (fun i wr => ∃ k : Nat, k ≤ r.length ∧ i = .int .i64 k ∧ Hid (∀ j (h1 : j < r.length) (h2 : j < s.length), j < k → r[j] = s[j]) ∧ Below w.heap.size w wr) (fun i _ => r.length - (intOf i).toNat)
    case atStart => exact ⟨0, by omega, rfl, Lib.hid fun j _ _ hj => by omega, Below.refl _ _⟩
    case round =>
      obtain ⟨k, hk, rfl, hsame, hbr⟩ := hrel
      by_cases hlt : k < r.length
      · have hlts : k < s.length := by rw [← Hlen.out]; exact hlt
        have hlti : (k : Int) < (r.length : Int) := by omega
        have hltsi : (k : Int) < (s.length : Int) := by omega
        obtain ⟨b, o, c, hv, hbS, hcs⟩ := H.out.cells (by omega)
        obtain ⟨rfl, rfl⟩ : a = some ⟨b, o, none⟩ ∧ cap = c := by injection hv with e1 e2 e3; exact ⟨e1, e3⟩
        obtain ⟨x, c0, c1, hx⟩ := hcs k hlt
        obtain ⟨b', o', c', hv', hbS', hcs'⟩ := H'.out.cells (by omega)
        obtain ⟨rfl, rfl⟩ : a' = some ⟨b', o', none⟩ ∧ cap' = c' := by injection hv' with e1 e2 e3; exact ⟨e1, e3⟩
        obtain ⟨y, d0, d1, hy⟩ := hcs' k hlts
        have hbC := HS.out _ hbS
        have hbC' := HS.out _ hbS'
        have hsm1 := Hr.out _ (List.getElem_mem hlt)
        have hsm2 := Hs.out _ (List.getElem_mem hlts)
        clear hcs hv hcs' hv' hbS hbS'
        have Hne : Hid (r[k] ≠ s[k] → R = false) := Lib.hid fun h => Tell.out.2 fun e => h (by subst e; rfl)
        have Hnext : Hid (r[k] = s[k] → ∀ j (h1 : j < r.length) (h2 : j < s.length), j < k + 1 → r[j] = s[j]) := Lib.hid fun e j h1 h2 hj => by
          by_cases ej : j = k
          · subst ej; exact e
          · exact hsame.out j h1 h2 (by omega)
        rw [← hbr.cell (p := ⟨b, _, none⟩) hbC] at c0 c1
        rw [← hbr.cell (p := ⟨b', _, none⟩) hbC'] at d0 d1
        have hzr := hbr.size
        have hbw : b < wr.heap.size := Nat.lt_of_lt_of_le hbC hbr.size
        have hbw' : b' < wr.heap.size := Nat.lt_of_lt_of_le hbC' hbr.size
        obtain ⟨xa, xcap, rfl⟩ := hx.len
        obtain ⟨ya, ycap, rfl⟩ := hy.len
        have Hx := Lib.hid hx
        have Hy := Lib.hid hy
        clear hx hy hsame
        generalize r[k] = m at c0 c1 Hne Hnext Hx hsm1
        generalize s[k] = n at d0 d1 Hne Hnext Hy hsm2
        obtain ⟨id, fs⟩ := m
        obtain ⟨id', fs'⟩ := n
        simp only at c0 c1 d0 d1 Hne Hnext Hx Hy hsm1 hsm2
        obtain ⟨Q, hQ⟩ : ∃ Q : Bool, ((id, fs) = (id', fs') → Q = true) ∧ ((id, fs) ≠ (id', fs') → Q = false) := by
          by_cases e : (id, fs) = (id', fs')
          · exact ⟨true, fun _ => rfl, fun h => absurd e h⟩
          · exact ⟨false, fun h => absurd h e, fun _ => rfl⟩
        have HQ := Lib.hid hQ
        clear hQ
        go_wp2_with fail
        have hb : Below w.heap.size w ((wr.alloc (.cells #[.int .i64 id, .slice xa fs.length xcap] 32)).alloc (.cells #[.int .i64 id', .slice ya fs'.length ycap] 32)) := (hbr.alloc hzr _).alloc (by simp; omega) _
        refine (sameMsg_any id id' _ _ fs fs' Q _ S (fun b hb' => Nat.lt_of_lt_of_le (HS.out b hb') hb.size) (Hx.out.keep (.of_below hb HS.out) fun _ h => h) (Hy.out.keep (.of_below hb HS.out) fun _ h => h) (by omega) (by omega) HQ.out).mono ?_
        rintro e w1 ⟨rfl, hb1⟩
        have hb2 := hb.trans (hb1.mono hb.size)
        clear hb hb1 c0 c1 d0 d1
        by_cases e : (id, fs) = (id', fs')
        · obtain rfl : Q = true := HQ.out.1 e
          have Hn := Lib.hid (Hnext.out e)
          clear e
          go_wp2_with fail
          go_roundw
          case rel => exact ⟨k + 1, by omega, by go_num, Hn, hb2⟩
          case measure => simp [intOf]; omega
        · obtain rfl : Q = false := HQ.out.2 e
          obtain rfl : R = false := Hne.out e
          clear e
          go_wp2_with fail
          go_ret
          exact ⟨rfl, hb2⟩
      · have hge : (r.length : Int) ≤ (k : Int) := by omega
        have hend : decide (k < r.length) = false := decide_eq_false hlt
        obtain rfl : R = true := Tell.out.1 (List.ext_getElem Hlen.out fun j h1 h2 => hsame.out j h1 h2 (by omega))
        go_wp2_with fail
        go_ret
        exact ⟨rfl, hbr⟩
  · obtain rfl : R = false := Tell.out.2 fun e => hlen (by rw [e])
    have hlb := neI (x := (r.length : Int)) (c := (s.length : Int)) (by omega)
    have hlb2 := neN hlen
    clear hlen
    go_enter Try.func48, Try.ntmps48
    go_wp2_with fail
    go_ret
    exact ⟨rfl, Below.refl _ _⟩
theorem implSameRaw_any (v u : Value) (r s : List RM) (w : World) (hv : RawAt w (· < w.heap.size) v r) (hu : RawAt w (· < w.heap.size) u s) (hr : Small r) (hs : Small s) :
    Calls Try.prog 22 #[v, u] w fun e w' => e = .returned (.bool (sameB r s)) ∧ Below w.heap.size w w' := by
  obtain ⟨x, rfl, hx⟩ := hv
  obtain ⟨y, rfl, hy⟩ := hu
  obtain ⟨a, cap, rfl⟩ := hx.len
  obtain ⟨a', cap', rfl⟩ := hy.len
  have H := Lib.hid hx
  have H' := Lib.hid hy
  clear hx hy
  go_enter Try.func22, Try.ntmps22
  go_wp2_with fail
  have hb : Below w.heap.size w ((w.alloc (.cells #[.slice a r.length cap] 26)).alloc (.cells #[.slice a' s.length cap'] 26)) := ((Below.refl _ _).alloc (Nat.le_refl _) _).alloc (by simp) _
  refine (msgsEq_any _ _ r s (sameB r s) _ (· < w.heap.size) (fun b hb' => Nat.lt_of_lt_of_le hb' hb.size) (H.out.keep (.of_below hb fun _ h => h) fun _ h => h) (H'.out.keep (.of_below hb fun _ h => h) fun _ h => h) hr hs ⟨same_yes, same_no⟩).mono ?_
  rintro e w1 ⟨rfl, hb1⟩
  have hb2 := hb.trans (hb1.mono hb.size)
  clear hb hb1
  go_wp2_with fail
  go_ret
  exact ⟨rfl, hb2⟩
end Go.Proofs.Ythjnpipincpkgaa.Num.Sch
