/-
  The walks of the reference's SameEvents, Terminal and Many; two events compared.
-/
import Derived.Test.YtcnpdcmdnmfnaaaGreatToEv
import Derived.Test.YtcnpdcmdnmfnaaaGreatRawBase
import Derived.Deep.QuietTactic
import Derived.BigQuiet
import Derived.WideShapes
namespace Go.Proofs.YtcnpdcmdnmfnaaaGreat.Num
open Go.RowKit Go.Proofs
set_option linter.unusedVariables false
set_option linter.unusedSimpArgs false

theorem Box.seven {w : World} {g : Nat} {a b c d e f h : Value} (hx : Box w g [a, b, c, d, e, f, h]) : (w.cell? ⟨g, 0, none⟩ = some a ∧ w.cell? ⟨g, 1, none⟩ = some b ∧ w.cell? ⟨g, 2, none⟩ = some c ∧ w.cell? ⟨g, 3, none⟩ = some d ∧ w.cell? ⟨g, 4, none⟩ = some e ∧ w.cell? ⟨g, 5, none⟩ = some f ∧ w.cell? ⟨g, 6, none⟩ = some h) ∧
    w.frozen? ⟨g, 0, none⟩ = false ∧ w.frozen? ⟨g, 1, none⟩ = false ∧ w.frozen? ⟨g, 2, none⟩ = false ∧ w.frozen? ⟨g, 3, none⟩ = false ∧ w.frozen? ⟨g, 4, none⟩ = false ∧ w.frozen? ⟨g, 5, none⟩ = false ∧ w.frozen? ⟨g, 6, none⟩ = false :=
  ⟨⟨(hx.2 0 (by simp)).1, (hx.2 1 (by simp)).1, (hx.2 2 (by simp)).1, (hx.2 3 (by simp)).1, (hx.2 4 (by simp)).1, (hx.2 5 (by simp)).1, (hx.2 6 (by simp)).1⟩,
    (hx.2 0 (by simp)).2, (hx.2 1 (by simp)).2, (hx.2 2 (by simp)).2, (hx.2 3 (by simp)).2, (hx.2 4 (by simp)).2, (hx.2 5 (by simp)).2, (hx.2 6 (by simp)).2⟩
theorem ba_inj {a b : ByteArray} (h : a.toList = b.toList) : a = b := by
  rw [ByteArray.toList_eq, ByteArray.toList_eq] at h
  exact Go.WideShapes.bytes_inj (by simpa using h)
theorem neBA {a b : ByteArray} (h : a ≠ b) : (a.toList == b.toList) = false := by rw [beq_eq_false_iff_ne]; exact fun e => h (ba_inj e)
/-- Two events compared by the program's '=='. -/
theorem evEq (a b : Ev) (w : World) : (Op.equalIn 10000 34 (evV a) (evV b)).run Tryz.prog w = .ok (decide (a = b)) w := by
  obtain ⟨k, f, b', l, t, c, p⟩ := a
  obtain ⟨k', f', b'', l', t', c', p'⟩ := b
  unfold evV
  simp only
  have key : decide ((⟨k, f, b', l, t, c, p⟩ : Ev) = ⟨k', f', b'', l', t', c', p'⟩) = ((k == k') && ((f == f') && ((b' == b'') && ((l == l') && ((t.toList == t'.toList) && ((c == c') && (p == p'))))))) := by
    rw [Bool.eq_iff_iff]
    simp only [decide_eq_true_eq, Bool.and_eq_true, beq_iff_eq]
    rw [Ev.same]
    simp only
    constructor
    · rintro ⟨h1, h2, h3, h4, h5, h6, h7⟩; exact ⟨h1, h2, h3, h4, by rw [h5], h6, h7⟩
    · rintro ⟨h1, h2, h3, h4, h5, h6, h7⟩; exact ⟨h1, h2, h3, h4, ba_inj h5, h6, h7⟩
  rw [key]
  clear key
  cases h1 : (k == k')
  · go_simp
  · cases h2 : (f == f')
    · go_simp
    · cases h3 : (b' == b'')
      · go_simp
      · cases h4 : (l == l')
        · go_simp
        · cases h5 : (t.toList == t'.toList)
          · go_simp
          · cases h6 : (c == c')
            · go_simp
            · cases h7 : (p == p')
              · go_simp
              · go_simp
theorem evEq_as {a b : Ev} {Q : Bool} (h : decide (a = b) = Q) (w : World) : (Op.equalIn 10000 34 (evV a) (evV b)).run Tryz.prog w = .ok Q w := h ▸ evEq a b w
def termB (e : Ev) : Bool := decide (e.kind = 9 ∨ e.kind = 10)
def manyN (l : List Ev) (k : Int) : Nat := l.countP fun e => decide (e.kind = k)
theorem manyN_take (l : List Ev) (k : Int) (i : Nat) (hi : i < l.length) : manyN (l.take (i + 1)) k = manyN (l.take i) k + (if l[i].kind = k then 1 else 0) := by
  unfold manyN
  rw [List.take_succ_eq_append_getElem hi, List.countP_append, List.countP_singleton]
  by_cases h : l[i].kind = k <;> simp [h]
theorem manyN_le (l : List Ev) (k : Int) : manyN l k ≤ l.length := List.countP_le_length
set_option maxHeartbeats 2000000 in
theorem specSameEvents_any (v u : Value) (l m : List Ev) (w : World) (hv : EvsAt w (· < w.heap.size) v l) (hu : EvsAt w (· < w.heap.size) u m) (hl : l.length ≤ 1048576000) (hm : m.length ≤ 1048576000) :
    Calls Tryz.prog 11 #[v, u] w fun e w' => e = .returned (.bool (decide (l = m))) ∧ Below w.heap.size w w' := by
  obtain ⟨R, hR⟩ : ∃ R, decide (l = m) = R := ⟨_, rfl⟩
  rw [hR]
  have Tell : Hid ((l = m → R = true) ∧ (l ≠ m → R = false)) := Lib.hid ⟨fun h => by rw [← hR]; exact decide_eq_true h, fun h => by rw [← hR]; exact decide_eq_false h⟩
  clear hR
  obtain ⟨a, cap, rfl⟩ := hv.len
  obtain ⟨a', cap', rfl⟩ := hu.len
  have H := Lib.hid hv
  have H' := Lib.hid hu
  clear hv hu
  by_cases hlen : l.length = m.length
  · have hlb : ((l.length : Int) == (m.length : Int)) = true := by rw [beq_iff_eq]; omega
    have hlb2 : (l.length == m.length) = true := by rw [beq_iff_eq]; exact hlen
    have hlb3 : ((l.length : Int) != (m.length : Int)) = false := by rw [bne, hlb]; rfl
    have hlb4 : (l.length != m.length) = false := by rw [bne, hlb2]; rfl
    have Hlen := Lib.hid hlen
    clear hlen
    go_enter Tryz.func11, Tryz.ntmps11
    go_wp2_with fail
    go_loopw [5] (fun i wr => ∃ k : Nat, k ≤ l.length ∧ i = .int .i64 k ∧ Hid (∀ j (h1 : j < l.length) (h2 : j < m.length), j < k → l[j] = m[j]) ∧ Below w.heap.size w wr) (fun i _ => l.length - (intOf i).toNat)
    case atStart => exact ⟨0, by omega, rfl, Lib.hid fun j _ _ hj => by omega, Below.refl _ _⟩
    case round =>
      obtain ⟨k, hk, rfl, hsame, hbr⟩ := hrel
      by_cases hlt : k < l.length
      · have hlts : k < m.length := by rw [← Hlen.out]; exact hlt
        have hlti : (k : Int) < (l.length : Int) := by omega
        have hltsi : (k : Int) < (m.length : Int) := by omega
        obtain ⟨b, o, rfl, hbC, c0, c1, c2, c3, c4, c5, c6⟩ := H.out.cellsAt k hlt
        obtain ⟨b', o', rfl, hbC', d0, d1, d2, d3, d4, d5, d6⟩ := H'.out.cellsAt k hlts
        rw [← hbr.cell (p := ⟨b, _, none⟩) hbC] at c0 c1 c2 c3 c4 c5 c6
        rw [← hbr.cell (p := ⟨b', _, none⟩) hbC'] at d0 d1 d2 d3 d4 d5 d6
        have Hne : Hid (l[k] ≠ m[k] → R = false) := Lib.hid fun h => Tell.out.2 fun e => h (by subst e; rfl)
        have Hnext : Hid (l[k] = m[k] → ∀ j (h1 : j < l.length) (h2 : j < m.length), j < k + 1 → l[j] = m[j]) := Lib.hid fun e j h1 h2 hj => by
          by_cases ej : j = k
          · subst ej; exact e
          · exact hsame.out j h1 h2 (by omega)
        clear hsame
        generalize l[k] = x at c0 c1 c2 c3 c4 c5 c6 Hne Hnext
        generalize m[k] = y at d0 d1 d2 d3 d4 d5 d6 Hne Hnext
        by_cases hxy : x = y
        · subst hxy
          have Hn := Lib.hid (Hnext.out rfl)
          have hE := evEq_as (a := x) (b := x) (Q := true) (decide_eq_true rfl)
          unfold evV at hE
          clear Hnext Hne
          go_wp2_with fail
          go_quiet (fail)
          go_wp2_with fail
          go_roundw
          case rel => exact ⟨k + 1, by omega, by go_num, Hn, below_drewN hbr _⟩
          case measure => simp [intOf]; omega
        · obtain rfl := Hne.out hxy
          have hE := evEq_as (a := x) (b := y) (Q := false) (decide_eq_false hxy)
          unfold evV at hE
          clear Hnext Hne hxy
          go_wp2_with fail
          go_quiet (fail)
          go_wp2_with fail
          go_ret
          exact ⟨rfl, below_drewN hbr _⟩
      · have hge : (l.length : Int) ≤ (k : Int) := by omega
        have hend : decide (k < l.length) = false := decide_eq_false hlt
        obtain rfl := Tell.out.1 (List.ext_getElem Hlen.out fun j h1 h2 => hsame.out j h1 h2 (by omega))
        go_wp2_with fail
        go_ret
        exact ⟨rfl, hbr⟩
  · obtain rfl := Tell.out.2 fun e => hlen (by rw [e])
    have hlb := neI (x := (l.length : Int)) (c := (m.length : Int)) (by omega)
    have hlb2 := neN hlen
    clear hlen
    go_enter Tryz.func11, Tryz.ntmps11
    go_wp2_with fail
    go_ret
    exact ⟨rfl, Below.refl _ _⟩
end Go.Proofs.YtcnpdcmdnmfnaaaGreat.Num
