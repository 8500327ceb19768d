/-
  The walk of slices.Equal at fields, as the program calls it: whether two lists of fields are equal; only new memory is written.
-/
import Derived.Test.YthjnpipincpkgaaSameSch
import Derived.Deep.QuietTactic
import Derived.BigQuiet
namespace Go.Proofs.Ythjnpipincpkgaa.Num.Sch
open Go.RowKit Go.Proofs
set_option linter.unusedVariables false
set_option linter.unusedSimpArgs false

set_option maxHeartbeats 8000000 in
set_option maxRecDepth 100000 in
theorem fieldsEq_any (v u : Value) (l m : List RF) (R : Bool) (w : World) (S : Nat → Prop) (hS : ∀ b, S b → b < w.heap.size) (hv : FieldsAt w S v l) (hu : FieldsAt w S u m) (hl : l.length < 4611686018427387904) (hm : m.length < 4611686018427387904) (tell : (l = m → R = true) ∧ (l ≠ m → R = false)) :
    Calls Try.prog 65 #[v, u] w fun e w' => e = .returned (.bool R) ∧ Below w.heap.size w w' := by
  have Tell := Lib.hid tell
  obtain ⟨a, cap, rfl⟩ := hv.len
  obtain ⟨a', cap', rfl⟩ := hu.len
  have H := Lib.hid hv
  have H' := Lib.hid hu
  have HS := Lib.hid hS
  clear tell hv hu hS
  by_cases hlen : l.length = m.length
  · have hlb : ((l.length : Int) == (m.length : Int)) = true := by rw [beq_iff_eq]; omega
    have hlb2 : (l.length == m.length) = true := by rw [beq_iff_eq]; exact hlen
    have hlb3 : ((l.length : Int) != (m.length : Int)) = false := by rw [bne, hlb]; rfl
    have hlb4 : (l.length != m.length) = false := by rw [bne, hlb2]; rfl
    have Hlen := Lib.hid hlen
    clear hlen
    go_enter Try.func65, Try.ntmps65
    go_wp2_with fail
    go_loopw [13] (fun i wr => ∃ j : Nat, j ≤ l.length ∧ i = .int .i64 j ∧ Hid (∀ q (h1 : q < l.length) (h2 : q < m.length), q < j → l[q] = m[q]) ∧ Below w.heap.size w wr) (fun i _ => l.length - (intOf i).toNat)
    case atStart => exact ⟨0, by omega, rfl, Lib.hid fun q _ _ hq => by omega, Below.refl _ _⟩
    case round =>
      obtain ⟨jj, hj, rfl, hsj, hbz⟩ := hrel
      by_cases hjl : jj < l.length
      · have hjl' : jj < m.length := by rw [← Hlen.out]; exact hjl
        have hji : (jj : Int) < (l.length : Int) := by omega
        have hji' : (jj : Int) < (m.length : Int) := by omega
        obtain ⟨fb, fo, fc, fv, fbS, fcs⟩ := H.out.cells (by omega)
        obtain ⟨rfl, rfl⟩ : a = some ⟨fb, fo, none⟩ ∧ cap = fc := by injection fv with e1 e2 e3; exact ⟨e1, e3⟩
        obtain ⟨x0, x1, x2, x3, x4⟩ := fcs jj hjl
        obtain ⟨gb, go, gc, gv, gbS, gcs⟩ := H'.out.cells (by omega)
        obtain ⟨rfl, rfl⟩ : a' = some ⟨gb, go, none⟩ ∧ cap' = gc := by injection gv with e1 e2 e3; exact ⟨e1, e3⟩
        obtain ⟨y0, y1, y2, y3, y4⟩ := gcs jj hjl'
        have fbC := HS.out _ fbS
        have gbC := HS.out _ gbS
        clear fcs fv gcs gv fbS gbS
        rw [← hbz.cell (p := ⟨fb, _, none⟩) fbC] at x0 x1 x2 x3 x4
        rw [← hbz.cell (p := ⟨gb, _, none⟩) gbC] at y0 y1 y2 y3 y4
        have Hnj : Hid (l[jj] = m[jj] → ∀ q (h1 : q < l.length) (h2 : q < m.length), q < jj + 1 → l[q] = m[q]) := Lib.hid fun e q h1 h2 hq => by
          by_cases eq : q = jj
          · subst eq; exact e
          · exact hsj.out q h1 h2 (by omega)
        have Hnej : Hid (l[jj] ≠ m[jj] → R = false) := Lib.hid fun h => Tell.out.2 (by intro e; subst e; exact h rfl)
        clear hsj
        generalize l[jj] = f at x0 x1 x2 x3 x4 Hnej Hnj
        generalize m[jj] = f' at y0 y1 y2 y3 y4 Hnej Hnj
        obtain ⟨A1, A2, A3, A4, A5⟩ := f
        obtain ⟨B1, B2, B3, B4, B5⟩ := f'
        simp only at x0 x1 x2 x3 x4 y0 y1 y2 y3 y4
        by_cases hf : (A1, A2, A3, A4, A5) = (B1, B2, B3, B4, B5)
        · have Hq := Lib.hid (Hnj.out hf)
          injection hf with e1 hf
          injection hf with e2 hf
          injection hf with e3 hf
          injection hf with e4 e5
          subst e1 e2 e3 e4 e5
          clear Hnj Hnej
          go_wp2_with fail
          go_quiet (fail)
          go_wp2_with fail
          go_roundw
          case rel => exact ⟨jj + 1, by omega, by go_num, Hq, below_drewN hbz _⟩
          case measure => simp [intOf]; omega
        · obtain rfl : R = false := Hnej.out hf
          clear Hnj Hnej
          have hd : A1 ≠ B1 ∨ (A1 = B1 ∧ A2 ≠ B2) ∨ (A1 = B1 ∧ A2 = B2 ∧ A3 ≠ B3) ∨ (A1 = B1 ∧ A2 = B2 ∧ A3 = B3 ∧ A4 ≠ B4) ∨ (A1 = B1 ∧ A2 = B2 ∧ A3 = B3 ∧ A4 = B4 ∧ A5 ≠ B5) := by
            by_cases e1 : A1 = B1
            · by_cases e2 : A2 = B2
              · by_cases e3 : A3 = B3
                · by_cases e4 : A4 = B4
                  · by_cases e5 : A5 = B5
                    · subst e1 e2 e3 e4 e5; exact absurd rfl hf
                    · exact .inr (.inr (.inr (.inr ⟨e1, e2, e3, e4, e5⟩)))
                  · exact .inr (.inr (.inr (.inl ⟨e1, e2, e3, e4⟩)))
                · exact .inr (.inr (.inl ⟨e1, e2, e3⟩))
              · exact .inr (.inl ⟨e1, e2⟩)
            · exact .inl e1
          clear hf
          rcases hd with e1 | ⟨rfl, e2⟩ | ⟨rfl, rfl, e3⟩ | ⟨rfl, rfl, rfl, e4⟩ | ⟨rfl, rfl, rfl, rfl, e5⟩
          · have hb : (A1 == B1) = false := neI e1
            clear e1
            go_wp2_with fail
            go_quiet (fail)
            go_wp2_with fail
            go_ret
            exact ⟨rfl, below_drewN hbz _⟩
          · have hb : (A2 == B2) = false := neI e2
            clear e2
            go_wp2_with fail
            go_quiet (fail)
            go_wp2_with fail
            go_ret
            exact ⟨rfl, below_drewN hbz _⟩
          · have hb : (A3 == B3) = false := neBool e3
            clear e3
            go_wp2_with fail
            go_quiet (fail)
            go_wp2_with fail
            go_ret
            exact ⟨rfl, below_drewN hbz _⟩
          · have hb : (A4 == B4) = false := neBool e4
            clear e4
            go_wp2_with fail
            go_quiet (fail)
            go_wp2_with fail
            go_ret
            exact ⟨rfl, below_drewN hbz _⟩
          · have hb : (A5 == B5) = false := neI e5
            clear e5
            go_wp2_with fail
            go_quiet (fail)
            go_wp2_with fail
            go_ret
            exact ⟨rfl, below_drewN hbz _⟩
      · have hge : (l.length : Int) ≤ (jj : Int) := by omega
        have hendj : decide (jj < l.length) = false := decide_eq_false hjl
        obtain rfl : R = true := Tell.out.1 (List.ext_getElem Hlen.out fun q h1 h2 => hsj.out q h1 h2 (by omega))
        go_wp2_with fail
        go_ret
        exact ⟨rfl, hbz⟩
  · obtain rfl : R = false := Tell.out.2 fun e => hlen (by rw [e])
    have hlb := neI (x := (l.length : Int)) (c := (m.length : Int)) (by omega)
    have hlb2 := neN hlen
    clear hlen
    go_enter Try.func65, Try.ntmps65
    go_wp2_with fail
    go_ret
    exact ⟨rfl, Below.refl _ _⟩
end Go.Proofs.Ythjnpipincpkgaa.Num.Sch
