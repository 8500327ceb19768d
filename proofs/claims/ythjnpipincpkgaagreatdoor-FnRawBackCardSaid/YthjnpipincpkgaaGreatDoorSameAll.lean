/-
  Several texts in one: ToSch SzSch EqSch SameSch FieldsEqS SameShapeI SameSchI.
-/
import Derived.Test.YthjnpipincpkgaaGreatDoorZone
import Derived.OwnWalk
import Derived.LoopTactic
import Derived.Deep.RegionWith
import Derived.Deep.QuietTactic
import Derived.BigQuiet

/-
  The walks of the laws' toSchema: a description laid anew in new memory, each of its rows in a block of its own.
-/
namespace Go.Proofs.YthjnpipincpkgaaGreatDoor.Num.Sch
open Go.RowKit Go.Proofs
set_option linter.unusedVariables false
set_option linter.unusedSimpArgs false

end Go.Proofs.YthjnpipincpkgaaGreatDoor.Num.Sch

/-
  The walks of the laws' szSchema: what is left is not below 0 only where no list is longer than the bound; nothing that was there is written.
-/
namespace Go.Proofs.YthjnpipincpkgaaGreatDoor.Num.Sch
open Go.RowKit Go.Proofs
set_option linter.unusedVariables false

end Go.Proofs.YthjnpipincpkgaaGreatDoor.Num.Sch

/-
  The walks of the laws' eqSchema: two values that hold the same description are equal; only new memory is written.
-/
namespace Go.Proofs.YthjnpipincpkgaaGreatDoor.Num.Sch
open Go.RowKit Go.Proofs
set_option linter.unusedVariables false

theorem eqRawField_same (f : RF) (w : World) :
    Calls Tryz.prog 124 #[fieldV f, fieldV f] w fun e w' => e = .returned (.bool true) ∧ Below w.heap.size w w' := by
  unfold fieldV
  go_enter Tryz.func124, Tryz.ntmps124
  go_wp2_with fail
  go_ret
  refine ⟨rfl, ?_⟩
  repeat (first | exact Below.refl _ _ | refine Below.setCell ?_ (by simp) _ | refine Below.alloc ?_ (by simp <;> omega) _)
set_option maxHeartbeats 1000000 in
theorem eqRawFieldS_same (v u : Value) (l : List RF) (w : World) (hv : FieldsAt w (· < w.heap.size) v l) (hu : FieldsAt w (· < w.heap.size) u l) (hl : l.length ≤ 1048576) :
    Calls Tryz.prog 103 #[v, u] w fun e w' => e = .returned (.bool true) ∧ Below w.heap.size w w' := by
  obtain ⟨a, cap, rfl⟩ := hv.len
  obtain ⟨a', cap', rfl⟩ := hu.len
  have H := Lib.hid hv
  have H' := Lib.hid hu
  clear hv hu
  go_enter Tryz.func103, Tryz.ntmps103
  go_wp2_with fail
  go_loopw [5] (fun i wr => ∃ k : Nat, k ≤ l.length ∧ i = .int .i64 k ∧ Below w.heap.size w wr) (fun i _ => l.length - (intOf i).toNat)
  case atStart => exact ⟨0, by omega, rfl, Below.refl _ _⟩
  case round =>
    obtain ⟨k, hk, rfl, hbr⟩ := hrel
    by_cases hlt : k < l.length
    · have hlti : (k : Int) < (l.length : Int) := by omega
      obtain ⟨b, o, c, hv, hbC, hcs⟩ := H.out.cells (by omega)
      obtain ⟨rfl, rfl⟩ : a = some ⟨b, o, none⟩ ∧ cap = c := by injection hv with e1 e2 e3; exact ⟨e1, e3⟩
      obtain ⟨c0, c1, c2, c3, c4⟩ := hcs k hlt
      obtain ⟨b', o', c', hv', hbC', hcs'⟩ := H'.out.cells (by omega)
      obtain ⟨rfl, rfl⟩ : a' = some ⟨b', o', none⟩ ∧ cap' = c' := by injection hv' with e1 e2 e3; exact ⟨e1, e3⟩
      obtain ⟨d0, d1, d2, d3, d4⟩ := hcs' k hlt
      clear hcs hv hcs' hv'
      rw [← hbr.cell (p := ⟨b, _, none⟩) hbC] at c0 c1 c2 c3 c4
      rw [← hbr.cell (p := ⟨b', _, none⟩) hbC'] at d0 d1 d2 d3 d4
      have He := Lib.hid (eqRawField_same l[k])
      unfold fieldV at He
      generalize l[k] = f at He c0 c1 c2 c3 c4 d0 d1 d2 d3 d4
      go_wp2_with fail
      go_region_with (go_at_call 124; refine (He.out _).mono ?_; rintro e w2 ⟨rfl, hb2⟩; have hl2 := hbr.drew.trans (hb2.mono hbr.size))
      all_goals
        clear c0 c1 c2 c3 c4 d0 d1 d2 d3 d4
        go_wp2_with fail
        go_roundw
        case rel => exact ⟨k + 1, by omega, by go_num, hl2⟩
        case measure => simp [intOf]; omega
    · have hge : (l.length : Int) ≤ (k : Int) := by omega
      have hend : decide (k < l.length) = false := decide_eq_false hlt
      go_wp2_with fail
      go_ret
      exact ⟨rfl, hbr⟩
theorem eqRawMsg_same (m : RM) (a a' : Option Addr) (cap cap' : Nat) (w : World) (hv : FieldsAt w (· < w.heap.size) (.slice a m.2.length cap) m.2) (hu : FieldsAt w (· < w.heap.size) (.slice a' m.2.length cap') m.2) (hl : m.2.length ≤ 1048576) :
    Calls Tryz.prog 82 #[.agg #[.int .i64 m.1, .slice a m.2.length cap], .agg #[.int .i64 m.1, .slice a' m.2.length cap']] w fun e w' => e = .returned (.bool true) ∧ Below w.heap.size w w' := by
  have H := Lib.hid hv
  have H' := Lib.hid hu
  have Hl := Lib.hid hl
  clear hv hu hl
  go_enter Tryz.func82, Tryz.ntmps82
  go_wp2_with fail
  have hl2 : Below w.heap.size w ((w.alloc (.cells #[.int .i64 m.1, .slice a m.2.length cap] 43)).alloc (.cells #[.int .i64 m.1, .slice a' m.2.length cap'] 43)) := by
    repeat (first | exact Below.refl _ _ | refine Below.alloc ?_ (by simp <;> omega) _)
  have hz2 : w.heap.size ≤ ((w.alloc (.cells #[.int .i64 m.1, .slice a m.2.length cap] 43)).alloc (.cells #[.int .i64 m.1, .slice a' m.2.length cap'] 43)).heap.size := hl2.size
  refine (eqRawFieldS_same _ _ m.2 _ (H.out.keep (below_sees hl2) fun b hb => by omega) (H'.out.keep (below_sees hl2) fun b hb => by omega) Hl.out).mono ?_
  rintro e w1 ⟨rfl, hb1⟩
  have hl3 := hl2.trans (hb1.mono hz2)
  clear hb1 hl2
  go_wp2_with fail
  go_ret
  exact ⟨rfl, hl3⟩
set_option maxHeartbeats 1000000 in
theorem eqRawMsgS_same (v u : Value) (l : List RM) (w : World) (hv : MsgsAt w (· < w.heap.size) v l) (hu : MsgsAt w (· < w.heap.size) u l) (hl : Small l) :
    Calls Tryz.prog 55 #[v, u] w fun e w' => e = .returned (.bool true) ∧ Below w.heap.size w w' := by
  obtain ⟨a, cap, rfl⟩ := hv.len
  obtain ⟨a', cap', rfl⟩ := hu.len
  have H := Lib.hid hv
  have H' := Lib.hid hu
  have hl1 := hl.1
  have Hl := Lib.hid hl.2
  clear hv hu hl
  go_enter Tryz.func55, Tryz.ntmps55
  go_wp2_with fail
  go_loopw [5] (fun i wr => ∃ k : Nat, k ≤ l.length ∧ i = .int .i64 k ∧ Below w.heap.size w wr) (fun i _ => l.length - (intOf i).toNat)
  case atStart => exact ⟨0, by omega, rfl, Below.refl _ _⟩
  case round =>
    obtain ⟨k, hk, rfl, hbr⟩ := hrel
    by_cases hlt : k < l.length
    · have hlti : (k : Int) < (l.length : Int) := by omega
      obtain ⟨b, o, c, hv, hbC, hcs⟩ := H.out.cells (by omega)
      obtain ⟨rfl, rfl⟩ : a = some ⟨b, o, none⟩ ∧ cap = c := by injection hv with e1 e2 e3; exact ⟨e1, e3⟩
      obtain ⟨x, c0, c1, hx⟩ := hcs k hlt
      obtain ⟨xa, xcap, rfl⟩ := hx.len
      obtain ⟨b', o', c', hv', hbC', hcs'⟩ := H'.out.cells (by omega)
      obtain ⟨rfl, rfl⟩ : a' = some ⟨b', o', none⟩ ∧ cap' = c' := by injection hv' with e1 e2 e3; exact ⟨e1, e3⟩
      obtain ⟨y, d0, d1, hy⟩ := hcs' k hlt
      obtain ⟨ya, ycap, rfl⟩ := hy.len
      have Hx := Lib.hid (hx.keep (below_sees hbr) (S' := (· < wr.heap.size)) fun b hb => Nat.lt_of_lt_of_le hb hbr.size)
      have Hy := Lib.hid (hy.keep (below_sees hbr) (S' := (· < wr.heap.size)) fun b hb => Nat.lt_of_lt_of_le hb hbr.size)
      have hsm := Lib.hid (Hl.out _ (List.getElem_mem hlt))
      clear hcs hv hcs' hv' hx hy
      rw [← hbr.cell (p := ⟨b, _, none⟩) hbC] at c0 c1
      rw [← hbr.cell (p := ⟨b', _, none⟩) hbC'] at d0 d1
      have He := Lib.hid (eqRawMsg_same l[k] xa ya xcap ycap wr.drew (Hx.out.keep (fun _ _ _ => rfl) fun _ h => h) (Hy.out.keep (fun _ _ _ => rfl) fun _ h => h) hsm.out)
      clear Hx Hy hsm
      generalize l[k] = f at He c0 c1 d0 d1
      go_wp2_with fail
      go_region_with (go_at_call 82; refine He.out.mono ?_; rintro e w2 ⟨rfl, hb2⟩; have hl2 := hbr.drew.trans (hb2.mono hbr.size))
      all_goals
        clear c0 c1 d0 d1
        go_wp2_with fail
        go_roundw
        case rel => exact ⟨k + 1, by omega, by go_num, hl2⟩
        case measure => simp [intOf]; omega
    · have hge : (l.length : Int) ≤ (k : Int) := by omega
      have hend : decide (k < l.length) = false := decide_eq_false hlt
      go_wp2_with fail
      go_ret
      exact ⟨rfl, hbr⟩
theorem eqRaw_same (v u : Value) (r : List RM) (w : World) (hv : RawAt w (· < w.heap.size) v r) (hu : RawAt w (· < w.heap.size) u r) (hl : Small r) :
    Calls Tryz.prog 24 #[v, u] w fun e w' => e = .returned (.bool true) ∧ Below w.heap.size w w' := by
  obtain ⟨x, rfl, hx⟩ := hv
  obtain ⟨y, rfl, hy⟩ := hu
  obtain ⟨a, cap, rfl⟩ := hx.len
  obtain ⟨a', cap', rfl⟩ := hy.len
  have H := Lib.hid hx
  have H' := Lib.hid hy
  have Hl := Lib.hid hl
  clear hx hy hl
  go_enter Tryz.func24, Tryz.ntmps24
  go_wp2_with fail
  have hl2 : Below w.heap.size w ((w.alloc (.cells #[.slice a r.length cap] 30)).alloc (.cells #[.slice a' r.length cap'] 30)) := by
    repeat (first | exact Below.refl _ _ | refine Below.alloc ?_ (by simp <;> omega) _)
  have hz2 := hl2.size
  refine (eqRawMsgS_same _ _ r _ (H.out.keep (below_sees hl2) fun b hb => by omega) (H'.out.keep (below_sees hl2) fun b hb => by omega) Hl.out).mono ?_
  rintro e w1 ⟨rfl, hb1⟩
  have hl3 := hl2.trans (hb1.mono hz2)
  clear hb1 hl2
  go_wp2_with fail
  go_ret
  exact ⟨rfl, hl3⟩
end Go.Proofs.YthjnpipincpkgaaGreatDoor.Num.Sch

/-
  The walk of the reference's SameSchema: whether two descriptions are equal; only new memory is written.
-/
namespace Go.Proofs.YthjnpipincpkgaaGreatDoor.Num.Sch
open Go.RowKit Go.Proofs
set_option linter.unusedVariables false
set_option linter.unusedSimpArgs false

set_option maxHeartbeats 8000000 in
set_option maxRecDepth 100000 in
theorem specSameRaw_any (v u : Value) (r s : List RM) (w : World) (hv : RawAt w (· < w.heap.size) v r) (hu : RawAt w (· < w.heap.size) u s) (hr : Small r) (hs : Small s) :
    Calls Tryz.prog 19 #[v, u] w fun e w' => e = .returned (.bool (sameB r s)) ∧ Below w.heap.size w w' := by
  obtain ⟨R, hR⟩ : ∃ R, sameB r s = R := ⟨_, rfl⟩
  rw [hR]
  have tell : Hid ((r = s → R = true) ∧ (r ≠ s → R = false)) := Lib.hid ⟨fun h => by rw [← hR]; exact same_yes h, fun h => by rw [← hR]; exact same_no h⟩
  clear hR
  obtain ⟨x, rfl, hx⟩ := hv
  obtain ⟨y, rfl, hy⟩ := hu
  obtain ⟨a, cap, rfl⟩ := hx.len
  obtain ⟨a', cap', rfl⟩ := hy.len
  have H := Lib.hid hx
  have H' := Lib.hid hy
  have Hr := Lib.hid hr.2
  have Hs := Lib.hid hs.2
  have hr1 := hr.1
  have hs1 := hs.1
  clear hx hy hr hs
  by_cases hlen : r.length = s.length
  · have hlb : ((r.length : Int) == (s.length : Int)) = true := by rw [beq_iff_eq]; omega
    have hlb2 : (r.length == s.length) = true := by rw [beq_iff_eq]; exact hlen
    have hlb3 : ((r.length : Int) != (s.length : Int)) = false := by rw [bne, hlb]; rfl
    have hlb4 : (r.length != s.length) = false := by rw [bne, hlb2]; rfl
    have Hlen := Lib.hid hlen
    clear hlen
    go_enter Tryz.func19, Tryz.ntmps19
    go_wp2_with fail
    go_loopw [5] (fun i wr => ∃ k : Nat, k ≤ r.length ∧ i = .int .i64 k ∧ Hid (∀ j (h1 : j < r.length) (h2 : j < s.length), j < k → r[j] = s[j]) ∧ Hid (Box wr w.heap.size [.slice a r.length cap]) ∧ Hid (Box wr (w.heap.size + 1) [.slice a' s.length cap']) ∧ Below w.heap.size w wr) (fun i _ => r.length - (intOf i).toNat)
    case atStart => exact ⟨0, by omega, rfl, Lib.hid fun j _ _ hj => by omega, Lib.hid ((Box.fresh _ _ _).alloc _), Lib.hid (by
        have h := Box.fresh (w.alloc (.cells #[.slice a r.length cap] 30)) #[.slice a' s.length cap'] 30
        rwa [show (w.alloc (.cells #[.slice a r.length cap] 30)).heap.size = w.heap.size + 1 by simp] at h), ((Below.refl _ _).alloc (Nat.le_refl _) _).alloc (by simp) _⟩
    case round =>
      obtain ⟨k, hk, rfl, hsame, hbx, hby, hbr⟩ := hrel
      have hzx := hbx.out.lt
      have hzy := hby.out.lt
      obtain ⟨p0, q0⟩ := hbx.out.one
      obtain ⟨p1, q1⟩ := hby.out.one
      by_cases hlt : k < r.length
      · have hlts : k < s.length := by rw [← Hlen.out]; exact hlt
        have hlti : (k : Int) < (r.length : Int) := by omega
        have hltsi : (k : Int) < (s.length : Int) := by omega
        obtain ⟨b, o, c, hv, hbC, hcs⟩ := H.out.cells (by omega)
        obtain ⟨rfl, rfl⟩ : a = some ⟨b, o, none⟩ ∧ cap = c := by injection hv with e1 e2 e3; exact ⟨e1, e3⟩
        obtain ⟨x, c0, c1, hx⟩ := hcs k hlt
        obtain ⟨xa, xcap, rfl⟩ := hx.len
        obtain ⟨b', o', c', hv', hbC', hcs'⟩ := H'.out.cells (by omega)
        obtain ⟨rfl, rfl⟩ : a' = some ⟨b', o', none⟩ ∧ cap' = c' := by injection hv' with e1 e2 e3; exact ⟨e1, e3⟩
        obtain ⟨y, d0, d1, hy⟩ := hcs' k hlts
        obtain ⟨ya, ycap, rfl⟩ := hy.len
        have hne : r[k] ≠ s[k] → R = false := fun h => tell.out.2 fun e => h (by subst e; rfl)
        have hsm1 := Hr.out _ (List.getElem_mem hlt)
        have hsm2 := Hs.out _ (List.getElem_mem hlts)
        clear hcs hv hcs' hv'
        rw [← hbr.cell (p := ⟨b, _, none⟩) hbC] at c0 c1
        rw [← hbr.cell (p := ⟨b', _, none⟩) hbC'] at d0 d1
        have hbw : b < wr.heap.size := Nat.lt_of_lt_of_le hbC hbr.size
        have hbw' : b' < wr.heap.size := Nat.lt_of_lt_of_le hbC' hbr.size
        have Hnext : Hid (r[k] = s[k] → ∀ j (h1 : j < r.length) (h2 : j < s.length), j < k + 1 → r[j] = s[j]) := Lib.hid fun e j h1 h2 hj => by
          by_cases ej : j = k
          · subst ej; exact e
          · exact hsame.out j h1 h2 (by omega)
        have Hx := Lib.hid hx
        have Hy := Lib.hid hy
        clear hx hy hsame
        generalize r[k] = m at c0 c1 hne Hnext Hx hsm1
        generalize s[k] = n at d0 d1 hne Hnext Hy hsm2
        obtain ⟨id, fs⟩ := m
        obtain ⟨id', fs'⟩ := n
        simp only at c0 c1 d0 d1 hne Hnext Hx Hy hsm1 hsm2
        have Hne := Lib.hid hne
        clear hne
        by_cases hid : id = id'
        · subst hid
          by_cases hfl : fs.length = fs'.length
          · have hfb : ((fs.length : Int) == (fs'.length : Int)) = true := by rw [beq_iff_eq]; omega
            have hfb2 : (fs.length == fs'.length) = true := by rw [beq_iff_eq]; exact hfl
            have hfb3 : ((fs.length : Int) != (fs'.length : Int)) = false := by rw [bne, hfb]; rfl
            have hfb4 : (fs.length != fs'.length) = false := by rw [bne, hfb2]; rfl
            have Hfl := Lib.hid hfl
            clear hfl
            go_wp2_with fail
            have hbq : Below w.heap.size w ((wr.alloc (.cells #[.int .i64 id, .slice xa fs.length xcap] 43)).alloc (.cells #[.int .i64 id, .slice ya fs'.length ycap] 43)) := by
              repeat (first | exact hbr | refine Below.alloc ?_ (by first | omega | (simp <;> omega)) _)
            have hxq : Box ((wr.alloc (.cells #[.int .i64 id, .slice xa fs.length xcap] 43)).alloc (.cells #[.int .i64 id, .slice ya fs'.length ycap] 43)) wr.heap.size [.int .i64 id, .slice xa fs.length xcap] := (Box.fresh _ _ _).alloc _
            have hyq : Box ((wr.alloc (.cells #[.int .i64 id, .slice xa fs.length xcap] 43)).alloc (.cells #[.int .i64 id, .slice ya fs'.length ycap] 43)) (wr.heap.size + 1) [.int .i64 id, .slice ya fs'.length ycap] := by
              have h := Box.fresh (wr.alloc (.cells #[.int .i64 id, .slice xa fs.length xcap] 43)) #[.int .i64 id, .slice ya fs'.length ycap] 43
              rwa [show (wr.alloc (.cells #[.int .i64 id, .slice xa fs.length xcap] 43)).heap.size = wr.heap.size + 1 by simp] at h
            have hax : Box ((wr.alloc (.cells #[.int .i64 id, .slice xa fs.length xcap] 43)).alloc (.cells #[.int .i64 id, .slice ya fs'.length ycap] 43)) w.heap.size [.slice (some ⟨b, o, none⟩) r.length cap] := (hbx.out.alloc _).alloc _
            have hay : Box ((wr.alloc (.cells #[.int .i64 id, .slice xa fs.length xcap] 43)).alloc (.cells #[.int .i64 id, .slice ya fs'.length ycap] 43)) (w.heap.size + 1) [.slice (some ⟨b', o', none⟩) s.length cap'] := (hby.out.alloc _).alloc _
            generalize ((wr.alloc (.cells #[.int .i64 id, .slice xa fs.length xcap] 43)).alloc (.cells #[.int .i64 id, .slice ya fs'.length ycap] 43)) = wq at hbq hxq hyq hax hay ⊢
            generalize wr.heap.size = g at hxq hyq ⊢
            clear c0 c1 d0 d1 p0 q0 p1 q1 hzx hzy hbx hby hbr hbw hbw'
            go_loopw [8] (fun i wz => ∃ j : Nat, j ≤ fs.length ∧ i = .int .i64 j ∧ Hid (∀ q (h1 : q < fs.length) (h2 : q < fs'.length), q < j → fs[q] = fs'[q]) ∧ Hid (Box wz g [.int .i64 id, .slice xa fs.length xcap]) ∧ Hid (Box wz (g + 1) [.int .i64 id, .slice ya fs'.length ycap]) ∧ Hid (Box wz w.heap.size [.slice (some ⟨b, o, none⟩) r.length cap]) ∧ Hid (Box wz (w.heap.size + 1) [.slice (some ⟨b', o', none⟩) s.length cap']) ∧ Below w.heap.size w wz) (fun i _ => fs.length - (intOf i).toNat)
            case atStart => exact ⟨0, by omega, rfl, Lib.hid fun q _ _ hq => by omega, Lib.hid hxq, Lib.hid hyq, Lib.hid hax, Lib.hid hay, hbq⟩
            case round =>
              clear hbq hxq hyq hax hay
              obtain ⟨jj, hj, rfl, hsj, hxz, hyz, hax, hay, hbz⟩ := hrel
              obtain ⟨c0, c1, f0, f1⟩ := hxz.out.two
              obtain ⟨d0, d1, f2, f3⟩ := hyz.out.two
              by_cases hjl : jj < fs.length
              · have hjl' : jj < fs'.length := by rw [← Hfl.out]; exact hjl
                have hji : (jj : Int) < (fs.length : Int) := by omega
                have hji' : (jj : Int) < (fs'.length : Int) := by omega
                obtain ⟨fb, fo, fc, fv, fbC, fcs⟩ := Hx.out.cells (by omega)
                obtain ⟨rfl, rfl⟩ : xa = some ⟨fb, fo, none⟩ ∧ xcap = fc := by injection fv with e1 e2 e3; exact ⟨e1, e3⟩
                obtain ⟨x0, x1, x2, x3, x4⟩ := fcs jj hjl
                obtain ⟨gb, go, gc, gv, gbC, gcs⟩ := Hy.out.cells (by omega)
                obtain ⟨rfl, rfl⟩ : ya = some ⟨gb, go, none⟩ ∧ ycap = gc := by injection gv with e1 e2 e3; exact ⟨e1, e3⟩
                obtain ⟨y0, y1, y2, y3, y4⟩ := gcs jj hjl'
                clear fcs fv gcs gv
                rw [← hbz.cell (p := ⟨fb, _, none⟩) fbC] at x0 x1 x2 x3 x4
                rw [← hbz.cell (p := ⟨gb, _, none⟩) gbC] at y0 y1 y2 y3 y4
                have hnej : fs[jj] ≠ fs'[jj] → R = false := fun h => Hne.out (by intro e; injection e with _ e; subst e; exact h rfl)
                have Hnj : Hid (fs[jj] = fs'[jj] → ∀ q (h1 : q < fs.length) (h2 : q < fs'.length), q < jj + 1 → fs[q] = fs'[q]) := Lib.hid fun e q h1 h2 hq => by
                  by_cases eq : q = jj
                  · subst eq; exact e
                  · exact hsj.out q h1 h2 (by omega)
                clear hsj
                generalize fs[jj] = f at x0 x1 x2 x3 x4 hnej Hnj
                generalize fs'[jj] = f' at y0 y1 y2 y3 y4 hnej Hnj
                obtain ⟨A1, A2, A3, A4, A5⟩ := f
                obtain ⟨B1, B2, B3, B4, B5⟩ := f'
                simp only at x0 x1 x2 x3 x4 y0 y1 y2 y3 y4
                have Hnej := Lib.hid hnej
                clear hnej
                by_cases e1 : A1 = B1
                · subst e1
                  by_cases e2 : A2 = B2
                  · subst e2
                    by_cases e3 : A3 = B3
                    · subst e3
                      by_cases e4 : A4 = B4
                      · subst e4
                        by_cases e5 : A5 = B5
                        · subst e5
                          go_wp2_with fail
                          go_quiet (fail)
                          go_wp2_with fail
                          go_roundw
                          case rel => exact ⟨jj + 1, by omega, by go_num, Lib.hid (Hnj.out (by trivial)), Lib.hid (hxz.out.drewN _), Lib.hid (hyz.out.drewN _), Lib.hid (hax.out.drewN _), Lib.hid (hay.out.drewN _), below_drewN hbz _⟩
                          case measure => simp [intOf]; omega
                        · obtain rfl : R = false := Hnej.out (by intro h; simp only [Prod.mk.injEq] at h; exact e5 (by first | exact h.1 | exact h.2.1 | exact h.2.2.1 | exact h.2.2.2.1 | exact h.2.2.2.2 | simpa using h))
                          have hb : (A5 == B5) = false := neI e5
                          clear e5
                          go_wp2_with fail
                          go_quiet (fail)
                          go_wp2_with fail
                          go_ret
                          exact ⟨rfl, below_drewN hbz _⟩
                      · obtain rfl : R = false := Hnej.out (by intro h; simp only [Prod.mk.injEq] at h; exact e4 (by first | exact h.1 | exact h.2.1 | exact h.2.2.1 | exact h.2.2.2.1 | exact h.2.2.2.2 | simpa using h))
                        have hb : (A4 == B4) = false := neBool e4
                        clear e4
                        go_wp2_with fail
                        go_quiet (fail)
                        go_wp2_with fail
                        go_ret
                        exact ⟨rfl, below_drewN hbz _⟩
                    · obtain rfl : R = false := Hnej.out (by intro h; simp only [Prod.mk.injEq] at h; exact e3 (by first | exact h.1 | exact h.2.1 | exact h.2.2.1 | exact h.2.2.2.1 | exact h.2.2.2.2 | simpa using h))
                      have hb : (A3 == B3) = false := neBool e3
                      clear e3
                      go_wp2_with fail
                      go_quiet (fail)
                      go_wp2_with fail
                      go_ret
                      exact ⟨rfl, below_drewN hbz _⟩
                  · obtain rfl : R = false := Hnej.out (by intro h; simp only [Prod.mk.injEq] at h; exact e2 (by first | exact h.1 | exact h.2.1 | exact h.2.2.1 | exact h.2.2.2.1 | exact h.2.2.2.2 | simpa using h))
                    have hb : (A2 == B2) = false := neI e2
                    clear e2
                    go_wp2_with fail
                    go_quiet (fail)
                    go_wp2_with fail
                    go_ret
                    exact ⟨rfl, below_drewN hbz _⟩
                · obtain rfl : R = false := Hnej.out (by intro h; simp only [Prod.mk.injEq] at h; exact e1 (by first | exact h.1 | exact h.2.1 | exact h.2.2.1 | exact h.2.2.2.1 | exact h.2.2.2.2 | simpa using h))
                  have hb : (A1 == B1) = false := neI e1
                  clear e1
                  go_wp2_with fail
                  go_quiet (fail)
                  go_wp2_with fail
                  go_ret
                  exact ⟨rfl, below_drewN hbz _⟩
              · have hge : (fs.length : Int) ≤ (jj : Int) := by omega
                have hendj : decide (jj < fs.length) = false := decide_eq_false hjl
                have hfe : fs = fs' := List.ext_getElem Hfl.out fun q h1 h2 => hsj.out q h1 h2 (by omega)
                have Hall := Lib.hid (Hnext.out (by rw [hfe]))
                clear hfe
                go_wp2_with fail
                go_roundw
                case rel => exact ⟨k + 1, by omega, by go_num, Hall, hax, hay, hbz⟩
                case measure => simp [intOf]; omega
          · obtain rfl : R = false := Hne.out (by intro e; injection e with _ e; exact hfl (by rw [e]))
            have hfb : ((fs.length : Int) == (fs'.length : Int)) = false := neI (by omega)
            have hfb2 : (fs.length == fs'.length) = false := neN hfl
            clear hfl
            go_wp2_with fail
            go_ret
            refine ⟨rfl, ?_⟩
            repeat (first | exact hbr | refine Below.alloc ?_ (by first | omega | (simp <;> omega)) _)
        · obtain rfl : R = false := Hne.out (by intro e; injection e with e _; exact hid e)
          have hib := neI hid
          clear hid
          go_wp2_with fail
          go_ret
          refine ⟨rfl, ?_⟩
          repeat (first | exact hbr | refine Below.alloc ?_ (by first | omega | (simp <;> omega)) _)
      · have hge : (r.length : Int) ≤ (k : Int) := by omega
        have hend : decide (k < r.length) = false := decide_eq_false hlt
        obtain rfl : R = true := tell.out.1 (List.ext_getElem Hlen.out fun j h1 h2 => hsame.out j h1 h2 (by omega))
        go_wp2_with fail
        go_ret
        exact ⟨rfl, hbr⟩
  · obtain rfl : R = false := tell.out.2 fun e => hlen (by rw [e])
    have hlb := neI (x := (r.length : Int)) (c := (s.length : Int)) (by omega)
    have hlb2 := neN hlen
    clear hlen
    go_enter Tryz.func19, Tryz.ntmps19
    go_wp2_with fail
    go_ret
    refine ⟨rfl, ?_⟩
    repeat (first | exact Below.refl _ _ | refine Below.alloc ?_ (by first | omega | (simp <;> omega)) _)
end Go.Proofs.YthjnpipincpkgaaGreatDoor.Num.Sch

/-
  The walk of slices.Equal at fields, as the program calls it: whether two lists of fields are equal; only new memory is written.
-/
namespace Go.Proofs.YthjnpipincpkgaaGreatDoor.Num.Sch
open Go.RowKit Go.Proofs
set_option linter.unusedVariables false
set_option linter.unusedSimpArgs false

set_option maxHeartbeats 8000000 in
set_option maxRecDepth 100000 in
theorem fieldsEq_any (v u : Value) (l m : List RF) (R : Bool) (w : World) (S : Nat → Prop) (hS : ∀ b, S b → b < w.heap.size) (hv : FieldsAt w S v l) (hu : FieldsAt w S u m) (hl : l.length < 4611686018427387904) (hm : m.length < 4611686018427387904) (tell : (l = m → R = true) ∧ (l ≠ m → R = false)) :
    Calls Tryz.prog 77 #[v, u] w fun e w' => e = .returned (.bool R) ∧ Below w.heap.size w w' := by
  have Tell := Lib.hid tell
  obtain ⟨a, cap, rfl⟩ := hv.len
  obtain ⟨a', cap', rfl⟩ := hu.len
  have H := Lib.hid hv
  have H' := Lib.hid hu
  have HS := Lib.hid hS
  clear tell hv hu hS
  by_cases hlen : l.length = m.length
  · have hlb : ((l.length : Int) == (m.length : Int)) = true := by rw [beq_iff_eq]; omega
    have hlb2 : (l.length == m.length) = true := by rw [beq_iff_eq]; exact hlen
    have hlb3 : ((l.length : Int) != (m.length : Int)) = false := by rw [bne, hlb]; rfl
    have hlb4 : (l.length != m.length) = false := by rw [bne, hlb2]; rfl
    have Hlen := Lib.hid hlen
    clear hlen
    go_enter Tryz.func77, Tryz.ntmps77
    go_wp2_with fail
    go_loopw [13] (fun i wr => ∃ j : Nat, j ≤ l.length ∧ i = .int .i64 j ∧ Hid (∀ q (h1 : q < l.length) (h2 : q < m.length), q < j → l[q] = m[q]) ∧ Below w.heap.size w wr) (fun i _ => l.length - (intOf i).toNat)
    case atStart => exact ⟨0, by omega, rfl, Lib.hid fun q _ _ hq => by omega, Below.refl _ _⟩
    case round =>
      obtain ⟨jj, hj, rfl, hsj, hbz⟩ := hrel
      by_cases hjl : jj < l.length
      · have hjl' : jj < m.length := by rw [← Hlen.out]; exact hjl
        have hji : (jj : Int) < (l.length : Int) := by omega
        have hji' : (jj : Int) < (m.length : Int) := by omega
        obtain ⟨fb, fo, fc, fv, fbS, fcs⟩ := H.out.cells (by omega)
        obtain ⟨rfl, rfl⟩ : a = some ⟨fb, fo, none⟩ ∧ cap = fc := by injection fv with e1 e2 e3; exact ⟨e1, e3⟩
        obtain ⟨x0, x1, x2, x3, x4⟩ := fcs jj hjl
        obtain ⟨gb, go, gc, gv, gbS, gcs⟩ := H'.out.cells (by omega)
        obtain ⟨rfl, rfl⟩ : a' = some ⟨gb, go, none⟩ ∧ cap' = gc := by injection gv with e1 e2 e3; exact ⟨e1, e3⟩
        obtain ⟨y0, y1, y2, y3, y4⟩ := gcs jj hjl'
        have fbC := HS.out _ fbS
        have gbC := HS.out _ gbS
        clear fcs fv gcs gv fbS gbS
        rw [← hbz.cell (p := ⟨fb, _, none⟩) fbC] at x0 x1 x2 x3 x4
        rw [← hbz.cell (p := ⟨gb, _, none⟩) gbC] at y0 y1 y2 y3 y4
        have Hnj : Hid (l[jj] = m[jj] → ∀ q (h1 : q < l.length) (h2 : q < m.length), q < jj + 1 → l[q] = m[q]) := Lib.hid fun e q h1 h2 hq => by
          by_cases eq : q = jj
          · subst eq; exact e
          · exact hsj.out q h1 h2 (by omega)
        have Hnej : Hid (l[jj] ≠ m[jj] → R = false) := Lib.hid fun h => Tell.out.2 (by intro e; subst e; exact h rfl)
        clear hsj
        generalize l[jj] = f at x0 x1 x2 x3 x4 Hnej Hnj
        generalize m[jj] = f' at y0 y1 y2 y3 y4 Hnej Hnj
        obtain ⟨A1, A2, A3, A4, A5⟩ := f
        obtain ⟨B1, B2, B3, B4, B5⟩ := f'
        simp only at x0 x1 x2 x3 x4 y0 y1 y2 y3 y4
        by_cases hf : (A1, A2, A3, A4, A5) = (B1, B2, B3, B4, B5)
        · have Hq := Lib.hid (Hnj.out hf)
          injection hf with e1 hf
          injection hf with e2 hf
          injection hf with e3 hf
          injection hf with e4 e5
          subst e1 e2 e3 e4 e5
          clear Hnj Hnej
          go_wp2_with fail
          go_quiet (fail)
          go_wp2_with fail
          go_roundw
          case rel => exact ⟨jj + 1, by omega, by go_num, Hq, below_drewN hbz _⟩
          case measure => simp [intOf]; omega
        · obtain rfl : R = false := Hnej.out hf
          clear Hnj Hnej
          have hd : A1 ≠ B1 ∨ (A1 = B1 ∧ A2 ≠ B2) ∨ (A1 = B1 ∧ A2 = B2 ∧ A3 ≠ B3) ∨ (A1 = B1 ∧ A2 = B2 ∧ A3 = B3 ∧ A4 ≠ B4) ∨ (A1 = B1 ∧ A2 = B2 ∧ A3 = B3 ∧ A4 = B4 ∧ A5 ≠ B5) := by
            by_cases e1 : A1 = B1
            · by_cases e2 : A2 = B2
              · by_cases e3 : A3 = B3
                · by_cases e4 : A4 = B4
                  · by_cases e5 : A5 = B5
                    · subst e1 e2 e3 e4 e5; exact absurd rfl hf
                    · exact .inr (.inr (.inr (.inr ⟨e1, e2, e3, e4, e5⟩)))
                  · exact .inr (.inr (.inr (.inl ⟨e1, e2, e3, e4⟩)))
                · exact .inr (.inr (.inl ⟨e1, e2, e3⟩))
              · exact .inr (.inl ⟨e1, e2⟩)
            · exact .inl e1
          clear hf
          rcases hd with e1 | ⟨rfl, e2⟩ | ⟨rfl, rfl, e3⟩ | ⟨rfl, rfl, rfl, e4⟩ | ⟨rfl, rfl, rfl, rfl, e5⟩
          · have hb : (A1 == B1) = false := neI e1
            clear e1
            go_wp2_with fail
            go_quiet (fail)
            go_wp2_with fail
            go_ret
            exact ⟨rfl, below_drewN hbz _⟩
          · have hb : (A2 == B2) = false := neI e2
            clear e2
            go_wp2_with fail
            go_quiet (fail)
            go_wp2_with fail
            go_ret
            exact ⟨rfl, below_drewN hbz _⟩
          · have hb : (A3 == B3) = false := neBool e3
            clear e3
            go_wp2_with fail
            go_quiet (fail)
            go_wp2_with fail
            go_ret
            exact ⟨rfl, below_drewN hbz _⟩
          · have hb : (A4 == B4) = false := neBool e4
            clear e4
            go_wp2_with fail
            go_quiet (fail)
            go_wp2_with fail
            go_ret
            exact ⟨rfl, below_drewN hbz _⟩
          · have hb : (A5 == B5) = false := neI e5
            clear e5
            go_wp2_with fail
            go_quiet (fail)
            go_wp2_with fail
            go_ret
            exact ⟨rfl, below_drewN hbz _⟩
      · have hge : (l.length : Int) ≤ (jj : Int) := by omega
        have hendj : decide (jj < l.length) = false := decide_eq_false hjl
        obtain rfl : R = true := Tell.out.1 (List.ext_getElem Hlen.out fun q h1 h2 => hsj.out q h1 h2 (by omega))
        go_wp2_with fail
        go_ret
        exact ⟨rfl, hbz⟩
  · obtain rfl : R = false := Tell.out.2 fun e => hlen (by rw [e])
    have hlb := neI (x := (l.length : Int)) (c := (m.length : Int)) (by omega)
    have hlb2 := neN hlen
    clear hlen
    go_enter Tryz.func77, Tryz.ntmps77
    go_wp2_with fail
    go_ret
    exact ⟨rfl, Below.refl _ _⟩
end Go.Proofs.YthjnpipincpkgaaGreatDoor.Num.Sch

/-
  The walk of the program's comparison of two shapes: whether Id and fields are equal; only new memory is written.
-/
namespace Go.Proofs.YthjnpipincpkgaaGreatDoor.Num.Sch
open Go.RowKit Go.Proofs
set_option linter.unusedVariables false
set_option linter.unusedSimpArgs false

set_option maxHeartbeats 4000000 in
set_option maxRecDepth 100000 in
theorem sameMsg_any (id id' : Int) (v u : Value) (l m : List RF) (R : Bool) (w : World) (S : Nat → Prop) (hS : ∀ b, S b → b < w.heap.size) (hv : FieldsAt w S v l) (hu : FieldsAt w S u m) (hl : l.length < 4611686018427387904) (hm : m.length < 4611686018427387904) (tell : ((id, l) = (id', m) → R = true) ∧ ((id, l) ≠ (id', m) → R = false)) :
    Calls Tryz.prog 49 #[.agg #[.int .i64 id, v], .agg #[.int .i64 id', u]] w fun e w' => e = .returned (.bool R) ∧ Below w.heap.size w w' := by
  obtain ⟨a, cap, rfl⟩ := hv.len
  obtain ⟨a', cap', rfl⟩ := hu.len
  have H := Lib.hid hv
  have H' := Lib.hid hu
  have HS := Lib.hid hS
  have Tell := Lib.hid tell
  clear tell hv hu hS
  by_cases hid : id = id'
  · subst hid
    have T2 : Hid ((l = m → R = true) ∧ (l ≠ m → R = false)) := Lib.hid ⟨fun e => Tell.out.1 (by rw [e]), fun e => Tell.out.2 (by intro e'; injection e' with _ e'; exact e e')⟩
    clear Tell
    go_enter Tryz.func49, Tryz.ntmps49
    go_wp2_with fail
    have hb : Below w.heap.size w ((w.alloc (.cells #[.int .i64 id, .slice a l.length cap] 43)).alloc (.cells #[.int .i64 id, .slice a' m.length cap'] 43)) := ((Below.refl _ _).alloc (Nat.le_refl _) _).alloc (by simp) _
    refine (fieldsEq_any _ _ l m R _ S (fun b hb' => Nat.lt_of_lt_of_le (HS.out b hb') hb.size) (H.out.keep (.of_below hb HS.out) fun _ h => h) (H'.out.keep (.of_below hb HS.out) fun _ h => h) hl hm T2.out).mono ?_
    rintro e w1 ⟨rfl, hb1⟩
    have hb2 := hb.trans (hb1.mono hb.size)
    clear hb hb1
    go_wp2_with fail
    go_ret
    exact ⟨rfl, hb2⟩
  · obtain rfl : R = false := Tell.out.2 (by intro e; injection e with e _; exact hid e)
    have hib := neI hid
    clear hid Tell
    go_enter Tryz.func49, Tryz.ntmps49
    go_wp2_with fail
    go_ret
    exact ⟨rfl, ((Below.refl _ _).alloc (Nat.le_refl _) _).alloc (by simp) _⟩
end Go.Proofs.YthjnpipincpkgaaGreatDoor.Num.Sch

/-
  The walks of slices.EqualFunc at shapes, as the program calls it, and of the program's SameSchema: whether two schemas are equal; only new memory is written.
-/
namespace Go.Proofs.YthjnpipincpkgaaGreatDoor.Num.Sch
open Go.RowKit Go.Proofs
set_option linter.unusedVariables false
set_option linter.unusedSimpArgs false

set_option maxHeartbeats 8000000 in
set_option maxRecDepth 100000 in
theorem msgsEq_any (v u : Value) (r s : List RM) (R : Bool) (w : World) (S : Nat → Prop) (hS : ∀ b, S b → b < w.heap.size) (hv : MsgsAt w S v r) (hu : MsgsAt w S u s) (hr : Small r) (hs : Small s) (tell : (r = s → R = true) ∧ (r ≠ s → R = false)) :
    Calls Tryz.prog 48 #[v, u, .func (.func 49) #[] #[]] w fun e w' => e = .returned (.bool R) ∧ Below w.heap.size w w' := by
  have Tell := Lib.hid tell
  obtain ⟨a, cap, rfl⟩ := hv.len
  obtain ⟨a', cap', rfl⟩ := hu.len
  have H := Lib.hid hv
  have H' := Lib.hid hu
  have HS := Lib.hid hS
  have Hr := Lib.hid hr.2
  have Hs := Lib.hid hs.2
  have hr1 := hr.1
  have hs1 := hs.1
  clear tell hv hu hS hr hs
  by_cases hlen : r.length = s.length
  · have hlb : ((r.length : Int) == (s.length : Int)) = true := by rw [beq_iff_eq]; omega
    have hlb2 : (r.length == s.length) = true := by rw [beq_iff_eq]; exact hlen
    have hlb3 : ((r.length : Int) != (s.length : Int)) = false := by rw [bne, hlb]; rfl
    have hlb4 : (r.length != s.length) = false := by rw [bne, hlb2]; rfl
    have Hlen := Lib.hid hlen
    clear hlen
    go_enter Tryz.func48, Tryz.ntmps48
    go_wp2_with fail
    go_loopw [17] (fun i wr => ∃ k : Nat, k ≤ r.length ∧ i = .int .i64 k ∧ Hid (∀ j (h1 : j < r.length) (h2 : j < s.length), j < k → r[j] = s[j]) ∧ Below w.heap.size w wr) (fun i _ => r.length - (intOf i).toNat)
    case atStart => exact ⟨0, by omega, rfl, Lib.hid fun j _ _ hj => by omega, Below.refl _ _⟩
    case round =>
      obtain ⟨k, hk, rfl, hsame, hbr⟩ := hrel
      by_cases hlt : k < r.length
      · have hlts : k < s.length := by rw [← Hlen.out]; exact hlt
        have hlti : (k : Int) < (r.length : Int) := by omega
        have hltsi : (k : Int) < (s.length : Int) := by omega
        obtain ⟨b, o, c, hv, hbS, hcs⟩ := H.out.cells (by omega)
        obtain ⟨rfl, rfl⟩ : a = some ⟨b, o, none⟩ ∧ cap = c := by injection hv with e1 e2 e3; exact ⟨e1, e3⟩
        obtain ⟨x, c0, c1, hx⟩ := hcs k hlt
        obtain ⟨b', o', c', hv', hbS', hcs'⟩ := H'.out.cells (by omega)
        obtain ⟨rfl, rfl⟩ : a' = some ⟨b', o', none⟩ ∧ cap' = c' := by injection hv' with e1 e2 e3; exact ⟨e1, e3⟩
        obtain ⟨y, d0, d1, hy⟩ := hcs' k hlts
        have hbC := HS.out _ hbS
        have hbC' := HS.out _ hbS'
        have hsm1 := Hr.out _ (List.getElem_mem hlt)
        have hsm2 := Hs.out _ (List.getElem_mem hlts)
        clear hcs hv hcs' hv' hbS hbS'
        have Hne : Hid (r[k] ≠ s[k] → R = false) := Lib.hid fun h => Tell.out.2 fun e => h (by subst e; rfl)
        have Hnext : Hid (r[k] = s[k] → ∀ j (h1 : j < r.length) (h2 : j < s.length), j < k + 1 → r[j] = s[j]) := Lib.hid fun e j h1 h2 hj => by
          by_cases ej : j = k
          · subst ej; exact e
          · exact hsame.out j h1 h2 (by omega)
        rw [← hbr.cell (p := ⟨b, _, none⟩) hbC] at c0 c1
        rw [← hbr.cell (p := ⟨b', _, none⟩) hbC'] at d0 d1
        have hzr := hbr.size
        have hbw : b < wr.heap.size := Nat.lt_of_lt_of_le hbC hbr.size
        have hbw' : b' < wr.heap.size := Nat.lt_of_lt_of_le hbC' hbr.size
        obtain ⟨xa, xcap, rfl⟩ := hx.len
        obtain ⟨ya, ycap, rfl⟩ := hy.len
        have Hx := Lib.hid hx
        have Hy := Lib.hid hy
        clear hx hy hsame
        generalize r[k] = m at c0 c1 Hne Hnext Hx hsm1
        generalize s[k] = n at d0 d1 Hne Hnext Hy hsm2
        obtain ⟨id, fs⟩ := m
        obtain ⟨id', fs'⟩ := n
        simp only at c0 c1 d0 d1 Hne Hnext Hx Hy hsm1 hsm2
        obtain ⟨Q, hQ⟩ : ∃ Q : Bool, ((id, fs) = (id', fs') → Q = true) ∧ ((id, fs) ≠ (id', fs') → Q = false) := by
          by_cases e : (id, fs) = (id', fs')
          · exact ⟨true, fun _ => rfl, fun h => absurd e h⟩
          · exact ⟨false, fun h => absurd h e, fun _ => rfl⟩
        have HQ := Lib.hid hQ
        clear hQ
        go_wp2_with fail
        have hb : Below w.heap.size w ((wr.alloc (.cells #[.int .i64 id, .slice xa fs.length xcap] 43)).alloc (.cells #[.int .i64 id', .slice ya fs'.length ycap] 43)) := (hbr.alloc hzr _).alloc (by simp; omega) _
        refine (sameMsg_any id id' _ _ fs fs' Q _ S (fun b hb' => Nat.lt_of_lt_of_le (HS.out b hb') hb.size) (Hx.out.keep (.of_below hb HS.out) fun _ h => h) (Hy.out.keep (.of_below hb HS.out) fun _ h => h) (by omega) (by omega) HQ.out).mono ?_
        rintro e w1 ⟨rfl, hb1⟩
        have hb2 := hb.trans (hb1.mono hb.size)
        clear hb hb1 c0 c1 d0 d1
        by_cases e : (id, fs) = (id', fs')
        · obtain rfl : Q = true := HQ.out.1 e
          have Hn := Lib.hid (Hnext.out e)
          clear e
          go_wp2_with fail
          go_roundw
          case rel => exact ⟨k + 1, by omega, by go_num, Hn, hb2⟩
          case measure => simp [intOf]; omega
        · obtain rfl : Q = false := HQ.out.2 e
          obtain rfl : R = false := Hne.out e
          clear e
          go_wp2_with fail
          go_ret
          exact ⟨rfl, hb2⟩
      · have hge : (r.length : Int) ≤ (k : Int) := by omega
        have hend : decide (k < r.length) = false := decide_eq_false hlt
        obtain rfl : R = true := Tell.out.1 (List.ext_getElem Hlen.out fun j h1 h2 => hsame.out j h1 h2 (by omega))
        go_wp2_with fail
        go_ret
        exact ⟨rfl, hbr⟩
  · obtain rfl : R = false := Tell.out.2 fun e => hlen (by rw [e])
    have hlb := neI (x := (r.length : Int)) (c := (s.length : Int)) (by omega)
    have hlb2 := neN hlen
    clear hlen
    go_enter Tryz.func48, Tryz.ntmps48
    go_wp2_with fail
    go_ret
    exact ⟨rfl, Below.refl _ _⟩
theorem implSameRaw_any (v u : Value) (r s : List RM) (w : World) (hv : RawAt w (· < w.heap.size) v r) (hu : RawAt w (· < w.heap.size) u s) (hr : Small r) (hs : Small s) :
    Calls Tryz.prog 18 #[v, u] w fun e w' => e = .returned (.bool (sameB r s)) ∧ Below w.heap.size w w' := by
  obtain ⟨x, rfl, hx⟩ := hv
  obtain ⟨y, rfl, hy⟩ := hu
  obtain ⟨a, cap, rfl⟩ := hx.len
  obtain ⟨a', cap', rfl⟩ := hy.len
  have H := Lib.hid hx
  have H' := Lib.hid hy
  clear hx hy
  go_enter Tryz.func18, Tryz.ntmps18
  go_wp2_with fail
  have hb : Below w.heap.size w ((w.alloc (.cells #[.slice a r.length cap] 30)).alloc (.cells #[.slice a' s.length cap'] 30)) := ((Below.refl _ _).alloc (Nat.le_refl _) _).alloc (by simp) _
  refine (msgsEq_any _ _ r s (sameB r s) _ (· < w.heap.size) (fun b hb' => Nat.lt_of_lt_of_le hb' hb.size) (H.out.keep (.of_below hb fun _ h => h) fun _ h => h) (H'.out.keep (.of_below hb fun _ h => h) fun _ h => h) hr hs ⟨same_yes, same_no⟩).mono ?_
  rintro e w1 ⟨rfl, hb1⟩
  have hb2 := hb.trans (hb1.mono hb.size)
  clear hb hb1
  go_wp2_with fail
  go_ret
  exact ⟨rfl, hb2⟩
end Go.Proofs.YthjnpipincpkgaaGreatDoor.Num.Sch
