/-
  Several texts in one: SameRaw Vars.
-/
import Derived.Test.YtcbohfncckpolaaGreatDoorEqRaw
import Derived.Deep.QuietTactic
import Derived.BigQuiet
import Derived.Test.YtcbohfncckpolaaGreatDoorFrame
import Derived.ChangeVars

/-
  The walk of the reference's SameRaw: whether two descriptions are equal; only new memory is written.
-/
namespace Go.Proofs.YtcbohfncckpolaaGreatDoor.Num
open Go.RowKit Go.Proofs
set_option linter.unusedVariables false
set_option linter.unusedSimpArgs false

set_option maxHeartbeats 8000000 in
set_option maxRecDepth 100000 in
theorem specSameRaw_any (v u : Value) (r s : List RM) (w : World) (hv : RawAt w (· < w.heap.size) v r) (hu : RawAt w (· < w.heap.size) u s) (hr : Small r) (hs : Small s) :
    Calls Tryz.prog 12 #[v, u] w fun e w' => e = .returned (.bool (sameB r s)) ∧ Below w.heap.size w w' := by
  obtain ⟨R, hR⟩ : ∃ R, sameB r s = R := ⟨_, rfl⟩
  rw [hR]
  have tell : Hid ((r = s → R = true) ∧ (r ≠ s → R = false)) := Lib.hid ⟨fun h => by rw [← hR]; exact same_yes h, fun h => by rw [← hR]; exact same_no h⟩
  clear hR
  obtain ⟨x, rfl, hx⟩ := hv
  obtain ⟨y, rfl, hy⟩ := hu
  obtain ⟨a, cap, rfl⟩ := hx.len
  obtain ⟨a', cap', rfl⟩ := hy.len
  have H := Lib.hid hx
  have H' := Lib.hid hy
  have Hr := Lib.hid hr.2
  have Hs := Lib.hid hs.2
  have hr1 := hr.1
  have hs1 := hs.1
  clear hx hy hr hs
  by_cases hlen : r.length = s.length
  · have hlb : ((r.length : Int) == (s.length : Int)) = true := by rw [beq_iff_eq]; omega
    have hlb2 : (r.length == s.length) = true := by rw [beq_iff_eq]; exact hlen
    have hlb3 : ((r.length : Int) != (s.length : Int)) = false := by rw [bne, hlb]; rfl
    have hlb4 : (r.length != s.length) = false := by rw [bne, hlb2]; rfl
    have Hlen := Lib.hid hlen
    clear hlen
    go_enter Tryz.func12, Tryz.ntmps12
    go_wp2_with fail
    go_loopw [5] (fun i wr => ∃ k : Nat, k ≤ r.length ∧ i = .int .i64 k ∧ Hid (∀ j (h1 : j < r.length) (h2 : j < s.length), j < k → r[j] = s[j]) ∧ Hid (Box wr w.heap.size [.slice a r.length cap]) ∧ Hid (Box wr (w.heap.size + 1) [.slice a' s.length cap']) ∧ Below w.heap.size w wr) (fun i _ => r.length - (intOf i).toNat)
    case atStart => exact ⟨0, by omega, rfl, Lib.hid fun j _ _ hj => by omega, Lib.hid ((Box.fresh _ _ _).alloc _), Lib.hid (by
        have h := Box.fresh (w.alloc (.cells #[.slice a r.length cap] 26)) #[.slice a' s.length cap'] 26
        rwa [show (w.alloc (.cells #[.slice a r.length cap] 26)).heap.size = w.heap.size + 1 by simp] at h), ((Below.refl _ _).alloc (Nat.le_refl _) _).alloc (by simp) _⟩
    case round =>
      obtain ⟨k, hk, rfl, hsame, hbx, hby, hbr⟩ := hrel
      have hzx := hbx.out.lt
      have hzy := hby.out.lt
      obtain ⟨p0, q0⟩ := hbx.out.one
      obtain ⟨p1, q1⟩ := hby.out.one
      by_cases hlt : k < r.length
      · have hlts : k < s.length := by rw [← Hlen.out]; exact hlt
        have hlti : (k : Int) < (r.length : Int) := by omega
        have hltsi : (k : Int) < (s.length : Int) := by omega
        obtain ⟨b, o, c, hv, hbC, hcs⟩ := H.out.cells (by omega)
        obtain ⟨rfl, rfl⟩ : a = some ⟨b, o, none⟩ ∧ cap = c := by injection hv with e1 e2 e3; exact ⟨e1, e3⟩
        obtain ⟨x, c0, c1, hx⟩ := hcs k hlt
        obtain ⟨xa, xcap, rfl⟩ := hx.len
        obtain ⟨b', o', c', hv', hbC', hcs'⟩ := H'.out.cells (by omega)
        obtain ⟨rfl, rfl⟩ : a' = some ⟨b', o', none⟩ ∧ cap' = c' := by injection hv' with e1 e2 e3; exact ⟨e1, e3⟩
        obtain ⟨y, d0, d1, hy⟩ := hcs' k hlts
        obtain ⟨ya, ycap, rfl⟩ := hy.len
        have hne : r[k] ≠ s[k] → R = false := fun h => tell.out.2 fun e => h (by subst e; rfl)
        have hsm1 := Hr.out _ (List.getElem_mem hlt)
        have hsm2 := Hs.out _ (List.getElem_mem hlts)
        clear hcs hv hcs' hv'
        rw [← hbr.cell (p := ⟨b, _, none⟩) hbC] at c0 c1
        rw [← hbr.cell (p := ⟨b', _, none⟩) hbC'] at d0 d1
        have hbw : b < wr.heap.size := Nat.lt_of_lt_of_le hbC hbr.size
        have hbw' : b' < wr.heap.size := Nat.lt_of_lt_of_le hbC' hbr.size
        have Hnext : Hid (r[k] = s[k] → ∀ j (h1 : j < r.length) (h2 : j < s.length), j < k + 1 → r[j] = s[j]) := Lib.hid fun e j h1 h2 hj => by
          by_cases ej : j = k
          · subst ej; exact e
          · exact hsame.out j h1 h2 (by omega)
        have Hx := Lib.hid hx
        have Hy := Lib.hid hy
        clear hx hy hsame
        generalize r[k] = m at c0 c1 hne Hnext Hx hsm1
        generalize s[k] = n at d0 d1 hne Hnext Hy hsm2
        obtain ⟨id, fs⟩ := m
        obtain ⟨id', fs'⟩ := n
        simp only at c0 c1 d0 d1 hne Hnext Hx Hy hsm1 hsm2
        have Hne := Lib.hid hne
        clear hne
        by_cases hid : id = id'
        · subst hid
          by_cases hfl : fs.length = fs'.length
          · have hfb : ((fs.length : Int) == (fs'.length : Int)) = true := by rw [beq_iff_eq]; omega
            have hfb2 : (fs.length == fs'.length) = true := by rw [beq_iff_eq]; exact hfl
            have hfb3 : ((fs.length : Int) != (fs'.length : Int)) = false := by rw [bne, hfb]; rfl
            have hfb4 : (fs.length != fs'.length) = false := by rw [bne, hfb2]; rfl
            have Hfl := Lib.hid hfl
            clear hfl
            go_wp2_with fail
            have hbq : Below w.heap.size w ((wr.alloc (.cells #[.int .i64 id, .slice xa fs.length xcap] 42)).alloc (.cells #[.int .i64 id, .slice ya fs'.length ycap] 42)) := by
              repeat (first | exact hbr | refine Below.alloc ?_ (by first | omega | (simp <;> omega)) _)
            have hxq : Box ((wr.alloc (.cells #[.int .i64 id, .slice xa fs.length xcap] 42)).alloc (.cells #[.int .i64 id, .slice ya fs'.length ycap] 42)) wr.heap.size [.int .i64 id, .slice xa fs.length xcap] := (Box.fresh _ _ _).alloc _
            have hyq : Box ((wr.alloc (.cells #[.int .i64 id, .slice xa fs.length xcap] 42)).alloc (.cells #[.int .i64 id, .slice ya fs'.length ycap] 42)) (wr.heap.size + 1) [.int .i64 id, .slice ya fs'.length ycap] := by
              have h := Box.fresh (wr.alloc (.cells #[.int .i64 id, .slice xa fs.length xcap] 42)) #[.int .i64 id, .slice ya fs'.length ycap] 42
              rwa [show (wr.alloc (.cells #[.int .i64 id, .slice xa fs.length xcap] 42)).heap.size = wr.heap.size + 1 by simp] at h
            have hax : Box ((wr.alloc (.cells #[.int .i64 id, .slice xa fs.length xcap] 42)).alloc (.cells #[.int .i64 id, .slice ya fs'.length ycap] 42)) w.heap.size [.slice (some ⟨b, o, none⟩) r.length cap] := (hbx.out.alloc _).alloc _
            have hay : Box ((wr.alloc (.cells #[.int .i64 id, .slice xa fs.length xcap] 42)).alloc (.cells #[.int .i64 id, .slice ya fs'.length ycap] 42)) (w.heap.size + 1) [.slice (some ⟨b', o', none⟩) s.length cap'] := (hby.out.alloc _).alloc _
            generalize ((wr.alloc (.cells #[.int .i64 id, .slice xa fs.length xcap] 42)).alloc (.cells #[.int .i64 id, .slice ya fs'.length ycap] 42)) = wq at hbq hxq hyq hax hay ⊢
            generalize wr.heap.size = g at hxq hyq ⊢
            clear c0 c1 d0 d1 p0 q0 p1 q1 hzx hzy hbx hby hbr hbw hbw'
            go_loopw [8] (fun i wz => ∃ j : Nat, j ≤ fs.length ∧ i = .int .i64 j ∧ Hid (∀ q (h1 : q < fs.length) (h2 : q < fs'.length), q < j → fs[q] = fs'[q]) ∧ Hid (Box wz g [.int .i64 id, .slice xa fs.length xcap]) ∧ Hid (Box wz (g + 1) [.int .i64 id, .slice ya fs'.length ycap]) ∧ Hid (Box wz w.heap.size [.slice (some ⟨b, o, none⟩) r.length cap]) ∧ Hid (Box wz (w.heap.size + 1) [.slice (some ⟨b', o', none⟩) s.length cap']) ∧ Below w.heap.size w wz) (fun i _ => fs.length - (intOf i).toNat)
            case atStart => exact ⟨0, by omega, rfl, Lib.hid fun q _ _ hq => by omega, Lib.hid hxq, Lib.hid hyq, Lib.hid hax, Lib.hid hay, hbq⟩
            case round =>
              clear hbq hxq hyq hax hay
              obtain ⟨jj, hj, rfl, hsj, hxz, hyz, hax, hay, hbz⟩ := hrel
              obtain ⟨c0, c1, f0, f1⟩ := hxz.out.two
              obtain ⟨d0, d1, f2, f3⟩ := hyz.out.two
              by_cases hjl : jj < fs.length
              · have hjl' : jj < fs'.length := by rw [← Hfl.out]; exact hjl
                have hji : (jj : Int) < (fs.length : Int) := by omega
                have hji' : (jj : Int) < (fs'.length : Int) := by omega
                obtain ⟨fb, fo, fc, fv, fbC, fcs⟩ := Hx.out.cells (by omega)
                obtain ⟨rfl, rfl⟩ : xa = some ⟨fb, fo, none⟩ ∧ xcap = fc := by injection fv with e1 e2 e3; exact ⟨e1, e3⟩
                obtain ⟨x0, x1, x2, x3, x4⟩ := fcs jj hjl
                obtain ⟨gb, go, gc, gv, gbC, gcs⟩ := Hy.out.cells (by omega)
                obtain ⟨rfl, rfl⟩ : ya = some ⟨gb, go, none⟩ ∧ ycap = gc := by injection gv with e1 e2 e3; exact ⟨e1, e3⟩
                obtain ⟨y0, y1, y2, y3, y4⟩ := gcs jj hjl'
                clear fcs fv gcs gv
                rw [← hbz.cell (p := ⟨fb, _, none⟩) fbC] at x0 x1 x2 x3 x4
                rw [← hbz.cell (p := ⟨gb, _, none⟩) gbC] at y0 y1 y2 y3 y4
                have hnej : fs[jj] ≠ fs'[jj] → R = false := fun h => Hne.out (by intro e; injection e with _ e; subst e; exact h rfl)
                have Hnj : Hid (fs[jj] = fs'[jj] → ∀ q (h1 : q < fs.length) (h2 : q < fs'.length), q < jj + 1 → fs[q] = fs'[q]) := Lib.hid fun e q h1 h2 hq => by
                  by_cases eq : q = jj
                  · subst eq; exact e
                  · exact hsj.out q h1 h2 (by omega)
                clear hsj
                generalize fs[jj] = f at x0 x1 x2 x3 x4 hnej Hnj
                generalize fs'[jj] = f' at y0 y1 y2 y3 y4 hnej Hnj
                obtain ⟨A1, A2, A3, A4, A5⟩ := f
                obtain ⟨B1, B2, B3, B4, B5⟩ := f'
                simp only at x0 x1 x2 x3 x4 y0 y1 y2 y3 y4
                have Hnej := Lib.hid hnej
                clear hnej
                by_cases e1 : A1 = B1
                · subst e1
                  by_cases e2 : A2 = B2
                  · subst e2
                    by_cases e3 : A3 = B3
                    · subst e3
                      by_cases e4 : A4 = B4
                      · subst e4
                        by_cases e5 : A5 = B5
                        · subst e5
                          go_wp2_with fail
                          go_quiet (fail)
                          go_wp2_with fail
                          go_roundw
                          case rel => exact ⟨jj + 1, by omega, by go_num, Lib.hid (Hnj.out (by trivial)), Lib.hid (hxz.out.drewN _), Lib.hid (hyz.out.drewN _), Lib.hid (hax.out.drewN _), Lib.hid (hay.out.drewN _), below_drewN hbz _⟩
                          case measure => simp [intOf]; omega
                        · obtain rfl : R = false := Hnej.out (by intro h; simp only [Prod.mk.injEq] at h; exact e5 (by first | exact h.1 | exact h.2.1 | exact h.2.2.1 | exact h.2.2.2.1 | exact h.2.2.2.2 | simpa using h))
                          have hb : (A5 == B5) = false := neI e5
                          clear e5
                          go_wp2_with fail
                          go_quiet (fail)
                          go_wp2_with fail
                          go_ret
                          exact ⟨rfl, below_drewN hbz _⟩
                      · obtain rfl : R = false := Hnej.out (by intro h; simp only [Prod.mk.injEq] at h; exact e4 (by first | exact h.1 | exact h.2.1 | exact h.2.2.1 | exact h.2.2.2.1 | exact h.2.2.2.2 | simpa using h))
                        have hb : (A4 == B4) = false := neBool e4
                        clear e4
                        go_wp2_with fail
                        go_quiet (fail)
                        go_wp2_with fail
                        go_ret
                        exact ⟨rfl, below_drewN hbz _⟩
                    · obtain rfl : R = false := Hnej.out (by intro h; simp only [Prod.mk.injEq] at h; exact e3 (by first | exact h.1 | exact h.2.1 | exact h.2.2.1 | exact h.2.2.2.1 | exact h.2.2.2.2 | simpa using h))
                      have hb : (A3 == B3) = false := neBool e3
                      clear e3
                      go_wp2_with fail
                      go_quiet (fail)
                      go_wp2_with fail
                      go_ret
                      exact ⟨rfl, below_drewN hbz _⟩
                  · obtain rfl : R = false := Hnej.out (by intro h; simp only [Prod.mk.injEq] at h; exact e2 (by first | exact h.1 | exact h.2.1 | exact h.2.2.1 | exact h.2.2.2.1 | exact h.2.2.2.2 | simpa using h))
                    have hb : (A2 == B2) = false := neI e2
                    clear e2
                    go_wp2_with fail
                    go_quiet (fail)
                    go_wp2_with fail
                    go_ret
                    exact ⟨rfl, below_drewN hbz _⟩
                · obtain rfl : R = false := Hnej.out (by intro h; simp only [Prod.mk.injEq] at h; exact e1 (by first | exact h.1 | exact h.2.1 | exact h.2.2.1 | exact h.2.2.2.1 | exact h.2.2.2.2 | simpa using h))
                  have hb : (A1 == B1) = false := neI e1
                  clear e1
                  go_wp2_with fail
                  go_quiet (fail)
                  go_wp2_with fail
                  go_ret
                  exact ⟨rfl, below_drewN hbz _⟩
              · have hge : (fs.length : Int) ≤ (jj : Int) := by omega
                have hendj : decide (jj < fs.length) = false := decide_eq_false hjl
                have hfe : fs = fs' := List.ext_getElem Hfl.out fun q h1 h2 => hsj.out q h1 h2 (by omega)
                have Hall := Lib.hid (Hnext.out (by rw [hfe]))
                clear hfe
                go_wp2_with fail
                go_roundw
                case rel => exact ⟨k + 1, by omega, by go_num, Hall, hax, hay, hbz⟩
                case measure => simp [intOf]; omega
          · obtain rfl : R = false := Hne.out (by intro e; injection e with _ e; exact hfl (by rw [e]))
            have hfb : ((fs.length : Int) == (fs'.length : Int)) = false := neI (by omega)
            have hfb2 : (fs.length == fs'.length) = false := neN hfl
            clear hfl
            go_wp2_with fail
            go_ret
            refine ⟨rfl, ?_⟩
            repeat (first | exact hbr | refine Below.alloc ?_ (by first | omega | (simp <;> omega)) _)
        · obtain rfl : R = false := Hne.out (by intro e; injection e with e _; exact hid e)
          have hib := neI hid
          clear hid
          go_wp2_with fail
          go_ret
          refine ⟨rfl, ?_⟩
          repeat (first | exact hbr | refine Below.alloc ?_ (by first | omega | (simp <;> omega)) _)
      · have hge : (r.length : Int) ≤ (k : Int) := by omega
        have hend : decide (k < r.length) = false := decide_eq_false hlt
        obtain rfl : R = true := tell.out.1 (List.ext_getElem Hlen.out fun j h1 h2 => hsame.out j h1 h2 (by omega))
        go_wp2_with fail
        go_ret
        exact ⟨rfl, hbr⟩
  · obtain rfl : R = false := tell.out.2 fun e => hlen (by rw [e])
    have hlb := neI (x := (r.length : Int)) (c := (s.length : Int)) (by omega)
    have hlb2 := neN hlen
    clear hlen
    go_enter Tryz.func12, Tryz.ntmps12
    go_wp2_with fail
    go_ret
    refine ⟨rfl, ?_⟩
    repeat (first | exact Below.refl _ _ | refine Below.alloc ?_ (by first | omega | (simp <;> omega)) _)
end Go.Proofs.YtcbohfncckpolaaGreatDoor.Num

/-
  A row's package variables read again as they did behind a call that wrote new memory only, whatever their types.
-/
namespace Go.Proofs.YtcbohfncckpolaaGreatDoor.Num
open Go.RowKit Go.Proofs Go.ChangeShapes Go.WideShapes

/-- A variable that has a value lies below the heap's size. -/
theorem var_lt {P : Program} {w : World} {n : String} {g : Nat} {cs : Array Value} (hg : P.globalNamed n = some g) (h : w.var? P n = some cs) : g < w.heap.size := by
  unfold World.var? at h
  simp only [hg, Option.bind_some] at h
  rcases Nat.lt_or_ge g w.heap.size with h' | h'
  · exact h'
  · simp [Array.getElem?_eq_none h'] at h
theorem var_again {P : Program} {w w' : World} {n : String} {g : Nat} {cs : Array Value} (hg : P.globalNamed n = some g) (h : w.var? P n = some cs) (hb : Below w.heap.size w w') : w'.var? P n = some cs := by
  have hlt := var_lt hg h
  unfold World.var? at h ⊢
  simp only [hg, Option.bind_some] at h ⊢
  rw [hb.block g hlt]
  exact h
theorem globTypes : ∀ (g : Nat) (t : TypeId), (Tryz.prog.globals[g]?).map (fun (x : Go.Global) => x.type) = some t → t < Tryz.prog.types.size := by
  have h : (Tryz.prog.globals.all fun (x : Go.Global) => decide (x.type < Tryz.prog.types.size)) = true := by kernel_rfl
  intro g t ht
  obtain ⟨x, hx, rfl⟩ := Option.map_eq_some_iff.1 ht
  have := Array.all_eq_true'.1 h x (Array.mem_of_getElem? hx)
  simpa using this
theorem vars_again {H : Type} {enc : TypeId × Value → H} {W W' : World} (hb : Below W.heap.size W W') : ∀ {ns : List String} {gs : List (DataW H)} {ps : List MemPlace},
    DataW.TrodVars enc Tryz.prog W (fun _ => true) ns gs ps → DataW.TrodVars enc Tryz.prog W' (fun b => decide (b < W.heap.size)) ns gs ps
  | [], gs, ps, h => by obtain ⟨rfl, rfl⟩ := trodVars_none h; rfl
  | n :: ns, [], ps, h => by simp [DataW.TrodVars] at h
  | n :: ns, d :: ds, ps, h => by
    obtain ⟨g, t, cs, fuel, p, q, h1, h2, h3, h4, hs, e⟩ := h
    have hA : DataW.TrodAll enc Tryz.prog W 0 (fun _ => true) true [t] [.agg cs] [d] (p ++ []) := ⟨p, [], ⟨fuel, h4⟩, rfl, rfl⟩
    have hB := args_again (W' := W') (by intro x hx; rw [List.mem_singleton.1 hx]; exact globTypes g t h2) hA hb
    obtain ⟨p', q', ⟨n', h4'⟩, hq, e'⟩ := hB
    have hq0 : q' = [] := hq
    subst hq0
    simp only [List.append_nil] at e'
    subst e'
    exact ⟨g, t, cs, n', p, q, h1, h2, var_again h1 h3 hb, h4', vars_again hb hs, e⟩
end Go.Proofs.YtcbohfncckpolaaGreatDoor.Num
