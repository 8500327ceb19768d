/-
  The walks of the reference's ShapeAt, FieldAt and Runs: they give what the plain definitions here say; only new memory is written.
-/
import Derived.Test.YtcnpdcmdnmfnaaaGreatZeroF
import Derived.Test.YtcnpdcmdnmfnaaaGreatRawBase
import Derived.Test.YtcnpdcmdnmfnaaaGreatKind
namespace Go.Proofs.YtcnpdcmdnmfnaaaGreat.Num
open Go.RowKit Go.Proofs
set_option linter.unusedVariables false
set_option linter.unusedSimpArgs false

def shapeAtR (s : List RM) (id : Int) : Int := match s.findIdx? (fun m => m.1 == id) with | some i => (i : Int) | none => -1
theorem shapeAt_yes {s : List RM} {id : Int} {k : Nat} (hk : k < s.length) (h : s[k].1 = id) (hno : ∀ j (hj : j < s.length), j < k → s[j].1 ≠ id) : shapeAtR s id = (k : Int) := by
  unfold shapeAtR
  rw [List.findIdx?_eq_some_iff_getElem.2 ⟨hk, by simpa using h, fun j hj => by simpa using hno j (by omega) hj⟩]
theorem shapeAt_no {s : List RM} {id : Int} (hno : ∀ j (hj : j < s.length), s[j].1 ≠ id) : shapeAtR s id = -1 := by
  unfold shapeAtR
  rw [List.findIdx?_eq_none_iff.2 (fun m hm => by obtain ⟨j, hj, rfl⟩ := List.getElem_of_mem hm; simpa using hno j hj)]
def fieldIn (l : List RF) (x : Int) : RF × Bool := match l.find? (fun f => f.1 == x) with | some f => (f, true) | none => (zeroF, false)
def fieldAtR (s : List RM) (shape x : Int) : RF × Bool := if h : 0 ≤ shape ∧ shape.toNat < s.length then fieldIn (s[shape.toNat]'h.2).2 x else (zeroF, false)
theorem fieldIn_yes {l : List RF} {x : Int} {k : Nat} (hk : k < l.length) (h : l[k].1 = x) (hno : ∀ j (hj : j < l.length), j < k → l[j].1 ≠ x) : fieldIn l x = (l[k], true) := by
  unfold fieldIn
  rw [List.find?_eq_some_iff_getElem.2 ⟨by simpa using h, k, hk, rfl, fun j hj => by simpa using hno j (by omega) hj⟩]
theorem fieldIn_no {l : List RF} {x : Int} (hno : ∀ j (hj : j < l.length), l[j].1 ≠ x) : fieldIn l x = (zeroF, false) := by
  unfold fieldIn
  rw [List.find?_eq_none.2 (fun m hm => by obtain ⟨j, hj, rfl⟩ := List.getElem_of_mem hm; simpa using hno j hj)]
theorem fieldAt_in {s : List RM} {k : Nat} {x : Int} (h : k < s.length) : fieldAtR s (k : Int) x = fieldIn s[k].2 x := by
  unfold fieldAtR
  rw [dif_pos ⟨by omega, by simpa using h⟩]
  simp
theorem fieldAt_out {s : List RM} {shape x : Int} (h : ¬ (0 ≤ shape ∧ shape ≤ (s.length : Int) - 1)) : fieldAtR s shape x = (zeroF, false) := by
  unfold fieldAtR
  rw [dif_neg (by omega)]
def runsB (f : RF) : Bool := f.2.2.1 && numericB f.2.1
theorem Box.five {w : World} {g : Nat} {a b c d e : Value} (h : Box w g [a, b, c, d, e]) : (w.cell? ⟨g, 0, none⟩ = some a ∧ w.cell? ⟨g, 1, none⟩ = some b ∧ w.cell? ⟨g, 2, none⟩ = some c ∧ w.cell? ⟨g, 3, none⟩ = some d ∧ w.cell? ⟨g, 4, none⟩ = some e) ∧
    w.frozen? ⟨g, 0, none⟩ = false ∧ w.frozen? ⟨g, 1, none⟩ = false ∧ w.frozen? ⟨g, 2, none⟩ = false ∧ w.frozen? ⟨g, 3, none⟩ = false ∧ w.frozen? ⟨g, 4, none⟩ = false :=
  ⟨⟨(h.2 0 (by simp)).1, (h.2 1 (by simp)).1, (h.2 2 (by simp)).1, (h.2 3 (by simp)).1, (h.2 4 (by simp)).1⟩, (h.2 0 (by simp)).2, (h.2 1 (by simp)).2, (h.2 2 (by simp)).2, (h.2 3 (by simp)).2, (h.2 4 (by simp)).2⟩
theorem neS {x c : Int} (h : x ≠ c) : (x == c) = false := by rw [beq_eq_false_iff_ne]; exact h
theorem specRuns_any (f : RF) (w : World) : Calls Tryz.prog 81 #[fieldV f] w fun e w' => e = .returned (.bool (runsB f)) ∧ Below w.heap.size w w' := by
  obtain ⟨A1, A2, A3, A4, A5⟩ := f
  unfold fieldV runsB
  simp only
  have hl : Below w.heap.size w (w.alloc (.cells #[.int .i64 A1, .int .i64 A2, .bool A3, .bool A4, .int .i64 A5] 95)) := (Below.refl _ _).alloc (Nat.le_refl _) _
  cases A3
  · go_enter Tryz.func81, Tryz.ntmps81
    go_wp2_with fail
    go_ret
    exact ⟨rfl, hl⟩
  · obtain ⟨q, hq⟩ : ∃ q, numericB A2 = q := ⟨_, rfl⟩
    go_enter Tryz.func81, Tryz.ntmps81
    go_wp2_with fail
    refine (specNumeric_any A2 _).mono ?_
    rw [hq]
    rintro e w1 ⟨rfl, rfl⟩
    go_wp2_with fail
    go_ret
    exact ⟨by rw [hq]; rfl, hl⟩
set_option maxHeartbeats 2000000 in
theorem specFieldAt_any (v : Value) (r : List RM) (shape x : Int) (w : World) (h : RawAt w (· < w.heap.size) v r) (hr : Small r) :
    Calls Tryz.prog 61 #[v, .int .i64 shape, .int .i64 x] w fun e w' => e = .returned (.tuple #[fieldV (fieldAtR r shape x).1, .bool (fieldAtR r shape x).2]) ∧ Below w.heap.size w w' := by
  have hr1 := hr.1
  have Hr := Lib.hid hr.2
  clear hr
  obtain ⟨u, rfl, hu⟩ := h
  obtain ⟨a, cap, rfl⟩ := hu.len
  have H := Lib.hid hu
  have hw1 : IntKind.i64.wrap ((r.length : Int) - 1) = (r.length : Int) - 1 := IntWalk.i64_in _ (by omega)
  clear hu
  by_cases hin : 0 ≤ shape ∧ shape ≤ (r.length : Int) - 1
  · obtain ⟨k, rfl⟩ := Int.eq_ofNat_of_zero_le hin.1
    have hk : k < r.length := by omega
    have hki : (k : Int) < (r.length : Int) := by omega
    have Hin := Lib.hid hin
    have He := Lib.hid (fieldAt_in (x := x) hk)
    rw [He.out]
    obtain ⟨b, o, c, hv, hbC, hcs⟩ := H.out.cells (by omega)
    obtain ⟨rfl, rfl⟩ : a = some ⟨b, o, none⟩ ∧ cap = c := by injection hv with e1 e2 e3; exact ⟨e1, e3⟩
    obtain ⟨y, d0, d1, hy⟩ := hcs k hk
    obtain ⟨xa, xc, rfl⟩ := hy.len
    have hfl := Hr.out _ (List.getElem_mem hk)
    have Hy := Lib.hid hy
    clear hcs hv hy hin He
    generalize r[k] = m at d0 d1 hfl Hy
    obtain ⟨id, fs⟩ := m
    simp only at d0 d1 hfl Hy
    go_enter Tryz.func61, Tryz.ntmps61
    go_wp2_with fail
    refine (sIn_yes _ 0 _ _ Hin.out).mono ?_
    rintro e w1 ⟨rfl, rfl⟩
    go_wp2_with fail
    obtain ⟨R, hR⟩ : ∃ R, fieldIn fs x = R := ⟨_, rfl⟩
    have HR := Lib.hid hR
    have hl2 : Below w.heap.size w ((w.alloc (.cells #[.slice (some ⟨b, o, none⟩) r.length cap] 26)).alloc (.cells #[.int .i64 0, .int .i64 0, .bool false, .bool false, .int .i64 0] 95)) := ((Below.refl _ _).alloc (Nat.le_refl _) _).alloc (by simp) _
    have hx2 : Box ((w.alloc (.cells #[.slice (some ⟨b, o, none⟩) r.length cap] 26)).alloc (.cells #[.int .i64 0, .int .i64 0, .bool false, .bool false, .int .i64 0] 95)) (w.heap.size + 1) (fieldC zeroF) := by
      have h := Box.fresh (w.alloc (.cells #[.slice (some ⟨b, o, none⟩) r.length cap] 26)) #[.int .i64 0, .int .i64 0, .bool false, .bool false, .int .i64 0] 95
      rwa [show (w.alloc (.cells #[.slice (some ⟨b, o, none⟩) r.length cap] 26)).heap.size = w.heap.size + 1 by simp] at h
    generalize (w.alloc (.cells #[.slice (some ⟨b, o, none⟩) r.length cap] 26)).alloc (.cells #[.int .i64 0, .int .i64 0, .bool false, .bool false, .int .i64 0] 95) = w2 at hl2 hx2 ⊢
    clear d0 d1 hR
    go_loopw [9] (fun i wr => ∃ k : Nat, k ≤ fs.length ∧ i = .int .i64 k ∧ Hid (∀ j (hj : j < fs.length), j < k → fs[j].1 ≠ x) ∧ Hid (Box wr (w.heap.size + 1) (fieldC zeroF)) ∧ Below w.heap.size w wr) (fun i _ => fs.length - (intOf i).toNat)
    case atStart => exact ⟨0, by omega, rfl, Lib.hid fun j _ hj => by omega, Lib.hid hx2, hl2⟩
    case round =>
      clear hl2 hx2
      obtain ⟨q, hq, rfl, hno, hbx, hbr⟩ := hrel
      obtain ⟨⟨f0, f1, f2, f3, f4⟩, g0, g1, g2, g3, g4⟩ := Box.five hbx.out
      by_cases hlt : q < fs.length
      · have hlti : (q : Int) < (fs.length : Int) := by omega
        obtain ⟨fb, fo, fc, fv, fbC, fcs⟩ := Hy.out.cells (by omega)
        obtain ⟨rfl, rfl⟩ : xa = some ⟨fb, fo, none⟩ ∧ xc = fc := by injection fv with e1 e2 e3; exact ⟨e1, e3⟩
        obtain ⟨x0, x1, x2, x3, x4⟩ := fcs q hlt
        clear fcs fv
        rw [← hbr.cell (p := ⟨fb, _, none⟩) fbC] at x0 x1 x2 x3 x4
        by_cases he : fs[q].1 = x
        · have Hy := Lib.hid (fieldIn_yes hlt he hno.out)
          have He := Lib.hid he
          clear hno he
          generalize fs[q] = g at x0 x1 x2 x3 x4 Hy He
          obtain ⟨A1, A2, A3, A4, A5⟩ := g
          simp only at x0 x1 x2 x3 x4 He
          have e1 : A1 = x := He.out
          have hx6 := hbx.out.set 0 (.int .i64 A1) |>.set 1 (.int .i64 A2) |>.set 2 (.bool A3) |>.set 3 (.bool A4) |>.set 4 (.int .i64 A5)
          obtain ⟨⟨y0, y1, y2, y3, y4⟩, _⟩ := Box.five (a := .int .i64 A1) (b := .int .i64 A2) (c := .bool A3) (d := .bool A4) (e := .int .i64 A5) hx6
          subst e1
          go_wp2_with fail
          refine bodyPost_ret (v := .tuple #[.agg #[.int .i64 A1, .int .i64 A2, .bool A3, .bool A4, .int .i64 A5], .bool true]) (by simp [results, Tryz.results61, go_sem, y0, y1, y2, y3, y4]) rfl ?_
          refine ⟨by rw [Hy.out]; rfl, ?_⟩
          repeat (first | exact hbr | refine Below.setCell ?_ (by simp) _)
        · have hb := neS he
          have Hn : Hid (∀ j (hj : j < fs.length), j < q + 1 → fs[j].1 ≠ x) := Lib.hid fun j hj hjk => by
            by_cases e : j = q
            · subst e; exact he
            · exact hno.out j hj (by omega)
          generalize fs[q].1 = y at x0 hb
          clear he hno x1 x2 x3 x4
          go_wp2_with fail
          go_roundw
          case rel => exact ⟨q + 1, by omega, by go_num, Hn, hbx, hbr⟩
          case measure => simp [intOf]; omega
      · have hge : (fs.length : Int) ≤ (q : Int) := by omega
        have hend : decide (q < fs.length) = false := decide_eq_false hlt
        have Hf := Lib.hid (fieldIn_no fun j hj => hno.out j hj (by omega))
        have hx6 := hbx.out.set 0 (.int .i64 0) |>.set 1 (.int .i64 0) |>.set 2 (.bool false) |>.set 3 (.bool false) |>.set 4 (.int .i64 0)
        obtain ⟨⟨y0, y1, y2, y3, y4⟩, _⟩ := Box.five (a := .int .i64 0) (b := .int .i64 0) (c := .bool false) (d := .bool false) (e := .int .i64 0) hx6
        go_wp2_with fail
        refine bodyPost_ret (v := .tuple #[.agg #[.int .i64 0, .int .i64 0, .bool false, .bool false, .int .i64 0], .bool false]) (by simp [results, Tryz.results61, go_sem, y0, y1, y2, y3, y4]) rfl ?_
        refine ⟨by rw [Hf.out]; rfl, ?_⟩
        repeat (first | exact hbr | refine Below.setCell ?_ (by simp) _)
  · rw [fieldAt_out hin]
    have H1 := Lib.hid hin
    clear hin
    go_enter Tryz.func61, Tryz.ntmps61
    go_wp2_with fail
    refine (sIn_no _ 0 _ _ H1.out).mono ?_
    rintro e w1 ⟨rfl, rfl⟩
    go_wp2_with fail
    refine bodyPost_ret (v := .tuple #[.agg #[.int .i64 0, .int .i64 0, .bool false, .bool false, .int .i64 0], .bool false]) (by simp [results, Tryz.results61, go_sem]) rfl ?_
    refine ⟨rfl, ?_⟩
    repeat (first | exact Below.refl _ _ | refine Below.setCell ?_ (by simp) _ | refine Below.alloc ?_ (by first | omega | (simp <;> omega)) _)
end Go.Proofs.YtcnpdcmdnmfnaaaGreat.Num
