/-
  The walks of the laws' szPlan, toPlan and eqPlan: what is left is not below 0 only where the plan is small; a plan laid anew; equal plans are told so.
-/
import Derived.Test.YtcnpdcmdnmfnaaaPlanS
import Derived.Test.YtcnpdcmdnmfnaaaTwoSch
import Derived.Test.YtcnpdcmdnmfnaaaSzSch
namespace Go.Proofs.Ytcnpdcmdnmfnaaa.Num
open Go.RowKit Go.Proofs
set_option linter.unusedVariables false
theorem Box.fourA {w : World} {g : Nat} {a b c d : Value} (h : Box w g [a, b, c, d]) : w.cell? ⟨g, 0, none⟩ = some a ∧ w.cell? ⟨g, 1, none⟩ = some b ∧ w.cell? ⟨g, 2, none⟩ = some c ∧ w.cell? ⟨g, 3, none⟩ = some d ∧ w.frozen? ⟨g, 0, none⟩ = false ∧ w.frozen? ⟨g, 1, none⟩ = false ∧ w.frozen? ⟨g, 2, none⟩ = false ∧ w.frozen? ⟨g, 3, none⟩ = false :=
  ⟨(h.2 0 (by simp)).1, (h.2 1 (by simp)).1, (h.2 2 (by simp)).1, (h.2 3 (by simp)).1, (h.2 0 (by simp)).2, (h.2 1 (by simp)).2, (h.2 2 (by simp)).2, (h.2 3 (by simp)).2⟩
theorem MsgsAt.below {w w' : World} {u : Value} {r : List RM} (h : MsgsAt w (· < w.heap.size) u r) (hb : Below w.heap.size w w') : MsgsAt w' (· < w'.heap.size) u r :=
  h.keep (.of_below hb fun _ h => h) fun b h => Nat.lt_of_lt_of_le h hb.size
theorem szPlan_any (u : Value) (r : List RM) (A B C left : Int) (w : World) (h : MsgsAt w (· < w.heap.size) u r) (hm : inMem r) (h0 : 0 ≤ left) (h1 : left ≤ 1048576) :
    Calls Try.prog 16 #[planV u A B C, .int .i64 left] w fun e w' => ∃ x : Int, e = .returned (.int .i64 x) ∧ -1 ≤ x ∧ x ≤ 1048576 ∧ (0 ≤ x → Small r) ∧ Below w.heap.size w w' := by
  unfold planV
  have hbx : Box (w.alloc (.cells #[u, .int .i64 A, .int .i64 B, .int .i64 C] 42)) w.heap.size [u, .int .i64 A, .int .i64 B, .int .i64 C] := Box.fresh w #[u, .int .i64 A, .int .i64 B, .int .i64 C] _
  have hM := h.keep (.of_below (Below.alloc (Below.refl w.heap.size w) (Nat.le_refl _) (.cells #[u, .int .i64 A, .int .i64 B, .int .i64 C] 42)) fun b hb => hb) fun b hb => show b < (w.alloc (.cells #[u, .int .i64 A, .int .i64 B, .int .i64 C] 42)).heap.size from by simp; omega
  have HM := Lib.hid hM
  clear hM h
  go_enter Try.func16, Try.ntmps16
  go_wp2_with fail
  refine (Sch.szRaw_any _ r left _ HM.out.raw hm h0 h1).mono ?_
  rintro e w1 ⟨x, rfl, hx0, hx1, hx, hb1⟩
  have hl1 := from_alloc hb1
  clear hb1 hbx HM
  by_cases hneg : x < 0
  · go_wp2_with fail
    go_ret
    exact ⟨-1, rfl, by omega, by omega, fun h => absurd h (by decide), hl1⟩
  · go_wp2_with fail
    go_ret
    exact ⟨x, rfl, hx0, hx1, hx, hl1⟩
set_option maxHeartbeats 1000000 in
theorem toPlan_any (u : Value) (r : List RM) (A B C : Int) (w : World) (h : MsgsAt w (· < w.heap.size) u r) (hr : Small r) :
    Calls Try.prog 18 #[planV u A B C] w fun e w' => ∃ x cap, e = .returned (planV (.slice x r.length cap) A B C) ∧ MsgsAt w' (· < w'.heap.size) (.slice x r.length cap) r ∧ Below w.heap.size w w' := by
  unfold planV
  obtain ⟨P0, hP0⟩ : ∃ P0, ((w.alloc (.cells #[u, .int .i64 A, .int .i64 B, .int .i64 C] 42)).alloc (.cells #[.slice none 0 0, .int .i64 0, .int .i64 0, .int .i64 0] 49)).alloc (.cells #[.slice none 0 0, .int .i64 0, .int .i64 0, .int .i64 0] 49) = P0 := ⟨_, rfl⟩
  have hl : Below w.heap.size w P0 := hP0 ▸ (((Below.refl _ _).alloc (Nat.le_refl _) _).alloc (by simp) _).alloc (by simp; omega) _
  have hx0 : Box P0 w.heap.size [u, .int .i64 A, .int .i64 B, .int .i64 C] := hP0 ▸ ((Box.fresh w #[u, .int .i64 A, .int .i64 B, .int .i64 C] _).alloc _).alloc _
  have hx1 : Box P0 (w.heap.size + 1) [.slice none 0 0, .int .i64 0, .int .i64 0, .int .i64 0] := hP0 ▸ by
    have h := (Box.fresh (w.alloc (.cells #[u, .int .i64 A, .int .i64 B, .int .i64 C] 42)) #[.slice none 0 0, .int .i64 0, .int .i64 0, .int .i64 0] 49).alloc (.cells #[.slice none 0 0, .int .i64 0, .int .i64 0, .int .i64 0] 49)
    rwa [show (w.alloc (.cells #[u, .int .i64 A, .int .i64 B, .int .i64 C] 42)).heap.size = w.heap.size + 1 by simp] at h
  have hx2 : Box P0 (w.heap.size + 2) [.slice none 0 0, .int .i64 0, .int .i64 0, .int .i64 0] := hP0 ▸ by
    have h := (Box.fresh ((w.alloc (.cells #[u, .int .i64 A, .int .i64 B, .int .i64 C] 42)).alloc (.cells #[.slice none 0 0, .int .i64 0, .int .i64 0, .int .i64 0] 49)) #[.slice none 0 0, .int .i64 0, .int .i64 0, .int .i64 0] 49)
    rwa [show ((w.alloc (.cells #[u, .int .i64 A, .int .i64 B, .int .i64 C] 42)).alloc (.cells #[.slice none 0 0, .int .i64 0, .int .i64 0, .int .i64 0] 49)).heap.size = w.heap.size + 2 by simp] at h
  have hM : MsgsAt P0 (· < P0.heap.size) u r := h.keep (.of_below hl fun _ h => h) fun b h => Nat.lt_of_lt_of_le h hl.size
  have HM := Lib.hid hM
  clear hM h
  obtain ⟨c0, c1, c2, c3, _⟩ := hx0.fourA
  go_enter Try.func18, Try.ntmps18
  go_wp2_with fail
  clear c0 c1 c2 c3
  refine (Sch.toRaw_any _ r _ HM.out.raw hr).mono ?_
  rintro e w1 ⟨u', rfl, hu', hb1⟩
  obtain ⟨y, rfl, hy⟩ := hu'
  obtain ⟨x, cap, rfl⟩ := hy.len
  have hl1 := hl.trans (hb1.mono hl.size)
  obtain ⟨c0, c1, c2, c3, _⟩ := (hx0.below hb1 hx0.lt).fourA
  have hx1' := hx1.below hb1 hx1.lt
  have hx2' := hx2.below hb1 hx2.lt
  obtain ⟨a0, a1, a2, a3, b0, b1, b2, b3⟩ := hx1'.fourA
  obtain ⟨d0, d1, d2, d3, f0, f1, f2, f3⟩ := hx2'.fourA
  have hlt := hx2.lt
  have hx6 := ((((((((hx1'.other (a := ⟨w.heap.size + 1 + 1, 0, none⟩) (by simp) (.slice x r.length cap)).other (a := ⟨w.heap.size + 1 + 1, 1, none⟩) (by simp) (.int .i64 A)).other (a := ⟨w.heap.size + 1 + 1, 2, none⟩) (by simp) (.int .i64 B)).other (a := ⟨w.heap.size + 1 + 1, 3, none⟩) (by simp) (.int .i64 C)).set 0 (.slice x r.length cap)).set 1 (.int .i64 A)).set 2 (.int .i64 B)).set 3 (.int .i64 C))
  obtain ⟨y0, y1, y2, y3, _⟩ := Box.fourA (a := .slice x r.length cap) (b := .int .i64 A) (c := .int .i64 B) (d := .int .i64 C) hx6
  clear hP0 hx0 hx1 hx2 hb1 hl HM hx6
  go_wp2_with fail
  refine bodyPost_ret (v := .agg #[.slice x r.length cap, .int .i64 A, .int .i64 B, .int .i64 C]) (by simp [results, Try.results18, go_sem, y0, y1, y2, y3]) rfl ⟨x, cap, rfl, ?_, ?_⟩
  · refine hy.keep (S' := (· < _)) (fun b o hb => ?_) fun b hb => ?_
    · repeat rw [World.cell?_setCell_other]
      all_goals
        intro h
        injection h with h1
        omega
    · simp; omega
  · repeat (first | with_reducible exact hl1 | refine Below.setCell ?_ (by first | (simp <;> omega) | omega) _)
theorem eqPlan_same (u v : Value) (r : List RM) (A B C : Int) (w : World) (h : MsgsAt w (· < w.heap.size) u r) (h' : MsgsAt w (· < w.heap.size) v r) (hr : Small r) :
    Calls Try.prog 20 #[planV u A B C, planV v A B C] w fun e w' => e = .returned (.bool true) ∧ Below w.heap.size w w' := by
  unfold planV
  obtain ⟨P0, hP0⟩ : ∃ P0, (w.alloc (.cells #[u, .int .i64 A, .int .i64 B, .int .i64 C] 49)).alloc (.cells #[v, .int .i64 A, .int .i64 B, .int .i64 C] 49) = P0 := ⟨_, rfl⟩
  have hl : Below w.heap.size w P0 := hP0 ▸ ((Below.refl _ _).alloc (Nat.le_refl _) _).alloc (by simp) _
  have hx0 : Box P0 w.heap.size [u, .int .i64 A, .int .i64 B, .int .i64 C] := hP0 ▸ (Box.fresh w #[u, .int .i64 A, .int .i64 B, .int .i64 C] _).alloc _
  have hx1 : Box P0 (w.heap.size + 1) [v, .int .i64 A, .int .i64 B, .int .i64 C] := hP0 ▸ by
    have h := Box.fresh (w.alloc (.cells #[u, .int .i64 A, .int .i64 B, .int .i64 C] 49)) #[v, .int .i64 A, .int .i64 B, .int .i64 C] 49
    rwa [show (w.alloc (.cells #[u, .int .i64 A, .int .i64 B, .int .i64 C] 49)).heap.size = w.heap.size + 1 by simp] at h
  have HM := Lib.hid (show MsgsAt P0 (· < P0.heap.size) u r from h.keep (.of_below hl fun _ h => h) fun b h => Nat.lt_of_lt_of_le h hl.size)
  have HM' := Lib.hid (show MsgsAt P0 (· < P0.heap.size) v r from h'.keep (.of_below hl fun _ h => h) fun b h => Nat.lt_of_lt_of_le h hl.size)
  clear h h'
  have nA : (A != A) = false := by simp
  have nB : (B != B) = false := by simp
  have nC : (C != C) = false := by simp
  obtain ⟨c0, c1, c2, c3, _⟩ := hx0.fourA
  obtain ⟨d0, d1, d2, d3, _⟩ := hx1.fourA
  go_enter Try.func20, Try.ntmps20
  go_wp2_with fail
  clear c0 c1 c2 c3 d0 d1 d2 d3
  refine (Sch.eqRaw_same _ _ r _ HM.out.raw HM'.out.raw hr).mono ?_
  rintro e w1 ⟨rfl, hb1⟩
  have hl1 := hl.trans (hb1.mono hl.size)
  obtain ⟨c0, c1, c2, c3, _⟩ := (hx0.below hb1 hx0.lt).fourA
  obtain ⟨d0, d1, d2, d3, _⟩ := (hx1.below hb1 hx1.lt).fourA
  clear hP0 hx0 hx1 hb1 hl HM HM'
  go_wp2_with fail
  go_ret
  exact ⟨rfl, hl1⟩
end Go.Proofs.Ytcnpdcmdnmfnaaa.Num
