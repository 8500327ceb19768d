/-
  The walks of the reference's Allowed, NumEvent and PlanOk: only new memory is written.
-/
import Derived.Test.YtcnpdcmdnmfnaaaGreatSchemaOk
import Derived.Test.YtcnpdcmdnmfnaaaGreatEv
namespace Go.Proofs.YtcnpdcmdnmfnaaaGreat.Num
open Go.RowKit Go.Proofs
set_option linter.unusedVariables false
/-- Whether a field's value may stand with a wire type. -/
def allowedB (f : RF) (x : Int) : Bool := (kindB f.2.1 && decide (x = wireR f.2.1)) || (decide (x = 2) && runsB f)
/-- The number that is told of a field: a flag is 0 or 1. -/
def numB (k : Int) (u : Nat) : Nat := if k = 3 ∧ 1 < u then 1 else u
def numE (f : RF) (u : Nat) : Ev := ⟨2, f.1, numB f.2.1 u, 0, ⟨#[]⟩, 0, 0⟩
def planV (u : Value) (A B C : Int) : Value := .agg #[u, .int .i64 A, .int .i64 B, .int .i64 C]
noncomputable def planB (r : List RM) (A B C : Int) : Bool := schemaB r && (decide (0 ≤ A ∧ A ≤ (r.length : Int) - 1) && (decide (1 ≤ B ∧ B ≤ 8) && decide (0 ≤ C ∧ C ≤ 2000)))
theorem runs_as (f : RF) (R : Bool) (h : runsB f = R) (w : World) : Calls Tryz.prog 81 #[fieldV f] w fun e w' => e = .returned (.bool R) ∧ Below w.heap.size w w' := h ▸ specRuns_any f w
theorem wire_as (k R : Int) (h : wireR k = R) (w : World) : Calls Tryz.prog 78 #[.int .i64 k] w fun e w' => e = .returned (.int .i64 R) ∧ w = w' := h ▸ specWireOf_any k w
theorem specAllowed_any (f : RF) (x : Int) (w : World) :
    Calls Tryz.prog 64 #[fieldV f, .int .i64 x] w fun e w' => e = .returned (.bool (allowedB f x)) ∧ Below w.heap.size w w' := by
  obtain ⟨Q, hQ⟩ : ∃ Q, allowedB f x = Q := ⟨_, rfl⟩
  obtain ⟨R, hR⟩ : ∃ R, runsB f = R := ⟨_, rfl⟩
  obtain ⟨W, hW⟩ : ∃ W, wireR f.2.1 = W := ⟨_, rfl⟩
  have HR : ∀ w, Calls Tryz.prog 81 #[fieldV f] w fun e w' => e = .returned (.bool R) ∧ Below w.heap.size w w' := runs_as f R hR
  rw [hQ]
  unfold allowedB at hQ
  rw [hR, hW] at hQ
  obtain ⟨A1, A2, A3, A4, A5⟩ := f
  simp only at hQ hW
  unfold fieldV at HR ⊢
  simp only at HR ⊢
  have HR' := Lib.hid HR
  have hl : Below w.heap.size w (w.alloc (.cells #[.int .i64 A1, .int .i64 A2, .bool A3, .bool A4, .int .i64 A5] 95)) := (Below.refl _ _).alloc (Nat.le_refl _) _
  clear HR hR
  by_cases hk : 1 ≤ A2 ∧ A2 ≤ 8
  · have HQ : Hid (kindB A2 = true) := Lib.hid (decide_eq_true hk)
    by_cases hx : x = W
    · have hQ1 : Q = true := by rw [← hQ, HQ.out, decide_eq_true hx]; rfl
      subst hQ1
      have hxb : (x == W) = true := by simp [hx]
      clear hQ
      go_enter Tryz.func64, Tryz.ntmps64
      go_wp2_with fail
      refine (specKind_yes A2 _ hk).mono ?_
      rintro e w1 ⟨rfl, rfl⟩
      go_wp2_with fail
      refine (wire_as A2 W hW _).mono ?_
      rintro e w1 ⟨rfl, rfl⟩
      go_wp2_with fail
      go_ret
      exact ⟨rfl, hl⟩
    · have hxb : (x == W) = false := neI hx
      by_cases h2 : x = 2
      · have h2b : (x == 2) = true := by simp [h2]
        have hQ1 : Q = R := by rw [← hQ, HQ.out, decide_eq_false hx, decide_eq_true h2]; rfl
        subst hQ1
        clear hQ hx h2
        go_enter Tryz.func64, Tryz.ntmps64
        go_wp2_with fail
        refine (specKind_yes A2 _ hk).mono ?_
        rintro e w1 ⟨rfl, rfl⟩
        go_wp2_with fail
        refine (wire_as A2 W hW _).mono ?_
        rintro e w1 ⟨rfl, rfl⟩
        go_wp2_with fail
        refine (HR'.out _).mono ?_
        rintro e w1 ⟨rfl, hb1⟩
        go_wp2_with fail
        go_ret
        exact ⟨rfl, from_alloc hb1⟩
      · have h2b : (x == 2) = false := neI h2
        have hQ1 : Q = false := by rw [← hQ, HQ.out, decide_eq_false hx, decide_eq_false h2]; rfl
        subst hQ1
        clear hQ hx h2
        go_enter Tryz.func64, Tryz.ntmps64
        go_wp2_with fail
        refine (specKind_yes A2 _ hk).mono ?_
        rintro e w1 ⟨rfl, rfl⟩
        go_wp2_with fail
        refine (wire_as A2 W hW _).mono ?_
        rintro e w1 ⟨rfl, rfl⟩
        go_wp2_with fail
        go_ret
        exact ⟨rfl, hl⟩
  · have HQ : Hid (kindB A2 = false) := Lib.hid (decide_eq_false hk)
    by_cases h2 : x = 2
    · have h2b : (x == 2) = true := by simp [h2]
      have hQ1 : Q = R := by rw [← hQ, HQ.out, decide_eq_true h2]; rfl
      subst hQ1
      clear hQ h2
      go_enter Tryz.func64, Tryz.ntmps64
      go_wp2_with fail
      refine (specKind_no A2 _ hk).mono ?_
      rintro e w1 ⟨rfl, rfl⟩
      go_wp2_with fail
      refine (HR'.out _).mono ?_
      rintro e w1 ⟨rfl, hb1⟩
      go_wp2_with fail
      go_ret
      exact ⟨rfl, from_alloc hb1⟩
    · have h2b : (x == 2) = false := neI h2
      have hQ1 : Q = false := by rw [← hQ, HQ.out, decide_eq_false h2]; rfl
      subst hQ1
      clear hQ h2
      go_enter Tryz.func64, Tryz.ntmps64
      go_wp2_with fail
      refine (specKind_no A2 _ hk).mono ?_
      rintro e w1 ⟨rfl, rfl⟩
      go_wp2_with fail
      go_ret
      exact ⟨rfl, hl⟩
theorem specNumEvent_any (f : RF) (u : Nat) (w : World) :
    Calls Tryz.prog 98 #[fieldV f, .int .u64 u] w fun e w' => e = .returned (evV (numE f u)) ∧ Below w.heap.size w w' := by
  obtain ⟨n, hn⟩ : ∃ n, numB f.2.1 u = n := ⟨_, rfl⟩
  unfold numE
  rw [hn]
  obtain ⟨A1, A2, A3, A4, A5⟩ := f
  unfold fieldV evV
  simp only at hn ⊢
  unfold numB at hn
  by_cases h3 : A2 = 3
  · have h3b : (A2 == 3) = true := by simp [h3]
    by_cases hu : 1 < u
    · have hn1 : n = 1 := by rw [← hn, if_pos ⟨h3, hu⟩]
      subst hn1
      have hub : (1 : Int) < (u : Int) := by omega
      clear hn h3 hu
      go_enter Tryz.func98, Tryz.ntmps98
      go_wp2_with fail
      refine bodyPost_ret (v := .agg #[.int .i64 2, .int .i64 A1, .int .u64 1, .int .i64 0, .string ⟨#[]⟩, .int .i64 0, .int .i64 0]) (by simp [results, Tryz.results98, go_sem]) rfl ⟨rfl, ?_⟩
      exact ((Below.refl _ _).alloc (Nat.le_refl _) _).alloc (by simp) _
    · have hn1 : n = u := by rw [← hn, if_neg (fun h => hu h.2)]
      subst hn1
      have hub : ¬ (1 : Int) < (n : Int) := by omega
      clear hn h3 hu
      go_enter Tryz.func98, Tryz.ntmps98
      go_wp2_with fail
      refine bodyPost_ret (v := .agg #[.int .i64 2, .int .i64 A1, .int .u64 n, .int .i64 0, .string ⟨#[]⟩, .int .i64 0, .int .i64 0]) (by simp [results, Tryz.results98, go_sem]) rfl ⟨rfl, ?_⟩
      exact ((Below.refl _ _).alloc (Nat.le_refl _) _).alloc (by simp) _
  · have h3b : (A2 == 3) = false := neI h3
    have hn1 : n = u := by rw [← hn, if_neg (fun h => h3 h.1)]
    subst hn1
    clear hn h3
    go_enter Tryz.func98, Tryz.ntmps98
    go_wp2_with fail
    refine bodyPost_ret (v := .agg #[.int .i64 2, .int .i64 A1, .int .u64 n, .int .i64 0, .string ⟨#[]⟩, .int .i64 0, .int .i64 0]) (by simp [results, Tryz.results98, go_sem]) rfl ⟨rfl, ?_⟩
    exact ((Below.refl _ _).alloc (Nat.le_refl _) _).alloc (by simp) _
theorem Box.fourC {w : World} {g : Nat} {a b c d : Value} (h : Box w g [a, b, c, d]) : w.cell? ⟨g, 0, none⟩ = some a ∧ w.cell? ⟨g, 1, none⟩ = some b ∧ w.cell? ⟨g, 2, none⟩ = some c ∧ w.cell? ⟨g, 3, none⟩ = some d :=
  ⟨(h.2 0 (by simp)).1, (h.2 1 (by simp)).1, (h.2 2 (by simp)).1, (h.2 3 (by simp)).1⟩
theorem schema_as {v : Value} {r : List RM} {R : Bool} (hR : schemaB r = R) (w : World) (h : RawAt w (· < w.heap.size) v r) (hr : Small r) :
    Calls Tryz.prog 38 #[v] w fun e w' => e = .returned (.bool R) ∧ Below w.heap.size w w' := hR ▸ specSchemaOk_any v r w h hr
theorem specPlanOk_any (u : Value) (r : List RM) (A B C : Int) (w : World) (h : MsgsAt w (· < w.heap.size) u r) (hr : Small r) :
    Calls Tryz.prog 14 #[planV u A B C] w fun e w' => e = .returned (.bool (planB r A B C)) ∧ Below w.heap.size w w' := by
  obtain ⟨R, hR⟩ : ∃ R, schemaB r = R := ⟨_, rfl⟩
  obtain ⟨a, cap, rfl⟩ := h.len
  unfold planV planB
  rw [hR]
  have hrl := hr.1
  have H := Lib.hid h
  have Hr := Lib.hid hr
  clear h hr
  have HM := Lib.hid (H.out.keep (.of_below (Below.alloc (Below.refl w.heap.size w) (Nat.le_refl _) (.cells #[.slice a r.length cap, .int .i64 A, .int .i64 B, .int .i64 C] 28)) fun b hb => hb) fun b hb => show b < (w.alloc (.cells #[.slice a r.length cap, .int .i64 A, .int .i64 B, .int .i64 C] 28)).heap.size from by simp; omega)
  have hbx : Box (w.alloc (.cells #[.slice a r.length cap, .int .i64 A, .int .i64 B, .int .i64 C] 28)) w.heap.size [.slice a r.length cap, .int .i64 A, .int .i64 B, .int .i64 C] := Box.fresh w #[.slice a r.length cap, .int .i64 A, .int .i64 B, .int .i64 C] 28
  go_enter Tryz.func14, Tryz.ntmps14
  go_wp2_with fail
  refine (schema_as hR _ HM.out.raw Hr.out).mono ?_
  rintro e w1 ⟨rfl, hb1⟩
  obtain ⟨c0, c1, c2, c3⟩ := (hbx.below hb1 hbx.lt).fourC
  have hl1 := from_alloc hb1
  have hwr : IntKind.i64.wrap ((r.length : Int) - 1) = (r.length : Int) - 1 := IntWalk.i64_in _ (by omega)
  have d1 : (decide (0 ≤ A ∧ A ≤ (r.length : Int) - 1) = true) ∨ (decide (0 ≤ A ∧ A ≤ (r.length : Int) - 1) = false) := by cases decide (0 ≤ A ∧ A ≤ (r.length : Int) - 1) <;> simp
  have d2 : (decide (1 ≤ B ∧ B ≤ 8) = true) ∨ (decide (1 ≤ B ∧ B ≤ 8) = false) := by cases decide (1 ≤ B ∧ B ≤ 8) <;> simp
  have d3 : (decide (0 ≤ C ∧ C ≤ 2000) = true) ∨ (decide (0 ≤ C ∧ C ≤ 2000) = false) := by cases decide (0 ≤ C ∧ C ≤ 2000) <;> simp
  clear hbx hb1 HM H
  cases R with
  | false =>
    go_wp2_with fail
    go_ret
    exact ⟨rfl, hl1⟩
  | true =>
    go_wp2_with fail
    refine (specIn_any _ _ _ _).mono ?_
    rintro e w2 ⟨rfl, rfl⟩
    rcases d1 with d1 | d1
    · rw [d1]
      go_wp2_with fail
      refine (specIn_any _ _ _ _).mono ?_
      rintro e w2 ⟨rfl, rfl⟩
      rcases d2 with d2 | d2
      · rw [d2]
        go_wp2_with fail
        refine (specIn_any _ _ _ _).mono ?_
        rintro e w2 ⟨rfl, rfl⟩
        rcases d3 with d3 | d3
        · rw [d3]
          go_wp2_with fail
          go_ret
          exact ⟨by rw [d1, d2, d3]; rfl, hl1⟩
        · rw [d3]
          go_wp2_with fail
          go_ret
          exact ⟨by rw [d1, d2, d3]; rfl, hl1⟩
      · rw [d2]
        go_wp2_with fail
        go_ret
        exact ⟨by rw [d1, d2]; rfl, hl1⟩
    · rw [d1]
      go_wp2_with fail
      go_ret
      exact ⟨by rw [d1]; rfl, hl1⟩
end Go.Proofs.YtcnpdcmdnmfnaaaGreat.Num
