/-
  The walks of the reference's Allowed, NumEvent and PlanOk: only new memory is written.
-/
import Derived.Test.YtcnpdcmdnmfnaaaSchemaOk
import Derived.Test.YtcnpdcmdnmfnaaaEv
namespace Go.Proofs.Ytcnpdcmdnmfnaaa.Num
open Go.RowKit Go.Proofs
set_option linter.unusedVariables false
/-- Whether a field's value may stand with a wire type. -/
def allowedB (f : RF) (x : Int) : Bool := (kindB f.2.1 && decide (x = wireR f.2.1)) || (decide (x = 2) && runsB f)
/-- The number that is told of a field: a flag is 0 or 1. -/
def numB (k : Int) (u : Nat) : Nat := if k = 3 ∧ 1 < u then 1 else u
def numE (f : RF) (u : Nat) : Ev := ⟨2, f.1, numB f.2.1 u, 0, ⟨#[]⟩, 0, 0⟩
def planV (u : Value) (A B C : Int) : Value := .agg #[u, .int .i64 A, .int .i64 B, .int .i64 C]
noncomputable def planB (r : List RM) (A B C : Int) : Bool := schemaB r && (decide (0 ≤ A ∧ A ≤ (r.length : Int) - 1) && (decide (1 ≤ B ∧ B ≤ 8) && decide (0 ≤ C ∧ C ≤ 2000)))
theorem specNumEvent_any (f : RF) (u : Nat) (w : World) :
    Calls Try.prog 21 #[fieldV f, .int .u64 u] w fun e w' => e = .returned (evV (numE f u)) ∧ Below w.heap.size w w' := by
  obtain ⟨n, hn⟩ : ∃ n, numB f.2.1 u = n := ⟨_, rfl⟩
  unfold numE
  rw [hn]
  obtain ⟨A1, A2, A3, A4, A5⟩ := f
  unfold fieldV evV
  simp only at hn ⊢
  unfold numB at hn
  by_cases h3 : A2 = 3
  · have h3b : (A2 == 3) = true := by simp [h3]
    by_cases hu : 1 < u
    · have hn1 : n = 1 := by rw [← hn, if_pos ⟨h3, hu⟩]
      subst hn1
      have hub : (1 : Int) < (u : Int) := by omega
      clear hn h3 hu
      go_enter Try.func21, Try.ntmps21
      go_wp2_with fail
      refine bodyPost_ret (v := .agg #[.int .i64 2, .int .i64 A1, .int .u64 1, .int .i64 0, .string ⟨#[]⟩, .int .i64 0, .int .i64 0]) (by simp [results, Try.results21, go_sem]) rfl ⟨rfl, ?_⟩
      exact ((Below.refl _ _).alloc (Nat.le_refl _) _).alloc (by simp) _
    · have hn1 : n = u := by rw [← hn, if_neg (fun h => hu h.2)]
      subst hn1
      have hub : ¬ (1 : Int) < (n : Int) := by omega
      clear hn h3 hu
      go_enter Try.func21, Try.ntmps21
      go_wp2_with fail
      refine bodyPost_ret (v := .agg #[.int .i64 2, .int .i64 A1, .int .u64 n, .int .i64 0, .string ⟨#[]⟩, .int .i64 0, .int .i64 0]) (by simp [results, Try.results21, go_sem]) rfl ⟨rfl, ?_⟩
      exact ((Below.refl _ _).alloc (Nat.le_refl _) _).alloc (by simp) _
  · have h3b : (A2 == 3) = false := neI h3
    have hn1 : n = u := by rw [← hn, if_neg (fun h => h3 h.1)]
    subst hn1
    clear hn h3
    go_enter Try.func21, Try.ntmps21
    go_wp2_with fail
    refine bodyPost_ret (v := .agg #[.int .i64 2, .int .i64 A1, .int .u64 n, .int .i64 0, .string ⟨#[]⟩, .int .i64 0, .int .i64 0]) (by simp [results, Try.results21, go_sem]) rfl ⟨rfl, ?_⟩
    exact ((Below.refl _ _).alloc (Nat.le_refl _) _).alloc (by simp) _
theorem Box.fourC {w : World} {g : Nat} {a b c d : Value} (h : Box w g [a, b, c, d]) : w.cell? ⟨g, 0, none⟩ = some a ∧ w.cell? ⟨g, 1, none⟩ = some b ∧ w.cell? ⟨g, 2, none⟩ = some c ∧ w.cell? ⟨g, 3, none⟩ = some d :=
  ⟨(h.2 0 (by simp)).1, (h.2 1 (by simp)).1, (h.2 2 (by simp)).1, (h.2 3 (by simp)).1⟩
theorem schema_as {v : Value} {r : List RM} {R : Bool} (hR : schemaB r = R) (w : World) (h : RawAt w (· < w.heap.size) v r) (hr : Small r) :
    Calls Try.prog 34 #[v] w fun e w' => e = .returned (.bool R) ∧ Below w.heap.size w w' := hR ▸ specSchemaOk_any v r w h hr
theorem specPlanOk_any (u : Value) (r : List RM) (A B C : Int) (w : World) (h : MsgsAt w (· < w.heap.size) u r) (hr : Small r) :
    Calls Try.prog 17 #[planV u A B C] w fun e w' => e = .returned (.bool (planB r A B C)) ∧ Below w.heap.size w w' := by
  obtain ⟨R, hR⟩ : ∃ R, schemaB r = R := ⟨_, rfl⟩
  obtain ⟨a, cap, rfl⟩ := h.len
  unfold planV planB
  rw [hR]
  have hrl := hr.1
  have H := Lib.hid h
  have Hr := Lib.hid hr
  clear h hr
  have HM := Lib.hid (H.out.keep (.of_below (Below.alloc (Below.refl w.heap.size w) (Nat.le_refl _) (.cells #[.slice a r.length cap, .int .i64 A, .int .i64 B, .int .i64 C] 49)) fun b hb => hb) fun b hb => show b < (w.alloc (.cells #[.slice a r.length cap, .int .i64 A, .int .i64 B, .int .i64 C] 49)).heap.size from by simp; omega)
  have hbx : Box (w.alloc (.cells #[.slice a r.length cap, .int .i64 A, .int .i64 B, .int .i64 C] 49)) w.heap.size [.slice a r.length cap, .int .i64 A, .int .i64 B, .int .i64 C] := Box.fresh w #[.slice a r.length cap, .int .i64 A, .int .i64 B, .int .i64 C] 49
  go_enter Try.func17, Try.ntmps17
  go_wp2_with fail
  refine (schema_as hR _ HM.out.raw Hr.out).mono ?_
  rintro e w1 ⟨rfl, hb1⟩
  obtain ⟨c0, c1, c2, c3⟩ := (hbx.below hb1 hbx.lt).fourC
  have hl1 := from_alloc hb1
  have hwr : IntKind.i64.wrap ((r.length : Int) - 1) = (r.length : Int) - 1 := IntWalk.i64_in _ (by omega)
  have d1 : (decide (0 ≤ A ∧ A ≤ (r.length : Int) - 1) = true) ∨ (decide (0 ≤ A ∧ A ≤ (r.length : Int) - 1) = false) := by cases decide (0 ≤ A ∧ A ≤ (r.length : Int) - 1) <;> simp
  have d2 : (decide (1 ≤ B ∧ B ≤ 8) = true) ∨ (decide (1 ≤ B ∧ B ≤ 8) = false) := by cases decide (1 ≤ B ∧ B ≤ 8) <;> simp
  have d3 : (decide (0 ≤ C ∧ C ≤ 2000) = true) ∨ (decide (0 ≤ C ∧ C ≤ 2000) = false) := by cases decide (0 ≤ C ∧ C ≤ 2000) <;> simp
  clear hbx hb1 HM H
  cases R with
  | false =>
    go_wp2_with fail
    go_ret
    exact ⟨rfl, hl1⟩
  | true =>
    go_wp2_with fail
    refine (specIn_any _ _ _ _).mono ?_
    rintro e w2 ⟨rfl, rfl⟩
    rcases d1 with d1 | d1
    · rw [d1]
      go_wp2_with fail
      refine (specIn_any _ _ _ _).mono ?_
      rintro e w2 ⟨rfl, rfl⟩
      rcases d2 with d2 | d2
      · rw [d2]
        go_wp2_with fail
        refine (specIn_any _ _ _ _).mono ?_
        rintro e w2 ⟨rfl, rfl⟩
        rcases d3 with d3 | d3
        · rw [d3]
          go_wp2_with fail
          go_ret
          exact ⟨by rw [d1, d2, d3]; rfl, hl1⟩
        · rw [d3]
          go_wp2_with fail
          go_ret
          exact ⟨by rw [d1, d2, d3]; rfl, hl1⟩
      · rw [d2]
        go_wp2_with fail
        go_ret
        exact ⟨by rw [d1, d2]; rfl, hl1⟩
    · rw [d1]
      go_wp2_with fail
      go_ret
      exact ⟨by rw [d1]; rfl, hl1⟩
end Go.Proofs.Ytcnpdcmdnmfnaaa.Num
