/-
  The walks of the program's NumEvent and PlanOk: they give what the reference's give; only new memory is written.
-/
import Derived.Test.YtcnpdcmdnmfnaaaEventI
import Derived.Test.YtcnpdcmdnmfnaaaSchemaImpl
import Derived.Test.YtcnpdcmdnmfnaaaSmallI
namespace Go.Proofs.Ytcnpdcmdnmfnaaa.Num
open Go.RowKit Go.Proofs
set_option linter.unusedVariables false
set_option linter.unusedSimpArgs false
theorem Box.sevenE {w : World} {g : Nat} {a b c d e f h : Value} (hx : Box w g [a, b, c, d, e, f, h]) : (w.cell? ⟨g, 0, none⟩ = some a ∧ w.cell? ⟨g, 1, none⟩ = some b ∧ w.cell? ⟨g, 2, none⟩ = some c ∧ w.cell? ⟨g, 3, none⟩ = some d ∧ w.cell? ⟨g, 4, none⟩ = some e ∧ w.cell? ⟨g, 5, none⟩ = some f ∧ w.cell? ⟨g, 6, none⟩ = some h) ∧ w.frozen? ⟨g, 0, none⟩ = false ∧ w.frozen? ⟨g, 1, none⟩ = false ∧ w.frozen? ⟨g, 2, none⟩ = false ∧ w.frozen? ⟨g, 3, none⟩ = false ∧ w.frozen? ⟨g, 4, none⟩ = false ∧ w.frozen? ⟨g, 5, none⟩ = false ∧ w.frozen? ⟨g, 6, none⟩ = false :=
  ⟨⟨(hx.2 0 (by simp)).1, (hx.2 1 (by simp)).1, (hx.2 2 (by simp)).1, (hx.2 3 (by simp)).1, (hx.2 4 (by simp)).1, (hx.2 5 (by simp)).1, (hx.2 6 (by simp)).1⟩, (hx.2 0 (by simp)).2, (hx.2 1 (by simp)).2, (hx.2 2 (by simp)).2, (hx.2 3 (by simp)).2, (hx.2 4 (by simp)).2, (hx.2 5 (by simp)).2, (hx.2 6 (by simp)).2⟩
theorem implNumEvent_any (f : RF) (u : Nat) (w : World) :
    Calls Try.prog 14 #[fieldV f, .int .u64 u] w fun e w' => e = .returned (evV (numE f u)) ∧ Below w.heap.size w w' := by
  obtain ⟨n, hn⟩ : ∃ n, numB f.2.1 u = n := ⟨_, rfl⟩
  unfold numE
  rw [hn]
  obtain ⟨A1, A2, A3, A4, A5⟩ := f
  unfold fieldV evV
  simp only at hn ⊢
  have hb : Below w.heap.size w ((w.alloc (.cells #[.int .i64 A1, .int .i64 A2, .bool A3, .bool A4, .int .i64 A5] 31)).alloc (.cells #[.int .i64 0, .int .i64 0, .int .u64 0, .int .i64 0, .string ⟨#[]⟩, .int .i64 0, .int .i64 0] 35)) := ((Below.refl _ _).alloc (Nat.le_refl _) _).alloc (by simp) _
  have hbx : Box ((w.alloc (.cells #[.int .i64 A1, .int .i64 A2, .bool A3, .bool A4, .int .i64 A5] 31)).alloc (.cells #[.int .i64 0, .int .i64 0, .int .u64 0, .int .i64 0, .string ⟨#[]⟩, .int .i64 0, .int .i64 0] 35)) (w.heap.size + 1) [.int .i64 0, .int .i64 0, .int .u64 0, .int .i64 0, .string ⟨#[]⟩, .int .i64 0, .int .i64 0] := by
    have h := Box.fresh (w.alloc (.cells #[.int .i64 A1, .int .i64 A2, .bool A3, .bool A4, .int .i64 A5] 31)) #[.int .i64 0, .int .i64 0, .int .u64 0, .int .i64 0, .string ⟨#[]⟩, .int .i64 0, .int .i64 0] 35
    rwa [show (w.alloc (.cells #[.int .i64 A1, .int .i64 A2, .bool A3, .bool A4, .int .i64 A5] 31)).heap.size = w.heap.size + 1 by simp] at h
  have Hb := Lib.hid hb; clear hb
  have Hbx := Lib.hid hbx; clear hbx
  unfold numB at hn
  by_cases h3 : A2 = 3
  · have h3b : (A2 == 3) = true := by simp [h3]
    by_cases hu : 1 < u
    · have hn1 : n = 1 := by rw [← hn, if_pos ⟨h3, hu⟩]
      subst hn1
      have hub : (1 : Int) < (u : Int) := by omega
      have hub2 : ¬ (u : Int) ≤ 1 := by omega
      clear hn h3 hu
      go_enter Try.func14, Try.ntmps14
      go_wp2_with fail
      refine (numKind_any _ _ _).mono ?_
      rintro e w1 ⟨rfl, hb1⟩
      obtain ⟨⟨r0, r1, r2, r3, r4, r5, r6⟩, s0, s1, s2, s3, s4, s5, s6⟩ := (Hbx.out.below hb1 Hbx.out.lt).sevenE
      have hz := (Hbx.out.below hb1 Hbx.out.lt).lt
      have Hbw := Lib.hid (Hb.out.trans (hb1.mono Hb.out.size))
      clear hb1
      go_wp2_with fail
      refine bodyPost_ret (v := .agg #[.int .i64 2, .int .i64 A1, .int .u64 1, .int .i64 0, .string ⟨#[]⟩, .int .i64 0, .int .i64 0]) (by simp [results, Try.results14, go_sem, r0, r1, r2, r3, r4, r5, r6, hz]) rfl ⟨rfl, ?_⟩
      repeat (first | with_reducible exact Hbw.out | refine Below.setCell ?_ (by simp) _)
    · have hn1 : n = u := by rw [← hn, if_neg (fun h => hu h.2)]
      subst hn1
      have hub : ¬ (1 : Int) < (n : Int) := by omega
      clear hn h3 hu
      go_enter Try.func14, Try.ntmps14
      go_wp2_with fail
      refine (numKind_any _ _ _).mono ?_
      rintro e w1 ⟨rfl, hb1⟩
      obtain ⟨⟨r0, r1, r2, r3, r4, r5, r6⟩, s0, s1, s2, s3, s4, s5, s6⟩ := (Hbx.out.below hb1 Hbx.out.lt).sevenE
      have hz := (Hbx.out.below hb1 Hbx.out.lt).lt
      have Hbw := Lib.hid (Hb.out.trans (hb1.mono Hb.out.size))
      clear hb1
      go_wp2_with fail
      refine bodyPost_ret (v := .agg #[.int .i64 2, .int .i64 A1, .int .u64 n, .int .i64 0, .string ⟨#[]⟩, .int .i64 0, .int .i64 0]) (by simp [results, Try.results14, go_sem, r0, r1, r2, r3, r4, r5, r6, hz]) rfl ⟨rfl, ?_⟩
      repeat (first | with_reducible exact Hbw.out | refine Below.setCell ?_ (by simp) _)
  · have h3b : (A2 == 3) = false := neI h3
    have hn1 : n = u := by rw [← hn, if_neg (fun h => h3 h.1)]
    subst hn1
    clear hn h3
    go_enter Try.func14, Try.ntmps14
    go_wp2_with fail
    refine (numKind_any _ _ _).mono ?_
    rintro e w1 ⟨rfl, hb1⟩
    obtain ⟨⟨r0, r1, r2, r3, r4, r5, r6⟩, s0, s1, s2, s3, s4, s5, s6⟩ := (Hbx.out.below hb1 Hbx.out.lt).sevenE
    have hz := (Hbx.out.below hb1 Hbx.out.lt).lt
    have Hbw := Lib.hid (Hb.out.trans (hb1.mono Hb.out.size))
    clear hb1
    go_wp2_with fail
    refine bodyPost_ret (v := .agg #[.int .i64 2, .int .i64 A1, .int .u64 n, .int .i64 0, .string ⟨#[]⟩, .int .i64 0, .int .i64 0]) (by simp [results, Try.results14, go_sem, r0, r1, r2, r3, r4, r5, r6, hz]) rfl ⟨rfl, ?_⟩
    repeat (first | with_reducible exact Hbw.out | refine Below.setCell ?_ (by simp) _)
theorem iSchema_as {v : Value} {r : List RM} {R : Bool} (hR : schemaB r = R) (w : World) (h : RawAt w (· < w.heap.size) v r) (hr : Small r) :
    Calls Try.prog 36 #[v] w fun e w' => e = .returned (.bool R) ∧ Below w.heap.size w w' := hR ▸ implSchemaOk_any v r w h hr
theorem implPlanOk_any (u : Value) (r : List RM) (A B C : Int) (w : World) (h : MsgsAt w (· < w.heap.size) u r) (hr : Small r) :
    Calls Try.prog 19 #[planV u A B C] w fun e w' => e = .returned (.bool (planB r A B C)) ∧ Below w.heap.size w w' := by
  obtain ⟨R, hR⟩ : ∃ R, schemaB r = R := ⟨_, rfl⟩
  obtain ⟨a, cap, rfl⟩ := h.len
  unfold planV planB
  rw [hR]
  obtain ⟨X, hX⟩ : ∃ X, (R && (decide (0 ≤ A ∧ A ≤ (r.length : Int) - 1) && (decide (1 ≤ B ∧ B ≤ 8) && decide (0 ≤ C ∧ C ≤ 2000)))) = X := ⟨_, rfl⟩
  rw [hX]
  have HX := Lib.hid hX
  clear hX
  have hrl := hr.1
  have H := Lib.hid h
  have Hr := Lib.hid hr
  clear h hr
  have HM := Lib.hid (H.out.keep (.of_below (Below.alloc (Below.refl w.heap.size w) (Nat.le_refl _) (.cells #[.slice a r.length cap, .int .i64 A, .int .i64 B, .int .i64 C] 49)) fun b hb => hb) fun b hb => show b < (w.alloc (.cells #[.slice a r.length cap, .int .i64 A, .int .i64 B, .int .i64 C] 49)).heap.size by simp; omega)
  have hbx : Box (w.alloc (.cells #[.slice a r.length cap, .int .i64 A, .int .i64 B, .int .i64 C] 49)) w.heap.size [.slice a r.length cap, .int .i64 A, .int .i64 B, .int .i64 C] := Box.fresh w #[.slice a r.length cap, .int .i64 A, .int .i64 B, .int .i64 C] 49
  go_enter Try.func19, Try.ntmps19
  go_wp2_with fail
  refine (iSchema_as hR _ HM.out.raw Hr.out).mono ?_
  rintro e w1 ⟨rfl, hb1⟩
  obtain ⟨c0, c1, c2, c3⟩ := (hbx.below hb1 hbx.lt).fourC
  have hl1 := from_alloc hb1
  clear hbx hb1 HM H
  cases R with
  | false =>
    go_wp2_with fail
    go_ret
    exact ⟨by rw [← HX.out]; rfl, hl1⟩
  | true =>
    by_cases hA : 0 ≤ A ∧ A < (r.length : Int)
    · have dA : decide (0 ≤ A ∧ A ≤ (r.length : Int) - 1) = true := decide_eq_true (by omega)
      by_cases h1 : 1 ≤ B
      · by_cases h2 : B ≤ 8
        · have dB : decide (1 ≤ B ∧ B ≤ 8) = true := decide_eq_true ⟨h1, h2⟩
          by_cases h3 : 0 ≤ C
          · by_cases h4 : C ≤ 2000
            · have dC : decide (0 ≤ C ∧ C ≤ 2000) = true := decide_eq_true ⟨h3, h4⟩
              have e1 : decide (1 ≤ B) = true := decide_eq_true h1
              have e2 : decide (B ≤ 8) = true := decide_eq_true h2
              have e3 : decide (0 ≤ C) = true := decide_eq_true h3
              have e4 : decide (C ≤ 2000) = true := decide_eq_true h4
              go_wp2_with fail
              refine (isIndex_yes _ _ _ hA).mono ?_
              rintro e w2 ⟨rfl, rfl⟩
              go_wp2_with fail
              go_ret
              exact ⟨by rw [← HX.out, dA, dB, dC]; rfl, hl1⟩
            · have dC : decide (0 ≤ C ∧ C ≤ 2000) = false := decide_eq_false fun h => h4 h.2
              go_wp2_with fail
              refine (isIndex_yes _ _ _ hA).mono ?_
              rintro e w2 ⟨rfl, rfl⟩
              go_wp2_with fail
              go_ret
              exact ⟨by rw [← HX.out, dA, dB, dC]; show Ending.returned (.bool (decide (C ≤ 2000))) = _; rw [decide_eq_false (by omega)]; rfl, hl1⟩
          · have dC : decide (0 ≤ C ∧ C ≤ 2000) = false := decide_eq_false fun h => h3 h.1
            go_wp2_with fail
            refine (isIndex_yes _ _ _ hA).mono ?_
            rintro e w2 ⟨rfl, rfl⟩
            go_wp2_with fail
            go_ret
            exact ⟨by rw [← HX.out, dA, dB, dC]; rfl, hl1⟩
        · have dB : decide (1 ≤ B ∧ B ≤ 8) = false := decide_eq_false fun h => h2 h.2
          go_wp2_with fail
          refine (isIndex_yes _ _ _ hA).mono ?_
          rintro e w2 ⟨rfl, rfl⟩
          go_wp2_with fail
          go_ret
          exact ⟨by rw [← HX.out, dA, dB]; rfl, hl1⟩
      · have dB : decide (1 ≤ B ∧ B ≤ 8) = false := decide_eq_false fun h => h1 h.1
        go_wp2_with fail
        refine (isIndex_yes _ _ _ hA).mono ?_
        rintro e w2 ⟨rfl, rfl⟩
        go_wp2_with fail
        go_ret
        exact ⟨by rw [← HX.out, dA, dB]; rfl, hl1⟩
    · have dA : decide (0 ≤ A ∧ A ≤ (r.length : Int) - 1) = false := decide_eq_false (by omega)
      go_wp2_with fail
      refine (isIndex_no _ _ _ hA).mono ?_
      rintro e w2 ⟨rfl, rfl⟩
      go_wp2_with fail
      go_ret
      exact ⟨by rw [← HX.out, dA]; rfl, hl1⟩
end Go.Proofs.Ytcnpdcmdnmfnaaa.Num
