/-
  The walks of the program's expecting, bytesAfter and afterFirst: they give what the plain validator gives behind a first byte; only new memory is written.
-/
import Derived.Test.YtoohcepobbbejaaUtfByte
namespace Go.Proofs.Ytoohcepobbbejaa.Num
open Go.RowKit Go.Proofs
set_option linter.unusedVariables false

theorem one_new {w : World} (a : Obj) : Below w.heap.size w (w.alloc a) := (Below.refl _ _).alloc (Nat.le_refl _) _
theorem implExpect_0 (w : World) :
    Calls Try.prog 39 #[.int .i64 0] w fun e w' => e = .returned (.agg #[.int .i64 0, .int .i64 0, .int .i64 0]) ∧ Below w.heap.size w w' := by
  go_enter Try.func39, Try.ntmps39
  go_wp2_with fail
  refine bodyPost_ret (v := .agg #[.int .i64 0, .int .i64 0, .int .i64 0]) (by simp [results, Try.results39, go_sem]) rfl ⟨rfl, ?_⟩
  repeat (first | exact one_new _ | refine Below.setCell ?_ (by simp) _)
theorem implExpect_n (n : Int) (h : n ≠ 0) (w : World) :
    Calls Try.prog 39 #[.int .i64 n] w fun e w' => e = .returned (.agg #[.int .i64 n, .int .i64 128, .int .i64 191]) ∧ Below w.heap.size w w' := by
  have b0 := neB h
  clear h
  go_enter Try.func39, Try.ntmps39
  go_wp2_with fail
  refine bodyPost_ret (v := .agg #[.int .i64 n, .int .i64 128, .int .i64 191]) (by simp [results, Try.results39, go_sem]) rfl ⟨rfl, ?_⟩
  repeat (first | exact one_new _ | refine Below.setCell ?_ (by simp) _)
/-- How many bytes follow a first byte; -1 where none may begin. -/
def afterN (b : Int) : Int := if 0 ≤ b ∧ b ≤ 127 then 0 else if 194 ≤ b ∧ b ≤ 223 then 1 else if 224 ≤ b ∧ b ≤ 239 then 2 else if 240 ≤ b ∧ b ≤ 244 then 3 else -1
theorem implAfter_any (b n : Int) (h : afterN b = n) (w : World) :
    Calls Try.prog 49 #[.int .i64 b] w fun e w' => e = .returned (.int .i64 n) ∧ w = w' := by
  unfold afterN at h
  by_cases c0 : 0 ≤ b
  · by_cases c1 : b ≤ 127
    · rw [if_pos ⟨c0, c1⟩] at h
      subst h
      go_enter Try.func49, Try.ntmps49
      go_wp2_with fail
      go_ret
      exact ⟨rfl, rfl⟩
    · rw [if_neg (by omega)] at h
      by_cases c2 : 194 ≤ b
      · by_cases c3 : b ≤ 223
        · rw [if_pos ⟨c2, c3⟩] at h
          subst h
          go_enter Try.func49, Try.ntmps49
          go_wp2_with fail
          go_ret
          exact ⟨rfl, rfl⟩
        · rw [if_neg (by omega)] at h
          by_cases c4 : b ≤ 239
          · rw [if_pos (by omega)] at h
            subst h
            have c5 : 224 ≤ b := by omega
            go_enter Try.func49, Try.ntmps49
            go_wp2_with fail
            go_ret
            exact ⟨rfl, rfl⟩
          · rw [if_neg (by omega)] at h
            have c5 : 240 ≤ b := by omega
            have c7 : 224 ≤ b := by omega
            by_cases c6 : b ≤ 244
            · rw [if_pos (by omega)] at h
              subst h
              go_enter Try.func49, Try.ntmps49
              go_wp2_with fail
              go_ret
              exact ⟨rfl, rfl⟩
            · rw [if_neg (by omega)] at h
              subst h
              go_enter Try.func49, Try.ntmps49
              go_wp2_with fail
              go_ret
              exact ⟨rfl, rfl⟩
      · rw [if_neg (by omega), if_neg (by omega), if_neg (by omega)] at h
        subst h
        have c3 : ¬ 224 ≤ b := by omega
        have c4 : ¬ 240 ≤ b := by omega
        go_enter Try.func49, Try.ntmps49
        go_wp2_with fail
        go_ret
        exact ⟨rfl, rfl⟩
  · rw [if_neg (by omega), if_neg (by omega), if_neg (by omega), if_neg (by omega)] at h
    subst h
    have c2 : ¬ 194 ≤ b := by omega
    have c3 : ¬ 224 ≤ b := by omega
    have c4 : ¬ 240 ≤ b := by omega
    go_enter Try.func49, Try.ntmps49
    go_wp2_with fail
    go_ret
    exact ⟨rfl, rfl⟩
/-- The walk of afterFirst once the number of bytes is known. -/
theorem implFirst_no (b : Int) (h : afterN b = -1) (w : World) :
    Calls Try.prog 38 #[.int .i64 b] w fun e w' => e = .returned (.tuple #[.agg #[.int .i64 0, .int .i64 0, .int .i64 0], .bool false]) ∧ Below w.heap.size w w' := by
  have H := Lib.hid h; clear h
  go_enter Try.func38, Try.ntmps38
  go_wp2_with fail
  refine (implAfter_any _ _ H.out _).mono ?_
  rintro e w1 ⟨rfl, rfl⟩
  go_wp2_with fail
  refine bodyPost_ret (v := .tuple #[.agg #[.int .i64 0, .int .i64 0, .int .i64 0], .bool false]) (by simp [results, Try.results38, go_sem]) rfl ⟨rfl, ?_⟩
  repeat (first | exact one_new _ | refine Below.setCell ?_ (by simp) _)
theorem implFirst_0 (b : Int) (h : afterN b = 0) (h2 : (b == 224) = false ∧ (b == 237) = false ∧ (b == 240) = false ∧ (b == 244) = false) (w : World) :
    Calls Try.prog 38 #[.int .i64 b] w fun e w' => e = .returned (.tuple #[.agg #[.int .i64 0, .int .i64 0, .int .i64 0], .bool true]) ∧ Below w.heap.size w w' := by
  have H := Lib.hid h; clear h
  obtain ⟨n0, n1, n2, n3⟩ := h2
  go_enter Try.func38, Try.ntmps38
  go_wp2_with fail
  refine (implAfter_any _ _ H.out _).mono ?_
  rintro e w1 ⟨rfl, rfl⟩
  go_wp2_with fail
  refine (implExpect_0 _).mono ?_
  rintro e w1 ⟨rfl, hb1⟩
  have hz := alloc_lt hb1
  have hbw := from_alloc hb1
  obtain ⟨hc, hf⟩ := bcellU hb1
  go_wp2_with fail
  refine bodyPost_ret (v := .tuple #[.agg #[.int .i64 0, .int .i64 0, .int .i64 0], .bool true]) (by simp [results, Try.results38, go_sem, hc, hz]) rfl ⟨rfl, ?_⟩
  repeat (first | exact hbw | refine Below.setCell ?_ (by simp) _ | refine Below.alloc ?_ (by simp <;> omega) _)
theorem implFirst_n (b n : Int) (h : afterN b = n) (hn : 0 < n) (h2 : (b == 224) = false ∧ (b == 237) = false ∧ (b == 240) = false ∧ (b == 244) = false) (w : World) :
    Calls Try.prog 38 #[.int .i64 b] w fun e w' => e = .returned (.tuple #[.agg #[.int .i64 n, .int .i64 128, .int .i64 191], .bool true]) ∧ Below w.heap.size w w' := by
  have H := Lib.hid h; clear h
  have hn0 := Lib.hid (show n ≠ 0 by omega)
  obtain ⟨n0, n1, n2, n3⟩ := h2
  go_enter Try.func38, Try.ntmps38
  go_wp2_with fail
  refine (implAfter_any _ _ H.out _).mono ?_
  rintro e w1 ⟨rfl, rfl⟩
  go_wp2_with fail
  refine (implExpect_n _ hn0.out _).mono ?_
  rintro e w1 ⟨rfl, hb1⟩
  have hz := alloc_lt hb1
  have hbw := from_alloc hb1
  obtain ⟨hc, hf⟩ := bcellU hb1
  go_wp2_with fail
  refine bodyPost_ret (v := .tuple #[.agg #[.int .i64 n, .int .i64 128, .int .i64 191], .bool true]) (by simp [results, Try.results38, go_sem, hc, hz]) rfl ⟨rfl, ?_⟩
  repeat (first | exact hbw | refine Below.setCell ?_ (by simp) _ | refine Below.alloc ?_ (by simp <;> omega) _)
theorem implFirst_224 (w : World) :
    Calls Try.prog 38 #[.int .i64 224] w fun e w' => e = .returned (.tuple #[.agg #[.int .i64 2, .int .i64 160, .int .i64 191], .bool true]) ∧ Below w.heap.size w w' := by
  go_enter Try.func38, Try.ntmps38
  go_wp2_with fail
  refine (implAfter_any _ 2 (by decide) _).mono ?_
  rintro e w1 ⟨rfl, rfl⟩
  go_wp2_with fail
  refine (implExpect_n _ (by decide) _).mono ?_
  rintro e w1 ⟨rfl, hb1⟩
  have hz := alloc_lt hb1
  have hbw := from_alloc hb1
  obtain ⟨hc, hf⟩ := bcellU hb1
  go_wp2_with fail
  refine bodyPost_ret (v := .tuple #[.agg #[.int .i64 2, .int .i64 160, .int .i64 191], .bool true]) (by simp [results, Try.results38, go_sem, hc, hz]) rfl ⟨rfl, ?_⟩
  repeat (first | exact hbw | refine Below.setCell ?_ (by simp) _ | refine Below.alloc ?_ (by simp <;> omega) _)
theorem implFirst_237 (w : World) :
    Calls Try.prog 38 #[.int .i64 237] w fun e w' => e = .returned (.tuple #[.agg #[.int .i64 2, .int .i64 128, .int .i64 159], .bool true]) ∧ Below w.heap.size w w' := by
  go_enter Try.func38, Try.ntmps38
  go_wp2_with fail
  refine (implAfter_any _ 2 (by decide) _).mono ?_
  rintro e w1 ⟨rfl, rfl⟩
  go_wp2_with fail
  refine (implExpect_n _ (by decide) _).mono ?_
  rintro e w1 ⟨rfl, hb1⟩
  have hz := alloc_lt hb1
  have hbw := from_alloc hb1
  obtain ⟨hc, hf⟩ := bcellU hb1
  go_wp2_with fail
  refine bodyPost_ret (v := .tuple #[.agg #[.int .i64 2, .int .i64 128, .int .i64 159], .bool true]) (by simp [results, Try.results38, go_sem, hc, hz]) rfl ⟨rfl, ?_⟩
  repeat (first | exact hbw | refine Below.setCell ?_ (by simp) _ | refine Below.alloc ?_ (by simp <;> omega) _)
theorem implFirst_240 (w : World) :
    Calls Try.prog 38 #[.int .i64 240] w fun e w' => e = .returned (.tuple #[.agg #[.int .i64 3, .int .i64 144, .int .i64 191], .bool true]) ∧ Below w.heap.size w w' := by
  go_enter Try.func38, Try.ntmps38
  go_wp2_with fail
  refine (implAfter_any _ 3 (by decide) _).mono ?_
  rintro e w1 ⟨rfl, rfl⟩
  go_wp2_with fail
  refine (implExpect_n _ (by decide) _).mono ?_
  rintro e w1 ⟨rfl, hb1⟩
  have hz := alloc_lt hb1
  have hbw := from_alloc hb1
  obtain ⟨hc, hf⟩ := bcellU hb1
  go_wp2_with fail
  refine bodyPost_ret (v := .tuple #[.agg #[.int .i64 3, .int .i64 144, .int .i64 191], .bool true]) (by simp [results, Try.results38, go_sem, hc, hz]) rfl ⟨rfl, ?_⟩
  repeat (first | exact hbw | refine Below.setCell ?_ (by simp) _ | refine Below.alloc ?_ (by simp <;> omega) _)
theorem implFirst_244 (w : World) :
    Calls Try.prog 38 #[.int .i64 244] w fun e w' => e = .returned (.tuple #[.agg #[.int .i64 3, .int .i64 128, .int .i64 143], .bool true]) ∧ Below w.heap.size w w' := by
  go_enter Try.func38, Try.ntmps38
  go_wp2_with fail
  refine (implAfter_any _ 3 (by decide) _).mono ?_
  rintro e w1 ⟨rfl, rfl⟩
  go_wp2_with fail
  refine (implExpect_n _ (by decide) _).mono ?_
  rintro e w1 ⟨rfl, hb1⟩
  have hz := alloc_lt hb1
  have hbw := from_alloc hb1
  obtain ⟨hc, hf⟩ := bcellU hb1
  go_wp2_with fail
  refine bodyPost_ret (v := .tuple #[.agg #[.int .i64 3, .int .i64 128, .int .i64 143], .bool true]) (by simp [results, Try.results38, go_sem, hc, hz]) rfl ⟨rfl, ?_⟩
  repeat (first | exact hbw | refine Below.setCell ?_ (by simp) _ | refine Below.alloc ?_ (by simp <;> omega) _)
theorem implFirst_any (b : Int) (w : World) :
    Calls Try.prog 38 #[.int .i64 b] w fun e w' => e = .returned (stepV Utf.z (Utf.first b)) ∧ Below w.heap.size w w' := by
  by_cases c1 : 0 ≤ b ∧ b ≤ 127
  · rw [Utf.first_1 c1]
    exact implFirst_0 b (if_pos c1) ⟨neB (by omega), neB (by omega), neB (by omega), neB (by omega)⟩ w
  · by_cases c2 : 194 ≤ b ∧ b ≤ 223
    · rw [Utf.first_2 c2]
      exact implFirst_n b 1 (by unfold afterN; rw [if_neg c1, if_pos c2]) (by decide) ⟨neB (by omega), neB (by omega), neB (by omega), neB (by omega)⟩ w
    · by_cases c3 : 224 ≤ b ∧ b ≤ 239
      · rw [Utf.first_3 c3]
        by_cases e1 : b = 224
        · subst e1; exact implFirst_224 w
        · by_cases e2 : b = 237
          · subst e2; exact implFirst_237 w
          · rw [if_neg e1, if_neg e2]
            exact implFirst_n b 2 (by unfold afterN; rw [if_neg c1, if_neg c2, if_pos c3]) (by decide) ⟨neB (by omega), neB (by omega), neB (by omega), neB (by omega)⟩ w
      · by_cases c4 : 240 ≤ b ∧ b ≤ 244
        · rw [Utf.first_4 c4]
          by_cases e1 : b = 240
          · subst e1; exact implFirst_240 w
          · by_cases e2 : b = 244
            · subst e2; exact implFirst_244 w
            · rw [if_neg e1, if_neg e2]
              exact implFirst_n b 3 (by unfold afterN; rw [if_neg c1, if_neg c2, if_neg c3, if_pos c4]) (by decide) ⟨neB (by omega), neB (by omega), neB (by omega), neB (by omega)⟩ w
        · rw [Utf.first_no (by omega)]
          exact implFirst_no b (by unfold afterN; rw [if_neg c1, if_neg c2, if_neg c3, if_neg c4]) w
end Go.Proofs.Ytoohcepobbbejaa.Num
