/-
  Several texts in one: UtfFirst UtfIs UtfSteps.
-/
import Derived.Test.YtpkofbdfnbpfpaaGreatXUtf
import Derived.LoopTactic
import Derived.Deep.DeepFit
import Derived.Deep.RegionWith
import Derived.BigRegion
import Derived.RegionTactic
import Derived.KernelRfl

/-
  The walks of the program's expecting, bytesAfter and afterFirst: they give what the plain validator gives behind a first byte; only new memory is written.
-/
namespace Go.Proofs.YtpkofbdfnbpfpaaGreat.Num
open Go.RowKit Go.Proofs
set_option linter.unusedVariables false

theorem one_new {w : World} (a : Obj) : Below w.heap.size w (w.alloc a) := (Below.refl _ _).alloc (Nat.le_refl _) _
theorem implExpect_0 (w : World) :
    Calls Tryz.prog 204 #[.int .i64 0] w fun e w' => e = .returned (.agg #[.int .i64 0, .int .i64 0, .int .i64 0]) ∧ Below w.heap.size w w' := by
  go_enter Tryz.func204, Tryz.ntmps204
  go_wp2_with fail
  refine bodyPost_ret (v := .agg #[.int .i64 0, .int .i64 0, .int .i64 0]) (by simp [results, Tryz.results204, go_sem]) rfl ⟨rfl, ?_⟩
  repeat (first | exact one_new _ | refine Below.setCell ?_ (by simp) _)
theorem implExpect_n (n : Int) (h : n ≠ 0) (w : World) :
    Calls Tryz.prog 204 #[.int .i64 n] w fun e w' => e = .returned (.agg #[.int .i64 n, .int .i64 128, .int .i64 191]) ∧ Below w.heap.size w w' := by
  have b0 := neB h
  clear h
  go_enter Tryz.func204, Tryz.ntmps204
  go_wp2_with fail
  refine bodyPost_ret (v := .agg #[.int .i64 n, .int .i64 128, .int .i64 191]) (by simp [results, Tryz.results204, go_sem]) rfl ⟨rfl, ?_⟩
  repeat (first | exact one_new _ | refine Below.setCell ?_ (by simp) _)
/-- How many bytes follow a first byte; -1 where none may begin. -/
def afterN (b : Int) : Int := if 0 ≤ b ∧ b ≤ 127 then 0 else if 194 ≤ b ∧ b ≤ 223 then 1 else if 224 ≤ b ∧ b ≤ 239 then 2 else if 240 ≤ b ∧ b ≤ 244 then 3 else -1
theorem implAfter_any (b n : Int) (h : afterN b = n) (w : World) :
    Calls Tryz.prog 205 #[.int .i64 b] w fun e w' => e = .returned (.int .i64 n) ∧ w = w' := by
  unfold afterN at h
  by_cases c0 : 0 ≤ b
  · by_cases c1 : b ≤ 127
    · rw [if_pos ⟨c0, c1⟩] at h
      subst h
      go_enter Tryz.func205, Tryz.ntmps205
      go_wp2_with fail
      go_ret
      exact ⟨rfl, rfl⟩
    · rw [if_neg (by omega)] at h
      by_cases c2 : 194 ≤ b
      · by_cases c3 : b ≤ 223
        · rw [if_pos ⟨c2, c3⟩] at h
          subst h
          go_enter Tryz.func205, Tryz.ntmps205
          go_wp2_with fail
          go_ret
          exact ⟨rfl, rfl⟩
        · rw [if_neg (by omega)] at h
          by_cases c4 : b ≤ 239
          · rw [if_pos (by omega)] at h
            subst h
            have c5 : 224 ≤ b := by omega
            go_enter Tryz.func205, Tryz.ntmps205
            go_wp2_with fail
            go_ret
            exact ⟨rfl, rfl⟩
          · rw [if_neg (by omega)] at h
            have c5 : 240 ≤ b := by omega
            have c7 : 224 ≤ b := by omega
            by_cases c6 : b ≤ 244
            · rw [if_pos (by omega)] at h
              subst h
              go_enter Tryz.func205, Tryz.ntmps205
              go_wp2_with fail
              go_ret
              exact ⟨rfl, rfl⟩
            · rw [if_neg (by omega)] at h
              subst h
              go_enter Tryz.func205, Tryz.ntmps205
              go_wp2_with fail
              go_ret
              exact ⟨rfl, rfl⟩
      · rw [if_neg (by omega), if_neg (by omega), if_neg (by omega)] at h
        subst h
        have c3 : ¬ 224 ≤ b := by omega
        have c4 : ¬ 240 ≤ b := by omega
        go_enter Tryz.func205, Tryz.ntmps205
        go_wp2_with fail
        go_ret
        exact ⟨rfl, rfl⟩
  · rw [if_neg (by omega), if_neg (by omega), if_neg (by omega), if_neg (by omega)] at h
    subst h
    have c2 : ¬ 194 ≤ b := by omega
    have c3 : ¬ 224 ≤ b := by omega
    have c4 : ¬ 240 ≤ b := by omega
    go_enter Tryz.func205, Tryz.ntmps205
    go_wp2_with fail
    go_ret
    exact ⟨rfl, rfl⟩
/-- The walk of afterFirst once the number of bytes is known. -/
theorem implFirst_no (b : Int) (h : afterN b = -1) (w : World) :
    Calls Tryz.prog 203 #[.int .i64 b] w fun e w' => e = .returned (.tuple #[.agg #[.int .i64 0, .int .i64 0, .int .i64 0], .bool false]) ∧ Below w.heap.size w w' := by
  have H := Lib.hid h; clear h
  go_enter Tryz.func203, Tryz.ntmps203
  go_wp2_with fail
  refine (implAfter_any _ _ H.out _).mono ?_
  rintro e w1 ⟨rfl, rfl⟩
  go_wp2_with fail
  refine bodyPost_ret (v := .tuple #[.agg #[.int .i64 0, .int .i64 0, .int .i64 0], .bool false]) (by simp [results, Tryz.results203, go_sem]) rfl ⟨rfl, ?_⟩
  repeat (first | exact one_new _ | refine Below.setCell ?_ (by simp) _)
theorem implFirst_0 (b : Int) (h : afterN b = 0) (h2 : (b == 224) = false ∧ (b == 237) = false ∧ (b == 240) = false ∧ (b == 244) = false) (w : World) :
    Calls Tryz.prog 203 #[.int .i64 b] w fun e w' => e = .returned (.tuple #[.agg #[.int .i64 0, .int .i64 0, .int .i64 0], .bool true]) ∧ Below w.heap.size w w' := by
  have H := Lib.hid h; clear h
  obtain ⟨n0, n1, n2, n3⟩ := h2
  go_enter Tryz.func203, Tryz.ntmps203
  go_wp2_with fail
  refine (implAfter_any _ _ H.out _).mono ?_
  rintro e w1 ⟨rfl, rfl⟩
  go_wp2_with fail
  refine (implExpect_0 _).mono ?_
  rintro e w1 ⟨rfl, hb1⟩
  have hz := alloc_lt hb1
  have hbw := from_alloc hb1
  obtain ⟨hc, hf⟩ := bcellU hb1
  go_wp2_with fail
  refine bodyPost_ret (v := .tuple #[.agg #[.int .i64 0, .int .i64 0, .int .i64 0], .bool true]) (by simp [results, Tryz.results203, go_sem, hc, hz]) rfl ⟨rfl, ?_⟩
  repeat (first | exact hbw | refine Below.setCell ?_ (by simp) _ | refine Below.alloc ?_ (by simp <;> omega) _)
theorem implFirst_n (b n : Int) (h : afterN b = n) (hn : 0 < n) (h2 : (b == 224) = false ∧ (b == 237) = false ∧ (b == 240) = false ∧ (b == 244) = false) (w : World) :
    Calls Tryz.prog 203 #[.int .i64 b] w fun e w' => e = .returned (.tuple #[.agg #[.int .i64 n, .int .i64 128, .int .i64 191], .bool true]) ∧ Below w.heap.size w w' := by
  have H := Lib.hid h; clear h
  have hn0 := Lib.hid (show n ≠ 0 by omega)
  obtain ⟨n0, n1, n2, n3⟩ := h2
  go_enter Tryz.func203, Tryz.ntmps203
  go_wp2_with fail
  refine (implAfter_any _ _ H.out _).mono ?_
  rintro e w1 ⟨rfl, rfl⟩
  go_wp2_with fail
  refine (implExpect_n _ hn0.out _).mono ?_
  rintro e w1 ⟨rfl, hb1⟩
  have hz := alloc_lt hb1
  have hbw := from_alloc hb1
  obtain ⟨hc, hf⟩ := bcellU hb1
  go_wp2_with fail
  refine bodyPost_ret (v := .tuple #[.agg #[.int .i64 n, .int .i64 128, .int .i64 191], .bool true]) (by simp [results, Tryz.results203, go_sem, hc, hz]) rfl ⟨rfl, ?_⟩
  repeat (first | exact hbw | refine Below.setCell ?_ (by simp) _ | refine Below.alloc ?_ (by simp <;> omega) _)
theorem implFirst_224 (w : World) :
    Calls Tryz.prog 203 #[.int .i64 224] w fun e w' => e = .returned (.tuple #[.agg #[.int .i64 2, .int .i64 160, .int .i64 191], .bool true]) ∧ Below w.heap.size w w' := by
  go_enter Tryz.func203, Tryz.ntmps203
  go_wp2_with fail
  refine (implAfter_any _ 2 (by decide) _).mono ?_
  rintro e w1 ⟨rfl, rfl⟩
  go_wp2_with fail
  refine (implExpect_n _ (by decide) _).mono ?_
  rintro e w1 ⟨rfl, hb1⟩
  have hz := alloc_lt hb1
  have hbw := from_alloc hb1
  obtain ⟨hc, hf⟩ := bcellU hb1
  go_wp2_with fail
  refine bodyPost_ret (v := .tuple #[.agg #[.int .i64 2, .int .i64 160, .int .i64 191], .bool true]) (by simp [results, Tryz.results203, go_sem, hc, hz]) rfl ⟨rfl, ?_⟩
  repeat (first | exact hbw | refine Below.setCell ?_ (by simp) _ | refine Below.alloc ?_ (by simp <;> omega) _)
theorem implFirst_237 (w : World) :
    Calls Tryz.prog 203 #[.int .i64 237] w fun e w' => e = .returned (.tuple #[.agg #[.int .i64 2, .int .i64 128, .int .i64 159], .bool true]) ∧ Below w.heap.size w w' := by
  go_enter Tryz.func203, Tryz.ntmps203
  go_wp2_with fail
  refine (implAfter_any _ 2 (by decide) _).mono ?_
  rintro e w1 ⟨rfl, rfl⟩
  go_wp2_with fail
  refine (implExpect_n _ (by decide) _).mono ?_
  rintro e w1 ⟨rfl, hb1⟩
  have hz := alloc_lt hb1
  have hbw := from_alloc hb1
  obtain ⟨hc, hf⟩ := bcellU hb1
  go_wp2_with fail
  refine bodyPost_ret (v := .tuple #[.agg #[.int .i64 2, .int .i64 128, .int .i64 159], .bool true]) (by simp [results, Tryz.results203, go_sem, hc, hz]) rfl ⟨rfl, ?_⟩
  repeat (first | exact hbw | refine Below.setCell ?_ (by simp) _ | refine Below.alloc ?_ (by simp <;> omega) _)
theorem implFirst_240 (w : World) :
    Calls Tryz.prog 203 #[.int .i64 240] w fun e w' => e = .returned (.tuple #[.agg #[.int .i64 3, .int .i64 144, .int .i64 191], .bool true]) ∧ Below w.heap.size w w' := by
  go_enter Tryz.func203, Tryz.ntmps203
  go_wp2_with fail
  refine (implAfter_any _ 3 (by decide) _).mono ?_
  rintro e w1 ⟨rfl, rfl⟩
  go_wp2_with fail
  refine (implExpect_n _ (by decide) _).mono ?_
  rintro e w1 ⟨rfl, hb1⟩
  have hz := alloc_lt hb1
  have hbw := from_alloc hb1
  obtain ⟨hc, hf⟩ := bcellU hb1
  go_wp2_with fail
  refine bodyPost_ret (v := .tuple #[.agg #[.int .i64 3, .int .i64 144, .int .i64 191], .bool true]) (by simp [results, Tryz.results203, go_sem, hc, hz]) rfl ⟨rfl, ?_⟩
  repeat (first | exact hbw | refine Below.setCell ?_ (by simp) _ | refine Below.alloc ?_ (by simp <;> omega) _)
theorem implFirst_244 (w : World) :
    Calls Tryz.prog 203 #[.int .i64 244] w fun e w' => e = .returned (.tuple #[.agg #[.int .i64 3, .int .i64 128, .int .i64 143], .bool true]) ∧ Below w.heap.size w w' := by
  go_enter Tryz.func203, Tryz.ntmps203
  go_wp2_with fail
  refine (implAfter_any _ 3 (by decide) _).mono ?_
  rintro e w1 ⟨rfl, rfl⟩
  go_wp2_with fail
  refine (implExpect_n _ (by decide) _).mono ?_
  rintro e w1 ⟨rfl, hb1⟩
  have hz := alloc_lt hb1
  have hbw := from_alloc hb1
  obtain ⟨hc, hf⟩ := bcellU hb1
  go_wp2_with fail
  refine bodyPost_ret (v := .tuple #[.agg #[.int .i64 3, .int .i64 128, .int .i64 143], .bool true]) (by simp [results, Tryz.results203, go_sem, hc, hz]) rfl ⟨rfl, ?_⟩
  repeat (first | exact hbw | refine Below.setCell ?_ (by simp) _ | refine Below.alloc ?_ (by simp <;> omega) _)
theorem implFirst_any (b : Int) (w : World) :
    Calls Tryz.prog 203 #[.int .i64 b] w fun e w' => e = .returned (stepV Utf.z (Utf.first b)) ∧ Below w.heap.size w w' := by
  by_cases c1 : 0 ≤ b ∧ b ≤ 127
  · rw [Utf.first_1 c1]
    exact implFirst_0 b (if_pos c1) ⟨neB (by omega), neB (by omega), neB (by omega), neB (by omega)⟩ w
  · by_cases c2 : 194 ≤ b ∧ b ≤ 223
    · rw [Utf.first_2 c2]
      exact implFirst_n b 1 (by unfold afterN; rw [if_neg c1, if_pos c2]) (by decide) ⟨neB (by omega), neB (by omega), neB (by omega), neB (by omega)⟩ w
    · by_cases c3 : 224 ≤ b ∧ b ≤ 239
      · rw [Utf.first_3 c3]
        by_cases e1 : b = 224
        · subst e1; exact implFirst_224 w
        · by_cases e2 : b = 237
          · subst e2; exact implFirst_237 w
          · rw [if_neg e1, if_neg e2]
            exact implFirst_n b 2 (by unfold afterN; rw [if_neg c1, if_neg c2, if_pos c3]) (by decide) ⟨neB (by omega), neB (by omega), neB (by omega), neB (by omega)⟩ w
      · by_cases c4 : 240 ≤ b ∧ b ≤ 244
        · rw [Utf.first_4 c4]
          by_cases e1 : b = 240
          · subst e1; exact implFirst_240 w
          · by_cases e2 : b = 244
            · subst e2; exact implFirst_244 w
            · rw [if_neg e1, if_neg e2]
              exact implFirst_n b 3 (by unfold afterN; rw [if_neg c1, if_neg c2, if_neg c3, if_pos c4]) (by decide) ⟨neB (by omega), neB (by omega), neB (by omega), neB (by omega)⟩ w
        · rw [Utf.first_no (by omega)]
          exact implFirst_no b (by unfold afterN; rw [if_neg c1, if_neg c2, if_neg c3, if_neg c4]) w
end Go.Proofs.YtpkofbdfnbpfpaaGreat.Num


/-
  The walk of the program's UtfOk: two loops over the eight right states; only new memory is written.
-/
namespace Go.Proofs.YtpkofbdfnbpfpaaGreat.Num
open Go.RowKit Go.Proofs
set_option linter.unusedVariables false

def Not1 (k : Nat) (W L H : Int) : Prop := (0 < k → ¬ (W = 0 ∧ L = 0 ∧ H = 0)) ∧ (1 < k → ¬ (W = 1 ∧ L = 128 ∧ H = 191)) ∧ (2 < k → ¬ (W = 2 ∧ L = 128 ∧ H = 191)) ∧ (3 < k → ¬ (W = 3 ∧ L = 128 ∧ H = 191))
def Not2 (k : Nat) (W L H : Int) : Prop := (0 < k → ¬ (W = 2 ∧ L = 160 ∧ H = 191)) ∧ (1 < k → ¬ (W = 2 ∧ L = 128 ∧ H = 159)) ∧ (2 < k → ¬ (W = 3 ∧ L = 144 ∧ H = 191)) ∧ (3 < k → ¬ (W = 3 ∧ L = 128 ∧ H = 143))
theorem ok_not {W L H : Int} (h1 : Not1 4 W L H) (h2 : Not2 4 W L H) : ¬ Utf.Ok (W, L, H) := by
  unfold Not1 at h1; unfold Not2 at h2; unfold Utf.Ok; simp only; omega
theorem not1_0 (W L H : Int) : Not1 0 W L H := by unfold Not1; omega
theorem not2_0 (W L H : Int) : Not2 0 W L H := by unfold Not2; omega
theorem not1_1 {W L H : Int} (h : ¬ (W = 0 ∧ L = 0 ∧ H = 0)) : Not1 1 W L H := by unfold Not1; omega
theorem not1_n {k : Nat} {W L H : Int} (h0 : k ≠ 0) (h4 : k < 4) (hn : Not1 k W L H) (h : ¬ (W = (k : Int) ∧ L = 128 ∧ H = 191)) : Not1 (k + 1) W L H := by unfold Not1 at hn ⊢; omega
theorem ok_n {k : Nat} (h0 : k ≠ 0) (h4 : k < 4) : Utf.Ok ((k : Int), 128, 191) := by
  refine .inr (.inl ⟨rfl, rfl, ?_, ?_⟩)
  · show (1 : Int) ≤ (k : Int); omega
  · show (k : Int) ≤ 3; omega
set_option maxHeartbeats 4000000 in
theorem implUtfOk_any (W L H : Int) (w : World) :
    Calls Tryz.prog 202 #[utV (W, L, H)] w fun e w' => e = .returned (.bool (decide (Utf.Ok (W, L, H)))) ∧ Below w.heap.size w w' := by
  obtain ⟨R, hR⟩ : ∃ R, decide (Utf.Ok (W, L, H)) = R := ⟨_, rfl⟩
  rw [hR]
  unfold utV
  simp only
  have HR := Lib.hid hR; clear hR
  go_enter Tryz.func202, Tryz.ntmps202
  go_wp2_with fail
  go_loopw [8] (fun i wr => ∃ k : Nat, k ≤ 4 ∧ i = .int .i64 k ∧ Hid (Not1 k W L H) ∧ Hid (Box wr w.heap.size [.int .i64 W, .int .i64 L, .int .i64 H]) ∧ Below w.heap.size w wr) (fun i _ => 4 - (intOf i).toNat)
  case atStart => exact ⟨0, by omega, rfl, Lib.hid (not1_0 _ _ _), Lib.hid (Box.fresh _ _ _), one_new _⟩
  case round =>
    obtain ⟨k, hk, rfl, Hn, hbx, hbl⟩ := hrel
    obtain ⟨c0, c1, c2, f0, f1, f2⟩ := hbx.out.three
    have hz0 := hbx.out.lt
    by_cases hk4 : k < 4
    · have Hk4 := Lib.hid hk4
      by_cases h0 : k = 0
      · subst h0
        by_cases he : W = 0 ∧ L = 0 ∧ H = 0
        · obtain ⟨rfl, rfl, rfl⟩ := he
          obtain rfl : true = R := by rw [← HR.out]; decide
          go_wp2_with fail
          go_region_with (go_at_call 204; refine (implExpect_0 _).mono ?_; rintro e w1 ⟨rfl, hb1⟩; obtain ⟨e0, e1, e2, p0, p1, p2⟩ := (hbx.out.drew.below hb1 hz0).three)
          all_goals
            go_wp2_with fail
            go_ret
            exact ⟨rfl, (Below.drew hbl).trans (hb1.mono hbl.size)⟩
        · have Hm := Lib.hid (not1_1 he)
          rcases (show W ≠ 0 ∨ (W = 0 ∧ L ≠ 0) ∨ (W = 0 ∧ L = 0 ∧ H ≠ 0) by omega) with h1 | ⟨rfl, h1⟩ | ⟨rfl, rfl, h1⟩
          all_goals
            have b1 := neB h1
            clear h1 he
            go_wp2_with fail
            go_region_with (go_at_call 204; refine (implExpect_0 _).mono ?_; rintro e w1 ⟨rfl, hb1⟩; obtain ⟨e0, e1, e2, p0, p1, p2⟩ := (hbx.out.drew.below hb1 hz0).three)
          all_goals
            go_wp2_with fail
            refine ⟨⟨1, by omega, by go_num, Hm, Lib.hid (hbx.out.drew.below hb1 hz0), (Below.drew hbl).trans (hb1.mono hbl.size)⟩, by simp [intOf] <;> omega⟩
      · have Hk0 := Lib.hid (show ((k : Nat) : Int) ≠ 0 by omega)
        by_cases he : W = (k : Int) ∧ L = 128 ∧ H = 191
        · obtain ⟨rfl, rfl, rfl⟩ := he
          obtain rfl : true = R := by rw [← HR.out]; exact (decide_eq_true (ok_n h0 hk4)).symm
          go_wp2_with fail
          go_region_with (go_at_call 204; refine (implExpect_n _ Hk0.out _).mono ?_; rintro e w1 ⟨rfl, hb1⟩; obtain ⟨e0, e1, e2, p0, p1, p2⟩ := (hbx.out.drew.below hb1 hz0).three)
          all_goals
            go_wp2_with fail
            go_ret
            exact ⟨rfl, (Below.drew hbl).trans (hb1.mono hbl.size)⟩
        · have Hm := Lib.hid (not1_n h0 hk4 Hn.out he)
          rcases (show W ≠ (k : Int) ∨ (W = (k : Int) ∧ L ≠ 128) ∨ (W = (k : Int) ∧ L = 128 ∧ H ≠ 191) by omega) with h1 | ⟨rfl, h1⟩ | ⟨rfl, rfl, h1⟩
          all_goals
            have b1 := neB h1
            clear h1 he
            go_wp2_with fail
            go_region_with (go_at_call 204; refine (implExpect_n _ Hk0.out _).mono ?_; rintro e w1 ⟨rfl, hb1⟩; obtain ⟨e0, e1, e2, p0, p1, p2⟩ := (hbx.out.drew.below hb1 hz0).three)
          all_goals
            go_wp2_with fail
            refine ⟨⟨k + 1, by omega, by go_num, Hm, Lib.hid (hbx.out.drew.below hb1 hz0), (Below.drew hbl).trans (hb1.mono hbl.size)⟩, by simp [intOf] <;> omega⟩
    · have Hn4 : Hid (Not1 4 W L H) := Lib.hid (by have := Hn.out; rwa [show k = 4 by omega] at this)
      have hk4b : (4 : Int) ≤ (k : Int) := by omega
      clear hk hk4 Hn
      go_wp2_with fail
      go_loopw [17] (fun i wq => ∃ m : Nat, m ≤ 4 ∧ i = .int .i64 m ∧ Hid (Not2 m W L H) ∧ Hid (Box wq w.heap.size [.int .i64 W, .int .i64 L, .int .i64 H]) ∧ Below w.heap.size w wq) (fun i _ => 4 - (intOf i).toNat)
      case atStart => exact ⟨0, by omega, rfl, Lib.hid (not2_0 _ _ _), hbx, hbl⟩
      case round =>
        clear c0 c1 c2 f0 f1 f2 hz0 hbx hbl hk4b
        obtain ⟨m, hm, rfl, Hn2, hbx, hbl⟩ := hrel
        obtain ⟨c0, c1, c2, f0, f1, f2⟩ := hbx.out.three
        have hz0 := hbx.out.lt
        rcases (show m = 0 ∨ m = 1 ∨ m = 2 ∨ m = 3 ∨ m = 4 by omega) with rfl | rfl | rfl | rfl | rfl
        · have Hw := implFirst_224
          have hix : ∀ w, (Instr.index 236 (.agg #[.int .i64 224, .int .i64 237, .int .i64 240, .int .i64 244]) (.int .i64 0)).run Tryz.prog w = .ok (.int .i64 224) w := fun _ => by kernel_rfl
          by_cases he : W = 2 ∧ L = 160 ∧ H = 191
          · obtain ⟨rfl, rfl, rfl⟩ := he
            obtain rfl : true = R := by rw [← HR.out]; decide
            go_wp2_with fail
            refine (Hw _).mono ?_
            rintro e w1 ⟨rfl, hb1⟩
            obtain ⟨e0, e1, e2, p0, p1, p2⟩ := (hbx.out.below hb1 hz0).three
            have hz1 := (hbx.out.below hb1 hz0).lt
            go_wp2_with fail
            go_ret
            refine ⟨rfl, ?_⟩
            repeat (first | exact hbl.trans (hb1.mono hbl.size) | refine Below.setCell ?_ (by first | omega | (simp <;> omega)) _ | refine Below.alloc ?_ (by first | omega | (simp <;> omega)) _)
          · have Hm : Hid (Not2 1 W L H) := Lib.hid (by have := Hn2.out; unfold Not2 at this ⊢; omega)
            rcases (show W ≠ 2 ∨ (W = 2 ∧ L ≠ 160) ∨ (W = 2 ∧ L = 160 ∧ H ≠ 191) by omega) with h1 | ⟨rfl, h1⟩ | ⟨rfl, rfl, h1⟩
            all_goals
              have b1 := neB h1
              clear h1 he
              go_wp2_with fail
              refine (Hw _).mono ?_
              rintro e w1 ⟨rfl, hb1⟩
              have hB := hbx.out.below hb1 hz0
              obtain ⟨e0, e1, e2, p0, p1, p2⟩ := hB.three
              have hz1 := hB.lt
              have HB := Lib.hid hB; clear hB
              go_wp2_with fail
              refine ⟨⟨1, by omega, by go_num, Hm, Lib.hid ?_, ?_⟩, by simp [intOf] <;> omega⟩
              · repeat (first | exact HB.out | refine Box.other ?_ (by first | omega | (simp <;> omega)) _ | refine Box.alloc ?_ _)
              · repeat (first | exact hbl.trans (hb1.mono hbl.size) | refine Below.setCell ?_ (by first | omega | (simp <;> omega)) _ | refine Below.alloc ?_ (by first | omega | (simp <;> omega)) _)
        · have Hw := implFirst_237
          have hix : ∀ w, (Instr.index 236 (.agg #[.int .i64 224, .int .i64 237, .int .i64 240, .int .i64 244]) (.int .i64 1)).run Tryz.prog w = .ok (.int .i64 237) w := fun _ => by kernel_rfl
          by_cases he : W = 2 ∧ L = 128 ∧ H = 159
          · obtain ⟨rfl, rfl, rfl⟩ := he
            obtain rfl : true = R := by rw [← HR.out]; decide
            go_wp2_with fail
            refine (Hw _).mono ?_
            rintro e w1 ⟨rfl, hb1⟩
            obtain ⟨e0, e1, e2, p0, p1, p2⟩ := (hbx.out.below hb1 hz0).three
            have hz1 := (hbx.out.below hb1 hz0).lt
            go_wp2_with fail
            go_ret
            refine ⟨rfl, ?_⟩
            repeat (first | exact hbl.trans (hb1.mono hbl.size) | refine Below.setCell ?_ (by first | omega | (simp <;> omega)) _ | refine Below.alloc ?_ (by first | omega | (simp <;> omega)) _)
          · have Hm : Hid (Not2 2 W L H) := Lib.hid (by have := Hn2.out; unfold Not2 at this ⊢; omega)
            rcases (show W ≠ 2 ∨ (W = 2 ∧ L ≠ 128) ∨ (W = 2 ∧ L = 128 ∧ H ≠ 159) by omega) with h1 | ⟨rfl, h1⟩ | ⟨rfl, rfl, h1⟩
            all_goals
              have b1 := neB h1
              clear h1 he
              go_wp2_with fail
              refine (Hw _).mono ?_
              rintro e w1 ⟨rfl, hb1⟩
              have hB := hbx.out.below hb1 hz0
              obtain ⟨e0, e1, e2, p0, p1, p2⟩ := hB.three
              have hz1 := hB.lt
              have HB := Lib.hid hB; clear hB
              go_wp2_with fail
              refine ⟨⟨2, by omega, by go_num, Hm, Lib.hid ?_, ?_⟩, by simp [intOf] <;> omega⟩
              · repeat (first | exact HB.out | refine Box.other ?_ (by first | omega | (simp <;> omega)) _ | refine Box.alloc ?_ _)
              · repeat (first | exact hbl.trans (hb1.mono hbl.size) | refine Below.setCell ?_ (by first | omega | (simp <;> omega)) _ | refine Below.alloc ?_ (by first | omega | (simp <;> omega)) _)
        · have Hw := implFirst_240
          have hix : ∀ w, (Instr.index 236 (.agg #[.int .i64 224, .int .i64 237, .int .i64 240, .int .i64 244]) (.int .i64 2)).run Tryz.prog w = .ok (.int .i64 240) w := fun _ => by kernel_rfl
          by_cases he : W = 3 ∧ L = 144 ∧ H = 191
          · obtain ⟨rfl, rfl, rfl⟩ := he
            obtain rfl : true = R := by rw [← HR.out]; decide
            go_wp2_with fail
            refine (Hw _).mono ?_
            rintro e w1 ⟨rfl, hb1⟩
            obtain ⟨e0, e1, e2, p0, p1, p2⟩ := (hbx.out.below hb1 hz0).three
            have hz1 := (hbx.out.below hb1 hz0).lt
            go_wp2_with fail
            go_ret
            refine ⟨rfl, ?_⟩
            repeat (first | exact hbl.trans (hb1.mono hbl.size) | refine Below.setCell ?_ (by first | omega | (simp <;> omega)) _ | refine Below.alloc ?_ (by first | omega | (simp <;> omega)) _)
          · have Hm : Hid (Not2 3 W L H) := Lib.hid (by have := Hn2.out; unfold Not2 at this ⊢; omega)
            rcases (show W ≠ 3 ∨ (W = 3 ∧ L ≠ 144) ∨ (W = 3 ∧ L = 144 ∧ H ≠ 191) by omega) with h1 | ⟨rfl, h1⟩ | ⟨rfl, rfl, h1⟩
            all_goals
              have b1 := neB h1
              clear h1 he
              go_wp2_with fail
              refine (Hw _).mono ?_
              rintro e w1 ⟨rfl, hb1⟩
              have hB := hbx.out.below hb1 hz0
              obtain ⟨e0, e1, e2, p0, p1, p2⟩ := hB.three
              have hz1 := hB.lt
              have HB := Lib.hid hB; clear hB
              go_wp2_with fail
              refine ⟨⟨3, by omega, by go_num, Hm, Lib.hid ?_, ?_⟩, by simp [intOf] <;> omega⟩
              · repeat (first | exact HB.out | refine Box.other ?_ (by first | omega | (simp <;> omega)) _ | refine Box.alloc ?_ _)
              · repeat (first | exact hbl.trans (hb1.mono hbl.size) | refine Below.setCell ?_ (by first | omega | (simp <;> omega)) _ | refine Below.alloc ?_ (by first | omega | (simp <;> omega)) _)
        · have Hw := implFirst_244
          have hix : ∀ w, (Instr.index 236 (.agg #[.int .i64 224, .int .i64 237, .int .i64 240, .int .i64 244]) (.int .i64 3)).run Tryz.prog w = .ok (.int .i64 244) w := fun _ => by kernel_rfl
          by_cases he : W = 3 ∧ L = 128 ∧ H = 143
          · obtain ⟨rfl, rfl, rfl⟩ := he
            obtain rfl : true = R := by rw [← HR.out]; decide
            go_wp2_with fail
            refine (Hw _).mono ?_
            rintro e w1 ⟨rfl, hb1⟩
            obtain ⟨e0, e1, e2, p0, p1, p2⟩ := (hbx.out.below hb1 hz0).three
            have hz1 := (hbx.out.below hb1 hz0).lt
            go_wp2_with fail
            go_ret
            refine ⟨rfl, ?_⟩
            repeat (first | exact hbl.trans (hb1.mono hbl.size) | refine Below.setCell ?_ (by first | omega | (simp <;> omega)) _ | refine Below.alloc ?_ (by first | omega | (simp <;> omega)) _)
          · have Hm : Hid (Not2 4 W L H) := Lib.hid (by have := Hn2.out; unfold Not2 at this ⊢; omega)
            rcases (show W ≠ 3 ∨ (W = 3 ∧ L ≠ 128) ∨ (W = 3 ∧ L = 128 ∧ H ≠ 143) by omega) with h1 | ⟨rfl, h1⟩ | ⟨rfl, rfl, h1⟩
            all_goals
              have b1 := neB h1
              clear h1 he
              go_wp2_with fail
              refine (Hw _).mono ?_
              rintro e w1 ⟨rfl, hb1⟩
              have hB := hbx.out.below hb1 hz0
              obtain ⟨e0, e1, e2, p0, p1, p2⟩ := hB.three
              have hz1 := hB.lt
              have HB := Lib.hid hB; clear hB
              go_wp2_with fail
              refine ⟨⟨4, by omega, by go_num, Hm, Lib.hid ?_, ?_⟩, by simp [intOf] <;> omega⟩
              · repeat (first | exact HB.out | refine Box.other ?_ (by first | omega | (simp <;> omega)) _ | refine Box.alloc ?_ _)
              · repeat (first | exact hbl.trans (hb1.mono hbl.size) | refine Below.setCell ?_ (by first | omega | (simp <;> omega)) _ | refine Below.alloc ?_ (by first | omega | (simp <;> omega)) _)
        · obtain rfl : false = R := by rw [← HR.out]; exact (decide_eq_false (ok_not Hn4.out Hn2.out)).symm
          go_wp2_with fail
          go_ret
          exact ⟨rfl, hbl⟩
theorem implUtfOk_yes {W L H : Int} (h : Utf.Ok (W, L, H)) (w : World) : Calls Tryz.prog 202 #[.agg #[.int .i64 W, .int .i64 L, .int .i64 H]] w fun e w' => e = .returned (.bool true) ∧ Below w.heap.size w w' :=
  (implUtfOk_any W L H w).mono fun e w' ⟨he, hb⟩ => ⟨by rw [he, decide_eq_true h], hb⟩
theorem implUtfOk_no {W L H : Int} (h : ¬ Utf.Ok (W, L, H)) (w : World) : Calls Tryz.prog 202 #[.agg #[.int .i64 W, .int .i64 L, .int .i64 H]] w fun e w' => e = .returned (.bool false) ∧ Below w.heap.size w w' :=
  (implUtfOk_any W L H w).mono fun e w' ⟨he, hb⟩ => ⟨by rw [he, decide_eq_false h], hb⟩
end Go.Proofs.YtpkofbdfnbpfpaaGreat.Num


/-
  The walks of the program's UtfByte, UtfText and UtfState: they give what the plain validator gives; only new memory is written.
-/
namespace Go.Proofs.YtpkofbdfnbpfpaaGreat.Num
open Go.RowKit Go.Proofs
set_option linter.unusedVariables false

set_option maxHeartbeats 1000000 in
theorem implUtfByte_any (W L H b : Int) (w : World) :
    Calls Tryz.prog 201 #[utV (W, L, H), .int .i64 b] w fun e w' => e = .returned (stepV (W, L, H) (Utf.next (W, L, H) b)) ∧ Below w.heap.size w w' := by
  unfold utV
  simp only
  by_cases hok : Utf.Ok (W, L, H)
  · by_cases h0 : W = 0
    · have hz : (W, L, H) = Utf.z := Utf.ok_zero hok h0
      obtain ⟨rfl, rfl, rfl⟩ : W = 0 ∧ L = 0 ∧ H = 0 := by unfold Utf.z at hz; injection hz with e1 e2; injection e2 with e2 e3; exact ⟨e1, e2, e3⟩
      have He := Lib.hid (Utf.next_z b)
      have Hok := Lib.hid hok
      have Hf := Lib.hid (implFirst_any b)
      clear hok h0 hz
      rw [show ((0 : Int), (0 : Int), (0 : Int)) = Utf.z from rfl, He.out]
      generalize Utf.first b = R at Hf
      go_enter Tryz.func201, Tryz.ntmps201
      go_wp2_with fail
      refine (implUtfOk_yes Hok.out _).mono ?_
      rintro e w1 ⟨rfl, hb1⟩
      obtain ⟨hc, hf⟩ := bcellU hb1
      have hbw : Below w.heap.size w w1 := (two_new _ _).trans (hb1.mono (by simp; omega))
      go_wp2_with fail
      refine (Hf.out _).mono ?_
      rcases R with _ | ⟨a, c, d⟩
      · simp only [stepV, utV, Utf.z]
        rintro e w2 ⟨rfl, hb2⟩
        have hbw2 := hbw.trans (hb2.mono hbw.size)
        obtain ⟨hc2, hf2⟩ := bcellU hb2
        have hz : w.heap.size + 1 < w1.heap.size := by have := hb1.size; simp at this; omega
        go_wp2_with fail
        refine bodyPost_ret (v := .tuple #[.agg #[.int .i64 0, .int .i64 0, .int .i64 0], .bool false]) (by simp [results, Tryz.results201, go_sem, hc, hc2, hz]) rfl ⟨rfl, ?_⟩
        repeat (first | exact hbw2 | refine Below.setCell ?_ (by simp) _)
      · simp only [stepV, utV]
        rintro e w2 ⟨rfl, hb2⟩
        have hbw2 := hbw.trans (hb2.mono hbw.size)
        obtain ⟨hc2, hf2⟩ := bcellU hb2
        have hz : w.heap.size + 1 < w1.heap.size := by have := hb1.size; simp at this; omega
        go_wp2_with fail
        refine bodyPost_ret (v := .tuple #[.agg #[.int .i64 a, .int .i64 c, .int .i64 d], .bool true]) (by simp [results, Tryz.results201, go_sem, hc, hc2, hz]) rfl ⟨rfl, ?_⟩
        repeat (first | exact hbw2 | refine Below.setCell ?_ (by simp) _)
    · by_cases hin : L ≤ b ∧ b ≤ H
      · have b0 := neB h0
        by_cases h1 : W = 1
        · subst h1
          have He := Lib.hid (show Utf.next (1, L, H) b = some Utf.z by rw [Utf.next_on b hok h0, if_pos hin, if_pos rfl])
          have Hok := Lib.hid hok
          obtain ⟨hlo, hhi⟩ := hin
          clear hok h0
          go_enter Tryz.func201, Tryz.ntmps201
          go_wp2_with fail
          refine (implUtfOk_yes Hok.out _).mono ?_
          rintro e w1 ⟨rfl, hb1⟩
          obtain ⟨hc, hf⟩ := bcellU hb1
          have hbw : Below w.heap.size w w1 := (two_new _ _).trans (hb1.mono (by simp; omega))
          go_wp2_with fail
          refine (implExpect_0 _).mono ?_
          rintro e w2 ⟨rfl, hb2⟩
          have hbw2 := hbw.trans (hb2.mono hbw.size)
          obtain ⟨hc2, hf2⟩ := bcellU hb2
          have hz : w.heap.size + 1 < w1.heap.size := by have := hb1.size; simp at this; omega
          go_wp2_with fail
          refine bodyPost_ret (v := .tuple #[.agg #[.int .i64 0, .int .i64 0, .int .i64 0], .bool true]) (by simp [results, Tryz.results201, go_sem, hc, hc2, hz]) rfl ⟨by rw [He.out]; rfl, ?_⟩
          repeat (first | exact hbw2 | refine Below.setCell ?_ (by simp) _)
        · have b1 := neB h1
          have hs : 0 ≤ W ∧ W ≤ 3 := ⟨(Utf.ok_small hok).1, (Utf.ok_small hok).2.1⟩
          have hw : IntKind.i64.wrap (W - 1) = W - 1 := IntWalk.i64_in _ (by omega)
          have Hne := Lib.hid (show W - 1 ≠ 0 by omega)
          have He := Lib.hid (show Utf.next (W, L, H) b = some (W - 1, 128, 191) by rw [Utf.next_on b hok h0, if_pos hin, if_neg h1])
          have Hok := Lib.hid hok
          obtain ⟨hlo, hhi⟩ := hin
          clear hok h0 h1 hs
          go_enter Tryz.func201, Tryz.ntmps201
          go_wp2_with fail
          refine (implUtfOk_yes Hok.out _).mono ?_
          rintro e w1 ⟨rfl, hb1⟩
          obtain ⟨hc, hf⟩ := bcellU hb1
          have hbw : Below w.heap.size w w1 := (two_new _ _).trans (hb1.mono (by simp; omega))
          go_wp2_with fail
          refine (implExpect_n _ Hne.out _).mono ?_
          rintro e w2 ⟨rfl, hb2⟩
          have hbw2 := hbw.trans (hb2.mono hbw.size)
          obtain ⟨hc2, hf2⟩ := bcellU hb2
          have hz : w.heap.size + 1 < w1.heap.size := by have := hb1.size; simp at this; omega
          go_wp2_with fail
          refine bodyPost_ret (v := .tuple #[.agg #[.int .i64 (W - 1), .int .i64 128, .int .i64 191], .bool true]) (by simp [results, Tryz.results201, go_sem, hc, hc2, hz]) rfl ⟨by rw [He.out]; rfl, ?_⟩
          repeat (first | exact hbw2 | refine Below.setCell ?_ (by simp) _)
      · have b0 := neB h0
        have He := Lib.hid (show Utf.next (W, L, H) b = none by rw [Utf.next_on b hok h0, if_neg hin])
        by_cases hlo : b < L
        · have Hok := Lib.hid hok
          clear hok hin h0
          go_enter Tryz.func201, Tryz.ntmps201
          go_wp2_with fail
          refine (implUtfOk_yes Hok.out _).mono ?_
          rintro e w1 ⟨rfl, hb1⟩
          obtain ⟨hc, hf⟩ := bcellU hb1
          have hbw : Below w.heap.size w w1 := (two_new _ _).trans (hb1.mono (by simp; omega))
          go_wp2_with fail
          refine bodyPost_ret (v := .tuple #[.agg #[.int .i64 W, .int .i64 L, .int .i64 H], .bool false]) (by simp [results, Tryz.results201, go_sem, hc]) rfl ⟨by rw [He.out]; rfl, ?_⟩
          repeat (first | exact hbw | refine Below.setCell ?_ (by simp) _)
        · have hlo2 : L ≤ b := by omega
          have hhi : H < b := by omega
          clear hlo
          have Hok := Lib.hid hok
          clear hok hin h0
          go_enter Tryz.func201, Tryz.ntmps201
          go_wp2_with fail
          refine (implUtfOk_yes Hok.out _).mono ?_
          rintro e w1 ⟨rfl, hb1⟩
          obtain ⟨hc, hf⟩ := bcellU hb1
          have hbw : Below w.heap.size w w1 := (two_new _ _).trans (hb1.mono (by simp; omega))
          go_wp2_with fail
          refine bodyPost_ret (v := .tuple #[.agg #[.int .i64 W, .int .i64 L, .int .i64 H], .bool false]) (by simp [results, Tryz.results201, go_sem, hc]) rfl ⟨by rw [He.out]; rfl, ?_⟩
          repeat (first | exact hbw | refine Below.setCell ?_ (by simp) _)
  · have He := Lib.hid (next_bad (b := b) hok)
    have Hok := Lib.hid hok
    clear hok
    go_enter Tryz.func201, Tryz.ntmps201
    go_wp2_with fail
    refine (implUtfOk_no Hok.out _).mono ?_
    rintro e w1 ⟨rfl, hb1⟩
    obtain ⟨hc, hf⟩ := bcellU hb1
    have hbw : Below w.heap.size w w1 := (two_new _ _).trans (hb1.mono (by simp; omega))
    go_wp2_with fail
    refine bodyPost_ret (v := .tuple #[.agg #[.int .i64 W, .int .i64 L, .int .i64 H], .bool false]) (by simp [results, Tryz.results201, go_sem, hc]) rfl ⟨by rw [He.out]; rfl, ?_⟩
    repeat (first | exact hbw | refine Below.setCell ?_ (by simp) _)
theorem implByte_as (W L H b : Int) (r : Option Utf.St) (h : Utf.next (W, L, H) b = r) (w : World) : Calls Tryz.prog 201 #[.agg #[.int .i64 W, .int .i64 L, .int .i64 H], .int .i64 b] w fun e w' => e = .returned (stepV (W, L, H) r) ∧ Below w.heap.size w w' := h ▸ implUtfByte_any W L H b w
set_option maxHeartbeats 2000000 in
set_option maxRecDepth 100000 in
theorem implUtfText_any (W L H : Int) (s : ByteArray) (w : World) (hs : s.size ≤ 281474976710656) :
    Calls Tryz.prog 198 #[utV (W, L, H), .string s] w fun e w' => e = .returned (textV (Utf.run (W, L, H) s.data.toList)) ∧ Below w.heap.size w w' := by
  unfold utV
  simp only
  generalize hR : Utf.run (W, L, H) s.data.toList = R
  have HR := Lib.hid hR; clear hR
  go_enter Tryz.func198, Tryz.ntmps198
  go_wp2_with fail
  go_loopw [11] (fun i wr => ∃ (k : Nat) (A B C : Int), k ≤ s.size ∧ i = .int .i64 k ∧ Hid (R = lat k (Utf.run (A, B, C) (s.data.toList.drop k))) ∧ Hid (Box wr w.heap.size [.int .i64 A, .int .i64 B, .int .i64 C]) ∧ Hid (Box wr (w.heap.size + 1) [.int .i64 0, .int .i64 0, .int .i64 0]) ∧ Below w.heap.size w wr) (fun i _ => s.size - (intOf i).toNat)
  case atStart => exact ⟨0, W, L, H, by omega, rfl, Lib.hid (by rw [← HR.out, lat_zero]; rfl), Lib.hid ((Box.fresh _ _ _).alloc _), Lib.hid (freshTwo _ _ _ _), ((Below.refl _ _).alloc (Nat.le_refl _) _).alloc (by simp) _⟩
  case round =>
    obtain ⟨k, A, B, C, hk, rfl, Hst, hbx, hby, hbl⟩ := hrel
    obtain ⟨c0, c1, c2, f0, f1, f2⟩ := hbx.out.three
    obtain ⟨d0, d1, d2, g0, g1, g2⟩ := hby.out.three
    have hz0 := hbx.out.lt
    have hz1 := hby.out.lt
    by_cases hlt : k < s.size
    · have Hdr := Lib.hid (drop_byte s k hlt)
      have hch : s[k].toNat < 256 := s[k].toNat_lt
      generalize hS : Utf.next (A, B, C) (s[k].toNat : Int) = S
      have HS := Lib.hid hS; clear hS
      have hltb : (k : Int) < (s.size : Int) := by omega
      have hw8 : IntKind.i64.wrap (s[k].toNat : Int) = (s[k].toNat : Int) := IntWalk.i64_in _ (by omega)
      rcases S with _ | ⟨A', B', C'⟩
      · go_wp2_with fail
        go_region_with (go_at_call 201; refine (implByte_as A B C s[k].toNat _ HS.out _).mono ?_; simp only [stepV, utV]; rintro e w1 ⟨rfl, hb1⟩; first | (obtain ⟨e0, e1, e2, p0, p1, p2⟩ := (hbx.out.drew.below hb1 hz0).three; have hq := drewLt hb1) | (obtain ⟨e0, e1, e2, p0, p1, p2⟩ := ((Box.fresh wr _ _).drew.below hb1 (freshLt _ _)).three; have hq := drewAllocLt hb1))
        all_goals
          first
          | (have KK := endA3 hbx.out hby.out hbl hb1 A B C
             obtain ⟨K0, K1, K2, hB, hg⟩ := KK
             generalize w1.alloc (.cells #[.int .i64 A, .int .i64 B, .int .i64 C] 206) = w2 at K0 K1 K2 hB ⊢
             generalize w1.heap.size = g at K2 hg ⊢)
          | (have KK := endB3 hbx.out hby.out hbl hb1 A B C
             obtain ⟨K0, K1, K2, hB, hg⟩ := KK
             generalize ((w1.setCell ⟨wr.heap.size, 0, none⟩ (.int .i64 A)).setCell ⟨wr.heap.size, 1, none⟩ (.int .i64 B)).setCell ⟨wr.heap.size, 2, none⟩ (.int .i64 C) = w2 at K0 K1 K2 hB ⊢
             generalize wr.heap.size = g at K2 hg ⊢)
        all_goals
          obtain ⟨e0, e1, e2, p0, p1, p2⟩ := K0.three
          obtain ⟨e3, e4, e5, p3, p4, p5⟩ := K1.three
          obtain ⟨e6, e7, e8, p6, p7, p8⟩ := K2.three
          have HK0 := Lib.hid K0
          have HK1 := Lib.hid K1
          clear K0 K1 K2
          go_wp2_with fail
          refine bodyPost_ret (v := .tuple #[.agg #[.int .i64 A, .int .i64 B, .int .i64 C], .int .i64 k]) (by simp [results, Tryz.results198, go_sem, e3, e4, e5]) rfl ⟨?_, ?_⟩
          · rw [Hst.out, Hdr.out, Utf.run_none HS.out]; simp [lat, textV, utV, offI]
          · repeat (first | exact hB | refine Below.setCell ?_ (by simp) _)
      · go_wp2_with fail
        go_region_with (go_at_call 201; refine (implByte_as A B C s[k].toNat _ HS.out _).mono ?_; simp only [stepV, utV]; rintro e w1 ⟨rfl, hb1⟩; first | (obtain ⟨e0, e1, e2, p0, p1, p2⟩ := (hbx.out.drew.below hb1 hz0).three; have hq := drewLt hb1) | (obtain ⟨e0, e1, e2, p0, p1, p2⟩ := ((Box.fresh wr _ _).drew.below hb1 (freshLt _ _)).three; have hq := drewAllocLt hb1))
        all_goals
          first
          | (have KK := endA3 hbx.out hby.out hbl hb1 A' B' C'
             obtain ⟨K0, K1, K2, hB, hg⟩ := KK
             generalize w1.alloc (.cells #[.int .i64 A', .int .i64 B', .int .i64 C'] 206) = w2 at K0 K1 K2 hB ⊢
             generalize w1.heap.size = g at K2 hg ⊢)
          | (have KK := endB3 hbx.out hby.out hbl hb1 A' B' C'
             obtain ⟨K0, K1, K2, hB, hg⟩ := KK
             generalize ((w1.setCell ⟨wr.heap.size, 0, none⟩ (.int .i64 A')).setCell ⟨wr.heap.size, 1, none⟩ (.int .i64 B')).setCell ⟨wr.heap.size, 2, none⟩ (.int .i64 C') = w2 at K0 K1 K2 hB ⊢
             generalize wr.heap.size = g at K2 hg ⊢)
        all_goals
          obtain ⟨e0, e1, e2, p0, p1, p2⟩ := K0.three
          obtain ⟨e3, e4, e5, p3, p4, p5⟩ := K1.three
          obtain ⟨e6, e7, e8, p6, p7, p8⟩ := K2.three
          have HK0 := Lib.hid K0
          have HK1 := Lib.hid K1
          clear K0 K1 K2
          go_wp2_with fail
          refine ⟨⟨k + 1, A', B', C', by omega, by go_num, Lib.hid ?_, Lib.hid (((HK0.out.set 0 _).set 1 _).set 2 _), Lib.hid (((HK1.out.other (by simp) _).other (by simp) _).other (by simp) _), ?_⟩, by simp [intOf] <;> omega⟩
          · rw [Hst.out, Hdr.out, run_more HS.out, lat_lat, Nat.add_comm]
          · repeat (first | exact hB | refine Below.setCell ?_ (by simp) _)
    · have hks : k = s.size := by omega
      have hend : decide (k < s.size) = false := decide_eq_false hlt
      have Hall := Lib.hid (drop_end s k (by omega))
      have hge : (s.size : Int) ≤ (k : Int) := by omega
      clear hks
      go_wp2_with fail
      refine bodyPost_ret (v := .tuple #[.agg #[.int .i64 A, .int .i64 B, .int .i64 C], .int .i64 (-1)]) (by simp [results, Tryz.results198, go_sem, d0, d1, d2]) rfl ⟨?_, ?_⟩
      · rw [Hst.out, Hall.out, Utf.run_nil]; rfl
      · repeat (first | exact hbl | refine Below.drew ?_ | refine Below.setCell ?_ (by simp) _ | refine Below.alloc ?_ (by simp <;> omega) _)
end Go.Proofs.YtpkofbdfnbpfpaaGreat.Num

