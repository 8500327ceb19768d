/-
  The walk of the program's UtfOk: two loops over the eight right states; only new memory is written.
-/
import Derived.Test.YtoohcepobbbejaaUtfFirst
import Derived.LoopTactic
import Derived.Deep.DeepFit
import Derived.Deep.RegionWith
import Derived.BigRegion
import Derived.RegionTactic
import Derived.KernelRfl
namespace Go.Proofs.Ytoohcepobbbejaa.Num
open Go.RowKit Go.Proofs
set_option linter.unusedVariables false

def Not1 (k : Nat) (W L H : Int) : Prop := (0 < k → ¬ (W = 0 ∧ L = 0 ∧ H = 0)) ∧ (1 < k → ¬ (W = 1 ∧ L = 128 ∧ H = 191)) ∧ (2 < k → ¬ (W = 2 ∧ L = 128 ∧ H = 191)) ∧ (3 < k → ¬ (W = 3 ∧ L = 128 ∧ H = 191))
def Not2 (k : Nat) (W L H : Int) : Prop := (0 < k → ¬ (W = 2 ∧ L = 160 ∧ H = 191)) ∧ (1 < k → ¬ (W = 2 ∧ L = 128 ∧ H = 159)) ∧ (2 < k → ¬ (W = 3 ∧ L = 144 ∧ H = 191)) ∧ (3 < k → ¬ (W = 3 ∧ L = 128 ∧ H = 143))
theorem ok_not {W L H : Int} (h1 : Not1 4 W L H) (h2 : Not2 4 W L H) : ¬ Utf.Ok (W, L, H) := by
  unfold Not1 at h1; unfold Not2 at h2; unfold Utf.Ok; simp only; omega
theorem not1_0 (W L H : Int) : Not1 0 W L H := by unfold Not1; omega
theorem not2_0 (W L H : Int) : Not2 0 W L H := by unfold Not2; omega
theorem not1_1 {W L H : Int} (h : ¬ (W = 0 ∧ L = 0 ∧ H = 0)) : Not1 1 W L H := by unfold Not1; omega
theorem not1_n {k : Nat} {W L H : Int} (h0 : k ≠ 0) (h4 : k < 4) (hn : Not1 k W L H) (h : ¬ (W = (k : Int) ∧ L = 128 ∧ H = 191)) : Not1 (k + 1) W L H := by unfold Not1 at hn ⊢; omega
theorem ok_n {k : Nat} (h0 : k ≠ 0) (h4 : k < 4) : Utf.Ok ((k : Int), 128, 191) := by
  refine .inr (.inl ⟨rfl, rfl, ?_, ?_⟩)
  · show (1 : Int) ≤ (k : Int); omega
  · show (k : Int) ≤ 3; omega
set_option maxHeartbeats 4000000 in
theorem implUtfOk_any (W L H : Int) (w : World) :
    Calls Try.prog 26 #[utV (W, L, H)] w fun e w' => e = .returned (.bool (decide (Utf.Ok (W, L, H)))) ∧ Below w.heap.size w w' := by
  obtain ⟨R, hR⟩ : ∃ R, decide (Utf.Ok (W, L, H)) = R := ⟨_, rfl⟩
  rw [hR]
  unfold utV
  simp only
  have HR := Lib.hid hR; clear hR
  go_enter Try.func26, Try.ntmps26
  go_wp2_with fail
  go_loopw [8] (fun i wr => ∃ k : Nat, k ≤ 4 ∧ i = .int .i64 k ∧ Hid (Not1 k W L H) ∧ Hid (Box wr w.heap.size [.int .i64 W, .int .i64 L, .int .i64 H]) ∧ Below w.heap.size w wr) (fun i _ => 4 - (intOf i).toNat)
  case atStart => exact ⟨0, by omega, rfl, Lib.hid (not1_0 _ _ _), Lib.hid (Box.fresh _ _ _), one_new _⟩
  case round =>
    obtain ⟨k, hk, rfl, Hn, hbx, hbl⟩ := hrel
    obtain ⟨c0, c1, c2, f0, f1, f2⟩ := hbx.out.three
    have hz0 := hbx.out.lt
    by_cases hk4 : k < 4
    · have Hk4 := Lib.hid hk4
      by_cases h0 : k = 0
      · subst h0
        by_cases he : W = 0 ∧ L = 0 ∧ H = 0
        · obtain ⟨rfl, rfl, rfl⟩ := he
          obtain rfl : true = R := by rw [← HR.out]; decide
          go_wp2_with fail
          go_region_with (go_at_call 39; refine (implExpect_0 _).mono ?_; rintro e w1 ⟨rfl, hb1⟩; obtain ⟨e0, e1, e2, p0, p1, p2⟩ := (hbx.out.drew.below hb1 hz0).three)
          all_goals
            go_wp2_with fail
            go_ret
            exact ⟨rfl, (Below.drew hbl).trans (hb1.mono hbl.size)⟩
        · have Hm := Lib.hid (not1_1 he)
          rcases (show W ≠ 0 ∨ (W = 0 ∧ L ≠ 0) ∨ (W = 0 ∧ L = 0 ∧ H ≠ 0) by omega) with h1 | ⟨rfl, h1⟩ | ⟨rfl, rfl, h1⟩
          all_goals
            have b1 := neB h1
            clear h1 he
            go_wp2_with fail
            go_region_with (go_at_call 39; refine (implExpect_0 _).mono ?_; rintro e w1 ⟨rfl, hb1⟩; obtain ⟨e0, e1, e2, p0, p1, p2⟩ := (hbx.out.drew.below hb1 hz0).three)
          all_goals
            go_wp2_with fail
            refine ⟨⟨1, by omega, by go_num, Hm, Lib.hid (hbx.out.drew.below hb1 hz0), (Below.drew hbl).trans (hb1.mono hbl.size)⟩, by simp [intOf] <;> omega⟩
      · have Hk0 := Lib.hid (show ((k : Nat) : Int) ≠ 0 by omega)
        by_cases he : W = (k : Int) ∧ L = 128 ∧ H = 191
        · obtain ⟨rfl, rfl, rfl⟩ := he
          obtain rfl : true = R := by rw [← HR.out]; exact (decide_eq_true (ok_n h0 hk4)).symm
          go_wp2_with fail
          go_region_with (go_at_call 39; refine (implExpect_n _ Hk0.out _).mono ?_; rintro e w1 ⟨rfl, hb1⟩; obtain ⟨e0, e1, e2, p0, p1, p2⟩ := (hbx.out.drew.below hb1 hz0).three)
          all_goals
            go_wp2_with fail
            go_ret
            exact ⟨rfl, (Below.drew hbl).trans (hb1.mono hbl.size)⟩
        · have Hm := Lib.hid (not1_n h0 hk4 Hn.out he)
          rcases (show W ≠ (k : Int) ∨ (W = (k : Int) ∧ L ≠ 128) ∨ (W = (k : Int) ∧ L = 128 ∧ H ≠ 191) by omega) with h1 | ⟨rfl, h1⟩ | ⟨rfl, rfl, h1⟩
          all_goals
            have b1 := neB h1
            clear h1 he
            go_wp2_with fail
            go_region_with (go_at_call 39; refine (implExpect_n _ Hk0.out _).mono ?_; rintro e w1 ⟨rfl, hb1⟩; obtain ⟨e0, e1, e2, p0, p1, p2⟩ := (hbx.out.drew.below hb1 hz0).three)
          all_goals
            go_wp2_with fail
            refine ⟨⟨k + 1, by omega, by go_num, Hm, Lib.hid (hbx.out.drew.below hb1 hz0), (Below.drew hbl).trans (hb1.mono hbl.size)⟩, by simp [intOf] <;> omega⟩
    · have Hn4 : Hid (Not1 4 W L H) := Lib.hid (by have := Hn.out; rwa [show k = 4 by omega] at this)
      have hk4b : (4 : Int) ≤ (k : Int) := by omega
      clear hk hk4 Hn
      go_wp2_with fail
      go_loopw [17] (fun i wq => ∃ m : Nat, m ≤ 4 ∧ i = .int .i64 m ∧ Hid (Not2 m W L H) ∧ Hid (Box wq w.heap.size [.int .i64 W, .int .i64 L, .int .i64 H]) ∧ Below w.heap.size w wq) (fun i _ => 4 - (intOf i).toNat)
      case atStart => exact ⟨0, by omega, rfl, Lib.hid (not2_0 _ _ _), hbx, hbl⟩
      case round =>
        clear c0 c1 c2 f0 f1 f2 hz0 hbx hbl hk4b
        obtain ⟨m, hm, rfl, Hn2, hbx, hbl⟩ := hrel
        obtain ⟨c0, c1, c2, f0, f1, f2⟩ := hbx.out.three
        have hz0 := hbx.out.lt
        rcases (show m = 0 ∨ m = 1 ∨ m = 2 ∨ m = 3 ∨ m = 4 by omega) with rfl | rfl | rfl | rfl | rfl
        · have Hw := implFirst_224
          have hix : ∀ w, (Instr.index 56 (.agg #[.int .i64 224, .int .i64 237, .int .i64 240, .int .i64 244]) (.int .i64 0)).run Try.prog w = .ok (.int .i64 224) w := fun _ => by kernel_rfl
          by_cases he : W = 2 ∧ L = 160 ∧ H = 191
          · obtain ⟨rfl, rfl, rfl⟩ := he
            obtain rfl : true = R := by rw [← HR.out]; decide
            go_wp2_with fail
            refine (Hw _).mono ?_
            rintro e w1 ⟨rfl, hb1⟩
            obtain ⟨e0, e1, e2, p0, p1, p2⟩ := (hbx.out.below hb1 hz0).three
            have hz1 := (hbx.out.below hb1 hz0).lt
            go_wp2_with fail
            go_ret
            refine ⟨rfl, ?_⟩
            repeat (first | exact hbl.trans (hb1.mono hbl.size) | refine Below.setCell ?_ (by first | omega | (simp <;> omega)) _ | refine Below.alloc ?_ (by first | omega | (simp <;> omega)) _)
          · have Hm : Hid (Not2 1 W L H) := Lib.hid (by have := Hn2.out; unfold Not2 at this ⊢; omega)
            rcases (show W ≠ 2 ∨ (W = 2 ∧ L ≠ 160) ∨ (W = 2 ∧ L = 160 ∧ H ≠ 191) by omega) with h1 | ⟨rfl, h1⟩ | ⟨rfl, rfl, h1⟩
            all_goals
              have b1 := neB h1
              clear h1 he
              go_wp2_with fail
              refine (Hw _).mono ?_
              rintro e w1 ⟨rfl, hb1⟩
              have hB := hbx.out.below hb1 hz0
              obtain ⟨e0, e1, e2, p0, p1, p2⟩ := hB.three
              have hz1 := hB.lt
              have HB := Lib.hid hB; clear hB
              go_wp2_with fail
              refine ⟨⟨1, by omega, by go_num, Hm, Lib.hid ?_, ?_⟩, by simp [intOf] <;> omega⟩
              · repeat (first | exact HB.out | refine Box.other ?_ (by first | omega | (simp <;> omega)) _ | refine Box.alloc ?_ _)
              · repeat (first | exact hbl.trans (hb1.mono hbl.size) | refine Below.setCell ?_ (by first | omega | (simp <;> omega)) _ | refine Below.alloc ?_ (by first | omega | (simp <;> omega)) _)
        · have Hw := implFirst_237
          have hix : ∀ w, (Instr.index 56 (.agg #[.int .i64 224, .int .i64 237, .int .i64 240, .int .i64 244]) (.int .i64 1)).run Try.prog w = .ok (.int .i64 237) w := fun _ => by kernel_rfl
          by_cases he : W = 2 ∧ L = 128 ∧ H = 159
          · obtain ⟨rfl, rfl, rfl⟩ := he
            obtain rfl : true = R := by rw [← HR.out]; decide
            go_wp2_with fail
            refine (Hw _).mono ?_
            rintro e w1 ⟨rfl, hb1⟩
            obtain ⟨e0, e1, e2, p0, p1, p2⟩ := (hbx.out.below hb1 hz0).three
            have hz1 := (hbx.out.below hb1 hz0).lt
            go_wp2_with fail
            go_ret
            refine ⟨rfl, ?_⟩
            repeat (first | exact hbl.trans (hb1.mono hbl.size) | refine Below.setCell ?_ (by first | omega | (simp <;> omega)) _ | refine Below.alloc ?_ (by first | omega | (simp <;> omega)) _)
          · have Hm : Hid (Not2 2 W L H) := Lib.hid (by have := Hn2.out; unfold Not2 at this ⊢; omega)
            rcases (show W ≠ 2 ∨ (W = 2 ∧ L ≠ 128) ∨ (W = 2 ∧ L = 128 ∧ H ≠ 159) by omega) with h1 | ⟨rfl, h1⟩ | ⟨rfl, rfl, h1⟩
            all_goals
              have b1 := neB h1
              clear h1 he
              go_wp2_with fail
              refine (Hw _).mono ?_
              rintro e w1 ⟨rfl, hb1⟩
              have hB := hbx.out.below hb1 hz0
              obtain ⟨e0, e1, e2, p0, p1, p2⟩ := hB.three
              have hz1 := hB.lt
              have HB := Lib.hid hB; clear hB
              go_wp2_with fail
              refine ⟨⟨2, by omega, by go_num, Hm, Lib.hid ?_, ?_⟩, by simp [intOf] <;> omega⟩
              · repeat (first | exact HB.out | refine Box.other ?_ (by first | omega | (simp <;> omega)) _ | refine Box.alloc ?_ _)
              · repeat (first | exact hbl.trans (hb1.mono hbl.size) | refine Below.setCell ?_ (by first | omega | (simp <;> omega)) _ | refine Below.alloc ?_ (by first | omega | (simp <;> omega)) _)
        · have Hw := implFirst_240
          have hix : ∀ w, (Instr.index 56 (.agg #[.int .i64 224, .int .i64 237, .int .i64 240, .int .i64 244]) (.int .i64 2)).run Try.prog w = .ok (.int .i64 240) w := fun _ => by kernel_rfl
          by_cases he : W = 3 ∧ L = 144 ∧ H = 191
          · obtain ⟨rfl, rfl, rfl⟩ := he
            obtain rfl : true = R := by rw [← HR.out]; decide
            go_wp2_with fail
            refine (Hw _).mono ?_
            rintro e w1 ⟨rfl, hb1⟩
            obtain ⟨e0, e1, e2, p0, p1, p2⟩ := (hbx.out.below hb1 hz0).three
            have hz1 := (hbx.out.below hb1 hz0).lt
            go_wp2_with fail
            go_ret
            refine ⟨rfl, ?_⟩
            repeat (first | exact hbl.trans (hb1.mono hbl.size) | refine Below.setCell ?_ (by first | omega | (simp <;> omega)) _ | refine Below.alloc ?_ (by first | omega | (simp <;> omega)) _)
          · have Hm : Hid (Not2 3 W L H) := Lib.hid (by have := Hn2.out; unfold Not2 at this ⊢; omega)
            rcases (show W ≠ 3 ∨ (W = 3 ∧ L ≠ 144) ∨ (W = 3 ∧ L = 144 ∧ H ≠ 191) by omega) with h1 | ⟨rfl, h1⟩ | ⟨rfl, rfl, h1⟩
            all_goals
              have b1 := neB h1
              clear h1 he
              go_wp2_with fail
              refine (Hw _).mono ?_
              rintro e w1 ⟨rfl, hb1⟩
              have hB := hbx.out.below hb1 hz0
              obtain ⟨e0, e1, e2, p0, p1, p2⟩ := hB.three
              have hz1 := hB.lt
              have HB := Lib.hid hB; clear hB
              go_wp2_with fail
              refine ⟨⟨3, by omega, by go_num, Hm, Lib.hid ?_, ?_⟩, by simp [intOf] <;> omega⟩
              · repeat (first | exact HB.out | refine Box.other ?_ (by first | omega | (simp <;> omega)) _ | refine Box.alloc ?_ _)
              · repeat (first | exact hbl.trans (hb1.mono hbl.size) | refine Below.setCell ?_ (by first | omega | (simp <;> omega)) _ | refine Below.alloc ?_ (by first | omega | (simp <;> omega)) _)
        · have Hw := implFirst_244
          have hix : ∀ w, (Instr.index 56 (.agg #[.int .i64 224, .int .i64 237, .int .i64 240, .int .i64 244]) (.int .i64 3)).run Try.prog w = .ok (.int .i64 244) w := fun _ => by kernel_rfl
          by_cases he : W = 3 ∧ L = 128 ∧ H = 143
          · obtain ⟨rfl, rfl, rfl⟩ := he
            obtain rfl : true = R := by rw [← HR.out]; decide
            go_wp2_with fail
            refine (Hw _).mono ?_
            rintro e w1 ⟨rfl, hb1⟩
            obtain ⟨e0, e1, e2, p0, p1, p2⟩ := (hbx.out.below hb1 hz0).three
            have hz1 := (hbx.out.below hb1 hz0).lt
            go_wp2_with fail
            go_ret
            refine ⟨rfl, ?_⟩
            repeat (first | exact hbl.trans (hb1.mono hbl.size) | refine Below.setCell ?_ (by first | omega | (simp <;> omega)) _ | refine Below.alloc ?_ (by first | omega | (simp <;> omega)) _)
          · have Hm : Hid (Not2 4 W L H) := Lib.hid (by have := Hn2.out; unfold Not2 at this ⊢; omega)
            rcases (show W ≠ 3 ∨ (W = 3 ∧ L ≠ 128) ∨ (W = 3 ∧ L = 128 ∧ H ≠ 143) by omega) with h1 | ⟨rfl, h1⟩ | ⟨rfl, rfl, h1⟩
            all_goals
              have b1 := neB h1
              clear h1 he
              go_wp2_with fail
              refine (Hw _).mono ?_
              rintro e w1 ⟨rfl, hb1⟩
              have hB := hbx.out.below hb1 hz0
              obtain ⟨e0, e1, e2, p0, p1, p2⟩ := hB.three
              have hz1 := hB.lt
              have HB := Lib.hid hB; clear hB
              go_wp2_with fail
              refine ⟨⟨4, by omega, by go_num, Hm, Lib.hid ?_, ?_⟩, by simp [intOf] <;> omega⟩
              · repeat (first | exact HB.out | refine Box.other ?_ (by first | omega | (simp <;> omega)) _ | refine Box.alloc ?_ _)
              · repeat (first | exact hbl.trans (hb1.mono hbl.size) | refine Below.setCell ?_ (by first | omega | (simp <;> omega)) _ | refine Below.alloc ?_ (by first | omega | (simp <;> omega)) _)
        · obtain rfl : false = R := by rw [← HR.out]; exact (decide_eq_false (ok_not Hn4.out Hn2.out)).symm
          go_wp2_with fail
          go_ret
          exact ⟨rfl, hbl⟩
theorem implUtfOk_yes {W L H : Int} (h : Utf.Ok (W, L, H)) (w : World) : Calls Try.prog 26 #[.agg #[.int .i64 W, .int .i64 L, .int .i64 H]] w fun e w' => e = .returned (.bool true) ∧ Below w.heap.size w w' :=
  (implUtfOk_any W L H w).mono fun e w' ⟨he, hb⟩ => ⟨by rw [he, decide_eq_true h], hb⟩
theorem implUtfOk_no {W L H : Int} (h : ¬ Utf.Ok (W, L, H)) (w : World) : Calls Try.prog 26 #[.agg #[.int .i64 W, .int .i64 L, .int .i64 H]] w fun e w' => e = .returned (.bool false) ∧ Below w.heap.size w w' :=
  (implUtfOk_any W L H w).mono fun e w' ⟨he, hb⟩ => ⟨by rw [he, decide_eq_false h], hb⟩
end Go.Proofs.Ytoohcepobbbejaa.Num
