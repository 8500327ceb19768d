/-
  The walks of the reference's l5First and UtfByte: they give the plain validator's step; only new memory is written.
-/
import Derived.Test.YtcnpdcmdnmfnaaaGreatUtfOk
import Derived.Test.YtcnpdcmdnmfnaaaGreatBox
import Derived.Outline
namespace Go.Proofs.YtcnpdcmdnmfnaaaGreat.Num
open Go.RowKit Go.Proofs
set_option linter.unusedVariables false

/-- The state behind a byte and true, or the state before it and false. -/
def stepV (u : Utf.St) : Option Utf.St → Value
  | some v => .tuple #[utV v, .bool true]
  | none => .tuple #[utV u, .bool false]
theorem two_new {w : World} (a b : Obj) : Below w.heap.size w ((w.alloc a).alloc b) := ((Below.refl _ _).alloc (Nat.le_refl _) _).alloc (by simp) _
theorem bcellU {W w1 : World} (hb : Below W.heap.size W w1) : (∀ b o, b < W.heap.size → w1.cell? ⟨b, o, none⟩ = W.cell? ⟨b, o, none⟩) ∧ (∀ b o, b < W.heap.size → w1.frozen? ⟨b, o, none⟩ = W.frozen? ⟨b, o, none⟩) :=
  ⟨fun b o h => hb.cell (p := ⟨b, o, none⟩) h, fun b o h => hb.frozen (p := ⟨b, o, none⟩) h⟩
set_option maxHeartbeats 1000000 in
theorem specFirst_any (b : Int) (w : World) :
    Calls Tryz.prog 158 #[.int .i64 b] w fun e w' => e = .returned (stepV Utf.z (Utf.first b)) ∧ Below w.heap.size w w' := by
  by_cases c1 : 0 ≤ b ∧ b ≤ 127
  · have He := Lib.hid (Utf.first_1 c1)
    have q0 : 0 ≤ b ∧ b ≤ 127 := by omega
    have Q0 := Lib.hid q0; clear q0
    clear c1
    go_enter Tryz.func158, Tryz.ntmps158
    go_wp2_with fail
    refine (specInYes _ 0 127 _ Q0.out).mono ?_
    rintro e w1 ⟨rfl, rfl⟩
    go_wp2_with fail
    refine bodyPost_ret (v := .tuple #[.agg #[.int .i64 0, .int .i64 0, .int .i64 0], .bool true]) (by simp [results, Tryz.results158, go_sem]) rfl ⟨by rw [He.out]; rfl, ?_⟩
    repeat (first | exact two_new _ _ | refine Below.setCell ?_ (by simp) _)
  · by_cases c2 : 194 ≤ b ∧ b ≤ 223
    · have He := Lib.hid (Utf.first_2 c2)
      have q0 : ¬ (0 ≤ b ∧ b ≤ 127) := by omega
      have Q0 := Lib.hid q0; clear q0
      have q1 : 194 ≤ b ∧ b ≤ 223 := by omega
      have Q1 := Lib.hid q1; clear q1
      have n224 : (b == 224) = false := neB (by omega)
      have n237 : (b == 237) = false := neB (by omega)
      have n240 : (b == 240) = false := neB (by omega)
      have n244 : (b == 244) = false := neB (by omega)
      clear c1 c2
      go_enter Tryz.func158, Tryz.ntmps158
      go_wp2_with fail
      refine (specInNo _ 0 127 _ Q0.out).mono ?_
      rintro e w1 ⟨rfl, rfl⟩
      go_wp2_with fail
      refine (specInYes _ 194 223 _ Q1.out).mono ?_
      rintro e w1 ⟨rfl, rfl⟩
      go_wp2_with fail
      refine bodyPost_ret (v := .tuple #[.agg #[.int .i64 1, .int .i64 128, .int .i64 191], .bool true]) (by simp [results, Tryz.results158, go_sem]) rfl ⟨by rw [He.out]; rfl, ?_⟩
      repeat (first | exact two_new _ _ | refine Below.setCell ?_ (by simp) _)
    · by_cases c3 : 224 ≤ b ∧ b ≤ 239
      · by_cases e1 : b = 224
        · have He := Lib.hid (Utf.first_3 c3)
          rw [if_pos e1, if_neg (by omega)] at He
          have q0 : ¬ (0 ≤ b ∧ b ≤ 127) := by omega
          have Q0 := Lib.hid q0; clear q0
          have q1 : ¬ (194 ≤ b ∧ b ≤ 223) := by omega
          have Q1 := Lib.hid q1; clear q1
          have q2 : 224 ≤ b ∧ b ≤ 239 := by omega
          have Q2 := Lib.hid q2; clear q2
          subst e1
          clear c1 c2 c3
          go_enter Tryz.func158, Tryz.ntmps158
          go_wp2_with fail
          refine (specInNo _ 0 127 _ Q0.out).mono ?_
          rintro e w1 ⟨rfl, rfl⟩
          go_wp2_with fail
          refine (specInNo _ 194 223 _ Q1.out).mono ?_
          rintro e w1 ⟨rfl, rfl⟩
          go_wp2_with fail
          refine (specInYes _ 224 239 _ Q2.out).mono ?_
          rintro e w1 ⟨rfl, rfl⟩
          go_wp2_with fail
          refine bodyPost_ret (v := .tuple #[.agg #[.int .i64 2, .int .i64 160, .int .i64 191], .bool true]) (by simp [results, Tryz.results158, go_sem]) rfl ⟨by rw [He.out]; rfl, ?_⟩
          repeat (first | exact two_new _ _ | refine Below.setCell ?_ (by simp) _)
        · by_cases e2 : b = 237
          · have He := Lib.hid (Utf.first_3 c3)
            rw [if_neg e1, if_pos e2] at He
            have q0 : ¬ (0 ≤ b ∧ b ≤ 127) := by omega
            have Q0 := Lib.hid q0; clear q0
            have q1 : ¬ (194 ≤ b ∧ b ≤ 223) := by omega
            have Q1 := Lib.hid q1; clear q1
            have q2 : 224 ≤ b ∧ b ≤ 239 := by omega
            have Q2 := Lib.hid q2; clear q2
            subst e2
            clear c1 c2 c3 e1
            go_enter Tryz.func158, Tryz.ntmps158
            go_wp2_with fail
            refine (specInNo _ 0 127 _ Q0.out).mono ?_
            rintro e w1 ⟨rfl, rfl⟩
            go_wp2_with fail
            refine (specInNo _ 194 223 _ Q1.out).mono ?_
            rintro e w1 ⟨rfl, rfl⟩
            go_wp2_with fail
            refine (specInYes _ 224 239 _ Q2.out).mono ?_
            rintro e w1 ⟨rfl, rfl⟩
            go_wp2_with fail
            refine bodyPost_ret (v := .tuple #[.agg #[.int .i64 2, .int .i64 128, .int .i64 159], .bool true]) (by simp [results, Tryz.results158, go_sem]) rfl ⟨by rw [He.out]; rfl, ?_⟩
            repeat (first | exact two_new _ _ | refine Below.setCell ?_ (by simp) _)
          · have He := Lib.hid (Utf.first_3 c3)
            rw [if_neg e1, if_neg e2] at He
            have q0 : ¬ (0 ≤ b ∧ b ≤ 127) := by omega
            have Q0 := Lib.hid q0; clear q0
            have q1 : ¬ (194 ≤ b ∧ b ≤ 223) := by omega
            have Q1 := Lib.hid q1; clear q1
            have q2 : 224 ≤ b ∧ b ≤ 239 := by omega
            have Q2 := Lib.hid q2; clear q2
            have n224 : (b == 224) = false := neB (by omega)
            have n237 : (b == 237) = false := neB (by omega)
            have n240 : (b == 240) = false := neB (by omega)
            have n244 : (b == 244) = false := neB (by omega)
            clear c1 c2 c3 e1 e2
            go_enter Tryz.func158, Tryz.ntmps158
            go_wp2_with fail
            refine (specInNo _ 0 127 _ Q0.out).mono ?_
            rintro e w1 ⟨rfl, rfl⟩
            go_wp2_with fail
            refine (specInNo _ 194 223 _ Q1.out).mono ?_
            rintro e w1 ⟨rfl, rfl⟩
            go_wp2_with fail
            refine (specInYes _ 224 239 _ Q2.out).mono ?_
            rintro e w1 ⟨rfl, rfl⟩
            go_wp2_with fail
            refine bodyPost_ret (v := .tuple #[.agg #[.int .i64 2, .int .i64 128, .int .i64 191], .bool true]) (by simp [results, Tryz.results158, go_sem]) rfl ⟨by rw [He.out]; rfl, ?_⟩
            repeat (first | exact two_new _ _ | refine Below.setCell ?_ (by simp) _)
      · by_cases c4 : 240 ≤ b ∧ b ≤ 244
        · by_cases e1 : b = 240
          · have He := Lib.hid (Utf.first_4 c4)
            rw [if_pos e1, if_neg (by omega)] at He
            have q0 : ¬ (0 ≤ b ∧ b ≤ 127) := by omega
            have Q0 := Lib.hid q0; clear q0
            have q1 : ¬ (194 ≤ b ∧ b ≤ 223) := by omega
            have Q1 := Lib.hid q1; clear q1
            have q2 : ¬ (224 ≤ b ∧ b ≤ 239) := by omega
            have Q2 := Lib.hid q2; clear q2
            have q3 : 240 ≤ b ∧ b ≤ 244 := by omega
            have Q3 := Lib.hid q3; clear q3
            subst e1
            clear c1 c2 c3 c4
            go_enter Tryz.func158, Tryz.ntmps158
            go_wp2_with fail
            refine (specInNo _ 0 127 _ Q0.out).mono ?_
            rintro e w1 ⟨rfl, rfl⟩
            go_wp2_with fail
            refine (specInNo _ 194 223 _ Q1.out).mono ?_
            rintro e w1 ⟨rfl, rfl⟩
            go_wp2_with fail
            refine (specInNo _ 224 239 _ Q2.out).mono ?_
            rintro e w1 ⟨rfl, rfl⟩
            go_wp2_with fail
            refine (specInYes _ 240 244 _ Q3.out).mono ?_
            rintro e w1 ⟨rfl, rfl⟩
            go_wp2_with fail
            refine bodyPost_ret (v := .tuple #[.agg #[.int .i64 3, .int .i64 144, .int .i64 191], .bool true]) (by simp [results, Tryz.results158, go_sem]) rfl ⟨by rw [He.out]; rfl, ?_⟩
            repeat (first | exact two_new _ _ | refine Below.setCell ?_ (by simp) _)
          · by_cases e2 : b = 244
            · have He := Lib.hid (Utf.first_4 c4)
              rw [if_neg e1, if_pos e2] at He
              have q0 : ¬ (0 ≤ b ∧ b ≤ 127) := by omega
              have Q0 := Lib.hid q0; clear q0
              have q1 : ¬ (194 ≤ b ∧ b ≤ 223) := by omega
              have Q1 := Lib.hid q1; clear q1
              have q2 : ¬ (224 ≤ b ∧ b ≤ 239) := by omega
              have Q2 := Lib.hid q2; clear q2
              have q3 : 240 ≤ b ∧ b ≤ 244 := by omega
              have Q3 := Lib.hid q3; clear q3
              subst e2
              clear c1 c2 c3 c4 e1
              go_enter Tryz.func158, Tryz.ntmps158
              go_wp2_with fail
              refine (specInNo _ 0 127 _ Q0.out).mono ?_
              rintro e w1 ⟨rfl, rfl⟩
              go_wp2_with fail
              refine (specInNo _ 194 223 _ Q1.out).mono ?_
              rintro e w1 ⟨rfl, rfl⟩
              go_wp2_with fail
              refine (specInNo _ 224 239 _ Q2.out).mono ?_
              rintro e w1 ⟨rfl, rfl⟩
              go_wp2_with fail
              refine (specInYes _ 240 244 _ Q3.out).mono ?_
              rintro e w1 ⟨rfl, rfl⟩
              go_wp2_with fail
              refine bodyPost_ret (v := .tuple #[.agg #[.int .i64 3, .int .i64 128, .int .i64 143], .bool true]) (by simp [results, Tryz.results158, go_sem]) rfl ⟨by rw [He.out]; rfl, ?_⟩
              repeat (first | exact two_new _ _ | refine Below.setCell ?_ (by simp) _)
            · have He := Lib.hid (Utf.first_4 c4)
              rw [if_neg e1, if_neg e2] at He
              have q0 : ¬ (0 ≤ b ∧ b ≤ 127) := by omega
              have Q0 := Lib.hid q0; clear q0
              have q1 : ¬ (194 ≤ b ∧ b ≤ 223) := by omega
              have Q1 := Lib.hid q1; clear q1
              have q2 : ¬ (224 ≤ b ∧ b ≤ 239) := by omega
              have Q2 := Lib.hid q2; clear q2
              have q3 : 240 ≤ b ∧ b ≤ 244 := by omega
              have Q3 := Lib.hid q3; clear q3
              have n224 : (b == 224) = false := neB (by omega)
              have n237 : (b == 237) = false := neB (by omega)
              have n240 : (b == 240) = false := neB (by omega)
              have n244 : (b == 244) = false := neB (by omega)
              clear c1 c2 c3 c4 e1 e2
              go_enter Tryz.func158, Tryz.ntmps158
              go_wp2_with fail
              refine (specInNo _ 0 127 _ Q0.out).mono ?_
              rintro e w1 ⟨rfl, rfl⟩
              go_wp2_with fail
              refine (specInNo _ 194 223 _ Q1.out).mono ?_
              rintro e w1 ⟨rfl, rfl⟩
              go_wp2_with fail
              refine (specInNo _ 224 239 _ Q2.out).mono ?_
              rintro e w1 ⟨rfl, rfl⟩
              go_wp2_with fail
              refine (specInYes _ 240 244 _ Q3.out).mono ?_
              rintro e w1 ⟨rfl, rfl⟩
              go_wp2_with fail
              refine bodyPost_ret (v := .tuple #[.agg #[.int .i64 3, .int .i64 128, .int .i64 191], .bool true]) (by simp [results, Tryz.results158, go_sem]) rfl ⟨by rw [He.out]; rfl, ?_⟩
              repeat (first | exact two_new _ _ | refine Below.setCell ?_ (by simp) _)
        · have He := Lib.hid (Utf.first_no (b := b) (by omega))
          have q0 : ¬ (0 ≤ b ∧ b ≤ 127) := by omega
          have Q0 := Lib.hid q0; clear q0
          have q1 : ¬ (194 ≤ b ∧ b ≤ 223) := by omega
          have Q1 := Lib.hid q1; clear q1
          have q2 : ¬ (224 ≤ b ∧ b ≤ 239) := by omega
          have Q2 := Lib.hid q2; clear q2
          have q3 : ¬ (240 ≤ b ∧ b ≤ 244) := by omega
          have Q3 := Lib.hid q3; clear q3
          clear c1 c2 c3 c4
          go_enter Tryz.func158, Tryz.ntmps158
          go_wp2_with fail
          refine (specInNo _ 0 127 _ Q0.out).mono ?_
          rintro e w1 ⟨rfl, rfl⟩
          go_wp2_with fail
          refine (specInNo _ 194 223 _ Q1.out).mono ?_
          rintro e w1 ⟨rfl, rfl⟩
          go_wp2_with fail
          refine (specInNo _ 224 239 _ Q2.out).mono ?_
          rintro e w1 ⟨rfl, rfl⟩
          go_wp2_with fail
          refine (specInNo _ 240 244 _ Q3.out).mono ?_
          rintro e w1 ⟨rfl, rfl⟩
          go_wp2_with fail
          refine bodyPost_ret (v := .tuple #[.agg #[.int .i64 0, .int .i64 0, .int .i64 0], .bool false]) (by simp [results, Tryz.results158, go_sem]) rfl ⟨by rw [He.out]; rfl, ?_⟩
          repeat (first | exact two_new _ _ | refine Below.setCell ?_ (by simp) _)
theorem specUtfOk_yes {W L H : Int} (h : Utf.Ok (W, L, H)) (w : World) : Calls Tryz.prog 157 #[.agg #[.int .i64 W, .int .i64 L, .int .i64 H]] w fun e w' => e = .returned (.bool true) ∧ Below w.heap.size w w' :=
  (specUtfOk_any W L H w).mono fun e w' ⟨he, hb⟩ => ⟨by rw [he, decide_eq_true h], hb⟩
theorem specUtfOk_no {W L H : Int} (h : ¬ Utf.Ok (W, L, H)) (w : World) : Calls Tryz.prog 157 #[.agg #[.int .i64 W, .int .i64 L, .int .i64 H]] w fun e w' => e = .returned (.bool false) ∧ Below w.heap.size w w' :=
  (specUtfOk_any W L H w).mono fun e w' ⟨he, hb⟩ => ⟨by rw [he, decide_eq_false h], hb⟩
theorem next_bad {u : Utf.St} {b : Int} (h : ¬ Utf.Ok u) : Utf.next u b = none := by unfold Utf.next; rw [if_neg h]
set_option maxHeartbeats 1000000 in
theorem specUtfByte_any (W L H b : Int) (w : World) :
    Calls Tryz.prog 148 #[utV (W, L, H), .int .i64 b] w fun e w' => e = .returned (stepV (W, L, H) (Utf.next (W, L, H) b)) ∧ Below w.heap.size w w' := by
  unfold utV
  simp only
  by_cases hok : Utf.Ok (W, L, H)
  · by_cases h0 : W = 0
    · have hz : (W, L, H) = Utf.z := Utf.ok_zero hok h0
      obtain ⟨rfl, rfl, rfl⟩ : W = 0 ∧ L = 0 ∧ H = 0 := by unfold Utf.z at hz; injection hz with e1 e2; injection e2 with e2 e3; exact ⟨e1, e2, e3⟩
      have He := Lib.hid (Utf.next_z b)
      have Hok := Lib.hid hok
      have Hf := Lib.hid (specFirst_any b)
      clear hok h0 hz
      rw [show ((0 : Int), (0 : Int), (0 : Int)) = Utf.z from rfl, He.out]
      generalize Utf.first b = R at Hf
      go_enter Tryz.func148, Tryz.ntmps148
      go_wp2_with fail
      refine (specUtfOk_yes Hok.out _).mono ?_
      rintro e w1 ⟨rfl, hb1⟩
      obtain ⟨hc, hf⟩ := bcellU hb1
      have hbw : Below w.heap.size w w1 := (two_new _ _).trans (hb1.mono (by simp; omega))
      go_wp2_with fail
      refine (Hf.out _).mono ?_
      rcases R with _ | ⟨a, c, d⟩
      · simp only [stepV, utV, Utf.z]
        rintro e w2 ⟨rfl, hb2⟩
        have hbw2 := hbw.trans (hb2.mono hbw.size)
        obtain ⟨hc2, hf2⟩ := bcellU hb2
        have hz : w.heap.size + 1 < w1.heap.size := by have := hb1.size; simp at this; omega
        go_wp2_with fail
        refine bodyPost_ret (v := .tuple #[.agg #[.int .i64 0, .int .i64 0, .int .i64 0], .bool false]) (by simp [results, Tryz.results148, go_sem, hc, hc2, hz]) rfl ⟨rfl, ?_⟩
        repeat (first | exact hbw2 | refine Below.setCell ?_ (by simp) _)
      · simp only [stepV, utV]
        rintro e w2 ⟨rfl, hb2⟩
        have hbw2 := hbw.trans (hb2.mono hbw.size)
        obtain ⟨hc2, hf2⟩ := bcellU hb2
        have hz : w.heap.size + 1 < w1.heap.size := by have := hb1.size; simp at this; omega
        go_wp2_with fail
        refine bodyPost_ret (v := .tuple #[.agg #[.int .i64 a, .int .i64 c, .int .i64 d], .bool true]) (by simp [results, Tryz.results148, go_sem, hc, hc2, hz]) rfl ⟨rfl, ?_⟩
        repeat (first | exact hbw2 | refine Below.setCell ?_ (by simp) _)
    · by_cases hin : L ≤ b ∧ b ≤ H
      · have b0 := neB h0
        by_cases h1 : W = 1
        · subst h1
          have He := Lib.hid (show Utf.next (1, L, H) b = some Utf.z by rw [Utf.next_on b hok h0, if_pos hin, if_pos rfl])
          have Hok := Lib.hid hok
          have Hin := Lib.hid hin
          clear hok hin h0
          go_enter Tryz.func148, Tryz.ntmps148
          go_wp2_with fail
          refine (specUtfOk_yes Hok.out _).mono ?_
          rintro e w1 ⟨rfl, hb1⟩
          obtain ⟨hc, hf⟩ := bcellU hb1
          have hbw : Below w.heap.size w w1 := (two_new _ _).trans (hb1.mono (by simp; omega))
          go_wp2_with fail
          refine (specInYes _ _ _ _ Hin.out).mono ?_
          rintro e w2 ⟨rfl, rfl⟩
          go_wp2_with fail
          refine bodyPost_ret (v := .tuple #[.agg #[.int .i64 0, .int .i64 0, .int .i64 0], .bool true]) (by simp [results, Tryz.results148, go_sem, hc]) rfl ⟨by rw [He.out]; rfl, ?_⟩
          repeat (first | exact hbw | refine Below.setCell ?_ (by simp) _)
        · have b1 := neB h1
          have hs : 0 ≤ W ∧ W ≤ 3 := ⟨(Utf.ok_small hok).1, (Utf.ok_small hok).2.1⟩
          have hw : IntKind.i64.wrap (W - 1) = W - 1 := IntWalk.i64_in _ (by omega)
          have He := Lib.hid (show Utf.next (W, L, H) b = some (W - 1, 128, 191) by rw [Utf.next_on b hok h0, if_pos hin, if_neg h1])
          have Hok := Lib.hid hok
          have Hin := Lib.hid hin
          clear hok hin h0 h1
          go_enter Tryz.func148, Tryz.ntmps148
          go_wp2_with fail
          refine (specUtfOk_yes Hok.out _).mono ?_
          rintro e w1 ⟨rfl, hb1⟩
          obtain ⟨hc, hf⟩ := bcellU hb1
          have hbw : Below w.heap.size w w1 := (two_new _ _).trans (hb1.mono (by simp; omega))
          go_wp2_with fail
          refine (specInYes _ _ _ _ Hin.out).mono ?_
          rintro e w2 ⟨rfl, rfl⟩
          go_wp2_with fail
          refine bodyPost_ret (v := .tuple #[.agg #[.int .i64 (W - 1), .int .i64 128, .int .i64 191], .bool true]) (by simp [results, Tryz.results148, go_sem, hc]) rfl ⟨by rw [He.out]; rfl, ?_⟩
          repeat (first | exact hbw | refine Below.setCell ?_ (by simp) _)
      · have b0 := neB h0
        have He := Lib.hid (show Utf.next (W, L, H) b = none by rw [Utf.next_on b hok h0, if_neg hin])
        have Hok := Lib.hid hok
        have Hin := Lib.hid hin
        clear hok hin h0
        go_enter Tryz.func148, Tryz.ntmps148
        go_wp2_with fail
        refine (specUtfOk_yes Hok.out _).mono ?_
        rintro e w1 ⟨rfl, hb1⟩
        obtain ⟨hc, hf⟩ := bcellU hb1
        have hbw : Below w.heap.size w w1 := (two_new _ _).trans (hb1.mono (by simp; omega))
        go_wp2_with fail
        refine (specInNo _ _ _ _ Hin.out).mono ?_
        rintro e w2 ⟨rfl, rfl⟩
        go_wp2_with fail
        refine bodyPost_ret (v := .tuple #[.agg #[.int .i64 W, .int .i64 L, .int .i64 H], .bool false]) (by simp [results, Tryz.results148, go_sem, hc]) rfl ⟨by rw [He.out]; rfl, ?_⟩
        repeat (first | exact hbw | refine Below.setCell ?_ (by simp) _)
  · have He := Lib.hid (next_bad (b := b) hok)
    have Hok := Lib.hid hok
    clear hok
    go_enter Tryz.func148, Tryz.ntmps148
    go_wp2_with fail
    refine (specUtfOk_no Hok.out _).mono ?_
    rintro e w1 ⟨rfl, hb1⟩
    obtain ⟨hc, hf⟩ := bcellU hb1
    have hbw : Below w.heap.size w w1 := (two_new _ _).trans (hb1.mono (by simp; omega))
    go_wp2_with fail
    refine bodyPost_ret (v := .tuple #[.agg #[.int .i64 W, .int .i64 L, .int .i64 H], .bool false]) (by simp [results, Tryz.results148, go_sem, hc]) rfl ⟨by rw [He.out]; rfl, ?_⟩
    repeat (first | exact hbw | refine Below.setCell ?_ (by simp) _)
end Go.Proofs.YtcnpdcmdnmfnaaaGreat.Num
