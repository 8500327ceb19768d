/-
  The walk of the reference's ViolationText: the code's word, then, where the code is not 0, both indices, each behind a space; only new memory is written.
-/
import Derived.Test.YtlepaimcgofkoaaDoorSpecDigits
import Derived.Test.YtlepaimcgofkoaaDoorIn
import Derived.Test.YtlepaimcgofkoaaDoorBox
import Derived.Deep.RegionWith
import Derived.Deep.DeepCutAuto
namespace Go.Proofs.YtlepaimcgofkoaaDoor.Num
open Go.RowKit Go.Proofs
set_option linter.unusedVariables false
set_option linter.unusedSimpArgs false

def wordV (c : Int) : List UInt8 :=
  if c = 0 then [111, 107] else if c = 1 then [109, 115, 103, 115] else if c = 2 then [105, 100] else if c = 3 then [116, 119, 105, 99, 101] else if c = 4 then [102, 105, 101, 108, 100, 115]
  else if c = 5 then [110, 117, 109, 98, 101, 114] else if c = 6 then [115, 97, 109, 101] else if c = 7 then [107, 105, 110, 100] else if c = 8 then [112, 97, 99, 107, 101, 100] else if c = 9 then [114, 101, 102] else [63]
def violText (c m f : Int) : List UInt8 := if c = 0 then wordV 0 else wordV c ++ [32] ++ intDec m ++ [32] ++ intDec f
theorem code_cases (c : Int) : (c = 0 ∨ c = 1 ∨ c = 2 ∨ c = 3 ∨ c = 4 ∨ c = 5 ∨ c = 6 ∨ c = 7 ∨ c = 8 ∨ c = 9) ∨ ¬ (0 ≤ c ∧ c ≤ 9) := by omega
theorem wordV_no {c : Int} (h : ¬ (0 ≤ c ∧ c ≤ 9)) : wordV c = [63] := by
  unfold wordV
  rw [if_neg (by omega), if_neg (by omega), if_neg (by omega), if_neg (by omega), if_neg (by omega), if_neg (by omega), if_neg (by omega), if_neg (by omega), if_neg (by omega), if_neg (by omega)]
theorem wordV_len (c : Int) : (wordV c).length ≤ 6 := by
  unfold wordV
  repeat' split
  all_goals decide
theorem bytesApp (a b : List UInt8) : (⟨a.toArray⟩ : ByteArray) ++ (⟨b.toArray⟩ : ByteArray) = ⟨(a ++ b).toArray⟩ := by
  ext1; simp
def I64 (x : Int) : Prop := -9223372036854775808 ≤ x ∧ x ≤ 9223372036854775807
theorem intDec_len20 {n : Int} (h : I64 n) : (intDec n).length ≤ 21 := by
  have := dec_len64 (u := n.natAbs) (by unfold I64 at h; omega)
  unfold intDec
  split
  · simp; omega
  · omega
set_option maxHeartbeats 4000000 in
set_option maxRecDepth 100000 in
theorem specViolText_any (c m f : Int) (w : World) (hm : I64 m) (hf : I64 f) :
    Calls Tryd.prog 17 #[.agg #[.int .i64 c, .int .i64 m, .int .i64 f]] w fun e w' => e = .returned (.string ⟨(violText c m f).toArray⟩) ∧ Below w.heap.size w w' := by
  have hlm := intDec_len20 hm
  have hlf := intDec_len20 hf
  obtain ⟨lm, hlm'⟩ : ∃ l, intDec m = l := ⟨_, rfl⟩
  obtain ⟨lf, hlf'⟩ : ∃ l, intDec f = l := ⟨_, rfl⟩
  obtain ⟨lw, hlw⟩ : ∃ l, wordV c = l := ⟨_, rfl⟩
  have D1 := Lib.hid (specDigits_any m)
  have D2 := Lib.hid (specDigits_any f)
  have Hz : Hid (c = 0 → violText c m f = lw) := Lib.hid fun e => by rw [← hlw, e]; rfl
  have Hn : Hid (c ≠ 0 → violText c m f = lw ++ [32] ++ lm ++ [32] ++ lf) := Lib.hid fun e => by rw [← hlm', ← hlf', ← hlw]; unfold violText; rw [if_neg e]
  have hll : lw.length ≤ 6 := by rw [← hlw]; exact wordV_len c
  have Hw := Lib.hid hlw
  rw [hlm'] at hlm D1
  rw [hlf'] at hlf D2
  generalize violText c m f = R at Hz Hn ⊢
  have Hm := Lib.hid hm
  have Hf := Lib.hid hf
  clear hlm' hlf' hm hf hlw
  go_enter Tryd.func17, Tryd.ntmps17
  go_wp2_with fail
  have hx := Box.fresh w #[.int .i64 c, .int .i64 m, .int .i64 f] 29
  have hb : Below w.heap.size w (w.alloc (.cells #[.int .i64 c, .int .i64 m, .int .i64 f] 29)) := (Below.refl _ _).alloc (Nat.le_refl _) _
  have hz0 : w.heap.size < (w.alloc (.cells #[.int .i64 c, .int .i64 m, .int .i64 f] 29)).heap.size := by simp
  generalize w.alloc (.cells #[.int .i64 c, .int .i64 m, .int .i64 f] 29) = w1 at hx hb hz0 ⊢
  have Hx := Lib.hid hx
  clear hx
  obtain ⟨c0, c1, c2, _⟩ := Hx.out.three
  refine (specIn_any _ 0 9 _).mono ?_
  rintro e w1 ⟨rfl, rfl⟩
  obtain ⟨q, hq⟩ : ∃ q, decide (0 ≤ c ∧ c ≤ 9) = q := ⟨_, rfl⟩
  have Hq := Lib.hid hq
  rw [hq]
  clear hq
  go_upto_if 6 with fail
  go_cut [3] from 3 to 11 (fun s3 wx => s3 = .string ⟨lw.toArray⟩ ∧ Hid (Box wx w.heap.size [.int .i64 c, .int .i64 m, .int .i64 f]) ∧ Below w.heap.size w wx)
  case first =>
    rcases code_cases c with h | h
    · obtain rfl : q = true := by rw [← Hq.out]; exact decide_eq_true (by omega)
      rcases h with rfl | rfl | rfl | rfl | rfl | rfl | rfl | rfl | rfl | rfl
      all_goals
        obtain rfl := Hw.out
        go_wp2_with fail
        go_meet
        exact ⟨rfl, Lib.hid (Hx.out.alloc _), hb.alloc (Nat.le_of_lt hz0) _⟩
    · obtain rfl : q = false := by rw [← Hq.out]; exact decide_eq_false h
      obtain rfl : lw = [63] := by rw [← Hw.out]; exact wordV_no h
      clear h
      go_wp2_with fail
      go_meet
      exact ⟨rfl, Hx, hb⟩
  case rest =>
    obtain ⟨rfl, HX, hl⟩ := hcut
    clear Hx hb c0 c1 c2 hz0
    obtain ⟨c0, c1, c2, _⟩ := HX.out.three
    have hzx := HX.out.lt
    by_cases hc : c = 0
    · obtain rfl := Hz.out hc
      subst hc
      go_wp2_with fail
      go_ret
      exact ⟨rfl, hl⟩
    · obtain rfl := Hn.out hc
      have hcb : (c == 0) = false := by rw [beq_eq_false_iff_ne]; exact hc
      clear hc Hz Hn
      obtain ⟨sw, esw⟩ : ∃ s : ByteArray, s = ⟨lw.toArray⟩ := ⟨_, rfl⟩
      obtain ⟨sm, esm⟩ : ∃ s : ByteArray, s = ⟨lm.toArray⟩ := ⟨_, rfl⟩
      obtain ⟨sf, esf⟩ : ∃ s : ByteArray, s = ⟨lf.toArray⟩ := ⟨_, rfl⟩
      have zw : sw.size ≤ 6 := by rw [esw]; simpa [ByteArray.size] using hll
      have zm : sm.size ≤ 21 := by rw [esm]; simpa [ByteArray.size] using hlm
      have zf : sf.size ≤ 21 := by rw [esf]; simpa [ByteArray.size] using hlf
      obtain ⟨p1, e1⟩ : ∃ p, p = sw ++ (⟨#[32]⟩ : ByteArray) := ⟨_, rfl⟩
      obtain ⟨p2, e2⟩ : ∃ p, p = p1 ++ sm := ⟨_, rfl⟩
      obtain ⟨p3, e3⟩ : ∃ p, p = p2 ++ (⟨#[32]⟩ : ByteArray) := ⟨_, rfl⟩
      obtain ⟨p4, e4⟩ : ∃ p, p = p3 ++ sf := ⟨_, rfl⟩
      have z1 : p1.size ≤ 7 := by rw [e1, ByteArray.size_append]; show sw.size + 1 ≤ 7; omega
      have z2 : p2.size ≤ 28 := by rw [e2, ByteArray.size_append]; omega
      have z3 : p3.size ≤ 29 := by rw [e3, ByteArray.size_append]; show p2.size + 1 ≤ 29; omega
      have a1 : ∀ w, (Op.stringOp .add sw ⟨#[32]⟩).run Tryd.prog w = .ok (.string p1) w := fun w => by rw [e1]; exact run_string_add_sum _ sw _ (by show sw.size + 1 ≤ _; omega)
      have a2 : ∀ w, (Op.stringOp .add p1 sm).run Tryd.prog w = .ok (.string p2) w := fun w => by rw [e2]; exact run_string_add_sum _ p1 sm (by omega)
      have a3 : ∀ w, (Op.stringOp .add p2 ⟨#[32]⟩).run Tryd.prog w = .ok (.string p3) w := fun w => by rw [e3]; exact run_string_add_sum _ p2 _ (by show p2.size + 1 ≤ _; omega)
      have a4 : ∀ w, (Op.stringOp .add p3 sf).run Tryd.prog w = .ok (.string p4) w := fun w => by rw [e4]; exact run_string_add_sum _ p3 sf (by omega)
      have He : Hid ((⟨(lw ++ [32] ++ lm ++ [32] ++ lf).toArray⟩ : ByteArray) = p4) := Lib.hid (by
        rw [e4, e3, e2, e1, esw, esm, esf, show (⟨#[32]⟩ : ByteArray) = ⟨[32].toArray⟩ from rfl, bytesApp, bytesApp, bytesApp, bytesApp])
      rw [← esm] at D1
      rw [← esf] at D2
      rw [← esw]
      clear e1 e2 e3 e4 z1 z2 z3 zw zm zf esw esm esf hll hlm hlf
      go_wp2_with fail
      go_region_with (first
        | (go_at_call_of 39 (Value.int IntKind.i64 m); refine (D1.out _ Hm.out.1 Hm.out.2).mono ?_; rintro e w4 ⟨rfl, hb4⟩; have hx4 := HX.out.drew.below hb4 hzx; obtain ⟨_, d1, d2, _⟩ := Box.three hx4; have hl4 := hl.drew.trans (hb4.mono hl.size); clear hb4)
        | (go_at_call_of 39 (Value.int IntKind.i64 f); refine (D2.out _ Hf.out.1 Hf.out.2).mono ?_; rintro e w5 ⟨rfl, hb5⟩; have hl5 := hl4.trans (hb5.mono hl4.size); clear hb5))
      all_goals
        go_wp2_with fail
        go_ret
        exact ⟨by rw [He.out]; rfl, hl5⟩
end Go.Proofs.YtlepaimcgofkoaaDoor.Num
