/-
  The walks of the reference's UtfGood and UtfState: they give what the plain validator gives; only new memory is written.
-/
import Derived.Test.YtoohcepobbbejaaUtfText
namespace Go.Proofs.Ytoohcepobbbejaa.Num
open Go.RowKit Go.Proofs
set_option linter.unusedVariables false

theorem specText_as (s : ByteArray) (W L H k : Int) (w : World) (hs : s.size ≤ 281474976710656) (h : textV (Utf.run Utf.z s.data.toList) = .tuple #[.agg #[.int .i64 W, .int .i64 L, .int .i64 H], .int .i64 k]) :
    Calls Try.prog 20 #[.agg #[.int .i64 0, .int .i64 0, .int .i64 0], .string s] w fun e w' => e = .returned (.tuple #[.agg #[.int .i64 W, .int .i64 L, .int .i64 H], .int .i64 k]) ∧ Below w.heap.size w w' := by
  have := specUtfText_any 0 0 0 s w hs
  rw [show ((0 : Int), (0 : Int), (0 : Int)) = Utf.z from rfl, h] at this
  exact this
theorem good_some {s : List UInt8} {v : Utf.St} {k : Nat} (h : Utf.run Utf.z s = (v, some k)) : Utf.good s = false := by unfold Utf.good Utf.goodFrom; rw [h]; rfl
theorem good_none {s : List UInt8} {v : Utf.St} (h : Utf.run Utf.z s = (v, none)) : Utf.good s = decide (v.1 = 0) := by unfold Utf.good Utf.goodFrom; rw [h]; simp
theorem specUtfGood_any (s : ByteArray) (w : World) (hs : s.size ≤ 281474976710656) :
    Calls Try.prog 16 #[.string s] w fun e w' => e = .returned (.bool (Utf.good s.data.toList)) ∧ Below w.heap.size w w' := by
  obtain ⟨⟨W, L, H⟩, r, hr⟩ : ∃ (u : Utf.St) (r : Option Nat), Utf.run Utf.z s.data.toList = (u, r) := ⟨(Utf.run Utf.z s.data.toList).1, (Utf.run Utf.z s.data.toList).2, rfl⟩
  rcases r with _ | k
  · by_cases h0 : W = 0
    · have Ht := Lib.hid (specText_as s W L H (-1) · hs (by rw [hr]; rfl))
      have Hg : Hid (Utf.good s.data.toList = true) := Lib.hid (by rw [good_none hr]; exact decide_eq_true h0)
      subst h0
      rw [Hg.out]
      clear hr
      go_enter Try.func16, Try.ntmps16
      go_wp2_with fail
      refine (Ht.out _).mono ?_
      rintro e w1 ⟨rfl, hb1⟩
      go_wp2_with fail
      go_ret
      exact ⟨rfl, hb1.alloc hb1.size _⟩
    · have Ht := Lib.hid (specText_as s W L H (-1) · hs (by rw [hr]; rfl))
      have Hg : Hid (Utf.good s.data.toList = false) := Lib.hid (by rw [good_none hr]; exact decide_eq_false h0)
      have b0 := neB h0
      rw [Hg.out]
      clear hr h0
      go_enter Try.func16, Try.ntmps16
      go_wp2_with fail
      refine (Ht.out _).mono ?_
      rintro e w1 ⟨rfl, hb1⟩
      go_wp2_with fail
      go_ret
      exact ⟨rfl, hb1.alloc hb1.size _⟩
  · have Ht := Lib.hid (specText_as s W L H k · hs (by rw [hr]; rfl))
    have Hg : Hid (Utf.good s.data.toList = false) := Lib.hid (good_some hr)
    have d0 : decide ((k : Int) < 0) = false := decide_eq_false (by omega)
    rw [Hg.out]
    clear hr
    go_enter Try.func16, Try.ntmps16
    go_wp2_with fail
    refine (Ht.out _).mono ?_
    rintro e w1 ⟨rfl, hb1⟩
    go_wp2_with fail
    go_ret
    exact ⟨rfl, hb1.alloc hb1.size _⟩
theorem specUtfState_any (s : ByteArray) (w : World) (hs : s.size ≤ 281474976710656) :
    Calls Try.prog 21 #[.string s] w fun e w' => e = .returned (utV (Utf.run Utf.z s.data.toList).1) ∧ Below w.heap.size w w' := by
  obtain ⟨⟨W, L, H⟩, r, hr⟩ : ∃ (u : Utf.St) (r : Option Nat), Utf.run Utf.z s.data.toList = (u, r) := ⟨(Utf.run Utf.z s.data.toList).1, (Utf.run Utf.z s.data.toList).2, rfl⟩
  have Ht := Lib.hid (specText_as s W L H (offI r) · hs (by rw [hr]; rfl))
  rw [hr]
  generalize offI r = k at Ht
  unfold utV
  simp only
  clear hr
  go_enter Try.func21, Try.ntmps21
  go_wp2_with fail
  refine (Ht.out _).mono ?_
  rintro e w1 ⟨rfl, hb1⟩
  have hz := alloc_lt hb1
  have hbw := from_alloc hb1
  obtain ⟨hc, hf⟩ := bcellU hb1
  go_wp2_with fail
  refine bodyPost_ret (v := .agg #[.int .i64 W, .int .i64 L, .int .i64 H]) (by simp [results, Try.results21, go_sem, hc, hz]) rfl ⟨rfl, ?_⟩
  repeat (first | exact hbw | refine Below.setCell ?_ (by simp) _ | refine Below.alloc ?_ (by simp <;> omega) _)
end Go.Proofs.Ytoohcepobbbejaa.Num
