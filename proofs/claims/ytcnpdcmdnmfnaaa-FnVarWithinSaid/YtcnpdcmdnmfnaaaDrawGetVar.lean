/-
  The walk of the reference's DrawGetVar: it gives some short string and some place; nothing that was there is written.
-/
import Derived.Test.YtcnpdcmdnmfnaaaDrawVar
import Derived.Test.YtcnpdcmdnmfnaaaDrawBytes
import Derived.Test.YtcnpdcmdnmfnaaaDrawPickInt
import Derived.Test.YtcnpdcmdnmfnaaaPick
import Derived.Deep.RegionWith
import Derived.Deep.DrawnRows
namespace Go.Proofs.Ytcnpdcmdnmfnaaa.Num
open Go.RowKit Go.Proofs
attribute [local go_sem ↓] Go.wp_at_zero Go.wp_at_succ

def bstr (l : List UInt8) : ByteArray := ⟨l.toArray⟩
theorem bstr_size (l : List UInt8) : (bstr l).size = l.length := by unfold bstr ByteArray.size; simp
theorem pick_short {t : ByteArray} (ht : t ∈ [(⟨#[1]⟩ : ByteArray), ⟨#[2]⟩, ⟨#[129]⟩, ⟨#[0]⟩, ⟨#[]⟩]) : t.size ≤ 1 := by
  simp only [List.mem_cons, List.not_mem_nil, or_false] at ht
  rcases ht with rfl | rfl | rfl | rfl | rfl <;> decide
theorem far_size : (ByteArray.mk #[255, 255, 255, 255, 255, 255, 255, 255, 255]).size = 9 := rfl
set_option maxHeartbeats 800000 in
set_option maxRecDepth 100000 in
theorem drawGetVar_any (a : Option Addr) (len cap : Nat) (w : World) (h : CodeAt w w.heap.size a len) :
    Calls Try.prog 25 #[.slice a len cap] w fun e w' => ∃ (s : ByteArray) (n : Int), s.size ≤ 64 ∧ -9223372036854775808 ≤ n ∧ n ≤ 9223372036854775807 ∧ e = .returned (.tuple #[.string s, .int .i64 n]) ∧ Below w.heap.size w w' := by
  have H := Lib.hid h; clear h
  go_enter Try.func25, Try.ntmps25
  go_wp2_with fail
  refine (l1New_any _ a len cap _ (Nat.le_refl _) H.out).mono ?_
  rintro e w1 ⟨g, rfl, hc1, hb1, hg1, hg1'⟩
  have Hc1 := Lib.hid hc1; clear hc1
  have hz1 := hb1.size
  go_wp2_with fail
  refine (l1Below_any _ g a len cap _ _ Hc1.out (by omega)).mono ?_
  rintro e w2 ⟨r, r0, r1, rfl, hc2, ho2⟩
  have hr : r < 3 := r1 (by omega)
  obtain ⟨r', rfl⟩ := Int.eq_ofNat_of_zero_le r0
  have Hc2 := Lib.hid hc2; clear hc2
  have hb2 : Below w.heap.size w w2 := hb1.trans (ho2.below hg1 (by omega))
  have hz2 := ho2.size
  clear r1 ho2 hb1
  go_wp2_with fail
  refine (l1Bytes_any _ g a len cap _ _ Hc2.out (by omega) (by omega) (by omega)).mono ?_
  rintro e w3 ⟨v, l, rfl, hl, hown, hc3, hf3⟩
  have hcv := run_convB (P := Try.prog) 22 9 Try.underlying22 Try.underlying5 Try.underlying9 hown
  have Hc3 := Lib.hid hc3; clear hc3
  have hb3 : Below w.heap.size w w3 := hb2.trans (hf3.below hg1 (by omega))
  have hz3 := hf3.size
  have Hl : Hid ((bstr l).size = r') := Lib.hid (by rw [bstr_size, hl])
  rw [show (ByteArray.mk l.toArray) = bstr l from rfl] at hcv
  generalize bstr l = s0 at hcv Hl
  clear hown hf3 hl hb2
  go_wp2_with fail
  refine (l1Wide_any _ g a len cap _ Hc3.out (by omega)).mono ?_
  rintro e w4 ⟨u, hu, rfl, hc4, hf4⟩
  have Hc4 := Lib.hid hc4; clear hc4
  have Hu := Lib.hid hu; clear hu
  have hb4 : Below w.heap.size w w4 := hb3.trans (hf4.below hg1 (by omega))
  have hz4 := hf4.size
  clear hf4 hb3
  go_wp2_with fail
  refine (l2Var_any _ g a len cap u _ Hc4.out (by omega) (by omega) Hu.out).mono ?_
  rintro e w5 ⟨s1, hs1, rfl, hc5, hf5⟩
  have Hc5 := Lib.hid hc5; clear hc5
  have hb5 : Below w.heap.size w w5 := hb4.trans (hf5.below hg1 (by omega))
  have hz5 := hf5.size
  clear hf5 hb4
  have hs01 : s0.size + s1.size ≤ 13 := by have := Hl.out; omega
  have hs0 : s0.size ≤ 2 := by have := Hl.out; omega
  clear hr Hl r0
  go_wp2_with fail
  refine (l1Below_any _ g a len cap _ _ Hc5.out (by omega)).mono ?_
  rintro e w6 ⟨q, q0, q1, rfl, hc6, ho6⟩
  have hq : q < 2 := q1 (by omega)
  obtain ⟨q', rfl⟩ := Int.eq_ofNat_of_zero_le q0
  have Hc6 := Lib.hid hc6; clear hc6
  have hb6 : Below w.heap.size w w6 := hb5.trans (ho6.below hg1 (by omega))
  have hz6 := ho6.size
  clear q1 ho6 hb5
  go_wp2_with fail
  refine (l1Bytes_any _ g a len cap _ _ Hc6.out (by omega) (by omega) (by omega)).mono ?_
  rintro e w7 ⟨v2, l2, rfl, hl2, hown2, hc7, hf7⟩
  have hcv2 := run_convB (P := Try.prog) 22 9 Try.underlying22 Try.underlying5 Try.underlying9 hown2
  have Hc7 := Lib.hid hc7; clear hc7
  have hb7 : Below w.heap.size w w7 := hb6.trans (hf7.below hg1 (by omega))
  have hz7 := hf7.size
  have Hl2 : Hid ((bstr l2).size = q') := Lib.hid (by rw [bstr_size, hl2])
  rw [show (ByteArray.mk l2.toArray) = bstr l2 from rfl] at hcv2
  generalize bstr l2 = s2 at hcv2 Hl2
  have hs2 : s2.size ≤ 1 := by have := Hl2.out; omega
  clear hown2 hf7 hl2 hb6
  go_wp2_with fail
  have hsz : (s0 ++ s1 ++ s2).size = s0.size + s1.size + s2.size := by rw [ByteArray.size_append, ByteArray.size_append]
  clear hcv hcv2 Hl2
  generalize hs : s0 ++ s1 ++ s2 = s at hsz ⊢
  generalize s0.size = n0 at hsz hs0 hs01 ⊢
  have hn0 : n0 ≤ s.size := by omega
  have hs16 : s.size ≤ 14 := by omega
  clear hsz hs0 hs01 hs1 hs2 hs hq q0
  refine (l1Below_any _ g a len cap _ _ Hc7.out (by omega)).mono ?_
  rintro e w8 ⟨x, x0, x1, rfl, hc8, ho8⟩
  have hx : x < 6 := x1 (by omega)
  have Hc8 := Lib.hid hc8; clear hc8
  have hb8 : Below w.heap.size w w8 := hb7.trans (ho8.below hg1 (by omega))
  have hz8 := ho8.size
  clear x1 ho8 hb7
  by_cases c0 : x = 0
  · subst c0
    have hw1 : IntKind.i64.wrap ((s.size : Int) - (n0 : Int)) = (s.size : Int) - (n0 : Int) := IntWalk.i64_in _ (by omega)
    go_wp2_with fail
    refine (l1Below_any _ g a len cap _ _ Hc8.out (by omega)).mono ?_
    rintro e w9 ⟨y, y0, y1, rfl, hc9, ho9⟩
    have hy : y < (s.size : Int) - (n0 : Int) + 1 := y1 (by omega)
    have hb9 : Below w.heap.size w w9 := hb8.trans (ho9.below hg1 (by omega))
    clear y1 ho9 hc9
    obtain ⟨y', rfl⟩ := Int.eq_ofNat_of_zero_le y0
    have hi0 : (0 : Int) ≤ (n0 : Int) + (y' : Int) := by omega
    have hi1 : (n0 : Int) + (y' : Int) ≤ (s.size : Int) := by omega
    go_wp2_with fail
    go_ret2
    exact ⟨s.extract 0 (n0 + y'), n0, by rw [ByteArray.size_extract]; omega, by omega, by omega, rfl, hb9⟩
  · have n0' : (x == 0) = false := by rw [beq_eq_false_iff_ne]; exact c0
    by_cases c1 : x = 1
    · subst c1
      clear c0 n0' x0 hx
      have hi0 : (0 : Int) ≤ (n0 : Int) := by omega
      have hi1 : (n0 : Int) ≤ (s.size : Int) := by omega
      go_wp2_with fail
      go_region_with (go_at_call 41; refine (l1Pick_any _ g a len cap w8.heap.size 5 5 [⟨#[1]⟩, ⟨#[2]⟩, ⟨#[129]⟩, ⟨#[0]⟩, ⟨#[]⟩] _ _ _ _ (Hc8.out.other (C := w8.heap.size) ((Below.refl _ _).alloc (Nat.le_refl _) _).drew (by omega) (by omega)) (heap_alloc_new w8 _) rfl rfl (by omega) (by omega) (by omega)).mono ?_; rintro e w9 ⟨t, ht, rfl, hc9, ho9⟩; have htl := pick_short ht; clear ht hc9; have Ho9 := Lib.hid ho9; clear ho9; have hj1 : (s.extract 0 n0).size ≤ 14 := (by rw [ByteArray.size_extract]; omega); have hj2 : (s.extract n0 s.size).size ≤ 14 := (by rw [ByteArray.size_extract]; omega); have hj3 := far_size)
      all_goals
        have hb9 : Below w.heap.size w w9 := ((hb8.alloc (by omega) _).drew).trans (Ho9.out.below hg1 (by simp; omega))
        go_wp2_with fail
        go_ret2
        refine ⟨_, n0, ?_, by omega, by omega, rfl, hb9⟩
        simp only [ByteArray.size_append, ByteArray.size_extract]
        have : (ByteArray.mk #[255, 255, 255, 255, 255, 255, 255, 255, 255]).size = 9 := rfl
        omega
    · have n1' : (x == 1) = false := by rw [beq_eq_false_iff_ne]; exact c1
      by_cases c2 : x = 2
      · subst c2
        clear c0 n0' x0 hx c1 n1'
        go_wp2_with fail
        refine (l1PickInt_any _ g a len cap _ 6 6 [0, -1, (s.size : Int), (s.size : Int) + 1, 9223372036854775807, -9223372036854775808] _ _ _ _ (Hc8.out.other ((Below.refl w8.heap.size _).alloc (Nat.le_refl _) _) (by omega) (by omega)) (heap_alloc_new _ _) rfl rfl (by omega) (by omega) (by omega)).mono ?_
        rintro e w9 ⟨z, hz, rfl, _, ho9⟩
        have hzb : -9223372036854775808 ≤ z ∧ z ≤ 9223372036854775807 := by
          simp only [List.mem_cons, List.not_mem_nil, or_false] at hz
          omega
        have hb9 : Below w.heap.size w w9 := (hb8.alloc (by omega) _).trans (ho9.below hg1 (by simp; omega))
        clear ho9 hz
        have Hz := Lib.hid hzb; clear hzb
        go_wp2_with fail
        go_ret2
        exact ⟨s, z, by omega, Hz.out.1, Hz.out.2, rfl, hb9⟩
      · have n2' : (x == 2) = false := by rw [beq_eq_false_iff_ne]; exact c2
        go_wp2_with fail
        go_ret2
        exact ⟨s, n0, by omega, by omega, by omega, rfl, hb8⟩
end Go.Proofs.Ytcnpdcmdnmfnaaa.Num
