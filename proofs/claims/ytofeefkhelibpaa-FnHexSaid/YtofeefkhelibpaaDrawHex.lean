/-
  The walks of the reference's DrawHex and DrawUnhex: each gives some short string; nothing that was there is written.
-/
import Derived.Test.YtofeefkhelibpaaSpoil
import Derived.Test.YtofeefkhelibpaaHex
namespace Go.Proofs.Ytofeefkhelibpaa.Num
open Go.RowKit Go.Proofs

/-- Some string of at most m bytes; nothing that was there has turned. -/
def StrP (m : Nat) (w : World) (e : Ending) (w' : World) : Prop := ∃ s : ByteArray, s.size ≤ m ∧ e = .returned (.string s) ∧ Below w.heap.size w w'
set_option maxHeartbeats 400000 in
theorem drawHex_any (a : Option Addr) (len cap : Nat) (w : World) (h : CodeAt w w.heap.size a len) :
    Calls Try.prog 9 #[.slice a len cap] w (StrP 11 w) := by
  have H := Lib.hid h; clear h
  go_enter Try.func9, Try.ntmps9
  go_wp2_with fail
  refine (l1New_any _ a len cap _ (Nat.le_refl _) H.out).mono ?_
  rintro e w1 ⟨g, rfl, hc1, hb1, hg1, hg1'⟩
  have Hc1 := Lib.hid hc1; clear hc1
  go_wp2_with fail
  refine (l1Below_any _ g a len cap _ _ Hc1.out (by omega)).mono ?_
  rintro e w2 ⟨r, r0, r1, rfl, hc2, ho2⟩
  have hr : r < 12 := r1 (by omega)
  clear r1
  obtain ⟨k, rfl⟩ := Int.eq_ofNat_of_zero_le r0
  have Hc2 := Lib.hid hc2; clear hc2
  have hb2 : Below w.heap.size w1 w2 := ho2.below hg1 hb1.size
  have hsz2 := ho2.size
  have hsz1 := hb1.size
  clear ho2
  go_wp2_with fail
  refine (l1Bytes_any _ g a len cap k _ Hc2.out (by omega) (by omega) (by omega)).mono ?_
  rintro e w3 ⟨v, l, rfl, hl, hown, hc3, ho3⟩
  have hcv := run_convB (P := Try.prog) 22 9 Try.underlying22 Try.underlying5 Try.underlying9 hown
  have hb3 : Below w.heap.size w2 w3 := ho3.below hg1 (by omega)
  have Hl := Lib.hid hl
  clear hown hc3 ho3 hl
  go_wp2_with fail
  go_ret
  exact ⟨⟨l.toArray⟩, by have := Hl.out; simp [ByteArray.size, this]; omega, rfl, (hb1.trans hb2).trans hb3⟩
theorem specHex_str (l : List UInt8) (w : World) (h : l.length < 8) : Calls Try.prog 16 #[.string ⟨l.toArray⟩] w (StrP 14 w) := by
  refine (specHex_any ⟨l.toArray⟩ w (by simp [ByteArray.size]; omega)).mono fun e w' ⟨he, hb⟩ => ⟨_, ?_, he, hb⟩
  have := hexL_length l
  simp [ByteArray.size]; omega
set_option maxHeartbeats 800000 in
theorem drawUnhex_any (a : Option Addr) (len cap : Nat) (w : World) (h : CodeAt w w.heap.size a len) :
    Calls Try.prog 12 #[.slice a len cap] w (StrP 18 w) := by
  have H := Lib.hid h; clear h
  go_enter Try.func12, Try.ntmps12
  go_wp2_with fail
  refine (l1New_any _ a len cap _ (Nat.le_refl _) H.out).mono ?_
  rintro e w1 ⟨g, rfl, hc1, hb1, hg1, hg1'⟩
  have Hc1 := Lib.hid hc1; clear hc1
  go_wp2_with fail
  refine (l1Below_any _ g a len cap _ _ Hc1.out (by omega)).mono ?_
  rintro e w2 ⟨r, r0, r1, rfl, hc2, ho2⟩
  have hr : r < 8 := r1 (by omega)
  clear r1
  obtain ⟨k, rfl⟩ := Int.eq_ofNat_of_zero_le r0
  have Hc2 := Lib.hid hc2; clear hc2
  have hb2 : Below w.heap.size w1 w2 := ho2.below hg1 hb1.size
  have hsz2 := ho2.size
  have hsz1 := hb1.size
  clear ho2
  go_wp2_with fail
  refine (l1Bytes_any _ g a len cap k _ Hc2.out (by omega) (by omega) (by omega)).mono ?_
  rintro e w3 ⟨v, l, rfl, hl, hown, hc3, ho3⟩
  have hcv := run_convB (P := Try.prog) 22 9 Try.underlying22 Try.underlying5 Try.underlying9 hown
  have hb3 : Below w.heap.size w2 w3 := ho3.below hg1 (by omega)
  have hsz3 := ho3.size
  have Hc3 := Lib.hid hc3
  have hlk : l.length < 8 := by omega
  clear hown hc3 ho3 hl
  go_wp2_with fail
  refine (specHex_str l _ (by omega)).mono ?_
  rintro e w4 ⟨s, hs14, rfl, hb4⟩
  have hsz4 := hb4.size
  have Hc4 : Hid (Cur w4 w.heap.size g a len cap) := Lib.hid (Hc3.out.other hb4 (by omega) (by omega))
  have hb14 : Below w.heap.size w w4 := ((hb1.trans hb2).trans hb3).trans (hb4.mono (by omega))
  clear hb1 hb2 hb3 hb4
  go_wp2_with fail
  refine (l1Below_any _ g a len cap _ _ Hc4.out (by omega)).mono ?_
  rintro e w5 ⟨r, r0, r1, rfl, hc5, ho5⟩
  have hr5 : r < 4 := r1 (by omega)
  clear r1
  have Hc5 := Lib.hid hc5; clear hc5
  have hb5 : Below w.heap.size w4 w5 := ho5.below hg1 (by omega)
  have hsz5 := ho5.size
  have hb15 := hb14.trans hb5
  clear ho5 hb5 hb14
  by_cases c0 : r = 0
  · subst c0
    go_wp2_with fail
    refine (l1Spoil_any _ g a len cap s _ Hc5.out (by omega) (by omega) (by omega)).mono ?_
    rintro e w6 ⟨t, ht, rfl, hc6, ho6⟩
    have hb6 : Below w.heap.size w5 w6 := ho6.below hg1 (by omega)
    clear ho6 hc6
    go_wp2_with fail
    go_ret
    exact ⟨t, by omega, rfl, hb15.trans hb6⟩
  · by_cases c1 : r = 1
    · subst c1
      go_wp2_with fail
      refine (l1Pick_any _ g a len cap _ 4 4 [⟨#[97]⟩, ⟨#[65, 48]⟩, ⟨#[48, 103]⟩, ⟨#[32]⟩] _ _ _ _ (Hc5.out.other ((Below.refl w5.heap.size _).alloc (Nat.le_refl _) _) (by omega) (by omega)) (heap_alloc_new _ _) rfl rfl (by omega) (by omega) (by omega)).mono ?_
      rintro e w6 ⟨t, ht, rfl, hc6, ho6⟩
      have htt : t.size ≤ 2 := by
        simp only [List.mem_cons, List.not_mem_nil, or_false] at ht
        rcases ht with rfl | rfl | rfl | rfl <;> decide
      have hb6 : Below w.heap.size w5 w6 := ((Below.refl _ _).alloc (by omega) _).trans (ho6.below hg1 (by simp; omega))
      clear ho6 hc6 ht
      go_wp2_with fail
      go_ret
      exact ⟨s ++ t, by simp [ByteArray.size_append]; omega, rfl, hb15.trans hb6⟩
    · have n0 : (r == 0) = false := by rw [beq_eq_false_iff_ne]; exact c0
      have n1 : (r == 1) = false := by rw [beq_eq_false_iff_ne]; exact c1
      clear c0 c1
      go_wp2_with fail
      go_ret
      exact ⟨s, by omega, rfl, hb15⟩
end Go.Proofs.Ytofeefkhelibpaa.Num
