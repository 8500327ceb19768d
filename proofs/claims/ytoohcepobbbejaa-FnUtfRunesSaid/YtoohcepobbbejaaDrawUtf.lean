/-
  The walks of the reference's draws of stage 5 (l5Rune, l5Text, l5Bent, l5State, DrawUtfGood, DrawUtfByte, DrawRuneText): each gives some number, short string or state; nothing that was there is written but the cursor.
-/
import Derived.Test.YtoohcepobbbejaaRune
import Derived.Test.YtoohcepobbbejaaUtfGood
import Derived.Test.YtoohcepobbbejaaDrawPickInt
import Derived.Test.YtoohcepobbbejaaDrawOnce
import Derived.Test.YtoohcepobbbejaaPick
import Derived.Test.YtoohcepobbbejaaSpoil
import Derived.Deep.RegionWith
import Derived.Deep.DrawnRows
namespace Go.Proofs.Ytoohcepobbbejaa.Num
open Go.RowKit Go.Proofs
set_option linter.unusedVariables false

def i64U (n : Int) : Prop := -9223372036854775808 ≤ n ∧ n ≤ 9223372036854775807
theorem runeS_size (n : Int) : (runeS n).size ≤ 4 := by unfold runeS ByteArray.size; simpa using Utf.rune_len n
theorem l5Rune_any (B g : Nat) (a : Option Addr) (len cap : Nat) (w : World) (h : Cur w B g a len cap) (hB : B ≤ w.heap.size) (hg : g < w.heap.size) :
    Calls Try.prog 43 #[.pointer (some ⟨g, 0, none⟩)] w fun e w' => ∃ z : Int, (0 ≤ z ∧ z ≤ 1114111) ∧ e = .returned (.int .i64 z) ∧ Cur w' B g a len cap ∧ Off w.heap.size g w w' := by
  have H := Lib.hid h; clear h
  go_enter Try.func43, Try.ntmps43
  go_wp2_with fail
  refine (l1Below_any B g a len cap _ _ H.out (by omega)).mono ?_
  rintro e w1 ⟨r, r0, r1, rfl, hc1, ho1⟩
  have hr : r < 1114112 := r1 (by omega)
  have Hc1 := Lib.hid hc1
  have hf1 : Off w.heap.size g w w1 := Only.off ho1 (by omega)
  have hz1 := ho1.size
  have Hr := Lib.hid hr
  clear hc1 ho1 r1 hr
  go_wp2_with fail
  refine (l1PickInt_any _ g a len cap _ 13 13 [0, 65, 127, 128, 2047, 2048, 4095, 55295, 57344, 65535, 65536, 1114111, r] _ _ _ _ (Hc1.out.other ((Below.refl w1.heap.size _).alloc (Nat.le_refl _) _) (by omega) (by omega)) (heap_alloc_new _ _) rfl rfl (by omega) (by omega) (by omega)).mono ?_
  rintro e w2 ⟨z, hz, rfl, hc2, ho2⟩
  have Hz := Lib.hid hz
  have Hc2 := Lib.hid hc2
  have hf2 : Off w.heap.size g w1 w2 := (Below.off ((Below.refl _ _).alloc (by omega) _)).trans (Only.off ho2 (by simp; omega))
  clear hz hc2 ho2
  go_wp2_with fail
  go_ret
  exact ⟨z, by have := Hz.out; have := Hr.out; simp only [List.mem_cons, List.not_mem_nil, or_false] at *; omega, rfl, Hc2.out, hf1.trans hf2⟩
set_option maxHeartbeats 800000 in
theorem l5Text_any (B g : Nat) (a : Option Addr) (len cap : Nat) (n : Nat) (w : World) (h : Cur w B g a len cap) (hB : B ≤ w.heap.size) (hg : g < w.heap.size) (hn : n ≤ 8) :
    Calls Try.prog 44 #[.pointer (some ⟨g, 0, none⟩), .int .i64 n] w fun e w' => ∃ s : ByteArray, s.size ≤ 4 * n ∧ e = .returned (.string s) ∧ Cur w' B g a len cap ∧ Off w.heap.size g w w' := by
  have H := Lib.hid h; clear h
  go_enter Try.func44, Try.ntmps44
  go_wp2_with fail
  go_loopw [5, 6] (fun v i wr => ∃ (k : Nat) (s : ByteArray), k ≤ n ∧ s.size ≤ 4 * k ∧ i = .int .i64 k ∧ v = .string s ∧ Hid (Cur wr B g a len cap) ∧ Off w.heap.size g w wr) (fun _ i _ => n - (intOf i).toNat)
  case atStart => exact ⟨0, ⟨#[]⟩, by omega, by decide, rfl, rfl, H, Off.refl _ _ _⟩
  case round =>
    obtain ⟨k, s, hk, hs, rfl, rfl, hc, hf⟩ := hrel
    have hz := hf.size
    by_cases hlt : k < n
    · have hlti : (k : Int) < (n : Int) := by omega
      go_wp2_with fail
      refine (l5Rune_any B g a len cap _ hc.out (by omega) (by omega)).mono ?_
      rintro e w1 ⟨x, hx, rfl, hc1, hf1⟩
      have Hc1 := Lib.hid hc1
      have hz1 := hf1.size
      have hf01 : Off w.heap.size g w w1 := hf.trans (hf1.mono (by omega))
      clear hx hc1
      go_wp2_with fail
      refine (specRuneText_any x _).mono ?_
      rintro e w2 ⟨rfl, hb2⟩
      have h4 := runeS_size x
      have Hc2 := Lib.hid (Hc1.out.other hb2 (by omega) (by omega))
      have hf02 : Off w.heap.size g w w2 := hf01.trans (Below.off (hb2.mono (by omega)))
      generalize runeS x = t at h4
      go_wp2_with fail
      go_roundw
      case rel => exact ⟨k + 1, s ++ t, by omega, by rw [ByteArray.size_append]; omega, by go_num, rfl, Hc2, hf02⟩
      case measure => simp [intOf]; omega
    · have hge : (n : Int) ≤ (k : Int) := by omega
      have hend : decide (k < n) = false := decide_eq_false hlt
      go_wp2_with fail
      go_ret
      exact ⟨s, by omega, rfl, hc.out, hf⟩
theorem bent_short {t : ByteArray} (ht : t ∈ [(⟨#[128]⟩ : ByteArray), ⟨#[192, 128]⟩, ⟨#[224, 159, 191]⟩, ⟨#[237, 160, 128]⟩, ⟨#[240, 143, 191, 191]⟩, ⟨#[244, 144, 128, 128]⟩, ⟨#[245]⟩, ⟨#[255]⟩, ⟨#[226, 130]⟩, ⟨#[193, 191]⟩]) : t.size ≤ 4 := by
  simp only [List.mem_cons, List.not_mem_nil, or_false] at ht
  rcases ht with rfl | rfl | rfl | rfl | rfl | rfl | rfl | rfl | rfl | rfl <;> decide
set_option maxHeartbeats 1000000 in
set_option maxRecDepth 100000 in
theorem l5Bent_any (B g : Nat) (a : Option Addr) (len cap : Nat) (w : World) (h : Cur w B g a len cap) (hB : B ≤ w.heap.size) (hg : g < w.heap.size) :
    Calls Try.prog 32 #[.pointer (some ⟨g, 0, none⟩)] w fun e w' => ∃ s : ByteArray, s.size ≤ 32 ∧ e = .returned (.string s) ∧ Cur w' B g a len cap ∧ Off w.heap.size g w w' := by
  have H := Lib.hid h; clear h
  go_enter Try.func32, Try.ntmps32
  go_wp2_with fail
  refine (l1Below_any B g a len cap _ _ H.out (by omega)).mono ?_
  rintro e w1 ⟨r, r0, r1, rfl, hc1, ho1⟩
  have hr : r < 4 := r1 (by omega)
  obtain ⟨n, rfl⟩ := Int.eq_ofNat_of_zero_le r0
  have Hc1 := Lib.hid hc1
  have hf1 : Off w.heap.size g w w1 := Only.off ho1 (by omega)
  have hz1 := ho1.size
  clear hc1 ho1 r1 r0
  go_wp2_with fail
  refine (l5Text_any B g a len cap n _ Hc1.out (by omega) (by omega) (by omega)).mono ?_
  rintro e w2 ⟨s, hs, rfl, hc2, hf2⟩
  have Hc2 := Lib.hid hc2
  have hf12 := hf1.trans (hf2.mono (D := w.heap.size) (by omega))
  have hs12 : s.size ≤ 12 := by omega
  have hz2 := hf12.size
  clear hc2 hf1 hf2 hs hr
  go_wp2_with fail
  refine (l1Below_any B g a len cap _ _ Hc2.out (by omega)).mono ?_
  rintro e w3 ⟨q, q0, q1, rfl, hc3, ho3⟩
  have Hc3 := Lib.hid hc3
  have hf13 := hf12.trans (Only.off ho3 (C := w.heap.size) (by omega))
  have hz3 := hf13.size
  clear hc3 hf12 ho3 q1
  by_cases c0 : q = 0
  · subst c0
    go_wp2_with fail
    refine (l1Spoil_any _ g a len cap s _ Hc3.out (by omega) (by omega) (by omega)).mono ?_
    rintro e w4 ⟨t, ht, rfl, hc4, hf4⟩
    have Hc4 := Lib.hid hc4
    clear hc4
    go_wp2_with fail
    go_ret
    exact ⟨t, by omega, rfl, Hc4.out, hf13.trans (hf4.mono (by omega))⟩
  · have n0 : (q == 0) = false := by rw [beq_eq_false_iff_ne]; exact c0
    by_cases c1 : q = 1
    · subst c1
      clear c0 n0
      go_wp2_with fail
      refine (l1Below_any B g a len cap _ _ Hc3.out (by omega)).mono ?_
      rintro e w4 ⟨x, x0, x1, rfl, hc4, ho4⟩
      have hx : x < (s.size : Int) + 1 := x1 (by omega)
      obtain ⟨m, rfl⟩ := Int.eq_ofNat_of_zero_le x0
      have hm : m ≤ s.size := by omega
      have hmi : (m : Int) ≤ (s.size : Int) := by omega
      have Hc4 := Lib.hid hc4
      have hf4 := hf13.trans (Only.off ho4 (C := w.heap.size) (by omega))
      clear hc4 ho4 x1 x0 hx
      go_wp2_with fail
      go_ret
      exact ⟨_, by rw [ByteArray.size_extract]; omega, rfl, Hc4.out, hf4⟩
    · have n1 : (q == 1) = false := by rw [beq_eq_false_iff_ne]; exact c1
      by_cases c2 : q = 2
      · subst c2
        clear c0 n0 c1 n1
        go_wp2_with fail
        refine (l1Pick_any _ g a len cap _ 10 10 [⟨#[128]⟩, ⟨#[192, 128]⟩, ⟨#[224, 159, 191]⟩, ⟨#[237, 160, 128]⟩, ⟨#[240, 143, 191, 191]⟩, ⟨#[244, 144, 128, 128]⟩, ⟨#[245]⟩, ⟨#[255]⟩, ⟨#[226, 130]⟩, ⟨#[193, 191]⟩] _ _ _ _ (Hc3.out.other ((Below.refl w3.heap.size _).alloc (Nat.le_refl _) _) (by omega) (by omega)) (heap_alloc_new _ _) rfl rfl (by omega) (by omega) (by omega)).mono ?_
        rintro e w4 ⟨t, ht, rfl, hc4, ho4⟩
        have htt := bent_short ht
        have Hc4 := Lib.hid hc4
        have hf4 : Off w.heap.size g w3 w4 := (Below.off ((Below.refl _ _).alloc (by omega) _)).trans (Only.off ho4 (by simp; omega))
        clear ho4 hc4 ht
        go_wp2_with fail
        go_ret
        exact ⟨s ++ t, by simp [ByteArray.size_append]; omega, rfl, Hc4.out, hf13.trans hf4⟩
      · have n2 : (q == 2) = false := by rw [beq_eq_false_iff_ne]; exact c2
        clear c0 c1 c2
        go_wp2_with fail
        go_ret
        exact ⟨s, by omega, rfl, Hc3.out, hf13⟩
end Go.Proofs.Ytoohcepobbbejaa.Num
