/-
  The walk of the reference's RuneText: it gives the bytes of the code point; only new memory is written.
-/
import Derived.Test.YtoohcepobbbejaaBytes
import Derived.Test.YtoohcepobbbejaaUtfOk
import Derived.Test.YtoohcepobbbejaaUtfRune
import Derived.Laws.OwnMore
namespace Go.Proofs.Ytoohcepobbbejaa.Num
open Go.RowKit Go.Proofs
set_option linter.unusedVariables false

def runeS (n : Int) : ByteArray := ⟨(Utf.rune n).toArray⟩
/-- 'string([]byte{..})': the bytes of a block that was just made. -/
theorem conv_lit {P : Program} (src dst E : TypeId) (hs : P.underlying src = some (.slice E)) (he : P.underlying E = some (.int .u8)) (hd : P.underlying dst = some .string) (w : World) (C : Array Value) (l : List UInt8) (n : Nat) (hn : l.length = n) (hm : n ≤ 4) (hC : C.toList = l.map byteV) :
    (convert src dst (.slice (some ⟨w.heap.size, 0, none⟩) n n)).run P (w.alloc (.cells C E)) = .ok (.string ⟨l.toArray⟩) (w.alloc (.cells C E)) := by
  subst hn
  refine run_convB (B := w.heap.size) (E := E) src dst hs he hd ?_
  unfold OwnB
  rw [← hC]
  exact World.ownsRow_lit w C l.length (Nat.le_refl _) (by unfold maxLen; omega) (by rw [← Array.length_toList, hC, List.length_map, Nat.mul_one])
theorem u8V {n : Nat} {x : Int} (h : n < 256) (hx : x = (n : Int)) : Value.int .u8 x = byteV (Utf.u8 n) := by unfold byteV; rw [Utf.u8_toNat h, hx]
set_option maxHeartbeats 1000000 in
set_option maxRecDepth 100000 in
theorem specRuneText_any (n : Int) (w : World) :
    Calls Try.prog 29 #[.int .i64 n] w fun e w' => e = .returned (.string (runeS n)) ∧ Below w.heap.size w w' := by
  rcases Utf.rune_cases n with ⟨hno, hr⟩ | ⟨k, rfl, hyes, hc⟩
  · have He : Hid (runeS n = ⟨#[]⟩) := Lib.hid (by unfold runeS; rw [hr])
    rw [He.out]
    clear hr He
    unfold Utf.Right at hno
    by_cases h1 : 0 ≤ n ∧ n ≤ 1114111
    · have h2 : 55296 ≤ n ∧ n ≤ 57343 := by omega
      have H1 := Lib.hid h1; have H2 := Lib.hid h2; clear h1 h2 hno
      go_enter Try.func29, Try.ntmps29
      go_wp2_with fail
      refine (specInYes _ _ _ _ H1.out).mono ?_
      rintro e w1 ⟨rfl, rfl⟩
      go_wp2_with fail
      refine (specInYes _ _ _ _ H2.out).mono ?_
      rintro e w1 ⟨rfl, rfl⟩
      go_wp2_with fail
      go_ret
      exact ⟨rfl, Below.refl _ _⟩
    · have H1 := Lib.hid h1; clear h1 hno
      go_enter Try.func29, Try.ntmps29
      go_wp2_with fail
      refine (specInNo _ _ _ _ H1.out).mono ?_
      rintro e w1 ⟨rfl, rfl⟩
      go_wp2_with fail
      go_ret
      exact ⟨rfl, Below.refl _ _⟩
  · have h12 := hyes
    unfold Utf.Right at h12
    have H1 := Lib.hid h12.1; have H2 := Lib.hid h12.2; clear h12 hyes
    rcases hc with h | ⟨h0, h⟩ | ⟨h0, h, hs⟩ | ⟨h0, h⟩
    · have He : Hid (runeS (k : Int) = ⟨#[Utf.u8 k]⟩) := Lib.hid (by unfold runeS; rw [Utf.rune_1 h])
      have hi : (k : Int) < 128 := by omega
      have hw1 : IntKind.u8.wrap (k : Int) = (k : Int) := IntWalk.u8_in _ (by omega)
      have hcv := conv_lit (P := Try.prog) 22 9 5 Try.underlying22 Try.underlying5 Try.underlying9 w #[.int .u8 (k : Int)] [Utf.u8 k] 1 rfl (by omega) (by simp [u8V (n := k) (by omega) rfl])
      rw [He.out]
      clear h He
      go_enter Try.func29, Try.ntmps29
      go_wp2_with fail
      refine (specInYes _ _ _ _ H1.out).mono ?_
      rintro e w1 ⟨rfl, rfl⟩
      go_wp2_with fail
      refine (specInNo _ _ _ _ H2.out).mono ?_
      rintro e w1 ⟨rfl, rfl⟩
      go_wp2_with fail
      go_ret
      exact ⟨rfl, (Below.refl _ _).alloc (Nat.le_refl _) _⟩
    · have He : Hid (runeS (k : Int) = ⟨#[Utf.u8 (192 + k / 64), Utf.u8 (128 + k % 64)]⟩) := Lib.hid (by unfold runeS; rw [Utf.rune_2 h0 h])
      have d10 : decide ((k : Int) < 128) = false := decide_eq_false (by omega)
      have f10 : decide (k < 128) = false := decide_eq_false (by omega)
      have d20 : decide ((k : Int) < 2048) = true := decide_eq_true (by omega)
      have f20 : decide (k < 2048) = true := decide_eq_true (by omega)
      have i2 : (k : Int) ≤ 1114111 := by omega
      have hw1 : IntKind.i64.wrap (192 + (k : Int) / 64) = 192 + (k : Int) / 64 := IntWalk.i64_in _ (by omega)
      have hw2 : IntKind.u8.wrap (192 + (k : Int) / 64) = 192 + (k : Int) / 64 := IntWalk.u8_in _ (by omega)
      have hw3 : IntKind.i64.wrap (128 + (k : Int) % 64) = 128 + (k : Int) % 64 := IntWalk.i64_in _ (by omega)
      have hw4 : IntKind.u8.wrap (128 + (k : Int) % 64) = 128 + (k : Int) % 64 := IntWalk.u8_in _ (by omega)
      have hcv := conv_lit (P := Try.prog) 22 9 5 Try.underlying22 Try.underlying5 Try.underlying9 w #[.int .u8 (192 + (k : Int) / 64), .int .u8 (128 + (k : Int) % 64)] [Utf.u8 (192 + k / 64), Utf.u8 (128 + k % 64)] 2 rfl (by omega)
        (by simp only [List.map_cons, List.map_nil]; rw [u8V (n := 192 + k / 64) (x := 192 + (k : Int) / 64) (by omega) (by omega), u8V (n := 128 + k % 64) (x := 128 + (k : Int) % 64) (by omega) (by omega)])
      rw [He.out]
      clear h0 h He
      go_enter Try.func29, Try.ntmps29
      go_wp2_with fail
      refine (specInYes _ _ _ _ H1.out).mono ?_
      rintro e w1 ⟨rfl, rfl⟩
      go_wp2_with fail
      refine (specInNo _ _ _ _ H2.out).mono ?_
      rintro e w1 ⟨rfl, rfl⟩
      go_wp2_with fail
      go_ret
      exact ⟨rfl, (Below.refl _ _).alloc (Nat.le_refl _) _⟩
    · have He : Hid (runeS (k : Int) = ⟨#[Utf.u8 (224 + k / 4096), Utf.u8 (128 + k / 64 % 64), Utf.u8 (128 + k % 64)]⟩) := Lib.hid (by unfold runeS; rw [Utf.rune_3 h0 h hs])
      have d10 : decide ((k : Int) < 128) = false := decide_eq_false (by omega)
      have f10 : decide (k < 128) = false := decide_eq_false (by omega)
      have d11 : decide ((k : Int) < 2048) = false := decide_eq_false (by omega)
      have f11 : decide (k < 2048) = false := decide_eq_false (by omega)
      have d20 : decide ((k : Int) < 65536) = true := decide_eq_true (by omega)
      have f20 : decide (k < 65536) = true := decide_eq_true (by omega)
      have i2 : (k : Int) ≤ 1114111 := by omega
      obtain ⟨q0, hq0⟩ : ∃ q : Nat, q = k / 4096 := ⟨_, rfl⟩
      have e0 : (k : Int) / 4096 = (q0 : Int) := by omega
      have l0 : q0 < 32 := by omega
      obtain ⟨p1, hp1⟩ : ∃ p : Nat, p = k / 64 := ⟨_, rfl⟩
      have d1 : (k : Int) / 64 = (p1 : Int) := by omega
      obtain ⟨q1, hq1⟩ : ∃ q : Nat, q = p1 % 64 := ⟨_, rfl⟩
      have e1 : (p1 : Int) % 64 = (q1 : Int) := by omega
      have l1 : q1 < 64 := by omega
      obtain ⟨q2, hq2⟩ : ∃ q : Nat, q = k % 64 := ⟨_, rfl⟩
      have e2 : (k : Int) % 64 = (q2 : Int) := by omega
      have l2 : q2 < 64 := by omega
      have hw0 : IntKind.i64.wrap (224 + (q0 : Int)) = 224 + (q0 : Int) := IntWalk.i64_in _ (by omega)
      have hv0 : IntKind.u8.wrap (224 + (q0 : Int)) = 224 + (q0 : Int) := IntWalk.u8_in _ (by omega)
      have hw1 : IntKind.i64.wrap (128 + (q1 : Int)) = 128 + (q1 : Int) := IntWalk.i64_in _ (by omega)
      have hv1 : IntKind.u8.wrap (128 + (q1 : Int)) = 128 + (q1 : Int) := IntWalk.u8_in _ (by omega)
      have hw2 : IntKind.i64.wrap (128 + (q2 : Int)) = 128 + (q2 : Int) := IntWalk.i64_in _ (by omega)
      have hv2 : IntKind.u8.wrap (128 + (q2 : Int)) = 128 + (q2 : Int) := IntWalk.u8_in _ (by omega)
      have hcv := conv_lit (P := Try.prog) 22 9 5 Try.underlying22 Try.underlying5 Try.underlying9 w #[.int .u8 (224 + (q0 : Int)), .int .u8 (128 + (q1 : Int)), .int .u8 (128 + (q2 : Int))] [Utf.u8 (224 + k / 4096), Utf.u8 (128 + k / 64 % 64), Utf.u8 (128 + k % 64)] 3 rfl (by omega)
        (by simp only [List.map_cons, List.map_nil]; rw [u8V (n := 224 + k / 4096) (x := 224 + (q0 : Int)) (by omega) (by omega), u8V (n := 128 + k / 64 % 64) (x := 128 + (q1 : Int)) (by omega) (by omega), u8V (n := 128 + k % 64) (x := 128 + (q2 : Int)) (by omega) (by omega)])
      rw [He.out]
      clear h0 h hs He hq0 hq1 hq2 hp1
      go_enter Try.func29, Try.ntmps29
      go_wp2_with fail
      refine (specInYes _ _ _ _ H1.out).mono ?_
      rintro e w1 ⟨rfl, rfl⟩
      go_wp2_with fail
      refine (specInNo _ _ _ _ H2.out).mono ?_
      rintro e w1 ⟨rfl, rfl⟩
      go_wp2_with fail
      go_ret
      exact ⟨rfl, (Below.refl _ _).alloc (Nat.le_refl _) _⟩
    · have He : Hid (runeS (k : Int) = ⟨#[Utf.u8 (240 + k / 262144), Utf.u8 (128 + k / 4096 % 64), Utf.u8 (128 + k / 64 % 64), Utf.u8 (128 + k % 64)]⟩) := Lib.hid (by unfold runeS; rw [Utf.rune_4 h0 h])
      have d10 : decide ((k : Int) < 128) = false := decide_eq_false (by omega)
      have f10 : decide (k < 128) = false := decide_eq_false (by omega)
      have d11 : decide ((k : Int) < 2048) = false := decide_eq_false (by omega)
      have f11 : decide (k < 2048) = false := decide_eq_false (by omega)
      have d12 : decide ((k : Int) < 65536) = false := decide_eq_false (by omega)
      have f12 : decide (k < 65536) = false := decide_eq_false (by omega)
      have i2 : (k : Int) ≤ 1114111 := by omega
      obtain ⟨q0, hq0⟩ : ∃ q : Nat, q = k / 262144 := ⟨_, rfl⟩
      have e0 : (k : Int) / 262144 = (q0 : Int) := by omega
      have l0 : q0 < 16 := by omega
      obtain ⟨p1, hp1⟩ : ∃ p : Nat, p = k / 4096 := ⟨_, rfl⟩
      have d1 : (k : Int) / 4096 = (p1 : Int) := by omega
      obtain ⟨q1, hq1⟩ : ∃ q : Nat, q = p1 % 64 := ⟨_, rfl⟩
      have e1 : (p1 : Int) % 64 = (q1 : Int) := by omega
      have l1 : q1 < 64 := by omega
      obtain ⟨p2, hp2⟩ : ∃ p : Nat, p = k / 64 := ⟨_, rfl⟩
      have d2 : (k : Int) / 64 = (p2 : Int) := by omega
      obtain ⟨q2, hq2⟩ : ∃ q : Nat, q = p2 % 64 := ⟨_, rfl⟩
      have e2 : (p2 : Int) % 64 = (q2 : Int) := by omega
      have l2 : q2 < 64 := by omega
      obtain ⟨q3, hq3⟩ : ∃ q : Nat, q = k % 64 := ⟨_, rfl⟩
      have e3 : (k : Int) % 64 = (q3 : Int) := by omega
      have l3 : q3 < 64 := by omega
      have hw0 : IntKind.i64.wrap (240 + (q0 : Int)) = 240 + (q0 : Int) := IntWalk.i64_in _ (by omega)
      have hv0 : IntKind.u8.wrap (240 + (q0 : Int)) = 240 + (q0 : Int) := IntWalk.u8_in _ (by omega)
      have hw1 : IntKind.i64.wrap (128 + (q1 : Int)) = 128 + (q1 : Int) := IntWalk.i64_in _ (by omega)
      have hv1 : IntKind.u8.wrap (128 + (q1 : Int)) = 128 + (q1 : Int) := IntWalk.u8_in _ (by omega)
      have hw2 : IntKind.i64.wrap (128 + (q2 : Int)) = 128 + (q2 : Int) := IntWalk.i64_in _ (by omega)
      have hv2 : IntKind.u8.wrap (128 + (q2 : Int)) = 128 + (q2 : Int) := IntWalk.u8_in _ (by omega)
      have hw3 : IntKind.i64.wrap (128 + (q3 : Int)) = 128 + (q3 : Int) := IntWalk.i64_in _ (by omega)
      have hv3 : IntKind.u8.wrap (128 + (q3 : Int)) = 128 + (q3 : Int) := IntWalk.u8_in _ (by omega)
      have hcv := conv_lit (P := Try.prog) 22 9 5 Try.underlying22 Try.underlying5 Try.underlying9 w #[.int .u8 (240 + (q0 : Int)), .int .u8 (128 + (q1 : Int)), .int .u8 (128 + (q2 : Int)), .int .u8 (128 + (q3 : Int))] [Utf.u8 (240 + k / 262144), Utf.u8 (128 + k / 4096 % 64), Utf.u8 (128 + k / 64 % 64), Utf.u8 (128 + k % 64)] 4 rfl (by omega)
        (by simp only [List.map_cons, List.map_nil]; rw [u8V (n := 240 + k / 262144) (x := 240 + (q0 : Int)) (by omega) (by omega), u8V (n := 128 + k / 4096 % 64) (x := 128 + (q1 : Int)) (by omega) (by omega), u8V (n := 128 + k / 64 % 64) (x := 128 + (q2 : Int)) (by omega) (by omega), u8V (n := 128 + k % 64) (x := 128 + (q3 : Int)) (by omega) (by omega)])
      rw [He.out]
      clear h0 h He hq0 hq1 hq2 hq3 hp1 hp2
      go_enter Try.func29, Try.ntmps29
      go_wp2_with fail
      refine (specInYes _ _ _ _ H1.out).mono ?_
      rintro e w1 ⟨rfl, rfl⟩
      go_wp2_with fail
      refine (specInNo _ _ _ _ H2.out).mono ?_
      rintro e w1 ⟨rfl, rfl⟩
      go_wp2_with fail
      go_ret
      exact ⟨rfl, (Below.refl _ _).alloc (Nat.le_refl _) _⟩
end Go.Proofs.Ytoohcepobbbejaa.Num
