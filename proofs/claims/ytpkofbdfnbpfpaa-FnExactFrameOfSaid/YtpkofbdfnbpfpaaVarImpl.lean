/-
  The walks of the program's PutVar, VarLen, PadVar and GetVar: they give what the plain lemmas on varints say; only new memory is written.
-/
import Derived.Test.YtpkofbdfnbpfpaaVarGet
import Derived.Test.YtpkofbdfnbpfpaaVarBits
import Derived.Test.YtpkofbdfnbpfpaaShelf
import Derived.Test.YtpkofbdfnbpfpaaAhead
import Derived.Laws.BitsAllLaws
import Derived.Deep.OwnRows
import Derived.Deep.QuietTactic
import Derived.BigQuiet
import Derived.Outline
namespace Go.Proofs.Ytpkofbdfnbpfpaa.Num
open Go.RowKit Go.Proofs

theorem implVarLen_is (u : Nat) (w : World) (hu : u ≤ 18446744073709551615) :
    Calls Try.prog 9 #[.int .u64 u] w fun e w' => e = .returned (.int .i64 (Var.varLen u)) ∧ w = w' := by
  have hor : u ||| 1 < 18446744073709551616 := by rw [Var.or_one]; omega
  have hb : bits .or .u64 (u : Int) 1 = ((u ||| 1 : Nat) : Int) := u64_or_nat u 1 (by omega) (by omega)
  have hle : Lib.bitLen (u ||| 1) ≤ 64 := Lib.bitLen_le _ 64 (Nat.le_refl _) (by omega)
  have Hv := Lib.hid (Var.varLen_bits u hu)
  go_enter Try.func9, Try.ntmps9
  go_wp2_with fail
  refine (Try.bits_Len64 _ w (by omega) (by omega)).mono ?_
  rintro e w1 ⟨rfl, rfl⟩
  rw [Int.toNat_natCast]
  clear hb hor
  generalize Lib.bitLen (u ||| 1) = B at hle Hv
  have hB : (B : Int) ≤ 64 := by omega
  go_wp2_with fail
  go_ret
  exact ⟨by rw [← Hv.out]; rfl, rfl⟩
theorem implVarLen_any (u : Nat) (w : World) (hu : u ≤ 18446744073709551615) :
    Calls Try.prog 9 #[.int .u64 u] w fun e w' => e = .returned (.int .i64 (Var.varLen u)) ∧ Below w.heap.size w w' :=
  (implVarLen_is u w hu).mono fun _ _ ⟨he, hw⟩ => ⟨he, hw ▸ Below.refl _ _⟩
theorem below_drewN' {B : Nat} {a w : World} (h : Below B a w) (n : Nat) : Below B a (w.drewN n) := ⟨h.os, h.tape, h.output, h.size, h.block⟩
theorem orShift (u k c : Nat) (hu : u < 2 ^ (7 * k)) (hk : k ≤ 8 ∨ (k = 9 ∧ c ≤ 1)) :
    bits .or .u64 (u : Int) (IntKind.u64.wrap ((c : Int) % 128 * 2 ^ (7 * k))) = ((u + c % 128 * 2 ^ (7 * k) : Nat) : Int) := by
  have hx : u + c % 128 * 2 ^ (7 * k) ≤ 18446744073709551615 := by
    rcases hk with hk | ⟨rfl, hc⟩
    · have h1 := two7 k hk
      have h2 : c % 128 * 2 ^ (7 * k) ≤ 127 * 2 ^ (7 * k) := Nat.mul_le_mul_right _ (by omega)
      omega
    · simp only [Nat.reduceMul, Nat.reducePow] at hu ⊢
      have : c % 128 ≤ 1 := by omega
      omega
  have e : (c : Int) % 128 * 2 ^ (7 * k) = ((c % 128 * 2 ^ (7 * k) : Nat) : Int) := by simp
  rw [e, IntKind.wrap_u64, show ((c % 128 * 2 ^ (7 * k) : Nat) : Int) % 18446744073709551616 = ((c % 128 * 2 ^ (7 * k) : Nat) : Int) by omega, u64_or_nat _ _ (by omega) (by omega), Var.or_above _ _ _ hu]
theorem freshF {w : World} {b : Nat} {C : Array Value} {T : TypeId} (h : w.heap[b]? = some (.cells C T (0, 0))) (j : Nat) : w.frozen? ⟨b, j, none⟩ = false := by simp [World.frozen?, h]
set_option maxHeartbeats 800000 in
theorem implPadVar_any (u : Nat) (n : Int) (w : World) (hu : u ≤ 18446744073709551615) :
    Calls Try.prog 8 #[.int .u64 u, .int .i64 n] w fun e w' => e = .returned (.string (padS u n)) ∧ Below w.heap.size w w' := by
  obtain ⟨i0, hi, hz0, hz1, hz2⟩ := info_parts info_u8v
  go_enter Try.func8, Try.ntmps8
  go_wp2_with fail
  refine (implVarLen_is u _ hu).mono ?_
  rintro e w1 ⟨rfl, rfl⟩
  have hl1 := Var.varLen_pos u
  by_cases h1 : n < (Var.varLen u : Int)
  · go_wp2_with fail
    go_ret
    exact ⟨by unfold padS; rw [if_neg (by omega)]; rfl, Below.refl _ _⟩
  · have h1b : decide (n < (Var.varLen u : Int)) = false := decide_eq_false h1
    by_cases h2 : (10 : Int) < n
    · go_wp2_with fail
      go_ret
      exact ⟨by unfold padS; rw [if_neg (by omega)]; rfl, Below.refl _ _⟩
    · obtain ⟨N, rfl⟩ := Int.eq_ofNat_of_zero_le (show 0 ≤ n by omega)
      have h2b : decide ((10 : Int) < (N : Int)) = false := decide_eq_false h2
      have h1c : decide (N < Var.varLen u) = false := decide_eq_false (by omega)
      have hN10 : N ≤ 10 := by omega
      have hN1 : 1 ≤ N := by omega
      go_wp2_with (at_make; refine wpList_make_row _ rfl _ _ 26 rfl 5 i0 _ Try.underlying26 hi hz0 hz1 rfl .i64 .i64 N rfl rfl (by rw [hz2]; omega) (by omega) ?_)
      have hown0 : OwnM (w.alloc (.cells (madeCells #[Value.int .u8 0] N) 5)) w.heap.size (.slice (some ⟨w.heap.size, 0, none⟩) N N) (Var.wide 0 u ++ List.replicate (N - 0) 0) := by
        have h := OwnM.of_cells (l := List.replicate N (0 : UInt8)) (cap := N) (heap_alloc_new w (.cells (madeCells #[Value.int .u8 0] N) 5)) (Nat.le_refl _) (by simp) (by rw [size_madeCells]; exact Nat.le_refl _) (fun j hj => by
          have hl := toList_madeCells_one (Value.int .u8 0) N
          rw [← Array.getElem?_toList, hl, List.getElem?_replicate]
          simp only [List.length_replicate] at hj
          rw [if_pos hj]; simp [byteV]) (fun j hj => freshF (heap_alloc_new w _) j)
        rw [List.length_replicate] at h
        simpa [Var.wide] using h
      clear h1b h2b h1c hl1
      go_loopw [0, 6, 19] (fun x _ i wr => ∃ k X : Nat, k ≤ N ∧ i = .int .i64 k ∧ x = .int .u64 X ∧ X ≤ 18446744073709551615 ∧ Hid (X = u / 128 ^ k) ∧ Hid (OwnM wr w.heap.size (.slice (some ⟨w.heap.size, 0, none⟩) N N) (Var.wide k u ++ List.replicate (N - k) 0)) ∧ Below w.heap.size w wr) (fun _ _ i _ => N - (intOf i).toNat)
      case atStart => exact ⟨0, u, by omega, rfl, rfl, hu, Lib.hid (by simp), Lib.hid hown0, (Below.refl _ _).alloc (Nat.le_refl _) _⟩
      case round =>
        obtain ⟨k, X, hkN, rfl, rfl, hX, hXk, hown, hb⟩ := hrel
        clear hown0
        by_cases hlt : k < N
        · obtain ⟨c8, hc8⟩ : ∃ c8 : Nat, c8 = X % 256 := ⟨_, rfl⟩
          obtain ⟨d, hd⟩ : ∃ d : Nat, d = X % 128 + 128 := ⟨_, rfl⟩
          have hcv : IntKind.u8.wrap (X : Int) = (c8 : Int) := by rw [IntKind.wrap_u8']; omega
          have hor : bits .or .u8 (c8 : Int) 128 = (d : Int) := by
            rw [show (128 : Int) = ((128 : Nat) : Int) from rfl, u8_or_nat c8 128 (by omega) (by omega), Var.or_high c8 (by omega)]
            omega
          obtain ⟨hc1, hc2⟩ := hown.out.cell k (by simp [Var.wide_length]; omega)
          rw [List.getElem_append_right (by rw [Var.wide_length]; exact Nat.le_refl _)] at hc1
          simp only [List.getElem_replicate] at hc1
          have hst := hown.out.store k (by simp [Var.wide_length]; omega) (Var.by' d)
          have hbv : byteV (Var.by' d) = .int .u8 (d : Int) := by unfold byteV; rw [Var.by_toNat (by omega)]
          have hset : (Var.wide k u ++ List.replicate (N - k) 0).set k (Var.by' d) = Var.wide (k + 1) u ++ List.replicate (N - (k + 1)) 0 := by
            rw [Var.wide_snoc, ← hXk.out, ← hd, List.set_append_right _ _ (by rw [Var.wide_length]; exact Nat.le_refl _), Var.wide_length, Nat.sub_self, show N - k = (N - (k + 1)) + 1 by omega, List.replicate_succ]
            simp
          rw [hbv, hset] at hst
          have Hst := Lib.hid hst
          have hbl := hb.setCell (p := ⟨w.heap.size, k, none⟩) (Nat.le_refl _) (.int .u8 (d : Int))
          clear hst hbv hset
          have Hd := Lib.hid hd
          have Hc8 := Lib.hid hc8
          clear hd hc8
          go_wp2_with fail
          exact ⟨⟨k + 1, X / 128, by omega, by go_num, rfl, by omega, Lib.hid (by rw [hXk.out, Nat.div_div_eq_div_mul, ← Nat.pow_succ]), Lib.hid Hst.out, hbl⟩, by simp only [intOf]; omega⟩
        · have hkN2 : k = N := by omega
          subst hkN2
          obtain ⟨M, hM⟩ : ∃ M, k = M + 1 := ⟨k - 1, by omega⟩
          have hown1 := hown.out
          rw [Nat.sub_self, List.replicate_zero, List.append_nil] at hown1
          have hlast : Var.wide k u = Var.wide M u ++ [Var.by' (u / 128 ^ M % 128 + 128)] := by rw [hM, Var.wide_snoc]
          obtain ⟨d, hd⟩ : ∃ d : Nat, d = u / 128 ^ M % 128 := ⟨_, rfl⟩
          obtain ⟨e8, he8⟩ : ∃ e8 : Nat, e8 = d + 128 := ⟨_, rfl⟩
          rw [hlast, ← hd, ← he8] at hown1
          obtain ⟨hc1, hc2⟩ := hown1.cell M (by simp [Var.wide_length])
          rw [List.getElem_append_right (by rw [Var.wide_length]; exact Nat.le_refl _)] at hc1
          simp only [Var.wide_length, Nat.sub_self, List.getElem_cons_zero] at hc1
          rw [Var.by_toNat (by omega)] at hc1
          have hand : bits .and .u8 (e8 : Int) 127 = (d : Int) := by
            rw [show (127 : Int) = ((127 : Nat) : Int) from rfl, u8_and_nat e8 127 (by omega) (by omega), Var.and_low e8 (by omega)]
            omega
          have hst := hown1.store M (by simp [Var.wide_length]) (Var.by' d)
          have hbv : byteV (Var.by' d) = .int .u8 (d : Int) := by unfold byteV; rw [Var.by_toNat (by omega)]
          have hset : (Var.wide M u ++ [Var.by' e8]).set M (Var.by' d) = Var.enc k u := by
            rw [hM, Var.enc_wide, ← hd, List.set_append_right _ _ (by rw [Var.wide_length]; exact Nat.le_refl _), Var.wide_length, Nat.sub_self]
            rfl
          rw [hbv, hset] at hst
          have hcv := run_convM (P := Try.prog) 26 9 Try.underlying26 Try.underlying5 Try.underlying9 hst
          have hbl := hb.setCell (p := ⟨w.heap.size, M, none⟩) (Nat.le_refl _) (.int .u8 (d : Int))
          have hsub : IntKind.i64.wrap ((k : Int) - 1) = (M : Int) := by rw [IntWalk.i64_in _ (by omega)]; omega
          have hsub2 : (k : Int) - 1 = (M : Int) := by omega
          have hMk : (M : Int) < (k : Int) := by omega
          clear hst hbv hset hown1 hlast
          have HM := Lib.hid hM
          have Hd := Lib.hid hd
          have He8 := Lib.hid he8
          clear hM hd he8
          go_wp2_with fail
          go_ret
          exact ⟨by unfold padS; rw [if_pos ⟨h1, h2⟩]; rfl, hbl⟩
theorem implPutVar_any (u : Nat) (w : World) (hu : u ≤ 18446744073709551615) :
    Calls Try.prog 7 #[.int .u64 u] w fun e w' => e = .returned (.string (varS u)) ∧ Below w.heap.size w w' := by
  have hlen : (Var.varLen u : Int) ≤ 10 := by have := Var.varLen_64 hu; omega
  have Hp : Hid (padS u (Var.varLen u) = varS u) := Lib.hid (by unfold padS; rw [if_pos ⟨Int.le_refl _, hlen⟩]; rfl)
  go_enter Try.func7, Try.ntmps7
  go_wp2_with fail
  refine (implVarLen_is u _ hu).mono ?_
  rintro e w1 ⟨rfl, rfl⟩
  go_wp2_with fail
  refine (implPadVar_any u _ _ hu).mono ?_
  rintro e w1 ⟨rfl, hb⟩
  rw [Hp.out]
  go_wp2_with fail
  go_ret
  exact ⟨rfl, hb⟩
end Go.Proofs.Ytpkofbdfnbpfpaa.Num
