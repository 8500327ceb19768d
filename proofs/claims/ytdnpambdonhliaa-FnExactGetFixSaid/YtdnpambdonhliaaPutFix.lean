/-
  The walks of PutFix, the reference's and the program's: they give the little-endian bytes; only new memory is written.
-/
import Derived.Test.YtdnpambdonhliaaFixMath
import Derived.Test.YtdnpambdonhliaaVar
import Derived.Test.YtdnpambdonhliaaDraw
import Derived.Deep.OwnRows
namespace Go.Proofs.Ytdnpambdonhliaa.Num
open Go.RowKit Go.Proofs
set_option linter.unusedVariables false

def fixW (n : Int) : Bool := decide (n = 4 ∨ n = 8)
/-- u in so many bytes, or nothing. -/
def fixS (u : Nat) (n : Int) : ByteArray := if (n = 4 ∨ n = 8) ∧ u < 256 ^ n.toNat then ⟨(Fix.leb n.toNat u).toArray⟩ else ⟨#[]⟩
theorem fixS_no {u : Nat} {n : Int} (h : ¬ ((n = 4 ∨ n = 8) ∧ u < 256 ^ n.toNat)) : fixS u n = ⟨#[]⟩ := by unfold fixS; rw [if_neg h]
theorem fixS_yes {u : Nat} {n : Int} (h : (n = 4 ∨ n = 8) ∧ u < 256 ^ n.toNat) : fixS u n = ⟨(Fix.leb n.toNat u).toArray⟩ := by unfold fixS; rw [if_pos h]
set_option maxHeartbeats 1000000 in
/-- The loop, at a width that is right. -/
theorem specPutFix_in (u N : Nat) (w : World) (hu : u ≤ 18446744073709551615) (hN : N = 4 ∨ N = 8) (hlt : u < 256 ^ N) :
    Calls Try.prog 28 #[.int .u64 u, .int .i64 N] w fun e w' => e = .returned (.string ⟨(Fix.leb N u).toArray⟩) ∧ Below w.heap.size w w' := by
  obtain ⟨i0, hi, hz0, hz1, hz2⟩ := info_parts info_u8v
  have Hlt := Lib.hid hlt; clear hlt
  have HN := Lib.hid hN
  have hN8 : N ≤ 8 := by omega
  have Hcase : Hid (((((N : Int) == 4) = false ∧ ((N : Int) != 4) = true) ∧ (((N : Int) == 8) = true ∧ ((N : Int) != 8) = false)) ∨ ((((N : Int) == 4) = true ∧ ((N : Int) != 4) = false) ∧ decide ((4294967295 : Int) < (u : Int)) = false)) := Lib.hid (by
    rcases hN with rfl | rfl
    · exact .inr ⟨⟨rfl, rfl⟩, decide_eq_false (by have := Hlt.out; omega)⟩
    · exact .inl ⟨⟨rfl, rfl⟩, rfl, rfl⟩)
  clear hN
  rcases Hcase.out with ⟨⟨h4, h4n⟩, h8, h8n⟩ | ⟨⟨h4, h4n⟩, h5⟩
  all_goals
    go_enter Try.func28, Try.ntmps28
    go_wp2_with fail
    clear Hcase
    go_loopw [0, 5, 6] (fun x v i wr => ∃ (k X : Nat) (l : List UInt8), k ≤ N ∧ i = .int .i64 k ∧ x = .int .u64 X ∧ X ≤ 18446744073709551615 ∧ OwnB wr w.heap.size 5 v l ∧ Hid (Fix.leb N u = l ++ Fix.leb (N - k) X) ∧ l.length = k ∧ Below w.heap.size w wr) (fun _ _ i _ => N - (intOf i).toNat)
    case atStart => exact ⟨0, u, [], by omega, rfl, rfl, hu, OwnB.empty (Nat.le_refl _), Lib.hid (by simp), rfl, (Below.refl _ _).alloc (Nat.le_refl _) _⟩
    case round =>
      obtain ⟨k, X, l, hkN, rfl, rfl, hX, hown, hput, hl, hb⟩ := hrel
      have hsz := hb.size
      have Hl := Lib.hid hl
      have hl8 : l.length ≤ 8 := by omega
      clear hl
      by_cases hlt : k < N
      · have hlti : (k : Int) < (N : Int) := by omega
        have hw : IntKind.u8.wrap ((X : Int) % 256) = (X : Int) % 256 := IntWalk.u8_in _ (by omega)
        have hbv : [Value.int .u8 ((X : Int) % 256)] = [Var.by' (X % 256)].map byteV := by simp only [List.map_cons, List.map_nil, byteV]; rw [Var.by_toNat (by omega)]; rfl
        have Hbv := Lib.hid hbv; clear hbv
        go_wp2_with (at_builtin; refine wpList_appB rfl _ _ 22 rfl w.heap.size 5 i0 Try.underlying22 hi hz0 hz1 hz2 _ l rfl (hown.alloc _) wr.heap.size _ (0, 0) (heap_alloc_new _ _) 1 1 rfl _ Hbv.out rfl (by omega) (by omega) (by simp; omega) ?_; intro v' w2 hown2 hb2)
        have Hp : Hid (Fix.leb N u = (l ++ [Var.by' (X % 256)]) ++ Fix.leb (N - (k + 1)) (X / 256)) := Lib.hid (by rw [hput.out, show N - k = (N - (k + 1)) + 1 by omega, List.append_assoc]; rfl)
        have hb3 : Below w.heap.size wr w2 := ((Below.refl _ _).alloc hsz _).trans hb2
        go_wp2_with fail
        exact ⟨⟨k + 1, X / 256, _, by omega, by go_num, by go_num, by omega, hown2, Hp, by rw [List.length_append, Hl.out]; rfl, hb.trans hb3⟩, by simp [intOf]; omega⟩
      · have hkN2 : Hid (k = N) := Lib.hid (by omega)
        have hend : decide (k < N) = false := decide_eq_false hlt
        have hge : (N : Int) ≤ (k : Int) := by omega
        have hcv := run_convB (P := Try.prog) 22 9 Try.underlying22 Try.underlying5 Try.underlying9 hown
        go_wp2_with fail
        go_ret
        exact ⟨by rw [hput.out, hkN2.out, Nat.sub_self]; simp [Fix.leb], hb⟩
theorem specPutFix_any (u : Nat) (n : Int) (w : World) (hu : u ≤ 18446744073709551615) :
    Calls Try.prog 28 #[.int .u64 u, .int .i64 n] w fun e w' => e = .returned (.string (fixS u n)) ∧ Below w.heap.size w w' := by
  by_cases hin : (n = 4 ∨ n = 8) ∧ u < 256 ^ n.toNat
  · obtain ⟨N, rfl⟩ := Int.eq_ofNat_of_zero_le (show 0 ≤ n by omega)
    rw [fixS_yes hin, Int.toNat_natCast]
    exact specPutFix_in u N w hu (by omega) (by simpa using hin.2)
  · rw [fixS_no hin]
    by_cases h4 : n = 4
    · subst h4
      have hlt : (4294967295 : Int) < (u : Int) := by
        by_cases h : u < 256 ^ (4 : Int).toNat
        · exact absurd ⟨.inl rfl, h⟩ hin
        · have e : (256 : Nat) ^ (4 : Int).toNat = 4294967296 := rfl
          rw [e] at h; omega
      clear hin
      go_enter Try.func28, Try.ntmps28
      go_wp2_with fail
      go_ret
      exact ⟨rfl, Below.refl _ _⟩
    · by_cases h8 : n = 8
      · subst h8
        exfalso; apply hin
        refine ⟨.inr rfl, ?_⟩
        have e : (256 : Nat) ^ (8 : Int).toNat = 18446744073709551616 := rfl
        rw [e]; omega
      · have h4b : (n == 4) = false := by rw [beq_eq_false_iff_ne]; exact h4
        have h8b : (n == 8) = false := by rw [beq_eq_false_iff_ne]; exact h8
        have h4c : (n != 4) = true := by simpa using h4
        have h8c : (n != 8) = true := by simpa using h8
        clear hin h4 h8
        go_enter Try.func28, Try.ntmps28
        go_wp2_with fail
        go_ret
        exact ⟨rfl, Below.refl _ _⟩
theorem implWidth_yes (n : Int) (hn : n = 4 ∨ n = 8) (w : World) : Calls Try.prog 50 #[.int .i64 n] w fun e w' => e = .returned (.bool true) ∧ w = w' := by
  rcases hn with rfl | rfl
  all_goals
    go_enter Try.func50, Try.ntmps50
    go_wp2_with fail
    go_ret
    exact ⟨rfl, rfl⟩
theorem implWidth_no (n : Int) (hn : ¬ (n = 4 ∨ n = 8)) (w : World) : Calls Try.prog 50 #[.int .i64 n] w fun e w' => e = .returned (.bool false) ∧ w = w' := by
  have h4b : (n == 4) = false := by rw [beq_eq_false_iff_ne]; omega
  have h8b : (n == 8) = false := by rw [beq_eq_false_iff_ne]; omega
  clear hn
  go_enter Try.func50, Try.ntmps50
  go_wp2_with fail
  go_ret
  exact ⟨rfl, rfl⟩
theorem freshF' {w : World} {b : Nat} {C : Array Value} {T : TypeId} (h : w.heap[b]? = some (.cells C T (0, 0))) (j : Nat) : w.frozen? ⟨b, j, none⟩ = false := by simp [World.frozen?, h]
set_option maxHeartbeats 1000000 in
theorem implPutFix_any (u : Nat) (n : Int) (w : World) (hu : u ≤ 18446744073709551615) :
    Calls Try.prog 27 #[.int .u64 u, .int .i64 n] w fun e w' => e = .returned (.string (fixS u n)) ∧ Below w.heap.size w w' := by
  obtain ⟨i0, hi, hz0, hz1, hz2⟩ := info_parts info_u8v
  by_cases hn : n = 4 ∨ n = 8
  · obtain ⟨N, rfl⟩ := Int.eq_ofNat_of_zero_le (show 0 ≤ n by omega)
    have Hn := Lib.hid hn
    have hN8 : N ≤ 8 := by omega
    clear hn
    by_cases hlt : u < 256 ^ N
    · have hdz : Hid (u / 256 ^ N = 0) := Lib.hid (Fix.div_lt_pow.2 hlt)
      have Hlt := Lib.hid hlt; clear hlt
      have hyes : Hid (fixS u (N : Int) = ⟨(Fix.leb N u).toArray⟩) := Lib.hid (by rw [fixS_yes ⟨Hn.out, by simpa using Hlt.out⟩, Int.toNat_natCast])
      rw [hyes.out]
      go_enter Try.func27, Try.ntmps27
      go_wp2_with fail
      refine (implWidth_yes _ Hn.out _).mono ?_
      rintro e w1 ⟨rfl, rfl⟩
      have hsh : ((u : Int) / 2 ^ (8 * N) != 0) = false := by
        have e : (u : Int) / 2 ^ (8 * N) = ((u / 256 ^ N : Nat) : Int) := by rw [← Fix.pow_256]; simp
        rw [e, hdz.out]; rfl
      go_wp2_with (at_make; refine wpList_make_row _ rfl _ _ 22 rfl 5 i0 _ Try.underlying22 hi hz0 hz1 rfl .i64 .i64 N rfl rfl (by rw [hz2]; omega) (by omega) ?_)
      have hown0 : OwnM (w.alloc (.cells (madeCells #[Value.int .u8 0] N) 5)) w.heap.size (.slice (some ⟨w.heap.size, 0, none⟩) N N) (Fix.leb 0 u ++ List.replicate (N - 0) 0) := by
        have h := OwnM.of_cells (l := List.replicate N (0 : UInt8)) (cap := N) (heap_alloc_new w (.cells (madeCells #[Value.int .u8 0] N) 5)) (Nat.le_refl _) (by simp) (by rw [size_madeCells]; exact Nat.le_refl _) (fun j hj => by
          have hl := toList_madeCells_one (Value.int .u8 0) N
          rw [← Array.getElem?_toList, hl, List.getElem?_replicate]
          simp only [List.length_replicate] at hj
          rw [if_pos hj]; simp [byteV]) (fun j hj => freshF' (heap_alloc_new w _) j)
        rw [List.length_replicate] at h
        simpa [Fix.leb] using h
      have Hown0 := Lib.hid hown0; clear hown0
      go_loopw [21] (fun i wr => ∃ k : Nat, k ≤ N ∧ i = .int .i64 k ∧ Hid (OwnM wr w.heap.size (.slice (some ⟨w.heap.size, 0, none⟩) N N) (Fix.leb k u ++ List.replicate (N - k) 0)) ∧ Below w.heap.size w wr) (fun i _ => N - (intOf i).toNat)
      case atStart => exact ⟨0, by omega, rfl, Hown0, (Below.refl _ _).alloc (Nat.le_refl _) _⟩
      case round =>
        obtain ⟨k, hkN, rfl, hown, hb⟩ := hrel
        clear Hown0 hsh
        by_cases hk : k < N
        · have hki : (k : Int) < (N : Int) := by omega
          obtain ⟨d, hd⟩ : ∃ d : Nat, d = u / 256 ^ k % 256 := ⟨_, rfl⟩
          have hd8 : d < 256 := by omega
          have hcv : IntKind.u8.wrap ((u : Int) / 2 ^ (8 * k)) = (d : Int) := by
            have e : (u : Int) / 2 ^ (8 * k) = ((u / 256 ^ k : Nat) : Int) := by rw [← Fix.pow_256]; simp
            rw [e, IntKind.wrap_u8']; omega
          obtain ⟨hc1, hc2⟩ := hown.out.cell k (by simp [Fix.leb_length]; omega)
          have hst := hown.out.store k (by simp [Fix.leb_length]; omega) (Var.by' d)
          have hbv : byteV (Var.by' d) = .int .u8 (d : Int) := by unfold byteV; rw [Var.by_toNat (by omega)]
          have hset : (Fix.leb k u ++ List.replicate (N - k) 0).set k (Var.by' d) = Fix.leb (k + 1) u ++ List.replicate (N - (k + 1)) 0 := by
            rw [Fix.leb_snoc, ← hd, List.set_append_right _ _ (by rw [Fix.leb_length]; exact Nat.le_refl _), Fix.leb_length, Nat.sub_self, show N - k = (N - (k + 1)) + 1 by omega, List.replicate_succ]
            simp
          rw [hbv, hset] at hst
          have Hst := Lib.hid hst
          have hbl := hb.setCell (p := ⟨w.heap.size, k, none⟩) (Nat.le_refl _) (.int .u8 (d : Int))
          clear hst hbv hset hd
          go_wp2_with fail
          exact ⟨⟨k + 1, by omega, by go_num, Hst, hbl⟩, by simp [intOf]; omega⟩
        · have hkN2 : Hid (k = N) := Lib.hid (by omega)
          have hend : decide (k < N) = false := decide_eq_false hk
          have hge : (N : Int) ≤ (k : Int) := by omega
          have hcv := run_convM (P := Try.prog) 22 9 Try.underlying22 Try.underlying5 Try.underlying9 hown.out
          go_wp2_with fail
          go_ret
          exact ⟨by rw [hkN2.out, Nat.sub_self, List.replicate_zero, List.append_nil]; rfl, hb⟩
    · have Hlt := Lib.hid hlt
      rw [fixS_no (by rw [Int.toNat_natCast]; exact fun h => Hlt.out h.2)]
      have hsh : ((u : Int) / 2 ^ (8 * N) != 0) = true := by
        have e : (u : Int) / 2 ^ (8 * N) = ((u / 256 ^ N : Nat) : Int) := by rw [← Fix.pow_256]; simp
        have h0 : u / 256 ^ N ≠ 0 := fun h => hlt (Fix.div_lt_pow.1 h)
        rw [e]; generalize u / 256 ^ N = q at h0; simpa using h0
      clear hlt
      go_enter Try.func27, Try.ntmps27
      go_wp2_with fail
      refine (implWidth_yes _ Hn.out _).mono ?_
      rintro e w1 ⟨rfl, rfl⟩
      go_wp2_with fail
      go_ret
      exact ⟨rfl, Below.refl _ _⟩
  · have Hn := Lib.hid hn; clear hn
    rw [fixS_no (fun h => Hn.out h.1)]
    go_enter Try.func27, Try.ntmps27
    go_wp2_with fail
    refine (implWidth_no _ Hn.out _).mono ?_
    rintro e w1 ⟨rfl, rfl⟩
    go_wp2_with fail
    go_ret
    exact ⟨rfl, Below.refl _ _⟩
end Go.Proofs.Ytdnpambdonhliaa.Num
