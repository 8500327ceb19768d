/-
  The walk of the program's PutFix: it gives the plain bytes; only new memory is written.
-/
import Derived.Test.YtigclegcemmijaaFixS
import Derived.Test.YtigclegcemmijaaOwnM
import Derived.Test.YtigclegcemmijaaDraw
import Derived.Test.YtigclegcemmijaaProg
import Derived.WalkLawsBesides
import Derived.WalkSpells
import Derived.LoopTactic
import Derived.Deep.OwnRows
namespace Go.Proofs.Ytigclegcemmijaa.Num
open Go.RowKit Go.Proofs
set_option linter.unusedVariables false

theorem info_u8p : (Try.prog.info? 5).map (fun i => (i.zero, i.size, i.bytes)) = some (some (.int .u8 0), 1, 1) := by kernel_rfl
theorem implWidth_yes (n : Int) (hn : n = 4 ∨ n = 8) (w : World) : Calls Try.prog 31 #[.int .i64 n] w fun e w' => e = .returned (.bool true) ∧ w = w' := by
  rcases hn with rfl | rfl
  all_goals
    go_enter Try.func31, Try.ntmps31
    go_wp2_with fail
    go_ret
    exact ⟨rfl, rfl⟩
theorem implWidth_no (n : Int) (hn : ¬ (n = 4 ∨ n = 8)) (w : World) : Calls Try.prog 31 #[.int .i64 n] w fun e w' => e = .returned (.bool false) ∧ w = w' := by
  have h4b : (n == 4) = false := by rw [beq_eq_false_iff_ne]; omega
  have h8b : (n == 8) = false := by rw [beq_eq_false_iff_ne]; omega
  clear hn
  go_enter Try.func31, Try.ntmps31
  go_wp2_with fail
  go_ret
  exact ⟨rfl, rfl⟩
theorem freshF' {w : World} {b : Nat} {C : Array Value} {T : TypeId} (h : w.heap[b]? = some (.cells C T (0, 0))) (j : Nat) : w.frozen? ⟨b, j, none⟩ = false := by simp [World.frozen?, h]
set_option maxHeartbeats 1000000 in
theorem implPutFix_any (u : Nat) (n : Int) (w : World) (hu : u ≤ 18446744073709551615) :
    Calls Try.prog 18 #[.int .u64 u, .int .i64 n] w fun e w' => e = .returned (.string (fixS u n)) ∧ Below w.heap.size w w' := by
  obtain ⟨i0, hi, hz0, hz1, hz2⟩ := info_parts info_u8p
  by_cases hn : n = 4 ∨ n = 8
  · obtain ⟨N, rfl⟩ := Int.eq_ofNat_of_zero_le (show 0 ≤ n by omega)
    have Hn := Lib.hid hn
    have hN8 : N ≤ 8 := by omega
    clear hn
    by_cases hlt : u < 256 ^ N
    · have hdz : Hid (u / 256 ^ N = 0) := Lib.hid (Fix.div_lt_pow.2 hlt)
      have Hlt := Lib.hid hlt; clear hlt
      have hyes : Hid (fixS u (N : Int) = ⟨(Fix.leb N u).toArray⟩) := Lib.hid (by rw [fixS_yes ⟨Hn.out, by simpa using Hlt.out⟩, Int.toNat_natCast])
      rw [hyes.out]
      go_enter Try.func18, Try.ntmps18
      go_wp2_with fail
      refine (implWidth_yes _ Hn.out _).mono ?_
      rintro e w1 ⟨rfl, rfl⟩
      have hsh : ((u : Int) / 2 ^ (8 * N) != 0) = false := by
        have e : (u : Int) / 2 ^ (8 * N) = ((u / 256 ^ N : Nat) : Int) := by rw [← Fix.pow_256]; simp
        rw [e, hdz.out]; rfl
      go_wp2_with (at_make; refine wpList_make_row _ rfl _ _ 22 rfl 5 i0 _ Try.underlying22 hi hz0 hz1 rfl .i64 .i64 N rfl rfl (by rw [hz2]; omega) (by omega) ?_)
      have hown0 : OwnM (w.alloc (.cells (madeCells #[Value.int .u8 0] N) 5)) w.heap.size (.slice (some ⟨w.heap.size, 0, none⟩) N N) (Fix.leb 0 u ++ List.replicate (N - 0) 0) := by
        have h := OwnM.of_cells (l := List.replicate N (0 : UInt8)) (cap := N) (heap_alloc_new w (.cells (madeCells #[Value.int .u8 0] N) 5)) (Nat.le_refl _) (by simp) (by rw [size_madeCells]; exact Nat.le_refl _) (fun j hj => by
          have hl := toList_madeCells_one (Value.int .u8 0) N
          rw [← Array.getElem?_toList, hl, List.getElem?_replicate]
          simp only [List.length_replicate] at hj
          rw [if_pos hj]; simp [byteV]) (fun j hj => freshF' (heap_alloc_new w _) j)
        rw [List.length_replicate] at h
        simpa [Fix.leb] using h
      have Hown0 := Lib.hid hown0; clear hown0
      go_loopw [21] (fun i wr => ∃ k : Nat, k ≤ N ∧ i = .int .i64 k ∧ Hid (OwnM wr w.heap.size (.slice (some ⟨w.heap.size, 0, none⟩) N N) (Fix.leb k u ++ List.replicate (N - k) 0)) ∧ Below w.heap.size w wr) (fun i _ => N - (intOf i).toNat)
      case atStart => exact ⟨0, by omega, rfl, Hown0, (Below.refl _ _).alloc (Nat.le_refl _) _⟩
      case round =>
        obtain ⟨k, hkN, rfl, hown, hb⟩ := hrel
        clear Hown0 hsh
        by_cases hk : k < N
        · have hki : (k : Int) < (N : Int) := by omega
          obtain ⟨d, hd⟩ : ∃ d : Nat, d = u / 256 ^ k % 256 := ⟨_, rfl⟩
          have hd8 : d < 256 := by omega
          have hcv : IntKind.u8.wrap ((u : Int) / 2 ^ (8 * k)) = (d : Int) := by
            have e : (u : Int) / 2 ^ (8 * k) = ((u / 256 ^ k : Nat) : Int) := by rw [← Fix.pow_256]; simp
            rw [e, IntKind.wrap_u8']; omega
          obtain ⟨hc1, hc2⟩ := hown.out.cell k (by simp [Fix.leb_length]; omega)
          have hst := hown.out.store k (by simp [Fix.leb_length]; omega) (Var.by' d)
          have hbv : byteV (Var.by' d) = .int .u8 (d : Int) := by unfold byteV; rw [Var.by_toNat (by omega)]
          have hset : (Fix.leb k u ++ List.replicate (N - k) 0).set k (Var.by' d) = Fix.leb (k + 1) u ++ List.replicate (N - (k + 1)) 0 := by
            rw [Fix.leb_snoc, ← hd, List.set_append_right _ _ (by rw [Fix.leb_length]; exact Nat.le_refl _), Fix.leb_length, Nat.sub_self, show N - k = (N - (k + 1)) + 1 by omega, List.replicate_succ]
            simp
          rw [hbv, hset] at hst
          have Hst := Lib.hid hst
          have hbl := hb.setCell (p := ⟨w.heap.size, k, none⟩) (Nat.le_refl _) (.int .u8 (d : Int))
          clear hst hbv hset hd
          go_wp2_with fail
          exact ⟨⟨k + 1, by omega, by go_num, Hst, hbl⟩, by simp [intOf]; omega⟩
        · have hkN2 : Hid (k = N) := Lib.hid (by omega)
          have hend : decide (k < N) = false := decide_eq_false hk
          have hge : (N : Int) ≤ (k : Int) := by omega
          have hcv := run_convM (P := Try.prog) 22 9 Try.underlying22 Try.underlying5 Try.underlying9 hown.out
          go_wp2_with fail
          go_ret
          exact ⟨by rw [hkN2.out, Nat.sub_self, List.replicate_zero, List.append_nil]; rfl, hb⟩
    · have Hlt := Lib.hid hlt
      rw [fixS_no (by rw [Int.toNat_natCast]; exact fun h => Hlt.out h.2)]
      have hsh : ((u : Int) / 2 ^ (8 * N) != 0) = true := by
        have e : (u : Int) / 2 ^ (8 * N) = ((u / 256 ^ N : Nat) : Int) := by rw [← Fix.pow_256]; simp
        have h0 : u / 256 ^ N ≠ 0 := fun h => hlt (Fix.div_lt_pow.1 h)
        rw [e]; generalize u / 256 ^ N = q at h0; simpa using h0
      clear hlt
      go_enter Try.func18, Try.ntmps18
      go_wp2_with fail
      refine (implWidth_yes _ Hn.out _).mono ?_
      rintro e w1 ⟨rfl, rfl⟩
      go_wp2_with fail
      go_ret
      exact ⟨rfl, Below.refl _ _⟩
  · have Hn := Lib.hid hn; clear hn
    rw [fixS_no (fun h => Hn.out h.1)]
    go_enter Try.func18, Try.ntmps18
    go_wp2_with fail
    refine (implWidth_no _ Hn.out _).mono ?_
    rintro e w1 ⟨rfl, rfl⟩
    go_wp2_with fail
    go_ret
    exact ⟨rfl, Below.refl _ _⟩
end Go.Proofs.Ytigclegcemmijaa.Num
