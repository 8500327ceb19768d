/-
  The walk of the reference's l1Wide: some number of the type uint64; of what was there only the cursor's block is written.
-/
import Derived.Test.YtcnpdcmdnmfnaaaDraw
namespace Go.Proofs.Ytcnpdcmdnmfnaaa.Num
open Go.RowKit Go.Proofs

/-- Some number of the type uint64. -/
def WideP (B g : Nat) (a : Option Addr) (len cap : Nat) (w : World) (e : Ending) (w' : World) : Prop := ∃ u : Nat, u ≤ 18446744073709551615 ∧ e = .returned (.int .u64 u) ∧ Cur w' B g a len cap ∧ Off w.heap.size g w w'
def big64 : Nat := 18446744073709551616
theorem wrap_u64_nat (x : Int) : ∃ u : Nat, u ≤ 18446744073709551615 ∧ IntKind.u64.wrap x = u := ⟨(x % 18446744073709551616).toNat, by omega, by rw [IntKind.wrap_u64]; omega⟩
set_option maxHeartbeats 400000 in
set_option maxRecDepth 100000 in
theorem l1Wide_any (B g : Nat) (a : Option Addr) (len cap : Nat) (w : World) (h : Cur w B g a len cap) (hg : g < w.heap.size) :
    Calls Try.prog 30 #[.pointer (some ⟨g, 0, none⟩)] w (WideP B g a len cap w) := by
  have hgB : B ≤ g := h.choose_spec.choose_spec.1
  have H := Lib.hid h; clear h
  go_enter Try.func30, Try.ntmps30
  go_wp2_with fail
  refine (l1Below_any B g a len cap _ _ H.out (by omega)).mono ?_
  rintro e w1 ⟨r, r0, r1, rfl, hc1, ho1⟩
  clear r1
  have Hc1 := Lib.hid hc1; clear hc1
  have hf1 : Off w.heap.size g w w1 := Only.off ho1 (Nat.le_refl _)
  have hz1 := ho1.size
  clear ho1
  by_cases c0 : r = 0
  · subst c0
    go_wp2_with fail
    refine (l1Below_any B g a len cap _ _ (Hc1.out.other ((Below.refl w1.heap.size _).alloc (Nat.le_refl _) _) (by omega) (by omega)) (by omega)).mono ?_
    rintro e w2 ⟨q, q0, q1, rfl, hc2, ho2⟩
    have hq : q < 12 := q1 (by omega)
    clear q1
    have Hc2 := Lib.hid hc2; clear hc2
    obtain ⟨k, rfl⟩ := Int.eq_ofNat_of_zero_le q0
    have hblk2 := (ho2.block w1.heap.size (by simp) (by intro e; have := Option.some.inj e; omega)).trans (heap_alloc_new w1 _)
    have hf2 : Off w.heap.size g w1 w2 := (Below.off ((Below.refl _ _).alloc (by omega) _)).trans (Only.off ho2 (by simp; omega))
    obtain ⟨z, hz, hcell⟩ : ∃ z : Nat, Hid (z ≤ 18446744073709551615) ∧ w2.cell? ⟨w1.heap.size, k, none⟩ = some (.int .u64 z) := by
      rw [cell_of_row w2 _ k _ _ _ hblk2]
      have hk : k < 12 := by omega
      match k, hk with
      | 0, _ => exact ⟨0, Lib.hid (by omega), rfl⟩
      | 1, _ => exact ⟨1, Lib.hid (by omega), rfl⟩
      | 2, _ => exact ⟨127, Lib.hid (by omega), rfl⟩
      | 3, _ => exact ⟨128, Lib.hid (by omega), rfl⟩
      | 4, _ => exact ⟨16383, Lib.hid (by omega), rfl⟩
      | 5, _ => exact ⟨16384, Lib.hid (by omega), rfl⟩
      | 6, _ => exact ⟨2147483647, Lib.hid (by omega), rfl⟩
      | 7, _ => exact ⟨4294967295, Lib.hid (by omega), rfl⟩
      | 8, _ => exact ⟨4294967296, Lib.hid (by omega), rfl⟩
      | 9, _ => exact ⟨9223372036854775807, Lib.hid (by omega), rfl⟩
      | 10, _ => exact ⟨9223372036854775808, Lib.hid (by omega), rfl⟩
      | 11, _ => exact ⟨18446744073709551615, Lib.hid (by omega), rfl⟩
    clear ho2 hblk2
    go_wp2_with fail
    go_ret
    exact ⟨z, hz.out, rfl, Hc2.out, hf1.trans hf2⟩
  · have n0 : (r == 0) = false := by rw [beq_eq_false_iff_ne]; exact c0
    by_cases c1 : r = 1
    · subst c1
      clear c0 n0
      go_wp2_with fail
      go_loopw [3, 4] (fun x i wr => ∃ (k : Nat) (u : Nat), k ≤ 8 ∧ i = .int .i64 k ∧ x = .int .u64 u ∧ Hid (u ≤ 18446744073709551615) ∧ Hid (Cur wr B g a len cap) ∧ Off w.heap.size g w1 wr ∧ w1.heap.size ≤ wr.heap.size) (fun _ i _ => 8 - (intOf i).toNat)
      case atStart => exact ⟨0, 0, by omega, rfl, rfl, Lib.hid (by omega), Hc1, Off.refl _ _ _, Nat.le_refl _⟩
      case round =>
        obtain ⟨k, u, hk, rfl, rfl, hu, hc, hb, hz⟩ := hrel
        by_cases hlt : (k : Int) < 8
        · go_wp2_with fail
          refine (l1Byte_any B g a len cap _ hc.out).mono ?_
          rintro e w2 ⟨x, x0, x1, rfl, hc2, ho2⟩
          have Hc2 := Lib.hid hc2; clear hc2
          have hf2 : Off w.heap.size g wr w2 := Only.off ho2 (by omega)
          have hz2 := ho2.size
          clear ho2
          go_wp2_with fail
          go_roundw
          case rel =>
            obtain ⟨u', hu', eu⟩ := wrap_u64_nat (IntKind.u64.wrap (256 * (u : Int)) + x)
            exact ⟨k + 1, u', by omega, by go_num, by rw [eu], Lib.hid hu', Hc2, hb.trans hf2, by omega⟩
          case measure => simp [intOf]; omega
        · go_wp2_with fail
          go_ret
          exact ⟨u, hu.out, rfl, hc.out, hf1.trans hb⟩
    · have n1 : (r == 1) = false := by rw [beq_eq_false_iff_ne]; exact c1
      clear c0 c1
      go_wp2_with fail
      refine (l1Below_any B g a len cap _ _ Hc1.out (by omega)).mono ?_
      rintro e w2 ⟨q, q0, q1, rfl, hc2, ho2⟩
      have hq : q < 300 := q1 (by omega)
      have hf2 : Off w.heap.size g w1 w2 := Only.off ho2 (by omega)
      have Hc2 := Lib.hid hc2
      clear ho2 hc2 q1
      obtain ⟨k, rfl⟩ := Int.eq_ofNat_of_zero_le q0
      go_wp2_with fail
      go_ret
      exact ⟨k, by omega, rfl, Hc2.out, hf1.trans hf2⟩
end Go.Proofs.Ytcnpdcmdnmfnaaa.Num
