/-
  The walks of impl.Hex and spec.Hex: both give two lower-case hexadecimal digits for each byte; only new memory is written.
-/
import Derived.Test.YtofeefkhelibpaaBytes
import Derived.Test.YtofeefkhelibpaaNumWalk
import Derived.Deep.RegionLaw
import Derived.Deep.DrawnRows
namespace Go.Proofs.Ytofeefkhelibpaa.Num
open Go.RowKit Go.Proofs
attribute [local go_sem ↓] Go.wp_at_zero Go.wp_at_succ

def hd (n : Nat) : UInt8 := UInt8.ofNat (if n < 10 then 48 + n else 87 + n)
def hexL (l : List UInt8) : List UInt8 := l.flatMap fun b => [hd (b.toNat / 16), hd (b.toNat % 16)]

theorem info_u8 : (Try.prog.info? 5).map (fun i => (i.zero, i.size, i.bytes)) = some (some (.int .u8 0), 1, 1) := by kernel_rfl
theorem hd_toNat (n : Nat) (h : n < 16) : (hd n).toNat = if n < 10 then 48 + n else 87 + n := by
  unfold hd; rw [ofNat_toNat]; split <;> omega
theorem l1Hex_any (n : Int) (w : World) (h0 : 0 ≤ n) (h : n < 16) :
    Calls Try.prog 29 #[.int .u8 n] w fun e w' => e = .returned (.int .u8 ((hd n.toNat).toNat : Int)) ∧ w = w' := by
  have hv : Hid (((hd n.toNat).toNat : Int) = if n < 10 then n + 48 else n - 10 + 97) := Lib.hid (by rw [hd_toNat _ (by omega)]; split <;> split <;> omega)
  by_cases h1 : n < 10
  · go_enter Try.func29, Try.ntmps29
    go_wp2_with fail
    go_ret
    exact ⟨by rw [hv.out, if_pos h1]; rfl, rfl⟩
  · go_enter Try.func29, Try.ntmps29
    go_wp2_with fail
    go_ret
    exact ⟨by rw [hv.out, if_neg (by omega)]; rfl, rfl⟩

theorem hexL_length (l : List UInt8) : (hexL l).length = 2 * l.length := by
  induction l with
  | nil => rfl
  | cons b l ih => simp only [hexL, List.flatMap_cons, List.length_append, List.length_cons, List.length_nil] at ih ⊢; omega
theorem hexL_snoc (l : List UInt8) (b : UInt8) : hexL (l ++ [b]) = hexL l ++ [hd (b.toNat / 16), hd (b.toNat % 16)] := by simp [hexL]

set_option maxHeartbeats 800000 in
theorem specHex_any (s : ByteArray) (w : World) (hs : s.size ≤ 1048576) :
    Calls Try.prog 16 #[.string s] w fun e w' => e = .returned (.string ⟨(hexL s.data.toList).toArray⟩) ∧ Below w.heap.size w w' := by
  obtain ⟨i0, hi, hz0, hz1, hz2⟩ := info_parts info_u8
  go_enter Try.func16, Try.ntmps16
  go_wp2_with fail
  go_loopw [3, 4] (fun v i wr => ∃ k : Nat, k ≤ s.size ∧ i = .int .i64 k ∧ OwnB wr w.heap.size 5 v (hexL (s.data.toList.take k)) ∧ Below w.heap.size w wr) (fun _ i _ => s.size - (intOf i).toNat)
  case atStart => exact ⟨0, Nat.zero_le _, rfl, OwnB.empty (Nat.le_refl _), (Below.refl _ _).alloc (Nat.le_refl _) _⟩
  case round =>
    obtain ⟨k, hk, rfl, hown, hb⟩ := hrel
    by_cases hlt : k < s.size
    · have hlen : (hexL (s.data.toList.take k)).length + 2 ≤ 140737488355328 := by rw [hexL_length]; simp; omega
      have Hts : Hid (hexL (s.data.toList.take (k + 1)) = hexL (s.data.toList.take k) ++ [hd (s[k].toNat / 16), hd (s[k].toNat % 16)]) := Lib.hid (by rw [take_snoc s k hlt, hexL_snoc])
      have hc : s[k].toNat < 256 := s[k].toNat_lt
      have hsz := hb.size
      have hw1 : IntKind.u8.wrap ((s[k].toNat : Int) / 16) = (s[k].toNat : Int) / 16 := IntWalk.u8_in _ (by omega)
      have hw2 : ((s[k].toNat : Int)).tmod 16 = (s[k].toNat : Int) % 16 := Int.tmod_eq_emod_of_nonneg (by omega)
      go_wp2_with fail
      go_region_law (first | (refine step_appB (by rfl) _ _ 22 (by rfl) w.heap.size 5 i0 Try.underlying22 hi hz0 hz1 hz2 u3 _ (by rfl) (hown.alloc _) wr.heap.size _ (0, 0) (heap_alloc_new _ _) 2 2 (by rfl) [hd (s[k].toNat / 16), hd (s[k].toNat % 16)] (by rfl) (by rfl) (by omega) hlen (by simp; omega) ?_; intro v' w1 hown1 hb1) | (go_simp; go_at_call 29; refine (l1Hex_any _ _ (by omega) (by omega)).mono ?_; rintro e w' ⟨rfl, rfl⟩))
      all_goals
        have hown2 : OwnB w1 w.heap.size 5 v' (hexL (s.data.toList.take (k + 1))) := by rw [Hts.out]; exact hown1
        clear hown1 hown
        go_wp2_with fail
        go_roundw
        case rel => exact ⟨k + 1, by omega, by go_num, hown2, ((hb.alloc hb.size _).drew).trans hb1⟩
        case measure => simp [intOf]; omega
    · have hcv := fun w1 => run_convB (P := Try.prog) (w := w1) (B := w.heap.size) (v := u3) (l := hexL (s.data.toList.take k)) 22 9 Try.underlying22 Try.underlying5 Try.underlying9
      have hcv1 := hcv wr hown
      clear hcv
      have E2 : Hid (s.data.toList.take k = s.data.toList) := Lib.hid (List.take_of_length_le (by simp; omega))
      go_wp2_with fail
      go_ret
      exact ⟨by rw [E2.out]; rfl, hb⟩
def hexDigits : ByteArray := ⟨#[48, 49, 50, 51, 52, 53, 54, 55, 56, 57, 97, 98, 99, 100, 101, 102]⟩
theorem constAt : ∀ n : Fin 16, hexDigits[n.val]'(n.isLt) = hd n.val := by decide +kernel
theorem and15 (c : UInt8) : bits BinOp.and IntKind.u8 (c.toNat : Int) 15 = (c.toNat : Int) % 16 := by
  have h : ∀ n : Fin 256, bits BinOp.and IntKind.u8 (n.val : Int) 15 = (n.val : Int) % 16 := by decide +kernel
  exact h ⟨c.toNat, c.toNat_lt⟩
theorem constAt' (x : Int) (n : Nat) (hx : x = n) (h : n < 16) (h2 : x.toNat < 16) : (ByteArray.mk #[48, 49, 50, 51, 52, 53, 54, 55, 56, 57, 97, 98, 99, 100, 101, 102])[x.toNat]'(h2) = hd n := by
  subst hx
  exact constAt ⟨n, h⟩

set_option maxHeartbeats 800000 in
theorem implHex_any (s : ByteArray) (w : World) (hs : s.size ≤ 1048576) :
    Calls Try.prog 10 #[.string s] w fun e w' => e = .returned (.string ⟨(hexL s.data.toList).toArray⟩) ∧ Below w.heap.size w w' := by
  obtain ⟨i0, hi, hz0, hz1, hz2⟩ := info_parts info_u8
  have hn : ((2 * s.size : Nat) : Int) = 2 * (s.size : Int) := by omega
  have Hn := Lib.hid hn; clear hn
  go_enter Try.func10, Try.ntmps10
  go_wp2_with (at_make; refine wpList_makeB rfl _ _ 22 rfl w.heap.size 5 i0 Try.underlying22 hi hz0 hz1 hz2 _ (2 * s.size) rfl rfl Hn.out.symm (by omega) (Nat.le_refl _) ?_; intro v0 w0 hown0 hb0)
  go_loopw [3, 11] (fun v i wr => ∃ k : Nat, k ≤ s.size ∧ i = .int .i64 k ∧ OwnB wr w.heap.size 5 v (hexL (s.data.toList.take k)) ∧ Below w.heap.size w wr) (fun _ i _ => s.size - (intOf i).toNat)
  case atStart => exact ⟨0, Nat.zero_le _, rfl, hown0, hb0⟩
  case round =>
    obtain ⟨k, hk, rfl, hown, hb⟩ := hrel
    by_cases hlt : k < s.size
    · have hlen : (hexL (s.data.toList.take k)).length + 2 ≤ 140737488355328 := by rw [hexL_length]; simp; omega
      have Hts : Hid (hexL (s.data.toList.take (k + 1)) = hexL (s.data.toList.take k) ++ [hd (s[k].toNat / 16), hd (s[k].toNat % 16)]) := Lib.hid (by rw [take_snoc s k hlt, hexL_snoc])
      have hc : s[k].toNat < 256 := s[k].toNat_lt
      have hsz := hb.size
      have hand := and15 s[k]
      have hq1 : 0 ≤ (s[k].toNat : Int) / 16 := by omega
      have hq2 : (s[k].toNat : Int) / 16 < 16 := by omega
      have hr1 : 0 ≤ (s[k].toNat : Int) % 16 := by omega
      have hr2 : (s[k].toNat : Int) % 16 < 16 := by omega
      have hk1 := constAt' ((s[k].toNat : Int) / 16) (s[k].toNat / 16) (by omega) (by omega) (by omega)
      have hk2 := constAt' ((s[k].toNat : Int) % 16) (s[k].toNat % 16) (by omega) (by omega) (by omega)
      go_wp2_with fail
      go_region_law (refine step_appB (by rfl) _ _ 22 (by rfl) w.heap.size 5 i0 Try.underlying22 hi hz0 hz1 hz2 u3 _ (by rfl) (hown.alloc _) wr.heap.size _ (0, 0) (heap_alloc_new _ _) 2 2 (by rfl) [hd (s[k].toNat / 16), hd (s[k].toNat % 16)] (by rfl) (by rfl) (by omega) hlen (by simp; omega) ?_; intro v' w1 hown1 hb1)
      all_goals
        have hown2 : OwnB w1 w.heap.size 5 v' (hexL (s.data.toList.take (k + 1))) := by rw [Hts.out]; exact hown1
        clear hown1 hown hk1 hk2 hq1 hq2 hr1 hr2
        go_wp2_with fail
        go_roundw
        case rel => exact ⟨k + 1, by omega, by go_num, hown2, ((hb.alloc hb.size _).drew).trans hb1⟩
        case measure => simp [intOf]; omega
    · have hcv1 := run_convB (P := Try.prog) (w := wr) (B := w.heap.size) (v := u3) (l := hexL (s.data.toList.take k)) 22 9 Try.underlying22 Try.underlying5 Try.underlying9 hown
      have E2 : Hid (s.data.toList.take k = s.data.toList) := Lib.hid (List.take_of_length_le (by simp; omega))
      go_wp2_with fail
      go_ret
      exact ⟨by rw [E2.out]; rfl, hb⟩
end Go.Proofs.Ytofeefkhelibpaa.Num
