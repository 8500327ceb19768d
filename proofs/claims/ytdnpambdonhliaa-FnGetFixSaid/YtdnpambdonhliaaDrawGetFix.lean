/-
  The walk of the reference's DrawGetFix: it gives some short string, some place and some width; nothing that was there is written.
-/
import Derived.Test.YtdnpambdonhliaaDrawScan
import Derived.Test.YtdnpambdonhliaaDrawGetVar
namespace Go.Proofs.Ytdnpambdonhliaa.Num
open Go.RowKit Go.Proofs
set_option linter.unusedVariables false
set_option maxHeartbeats 800000 in
set_option maxRecDepth 100000 in
theorem drawGetFix_any (a : Option Addr) (len cap : Nat) (w : World) (h : CodeAt w w.heap.size a len) :
    Calls Try.prog 31 #[.slice a len cap] w fun e w' => ∃ (s : ByteArray) (n z : Int), s.size ≤ 64 ∧ i64B n ∧ -1 ≤ z ∧ z ≤ 9 ∧ e = .returned (.tuple #[.string s, .int .i64 n, .int .i64 z]) ∧ Below w.heap.size w w' := by
  have H := Lib.hid h; clear h
  go_enter Try.func31, Try.ntmps31
  go_wp2_with fail
  refine (l1New_any _ a len cap _ (Nat.le_refl _) H.out).mono ?_
  rintro e w1 ⟨g, rfl, hc1, hb1, hg1, hg1'⟩
  have Hc1 := Lib.hid hc1; clear hc1
  have hz1 := hb1.size
  go_wp2_with fail
  refine (l1Below_any _ g a len cap _ _ Hc1.out (by omega)).mono ?_
  rintro e w2 ⟨r, r0, r1, rfl, hc2, ho2⟩
  have hr : r < 14 := r1 (by omega)
  obtain ⟨r', rfl⟩ := Int.eq_ofNat_of_zero_le r0
  have Hc2 := Lib.hid hc2; clear hc2
  have hb2 : Below w.heap.size w w2 := hb1.trans (ho2.below hg1 (by omega))
  have hz2 := ho2.size
  clear r1 ho2 hb1
  go_wp2_with fail
  refine (l1Bytes_any _ g a len cap _ _ Hc2.out (by omega) (by omega) (by omega)).mono ?_
  rintro e w3 ⟨v, l, rfl, hl, hown, hc3, hf3⟩
  have hcv := run_convB (P := Try.prog) 22 9 Try.underlying22 Try.underlying5 Try.underlying9 hown
  have Hc3 := Lib.hid hc3; clear hc3
  have hb3 : Below w.heap.size w w3 := hb2.trans (hf3.below hg1 (by omega))
  have hz3 := hf3.size
  have Hl : Hid ((bstr l).size = r') := Lib.hid (by rw [bstr_size, hl])
  rw [show (ByteArray.mk l.toArray) = bstr l from rfl] at hcv
  generalize bstr l = s0 at hcv Hl
  have hs : s0.size ≤ 14 := by have := Hl.out; omega
  clear hown hf3 hl hb2
  go_wp2_with fail
  refine (l1PickInt_any _ g a len cap _ 10 10 [0, 1, 2, 5, (s0.size : Int) - 4, (s0.size : Int) - 8, (s0.size : Int), -1, 9223372036854775807, -9223372036854775808] _ _ _ _ (Hc3.out.other ((Below.refl w3.heap.size _).alloc (Nat.le_refl _) _) (by omega) (by omega)) (heap_alloc_new _ _) rfl rfl (by omega) (by omega) (by omega)).mono ?_
  rintro e w4 ⟨z, hz, rfl, hc4, ho4⟩
  have Hz : Hid (i64B z) := Lib.hid (by unfold i64B; simp only [List.mem_cons, List.not_mem_nil, or_false] at hz; omega)
  have Hc4 := Lib.hid hc4
  have hb4 : Below w.heap.size w w4 := (hb3.alloc (by omega) _).trans (ho4.below hg1 (by simp; omega))
  have hz4 : w3.heap.size + 1 ≤ w4.heap.size := by have := ho4.size; simp at this; omega
  clear hz hc4 ho4
  go_wp2_with fail
  refine (l3Width_any _ g a len cap _ Hc4.out (by omega) (by omega)).mono ?_
  rintro e w5 ⟨n, hn, rfl, hc5, hf5⟩
  have hb5 : Below w.heap.size w w5 := hb4.trans (hf5.below hg1 (by omega))
  have Hn : Hid (-1 ≤ n ∧ n ≤ 9) := Lib.hid (by omega)
  clear hc5 hf5 hn
  go_wp2_with fail
  go_ret3
  exact ⟨s0, z, n, by omega, Hz.out, Hn.out.1, Hn.out.2, rfl, hb5⟩
end Go.Proofs.Ytdnpambdonhliaa.Num
