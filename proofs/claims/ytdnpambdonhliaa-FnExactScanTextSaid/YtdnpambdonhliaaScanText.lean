/-
  The walks of ScanText, the reference's and the program's: they give what the plain reader here gives; only new memory is written.
-/
import Derived.Test.YtdnpambdonhliaaScanByte
import Derived.LoopTactic
import Derived.Deep.DeepFit
import Derived.WalkLawsBesides
import Derived.WalkSpells
namespace Go.Proofs.Ytdnpambdonhliaa.Num
open Go.RowKit Go.Proofs

/-- State, how many bytes, and code behind some bytes. -/
def scanTextR : Nat → Int → List UInt8 → Nat × Int × Nat × Int
  | b, h, [] => (b, h, 0, 0)
  | b, h, c :: r =>
    if (scanByteR b h c.toNat).2.2 = 0 then
      ((scanTextR (scanByteR b h c.toNat).1 (scanByteR b h c.toNat).2.1 r).1, (scanTextR (scanByteR b h c.toNat).1 (scanByteR b h c.toNat).2.1 r).2.1, (scanTextR (scanByteR b h c.toNat).1 (scanByteR b h c.toNat).2.1 r).2.2.1 + 1, (scanTextR (scanByteR b h c.toNat).1 (scanByteR b h c.toNat).2.1 r).2.2.2)
    else ((scanByteR b h c.toNat).1, (scanByteR b h c.toNat).2.1, 1, (scanByteR b h c.toNat).2.2)
/-- The same, k bytes later. -/
def laterR (k : Nat) (R : Nat × Int × Nat × Int) : Nat × Int × Nat × Int := (R.1, R.2.1, R.2.2.1 + k, R.2.2.2)
theorem scanText_nil (b : Nat) (h : Int) : scanTextR b h [] = (b, h, 0, 0) := rfl
theorem scanText_more {b : Nat} {h : Int} {c : UInt8} {r : List UInt8} {V : Nat} {H : Int} (he : scanByteR b h c.toNat = (V, H, 0)) : scanTextR b h (c :: r) = laterR 1 (scanTextR V H r) := by
  simp only [scanTextR, he, if_pos, laterR]
theorem scanText_stop {b : Nat} {h : Int} {c : UInt8} {r : List UInt8} {V : Nat} {H C : Int} (he : scanByteR b h c.toNat = (V, H, C)) (hC : C ≠ 0) : scanTextR b h (c :: r) = (V, H, 1, C) := by
  simp only [scanTextR, he, if_neg hC]
theorem Box.fresh2 (w : World) (o : Obj) (cs : Array Value) (t : TypeId) : Box ((w.alloc o).alloc (.cells cs t)) (w.heap.size + 1) cs.toList := by
  have h := Box.fresh (w.alloc o) cs t
  rwa [show (w.alloc o).heap.size = w.heap.size + 1 by simp] at h
theorem later_later (j k : Nat) (R : Nat × Int × Nat × Int) : laterR k (laterR j R) = laterR (j + k) R := by unfold laterR; simp only [Nat.add_assoc]
theorem later_zero (R : Nat × Int × Nat × Int) : laterR 0 R = R := rfl
theorem scanByteR_bound {b : Nat} {h x : Int} (hb : b ≤ 18446744073709551615) : (scanByteR b h x).1 ≤ 18446744073709551615 := by
  unfold scanByteR
  split
  · next hc =>
    obtain ⟨hok, hx, h9⟩ := hc
    unfold scanOkB at hok
    simp only [Bool.and_eq_true, decide_eq_true_iff] at hok
    obtain ⟨⟨h0, h9'⟩, hlt⟩ := hok
    obtain ⟨k, rfl⟩ := Int.eq_ofNat_of_zero_le h0
    obtain ⟨X, rfl⟩ := Int.eq_ofNat_of_zero_le hx.1
    rw [Int.toNat_natCast] at hlt
    simp only [Int.toNat_natCast]
    by_cases hk : k ≤ 8
    · have h1 := two7 k hk
      have h2 : X % 128 * 2 ^ (7 * k) ≤ 127 * 2 ^ (7 * k) := Nat.mul_le_mul_right _ (by omega)
      omega
    · obtain rfl : k = 9 := by omega
      simp only [Nat.reduceMul, Nat.reducePow] at hlt ⊢
      have : X % 128 ≤ 1 := by omega
      omega
  · exact hb
set_option maxHeartbeats 2000000 in
set_option maxRecDepth 100000 in
theorem specScanText_any (b : Nat) (h : Int) (s : ByteArray) (w : World) (hs : s.size ≤ 281474976710656) :
    Calls Try.prog 35 #[scV b h, .string s] w fun e w' => e = .returned (.tuple #[scV (scanTextR b h s.data.toList).1 (scanTextR b h s.data.toList).2.1, .int .i64 (scanTextR b h s.data.toList).2.2.1, .int .i64 (scanTextR b h s.data.toList).2.2.2]) ∧ Below w.heap.size w w' := by
  unfold scV
  generalize hR : scanTextR b h s.data.toList = R
  have HR := Lib.hid hR; clear hR
  go_enter Try.func35, Try.ntmps35
  go_wp2_with fail
  go_loopw [7, 8] (fun o i wr => ∃ (k V : Nat) (H C : Int), k ≤ s.size ∧ i = .int .i64 k ∧ o = .int .i64 C ∧ Hid ((C = 0 ∧ R = laterR k (scanTextR V H (s.data.toList.drop k))) ∨ (C ≠ 0 ∧ R = (V, H, k, C))) ∧ Hid (Box wr w.heap.size [.int .u64 V, .int .i64 H]) ∧ Hid (Box wr (w.heap.size + 1) [.int .u64 0, .int .i64 0]) ∧ Below w.heap.size w wr) (fun o i _ => s.size - (intOf i).toNat)
  case atStart => exact ⟨0, b, h, 0, by omega, rfl, rfl, Lib.hid (.inl ⟨rfl, by rw [← HR.out]; rfl⟩), Lib.hid ((Box.fresh _ _ _).alloc _), Lib.hid (Box.fresh2 _ _ _ _), ((Below.refl _ _).alloc (Nat.le_refl _) _).alloc (by simp) _⟩
  case round =>
    obtain ⟨k, V, H, C, hk, rfl, rfl, hst, hbx, hby, hbl⟩ := hrel
    obtain ⟨c0, c1, f0, f1⟩ := hbx.out.two
    obtain ⟨d0, d1, g0, g1⟩ := hby.out.two
    by_cases hlt : k < s.size
    · by_cases hC : C = 0
      · subst hC
        have Hst : Hid (R = laterR k (scanTextR V H (s.data.toList.drop k))) := Lib.hid (by rcases hst.out with ⟨_, h⟩ | ⟨h, _⟩; exact h; exact absurd rfl h)
        have Hdr := Lib.hid (drop_at s k hlt)
        have hch : s[k].toNat < 256 := s[k].toNat_lt
        generalize hS : scanByteR V H s[k].toNat = S
        have HS := Lib.hid hS; clear hS
        obtain ⟨V', H', C'⟩ := S
        have hltb : (k : Int) < (s.size : Int) := by omega
        clear hst
        have hz0 := hbx.out.lt
        have hz1 := hby.out.lt
        have hw8 : IntKind.i64.wrap (s[k].toNat : Int) = (s[k].toNat : Int) := IntWalk.i64_in _ (by omega)
        go_wp2_with fail
        go_region_with (go_at_call 24; refine (specScanByte_any V H s[k].toNat _).mono ?_; rw [HS.out]; rintro e w1 ⟨rfl, hb1⟩; simp only [scV]; obtain ⟨e0, e1, p0, p1⟩ := (hbx.out.drew.below hb1 hz0).two)
        all_goals
          have hlt1 := hbx.out.lt
          go_wp2_with fail
          refine ⟨⟨k + 1, V', H', C', by omega, by go_num, rfl, Lib.hid ?_, Lib.hid ((((hbx.out.drew.below hb1 hz0).set 0 _).set 1 _)), Lib.hid (((hby.out.drew.below hb1 hz1).other (by simp) _).other (by simp) _), ?_⟩, by simp [intOf]; omega⟩
          · rw [Hst.out, Hdr.out]
            by_cases hC : C' = 0
            · subst hC; exact .inl ⟨rfl, by rw [scanText_more HS.out, later_later, Nat.add_comm]⟩
            · exact .inr ⟨hC, by rw [scanText_stop HS.out hC]; simp [laterR, Nat.add_comm]⟩
          · have hb2 : Below w.heap.size w w1 := hbl.drew.trans (hb1.mono hbl.size)
            repeat (first | exact hb2 | refine Below.setCell ?_ (by simp) _)
      · have hCb : (C == 0) = false := by rw [beq_eq_false_iff_ne]; exact hC
        have hltb : (k : Int) < (s.size : Int) := by omega
        go_wp2_with fail
        refine bodyPost_ret (v := .tuple #[.agg #[.int .u64 V, .int .i64 H], .int .i64 k, .int .i64 C]) (by simp [results, Try.results35, go_sem, d0, d1]) rfl ⟨?_, ?_⟩
        · rcases hst.out with ⟨h0, _⟩ | ⟨_, hR⟩
          · exact absurd h0 hC
          · rw [hR]
        · repeat (first | exact hbl | refine Below.drew ?_ | refine Below.setCell ?_ (by simp) _ | refine Below.alloc ?_ (by simp <;> omega) _)
    · have hks : k = s.size := by omega
      have hend : decide (k < s.size) = false := decide_eq_false hlt
      have Hall := Lib.hid (drop_all s k (by omega))
      have hge : (s.size : Int) ≤ (k : Int) := by omega
      clear hks
      go_wp2_with fail
      refine bodyPost_ret (v := .tuple #[.agg #[.int .u64 V, .int .i64 H], .int .i64 k, .int .i64 C]) (by simp [results, Try.results35, go_sem, d0, d1]) rfl ⟨?_, ?_⟩
      · rcases hst.out with ⟨h0, hR⟩ | ⟨_, hR⟩
        · rw [hR, Hall.out, scanText_nil, h0]; simp [laterR]
        · rw [hR]
      · repeat (first | exact hbl | refine Below.drew ?_ | refine Below.setCell ?_ (by simp) _ | refine Below.alloc ?_ (by simp <;> omega) _)
end Go.Proofs.Ytdnpambdonhliaa.Num
