/-
  The walks of GetFix, the reference's and the program's: they give the value of the little-endian bytes; only new memory is written.
-/
import Derived.Test.YtdnpambdonhliaaPutFix
import Derived.Test.YtdnpambdonhliaaFixByte
namespace Go.Proofs.Ytdnpambdonhliaa.Num
open Go.RowKit Go.Proofs
set_option linter.unusedVariables false

/-- The number read, and whether one is. -/
def getFixR (s : ByteArray) (a n : Int) : Nat × Bool := if (n = 4 ∨ n = 8) ∧ 0 ≤ a ∧ a ≤ s.size - n then (Fix.le ((s.data.toList.drop a.toNat).take n.toNat), true) else (0, false)
theorem getFix_yes {s : ByteArray} {a n : Int} (h : (n = 4 ∨ n = 8) ∧ 0 ≤ a ∧ a ≤ s.size - n) : getFixR s a n = (Fix.le ((s.data.toList.drop a.toNat).take n.toNat), true) := by unfold getFixR; rw [if_pos h]
theorem getFix_no {s : ByteArray} {a n : Int} (h : ¬ ((n = 4 ∨ n = 8) ∧ 0 ≤ a ∧ a ≤ s.size - n)) : getFixR s a n = (0, false) := by unfold getFixR; rw [if_neg h]
theorem specGetFix_in (s : ByteArray) (A N : Nat) (w : World) (hs : s.size ≤ 281474976710656) (hN : N = 4 ∨ N = 8) (hA : A + N ≤ s.size) :
    Calls Try.prog 32 #[.string s, .int .i64 A, .int .i64 N] w fun e w' => e = .returned (.tuple #[.int .u64 (Fix.le ((s.data.toList.drop A).take N)), .bool true]) ∧ Below w.heap.size w w' := by
  have HN := Lib.hid hN
  have hN8 : N ≤ 8 := by omega
  have hN4 : 4 ≤ N := by omega
  have Hcase : Hid (((((N : Int) == 4) = false ∧ ((N : Int) != 4) = true) ∧ (((N : Int) == 8) = true ∧ ((N : Int) != 8) = false)) ∨ ((((N : Int) == 4) = true ∧ ((N : Int) != 4) = false))) := Lib.hid (by
    rcases hN with rfl | rfl
    · exact .inr ⟨rfl, rfl⟩
    · exact .inl ⟨⟨rfl, rfl⟩, rfl, rfl⟩)
  have hd : decide ((0 : Int) ≤ (A : Int) ∧ (A : Int) ≤ (s.size : Int) - (N : Int)) = true := decide_eq_true (by omega)
  have hd2 : decide ((A : Int) ≤ (s.size : Int) - (N : Int)) = true := decide_eq_true (by omega)
  clear hN
  rcases Hcase.out with ⟨⟨h4, h4n⟩, h8, h8n⟩ | ⟨h4, h4n⟩
  all_goals
    clear Hcase
    go_enter Try.func32, Try.ntmps32
    go_wp2_with fail
    refine (specIn_any _ _ _ _).mono ?_
    rintro e w3 ⟨rfl, rfl⟩
    go_wp2_with fail
    clear hd hd2
    go_loop [8, 9] (fun x i => ∃ (k U : Nat), k ≤ N ∧ i = .int .i64 ((k : Int) - 1) ∧ x = .int .u64 U ∧ Hid (U = Fix.le ((s.data.toList.drop (A + k)).take (N - k)))) (fun _ i => ((intOf i) + 1).toNat)
    case atStart => exact ⟨N, 0, Nat.le_refl _, rfl, rfl, Lib.hid (by rw [Nat.sub_self]; rfl)⟩
    case round =>
      obtain ⟨k, U, hk, rfl, rfl, hU⟩ := hrel
      cases k with
      | zero =>
        have hm : (((0 : Nat) : Int) - 1) = -1 := rfl
        rw [hm]
        clear hm
        go_wp2_with fail
        go_ret2
        exact ⟨by rw [hU.out]; rfl, Below.refl _ _⟩
      | succ k =>
        have hm : (((k + 1 : Nat) : Int) - 1) = (k : Int) := by omega
        rw [hm]
        clear hm
        have hend : A + k < s.size := by omega
        have hc : s[A + k].toNat < 256 := s[A + k].toNat_lt
        have hlt1 : (A : Int) + (k : Int) < (s.size : Int) := by omega
        have hlt0 : (0 : Int) ≤ (A : Int) + (k : Int) := by omega
        have hw1 : IntKind.i64.wrap ((A : Int) + (k : Int)) = (A : Int) + (k : Int) := IntWalk.i64_in _ (by omega)
        have HU2 : Hid (s[A + k].toNat + 256 * U = Fix.le ((s.data.toList.drop (A + k)).take (N - k))) := Lib.hid (by rw [drop_at s (A + k) hend, show N - k = (N - (k + 1)) + 1 by omega, List.take_succ_cons, hU.out]; rfl)
        have hb : U ≤ 72057594037927935 := by
          have h1 := Fix.le_lt ((s.data.toList.drop (A + (k + 1))).take (N - (k + 1)))
          rw [← hU.out] at h1
          have h2 : ((s.data.toList.drop (A + (k + 1))).take (N - (k + 1))).length ≤ 7 := by rw [List.length_take]; omega
          have h3 := Nat.pow_le_pow_right (n := 256) (by omega) h2
          have h4 : (256 : Nat) ^ 7 = 72057594037927936 := rfl
          omega
        have hk0 : (0 : Int) ≤ (k : Int) := by omega
        go_wp2_with fail
        exact ⟨⟨k, s[A + k].toNat + 256 * U, by omega, rfl, by go_num, HU2⟩, by simp [intOf] <;> omega⟩
theorem specGetFix_out (s : ByteArray) (a n : Int) (w : World) (hs : s.size ≤ 281474976710656) (hn : -9223372036854775808 ≤ n ∧ n ≤ 9223372036854775807) (h : ¬ ((n = 4 ∨ n = 8) ∧ 0 ≤ a ∧ a ≤ s.size - n)) :
    Calls Try.prog 32 #[.string s, .int .i64 a, .int .i64 n] w fun e w' => e = .returned (.tuple #[.int .u64 0, .bool false]) ∧ Below w.heap.size w w' := by
  by_cases hw : n = 4 ∨ n = 8
  · have hd : decide (0 ≤ a ∧ a ≤ (s.size : Int) - n) = false := decide_eq_false fun h2 => h ⟨hw, h2⟩
    clear h
    rcases hw with rfl | rfl
    all_goals
      go_enter Try.func32, Try.ntmps32
      go_wp2_with fail
      refine (specIn_any _ _ _ _).mono ?_
      rw [hd]
      rintro e w3 ⟨rfl, rfl⟩
      go_wp2_with fail
      go_ret2
      exact ⟨rfl, Below.refl _ _⟩
  · have h4b : (n == 4) = false := by rw [beq_eq_false_iff_ne]; omega
    have h8b : (n == 8) = false := by rw [beq_eq_false_iff_ne]; omega
    have h4c : (n != 4) = true := by rw [bne, h4b]; rfl
    have h8c : (n != 8) = true := by rw [bne, h8b]; rfl
    clear h hw
    go_enter Try.func32, Try.ntmps32
    go_wp2_with fail
    go_ret2
    exact ⟨rfl, Below.refl _ _⟩
theorem specGetFix_any (s : ByteArray) (a n : Int) (w : World) (hs : s.size ≤ 281474976710656) (hn : -9223372036854775808 ≤ n ∧ n ≤ 9223372036854775807) :
    Calls Try.prog 32 #[.string s, .int .i64 a, .int .i64 n] w fun e w' => e = .returned (.tuple #[.int .u64 (getFixR s a n).1, .bool (getFixR s a n).2]) ∧ Below w.heap.size w w' := by
  by_cases h : (n = 4 ∨ n = 8) ∧ 0 ≤ a ∧ a ≤ s.size - n
  · rw [getFix_yes h]
    obtain ⟨N, rfl⟩ := Int.eq_ofNat_of_zero_le (show 0 ≤ n by omega)
    obtain ⟨A, rfl⟩ := Int.eq_ofNat_of_zero_le h.2.1
    rw [Int.toNat_natCast, Int.toNat_natCast]
    exact specGetFix_in s A N w hs (by omega) (by omega)
  · rw [getFix_no h]
    exact specGetFix_out s a n w hs hn h
/-- FixByte in a run of bytes. -/
theorem fixStep (l : List UInt8) (c : UInt8) (h : l.length ≤ 7) : fixByteR (Fix.le l) (l.length : Int) (c.toNat : Int) = (((Fix.le (l ++ [c]) : Nat) : Int), ((l ++ [c]).length : Int)) := by
  have hc := c.toNat_lt
  have h1 := Fix.le_lt l
  have h3 := Nat.pow_le_pow_right (n := 256) (by omega) h
  have h4 : (256 : Nat) ^ 7 = 72057594037927936 := rfl
  unfold fixByteR
  rw [if_pos ⟨by omega, by omega⟩, Int.toNat_natCast, Fix.le_snoc, List.length_append]
  have e : (c.toNat : Int) * 2 ^ (8 * l.length) = ((c.toNat * 256 ^ l.length : Nat) : Int) := by rw [← Fix.pow_256]; simp
  have h5 : c.toNat * 256 ^ l.length ≤ 255 * 256 ^ l.length := Nat.mul_le_mul_right _ (by omega)
  rw [e]
  generalize c.toNat * 256 ^ l.length = q at h5
  generalize 256 ^ l.length = z at h1 h3 h5
  rw [IntKind.wrap_u64, IntKind.wrap_u64]
  simp only [Prod.mk.injEq, List.length_cons, List.length_nil]
  omega
set_option maxHeartbeats 1000000 in
set_option maxRecDepth 100000 in
theorem implGetFix_in (s : ByteArray) (A N : Nat) (w : World) (hs : s.size ≤ 281474976710656) (hN : N = 4 ∨ N = 8) (hA : A + N ≤ s.size) :
    Calls Try.prog 29 #[.string s, .int .i64 A, .int .i64 N] w fun e w' => e = .returned (.tuple #[.int .u64 (Fix.le ((s.data.toList.drop A).take N)), .bool true]) ∧ Below w.heap.size w w' := by
  have HN : Hid ((N : Int) = 4 ∨ (N : Int) = 8) := Lib.hid (by omega)
  have hN8 : N ≤ 8 := by omega
  have hN4 : 4 ≤ N := by omega
  have hd1 : decide ((A : Int) < 0) = false := decide_eq_false (by omega)
  have hd2 : decide ((s.size : Int) - (N : Int) < (A : Int)) = false := decide_eq_false (by omega)
  clear hN
  go_enter Try.func29, Try.ntmps29
  go_wp2_with fail
  refine (implWidth_yes _ HN.out _).mono ?_
  rintro e w1 ⟨rfl, rfl⟩
  go_wp2_with fail
  clear hd1 hd2
  go_loopw [27] (fun i wr => ∃ (k : Nat) (l : List UInt8), k ≤ N ∧ i = .int .i64 k ∧ Hid (l = (s.data.toList.drop A).take k) ∧ Hid (l.length = k) ∧ Hid (Box wr w.heap.size [.int .u64 ((Fix.le l : Nat) : Int), .int .i64 k]) ∧ Below w.heap.size w wr) (fun i _ => N - (intOf i).toNat)
  case atStart => exact ⟨0, [], by omega, rfl, Lib.hid rfl, Lib.hid rfl, Lib.hid (Box.fresh _ _ _), (Below.refl _ _).alloc (Nat.le_refl _) _⟩
  case round =>
    obtain ⟨k, l, hk, rfl, hl, hll, hbx, hbl⟩ := hrel
    by_cases hlt : k < N
    · obtain ⟨c0, c1, f0, f1⟩ := hbx.out.two
      have hz0 := hbx.out.lt
      have hend : A + k < s.size := by omega
      have hc : s[A + k].toNat < 256 := s[A + k].toNat_lt
      have hlt1 : (A : Int) + (k : Int) < (s.size : Int) := by omega
      have hlt0 : (0 : Int) ≤ (A : Int) + (k : Int) := by omega
      have hltN : (k : Int) < (N : Int) := by omega
      have hnat : ((A : Int) + (k : Int)).toNat = A + k := by omega
      have hw1 : IntKind.i64.wrap ((A : Int) + (k : Int)) = (A : Int) + (k : Int) := IntWalk.i64_in _ (by omega)
      have hw8 : IntKind.i64.wrap (s[A + k].toNat : Int) = (s[A + k].toNat : Int) := IntWalk.i64_in _ (by omega)
      have Hnext : Hid (l ++ [s[A + k]] = (s.data.toList.drop A).take (k + 1)) := Lib.hid (by
        rw [hl.out, List.take_succ_eq_append_getElem (by simp; omega)]
        congr 2
        simp [List.getElem_drop]; rfl)
      have Hst : Hid (fixByteR (Fix.le l) (k : Int) (s[A + k].toNat : Int) = (((Fix.le (l ++ [s[A + k]]) : Nat) : Int), ((k : Int) + 1))) := Lib.hid (by
        have h := fixStep l s[A + k] (by rw [hll.out]; omega)
        rw [hll.out] at h
        rw [h, List.length_append, hll.out]; rfl)
      obtain ⟨V', hV'⟩ : ∃ V' : Nat, V' = Fix.le (l ++ [s[A + k]]) := ⟨_, rfl⟩
      obtain ⟨V, hV⟩ : ∃ V : Nat, V = Fix.le l := ⟨_, rfl⟩
      rw [← hV', ← hV] at Hst
      rw [← hV] at hbx c0
      have HV' := Lib.hid hV'
      have Hsn := Lib.hid (show (l ++ [s[A + k]]).length = k + 1 by rw [List.length_append, hll.out]; rfl)
      clear hV' hV hl
      go_wp2_with fail
      go_region_with (go_at_call 30; refine (implFixByte_any V (k : Int) s[A + k].toNat _).mono ?_; rw [Hst.out]; rintro e w1 ⟨rfl, hb1⟩; obtain ⟨e0, e1, p0, p1⟩ := (hbx.out.drew.below hb1 hz0).two)
      all_goals
        go_wp2_with fail
        refine ⟨⟨k + 1, _, by omega, by go_num, Hnext, Hsn, Lib.hid ?_, ?_⟩, by simp [intOf] <;> omega⟩
        · rw [← HV'.out]; exact ((hbx.out.drew.below hb1 hz0).set 0 _).set 1 _
        · have hb2 : Below w.heap.size w w1 := hbl.drew.trans (hb1.mono hbl.size)
          repeat (first | exact hb2 | refine Below.setCell ?_ (by simp) _)
    · have hkN : Hid (k = N) := Lib.hid (by omega)
      have hend : decide (k < N) = false := decide_eq_false hlt
      have hge : (N : Int) ≤ (k : Int) := by omega
      have hbx2 := hbx
      have HV : Hid (Fix.le l = Fix.le ((s.data.toList.drop A).take N)) := Lib.hid (by rw [hl.out, hkN.out])
      generalize Fix.le l = V at hbx2 HV
      obtain ⟨c0, c1, f0, f1⟩ := hbx2.out.two
      go_wp2_with fail
      go_ret2
      exact ⟨by rw [← HV.out]; rfl, hbl⟩
theorem implGetFix_out (s : ByteArray) (a n : Int) (w : World) (hs : s.size ≤ 281474976710656) (hn : -9223372036854775808 ≤ n ∧ n ≤ 9223372036854775807) (h : ¬ ((n = 4 ∨ n = 8) ∧ 0 ≤ a ∧ a ≤ s.size - n)) :
    Calls Try.prog 29 #[.string s, .int .i64 a, .int .i64 n] w fun e w' => e = .returned (.tuple #[.int .u64 0, .bool false]) ∧ Below w.heap.size w w' := by
  by_cases hw : n = 4 ∨ n = 8
  · have Hw := Lib.hid hw
    by_cases h0 : a < 0
    · clear h hw
      go_enter Try.func29, Try.ntmps29
      go_wp2_with fail
      refine (implWidth_yes _ Hw.out _).mono ?_
      rintro e w1 ⟨rfl, rfl⟩
      go_wp2_with fail
      go_ret2
      exact ⟨rfl, Below.refl _ _⟩
    · have h1 : (s.size : Int) - n < a := by omega
      have h0d : decide (a < 0) = false := decide_eq_false h0
      have hn8 : n ≤ 8 := by omega
      have hn4 : 4 ≤ n := by omega
      have h1d : decide ((s.size : Int) - n < a) = true := decide_eq_true h1
      clear h hw hn
      go_enter Try.func29, Try.ntmps29
      go_wp2_with fail
      refine (implWidth_yes _ Hw.out _).mono ?_
      rintro e w1 ⟨rfl, rfl⟩
      go_wp2_with fail
      go_ret2
      exact ⟨rfl, Below.refl _ _⟩
  · have Hw := Lib.hid hw
    clear h hw
    go_enter Try.func29, Try.ntmps29
    go_wp2_with fail
    refine (implWidth_no _ Hw.out _).mono ?_
    rintro e w1 ⟨rfl, rfl⟩
    go_wp2_with fail
    go_ret2
    exact ⟨rfl, Below.refl _ _⟩
theorem implGetFix_any (s : ByteArray) (a n : Int) (w : World) (hs : s.size ≤ 281474976710656) (hn : -9223372036854775808 ≤ n ∧ n ≤ 9223372036854775807) :
    Calls Try.prog 29 #[.string s, .int .i64 a, .int .i64 n] w fun e w' => e = .returned (.tuple #[.int .u64 (getFixR s a n).1, .bool (getFixR s a n).2]) ∧ Below w.heap.size w w' := by
  by_cases h : (n = 4 ∨ n = 8) ∧ 0 ≤ a ∧ a ≤ s.size - n
  · rw [getFix_yes h]
    obtain ⟨N, rfl⟩ := Int.eq_ofNat_of_zero_le (show 0 ≤ n by omega)
    obtain ⟨A, rfl⟩ := Int.eq_ofNat_of_zero_le h.2.1
    rw [Int.toNat_natCast, Int.toNat_natCast]
    exact implGetFix_in s A N w hs (by omega) (by omega)
  · rw [getFix_no h]
    exact implGetFix_out s a n w hs hn h
end Go.Proofs.Ytdnpambdonhliaa.Num
