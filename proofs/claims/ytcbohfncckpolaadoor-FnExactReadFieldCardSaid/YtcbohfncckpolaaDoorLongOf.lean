/-
  The walks of spec.LongOf and spec.Number: the value of a shortest decimal numeral within the limit and true, at every other string 0 and false; only new memory is written.
-/
import Derived.Test.YtcbohfncckpolaaDoorNumWalk
import Derived.Test.YtcbohfncckpolaaDoorLong
namespace Go.Proofs.YtcbohfncckpolaaDoor.Num
open Go.RowKit Go.Proofs

theorem specLongOf_bad (s : ByteArray) (w : World) (hs : s.size ≤ 9223372036854775807) (h : s.size < 1 ∨ 20 < s.size) :
    Calls Tryd.prog 64 #[.string s] w fun e w' => e = .returned (.tuple #[.int .u64 0, .bool false]) ∧ w = w' := by
  rcases h with h | h
  · go_enter Tryd.func64, Tryd.ntmps64
    go_wp2_with fail
    go_ret2
    exact ⟨rfl, rfl⟩
  · go_enter Tryd.func64, Tryd.ntmps64
    go_wp2_with fail
    go_ret2
    exact ⟨rfl, rfl⟩
set_option maxHeartbeats 400000 in
theorem specLongOf_good (s : ByteArray) (w : World) (h1 : 1 ≤ s.size) (h2 : s.size ≤ 20) :
    Calls Tryd.prog 64 #[.string s] w fun e w' => e = .returned (.tuple #[.int .u64 (parse 18446744073709551615 s.data.toList).1, .bool (parse 18446744073709551615 s.data.toList).2]) ∧ Below w.heap.size w w' := by
  go_enter Tryd.func64, Tryd.ntmps64
  go_wp2_with fail
  go_loop [4, 5] (fun v i => ∃ k : Nat, k ≤ s.size ∧ i = .int .i64 k ∧ v = .int .u64 (val (s.data.toList.take k)) ∧ pref 18446744073709551615 (s.data.toList.take k) = true) (fun _ i => s.size - (intOf i).toNat)
  case atStart => exact ⟨0, Nat.zero_le _, rfl, rfl, pref_nil _⟩
  case round =>
    obtain ⟨k, hk, rfl, rfl, hp⟩ := hrel
    by_cases hlt : k < s.size
    · have hts := take_snoc s k hlt
      have Hts := Lib.hid hts; clear hts
      have hp1 : (s.data.toList.take k).all isDig = true := by simp only [pref, Bool.and_eq_true] at hp; exact hp.1
      have Hp1 := Lib.hid hp1; clear hp1
      have hp2 : val (s.data.toList.take k) ≤ 18446744073709551615 := by simp only [pref, Bool.and_eq_true, decide_eq_true_eq] at hp; exact hp.2
      clear hp
      cases hd : isDig s[k] with
      | false =>
        have Hd := Lib.hid hd; clear hd
        have hbad : s[k].toNat < 48 ∨ 57 < s[k].toNat := by
          have h := Hd.out; unfold isDig at h; rw [decide_eq_false_iff_not] at h; omega
        have Hf : Hid (parse 18446744073709551615 s.data.toList = (0, false)) := Lib.hid (by
          refine parse_no (pref_no (pref_take (k + 1) ?_))
          rw [Hts.out, Bool.eq_false_iff]
          intro h
          rw [pref_snoc, Hd.out] at h
          exact absurd h.2.1 (by simp))
        rcases hbad with hbad | hbad
        · go_wp2_with fail
          go_ret2
          exact ⟨by rw [Hf.out]; rfl, Below.refl _ _⟩
        · have hbad2 : ¬ s[k].toNat < 48 := by omega
          go_wp2_with fail
          go_ret2
          exact ⟨by rw [Hf.out]; rfl, Below.refl _ _⟩
      | true =>
        have hb : 48 ≤ s[k].toNat ∧ s[k].toNat ≤ 57 := by unfold isDig at hd; simpa using hd
        obtain ⟨hb1, hb2⟩ := hb
        have Hd := Lib.hid hd; clear hd
        by_cases hv : 10 * val (s.data.toList.take k) + (s[k].toNat - 48) ≤ 18446744073709551615
        · go_wp2_with fail
          go_round
          case rel =>
            refine ⟨k + 1, by omega, by go_num, ?_, ?_⟩
            · rw [Hts.out, val_snoc]; go_num
            · rw [Hts.out, pref_snoc]; exact ⟨Hp1.out, Hd.out, hv⟩
          case measure => simp [intOf]; omega
        · have Hf : Hid (parse 18446744073709551615 s.data.toList = (0, false)) := Lib.hid (by
            refine parse_no (pref_no (pref_take (k + 1) ?_))
            rw [Hts.out, Bool.eq_false_iff]
            intro h
            rw [pref_snoc] at h
            exact absurd h.2.2 hv)
          go_wp2_with fail
          go_ret2
          exact ⟨by rw [Hf.out]; rfl, Below.refl _ _⟩
    · have e1 : k = s.size := by omega
      have e2 : s.data.toList.take k = s.data.toList := List.take_of_length_le (by simp; omega)
      clear e1
      have Hp := Lib.hid hp; clear hp
      have hvl : val (s.data.toList.take k) ≤ 18446744073709551615 := by have hp := Hp.out; simp only [pref, Bool.and_eq_true, decide_eq_true_eq] at hp; exact hp.2
      have Hn : Hid (numOk 18446744073709551615 s.data.toList = decide (dec (val s.data.toList) = s.data.toList)) := Lib.hid (numOk_back (by have := Hp.out; rwa [e2] at this))
      have E2 := Lib.hid e2; clear e2
      go_wp2_with fail
      refine (long_any _ _ hvl).mono ?_
      rintro e w1 ⟨rfl, hb⟩
      rw [E2.out]
      by_cases heq : dec (val s.data.toList) = s.data.toList
      · have Hf : Hid (parse 18446744073709551615 s.data.toList = (val s.data.toList, true)) := Lib.hid (parse_yes (by rw [Hn.out, heq]; simp))
        have ht : (dec (val s.data.toList) == s.toList) = true := by rw [ByteArray.toList_eq, heq]; simp
        clear heq
        go_wp2_with fail
        go_ret2
        exact ⟨by rw [Hf.out]; rfl, hb⟩
      · have Hf : Hid (parse 18446744073709551615 s.data.toList = (0, false)) := Lib.hid (parse_no (by rw [Hn.out]; simp [heq]))
        have ht : (dec (val s.data.toList) == s.toList) = false := by rw [ByteArray.toList_eq]; simp [heq]
        clear heq
        go_wp2_with fail
        go_ret2
        exact ⟨by rw [Hf.out]; rfl, hb⟩
theorem specLongOf_any (s : ByteArray) (w : World) (hs : s.size ≤ 9223372036854775807) :
    Calls Tryd.prog 64 #[.string s] w fun e w' => e = .returned (.tuple #[.int .u64 (parse 18446744073709551615 s.data.toList).1, .bool (parse 18446744073709551615 s.data.toList).2]) ∧ Below w.heap.size w w' := by
  by_cases h : s.size < 1 ∨ 20 < s.size
  · refine (specLongOf_bad s w hs h).mono fun e w' ⟨he, hw⟩ => ?_
    have hf : parse 18446744073709551615 s.data.toList = (0, false) := by
      apply parse_no
      rcases h with h | h
      · have h3 : s.data.toList.length = s.size := by simp
        have : s.data.toList = [] := List.length_eq_zero_iff.1 (by omega)
        rw [this]; exact numOk_nil
      · exact numOk_long (Nat.le_refl _) (by simpa using h)
    rw [hf]
    subst hw
    exact ⟨he, Below.refl _ _⟩
  · exact specLongOf_good s w (by omega) (by omega)
theorem parse_bound (M : Nat) (l : List UInt8) : (parse M l).1 ≤ M := by
  unfold parse
  split
  · rename_i h; simp only [numOk, Bool.and_eq_true, decide_eq_true_eq] at h; exact h.2
  · exact Nat.zero_le _
theorem specNumber_any (s : ByteArray) (w : World) (hs : s.size ≤ 9223372036854775807) :
    Calls Tryd.prog 42 #[.string s] w fun e w' => e = .returned (.tuple #[.int .i64 (parse 999999999 s.data.toList).1, .bool (parse 999999999 s.data.toList).2]) ∧ Below w.heap.size w w' := by
  go_enter Tryd.func42, Tryd.ntmps42
  go_wp2_with fail
  refine (specLongOf_any s _ hs).mono ?_
  rintro e w1 ⟨rfl, hb⟩
  cases h : numOk 18446744073709551615 s.data.toList with
  | false =>
    have h2 : numOk 999999999 s.data.toList = false := by
      cases h2 : numOk 999999999 s.data.toList with
      | false => rfl
      | true =>
        simp only [numOk, Bool.and_eq_true, decide_eq_true_eq] at h2
        simp only [numOk, h2.1, Bool.true_and, decide_eq_false_iff_not] at h
        omega
    have Hf : Hid (parse 999999999 s.data.toList = (0, false)) := Lib.hid (parse_no h2)
    have hp := parse_no h
    rw [hp]
    clear hp h h2
    go_wp2_with fail
    go_ret2
    exact ⟨by rw [Hf.out]; rfl, hb⟩
  | true =>
    have hp := parse_yes h
    rw [hp]
    have hvb : val s.data.toList ≤ 18446744073709551615 := by simp only [numOk, Bool.and_eq_true, decide_eq_true_eq] at h; exact h.2
    by_cases hv : val s.data.toList ≤ 999999999
    · have Hf : Hid (parse 999999999 s.data.toList = (val s.data.toList, true)) := Lib.hid (parse_yes (by
        simp only [numOk, Bool.and_eq_true, decide_eq_true_eq] at h ⊢; exact ⟨h.1, hv⟩))
      clear hp h
      go_wp2_with fail
      go_ret2
      exact ⟨by rw [Hf.out]; rfl, hb⟩
    · have Hf : Hid (parse 999999999 s.data.toList = (0, false)) := Lib.hid (parse_no (by
        cases h2 : numOk 999999999 s.data.toList with
        | false => rfl
        | true => simp only [numOk, Bool.and_eq_true, decide_eq_true_eq] at h2; exact absurd h2.2 hv))
      clear hp h
      go_wp2_with fail
      go_ret2
      exact ⟨by rw [Hf.out]; rfl, hb⟩
end Go.Proofs.YtcbohfncckpolaaDoor.Num
