/-
  The walks of impl.digitIn and impl.numeral: numeral returns the value of a shortest decimal numeral up to its limit and panics at every other string; nothing that was there is written.
-/
import Derived.Test.YtcbohfncckpolaaGreatDoorShelfIdx
import Derived.Test.YtcbohfncckpolaaGreatDoorNumMath
import Derived.WalkKit
import Derived.WalkLawsBesides
import Derived.WalkSpells
import Derived.Outline
import Derived.Deep.DeepFit
import Derived.Recover
import Derived.Lib.Hide
import Derived.LoopTactic
import Derived.Below
namespace Go.Proofs.YtcbohfncckpolaaGreatDoor.Num
open Go.RowKit Go.Proofs

/-- The call ended in one panic of the text's own. -/
def Panics (e : Ending) : Prop := ∃ t v, e = .panicked [{ v := .iface t v, recovered := false }]

theorem idx10 (c : UInt8) : Go.Lib.indexByte [48, 49, 50, 51, 52, 53, 54, 55, 56, 57] c = if isDig c = true then (c.toNat : Int) - 48 else -1 := by
  have h : ∀ n : Fin 256, Go.Lib.indexByte [48, 49, 50, 51, 52, 53, 54, 55, 56, 57] (UInt8.ofNat n.val) = if isDig (UInt8.ofNat n.val) = true then ((UInt8.ofNat n.val).toNat : Int) - 48 else -1 := by decide +kernel
  have := h ⟨c.toNat, c.toNat_lt⟩
  simpa using this

theorem digitIn10_yes (c : UInt8) (w : World) (h : isDig c = true) :
    Calls Tryz.prog 104 #[.int .u8 c.toNat, .int .i64 10] w fun e w' => e = .returned (.int .u64 ((c.toNat : Int) - 48)) ∧ w = w' := by
  have hi := idx10 c
  rw [if_pos h] at hi
  have hb : 48 ≤ c.toNat ∧ c.toNat ≤ 57 := by unfold isDig at h; simpa using h
  obtain ⟨hb1, hb2⟩ := hb
  clear h
  go_enter Tryz.func104, Tryz.ntmps104
  go_wp2_with fail
  refine (Tryz.strings_IndexByte _ _ _).mono ?_
  rintro e w' ⟨rfl, rfl⟩
  go_wp2
  go_ret
  exact ⟨rfl, rfl⟩
theorem digitIn10_no (c : UInt8) (w : World) (h : isDig c = false) :
    Calls Tryz.prog 104 #[.int .u8 c.toNat, .int .i64 10] w fun e w' => Panics e ∧ w = w' := by
  have hi := idx10 c
  rw [h, if_neg (by simp)] at hi
  go_enter Tryz.func104, Tryz.ntmps104
  go_wp2_with fail
  refine (Tryz.strings_IndexByte _ _ _).mono ?_
  rintro e w' ⟨rfl, rfl⟩
  go_wp2
  exact ⟨rfl, ⟨_, _, rfl⟩, rfl⟩

/-- numeral, while its limit is M: it returns the value, or panics. -/
theorem numeral_empty (M : Int) (w : World) :
    Calls Tryz.prog 90 #[.string ⟨#[]⟩, .int .u64 M] w fun e w' => Panics e ∧ w = w' := by
  go_enter Tryz.func90, Tryz.ntmps90
  go_wp2_with fail
  exact ⟨rfl, ⟨_, _, rfl⟩, rfl⟩
theorem isEmpty_of (s : ByteArray) (h : 1 ≤ s.size) : s.toList.isEmpty = false := by
  have : s.toList.length = s.size := by rw [ByteArray.toList_eq]; simp
  cases hs : s.toList with
  | nil => rw [hs] at this; simp at this; omega
  | cons a l => rfl
theorem numeral_zero (s : ByteArray) (M : Int) (w : World) (hs : s.size ≤ 9223372036854775807) (h1 : 1 < s.size) (h0 : (s[0].toNat : Int) = 48) :
    Calls Tryz.prog 90 #[.string s, .int .u64 M] w fun e w' => Panics e ∧ w = w' := by
  have h2 := isEmpty_of s (by omega)
  go_enter Tryz.func90, Tryz.ntmps90
  go_wp2_with fail
  exact ⟨rfl, ⟨_, _, rfl⟩, rfl⟩

/-- What numeral does at a string that is not empty and has no leading zero. -/
def NumPost (M : Nat) (l : List UInt8) (e : Ending) : Prop := (pref M l = true ∧ e = .returned (.int .u64 (val l))) ∨ (pref M l = false ∧ Panics e)
theorem take_snoc (s : ByteArray) (k : Nat) (h : k < s.size) : s.data.toList.take (k + 1) = s.data.toList.take k ++ [s[k]] := by
  rw [List.take_succ_eq_append_getElem (by simpa using h)]; rfl

set_option maxHeartbeats 400000 in
theorem numeral_one (s : ByteArray) (M : Nat) (w : World) (hs : s.size ≤ 9223372036854775807) (hM : 9 ≤ M) (hM2 : M ≤ 18446744073709551615) (h2 : s.toList.isEmpty = false) (h3 : s.size ≤ 1) :
    Calls Tryz.prog 90 #[.string s, .int .u64 M] w fun e w' => NumPost M s.data.toList e ∧ w = w' := by
  go_enter Tryz.func90, Tryz.ntmps90
  go_wp2_with fail
  go_loop [5, 23] (fun v i => ∃ k : Nat, k ≤ s.size ∧ i = .int .i64 k ∧ v = .int .u64 (val (s.data.toList.take k)) ∧ pref M (s.data.toList.take k) = true) (fun _ i => s.size - (intOf i).toNat)
  case atStart => exact ⟨0, Nat.zero_le _, rfl, rfl, pref_nil M⟩
  case round =>
    obtain ⟨k, hk, rfl, rfl, hp⟩ := hrel
    by_cases hlt : k < s.size
    · have hts := take_snoc s k hlt
      have Hts := Lib.hid hts; clear hts
      have hp1 : (s.data.toList.take k).all isDig = true := by simp only [pref, Bool.and_eq_true] at hp; exact hp.1
      have Hp1 := Lib.hid hp1; clear hp1
      have hp2 : val (s.data.toList.take k) ≤ M := by simp only [pref, Bool.and_eq_true, decide_eq_true_eq] at hp; exact hp.2
      clear hp
      cases hd : isDig s[k] with
      | false =>
        have Hd := Lib.hid hd; clear hd
        go_wp2_with fail
        refine (digitIn10_no s[k] _ Hd.out).mono ?_
        rintro e w' ⟨⟨t, v, rfl⟩, rfl⟩
        go_wp2_with fail
        refine ⟨rfl, .inr ⟨pref_take (k + 1) ?_, _, _, rfl⟩, rfl⟩
        rw [Hts.out, Bool.eq_false_iff]
        intro h
        rw [pref_snoc, Hd.out] at h
        exact absurd h.2.1 (by simp)
      | true =>
        have hb : 48 ≤ s[k].toNat ∧ s[k].toNat ≤ 57 := by unfold isDig at hd; simpa using hd
        obtain ⟨hb1, hb2⟩ := hb
        have Hd := Lib.hid hd; clear hd
        by_cases hv : 10 * val (s.data.toList.take k) + (s[k].toNat - 48) ≤ M
        · go_wp2_with fail
          refine (digitIn10_yes s[k] _ Hd.out).mono ?_
          rintro e w' ⟨rfl, rfl⟩
          go_wp2_with fail
          go_round
          case rel =>
            refine ⟨k + 1, by omega, by go_num, ?_, ?_⟩
            · rw [Hts.out, val_snoc]; go_num
            · rw [Hts.out, pref_snoc]; exact ⟨Hp1.out, Hd.out, hv⟩
          case measure => simp [intOf]; omega
        · go_wp2_with fail
          refine (digitIn10_yes s[k] _ Hd.out).mono ?_
          rintro e w' ⟨rfl, rfl⟩
          go_wp2_with fail
          refine ⟨rfl, .inr ⟨pref_take (k + 1) ?_, _, _, rfl⟩, rfl⟩
          rw [Hts.out, Bool.eq_false_iff]
          intro h
          rw [pref_snoc] at h
          exact absurd h.2.2 hv
    · have Hp := Lib.hid hp; clear hp
      go_wp2_with fail
      go_ret
      have e1 : k = s.size := by omega
      have e2 : s.data.toList.take k = s.data.toList := List.take_of_length_le (by simp; omega)
      rw [e2] at Hp
      exact ⟨.inl ⟨Hp.out, by rw [e2]; rfl⟩, rfl⟩
set_option maxHeartbeats 400000 in
theorem numeral_more (s : ByteArray) (M : Nat) (w : World) (hs : s.size ≤ 9223372036854775807) (hM : 9 ≤ M) (hM2 : M ≤ 18446744073709551615) (h2 : s.toList.isEmpty = false) (h3 : 1 < s.size) (h0 : ((s[0].toNat : Int) == 48) = false) :
    Calls Tryz.prog 90 #[.string s, .int .u64 M] w fun e w' => NumPost M s.data.toList e ∧ w = w' := by
  go_enter Tryz.func90, Tryz.ntmps90
  go_wp2_with fail
  go_loop [5, 23] (fun v i => ∃ k : Nat, k ≤ s.size ∧ i = .int .i64 k ∧ v = .int .u64 (val (s.data.toList.take k)) ∧ pref M (s.data.toList.take k) = true) (fun _ i => s.size - (intOf i).toNat)
  case atStart => exact ⟨0, Nat.zero_le _, rfl, rfl, pref_nil M⟩
  case round =>
    obtain ⟨k, hk, rfl, rfl, hp⟩ := hrel
    by_cases hlt : k < s.size
    · have hts := take_snoc s k hlt
      have Hts := Lib.hid hts; clear hts
      have hp1 : (s.data.toList.take k).all isDig = true := by simp only [pref, Bool.and_eq_true] at hp; exact hp.1
      have Hp1 := Lib.hid hp1; clear hp1
      have hp2 : val (s.data.toList.take k) ≤ M := by simp only [pref, Bool.and_eq_true, decide_eq_true_eq] at hp; exact hp.2
      clear hp
      cases hd : isDig s[k] with
      | false =>
        have Hd := Lib.hid hd; clear hd
        go_wp2_with fail
        refine (digitIn10_no s[k] _ Hd.out).mono ?_
        rintro e w' ⟨⟨t, v, rfl⟩, rfl⟩
        go_wp2_with fail
        refine ⟨rfl, .inr ⟨pref_take (k + 1) ?_, _, _, rfl⟩, rfl⟩
        rw [Hts.out, Bool.eq_false_iff]
        intro h
        rw [pref_snoc, Hd.out] at h
        exact absurd h.2.1 (by simp)
      | true =>
        have hb : 48 ≤ s[k].toNat ∧ s[k].toNat ≤ 57 := by unfold isDig at hd; simpa using hd
        obtain ⟨hb1, hb2⟩ := hb
        have Hd := Lib.hid hd; clear hd
        by_cases hv : 10 * val (s.data.toList.take k) + (s[k].toNat - 48) ≤ M
        · go_wp2_with fail
          refine (digitIn10_yes s[k] _ Hd.out).mono ?_
          rintro e w' ⟨rfl, rfl⟩
          go_wp2_with fail
          go_round
          case rel =>
            refine ⟨k + 1, by omega, by go_num, ?_, ?_⟩
            · rw [Hts.out, val_snoc]; go_num
            · rw [Hts.out, pref_snoc]; exact ⟨Hp1.out, Hd.out, hv⟩
          case measure => simp [intOf]; omega
        · go_wp2_with fail
          refine (digitIn10_yes s[k] _ Hd.out).mono ?_
          rintro e w' ⟨rfl, rfl⟩
          go_wp2_with fail
          refine ⟨rfl, .inr ⟨pref_take (k + 1) ?_, _, _, rfl⟩, rfl⟩
          rw [Hts.out, Bool.eq_false_iff]
          intro h
          rw [pref_snoc] at h
          exact absurd h.2.2 hv
    · have Hp := Lib.hid hp; clear hp
      go_wp2_with fail
      go_ret
      have e1 : k = s.size := by omega
      have e2 : s.data.toList.take k = s.data.toList := List.take_of_length_le (by simp; omega)
      rw [e2] at Hp
      exact ⟨.inl ⟨Hp.out, by rw [e2]; rfl⟩, rfl⟩

def NumPost' (M : Nat) (l : List UInt8) (e : Ending) : Prop := (numOk M l = true ∧ e = .returned (.int .u64 (val l))) ∨ (numOk M l = false ∧ Panics e)
theorem numeral_any (s : ByteArray) (M : Nat) (w : World) (hs : s.size ≤ 9223372036854775807) (hM : 9 ≤ M) (hM2 : M ≤ 18446744073709551615) :
    Calls Tryz.prog 90 #[.string s, .int .u64 M] w fun e w' => NumPost' M s.data.toList e ∧ w = w' := by
  by_cases h0 : s.size = 0
  · have e0 : s = ⟨#[]⟩ := by
      cases s with
      | mk d => congr; exact Array.eq_empty_of_size_eq_zero h0
    subst e0
    exact (numeral_empty M w).mono fun e w' h => ⟨.inr ⟨by simp [numOk, canon], h.1⟩, h.2⟩
  · have hl : s.data.toList.length = s.size := by simp
    have h2 := isEmpty_of s (by omega)
    by_cases h1 : 1 < s.size
    · by_cases hz : s[0] = 48
      · refine (numeral_zero s M w hs h1 (by rw [hz]; rfl)).mono fun e w' h => ⟨.inr ⟨?_, h.1⟩, h.2⟩
        have hh : s.data.toList.head? = some 48 := by
          rw [List.head?_eq_getElem?, List.getElem?_eq_getElem (by omega)]
          exact congrArg some hz
        exact numOk_zero (by omega) hh
      · refine (numeral_more s M w hs hM hM2 h2 h1 ?_).mono fun e w' h => ⟨?_, h.2⟩
        · rw [beq_eq_false_iff_ne]; intro h; apply hz; apply UInt8.toNat.inj; show s[0].toNat = 48; omega
        · have hh : s.data.toList.head? ≠ some 48 := by
            rw [List.head?_eq_getElem?, List.getElem?_eq_getElem (by omega)]
            intro h; exact hz (Option.some.inj h)
          have hc : numOk M s.data.toList = pref M s.data.toList := numOk_pref (by intro h; rw [h] at hl; simp at hl; omega) (.inr hh)
          unfold NumPost NumPost' at *; rw [hc]; exact h.1
    · refine (numeral_one s M w hs hM hM2 h2 (by omega)).mono fun e w' h => ⟨?_, h.2⟩
      have hl1 : s.data.toList.length = 1 := by omega
      have hc : numOk M s.data.toList = pref M s.data.toList := numOk_pref (by intro h; rw [h] at hl; simp at hl; omega) (.inl hl1)
      unfold NumPost NumPost' at *; rw [hc]; exact h.1
end Go.Proofs.YtcbohfncckpolaaGreatDoor.Num
