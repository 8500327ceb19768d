/-
  The walk of the reference's VarWithin: a varint that is read up to a place (withinR), told by the plain reader of a varint over what lies before that place.
-/
import Derived.Test.YtcnpdcmdnmfnaaaGreatVarGet
namespace Go.Proofs.YtcnpdcmdnmfnaaaGreat.Num
open Go.RowKit Go.Proofs
/-- VarWithin's answer, but for the place: out of what a reader finds in the bytes up to the end. -/
def withinRes (s : ByteArray) (a e : Int) : Var.Res → Int × Int × Int
  | .more => if e ≤ s.size then (0, e, 9) else (0, s.size, 10)
  | .over k => (0, a + k, 1)
  | .done v m => (v, a + m, 0)
def withinR (s : ByteArray) (a e : Int) : Int × Int × Int := if 0 ≤ a ∧ a ≤ s.size then withinRes s a e (Var.scan 0 0 ((s.data.toList.drop a.toNat).take (e - a).toNat)) else (0, s.size, 10)
theorem within_in {s : ByteArray} {A : Nat} {e : Int} (h : A ≤ s.size) : withinR s A e = withinRes s A e (Var.scan 0 0 ((s.data.toList.drop A).take (e - A).toNat)) := by
  unfold withinR; rw [if_pos ⟨by omega, by omega⟩, Int.toNat_natCast]
theorem within_out {s : ByteArray} {a e : Int} (h : ¬ (0 ≤ a ∧ a ≤ s.size)) : withinR s a e = (0, (s.size : Int), 10) := by unfold withinR; rw [if_neg h]
theorem getV_eq4 {a a' b b' c : Int} (h1 : a = a') (h2 : b = b') : Ending.returned (.tuple #[.int .u64 a, .int .i64 b, .int .i64 c]) = .returned (getV (a', b', c)) := by rw [h1, h2]; rfl
theorem take_at (s : ByteArray) (k n : Nat) (h : k < s.size) (hn : 1 ≤ n) : (s.data.toList.drop k).take n = s[k] :: (s.data.toList.drop (k + 1)).take (n - 1) := by
  obtain ⟨m, rfl⟩ : ∃ m, n = m + 1 := ⟨n - 1, by omega⟩
  rw [drop_at s k h]; simp
set_option maxHeartbeats 800000 in
set_option maxRecDepth 100000 in
theorem specWithin_in (s : ByteArray) (A : Nat) (E : Int) (w : World) (hs : s.size ≤ 281474976710656) (hA : A ≤ s.size) :
    Calls Tryz.prog 93 #[.string s, .int .i64 A, .int .i64 E] w fun e w' => e = .returned (getV (withinR s A E)) ∧ w = w' := by
  have Hr := Lib.hid (within_in (e := E) hA)
  have hA2 : (A : Int) ≤ (s.size : Int) := by omega
  have hA0 : (0 : Int) ≤ (A : Int) := by omega
  go_enter Tryz.func93, Tryz.ntmps93
  go_wp2_with fail
  refine (specIn_any _ _ _ _).mono ?_
  rintro e w3 ⟨rfl, rfl⟩
  have hd : decide ((0 : Int) ≤ (A : Int) ∧ (A : Int) ≤ (s.size : Int)) = true := decide_eq_true ⟨hA0, hA2⟩
  go_wp2_with fail
  go_loop [9, 10, 11] (fun x i _ => ∃ (k u : Nat), k ≤ 9 ∧ A + k ≤ s.size ∧ i = .int .i64 k ∧ x = .int .u64 u ∧ Hid (u < 2 ^ (7 * k)) ∧ Hid (Var.scan 0 0 ((s.data.toList.drop A).take (E - A).toNat) = Var.scan k u ((s.data.toList.drop (A + k)).take (E - ((A + k : Nat) : Int)).toNat))) (fun _ i _ => 10 - (intOf i).toNat)
  case atStart => exact ⟨0, 0, by omega, hA, rfl, rfl, Lib.hid (by decide), Lib.hid rfl⟩
  case round =>
    obtain ⟨k, u, hk, hAk, rfl, rfl, hu, hsc⟩ := hrel
    have h10 : (k : Int) < 10 := by omega
    have hw1 : IntKind.i64.wrap ((A : Int) + (k : Int)) = (A : Int) + (k : Int) := IntWalk.i64_in _ (by omega)
    by_cases hE : E ≤ (A : Int) + (k : Int)
    · go_wp2_with fail
      go_ret3
      refine ⟨?_, rfl⟩
      rw [Hr.out, hsc.out, show (E - ((A + k : Nat) : Int)).toNat = 0 by omega]
      simp only [List.take_zero, Var.scan, withinRes]
      rw [if_pos (by omega)]; rfl
    · by_cases hend : A + k < s.size
      · have hc : s[A + k].toNat < 256 := s[A + k].toNat_lt
        have hlt1 : (A : Int) + (k : Int) < (s.size : Int) := by omega
        have hlt0 : (0 : Int) ≤ (A : Int) + (k : Int) := by omega
        have Hdr := Lib.hid (take_at s (A + k) (E - ((A + k : Nat) : Int)).toNat hend (by omega))
        have Hn : Hid ((E - ((A + k : Nat) : Int)).toNat - 1 = (E - ((A + (k + 1) : Nat) : Int)).toNat) := Lib.hid (by omega)
        by_cases h9 : (k : Int) = 9
        · have hk9 : k = 9 := by omega
          subst hk9
          clear h10 hk h9
          by_cases hc1 : (1 : Int) < (s[A + 9].toNat : Int)
          · go_wp2_with fail
            go_ret3
            exact ⟨by rw [Hr.out, hsc.out, Hdr.out, scan_far (by omega)]; rfl, rfl⟩
          · have hc128 : (s[A + 9].toNat : Int) < 128 := by omega
            have Hsh := Lib.hid (shiftAdd9 u s[A + 9].toNat hu.out (by omega))
            go_wp2_with fail
            go_ret3
            exact ⟨by rw [Hr.out, hsc.out, Hdr.out, scan_stop (.inr ⟨rfl, by omega⟩) (by omega)]; exact getV_eq Hsh.out (by omega), rfl⟩
        · have h9b : ((k : Int) == 9) = false := by rw [beq_eq_false_iff_ne]; exact h9
          have Hk8 : Hid (k ≤ 8) := Lib.hid (by omega)
          have Hsh := Lib.hid (shiftAdd u k s[A + k].toNat hu.out (.inl Hk8.out))
          by_cases hc128 : (s[A + k].toNat : Int) < 128
          · go_wp2_with fail
            go_ret3
            exact ⟨by rw [Hr.out, hsc.out, Hdr.out, scan_stop (.inl Hk8.out) (by omega)]; exact getV_eq Hsh.out (by omega), rfl⟩
          · go_wp2_with fail
            rw [Hsh.out]
            exact ⟨⟨k + 1, _, by have := Hk8.out; omega, by omega, by go_num, rfl, Lib.hid (step_lt hu.out), Lib.hid (by rw [hsc.out, Hdr.out, scan_step Hk8.out (by omega), Hn.out]; rfl)⟩, by simp [intOf]; omega⟩
      · have hge : (s.size : Int) ≤ (A : Int) + (k : Int) := by omega
        go_wp2_with fail
        go_ret3
        refine ⟨?_, rfl⟩
        rw [Hr.out, hsc.out, drop_all s _ (by omega)]
        simp only [List.take_nil, Var.scan, withinRes]
        rw [if_neg (by omega)]; rfl
theorem specWithin_out (s : ByteArray) (a E : Int) (w : World) (hA : ¬ (0 ≤ a ∧ a ≤ s.size)) :
    Calls Tryz.prog 93 #[.string s, .int .i64 a, .int .i64 E] w fun e w' => e = .returned (getV (withinR s a E)) ∧ w = w' := by
  have Hr := Lib.hid (within_out (e := E) hA)
  have hd : decide (0 ≤ a ∧ a ≤ (s.size : Int)) = false := decide_eq_false hA
  go_enter Tryz.func93, Tryz.ntmps93
  go_wp2_with fail
  refine (specIn_any _ _ _ _).mono ?_
  rintro e w3 ⟨rfl, rfl⟩
  go_wp2_with fail
  go_ret3
  exact ⟨by rw [Hr.out]; rfl, rfl⟩
theorem specWithin_any (s : ByteArray) (a E : Int) (w : World) (hs : s.size ≤ 281474976710656) :
    Calls Tryz.prog 93 #[.string s, .int .i64 a, .int .i64 E] w fun e w' => e = .returned (getV (withinR s a E)) ∧ w = w' := by
  by_cases hA : 0 ≤ a ∧ a ≤ (s.size : Int)
  · obtain ⟨A, rfl⟩ := Int.eq_ofNat_of_zero_le hA.1
    exact specWithin_in s A E w hs (by have := hA.2; omega)
  · exact specWithin_out s a E w hA
end Go.Proofs.YtcnpdcmdnmfnaaaGreat.Num
