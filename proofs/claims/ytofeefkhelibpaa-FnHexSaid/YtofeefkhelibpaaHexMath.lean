/-
  Plain lemmas on hexadecimal text: reading what was written gives the bytes back, and writing what was read gives the text back.
-/
import Derived.Test.YtofeefkhelibpaaUnhexCall
namespace Go.Proofs.Ytofeefkhelibpaa.Num

theorem half_hd (n : Nat) (h : n < 16) : half (hd n) = n := by
  have h2 : ∀ k : Fin 16, half (hd k.val) = (k.val : Int) := by decide +kernel
  exact h2 ⟨n, h⟩
theorem hd_half (c : UInt8) (h : 0 ≤ half c) : hd (half c).toNat = c := by
  have h2 : ∀ k : Fin 256, 0 ≤ half (UInt8.ofNat k.val) → hd (half (UInt8.ofNat k.val)).toNat = UInt8.ofNat k.val := by decide +kernel
  have := h2 ⟨c.toNat, c.toNat_lt⟩
  simp only [UInt8.ofNat_toNat] at this
  exact this h
theorem unhexP_hexL (l : List UInt8) : unhexP (hexL l) = some l := by
  induction l with
  | nil => rfl
  | cons b l ih =>
    have hb : b.toNat < 256 := b.toNat_lt
    have e : hexL (b :: l) = hd (b.toNat / 16) :: hd (b.toNat % 16) :: hexL l := rfl
    rw [e]
    simp only [unhexP]
    rw [half_hd _ (by omega), half_hd _ (by omega), if_neg (by omega), ih]
    have h3 : (16 * ((b.toNat / 16 : Nat) : Int) + ((b.toNat % 16 : Nat) : Int)).toNat = b.toNat := by omega
    rw [h3]; simp
theorem unhexL_hexL (l : List UInt8) : unhexL (hexL l) = (l, true) := by unfold unhexL; rw [unhexP_hexL]
theorem hexL_unhexP : ∀ (l o : List UInt8), unhexP l = some o → hexL o = l
  | [], o, h => by simp [unhexP] at h; subst h; rfl
  | [_], o, h => by simp [unhexP] at h
  | a :: b :: r, o, h => by
    simp only [unhexP] at h
    split at h
    · cases h
    · rename_i hn
      obtain ⟨q, hq, rfl⟩ := Option.map_eq_some_iff.1 h
      have ha := half_range a
      have hb := half_range b
      have ih := hexL_unhexP r q hq
      have h3 : (UInt8.ofNat (16 * half a + half b).toNat).toNat = (16 * half a + half b).toNat := ofNat_toNat (by omega)
      show hd ((UInt8.ofNat (16 * half a + half b).toNat).toNat / 16) :: hd ((UInt8.ofNat (16 * half a + half b).toNat).toNat % 16) :: hexL q = a :: b :: r
      rw [h3, ih, show (16 * half a + half b).toNat / 16 = (half a).toNat by omega, show (16 * half a + half b).toNat % 16 = (half b).toNat by omega, hd_half a (by omega), hd_half b (by omega)]
theorem hexL_unhexL {l : List UInt8} (h : (unhexL l).2 = true) : hexL (unhexL l).1 = l := by
  unfold unhexL at h ⊢
  cases hu : unhexP l with
  | none => rw [hu] at h; cases h
  | some o => exact hexL_unhexP l o hu
end Go.Proofs.Ytofeefkhelibpaa.Num
