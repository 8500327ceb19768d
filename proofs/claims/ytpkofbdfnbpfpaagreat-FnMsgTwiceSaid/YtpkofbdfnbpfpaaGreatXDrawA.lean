/-
  Several texts in one: DrawNo DrawWide DrawVar UtfRune Rune UtfGood Pick DrawBytes Spoil DrawUtf DrawMsg DrawTurn DrawUnk.
-/
import Derived.Test.YtpkofbdfnbpfpaaGreatDraw
import Derived.Test.YtpkofbdfnbpfpaaGreatXSpecA
import Derived.Test.YtpkofbdfnbpfpaaGreatDrawOnce
import Derived.Test.YtpkofbdfnbpfpaaGreatXUtf
import Derived.Test.YtpkofbdfnbpfpaaGreatBytes
import Derived.Laws.OwnMore
import Derived.Deep.RegionWith
import Derived.Deep.DrawnRows
import Derived.Test.YtpkofbdfnbpfpaaGreatDrawPickInt
import Derived.Test.YtpkofbdfnbpfpaaGreatKind
import Derived.Deep.RegionLaw
import Derived.Deep.DeepCutAuto
import Derived.Test.YtpkofbdfnbpfpaaGreatBox

/-
  The walk of the reference's draw of a field number (l4Number): some number; nothing that was there is written but the cursor.
-/
namespace Go.Proofs.YtpkofbdfnbpfpaaGreat.Num
open Go.RowKit Go.Proofs
set_option linter.unusedVariables false

theorem Box.offAt {w w' : World} {C g k : Nat} {vs : List Value} (h : Off C g w w') (hx : Box w k vs) (hk : k < C) (hg : k ≠ g) : Box w' k vs :=
  ⟨Nat.lt_of_lt_of_le hx.1 h.size, fun j hj => by
    have hb := h.block k hk hg
    exact ⟨(World.cell?_of_block (a := ⟨k, j, none⟩) hb).trans (hx.2 j hj).1, (World.frozen?_of_block (a := ⟨k, j, none⟩) hb).trans (hx.2 j hj).2⟩⟩
def i64R (n : Int) : Prop := -9223372036854775808 ≤ n ∧ n ≤ 9223372036854775807
set_option maxHeartbeats 400000 in
theorem l4Number_any (B g : Nat) (a : Option Addr) (len cap : Nat) (w : World) (h : Cur w B g a len cap) (hB : B ≤ w.heap.size) (hg : g < w.heap.size) :
    Calls Tryz.prog 131 #[.pointer (some ⟨g, 0, none⟩)] w fun e w' => ∃ z : Int, i64R z ∧ e = .returned (.int .i64 z) ∧ Cur w' B g a len cap ∧ Off w.heap.size g w w' := by
  have H := Lib.hid h; clear h
  go_enter Tryz.func131, Tryz.ntmps131
  go_wp2_with fail
  refine (l1Once_any B g a len cap _ _ H.out (by omega)).mono ?_
  rintro e w1 ⟨b, rfl, hc1, ho1⟩
  have Hc1 := Lib.hid hc1; clear hc1
  have hf1 : Off w.heap.size g w w1 := Only.off ho1 (Nat.le_refl _)
  have hz1 := ho1.size
  clear ho1
  cases b with
  | true =>
    go_wp2_with fail
    refine (l1PickInt_any _ g a len cap _ 10 10 [0, 1, -1, 18999, 19000, 19999, 20000, 536870911, 536870912, 9223372036854775807] _ _ _ _ (Hc1.out.other ((Below.refl w1.heap.size _).alloc (Nat.le_refl _) _) (by omega) (by omega)) (heap_alloc_new _ _) rfl rfl (by omega) (by omega) (by omega)).mono ?_
    rintro e w2 ⟨z, hz, rfl, hc2, ho2⟩
    have Hz := Lib.hid hz
    have Hc2 := Lib.hid hc2
    have hf2 : Off w.heap.size g w1 w2 := (Below.off ((Below.refl _ _).alloc (by omega) _)).trans (Only.off ho2 (by simp; omega))
    clear hz hc2 ho2
    go_wp2_with fail
    go_ret
    exact ⟨z, by have := Hz.out; simp only [List.mem_cons, List.not_mem_nil, or_false] at this; unfold i64R; omega, rfl, Hc2.out, hf1.trans hf2⟩
  | false =>
    go_wp2_with fail
    refine (l1Below_any B g a len cap _ _ Hc1.out (by omega)).mono ?_
    rintro e w2 ⟨r, r0, r1, rfl, hc2, ho2⟩
    have hr : r < 20 := r1 (by omega)
    have hw : IntKind.i64.wrap (1 + r) = 1 + r := IntWalk.i64_in _ (by omega)
    have Hc2 := Lib.hid hc2
    have hf2 : Off w.heap.size g w1 w2 := Only.off ho2 (by omega)
    clear hc2 ho2 r1
    go_wp2_with fail
    go_ret
    exact ⟨1 + r, by unfold i64R; omega, rfl, Hc2.out, hf1.trans hf2⟩
end Go.Proofs.YtpkofbdfnbpfpaaGreat.Num


/-
  The walk of the reference's l1Wide: some number of the type uint64; of what was there only the cursor's block is written.
-/
namespace Go.Proofs.YtpkofbdfnbpfpaaGreat.Num
open Go.RowKit Go.Proofs

/-- Some number of the type uint64. -/
def WideP (B g : Nat) (a : Option Addr) (len cap : Nat) (w : World) (e : Ending) (w' : World) : Prop := ∃ u : Nat, u ≤ 18446744073709551615 ∧ e = .returned (.int .u64 u) ∧ Cur w' B g a len cap ∧ Off w.heap.size g w w'
theorem wrap_u64_nat (x : Int) : ∃ u : Nat, u ≤ 18446744073709551615 ∧ IntKind.u64.wrap x = u := ⟨(x % 18446744073709551616).toNat, by omega, by rw [IntKind.wrap_u64]; omega⟩
set_option maxHeartbeats 400000 in
set_option maxRecDepth 100000 in
theorem l1Wide_any (B g : Nat) (a : Option Addr) (len cap : Nat) (w : World) (h : Cur w B g a len cap) (hg : g < w.heap.size) :
    Calls Tryz.prog 124 #[.pointer (some ⟨g, 0, none⟩)] w (WideP B g a len cap w) := by
  have hgB : B ≤ g := h.choose_spec.choose_spec.1
  have H := Lib.hid h; clear h
  go_enter Tryz.func124, Tryz.ntmps124
  go_wp2_with fail
  refine (l1Below_any B g a len cap _ _ H.out (by omega)).mono ?_
  rintro e w1 ⟨r, r0, r1, rfl, hc1, ho1⟩
  clear r1
  have Hc1 := Lib.hid hc1; clear hc1
  have hf1 : Off w.heap.size g w w1 := Only.off ho1 (Nat.le_refl _)
  have hz1 := ho1.size
  clear ho1
  by_cases c0 : r = 0
  · subst c0
    go_wp2_with fail
    refine (l1Below_any B g a len cap _ _ (Hc1.out.other ((Below.refl w1.heap.size _).alloc (Nat.le_refl _) _) (by omega) (by omega)) (by omega)).mono ?_
    rintro e w2 ⟨q, q0, q1, rfl, hc2, ho2⟩
    have hq : q < 12 := q1 (by omega)
    clear q1
    have Hc2 := Lib.hid hc2; clear hc2
    obtain ⟨k, rfl⟩ := Int.eq_ofNat_of_zero_le q0
    have hblk2 := (ho2.block w1.heap.size (by simp) (by intro e; have := Option.some.inj e; omega)).trans (heap_alloc_new w1 _)
    have hf2 : Off w.heap.size g w1 w2 := (Below.off ((Below.refl _ _).alloc (by omega) _)).trans (Only.off ho2 (by simp; omega))
    obtain ⟨z, hz, hcell⟩ : ∃ z : Nat, Hid (z ≤ 18446744073709551615) ∧ w2.cell? ⟨w1.heap.size, k, none⟩ = some (.int .u64 z) := by
      rw [cell_of_row w2 _ k _ _ _ hblk2]
      have hk : k < 12 := by omega
      match k, hk with
      | 0, _ => exact ⟨0, Lib.hid (by omega), rfl⟩
      | 1, _ => exact ⟨1, Lib.hid (by omega), rfl⟩
      | 2, _ => exact ⟨127, Lib.hid (by omega), rfl⟩
      | 3, _ => exact ⟨128, Lib.hid (by omega), rfl⟩
      | 4, _ => exact ⟨16383, Lib.hid (by omega), rfl⟩
      | 5, _ => exact ⟨16384, Lib.hid (by omega), rfl⟩
      | 6, _ => exact ⟨2147483647, Lib.hid (by omega), rfl⟩
      | 7, _ => exact ⟨4294967295, Lib.hid (by omega), rfl⟩
      | 8, _ => exact ⟨4294967296, Lib.hid (by omega), rfl⟩
      | 9, _ => exact ⟨9223372036854775807, Lib.hid (by omega), rfl⟩
      | 10, _ => exact ⟨9223372036854775808, Lib.hid (by omega), rfl⟩
      | 11, _ => exact ⟨18446744073709551615, Lib.hid (by omega), rfl⟩
    clear ho2 hblk2
    go_wp2_with fail
    go_ret
    exact ⟨z, hz.out, rfl, Hc2.out, hf1.trans hf2⟩
  · have n0 : (r == 0) = false := by rw [beq_eq_false_iff_ne]; exact c0
    by_cases c1 : r = 1
    · subst c1
      clear c0 n0
      go_wp2_with fail
      go_loopw [3, 4] (fun x i wr => ∃ (k : Nat) (u : Nat), k ≤ 8 ∧ i = .int .i64 k ∧ x = .int .u64 u ∧ Hid (u ≤ 18446744073709551615) ∧ Hid (Cur wr B g a len cap) ∧ Off w.heap.size g w1 wr ∧ w1.heap.size ≤ wr.heap.size) (fun _ i _ => 8 - (intOf i).toNat)
      case atStart => exact ⟨0, 0, by omega, rfl, rfl, Lib.hid (by omega), Hc1, Off.refl _ _ _, Nat.le_refl _⟩
      case round =>
        obtain ⟨k, u, hk, rfl, rfl, hu, hc, hb, hz⟩ := hrel
        by_cases hlt : (k : Int) < 8
        · go_wp2_with fail
          refine (l1Byte_any B g a len cap _ hc.out).mono ?_
          rintro e w2 ⟨x, x0, x1, rfl, hc2, ho2⟩
          have Hc2 := Lib.hid hc2; clear hc2
          have hf2 : Off w.heap.size g wr w2 := Only.off ho2 (by omega)
          have hz2 := ho2.size
          clear ho2
          go_wp2_with fail
          go_roundw
          case rel =>
            obtain ⟨u', hu', eu⟩ := wrap_u64_nat (IntKind.u64.wrap (256 * (u : Int)) + x)
            exact ⟨k + 1, u', by omega, by go_num, by rw [eu], Lib.hid hu', Hc2, hb.trans hf2, by omega⟩
          case measure => simp [intOf]; omega
        · go_wp2_with fail
          go_ret
          exact ⟨u, hu.out, rfl, hc.out, hf1.trans hb⟩
    · have n1 : (r == 1) = false := by rw [beq_eq_false_iff_ne]; exact c1
      clear c0 c1
      go_wp2_with fail
      refine (l1Below_any B g a len cap _ _ Hc1.out (by omega)).mono ?_
      rintro e w2 ⟨q, q0, q1, rfl, hc2, ho2⟩
      have hq : q < 300 := q1 (by omega)
      have hf2 : Off w.heap.size g w1 w2 := Only.off ho2 (by omega)
      have Hc2 := Lib.hid hc2
      clear ho2 hc2 q1
      obtain ⟨k, rfl⟩ := Int.eq_ofNat_of_zero_le q0
      go_wp2_with fail
      go_ret
      exact ⟨k, by omega, rfl, Hc2.out, hf1.trans hf2⟩
end Go.Proofs.YtpkofbdfnbpfpaaGreat.Num


/-
  The walks of the reference's DrawPutVar, DrawPadVar and l2Var: each gives some number or short string; nothing that was there is written but the cursor.
-/
namespace Go.Proofs.YtpkofbdfnbpfpaaGreat.Num
open Go.RowKit Go.Proofs

theorem varS_size (u : Nat) (hu : u ≤ 18446744073709551615) : (varS u).size ≤ 10 := by
  have := Var.varLen_64 hu
  unfold varS ByteArray.size; simp only [List.size_toArray, Var.put_length]; exact this
theorem padS_size (u : Nat) (n : Int) : (padS u n).size ≤ 10 := by
  unfold padS
  split
  · unfold ByteArray.size; simp only [List.size_toArray, Var.enc_length]; omega
  · exact Nat.zero_le _
set_option maxHeartbeats 400000 in
theorem l2Var_any (B g : Nat) (a : Option Addr) (len cap : Nat) (u : Nat) (w : World) (h : Cur w B g a len cap) (hB : B ≤ w.heap.size) (hg : g < w.heap.size) (hu : u ≤ 18446744073709551615) :
    Calls Tryz.prog 122 #[.pointer (some ⟨g, 0, none⟩), .int .u64 u] w fun e w' => ∃ s : ByteArray, s.size ≤ 10 ∧ e = .returned (.string s) ∧ Cur w' B g a len cap ∧ Off w.heap.size g w w' := by
  have H := Lib.hid h; clear h
  have HU := Lib.hid hu
  have hl0 := Var.varLen_64 hu
  go_enter Tryz.func122, Tryz.ntmps122
  go_wp2_with fail
  refine (l1Once_any B g a len cap _ _ H.out (by omega)).mono ?_
  rintro e w1 ⟨b, rfl, hc1, ho1⟩
  have Hc1 := Lib.hid hc1; clear hc1
  have hf1 : Off w.heap.size g w w1 := Only.off ho1 (Nat.le_refl _)
  have hz1 := ho1.size
  clear ho1
  have tail : ∀ w2, Hid (Cur w2 B g a len cap) → Off w.heap.size g w w2 → w.heap.size ≤ w2.heap.size → Calls Tryz.prog 80 #[.int .u64 u] w2 fun e w' => e = .returned (.string (varS u)) ∧ Cur w' B g a len cap ∧ Off w.heap.size g w w' := fun w2 hc hf hz => (specPutVar_any u w2 HU.out).mono fun e w' ⟨he, hb⟩ => ⟨he, hc.out.other hb (by omega) (by omega), hf.trans (Below.off (hb.mono hz))⟩
  have Htail := Lib.hid tail; clear tail
  cases b with
  | false =>
    go_wp2_with fail
    refine (Htail.out _ Hc1 hf1 hz1).mono ?_
    rintro e w2 ⟨rfl, hc2, hf2⟩
    have Hc2 := Lib.hid hc2; clear hc2
    go_wp2_with fail
    go_ret
    exact ⟨_, varS_size u HU.out, rfl, Hc2.out, hf2⟩
  | true =>
    go_wp2_with fail
    refine (specVarLen_any u _ HU.out).mono ?_
    rintro e w2 ⟨rfl, hb2⟩
    have Hc2 : Hid (Cur w2 B g a len cap) := Lib.hid (Hc1.out.other hb2 (by omega) (by omega))
    have hf2 := hf1.trans (Below.off (hb2.mono hz1))
    have hz2 := hb2.size
    clear hb2
    go_wp2_with fail
    refine (l1Below_any B g a len cap _ _ Hc2.out (by omega)).mono ?_
    rintro e w3 ⟨r, r0, r1, rfl, hc3, ho3⟩
    have hr : r < 3 := r1 (by omega)
    have Hc3 := Lib.hid hc3; clear hc3
    have hf3 := hf2.trans (Only.off ho3 (by omega))
    have hz3 := ho3.size
    clear r1 ho3
    have hw : IntKind.i64.wrap ((Var.varLen u : Int) + r) = (Var.varLen u : Int) + r := IntWalk.i64_in _ (by omega)
    go_wp2_with fail
    refine (specPadVar_any u _ _ HU.out).mono ?_
    rintro e w4 ⟨rfl, hb4⟩
    have Hc4 : Hid (Cur w4 B g a len cap) := Lib.hid (Hc3.out.other hb4 (by omega) (by omega))
    have hf4 := hf3.trans (Below.off (hb4.mono (by omega)))
    have hz4 := hb4.size
    have Hps := Lib.hid (padS_size u ((Var.varLen u : Int) + r))
    generalize padS u ((Var.varLen u : Int) + r) = t at Hps
    clear hb4
    cases ht : t.toList.isEmpty with
    | true =>
      go_wp2_with fail
      refine (Htail.out _ Hc4 hf4 (by omega)).mono ?_
      rintro e w2 ⟨rfl, hc2, hf2⟩
      have Hc5 := Lib.hid hc2; clear hc2
      go_wp2_with fail
      go_ret
      exact ⟨_, varS_size u HU.out, rfl, Hc5.out, hf2⟩
    | false =>
      go_wp2_with fail
      go_ret
      exact ⟨_, Hps.out, rfl, Hc4.out, hf4⟩
end Go.Proofs.YtpkofbdfnbpfpaaGreat.Num


/-
  Plain lemmas on code points and the validator: the bytes of a code point lead from the zero state back to it; cut by one they lead to the state that wants one byte; a good text begins with the bytes of a code point.
-/
namespace Go.Proofs.YtpkofbdfnbpfpaaGreat.Utf
set_option linter.unusedVariables false
end Go.Proofs.YtpkofbdfnbpfpaaGreat.Utf


/-
  The walk of the reference's RuneText: it gives the bytes of the code point; only new memory is written.
-/
namespace Go.Proofs.YtpkofbdfnbpfpaaGreat.Num
open Go.RowKit Go.Proofs
set_option linter.unusedVariables false

def runeS (n : Int) : ByteArray := ⟨(Utf.rune n).toArray⟩
/-- 'string([]byte{..})': the bytes of a block that was just made. -/
theorem conv_lit {P : Program} (src dst E : TypeId) (hs : P.underlying src = some (.slice E)) (he : P.underlying E = some (.int .u8)) (hd : P.underlying dst = some .string) (w : World) (C : Array Value) (l : List UInt8) (n : Nat) (hn : l.length = n) (hm : n ≤ 4) (hC : C.toList = l.map byteV) :
    (convert src dst (.slice (some ⟨w.heap.size, 0, none⟩) n n)).run P (w.alloc (.cells C E)) = .ok (.string ⟨l.toArray⟩) (w.alloc (.cells C E)) := by
  subst hn
  refine run_convB (B := w.heap.size) (E := E) src dst hs he hd ?_
  unfold OwnB
  rw [← hC]
  exact World.ownsRow_lit w C l.length (Nat.le_refl _) (by unfold maxLen; omega) (by rw [← Array.length_toList, hC, List.length_map, Nat.mul_one])
theorem u8V {n : Nat} {x : Int} (h : n < 256) (hx : x = (n : Int)) : Value.int .u8 x = byteV (Utf.u8 n) := by unfold byteV; rw [Utf.u8_toNat h, hx]
set_option maxHeartbeats 1000000 in
set_option maxRecDepth 100000 in
theorem specRuneText_any (n : Int) (w : World) :
    Calls Tryz.prog 157 #[.int .i64 n] w fun e w' => e = .returned (.string (runeS n)) ∧ Below w.heap.size w w' := by
  rcases Utf.rune_cases n with ⟨hno, hr⟩ | ⟨k, rfl, hyes, hc⟩
  · have He : Hid (runeS n = ⟨#[]⟩) := Lib.hid (by unfold runeS; rw [hr])
    rw [He.out]
    clear hr He
    unfold Utf.Right at hno
    by_cases h1 : 0 ≤ n ∧ n ≤ 1114111
    · have h2 : 55296 ≤ n ∧ n ≤ 57343 := by omega
      have H1 := Lib.hid h1; have H2 := Lib.hid h2; clear h1 h2 hno
      go_enter Tryz.func157, Tryz.ntmps157
      go_wp2_with fail
      refine (specInYes _ _ _ _ H1.out).mono ?_
      rintro e w1 ⟨rfl, rfl⟩
      go_wp2_with fail
      refine (specInYes _ _ _ _ H2.out).mono ?_
      rintro e w1 ⟨rfl, rfl⟩
      go_wp2_with fail
      go_ret
      exact ⟨rfl, Below.refl _ _⟩
    · have H1 := Lib.hid h1; clear h1 hno
      go_enter Tryz.func157, Tryz.ntmps157
      go_wp2_with fail
      refine (specInNo _ _ _ _ H1.out).mono ?_
      rintro e w1 ⟨rfl, rfl⟩
      go_wp2_with fail
      go_ret
      exact ⟨rfl, Below.refl _ _⟩
  · have h12 := hyes
    unfold Utf.Right at h12
    have H1 := Lib.hid h12.1; have H2 := Lib.hid h12.2; clear h12 hyes
    rcases hc with h | ⟨h0, h⟩ | ⟨h0, h, hs⟩ | ⟨h0, h⟩
    · have He : Hid (runeS (k : Int) = ⟨#[Utf.u8 k]⟩) := Lib.hid (by unfold runeS; rw [Utf.rune_1 h])
      have hi : (k : Int) < 128 := by omega
      have hw1 : IntKind.u8.wrap (k : Int) = (k : Int) := IntWalk.u8_in _ (by omega)
      have hcv := conv_lit (P := Tryz.prog) 22 9 5 Tryz.underlying22 Tryz.underlying5 Tryz.underlying9 w #[.int .u8 (k : Int)] [Utf.u8 k] 1 rfl (by omega) (by simp [u8V (n := k) (by omega) rfl])
      rw [He.out]
      clear h He
      go_enter Tryz.func157, Tryz.ntmps157
      go_wp2_with fail
      refine (specInYes _ _ _ _ H1.out).mono ?_
      rintro e w1 ⟨rfl, rfl⟩
      go_wp2_with fail
      refine (specInNo _ _ _ _ H2.out).mono ?_
      rintro e w1 ⟨rfl, rfl⟩
      go_wp2_with fail
      go_ret
      exact ⟨rfl, (Below.refl _ _).alloc (Nat.le_refl _) _⟩
    · have He : Hid (runeS (k : Int) = ⟨#[Utf.u8 (192 + k / 64), Utf.u8 (128 + k % 64)]⟩) := Lib.hid (by unfold runeS; rw [Utf.rune_2 h0 h])
      have d10 : decide ((k : Int) < 128) = false := decide_eq_false (by omega)
      have f10 : decide (k < 128) = false := decide_eq_false (by omega)
      have d20 : decide ((k : Int) < 2048) = true := decide_eq_true (by omega)
      have f20 : decide (k < 2048) = true := decide_eq_true (by omega)
      have i2 : (k : Int) ≤ 1114111 := by omega
      have hw1 : IntKind.i64.wrap (192 + (k : Int) / 64) = 192 + (k : Int) / 64 := IntWalk.i64_in _ (by omega)
      have hw2 : IntKind.u8.wrap (192 + (k : Int) / 64) = 192 + (k : Int) / 64 := IntWalk.u8_in _ (by omega)
      have hw3 : IntKind.i64.wrap (128 + (k : Int) % 64) = 128 + (k : Int) % 64 := IntWalk.i64_in _ (by omega)
      have hw4 : IntKind.u8.wrap (128 + (k : Int) % 64) = 128 + (k : Int) % 64 := IntWalk.u8_in _ (by omega)
      have hcv := conv_lit (P := Tryz.prog) 22 9 5 Tryz.underlying22 Tryz.underlying5 Tryz.underlying9 w #[.int .u8 (192 + (k : Int) / 64), .int .u8 (128 + (k : Int) % 64)] [Utf.u8 (192 + k / 64), Utf.u8 (128 + k % 64)] 2 rfl (by omega)
        (by simp only [List.map_cons, List.map_nil]; rw [u8V (n := 192 + k / 64) (x := 192 + (k : Int) / 64) (by omega) (by omega), u8V (n := 128 + k % 64) (x := 128 + (k : Int) % 64) (by omega) (by omega)])
      rw [He.out]
      clear h0 h He
      go_enter Tryz.func157, Tryz.ntmps157
      go_wp2_with fail
      refine (specInYes _ _ _ _ H1.out).mono ?_
      rintro e w1 ⟨rfl, rfl⟩
      go_wp2_with fail
      refine (specInNo _ _ _ _ H2.out).mono ?_
      rintro e w1 ⟨rfl, rfl⟩
      go_wp2_with fail
      go_ret
      exact ⟨rfl, (Below.refl _ _).alloc (Nat.le_refl _) _⟩
    · have He : Hid (runeS (k : Int) = ⟨#[Utf.u8 (224 + k / 4096), Utf.u8 (128 + k / 64 % 64), Utf.u8 (128 + k % 64)]⟩) := Lib.hid (by unfold runeS; rw [Utf.rune_3 h0 h hs])
      have d10 : decide ((k : Int) < 128) = false := decide_eq_false (by omega)
      have f10 : decide (k < 128) = false := decide_eq_false (by omega)
      have d11 : decide ((k : Int) < 2048) = false := decide_eq_false (by omega)
      have f11 : decide (k < 2048) = false := decide_eq_false (by omega)
      have d20 : decide ((k : Int) < 65536) = true := decide_eq_true (by omega)
      have f20 : decide (k < 65536) = true := decide_eq_true (by omega)
      have i2 : (k : Int) ≤ 1114111 := by omega
      obtain ⟨q0, hq0⟩ : ∃ q : Nat, q = k / 4096 := ⟨_, rfl⟩
      have e0 : (k : Int) / 4096 = (q0 : Int) := by omega
      have l0 : q0 < 32 := by omega
      obtain ⟨p1, hp1⟩ : ∃ p : Nat, p = k / 64 := ⟨_, rfl⟩
      have d1 : (k : Int) / 64 = (p1 : Int) := by omega
      obtain ⟨q1, hq1⟩ : ∃ q : Nat, q = p1 % 64 := ⟨_, rfl⟩
      have e1 : (p1 : Int) % 64 = (q1 : Int) := by omega
      have l1 : q1 < 64 := by omega
      obtain ⟨q2, hq2⟩ : ∃ q : Nat, q = k % 64 := ⟨_, rfl⟩
      have e2 : (k : Int) % 64 = (q2 : Int) := by omega
      have l2 : q2 < 64 := by omega
      have hw0 : IntKind.i64.wrap (224 + (q0 : Int)) = 224 + (q0 : Int) := IntWalk.i64_in _ (by omega)
      have hv0 : IntKind.u8.wrap (224 + (q0 : Int)) = 224 + (q0 : Int) := IntWalk.u8_in _ (by omega)
      have hw1 : IntKind.i64.wrap (128 + (q1 : Int)) = 128 + (q1 : Int) := IntWalk.i64_in _ (by omega)
      have hv1 : IntKind.u8.wrap (128 + (q1 : Int)) = 128 + (q1 : Int) := IntWalk.u8_in _ (by omega)
      have hw2 : IntKind.i64.wrap (128 + (q2 : Int)) = 128 + (q2 : Int) := IntWalk.i64_in _ (by omega)
      have hv2 : IntKind.u8.wrap (128 + (q2 : Int)) = 128 + (q2 : Int) := IntWalk.u8_in _ (by omega)
      have hcv := conv_lit (P := Tryz.prog) 22 9 5 Tryz.underlying22 Tryz.underlying5 Tryz.underlying9 w #[.int .u8 (224 + (q0 : Int)), .int .u8 (128 + (q1 : Int)), .int .u8 (128 + (q2 : Int))] [Utf.u8 (224 + k / 4096), Utf.u8 (128 + k / 64 % 64), Utf.u8 (128 + k % 64)] 3 rfl (by omega)
        (by simp only [List.map_cons, List.map_nil]; rw [u8V (n := 224 + k / 4096) (x := 224 + (q0 : Int)) (by omega) (by omega), u8V (n := 128 + k / 64 % 64) (x := 128 + (q1 : Int)) (by omega) (by omega), u8V (n := 128 + k % 64) (x := 128 + (q2 : Int)) (by omega) (by omega)])
      rw [He.out]
      clear h0 h hs He hq0 hq1 hq2 hp1
      go_enter Tryz.func157, Tryz.ntmps157
      go_wp2_with fail
      refine (specInYes _ _ _ _ H1.out).mono ?_
      rintro e w1 ⟨rfl, rfl⟩
      go_wp2_with fail
      refine (specInNo _ _ _ _ H2.out).mono ?_
      rintro e w1 ⟨rfl, rfl⟩
      go_wp2_with fail
      go_ret
      exact ⟨rfl, (Below.refl _ _).alloc (Nat.le_refl _) _⟩
    · have He : Hid (runeS (k : Int) = ⟨#[Utf.u8 (240 + k / 262144), Utf.u8 (128 + k / 4096 % 64), Utf.u8 (128 + k / 64 % 64), Utf.u8 (128 + k % 64)]⟩) := Lib.hid (by unfold runeS; rw [Utf.rune_4 h0 h])
      have d10 : decide ((k : Int) < 128) = false := decide_eq_false (by omega)
      have f10 : decide (k < 128) = false := decide_eq_false (by omega)
      have d11 : decide ((k : Int) < 2048) = false := decide_eq_false (by omega)
      have f11 : decide (k < 2048) = false := decide_eq_false (by omega)
      have d12 : decide ((k : Int) < 65536) = false := decide_eq_false (by omega)
      have f12 : decide (k < 65536) = false := decide_eq_false (by omega)
      have i2 : (k : Int) ≤ 1114111 := by omega
      obtain ⟨q0, hq0⟩ : ∃ q : Nat, q = k / 262144 := ⟨_, rfl⟩
      have e0 : (k : Int) / 262144 = (q0 : Int) := by omega
      have l0 : q0 < 16 := by omega
      obtain ⟨p1, hp1⟩ : ∃ p : Nat, p = k / 4096 := ⟨_, rfl⟩
      have d1 : (k : Int) / 4096 = (p1 : Int) := by omega
      obtain ⟨q1, hq1⟩ : ∃ q : Nat, q = p1 % 64 := ⟨_, rfl⟩
      have e1 : (p1 : Int) % 64 = (q1 : Int) := by omega
      have l1 : q1 < 64 := by omega
      obtain ⟨p2, hp2⟩ : ∃ p : Nat, p = k / 64 := ⟨_, rfl⟩
      have d2 : (k : Int) / 64 = (p2 : Int) := by omega
      obtain ⟨q2, hq2⟩ : ∃ q : Nat, q = p2 % 64 := ⟨_, rfl⟩
      have e2 : (p2 : Int) % 64 = (q2 : Int) := by omega
      have l2 : q2 < 64 := by omega
      obtain ⟨q3, hq3⟩ : ∃ q : Nat, q = k % 64 := ⟨_, rfl⟩
      have e3 : (k : Int) % 64 = (q3 : Int) := by omega
      have l3 : q3 < 64 := by omega
      have hw0 : IntKind.i64.wrap (240 + (q0 : Int)) = 240 + (q0 : Int) := IntWalk.i64_in _ (by omega)
      have hv0 : IntKind.u8.wrap (240 + (q0 : Int)) = 240 + (q0 : Int) := IntWalk.u8_in _ (by omega)
      have hw1 : IntKind.i64.wrap (128 + (q1 : Int)) = 128 + (q1 : Int) := IntWalk.i64_in _ (by omega)
      have hv1 : IntKind.u8.wrap (128 + (q1 : Int)) = 128 + (q1 : Int) := IntWalk.u8_in _ (by omega)
      have hw2 : IntKind.i64.wrap (128 + (q2 : Int)) = 128 + (q2 : Int) := IntWalk.i64_in _ (by omega)
      have hv2 : IntKind.u8.wrap (128 + (q2 : Int)) = 128 + (q2 : Int) := IntWalk.u8_in _ (by omega)
      have hw3 : IntKind.i64.wrap (128 + (q3 : Int)) = 128 + (q3 : Int) := IntWalk.i64_in _ (by omega)
      have hv3 : IntKind.u8.wrap (128 + (q3 : Int)) = 128 + (q3 : Int) := IntWalk.u8_in _ (by omega)
      have hcv := conv_lit (P := Tryz.prog) 22 9 5 Tryz.underlying22 Tryz.underlying5 Tryz.underlying9 w #[.int .u8 (240 + (q0 : Int)), .int .u8 (128 + (q1 : Int)), .int .u8 (128 + (q2 : Int)), .int .u8 (128 + (q3 : Int))] [Utf.u8 (240 + k / 262144), Utf.u8 (128 + k / 4096 % 64), Utf.u8 (128 + k / 64 % 64), Utf.u8 (128 + k % 64)] 4 rfl (by omega)
        (by simp only [List.map_cons, List.map_nil]; rw [u8V (n := 240 + k / 262144) (x := 240 + (q0 : Int)) (by omega) (by omega), u8V (n := 128 + k / 4096 % 64) (x := 128 + (q1 : Int)) (by omega) (by omega), u8V (n := 128 + k / 64 % 64) (x := 128 + (q2 : Int)) (by omega) (by omega), u8V (n := 128 + k % 64) (x := 128 + (q3 : Int)) (by omega) (by omega)])
      rw [He.out]
      clear h0 h He hq0 hq1 hq2 hq3 hp1 hp2
      go_enter Tryz.func157, Tryz.ntmps157
      go_wp2_with fail
      refine (specInYes _ _ _ _ H1.out).mono ?_
      rintro e w1 ⟨rfl, rfl⟩
      go_wp2_with fail
      refine (specInNo _ _ _ _ H2.out).mono ?_
      rintro e w1 ⟨rfl, rfl⟩
      go_wp2_with fail
      go_ret
      exact ⟨rfl, (Below.refl _ _).alloc (Nat.le_refl _) _⟩
end Go.Proofs.YtpkofbdfnbpfpaaGreat.Num


/-
  The walks of the reference's UtfGood and UtfState: they give what the plain validator gives; only new memory is written.
-/
namespace Go.Proofs.YtpkofbdfnbpfpaaGreat.Num
open Go.RowKit Go.Proofs
set_option linter.unusedVariables false
end Go.Proofs.YtpkofbdfnbpfpaaGreat.Num


/-
  The walk of the reference's l1Pick: one string of a list that lies in a block of its own; of what was there only the cursor's block is written.
-/
namespace Go.Proofs.YtpkofbdfnbpfpaaGreat.Num
open Go.RowKit Go.Proofs

def PickP (B g : Nat) (a : Option Addr) (len cap : Nat) (ss : List ByteArray) (w : World) (e : Ending) (w' : World) : Prop :=
  ∃ s, s ∈ ss ∧ e = .returned (.string s) ∧ Cur w' B g a len cap ∧ Only g w w'
set_option maxHeartbeats 400000 in
theorem l1Pick_any (B g : Nat) (a : Option Addr) (len cap : Nat) (b m c : Nat) (ss : List ByteArray) (C : Array Value) (T : TypeId) (fr : Nat × Nat) (w : World) (h : Cur w B g a len cap) (hblk : w.heap[b]? = some (.cells C T fr)) (hC : C.toList = ss.map Value.string)
    (hm : m = ss.length) (h0 : 0 < m) (h1 : m ≤ 256) (hbg : b ≠ g) :
    Calls Tryz.prog 159 #[.pointer (some ⟨g, 0, none⟩), .slice (some ⟨b, 0, none⟩) m c] w (PickP B g a len cap ss w) := by
  have H := Lib.hid h; clear h
  have Hblk := Lib.hid hblk
  have HC := Lib.hid hC; clear hC
  have Hm := Lib.hid hm; clear hm
  have hlt : b < w.heap.size := by
    rcases Nat.lt_or_ge b w.heap.size with h | h
    · exact h
    · rw [Array.getElem?_eq_none h] at hblk; cases hblk
  clear hblk
  go_enter Tryz.func159, Tryz.ntmps159
  go_wp2_with fail
  refine (l1Below_any B g a len cap _ _ H.out (by omega)).mono ?_
  rintro e w1 ⟨r, r0, r1, rfl, hc1, ho1⟩
  have hr : r < m := r1 (by omega)
  clear r1
  obtain ⟨k, rfl⟩ := Int.eq_ofNat_of_zero_le r0
  have hk : k < ss.length := by have := Hm.out; omega
  have hblk1 : w1.heap[b]? = some (.cells C T fr) := by rw [ho1.block b hlt (by intro e; exact hbg (Option.some.inj e))]; exact Hblk.out
  have hcell : w1.cell? ⟨b, k, none⟩ = some (.string ss[k]) := by
    rw [cell_of_row w1 b k C T fr hblk1, ← Array.getElem?_toList, HC.out]; simp [hk]
  have Hc1 := Lib.hid hc1; clear hc1
  have Ho1 := Lib.hid ho1; clear ho1
  clear hblk1
  go_wp2_with fail
  go_ret
  exact ⟨ss[k], List.getElem_mem hk, rfl, Hc1.out, Ho1.out⟩
end Go.Proofs.YtpkofbdfnbpfpaaGreat.Num


/-
  The walk of the reference's l1Bytes: a slice of n drawn bytes in new memory; of what was there only the cursor's block is written.
-/
namespace Go.Proofs.YtpkofbdfnbpfpaaGreat.Num
open Go.RowKit Go.Proofs

theorem info_u8d : (Tryz.prog.info? 5).map (fun i => (i.zero, i.size, i.bytes)) = some (some (.int .u8 0), 1, 1) := by kernel_rfl
def BytesP (B g : Nat) (a : Option Addr) (len cap n : Nat) (w : World) (e : Ending) (w' : World) : Prop :=
  ∃ v l, e = .returned v ∧ l.length = n ∧ OwnB w' w.heap.size 5 v l ∧ Cur w' B g a len cap ∧ Off w.heap.size g w w'
set_option maxHeartbeats 800000 in
theorem l1Bytes_any (B g : Nat) (a : Option Addr) (len cap : Nat) (n : Nat) (w : World) (h : Cur w B g a len cap) (hB : B ≤ w.heap.size) (hg : g < w.heap.size) (hn : n ≤ 1048576) :
    Calls Tryz.prog 58 #[.pointer (some ⟨g, 0, none⟩), .int .i64 n] w (BytesP B g a len cap n w) := by
  obtain ⟨i0, hi, hz0, hz1, hz2⟩ := info_parts info_u8d
  have H := Lib.hid h; clear h
  go_enter Tryz.func58, Tryz.ntmps58
  go_wp2_with fail
  go_loopw [5, 6] (fun v i wr => ∃ (k : Nat) (l : List UInt8), k ≤ n ∧ i = .int .i64 k ∧ l.length = k ∧ OwnB wr w.heap.size 5 v l ∧ Hid (Cur wr B g a len cap) ∧ Off w.heap.size g w wr) (fun _ i _ => n - (intOf i).toNat)
  case atStart =>
    have hb : Below w.heap.size w (w.alloc (.cells #[] 5)) := (Below.refl _ _).alloc (Nat.le_refl _) _
    exact ⟨0, [], Nat.zero_le _, rfl, rfl, OwnB.empty (Nat.le_refl _), Lib.hid (H.out.other hb hg hB), Below.off hb⟩
  case round =>
    obtain ⟨k, l, hk, rfl, hl, hown, hcur, hoff⟩ := hrel
    have hsz := hoff.size
    have Hl := Lib.hid hl; clear hl
    have Hown := Lib.hid hown; clear hown
    by_cases hlt : k < n
    · go_wp2_with fail
      refine (l1Byte_any B g a len cap _ hcur.out).mono ?_
      rintro e w1 ⟨x, x0, x1, rfl, hc1, ho1⟩
      have Hc1 := Lib.hid hc1; clear hc1
      have hof1 : Off w.heap.size g wr w1 := Only.off ho1 hsz
      have Hown1 : Hid (OwnB w1 w.heap.size 5 u5 l) := Lib.hid (Hown.out.only ho1 (fun k hk => by have := (World.ownsRow.lt Hown.out k hk).1; omega))
      clear ho1
      have hsz1 := hof1.size
      have hbv : [Value.int .u8 x] = [UInt8.ofNat x.toNat].map byteV := by rw [List.map_cons, byteV_of _ (by omega) (by omega)]; rfl
      have Hbv := Lib.hid hbv; clear hbv
      have hll : l.length ≤ 1048576 := by rw [Hl.out]; omega
      go_wp2_with (at_builtin; refine wpList_appB rfl _ _ 22 rfl w.heap.size 5 i0 Tryz.underlying22 hi hz0 hz1 hz2 u5 l rfl (Hown1.out.alloc _) w1.heap.size _ (0, 0) (heap_alloc_new _ _) 1 1 rfl _ Hbv.out rfl (by omega) (by omega) (by simp; omega) ?_; intro v' w2 hown2 hb2)
      have hb3 : Below w.heap.size w1 w2 := ((Below.refl _ _).alloc (by omega) _).trans hb2
      have Hc2 : Hid (Cur w2 B g a len cap) := Lib.hid (Hc1.out.other hb3 hg hB)
      have hl2 : Hid ((l ++ [UInt8.ofNat x.toNat]).length = k + 1) := Lib.hid (by rw [List.length_append, Hl.out]; rfl)
      go_roundw
      case rel => exact ⟨k + 1, _, by omega, by go_num, hl2.out, hown2, Hc2, (hoff.trans hof1).trans (Below.off hb3)⟩
      case measure => simp [intOf]; omega
    · go_wp2_with fail
      go_ret
      exact ⟨_, l, rfl, by rw [Hl.out]; omega, Hown.out, hcur.out, hoff⟩
end Go.Proofs.YtpkofbdfnbpfpaaGreat.Num


/-
  The walk of the reference's l1Spoil: some string no longer than two bytes or the given string; of what was there only the cursor's block is written.
-/
namespace Go.Proofs.YtpkofbdfnbpfpaaGreat.Num
open Go.RowKit Go.Proofs
attribute [local go_sem ↓] Go.wp_at_zero Go.wp_at_succ

theorem strBytes (w : World) (s : ByteArray) : ∃ (C : Array Value) (c n : Nat), (convert 9 22 (.string s)).run Tryz.prog w = .ok (.slice (some ⟨w.heap.size, 0, none⟩) s.size c) (w.drew.alloc (.cells C 5 (n, n + 1))) ∧ C.size = n ∧ s.size ≤ n ∧
    ∀ j, j < s.size → ∃ z : Nat, z < 256 ∧ C[j]? = some (.int .u8 z) := by
  have h := run_bytes_of_string (P := Tryz.prog) w 9 22 5 s Tryz.underlying9 Tryz.underlying22 Tryz.underlying5
  refine ⟨_, _, _, h, rfl, ?_, ?_⟩
  · simp [bytesRow]
  · intro j hj
    refine ⟨s[j].toNat, s[j].toNat_lt, ?_⟩
    have hj2 : j < s.data.size := hj
    simp only [bytesRow, Array.getElem?_append, Array.size_map, Array.getElem?_map]
    rw [if_pos hj2, Array.getElem?_eq_getElem hj2]
    rfl
theorem bytesBack (w : World) (b c : Nat) : ∀ n, (∀ j, j < n → ∃ z : Int, w.cell? ⟨b, j, none⟩ = some (.int .u8 z)) → ∃ t : ByteArray, t.size = n ∧ (convert 22 9 (.slice (some ⟨b, 0, none⟩) n c)).run Tryz.prog w = .ok (.string t) w := by
  intro n h
  have hx : ∀ m, m ≤ n → ∃ xs : List Int, xs.length = m ∧ ∀ j, j < m → w.cell? ⟨b, 0 + j, none⟩ = some (.int .u8 (xs.getD j 0)) := by
    intro m
    induction m with
    | zero => exact fun _ => ⟨[], rfl, fun j hj => by omega⟩
    | succ m ih =>
      intro hm
      obtain ⟨xs, hl, hc⟩ := ih (by omega)
      obtain ⟨z, hz⟩ := h m (by omega)
      refine ⟨xs ++ [z], by simp [hl], fun j hj => ?_⟩
      by_cases e : j < m
      · rw [hc j e]; simp [List.getD, List.getElem?_append_left (show j < xs.length by omega)]
      · obtain rfl : j = m := by omega
        rw [Nat.zero_add, hz]; simp [List.getD, ← hl]
  obtain ⟨xs, hl, hc⟩ := hx n (Nat.le_refl _)
  exact ⟨strOfNums xs, by rw [strOfNums_size, hl], run_convert_bytes_arg (P := Tryz.prog) w 22 5 Tryz.underlying22 Tryz.underlying5 b 0 n c xs hl hc 9 Tryz.underlying9⟩

theorem spoilF {w : World} {b k : Nat} {C : Array Value} {T : TypeId} (h : w.heap[b]? = some (.cells C T (C.size, C.size + 1))) (hk : k < C.size) : w.frozen? ⟨b, k, none⟩ = false := by
  simp [World.frozen?, h]; omega
def SpoilP (B g : Nat) (a : Option Addr) (len cap : Nat) (m : Nat) (w : World) (e : Ending) (w' : World) : Prop :=
  ∃ t : ByteArray, t.size ≤ m ∧ e = .returned (.string t) ∧ Cur w' B g a len cap ∧ Off w.heap.size g w w'
theorem l1Spoil_empty (B g : Nat) (a : Option Addr) (len cap : Nat) (s : ByteArray) (w : World) (h : Cur w B g a len cap) (hB : B ≤ w.heap.size) (hg : g < w.heap.size) (hs : s.toList.isEmpty = true) :
    Calls Tryz.prog 91 #[.pointer (some ⟨g, 0, none⟩), .string s] w (SpoilP B g a len cap 2 w) := by
  have H := Lib.hid h; clear h
  go_enter Tryz.func91, Tryz.ntmps91
  go_wp2_with fail
  refine (l1Bytes_any B g a len cap 2 _ H.out hB hg (by omega)).mono ?_
  rintro e w1 ⟨v, l, rfl, hl, hown, hc, ho⟩
  have hcv := run_convB (P := Tryz.prog) 22 9 Tryz.underlying22 Tryz.underlying5 Tryz.underlying9 hown
  have Hl := Lib.hid hl; clear hl
  have Hc := Lib.hid hc; clear hc
  clear hown
  go_wp2_with fail
  go_ret
  exact ⟨⟨l.toArray⟩, by have := Hl.out; simp [ByteArray.size, this], rfl, Hc.out, ho⟩
set_option maxHeartbeats 400000 in
theorem l1Spoil_some (B g : Nat) (a : Option Addr) (len cap : Nat) (s : ByteArray) (w : World) (h : Cur w B g a len cap) (hB : B ≤ w.heap.size) (hg : g < w.heap.size) (hs : s.toList.isEmpty = false) (h1 : 0 < s.size) (h2 : s.size ≤ 1048576) :
    Calls Tryz.prog 91 #[.pointer (some ⟨g, 0, none⟩), .string s] w (SpoilP B g a len cap s.size w) := by
  obtain ⟨C, c, n, hcv, hn, hsn, hC⟩ := strBytes w s
  subst hn
  have hb0 : Below w.heap.size w (w.alloc (.cells C 5 (C.size, C.size + 1))).drew := ((Below.refl _ _).alloc (Nat.le_refl _) _).drew
  have H := Lib.hid (h.other hb0 hg hB); clear h
  have HC := Lib.hid hC; clear hC
  go_enter Tryz.func91, Tryz.ntmps91
  go_wp2_with fail
  refine (l1Below_any B g a len cap _ _ H.out (by omega)).mono ?_
  rintro e w1 ⟨r, r0, r1, rfl, hc1, ho1⟩
  have hr : r < s.size := r1 (by omega)
  clear r1
  obtain ⟨k, rfl⟩ := Int.eq_ofNat_of_zero_le r0
  have hk : k < s.size := by omega
  have hblk1 : w1.heap[w.heap.size]? = some (.cells C 5 (C.size, C.size + 1)) := by rw [ho1.block w.heap.size (by simp) (by intro e; have := Option.some.inj e; omega)]; exact heap_alloc_new w _
  have Hc1 := Lib.hid hc1; clear hc1
  have hof1 : Off w.heap.size g w w1 := (Below.off hb0).trans (Only.off ho1 (by simp))
  have hsz1 : w.heap.size < w1.heap.size := by have := ho1.size; simp at this; omega
  clear ho1
  have Hblk1 := Lib.hid hblk1
  obtain ⟨z, hz, hCz⟩ := HC.out k hk
  have hcell : w1.cell? ⟨w.heap.size, k, none⟩ = some (.int .u8 z) := by rw [cell_of_row w1 _ k C _ _ hblk1]; exact hCz
  have hCk : C[k]? = some (.int .u8 z) := hCz
  clear hblk1 hCz hcv
  have hki : (k : Int) < (s.size : Int) := by omega
  have hki0 : 0 ≤ (k : Int) := by omega
  have HCk := Lib.hid hCk; clear hCk
  have hkn : k < C.size := by omega
  go_wp2_with fail
  go_region_with (go_at_call 56; refine (l1Below_any B g a len cap _ _ Hc1.out.drew (by omega)).mono ?_; rintro e w2 ⟨r, r0, r1, rfl, hc2, ho2⟩; have hc2c : w2.cell? ⟨w.heap.size, k, none⟩ = some (.int .u8 z) := (by rw [cell_of_row w2 _ k C _ _ ((ho2.block w.heap.size (by simp; omega) (by intro e; have := Option.some.inj e; omega)).trans Hblk1.out)]; exact HCk.out); have hc2f : w2.frozen? ⟨w.heap.size, k, none⟩ = false := spoilF ((ho2.block w.heap.size (by simp; omega) (by intro e; have := Option.some.inj e; omega)).trans Hblk1.out) hkn)
  all_goals
    have hblk2 := (ho2.block w.heap.size (by simp; omega) (by intro e; have := Option.some.inj e; omega)).trans Hblk1.out
    have hback : ∀ X : Int, ∃ t : ByteArray, t.size = s.size ∧ (convert 22 9 (.slice (some ⟨w.heap.size, 0, none⟩) s.size c)).run Tryz.prog (w2.setCell ⟨w.heap.size, k, none⟩ (.int .u8 X)) = .ok (.string t) (w2.setCell ⟨w.heap.size, k, none⟩ (.int .u8 X)) := fun X => bytesBack _ _ _ _ (fun j hj => by
      by_cases e : j = k
      · exact ⟨X, by rw [e]; exact World.cell?_setCell_same _ _ _ (by rw [hc2c])⟩
      · obtain ⟨y, _, hy⟩ := HC.out j hj
        exact ⟨y, by rw [World.cell?_setCell_other _ _ _ _ (by simp), cell_of_row w2 _ j C _ _ hblk2]; exact hy⟩)
    obtain ⟨t, ht⟩ := Classical.axiomOfChoice hback
    have hcv := fun X => (ht X).2
    have Ht := Lib.hid (fun X => (ht X).1)
    have Hc2 := Lib.hid hc2
    clear hback ht hblk2 hc2 hcell hc2c hc2f
    have hof2 : Off w.heap.size g w w2 := hof1.trans (Only.off (a := w1) ⟨ho2.os, ho2.tape, ho2.output, ho2.size, ho2.block⟩ (by omega))
    clear ho2 hof1
    go_wp2_with fail
    go_ret
    exact ⟨t _, by rw [Ht.out]; exact Nat.le_refl _, rfl, Hc2.out.other (C := w.heap.size) ((Below.refl _ _).setCell (p := ⟨w.heap.size, k, none⟩) (Nat.le_refl _) _) hg hB, hof2.trans (Below.off ((Below.refl _ _).setCell (p := ⟨w.heap.size, k, none⟩) (Nat.le_refl _) _))⟩
theorem l1Spoil_any (B g : Nat) (a : Option Addr) (len cap : Nat) (s : ByteArray) (w : World) (h : Cur w B g a len cap) (hB : B ≤ w.heap.size) (hg : g < w.heap.size) (h2 : s.size ≤ 1048576) :
    Calls Tryz.prog 91 #[.pointer (some ⟨g, 0, none⟩), .string s] w (SpoilP B g a len cap (s.size + 2) w) := by
  by_cases hs : s.size = 0
  · have e0 : s = ⟨#[]⟩ := by
      cases s with
      | mk d => congr; exact Array.eq_empty_of_size_eq_zero hs
    subst e0
    exact (l1Spoil_empty B g a len cap _ w h hB hg (by rw [ByteArray.toList_eq]; rfl)).mono fun e w' ⟨t, ht, he⟩ => ⟨t, by omega, he⟩
  · have he : s.toList.isEmpty = false := by
      have h3 : s.toList.length = s.size := by rw [ByteArray.toList_eq]; simp
      cases hl : s.toList with
      | nil => rw [hl] at h3; simp at h3; omega
      | cons a l => rfl
    exact (l1Spoil_some B g a len cap s w h hB hg he (by omega) h2).mono fun e w' ⟨t, ht, he⟩ => ⟨t, by omega, he⟩
end Go.Proofs.YtpkofbdfnbpfpaaGreat.Num


/-
  The walks of the reference's draws of stage 5 (l5Rune, l5Text, l5Bent, l5State, DrawUtfGood, DrawUtfByte, DrawRuneText): each gives some number, short string or state; nothing that was there is written but the cursor.
-/
namespace Go.Proofs.YtpkofbdfnbpfpaaGreat.Num
open Go.RowKit Go.Proofs
set_option linter.unusedVariables false
theorem runeS_size (n : Int) : (runeS n).size ≤ 4 := by unfold runeS ByteArray.size; simpa using Utf.rune_len n
theorem l5Rune_any (B g : Nat) (a : Option Addr) (len cap : Nat) (w : World) (h : Cur w B g a len cap) (hB : B ≤ w.heap.size) (hg : g < w.heap.size) :
    Calls Tryz.prog 158 #[.pointer (some ⟨g, 0, none⟩)] w fun e w' => ∃ z : Int, (0 ≤ z ∧ z ≤ 1114111) ∧ e = .returned (.int .i64 z) ∧ Cur w' B g a len cap ∧ Off w.heap.size g w w' := by
  have H := Lib.hid h; clear h
  go_enter Tryz.func158, Tryz.ntmps158
  go_wp2_with fail
  refine (l1Below_any B g a len cap _ _ H.out (by omega)).mono ?_
  rintro e w1 ⟨r, r0, r1, rfl, hc1, ho1⟩
  have hr : r < 1114112 := r1 (by omega)
  have Hc1 := Lib.hid hc1
  have hf1 : Off w.heap.size g w w1 := Only.off ho1 (by omega)
  have hz1 := ho1.size
  have Hr := Lib.hid hr
  clear hc1 ho1 r1 hr
  go_wp2_with fail
  refine (l1PickInt_any _ g a len cap _ 13 13 [0, 65, 127, 128, 2047, 2048, 4095, 55295, 57344, 65535, 65536, 1114111, r] _ _ _ _ (Hc1.out.other ((Below.refl w1.heap.size _).alloc (Nat.le_refl _) _) (by omega) (by omega)) (heap_alloc_new _ _) rfl rfl (by omega) (by omega) (by omega)).mono ?_
  rintro e w2 ⟨z, hz, rfl, hc2, ho2⟩
  have Hz := Lib.hid hz
  have Hc2 := Lib.hid hc2
  have hf2 : Off w.heap.size g w1 w2 := (Below.off ((Below.refl _ _).alloc (by omega) _)).trans (Only.off ho2 (by simp; omega))
  clear hz hc2 ho2
  go_wp2_with fail
  go_ret
  exact ⟨z, by have := Hz.out; have := Hr.out; simp only [List.mem_cons, List.not_mem_nil, or_false] at *; omega, rfl, Hc2.out, hf1.trans hf2⟩
set_option maxHeartbeats 800000 in
theorem l5Text_any (B g : Nat) (a : Option Addr) (len cap : Nat) (n : Nat) (w : World) (h : Cur w B g a len cap) (hB : B ≤ w.heap.size) (hg : g < w.heap.size) (hn : n ≤ 8) :
    Calls Tryz.prog 127 #[.pointer (some ⟨g, 0, none⟩), .int .i64 n] w fun e w' => ∃ s : ByteArray, s.size ≤ 4 * n ∧ e = .returned (.string s) ∧ Cur w' B g a len cap ∧ Off w.heap.size g w w' := by
  have H := Lib.hid h; clear h
  go_enter Tryz.func127, Tryz.ntmps127
  go_wp2_with fail
  go_loopw [5, 6] (fun v i wr => ∃ (k : Nat) (s : ByteArray), k ≤ n ∧ s.size ≤ 4 * k ∧ i = .int .i64 k ∧ v = .string s ∧ Hid (Cur wr B g a len cap) ∧ Off w.heap.size g w wr) (fun _ i _ => n - (intOf i).toNat)
  case atStart => exact ⟨0, ⟨#[]⟩, by omega, by decide, rfl, rfl, H, Off.refl _ _ _⟩
  case round =>
    obtain ⟨k, s, hk, hs, rfl, rfl, hc, hf⟩ := hrel
    have hz := hf.size
    by_cases hlt : k < n
    · have hlti : (k : Int) < (n : Int) := by omega
      go_wp2_with fail
      refine (l5Rune_any B g a len cap _ hc.out (by omega) (by omega)).mono ?_
      rintro e w1 ⟨x, hx, rfl, hc1, hf1⟩
      have Hc1 := Lib.hid hc1
      have hz1 := hf1.size
      have hf01 : Off w.heap.size g w w1 := hf.trans (hf1.mono (by omega))
      clear hx hc1
      go_wp2_with fail
      refine (specRuneText_any x _).mono ?_
      rintro e w2 ⟨rfl, hb2⟩
      have h4 := runeS_size x
      have Hc2 := Lib.hid (Hc1.out.other hb2 (by omega) (by omega))
      have hf02 : Off w.heap.size g w w2 := hf01.trans (Below.off (hb2.mono (by omega)))
      generalize runeS x = t at h4
      go_wp2_with fail
      go_roundw
      case rel => exact ⟨k + 1, s ++ t, by omega, by rw [ByteArray.size_append]; omega, by go_num, rfl, Hc2, hf02⟩
      case measure => simp [intOf]; omega
    · have hge : (n : Int) ≤ (k : Int) := by omega
      have hend : decide (k < n) = false := decide_eq_false hlt
      go_wp2_with fail
      go_ret
      exact ⟨s, by omega, rfl, hc.out, hf⟩
theorem bent_short {t : ByteArray} (ht : t ∈ [(⟨#[128]⟩ : ByteArray), ⟨#[192, 128]⟩, ⟨#[224, 159, 191]⟩, ⟨#[237, 160, 128]⟩, ⟨#[240, 143, 191, 191]⟩, ⟨#[244, 144, 128, 128]⟩, ⟨#[245]⟩, ⟨#[255]⟩, ⟨#[226, 130]⟩, ⟨#[193, 191]⟩]) : t.size ≤ 4 := by
  simp only [List.mem_cons, List.not_mem_nil, or_false] at ht
  rcases ht with rfl | rfl | rfl | rfl | rfl | rfl | rfl | rfl | rfl | rfl <;> decide
set_option maxHeartbeats 1000000 in
set_option maxRecDepth 100000 in
theorem l5Bent_any (B g : Nat) (a : Option Addr) (len cap : Nat) (w : World) (h : Cur w B g a len cap) (hB : B ≤ w.heap.size) (hg : g < w.heap.size) :
    Calls Tryz.prog 128 #[.pointer (some ⟨g, 0, none⟩)] w fun e w' => ∃ s : ByteArray, s.size ≤ 32 ∧ e = .returned (.string s) ∧ Cur w' B g a len cap ∧ Off w.heap.size g w w' := by
  have H := Lib.hid h; clear h
  go_enter Tryz.func128, Tryz.ntmps128
  go_wp2_with fail
  refine (l1Below_any B g a len cap _ _ H.out (by omega)).mono ?_
  rintro e w1 ⟨r, r0, r1, rfl, hc1, ho1⟩
  have hr : r < 4 := r1 (by omega)
  obtain ⟨n, rfl⟩ := Int.eq_ofNat_of_zero_le r0
  have Hc1 := Lib.hid hc1
  have hf1 : Off w.heap.size g w w1 := Only.off ho1 (by omega)
  have hz1 := ho1.size
  clear hc1 ho1 r1 r0
  go_wp2_with fail
  refine (l5Text_any B g a len cap n _ Hc1.out (by omega) (by omega) (by omega)).mono ?_
  rintro e w2 ⟨s, hs, rfl, hc2, hf2⟩
  have Hc2 := Lib.hid hc2
  have hf12 := hf1.trans (hf2.mono (D := w.heap.size) (by omega))
  have hs12 : s.size ≤ 12 := by omega
  have hz2 := hf12.size
  clear hc2 hf1 hf2 hs hr
  go_wp2_with fail
  refine (l1Below_any B g a len cap _ _ Hc2.out (by omega)).mono ?_
  rintro e w3 ⟨q, q0, q1, rfl, hc3, ho3⟩
  have Hc3 := Lib.hid hc3
  have hf13 := hf12.trans (Only.off ho3 (C := w.heap.size) (by omega))
  have hz3 := hf13.size
  clear hc3 hf12 ho3 q1
  by_cases c0 : q = 0
  · subst c0
    go_wp2_with fail
    refine (l1Spoil_any _ g a len cap s _ Hc3.out (by omega) (by omega) (by omega)).mono ?_
    rintro e w4 ⟨t, ht, rfl, hc4, hf4⟩
    have Hc4 := Lib.hid hc4
    clear hc4
    go_wp2_with fail
    go_ret
    exact ⟨t, by omega, rfl, Hc4.out, hf13.trans (hf4.mono (by omega))⟩
  · have n0 : (q == 0) = false := by rw [beq_eq_false_iff_ne]; exact c0
    by_cases c1 : q = 1
    · subst c1
      clear c0 n0
      go_wp2_with fail
      refine (l1Below_any B g a len cap _ _ Hc3.out (by omega)).mono ?_
      rintro e w4 ⟨x, x0, x1, rfl, hc4, ho4⟩
      have hx : x < (s.size : Int) + 1 := x1 (by omega)
      obtain ⟨m, rfl⟩ := Int.eq_ofNat_of_zero_le x0
      have hm : m ≤ s.size := by omega
      have hmi : (m : Int) ≤ (s.size : Int) := by omega
      have Hc4 := Lib.hid hc4
      have hf4 := hf13.trans (Only.off ho4 (C := w.heap.size) (by omega))
      clear hc4 ho4 x1 x0 hx
      go_wp2_with fail
      go_ret
      exact ⟨_, by rw [ByteArray.size_extract]; omega, rfl, Hc4.out, hf4⟩
    · have n1 : (q == 1) = false := by rw [beq_eq_false_iff_ne]; exact c1
      by_cases c2 : q = 2
      · subst c2
        clear c0 n0 c1 n1
        go_wp2_with fail
        refine (l1Pick_any _ g a len cap _ 10 10 [⟨#[128]⟩, ⟨#[192, 128]⟩, ⟨#[224, 159, 191]⟩, ⟨#[237, 160, 128]⟩, ⟨#[240, 143, 191, 191]⟩, ⟨#[244, 144, 128, 128]⟩, ⟨#[245]⟩, ⟨#[255]⟩, ⟨#[226, 130]⟩, ⟨#[193, 191]⟩] _ _ _ _ (Hc3.out.other ((Below.refl w3.heap.size _).alloc (Nat.le_refl _) _) (by omega) (by omega)) (heap_alloc_new _ _) rfl rfl (by omega) (by omega) (by omega)).mono ?_
        rintro e w4 ⟨t, ht, rfl, hc4, ho4⟩
        have htt := bent_short ht
        have Hc4 := Lib.hid hc4
        have hf4 : Off w.heap.size g w3 w4 := (Below.off ((Below.refl _ _).alloc (by omega) _)).trans (Only.off ho4 (by simp; omega))
        clear ho4 hc4 ht
        go_wp2_with fail
        go_ret
        exact ⟨s ++ t, by simp [ByteArray.size_append]; omega, rfl, Hc4.out, hf13.trans hf4⟩
      · have n2 : (q == 2) = false := by rw [beq_eq_false_iff_ne]; exact c2
        clear c0 c1 c2
        go_wp2_with fail
        go_ret
        exact ⟨s, by omega, rfl, Hc3.out, hf13⟩
end Go.Proofs.YtpkofbdfnbpfpaaGreat.Num


/-
  The walks of the reference's draws of single fields of a message (l12Scalar, l12Turned, l12Unknown): each gives some short string; nothing that was there is written but the cursor.
-/
namespace Go.Proofs.YtpkofbdfnbpfpaaGreat.Num
open Go.RowKit Go.Proofs
set_option linter.unusedVariables false

/-- What a draw of a string leaves, the cursor kept. -/
def TxtP (B g : Nat) (a : Option Addr) (len cap N : Nat) (w : World) (e : Ending) (w' : World) : Prop := ∃ s : ByteArray, s.size ≤ N ∧ e = .returned (.string s) ∧ Cur w' B g a len cap ∧ Off w.heap.size g w w'
theorem conv_own {w : World} {B : Nat} {v : Value} {l : List UInt8} {n : Nat} (h : OwnB w B 5 v l) (hl : l.length = n) : ∃ s : ByteArray, s.size = n ∧ (convert 22 9 v).run Tryz.prog w = .ok (.string s) w :=
  ⟨⟨l.toArray⟩, by unfold ByteArray.size; simpa using hl, run_convB (P := Tryz.prog) 22 9 Tryz.underlying22 Tryz.underlying5 Tryz.underlying9 h⟩
theorem width_cases (x : Int) : widthR x = 0 ∨ widthR x = 4 ∨ widthR x = 8 := by
  unfold widthR; split
  · exact .inr (.inr rfl)
  · split
    · exact .inr (.inl rfl)
    · exact .inl rfl
set_option maxHeartbeats 1000000 in
theorem l12Scalar_any (B g : Nat) (a : Option Addr) (len cap : Nat) (k : Int) (w : World) (h : Cur w B g a len cap) (hB : B ≤ w.heap.size) (hg : g < w.heap.size) :
    Calls Tryz.prog 130 #[.pointer (some ⟨g, 0, none⟩), .int .i64 k] w (TxtP B g a len cap 10 w) := by
  have H := Lib.hid h; clear h
  have hwd := width_cases (wireR k)
  obtain ⟨W, hW⟩ : ∃ W, widthR (wireR k) = W := ⟨_, rfl⟩
  rw [hW] at hwd
  have HW := Lib.hid hW; clear hW
  obtain ⟨X, hX⟩ : ∃ X, wireR k = X := ⟨_, rfl⟩
  have HX := Lib.hid hX
  rw [hX] at HW
  have Hend : ∀ (u : Nat) (w1 : World), u ≤ 18446744073709551615 → Cur w1 B g a len cap → Off w.heap.size g w w1 → w.heap.size ≤ w1.heap.size → True := fun _ _ _ _ _ _ => trivial
  clear Hend hX
  go_enter Tryz.func130, Tryz.ntmps130
  go_wp2_with fail
  refine (l1Wide_any B g a len cap _ H.out (by omega)).mono ?_
  rintro e w1 ⟨u, hu, rfl, hc1, hf1⟩
  have Hc1 := Lib.hid hc1
  have hz1 := hf1.size
  have Hf1 := Lib.hid hf1
  have Hu := Lib.hid hu
  clear hc1 hf1 hu
  by_cases h3 : k = 3
  · subst h3
    go_wp2_with fail
    refine (l1Below_any B g a len cap _ _ Hc1.out (by omega)).mono ?_
    rintro e w2 ⟨r, r0, r1, rfl, hc2, ho2⟩
    have hr : r < 3 := r1 (by omega)
    obtain ⟨q, rfl⟩ := Int.eq_ofNat_of_zero_le r0
    have Hc2 := Lib.hid hc2
    have hz2 := ho2.size
    have Hf2 := Lib.hid (Hf1.out.trans (Only.off (C := w.heap.size) ho2 hz1))
    clear hc2 ho2 r1
    go_wp2_with fail
    refine (specWireOf_any 3 _).mono ?_
    rw [HX.out]
    rintro e w3 ⟨rfl, rfl⟩
    go_wp2_with fail
    refine (specWidthOf_any X _).mono ?_
    rw [HW.out]
    rintro e w4 ⟨rfl, rfl⟩
    have hW0 : W = 0 := by
      have e1 := HX.out
      have e2 := HW.out
      rw [← e1] at e2
      exact e2.symm.trans rfl
    subst hW0
    go_wp2_with fail
    refine (l2Var_any _ g a len cap q _ Hc2.out (by omega) (by omega) (by omega)).mono ?_
    rintro e w5 ⟨s, hs, rfl, hc5, hf5⟩
    have Hc5 := Lib.hid hc5
    have Hf5 := Lib.hid (Hf2.out.trans (hf5.mono (by omega)))
    clear hc5 hf5
    go_wp2_with fail
    go_ret
    exact ⟨s, hs, rfl, Hc5.out, Hf5.out⟩
  · have n3 : (k == 3) = false := by rw [beq_eq_false_iff_ne]; exact h3
    clear h3
    go_wp2_with fail
    refine (specWireOf_any k _).mono ?_
    rw [HX.out]
    rintro e w3 ⟨rfl, rfl⟩
    go_wp2_with fail
    refine (specWidthOf_any X _).mono ?_
    rw [HW.out]
    rintro e w4 ⟨rfl, rfl⟩
    by_cases h0 : 0 < W
    · obtain ⟨m, rfl⟩ := Int.eq_ofNat_of_zero_le (by omega : 0 ≤ W)
      have hm : m ≤ 8 := by omega
      clear hwd
      go_wp2_with fail
      refine (l1Bytes_any _ g a len cap m _ Hc1.out (by omega) (by omega) (by omega)).mono ?_
      rintro e w5 ⟨v, l, rfl, hl, hown, hc5, hf5⟩
      obtain ⟨s, hs, hcv⟩ := conv_own hown hl
      have Hc5 := Lib.hid hc5
      have Hf5 := Lib.hid (Hf1.out.trans (hf5.mono (D := w.heap.size) (by omega)))
      clear hc5 hf5 hown
      go_wp2_with fail
      go_ret
      exact ⟨s, by omega, rfl, Hc5.out, Hf5.out⟩
    · have hW0 : W = 0 := by omega
      subst hW0
      clear hwd h0
      go_wp2_with fail
      refine (l2Var_any _ g a len cap u _ Hc1.out (by omega) (by omega) Hu.out).mono ?_
      rintro e w5 ⟨s, hs, rfl, hc5, hf5⟩
      have Hc5 := Lib.hid hc5
      have Hf5 := Lib.hid (Hf1.out.trans (hf5.mono (D := w.heap.size) (by omega)))
      clear hc5 hf5
      go_wp2_with fail
      go_ret
      exact ⟨s, hs, rfl, Hc5.out, Hf5.out⟩
end Go.Proofs.YtpkofbdfnbpfpaaGreat.Num


/-
  The walk of the reference's draw of a turned string (l12Turned): some string of nearly that size; nothing that was there is written but the cursor.
-/
namespace Go.Proofs.YtpkofbdfnbpfpaaGreat.Num
open Go.RowKit Go.Proofs
set_option linter.unusedVariables false

set_option maxHeartbeats 2000000 in
set_option maxRecDepth 100000 in
theorem l12Turned_any (B g : Nat) (a : Option Addr) (len cap N : Nat) (s : ByteArray) (w : World) (h : Cur w B g a len cap) (hB : B ≤ w.heap.size) (hg : g < w.heap.size) (hs : s.size ≤ N) (hN : N ≤ 1000000) :
    Calls Tryz.prog 59 #[.pointer (some ⟨g, 0, none⟩), .string s] w (TxtP B g a len cap (N + 2) w) := by
  have H := Lib.hid h; clear h
  go_enter Tryz.func59, Tryz.ntmps59
  go_wp2_with fail
  refine (l1Below_any B g a len cap _ _ H.out (by omega)).mono ?_
  rintro e w3 ⟨q, q0, q1, rfl, hc3, ho3⟩
  have Hc3 := Lib.hid hc3
  have hz3 := ho3.size
  have Hf3 := Lib.hid (Only.off ho3 (C := w.heap.size) (by omega))
  clear hc3 ho3 q1 H
  by_cases c0 : q = 0
  · subst c0
    go_wp2_with fail
    refine (l1Spoil_any _ g a len cap s _ Hc3.out (by omega) (by omega) (by omega)).mono ?_
    rintro e w4 ⟨t, ht, rfl, hc4, hf4⟩
    have Hc4 := Lib.hid hc4
    have Hf4 := Lib.hid (Hf3.out.trans (hf4.mono (D := w.heap.size) (by omega)))
    clear hc4 hf4
    go_wp2_with fail
    go_ret
    exact ⟨t, by omega, rfl, Hc4.out, Hf4.out⟩
  · have n0 : (q == 0) = false := by rw [beq_eq_false_iff_ne]; exact c0
    by_cases c1 : q = 1
    · subst c1
      clear c0 n0
      go_wp2_with fail
      refine (l1Below_any B g a len cap _ _ Hc3.out (by omega)).mono ?_
      rintro e w4 ⟨x, x0, x1, rfl, hc4, ho4⟩
      have hx : x < (s.size : Int) + 1 := x1 (by omega)
      obtain ⟨m, rfl⟩ := Int.eq_ofNat_of_zero_le x0
      have hm : m ≤ s.size := by omega
      have hmi : (m : Int) ≤ (s.size : Int) := by omega
      have Hc4 := Lib.hid hc4
      have Hf4 := Lib.hid (Hf3.out.trans (Only.off ho4 (C := w.heap.size) (by omega)))
      clear hc4 ho4 x1 x0 hx
      go_wp2_with fail
      go_ret
      exact ⟨_, by rw [ByteArray.size_extract]; omega, rfl, Hc4.out, Hf4.out⟩
    · have n1 : (q == 1) = false := by rw [beq_eq_false_iff_ne]; exact c1
      by_cases c2 : q = 2
      · subst c2
        clear c0 n0 c1 n1
        go_wp2_with fail
        refine (l1Below_any B g a len cap _ _ Hc3.out (by omega)).mono ?_
        rintro e w4 ⟨x, x0, x1, rfl, hc4, ho4⟩
        have hx : x < (s.size : Int) + 1 := x1 (by omega)
        obtain ⟨m, rfl⟩ := Int.eq_ofNat_of_zero_le x0
        have hm : m ≤ s.size := by omega
        have hmi : (m : Int) ≤ (s.size : Int) := by omega
        have Hc4 := Lib.hid hc4
        have hz4 := ho4.size
        have Hf4 := Lib.hid (Hf3.out.trans (Only.off ho4 (C := w.heap.size) (by omega)))
        clear hc4 ho4 x1 x0 hx
        have e1 : (s.extract 0 m).size = m := by rw [ByteArray.size_extract]; omega
        have e2 : (s.extract m s.size).size = s.size - m := by rw [ByteArray.size_extract]; omega
        have HP : Hid (Calls Tryz.prog 58 #[.pointer (some ⟨g, 0, none⟩), .int .i64 1] w4.drew fun e w' => ∃ (v : Value) (t : ByteArray), (t.size = 1 ∧ (convert 22 9 v).run Tryz.prog w' = .ok (.string t) w' ∧ (∀ wv, (Op.stringOp .add (s.extract 0 m) t).run Tryz.prog wv = .ok (.string (s.extract 0 m ++ t)) wv) ∧ (∀ wv, (Op.stringOp .add (s.extract 0 m ++ t) (s.extract m s.size)).run Tryz.prog wv = .ok (.string (s.extract 0 m ++ t ++ s.extract m s.size)) wv)) ∧ e = .returned v ∧ Cur w' B g a len cap ∧ Off w.heap.size g w w') := Lib.hid (by
          refine (l1Bytes_any B g a len cap 1 w4.drew (Hc4.out.drew) (by simp; omega) (by simp; omega) (by omega)).mono ?_
          rintro e w5 ⟨v, l, rfl, hl, hown, hc5, hf5⟩
          obtain ⟨t, ht, hcv⟩ := conv_own hown hl
          exact ⟨v, t, ⟨ht, hcv, fun wv => run_string_add_sum wv _ _ (by omega), fun wv => run_string_add_sum wv _ _ (by rw [ByteArray.size_append]; omega)⟩, rfl, hc5, (Hf4.out.trans (Below.off ((Below.refl _ _).drew))).trans (hf5.mono (D := w.heap.size) (by simp; omega))⟩)
        have hsz : Hid (∀ t : ByteArray, t.size = 1 → (s.extract 0 m ++ t ++ s.extract m s.size).size ≤ N + 2) := Lib.hid fun t ht => by
          rw [ByteArray.size_append, ByteArray.size_append]; omega
        clear Hc4 Hf4 e1 e2
        go_upto_region 8 with fail
        go_region_with (go_at_call 58; refine HP.out.mono ?_; rintro e w5 ⟨v, t, ⟨ht, hcv, a1, a2⟩, rfl, hc5, hf5⟩)
        all_goals
          have Ht := Lib.hid ht
          have Hc5 := Lib.hid hc5
          have Hf5 := Lib.hid hf5
          clear ht hc5 hf5
          go_wp2_with fail
          go_ret
          exact ⟨_, hsz.out _ Ht.out, rfl, Hc5.out, Hf5.out⟩
      · have n2 : (q == 2) = false := by rw [beq_eq_false_iff_ne]; exact c2
        clear c0 c1 c2
        go_wp2_with fail
        go_ret
        exact ⟨s, by omega, rfl, Hc3.out, Hf3.out⟩
end Go.Proofs.YtpkofbdfnbpfpaaGreat.Num


/-
  The walk of the reference's draw of an unknown field (l12Unknown): some short string; nothing that was there is written but the cursor.
-/
namespace Go.Proofs.YtpkofbdfnbpfpaaGreat.Num
open Go.RowKit Go.Proofs
set_option linter.unusedVariables false

theorem tag_small (r z : Int) (h0 : 0 ≤ r) (h3 : r < 3) : ∃ T : Nat, tagR (40 + r) z = (T : Int) ∧ T ≤ 18446744073709551615 := by
  unfold tagR
  split
  · next h => exact ⟨(8 * (40 + r) + z).toNat, by omega, by omega⟩
  · exact ⟨0, rfl, by omega⟩
set_option maxHeartbeats 4000000 in
set_option maxRecDepth 100000 in
theorem l12Unknown_any (B g : Nat) (a : Option Addr) (len cap : Nat) (w : World) (h : Cur w B g a len cap) (hB : B ≤ w.heap.size) (hg : g < w.heap.size) :
    Calls Tryz.prog 89 #[.pointer (some ⟨g, 0, none⟩)] w (TxtP B g a len cap 30 w) := by
  have H := Lib.hid h; clear h
  go_enter Tryz.func89, Tryz.ntmps89
  go_wp2_with fail
  refine (l1PickInt_any _ g a len cap _ 6 6 [0, 1, 2, 5, 0, 2] _ _ _ _ (H.out.other ((Below.refl w.heap.size _).alloc (Nat.le_refl _) _) (by omega) (by omega)) (heap_alloc_new _ _) rfl rfl (by omega) (by omega) (by omega)).mono ?_
  rintro e w1 ⟨z, hz, rfl, hc0, ho0⟩
  have hz07 : 0 ≤ z ∧ z ≤ 7 := by simp only [List.mem_cons, List.not_mem_nil, or_false] at hz; omega
  obtain ⟨hz0, hz7⟩ := hz07
  have Hc0 := Lib.hid hc0
  have hw1 : w.heap.size ≤ w1.heap.size := by have h := ho0.size; simp at h; omega
  have Hf0 : Hid (Off w.heap.size g w w1) := Lib.hid ((Below.off ((Below.refl _ _).alloc (by omega) _)).trans (Only.off ho0 (by first | omega | (simp; done) | (simp; omega))))
  clear hz hc0 ho0 H
  go_wp2_with fail
  refine (l1Once_any B g a len cap _ _ Hc0.out (by omega)).mono ?_
  rintro e w2 ⟨b, rfl, hc1, ho1⟩
  have Hd := Lib.hid hc1
  have hw2 := ho1.size
  have He := Lib.hid (Hf0.out.trans (Only.off (C := w.heap.size) ho1 (by omega)))
  clear hc1 ho1 Hc0 Hf0
  cases b with
  | false =>
    go_wp2_with fail
    refine (l1Below_any B g a len cap _ _ Hd.out (by omega)).mono ?_
    rintro e u1 ⟨r, r0, r1, rfl, hc1, ho1⟩
    have hr : r < 3 := r1 (by omega)
    have Hc1 := Lib.hid hc1
    have hx1 := ho1.size
    have Hf1 := Lib.hid (He.out.trans (Only.off (C := w.heap.size) ho1 (by omega)))
    have hwr : IntKind.i64.wrap (40 + r) = 40 + r := IntWalk.i64_in _ (by omega)
    obtain ⟨T, hT, hT1⟩ := tag_small r z r0 hr
    have HT := Lib.hid hT
    clear hc1 ho1 r1 hr r0 Hd He hT
    go_wp2_with fail
    refine (specTagOf_any (40 + r) z _).mono ?_
    rw [HT.out]
    rintro e u2 ⟨rfl, rfl⟩
    go_wp2_with fail
    refine (l2Var_any _ g a len cap T _ Hc1.out (by omega) (by omega) hT1).mono ?_
    rintro e u3 ⟨s, hs, rfl, hc2, hf2⟩
    have Hc2 := Lib.hid hc2
    have hx2 := hf2.size
    have Hf2 := Lib.hid (Hf1.out.trans (hf2.mono (D := w.heap.size) (by omega)))
    clear hc2 hf2 Hc1 Hf1 HT hwr
    go_wp2_with fail
    refine (l1Once_any B g a len cap _ _ Hc2.out (by omega)).mono ?_
    rintro e u4 ⟨b2, rfl, hc3, ho3⟩
    have Hc := Lib.hid hc3
    have hx3 := ho3.size
    have Hf := Lib.hid (Hf2.out.trans (Only.off (C := w.heap.size) ho3 (by omega)))
    have hx : w.heap.size ≤ u4.heap.size := by omega
    clear hc3 ho3 Hc2 Hf2
    cases b2 with
    | false =>
      by_cases z0 : z = 0
      · subst z0
        clear hz0 hz7
        go_wp2_with fail
        refine (l1Wide_any B g a len cap _ Hc.out (by omega)).mono ?_
        rintro e v1 ⟨u, hu, rfl, hc1, hf1⟩
        have Hc1 := Lib.hid hc1
        have hy1 := hf1.size
        have Hf1 := Lib.hid (Hf.out.trans (hf1.mono (D := w.heap.size) (by omega)))
        have Hu := Lib.hid hu
        clear hc1 hf1 hu
        go_wp2_with fail
        refine (l2Var_any _ g a len cap u _ Hc1.out (by omega) (by omega) Hu.out).mono ?_
        rintro e v2 ⟨t, ht, rfl, hc2, hf2⟩
        have Hc2 := Lib.hid hc2
        have Hf2 := Lib.hid (Hf1.out.trans (hf2.mono (D := w.heap.size) (by omega)))
        clear hc2 hf2
        go_wp2_with fail
        go_ret
        exact ⟨s ++ t, by rw [ByteArray.size_append]; omega, rfl, Hc2.out, Hf2.out⟩
      · have n0 : (z == 0) = false := by rw [beq_eq_false_iff_ne]; exact z0
        by_cases z2 : z = 2
        · subst z2
          clear hz0 hz7 z0
          go_wp2_with fail
          refine (l1Below_any B g a len cap _ _ Hc.out (by omega)).mono ?_
          rintro e v1 ⟨r, r0, r1, rfl, hc1, ho1⟩
          have hr : r < 5 := r1 (by omega)
          obtain ⟨m, rfl⟩ := Int.eq_ofNat_of_zero_le r0
          have hm : m < 5 := by omega
          have Hc1 := Lib.hid hc1
          have hy1 := ho1.size
          have Hf1 := Lib.hid (Hf.out.trans (Only.off (C := w.heap.size) ho1 (by omega)))
          clear hc1 ho1 r1 hr r0
          go_wp2_with fail
          refine (l1Bytes_any _ g a len cap m _ Hc1.out (by omega) (by omega) (by omega)).mono ?_
          rintro e v2 ⟨v, l, rfl, hl, hown, hc2, hf2⟩
          obtain ⟨t, ht, hcv⟩ := conv_own hown hl
          have Hc2 := Lib.hid hc2
          have hy2 := hf2.size
          have Hf2 := Lib.hid (Hf1.out.trans (hf2.mono (D := w.heap.size) (by omega)))
          have ht5 : t.size < 5 := by omega
          have ht5i : (t.size : Int) < 5 := by omega
          have hwu : IntKind.u64.wrap (t.size : Int) = (t.size : Int) := by rw [IntKind.wrap_u64]; omega
          clear hl ht hm
          clear hc2 hf2 hown
          go_wp2_with fail
          refine (l2Var_any _ g a len cap t.size _ Hc2.out (by omega) (by omega) (by omega)).mono ?_
          rintro e v3 ⟨y, hy, rfl, hc3, hf3⟩
          have Hc3 := Lib.hid hc3
          have Hf3 := Lib.hid (Hf2.out.trans (hf3.mono (D := w.heap.size) (by omega)))
          have hsy : (s ++ y).size ≤ 20 := by rw [ByteArray.size_append]; omega
          clear hc3 hf3
          go_wp2_with fail
          go_ret
          exact ⟨s ++ y ++ t, by rw [ByteArray.size_append]; omega, rfl, Hc3.out, Hf3.out⟩
        · have n2 : (z == 2) = false := by rw [beq_eq_false_iff_ne]; exact z2
          obtain ⟨W, hW⟩ : ∃ W, widthR z = W := ⟨_, rfl⟩
          have hwd := width_cases z
          rw [hW] at hwd
          have HW := Lib.hid hW
          obtain ⟨m, rfl⟩ := Int.eq_ofNat_of_zero_le (by omega : 0 ≤ W)
          have hm : m ≤ 8 := by omega
          clear z0 z2 hz0 hz7 hwd hW
          go_wp2_with fail
          refine (specWidthOf_any z _).mono ?_
          rw [HW.out]
          rintro e v4 ⟨rfl, rfl⟩
          go_wp2_with fail
          refine (l1Bytes_any _ g a len cap m _ Hc.out (by omega) (by omega) (by omega)).mono ?_
          rintro e v2 ⟨v, l, rfl, hl, hown, hc2, hf2⟩
          obtain ⟨t, ht, hcv⟩ := conv_own hown hl
          have Hc2 := Lib.hid hc2
          have Hf2 := Lib.hid (Hf.out.trans (hf2.mono (D := w.heap.size) (by omega)))
          have ht5 : t.size ≤ 8 := by omega
          clear hc2 hf2 hown
          go_wp2_with fail
          go_ret
          exact ⟨s ++ t, by rw [ByteArray.size_append]; omega, rfl, Hc2.out, Hf2.out⟩
    | true =>
      go_wp2_with fail
      refine (l1Wide_any B g a len cap _ Hc.out (by omega)).mono ?_
      rintro e u5 ⟨q, hq, rfl, hc4, hf4⟩
      have Hc4 := Lib.hid hc4
      have hx4 := hf4.size
      have Hf4 := Lib.hid (Hf.out.trans (hf4.mono (D := w.heap.size) (by omega)))
      have Hq := Lib.hid hq
      clear hc4 hf4 hq Hc Hf
      go_wp2_with fail
      refine (l2Var_any _ g a len cap q _ Hc4.out (by omega) (by omega) Hq.out).mono ?_
      rintro e u6 ⟨s, hs, rfl, hc5, hf5⟩
      have Hc := Lib.hid hc5
      have hx5 := hf5.size
      have Hf := Lib.hid (Hf4.out.trans (hf5.mono (D := w.heap.size) (by omega)))
      clear hc5 hf5 Hc4 Hf4 Hq
      by_cases z0 : z = 0
      · subst z0
        clear hz0 hz7
        go_wp2_with fail
        refine (l1Wide_any B g a len cap _ Hc.out (by omega)).mono ?_
        rintro e v1 ⟨u, hu, rfl, hc1, hf1⟩
        have Hc1 := Lib.hid hc1
        have hy1 := hf1.size
        have Hf1 := Lib.hid (Hf.out.trans (hf1.mono (D := w.heap.size) (by omega)))
        have Hu := Lib.hid hu
        clear hc1 hf1 hu
        go_wp2_with fail
        refine (l2Var_any _ g a len cap u _ Hc1.out (by omega) (by omega) Hu.out).mono ?_
        rintro e v2 ⟨t, ht, rfl, hc2, hf2⟩
        have Hc2 := Lib.hid hc2
        have Hf2 := Lib.hid (Hf1.out.trans (hf2.mono (D := w.heap.size) (by omega)))
        clear hc2 hf2
        go_wp2_with fail
        go_ret
        exact ⟨s ++ t, by rw [ByteArray.size_append]; omega, rfl, Hc2.out, Hf2.out⟩
      · have n0 : (z == 0) = false := by rw [beq_eq_false_iff_ne]; exact z0
        by_cases z2 : z = 2
        · subst z2
          clear hz0 hz7 z0
          go_wp2_with fail
          refine (l1Below_any B g a len cap _ _ Hc.out (by omega)).mono ?_
          rintro e v1 ⟨r, r0, r1, rfl, hc1, ho1⟩
          have hr : r < 5 := r1 (by omega)
          obtain ⟨m, rfl⟩ := Int.eq_ofNat_of_zero_le r0
          have hm : m < 5 := by omega
          have Hc1 := Lib.hid hc1
          have hy1 := ho1.size
          have Hf1 := Lib.hid (Hf.out.trans (Only.off (C := w.heap.size) ho1 (by omega)))
          clear hc1 ho1 r1 hr r0
          go_wp2_with fail
          refine (l1Bytes_any _ g a len cap m _ Hc1.out (by omega) (by omega) (by omega)).mono ?_
          rintro e v2 ⟨v, l, rfl, hl, hown, hc2, hf2⟩
          obtain ⟨t, ht, hcv⟩ := conv_own hown hl
          have Hc2 := Lib.hid hc2
          have hy2 := hf2.size
          have Hf2 := Lib.hid (Hf1.out.trans (hf2.mono (D := w.heap.size) (by omega)))
          have ht5 : t.size < 5 := by omega
          have ht5i : (t.size : Int) < 5 := by omega
          have hwu : IntKind.u64.wrap (t.size : Int) = (t.size : Int) := by rw [IntKind.wrap_u64]; omega
          clear hl ht hm
          clear hc2 hf2 hown
          go_wp2_with fail
          refine (l2Var_any _ g a len cap t.size _ Hc2.out (by omega) (by omega) (by omega)).mono ?_
          rintro e v3 ⟨y, hy, rfl, hc3, hf3⟩
          have Hc3 := Lib.hid hc3
          have Hf3 := Lib.hid (Hf2.out.trans (hf3.mono (D := w.heap.size) (by omega)))
          have hsy : (s ++ y).size ≤ 20 := by rw [ByteArray.size_append]; omega
          clear hc3 hf3
          go_wp2_with fail
          go_ret
          exact ⟨s ++ y ++ t, by rw [ByteArray.size_append]; omega, rfl, Hc3.out, Hf3.out⟩
        · have n2 : (z == 2) = false := by rw [beq_eq_false_iff_ne]; exact z2
          obtain ⟨W, hW⟩ : ∃ W, widthR z = W := ⟨_, rfl⟩
          have hwd := width_cases z
          rw [hW] at hwd
          have HW := Lib.hid hW
          obtain ⟨m, rfl⟩ := Int.eq_ofNat_of_zero_le (by omega : 0 ≤ W)
          have hm : m ≤ 8 := by omega
          clear z0 z2 hz0 hz7 hwd hW
          go_wp2_with fail
          refine (specWidthOf_any z _).mono ?_
          rw [HW.out]
          rintro e v4 ⟨rfl, rfl⟩
          go_wp2_with fail
          refine (l1Bytes_any _ g a len cap m _ Hc.out (by omega) (by omega) (by omega)).mono ?_
          rintro e v2 ⟨v, l, rfl, hl, hown, hc2, hf2⟩
          obtain ⟨t, ht, hcv⟩ := conv_own hown hl
          have Hc2 := Lib.hid hc2
          have Hf2 := Lib.hid (Hf.out.trans (hf2.mono (D := w.heap.size) (by omega)))
          have ht5 : t.size ≤ 8 := by omega
          clear hc2 hf2 hown
          go_wp2_with fail
          go_ret
          exact ⟨s ++ t, by rw [ByteArray.size_append]; omega, rfl, Hc2.out, Hf2.out⟩
  | true =>
    clear hz0 hz7
    go_wp2_with fail
    refine (l1PickInt_any _ g a len cap _ 4 4 [3, 4, 6, 7] _ _ _ _ (Hd.out.other ((Below.refl w2.heap.size _).alloc (Nat.le_refl _) _) (by omega) (by omega)) (heap_alloc_new _ _) rfl rfl (by omega) (by omega) (by omega)).mono ?_
    rintro e w3 ⟨z, hz, rfl, hc0, ho0⟩
    have hz07 : 0 ≤ z ∧ z ≤ 7 := by simp only [List.mem_cons, List.not_mem_nil, or_false] at hz; omega
    obtain ⟨hz0, hz7⟩ := hz07
    have Hd' := Lib.hid hc0
    have hw3 : w2.heap.size ≤ w3.heap.size := by have h := ho0.size; simp at h; omega
    have He' : Hid (Off w.heap.size g w w3) := Lib.hid (He.out.trans (((Below.off ((Below.refl w2.heap.size _).alloc (by omega) _)).trans (Only.off ho0 (by first | omega | (simp; done) | (simp; omega)))).mono (by omega)))
    clear hz hc0 ho0 Hd He
    rename Hid (Cur w3 B g a len cap) => Hd
    rename Hid (Off w.heap.size g w w3) => He
    go_wp2_with fail
    refine (l1Below_any B g a len cap _ _ Hd.out (by omega)).mono ?_
    rintro e u1 ⟨r, r0, r1, rfl, hc1, ho1⟩
    have hr : r < 3 := r1 (by omega)
    have Hc1 := Lib.hid hc1
    have hx1 := ho1.size
    have Hf1 := Lib.hid (He.out.trans (Only.off (C := w.heap.size) ho1 (by omega)))
    have hwr : IntKind.i64.wrap (40 + r) = 40 + r := IntWalk.i64_in _ (by omega)
    obtain ⟨T, hT, hT1⟩ := tag_small r z r0 hr
    have HT := Lib.hid hT
    clear hc1 ho1 r1 hr r0 Hd He hT
    go_wp2_with fail
    refine (specTagOf_any (40 + r) z _).mono ?_
    rw [HT.out]
    rintro e u2 ⟨rfl, rfl⟩
    go_wp2_with fail
    refine (l2Var_any _ g a len cap T _ Hc1.out (by omega) (by omega) hT1).mono ?_
    rintro e u3 ⟨s, hs, rfl, hc2, hf2⟩
    have Hc2 := Lib.hid hc2
    have hx2 := hf2.size
    have Hf2 := Lib.hid (Hf1.out.trans (hf2.mono (D := w.heap.size) (by omega)))
    clear hc2 hf2 Hc1 Hf1 HT hwr
    go_wp2_with fail
    refine (l1Once_any B g a len cap _ _ Hc2.out (by omega)).mono ?_
    rintro e u4 ⟨b2, rfl, hc3, ho3⟩
    have Hc := Lib.hid hc3
    have hx3 := ho3.size
    have Hf := Lib.hid (Hf2.out.trans (Only.off (C := w.heap.size) ho3 (by omega)))
    have hx : w.heap.size ≤ u4.heap.size := by omega
    clear hc3 ho3 Hc2 Hf2
    cases b2 with
    | false =>
      by_cases z0 : z = 0
      · subst z0
        clear hz0 hz7
        go_wp2_with fail
        refine (l1Wide_any B g a len cap _ Hc.out (by omega)).mono ?_
        rintro e v1 ⟨u, hu, rfl, hc1, hf1⟩
        have Hc1 := Lib.hid hc1
        have hy1 := hf1.size
        have Hf1 := Lib.hid (Hf.out.trans (hf1.mono (D := w.heap.size) (by omega)))
        have Hu := Lib.hid hu
        clear hc1 hf1 hu
        go_wp2_with fail
        refine (l2Var_any _ g a len cap u _ Hc1.out (by omega) (by omega) Hu.out).mono ?_
        rintro e v2 ⟨t, ht, rfl, hc2, hf2⟩
        have Hc2 := Lib.hid hc2
        have Hf2 := Lib.hid (Hf1.out.trans (hf2.mono (D := w.heap.size) (by omega)))
        clear hc2 hf2
        go_wp2_with fail
        go_ret
        exact ⟨s ++ t, by rw [ByteArray.size_append]; omega, rfl, Hc2.out, Hf2.out⟩
      · have n0 : (z == 0) = false := by rw [beq_eq_false_iff_ne]; exact z0
        by_cases z2 : z = 2
        · subst z2
          clear hz0 hz7 z0
          go_wp2_with fail
          refine (l1Below_any B g a len cap _ _ Hc.out (by omega)).mono ?_
          rintro e v1 ⟨r, r0, r1, rfl, hc1, ho1⟩
          have hr : r < 5 := r1 (by omega)
          obtain ⟨m, rfl⟩ := Int.eq_ofNat_of_zero_le r0
          have hm : m < 5 := by omega
          have Hc1 := Lib.hid hc1
          have hy1 := ho1.size
          have Hf1 := Lib.hid (Hf.out.trans (Only.off (C := w.heap.size) ho1 (by omega)))
          clear hc1 ho1 r1 hr r0
          go_wp2_with fail
          refine (l1Bytes_any _ g a len cap m _ Hc1.out (by omega) (by omega) (by omega)).mono ?_
          rintro e v2 ⟨v, l, rfl, hl, hown, hc2, hf2⟩
          obtain ⟨t, ht, hcv⟩ := conv_own hown hl
          have Hc2 := Lib.hid hc2
          have hy2 := hf2.size
          have Hf2 := Lib.hid (Hf1.out.trans (hf2.mono (D := w.heap.size) (by omega)))
          have ht5 : t.size < 5 := by omega
          have ht5i : (t.size : Int) < 5 := by omega
          have hwu : IntKind.u64.wrap (t.size : Int) = (t.size : Int) := by rw [IntKind.wrap_u64]; omega
          clear hl ht hm
          clear hc2 hf2 hown
          go_wp2_with fail
          refine (l2Var_any _ g a len cap t.size _ Hc2.out (by omega) (by omega) (by omega)).mono ?_
          rintro e v3 ⟨y, hy, rfl, hc3, hf3⟩
          have Hc3 := Lib.hid hc3
          have Hf3 := Lib.hid (Hf2.out.trans (hf3.mono (D := w.heap.size) (by omega)))
          have hsy : (s ++ y).size ≤ 20 := by rw [ByteArray.size_append]; omega
          clear hc3 hf3
          go_wp2_with fail
          go_ret
          exact ⟨s ++ y ++ t, by rw [ByteArray.size_append]; omega, rfl, Hc3.out, Hf3.out⟩
        · have n2 : (z == 2) = false := by rw [beq_eq_false_iff_ne]; exact z2
          obtain ⟨W, hW⟩ : ∃ W, widthR z = W := ⟨_, rfl⟩
          have hwd := width_cases z
          rw [hW] at hwd
          have HW := Lib.hid hW
          obtain ⟨m, rfl⟩ := Int.eq_ofNat_of_zero_le (by omega : 0 ≤ W)
          have hm : m ≤ 8 := by omega
          clear z0 z2 hz0 hz7 hwd hW
          go_wp2_with fail
          refine (specWidthOf_any z _).mono ?_
          rw [HW.out]
          rintro e v4 ⟨rfl, rfl⟩
          go_wp2_with fail
          refine (l1Bytes_any _ g a len cap m _ Hc.out (by omega) (by omega) (by omega)).mono ?_
          rintro e v2 ⟨v, l, rfl, hl, hown, hc2, hf2⟩
          obtain ⟨t, ht, hcv⟩ := conv_own hown hl
          have Hc2 := Lib.hid hc2
          have Hf2 := Lib.hid (Hf.out.trans (hf2.mono (D := w.heap.size) (by omega)))
          have ht5 : t.size ≤ 8 := by omega
          clear hc2 hf2 hown
          go_wp2_with fail
          go_ret
          exact ⟨s ++ t, by rw [ByteArray.size_append]; omega, rfl, Hc2.out, Hf2.out⟩
    | true =>
      go_wp2_with fail
      refine (l1Wide_any B g a len cap _ Hc.out (by omega)).mono ?_
      rintro e u5 ⟨q, hq, rfl, hc4, hf4⟩
      have Hc4 := Lib.hid hc4
      have hx4 := hf4.size
      have Hf4 := Lib.hid (Hf.out.trans (hf4.mono (D := w.heap.size) (by omega)))
      have Hq := Lib.hid hq
      clear hc4 hf4 hq Hc Hf
      go_wp2_with fail
      refine (l2Var_any _ g a len cap q _ Hc4.out (by omega) (by omega) Hq.out).mono ?_
      rintro e u6 ⟨s, hs, rfl, hc5, hf5⟩
      have Hc := Lib.hid hc5
      have hx5 := hf5.size
      have Hf := Lib.hid (Hf4.out.trans (hf5.mono (D := w.heap.size) (by omega)))
      clear hc5 hf5 Hc4 Hf4 Hq
      by_cases z0 : z = 0
      · subst z0
        clear hz0 hz7
        go_wp2_with fail
        refine (l1Wide_any B g a len cap _ Hc.out (by omega)).mono ?_
        rintro e v1 ⟨u, hu, rfl, hc1, hf1⟩
        have Hc1 := Lib.hid hc1
        have hy1 := hf1.size
        have Hf1 := Lib.hid (Hf.out.trans (hf1.mono (D := w.heap.size) (by omega)))
        have Hu := Lib.hid hu
        clear hc1 hf1 hu
        go_wp2_with fail
        refine (l2Var_any _ g a len cap u _ Hc1.out (by omega) (by omega) Hu.out).mono ?_
        rintro e v2 ⟨t, ht, rfl, hc2, hf2⟩
        have Hc2 := Lib.hid hc2
        have Hf2 := Lib.hid (Hf1.out.trans (hf2.mono (D := w.heap.size) (by omega)))
        clear hc2 hf2
        go_wp2_with fail
        go_ret
        exact ⟨s ++ t, by rw [ByteArray.size_append]; omega, rfl, Hc2.out, Hf2.out⟩
      · have n0 : (z == 0) = false := by rw [beq_eq_false_iff_ne]; exact z0
        by_cases z2 : z = 2
        · subst z2
          clear hz0 hz7 z0
          go_wp2_with fail
          refine (l1Below_any B g a len cap _ _ Hc.out (by omega)).mono ?_
          rintro e v1 ⟨r, r0, r1, rfl, hc1, ho1⟩
          have hr : r < 5 := r1 (by omega)
          obtain ⟨m, rfl⟩ := Int.eq_ofNat_of_zero_le r0
          have hm : m < 5 := by omega
          have Hc1 := Lib.hid hc1
          have hy1 := ho1.size
          have Hf1 := Lib.hid (Hf.out.trans (Only.off (C := w.heap.size) ho1 (by omega)))
          clear hc1 ho1 r1 hr r0
          go_wp2_with fail
          refine (l1Bytes_any _ g a len cap m _ Hc1.out (by omega) (by omega) (by omega)).mono ?_
          rintro e v2 ⟨v, l, rfl, hl, hown, hc2, hf2⟩
          obtain ⟨t, ht, hcv⟩ := conv_own hown hl
          have Hc2 := Lib.hid hc2
          have hy2 := hf2.size
          have Hf2 := Lib.hid (Hf1.out.trans (hf2.mono (D := w.heap.size) (by omega)))
          have ht5 : t.size < 5 := by omega
          have ht5i : (t.size : Int) < 5 := by omega
          have hwu : IntKind.u64.wrap (t.size : Int) = (t.size : Int) := by rw [IntKind.wrap_u64]; omega
          clear hl ht hm
          clear hc2 hf2 hown
          go_wp2_with fail
          refine (l2Var_any _ g a len cap t.size _ Hc2.out (by omega) (by omega) (by omega)).mono ?_
          rintro e v3 ⟨y, hy, rfl, hc3, hf3⟩
          have Hc3 := Lib.hid hc3
          have Hf3 := Lib.hid (Hf2.out.trans (hf3.mono (D := w.heap.size) (by omega)))
          have hsy : (s ++ y).size ≤ 20 := by rw [ByteArray.size_append]; omega
          clear hc3 hf3
          go_wp2_with fail
          go_ret
          exact ⟨s ++ y ++ t, by rw [ByteArray.size_append]; omega, rfl, Hc3.out, Hf3.out⟩
        · have n2 : (z == 2) = false := by rw [beq_eq_false_iff_ne]; exact z2
          obtain ⟨W, hW⟩ : ∃ W, widthR z = W := ⟨_, rfl⟩
          have hwd := width_cases z
          rw [hW] at hwd
          have HW := Lib.hid hW
          obtain ⟨m, rfl⟩ := Int.eq_ofNat_of_zero_le (by omega : 0 ≤ W)
          have hm : m ≤ 8 := by omega
          clear z0 z2 hz0 hz7 hwd hW
          go_wp2_with fail
          refine (specWidthOf_any z _).mono ?_
          rw [HW.out]
          rintro e v4 ⟨rfl, rfl⟩
          go_wp2_with fail
          refine (l1Bytes_any _ g a len cap m _ Hc.out (by omega) (by omega) (by omega)).mono ?_
          rintro e v2 ⟨v, l, rfl, hl, hown, hc2, hf2⟩
          obtain ⟨t, ht, hcv⟩ := conv_own hown hl
          have Hc2 := Lib.hid hc2
          have Hf2 := Lib.hid (Hf.out.trans (hf2.mono (D := w.heap.size) (by omega)))
          have ht5 : t.size ≤ 8 := by omega
          clear hc2 hf2 hown
          go_wp2_with fail
          go_ret
          exact ⟨s ++ t, by rw [ByteArray.size_append]; omega, rfl, Hc2.out, Hf2.out⟩
end Go.Proofs.YtpkofbdfnbpfpaaGreat.Num

