/-
  The walks of the program's RuneText and UtfGood and of the library's HasPrefix: they give what the plain validator gives; only new memory is written.
-/
import Derived.Test.YtoohcepobbbejaaRune
import Derived.Test.YtoohcepobbbejaaUtfDecode
import Derived.Lib.OthersKept
import Derived.LoopTactic
import Derived.Deep.QuietTactic
import Derived.BigQuiet
import Derived.IntWalk
import Derived.WalkSmall
import Derived.Laws.Runes
namespace Go.Proofs.Ytoohcepobbbejaa.Num
open Go.RowKit Go.Proofs
set_option linter.unusedVariables false

theorem one_iter (w : World) (s : ByteArray) : Below w.heap.size w (w.iter s 0) := (Below.refl _ _).alloc (Nat.le_refl _) _
theorem encode_rune {n : Int} (h : Utf.Right n) : Utf8.encode n = runeS n := by
  have hv : Utf8.valid n = true := by
    rw [Go.validRune_eq]; unfold Go.validRune; unfold Utf.Right at h; exact decide_eq_true (by omega)
  unfold Utf8.encode runeS Utf.rune
  rw [if_pos h]
  simp only [hv, if_true]
  unfold Utf.runeN
  split
  · rfl
  · split
    · rfl
    · split <;> rfl
theorem rune_none {n : Int} (h : ¬ Utf.Right n) : runeS n = ⟨#[]⟩ := by unfold runeS; rw [Utf.rune_no h]
theorem i32_in (x : Int) (h : -2147483648 ≤ x ∧ x < 2147483648) : IntKind.i32.wrap x = x := by
  unfold IntKind.wrap
  simp [IntKind.bits, IntKind.signed]
  omega
theorem turn_same {P : Program} {f : FuncId} {args : Array Value} {w : World} {v : Value} (h : Calls P f args w fun e w' => e = .returned v ∧ w = w') : Calls P f args w fun e w' => e = .returned v ∧ w' = w :=
  h.mono fun _ _ ⟨he, hw⟩ => ⟨he, hw.symm⟩
theorem implRune_same (n : Int) (r : ByteArray) (h : runeS n = r) (w : World) :
    Calls Try.prog 17 #[.int .i64 n] w fun e w' => e = .returned (.string r) ∧ w = w' := by
  subst h
  by_cases c0 : 0 ≤ n
  · by_cases c1 : n ≤ 1114111
    · by_cases c2 : 55296 ≤ n
      · by_cases c3 : n ≤ 57343
        · have He := Lib.hid (rune_none (n := n) (by unfold Utf.Right; omega))
          go_enter Try.func17, Try.ntmps17
          go_wp2_with fail
          go_ret
          exact ⟨by rw [He.out]; rfl, rfl⟩
        · have He := Lib.hid (encode_rune (n := n) (by unfold Utf.Right; omega))
          have hw := i32_in n (by omega)
          go_enter Try.func17, Try.ntmps17
          go_wp2_with fail
          go_ret
          exact ⟨by rw [He.out]; rfl, rfl⟩
      · have He := Lib.hid (encode_rune (n := n) (by unfold Utf.Right; omega))
        have hw := i32_in n (by omega)
        go_enter Try.func17, Try.ntmps17
        go_wp2_with fail
        go_ret
        exact ⟨by rw [He.out]; rfl, rfl⟩
    · have He := Lib.hid (rune_none (n := n) (by unfold Utf.Right; omega))
      go_enter Try.func17, Try.ntmps17
      go_wp2_with fail
      go_ret
      exact ⟨by rw [He.out]; rfl, rfl⟩
  · have He := Lib.hid (rune_none (n := n) (by unfold Utf.Right; omega))
    go_enter Try.func17, Try.ntmps17
    go_wp2_with fail
    go_ret
    exact ⟨by rw [He.out]; rfl, rfl⟩
theorem implRuneText_any (n : Int) (w : World) :
    Calls Try.prog 17 #[.int .i64 n] w fun e w' => e = .returned (.string (runeS n)) ∧ Below w.heap.size w w' :=
  (implRune_same n _ rfl w).mono fun e w' ⟨he, hw⟩ => ⟨he, hw ▸ Below.refl _ _⟩
/-! HasPrefix. -/
theorem prefIn_long (s p : ByteArray) (w : World) (hs : s.size ≤ 281474976710656) (hp : p.size ≤ 281474976710656) (hl : s.size < p.size) :
    Calls Try.prog 47 #[.string s, .string p] w fun e w' => e = .returned (.bool false) ∧ w = w' := by
  go_enter Try.func47, Try.ntmps47
  go_wp2_with fail
  go_ret
  exact ⟨rfl, rfl⟩
theorem prefIn_any (s p : ByteArray) (b : Bool) (w : World) (hs : s.size ≤ 281474976710656) (hp : p.size ≤ 281474976710656) (hl : p.size ≤ s.size) (hb : ((s.extract 0 p.size).toList == p.toList) = b) :
    Calls Try.prog 47 #[.string s, .string p] w fun e w' => e = .returned (.bool b) ∧ w = w' := by
  go_enter Try.func47, Try.ntmps47
  go_wp2_with fail
  go_ret
  exact ⟨rfl, rfl⟩
theorem pref_any (s p : ByteArray) (b : Bool) (w : World) (hs : s.size ≤ 281474976710656) (hp : p.size ≤ 281474976710656) (hb : decide (p.data.toList = s.data.toList.take p.size) = b) :
    Calls Try.prog 34 #[.string s, .string p] w fun e w' => e = .returned (.bool b) ∧ w = w' := by
  by_cases hl : s.size < p.size
  · have hbf : b = false := by
      rw [← hb]
      refine decide_eq_false fun h => ?_
      have := congrArg List.length h
      rw [List.length_take] at this
      simp at this
      omega
    subst hbf
    have Hc := Lib.hid (prefIn_long s p · hs hp hl)
    clear hb
    go_enter Try.func34, Try.ntmps34
    go_wp2_with fail
    refine (Hc.out _).mono ?_
    rintro e w1 ⟨rfl, rfl⟩
    go_wp2_with fail
    go_ret
    exact ⟨rfl, rfl⟩
  · have he : ((s.extract 0 p.size).toList == p.toList) = b := by
      rw [← hb, Bool.eq_iff_iff, beq_iff_eq, decide_eq_true_iff]
      have e1 : (s.extract 0 p.size).toList = s.data.toList.take p.size := by
        rw [ByteArray.toList_eq, ByteArray.data_extract, Array.toList_extract]; simp [List.extract]
      rw [e1, ByteArray.toList_eq]
      exact ⟨fun h => h.symm, fun h => h.symm⟩
    have Hc := Lib.hid (prefIn_any s p b · hs hp (by omega) he)
    clear hb he hl
    go_enter Try.func34, Try.ntmps34
    go_wp2_with fail
    refine (Hc.out _).mono ?_
    rintro e w1 ⟨rfl, rfl⟩
    go_wp2_with fail
    go_ret
    exact ⟨rfl, rfl⟩
/-! UtfGood. -/
theorem ext_drop (s : ByteArray) (k : Nat) : (s.extract k s.size).data.toList = s.data.toList.drop k := by
  rw [ByteArray.data_extract, Array.toList_extract]
  simp only [List.extract]
  exact List.take_of_length_le (by simp)
theorem pref_at (s : ByteArray) (k : Nat) (c : Int) (b : Bool) (w : World) (hs : s.size ≤ 281474976710656) (hb : decide (Utf.rune c = (s.data.toList.drop k).take (Utf.rune c).length) = b) :
    Calls Try.prog 34 #[.string (s.extract k s.size), .string (runeS c)] w fun e w' => e = .returned (.bool b) ∧ w = w' := by
  have hl := Utf.rune_len c
  have hz : (runeS c).size = (Utf.rune c).length := by unfold runeS; simp [ByteArray.size]
  refine pref_any _ _ b w ?_ (by omega) ?_
  · rw [ByteArray.size_extract]; omega
  · rw [← hb, ext_drop, hz]; rfl
set_option maxHeartbeats 1000000 in
theorem implUtfGood_any (s : ByteArray) (w : World) (hs : s.size ≤ 281474976710656) :
    Calls Try.prog 15 #[.string s] w fun e w' => e = .returned (.bool (Utf.good s.data.toList)) ∧ Below w.heap.size w w' := by
  generalize hR : Utf.good s.data.toList = R
  have HR := Lib.hid hR; clear hR
  go_enter Try.func15, Try.ntmps15
  go_wp2_with fail
  go_loopw [7] (fun _ wr => ∃ pos : Nat, pos ≤ s.size ∧ wr.heap[w.heap.size]? = some (.stringIter s pos) ∧ Hid (Utf.good (s.data.toList.drop pos) = R) ∧ Below w.heap.size w wr) (fun _ wr => s.size - wr.iterPos w.heap.size)
  case atStart => exact ⟨0, Nat.zero_le _, World.iter_heap w s 0, Lib.hid (by rw [List.drop_zero]; exact HR.out), one_iter _ _⟩
  case round =>
    obtain ⟨pos, hps, hit, Hg, hbl⟩ := hrel
    have hzw : w.heap.size < wr.heap.size := (Array.getElem?_eq_some_iff.1 hit).1
    have hmu : wr.iterPos w.heap.size = pos := iterPos_of hit
    by_cases hp : pos < s.size
    · have hpI : (pos : Int) ≤ (s.size : Int) := by omega
      have hnx : ∀ ty, (Instr.next (.pointer (some ⟨w.heap.size, 0, none⟩)) true ty).run Try.prog wr = _ := fun ty => Lib.run_next_any_at wr w.heap.size s pos ty hit hp
      have hit2 := Lib.iterAt_heap wr w.heap.size s pos (pos + (Utf8.decode s pos).2) hit
      have hbl2 := Lib.below_iterAt hbl (k := w.heap.size) (Nat.le_refl _) s (pos + (Utf8.decode s pos).2)
      have Hbad := Lib.hid (Utf.decode_bad s pos hp)
      rcases Utf.decode_told s pos hp with hd | ⟨c, n, hd, hn1, hn2, hr⟩
      · obtain ⟨hg, hk⟩ := Hbad.out hd
        obtain rfl : false = R := by rw [← Hg.out, hg]
        have Hp := Lib.hid (pref_at s pos 65533 false · hs (decide_eq_false fun h => by
          have hlen := congrArg List.length h
          rw [List.length_take, List.length_drop] at hlen
          simp at hlen
          have h3 : (Utf.rune 65533).length = 3 := rfl
          exact hk 3 65533 (by omega) (by decide) (by rw [h3] at h; exact h)))
        rw [hd] at hnx hit2 hbl2
        simp only at hnx hit2 hbl2
        generalize wr.iterAt w.heap.size s (pos + 1) = W1 at hnx hit2 hbl2
        have hw : IntKind.i64.wrap 65533 = 65533 := IntWalk.i64_in _ (by omega)
        clear hk hg hd Hbad
        go_wp2_with fail
        go_quiet ((first | (go_at_call 17; exact Calls.quiet_of_same (turn_same (implRune_same 65533 _ rfl _))) | (go_at_call 34; exact Calls.quiet_of_same (turn_same (Hp.out _)))))
        go_wp2_with fail
        go_ret
        exact ⟨rfl, below_drewN hbl2 _⟩
      · have hpos : 0 < (Utf.rune c).length := by rw [hr, List.length_take, List.length_drop]; simp; omega
        have hlen : (Utf.rune c).length = n := by rw [hr, List.length_take, List.length_drop]; simp; omega
        have Hp := Lib.hid (pref_at s pos c true · hs (decide_eq_true (by rw [hlen]; exact hr)))
        have Hg2 : Hid (Utf.good (s.data.toList.drop (pos + n)) = R) := Lib.hid (by
          rw [← Hg.out, Utf.good_step (m := n) (n := c) (by intro h; have := congrArg List.length h; simp at this; omega) (by omega) hr, List.drop_drop])
        have hc : c ≤ 1114111 := by
          rcases Utf.rune_cases (c : Int) with ⟨_, h⟩ | ⟨_, _, h, _⟩
          · rw [h] at hpos; simp at hpos
          · unfold Utf.Right at h; omega
        have hw : IntKind.i64.wrap (c : Int) = (c : Int) := IntWalk.i64_in _ (by omega)
        rw [hd] at hnx hit2 hbl2
        simp only at hnx hit2 hbl2
        generalize wr.iterAt w.heap.size s (pos + n) = W1 at hnx hit2 hbl2
        have hmu2 : W1.iterPos w.heap.size = pos + n := iterPos_of hit2
        clear hd hr hpos hlen hc Hbad
        go_wp2_with fail
        go_quiet ((first | (go_at_call 17; exact Calls.quiet_of_same (turn_same (implRune_same c _ rfl _))) | (go_at_call 34; exact Calls.quiet_of_same (turn_same (Hp.out _)))))
        go_wp2_with fail
        refine ⟨⟨pos + n, by omega, hit2, Hg2, below_drewN hbl2 _⟩, ?_⟩
        show _ - World.iterPos W1 _ < _
        rw [hmu, hmu2]
        omega
    · have hnx : ∀ ty, (Instr.next (.pointer (some ⟨w.heap.size, 0, none⟩)) true ty).run Try.prog wr = _ := fun ty => Lib.run_next_end_at wr w.heap.size s pos ty hit hp
      obtain rfl : true = R := by rw [← Hg.out, List.drop_eq_nil_of_le (by simp; omega)]; rfl
      go_wp2_with fail
      go_ret
      exact ⟨rfl, hbl⟩
end Go.Proofs.Ytoohcepobbbejaa.Num
