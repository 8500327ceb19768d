/-
  The walks of the program's isPart, isNoPart, isEmptyPart, PartBytes and LongestPart; only new memory is written.
-/
import Derived.Test.YteplmjlllnbiiaaPartS
namespace Go.Proofs.Yteplmjlllnbiiaa.Num
open Go.RowKit Go.Proofs
set_option linter.unusedVariables false
set_option linter.unusedSimpArgs false
attribute [local go_sem] Region.wanted yielded

theorem isPart_any (e : Ev) (Q : Bool) (w : World) (hQ : (e.kind == 4) = Q) : Calls Try.prog 40 #[evV e] w fun x w' => x = .returned (.bool Q) ∧ Below w.heap.size w w' := by
  obtain ⟨K, F, Bt, L, Tx, C, P⟩ := e
  unfold evV
  simp only at hQ ⊢
  go_enter Try.func40, Try.ntmps40
  go_wp2_with fail
  go_ret
  exact ⟨rfl, (Below.refl _ _).alloc (Nat.le_refl _) _⟩
theorem isNoPart_any (e : Ev) (Q : Bool) (w : World) (hQ : (e.kind == 4) = Q) : Calls Try.prog 55 #[evV e] w fun x w' => x = .returned (.bool (!Q)) ∧ Below w.heap.size w w' := by
  have HC := Lib.hid (fun w => isPart_any e Q w hQ)
  obtain ⟨K, F, Bt, L, Tx, C, P⟩ := e
  unfold evV at HC ⊢
  simp only at hQ HC ⊢
  clear hQ
  have hb : Below w.heap.size w (w.alloc (.cells #[.int .i64 K, .int .i64 F, .int .u64 Bt, .int .i64 L, .string Tx, .int .i64 C, .int .i64 P] 31)) := (Below.refl _ _).alloc (Nat.le_refl _) _
  go_enter Try.func55, Try.ntmps55
  go_wp2_with fail
  refine (HC.out _).mono ?_
  rintro e w2 ⟨rfl, hb2⟩
  have hb3 := hb.trans (hb2.mono hb.size)
  clear hb2 hb
  go_wp2_with fail
  go_ret
  exact ⟨rfl, hb3⟩
set_option maxHeartbeats 1000000 in
theorem isEmptyPart_any (e : Ev) (Q : Bool) (w : World) (hQ : emptyPart e = Q) : Calls Try.prog 37 #[evV e] w fun x w' => x = .returned (.bool Q) ∧ Below w.heap.size w w' := by
  have HQ := Lib.hid hQ
  obtain ⟨R, hR⟩ : ∃ R, (e.kind == 4) = R := ⟨_, rfl⟩
  have HC := Lib.hid (fun w => isPart_any e R w hR)
  have HR := Lib.hid hR
  obtain ⟨K, F, Bt, L, Tx, C, P⟩ := e
  unfold evV at HC ⊢
  simp only at hR HC ⊢
  clear hR hQ
  have hb : Below w.heap.size w (w.alloc (.cells #[.int .i64 K, .int .i64 F, .int .u64 Bt, .int .i64 L, .string Tx, .int .i64 C, .int .i64 P] 31)) := (Below.refl _ _).alloc (Nat.le_refl _) _
  have hx := Box.fresh w #[.int .i64 K, .int .i64 F, .int .u64 Bt, .int .i64 L, .string Tx, .int .i64 C, .int .i64 P] 31
  go_enter Try.func37, Try.ntmps37
  go_wp2_with fail
  refine (HC.out _).mono ?_
  rintro e w2 ⟨rfl, hb2⟩
  have hx2 := hx.below hb2 hx.lt
  have hb3 := hb.trans (hb2.mono hb.size)
  obtain ⟨⟨e0, e1, e2, e3, e4, e5, e6⟩, _⟩ := Box.seven hx2
  clear hb2 hb hx
  cases R with
  | false =>
    obtain rfl : Q = false := by rw [← HQ.out]; unfold emptyPart; exact decide_eq_false fun h => by have h1 : K = 4 := h.1; have h2 : (K == 4) = false := HR.out; rw [h1] at h2; cases h2
    go_wp2_with fail
    go_ret
    exact ⟨rfl, hb3⟩
  | true =>
    have hK : K = 4 := by have := HR.out; simpa using this
    have ht : Tx.toList.isEmpty = Q := by
      rw [← HQ.out]
      unfold emptyPart
      by_cases h0 : Tx.size = 0
      · rw [ba_zero h0, decide_eq_true ⟨hK, rfl⟩]; exact (congrArg List.isEmpty (ByteArray.toList_eq (⟨#[]⟩ : ByteArray))).trans rfl
      · rw [decide_eq_false (fun h => h0 h.2)]
        cases hh : Tx.toList.isEmpty with
        | false => rfl
        | true => exact absurd (by rw [ba_inj (a := Tx) (b := .empty) (by rw [List.isEmpty_iff.1 hh, ByteArray.toList_eq]; rfl)]; rfl) h0
    clear hK
    go_wp2_with fail
    go_ret
    exact ⟨rfl, hb3⟩
set_option maxHeartbeats 1000000 in
theorem implPartBytes_any (v : Value) (l : List Ev) (w : World) (h : EvsAt w (· < w.heap.size) v l) (hl : SmallE l) :
    Calls Try.prog 18 #[v] w fun e w' => e = .returned (.int .i64 (partBytes l)) ∧ Below w.heap.size w w' := by
  obtain ⟨a, cap, rfl⟩ := h.len
  have H := Lib.hid h
  have hl1 := hl.1
  have Hl := Lib.hid hl.2
  clear h hl
  go_enter Try.func18, Try.ntmps18
  go_wp2_with fail
  go_loopw [3, 8] (fun n i wr => ∃ j : Nat, j ≤ l.length ∧ i = .int .i64 j ∧ n = .int .i64 (partBytes (l.take j)) ∧ Below w.heap.size w wr) (fun _ i _ => l.length - (intOf i).toNat)
  case atStart => exact ⟨0, by omega, rfl, rfl, Below.refl _ _⟩
  case round =>
    obtain ⟨j, hj, rfl, rfl, hbr⟩ := hrel
    have hzr := hbr.size
    by_cases hlt : j < l.length
    · have hlti : (j : Int) < (l.length : Int) := by omega
      obtain ⟨b, o, rfl, hbC, c0, c1, c2, c3, c4, c5, c6⟩ := H.out.cellsAt j hlt
      rw [← hbr.cell (p := ⟨b, _, none⟩) hbC] at c0 c1 c2 c3 c4 c5 c6
      have Hm := Lib.hid (partBytes_take l j hlt)
      have hmle : partBytes (l.take (j + 1)) ≤ 1048576 := by have := Hl.out; have := partBytes_le (l.take (j + 1)); have := texts_take l (j + 1); omega
      have Hmle := Lib.hid hmle
      clear hmle
      generalize partBytes (l.take j) = m at Hm ⊢
      generalize l[j] = e at Hm c0 c1 c2 c3 c4 c5 c6
      obtain ⟨K, F, Bt, L, Tx, C, P⟩ := e
      simp only at c0 c1 c2 c3 c4 c5 c6
      have hx := Box.fresh wr #[.int .i64 K, .int .i64 F, .int .u64 Bt, .int .i64 L, .string Tx, .int .i64 C, .int .i64 P] 31
      have hbx : Below w.heap.size w (wr.alloc (.cells #[.int .i64 K, .int .i64 F, .int .u64 Bt, .int .i64 L, .string Tx, .int .i64 C, .int .i64 P] 31)) := hbr.alloc hzr _
      obtain ⟨Q, hQ⟩ : ∃ Q, (K == 4) = Q := ⟨_, rfl⟩
      have HC := Lib.hid (fun w => isPart_any ⟨K, F, Bt, L, Tx, C, P⟩ Q w hQ)
      have HQ := Lib.hid hQ
      clear hQ
      go_wp2_with fail
      refine (HC.out _).mono ?_
      rintro e w2 ⟨rfl, hb2⟩
      have hx2 := hx.below hb2 hx.lt
      have hb3 := hbx.trans (hb2.mono hbx.size)
      generalize wr.heap.size = g at hx2 ⊢
      obtain ⟨⟨e0, e1, e2, e3, e4, e5, e6⟩, _⟩ := Box.seven hx2
      clear hb2 hbx hx c0 c1 c2 c3 c4 c5 c6
      cases Q with
      | true =>
        have hk : K = 4 := by have := HQ.out; simpa using this
        have Hm2 : Hid (partBytes (l.take (j + 1)) = m + Tx.size) := Lib.hid (by rw [Hm.out]; unfold partLen; rw [if_pos hk])
        have hw : IntKind.i64.wrap ((m : Int) + (Tx.size : Int)) = ((m + Tx.size : Nat) : Int) := by rw [IntWalk.i64_in _ (by have := Hm2.out; have := Hmle.out; omega)]; omega
        clear Hm hk
        go_wp2_with fail
        go_roundw
        case rel => exact ⟨j + 1, by omega, by go_num, by rw [Hm2.out]; go_num, hb3⟩
        case measure => simp [intOf]; omega
      | false =>
        have hk : K ≠ 4 := by have := HQ.out; simpa using this
        have Hm2 : Hid (partBytes (l.take (j + 1)) = m) := Lib.hid (by rw [Hm.out]; unfold partLen; rw [if_neg hk]; rfl)
        clear hk Hm
        go_wp2_with fail
        go_roundw
        case rel => exact ⟨j + 1, by omega, by go_num, by rw [Hm2.out], hb3⟩
        case measure => simp [intOf]; omega
    · have hge : (l.length : Int) ≤ (j : Int) := by omega
      have hend : decide (j < l.length) = false := decide_eq_false hlt
      obtain rfl : j = l.length := by omega
      go_wp2_with fail
      go_ret
      exact ⟨by rw [List.take_length]; rfl, hbr⟩
set_option maxHeartbeats 1000000 in
theorem implLongest_any (v : Value) (l : List Ev) (w : World) (h : EvsAt w (· < w.heap.size) v l) (hl : l.length ≤ 1048576000) :
    Calls Try.prog 19 #[v] w fun e w' => e = .returned (.int .i64 (longestPart l)) ∧ Below w.heap.size w w' := by
  obtain ⟨a, cap, rfl⟩ := h.len
  have H := Lib.hid h
  clear h
  go_enter Try.func19, Try.ntmps19
  go_wp2_with fail
  go_loopw [3, 8] (fun n i wr => ∃ j : Nat, j ≤ l.length ∧ i = .int .i64 j ∧ n = .int .i64 (longestPart (l.take j)) ∧ Below w.heap.size w wr) (fun _ i _ => l.length - (intOf i).toNat)
  case atStart => exact ⟨0, by omega, rfl, rfl, Below.refl _ _⟩
  case round =>
    obtain ⟨j, hj, rfl, rfl, hbr⟩ := hrel
    have hzr := hbr.size
    by_cases hlt : j < l.length
    · have hlti : (j : Int) < (l.length : Int) := by omega
      obtain ⟨b, o, rfl, hbC, c0, c1, c2, c3, c4, c5, c6⟩ := H.out.cellsAt j hlt
      rw [← hbr.cell (p := ⟨b, _, none⟩) hbC] at c0 c1 c2 c3 c4 c5 c6
      have Hm := Lib.hid (longest_take l j hlt)
      generalize longestPart (l.take j) = m at Hm ⊢
      generalize l[j] = e at Hm c0 c1 c2 c3 c4 c5 c6
      obtain ⟨K, F, Bt, L, Tx, C, P⟩ := e
      simp only at c0 c1 c2 c3 c4 c5 c6
      have hx := Box.fresh wr #[.int .i64 K, .int .i64 F, .int .u64 Bt, .int .i64 L, .string Tx, .int .i64 C, .int .i64 P] 31
      have hbx : Below w.heap.size w (wr.alloc (.cells #[.int .i64 K, .int .i64 F, .int .u64 Bt, .int .i64 L, .string Tx, .int .i64 C, .int .i64 P] 31)) := hbr.alloc hzr _
      obtain ⟨Q, hQ⟩ : ∃ Q, (K == 4) = Q := ⟨_, rfl⟩
      have HC := Lib.hid (fun w => isPart_any ⟨K, F, Bt, L, Tx, C, P⟩ Q w hQ)
      have HQ := Lib.hid hQ
      clear hQ
      go_wp2_with fail
      refine (HC.out _).mono ?_
      rintro e w2 ⟨rfl, hb2⟩
      have hx2 := hx.below hb2 hx.lt
      have hb3 := hbx.trans (hb2.mono hbx.size)
      generalize wr.heap.size = g at hx2 ⊢
      obtain ⟨⟨e0, e1, e2, e3, e4, e5, e6⟩, _⟩ := Box.seven hx2
      clear hb2 hbx hx c0 c1 c2 c3 c4 c5 c6
      cases Q with
      | true =>
        have hk : K = 4 := by have := HQ.out; simpa using this
        have Hm2 : Hid (longestPart (l.take (j + 1)) = max m Tx.size) := Lib.hid (by rw [Hm.out]; unfold partLen; rw [if_pos hk])
        clear Hm hk
        by_cases hmx : m < Tx.size
        · have h1 : (m : Int) < (Tx.size : Int) := by omega
          have Hm3 : Hid (longestPart (l.take (j + 1)) = Tx.size) := Lib.hid (by rw [Hm2.out]; omega)
          clear Hm2
          go_wp2_with fail
          go_roundw
          case rel => exact ⟨j + 1, by omega, by go_num, by rw [Hm3.out], hb3⟩
          case measure => simp [intOf]; omega
        · have h1 : decide ((m : Int) < (Tx.size : Int)) = false := decide_eq_false (by omega)
          have h2 : decide (m < Tx.size) = false := decide_eq_false hmx
          have Hm3 : Hid (longestPart (l.take (j + 1)) = m) := Lib.hid (by rw [Hm2.out]; omega)
          clear Hm2
          go_wp2_with fail
          go_roundw
          case rel => exact ⟨j + 1, by omega, by go_num, by rw [Hm3.out], hb3⟩
          case measure => simp [intOf]; omega
      | false =>
        have hk : K ≠ 4 := by have := HQ.out; simpa using this
        have Hm2 : Hid (longestPart (l.take (j + 1)) = m) := Lib.hid (by rw [Hm.out]; unfold partLen; rw [if_neg hk]; omega)
        clear hk Hm
        go_wp2_with fail
        go_roundw
        case rel => exact ⟨j + 1, by omega, by go_num, by rw [Hm2.out], hb3⟩
        case measure => simp [intOf]; omega
    · have hge : (l.length : Int) ≤ (j : Int) := by omega
      have hend : decide (j < l.length) = false := decide_eq_false hlt
      obtain rfl : j = l.length := by omega
      go_wp2_with fail
      go_ret
      exact ⟨by rw [List.take_length]; rfl, hbr⟩
end Go.Proofs.Yteplmjlllnbiiaa.Num
