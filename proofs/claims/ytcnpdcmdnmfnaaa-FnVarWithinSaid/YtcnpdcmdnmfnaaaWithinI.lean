/-
  The walk of the program's VarWithin: it gives what the reference's gives; only new memory is written.
-/
import Derived.Test.YtcnpdcmdnmfnaaaScanStep
import Derived.Test.YtcnpdcmdnmfnaaaWithin
namespace Go.Proofs.Ytcnpdcmdnmfnaaa.Num
open Go.RowKit Go.Proofs
set_option linter.unusedVariables false
set_option linter.unusedSimpArgs false

/-- Where a number that is read byte by byte stands. -/
structure WI (s : ByteArray) (A : Nat) (E : Int) (R : Int × Int × Int) (k V N : Nat) : Prop where
  k9 : k ≤ 9
  lt : V < 2 ^ (7 * k)
  at_ : N = A + k
  inn : N ≤ s.size
  res : R = withinRes s A E (Var.scan k V ((s.data.toList.drop N).take (E - N).toNat))
theorem WI.start {s : ByteArray} {A : Nat} {E : Int} (hA : A ≤ s.size) : WI s A E (withinR s A E) 0 0 A :=
  ⟨by omega, by decide, rfl, hA, within_in hA⟩
section
variable {s : ByteArray} {A : Nat} {E : Int} {R : Int × Int × Int} {k V N : Nat}
theorem WI.wide (h : WI s A E R k V N) : V ≤ 18446744073709551615 := by
  have h1 := pow_le9 k h.k9
  have h2 := h.lt
  omega
theorem WI.ended (h : WI s A E R k V N) (he : E ≤ N) : R = (0, E, 9) := by
  have h0 : (E - N).toNat = 0 := by omega
  have h1 := h.inn
  rw [h.res, h0]; simp only [List.take_zero, Var.scan, withinRes]; rw [if_pos (by omega)]
theorem WI.cut (h : WI s A E R k V N) (he : (N : Int) < E) (hn : N = s.size) : R = (0, (N : Int), 10) := by
  have h0 : s.data.toList.drop N = [] := drop_all s N (by omega)
  rw [h.res, h0]; simp only [List.take_nil, Var.scan, withinRes]; rw [if_neg (by omega), hn]
theorem WI.byte (h : WI s A E R k V N) (he : (N : Int) < E) (hn : N < s.size) {V' : Nat} {H' C' : Int} (hr : scanByteR V k (s[N].toNat : Int) = (V', H', C')) :
    (C' = 2 ∧ R = (0, (N : Int), 1)) ∨ (C' = 1 ∧ R = ((V' : Int), (N : Int) + 1, 0)) ∨ (C' = 0 ∧ H' = ((k + 1 : Nat) : Int) ∧ WI s A E R (k + 1) V' (N + 1)) := by
  have hres := h.res
  have hlt := h.lt
  have hk := h.k9
  have hat := h.at_
  rw [take_at s N (E - N).toNat hn (by omega), Var.scan] at hres
  by_cases h9 : k = 9 ∧ 1 < s[N].toNat
  · rw [if_pos h9] at hres
    obtain ⟨rfl, h1⟩ := h9
    rw [byteR_over hlt h1] at hr
    simp only [Prod.mk.injEq] at hr
    refine .inl ⟨hr.2.2.symm, ?_⟩
    rw [hres]; simp only [withinRes]; rw [show ((A : Int) + (9 : Nat) : Int) = (N : Int) by omega]
  · rw [if_neg h9] at hres
    have hb := byteR_ok hk hlt h9
    rw [hb] at hr
    simp only [Prod.mk.injEq] at hr
    obtain ⟨r1, r2, r3⟩ := hr
    by_cases hc : s[N].toNat < 128
    · rw [if_pos hc] at hres r3
      refine .inr (.inl ⟨r3.symm, ?_⟩)
      rw [hres, ← r1]; simp only [withinRes]; rw [show ((A : Int) + ((k + 1 : Nat) : Int) : Int) = (N : Int) + 1 by omega]
    · rw [if_neg hc] at hres r3
      refine .inr (.inr ⟨r3.symm, r2.symm, by omega, by rw [← r1]; exact step_lt hlt, by omega, by omega, ?_⟩)
      rw [hres, ← r1, show (E - (N : Int)).toNat - 1 = (E - ((N + 1 : Nat) : Int)).toNat by omega]
end
theorem drew_lt' {w w1 : World} {B : Nat} (hb : Below B w.drew w1) : w.heap.size ≤ w1.heap.size := hb.size
theorem drew_alloc_lt' {w w1 : World} {o : Obj} {B : Nat} (hb : Below B (w.alloc o).drew w1) : w.heap.size < w1.heap.size := by have := hb.size; simp at this; omega
theorem fresh_lt' (w : World) (o : Obj) : w.heap.size < (w.alloc o).drew.heap.size := by simp
section
variable {w wr w1 : World} {T : TypeId} {a b : Value}
theorem endA1 (hx : Box wr w.heap.size [a, b]) (hl : Below w.heap.size w wr) (hb : Below wr.drew.heap.size wr.drew w1) (V : Nat) (H : Int) :
    Box (w1.alloc (.cells #[.int .u64 V, .int .i64 H] T)) w.heap.size [a, b] ∧ Box (w1.alloc (.cells #[.int .u64 V, .int .i64 H] T)) w1.heap.size [.int .u64 V, .int .i64 H] ∧ Below w.heap.size w (w1.alloc (.cells #[.int .u64 V, .int .i64 H] T)) ∧ w.heap.size < w1.heap.size := by
  have h2 : Below w.heap.size w w1 := hl.drew.trans (hb.mono hl.size)
  have h3 := hx.lt
  have h4 := drew_lt' hb
  exact ⟨(hx.drew.below hb hx.lt).alloc _, Box.fresh _ _ _, h2.alloc (by omega) _, by omega⟩
theorem endB1 (hx : Box wr w.heap.size [a, b]) (hl : Below w.heap.size w wr) (hb : Below (wr.alloc (.cells #[.int .u64 0, .int .i64 0] T)).drew.heap.size (wr.alloc (.cells #[.int .u64 0, .int .i64 0] T)).drew w1) (V : Nat) (H : Int) :
    Box ((w1.setCell ⟨wr.heap.size, 0, none⟩ (.int .u64 V)).setCell ⟨wr.heap.size, 1, none⟩ (.int .i64 H)) w.heap.size [a, b] ∧ Box ((w1.setCell ⟨wr.heap.size, 0, none⟩ (.int .u64 V)).setCell ⟨wr.heap.size, 1, none⟩ (.int .i64 H)) wr.heap.size [.int .u64 V, .int .i64 H] ∧ Below w.heap.size w ((w1.setCell ⟨wr.heap.size, 0, none⟩ (.int .u64 V)).setCell ⟨wr.heap.size, 1, none⟩ (.int .i64 H)) ∧ w.heap.size < wr.heap.size := by
  have h3 := hx.lt
  have h2 : Below w.heap.size w w1 := (hl.alloc hl.size _).drew.trans (hb.mono (by simp; omega))
  exact ⟨(((hx.alloc _).drew.below hb (by simp; omega)).other (by simp; omega) _).other (by simp; omega) _, (((Box.fresh wr _ _).drew.below hb (by simp)).set 0 _).set 1 _, (h2.setCell (by simp; omega) _).setCell (by simp; omega) _, h3⟩
end
set_option maxHeartbeats 2000000 in
set_option maxRecDepth 100000 in
theorem implVarWithin_in (s : ByteArray) (A : Nat) (E : Int) (w : World) (hs : s.size ≤ 281474976710656) (hA : A ≤ s.size) :
    Calls Try.prog 10 #[.string s, .int .i64 A, .int .i64 E] w fun e w' => e = .returned (getV (withinR s A E)) ∧ Below w.heap.size w w' := by
  have HI := Lib.hid (WI.start (E := E) hA)
  generalize withinR s A E = R at HI ⊢
  have hA2 : (A : Int) ≤ (s.size : Int) := by omega
  go_enter Try.func10, Try.ntmps10
  go_wp2_with fail
  go_loopw [10] (fun i wr => ∃ (k V N : Nat), N ≤ s.size ∧ i = .int .i64 N ∧ Hid (WI s A E R k V N) ∧ Hid (Box wr w.heap.size [.int .u64 V, .int .i64 k]) ∧ Below w.heap.size w wr) (fun i _ => s.size - (intOf i).toNat)
  case atStart => exact ⟨0, 0, A, hA, rfl, HI, Lib.hid (Box.fresh _ _ _), (Below.refl _ _).alloc (Nat.le_refl _) _⟩
  case round =>
    obtain ⟨k, V, N, hN, rfl, HW, hbx, hbl⟩ := hrel
    obtain ⟨c0, c1, f0, f1⟩ := hbx.out.two
    have hz0 := hbx.out.lt
    by_cases hE : (N : Int) < E
    · by_cases hlt : N < s.size
      · have hch : s[N].toNat < 256 := s[N].toNat_lt
        have hne : ((N : Int) == (s.size : Int)) = false := by rw [Bool.eq_false_iff, ne_eq, beq_iff_eq]; omega
        generalize hS : scanByteR V k s[N].toNat = S
        obtain ⟨V', H', C'⟩ := S
        have HB := Lib.hid (HW.out.byte hE hlt hS)
        have HV := Lib.hid HW.out.wide
        have HS := Lib.hid hS; clear hS
        have hltb : (N : Int) < (s.size : Int) := by omega
        have hw8 : IntKind.i64.wrap (s[N].toNat : Int) = (s[N].toNat : Int) := IntWalk.i64_in _ (by omega)
        have HNe := Lib.hid hne
        go_wp2_with fail
        go_region_with (go_at_call 28; refine (implScanByte_any V k s[N].toNat HV.out _).mono ?_; rw [HS.out]; rintro e w1 ⟨rfl, hb1⟩; simp only [scV]; first | (obtain ⟨e0, e1, p0, p1⟩ := (hbx.out.drew.below hb1 hz0).two; have hq := drew_lt' hb1) | (obtain ⟨e0, e1, p0, p1⟩ := ((Box.fresh wr _ _).drew.below hb1 (fresh_lt' _ _)).two; have hq := drew_alloc_lt' hb1))
        all_goals
          first
          | (have KK := endA1 (T := 66) hbx.out hbl hb1 V' H'
             obtain ⟨K0, K2, hB, hg⟩ := KK
             generalize w1.alloc (.cells #[.int .u64 V', .int .i64 H'] 66) = w2 at K0 K2 hB ⊢
             generalize w1.heap.size = g at K2 hg ⊢)
          | (have KK := endB1 (T := 66) hbx.out hbl hb1 V' H'
             obtain ⟨K0, K2, hB, hg⟩ := KK
             generalize (w1.setCell ⟨wr.heap.size, 0, none⟩ (.int .u64 V')).setCell ⟨wr.heap.size, 1, none⟩ (.int .i64 H') = w2 at K0 K2 hB ⊢
             generalize wr.heap.size = g at K2 hg ⊢)
        all_goals
          obtain ⟨e0, e1, p0, p1⟩ := K0.two
          obtain ⟨e4, e5, p4, p5⟩ := K2.two
          have HK0 := Lib.hid K0
          clear K0 K2
          rcases HB.out with ⟨rfl, hR⟩ | ⟨rfl, hR⟩ | ⟨rfl, rfl, hW⟩
          · have HR := Lib.hid hR; clear hR
            go_wp2_with fail
            go_ret3
            refine ⟨by rw [HR.out]; rfl, ?_⟩
            repeat (first | exact hB | refine Below.setCell ?_ (by simp) _)
          · have HR := Lib.hid hR; clear hR
            go_wp2_with fail
            go_ret3
            refine ⟨by rw [HR.out]; rfl, ?_⟩
            repeat (first | exact hB | refine Below.setCell ?_ (by simp) _)
          · have HW' := Lib.hid hW; clear hW
            go_wp2_with fail
            refine ⟨⟨_, _, _, .int .i64 ((N : Int) + 1), ⟨k + 1, V', N + 1, by omega, by go_num, HW', Lib.hid ((HK0.out.set 0 _).set 1 _), ?_⟩, rfl, rfl, rfl, rfl⟩, by simp [intOf]; omega⟩
            repeat (first | exact hB | refine Below.setCell ?_ (by simp) _)
      · have hks : N = s.size := by omega
        have heq : ((N : Int) == (s.size : Int)) = true := by rw [beq_iff_eq]; omega
        have HR := Lib.hid (HW.out.cut hE hks)
        clear hks
        go_wp2_with fail
        go_ret3
        refine ⟨by rw [HR.out]; rfl, ?_⟩
        repeat (first | exact hbl | refine Below.drew ?_ | refine Below.setCell ?_ (by simp) _ | refine Below.alloc ?_ (by simp <;> omega) _)
    · have HR := Lib.hid (HW.out.ended (by omega))
      go_wp2_with fail
      go_ret3
      refine ⟨by rw [HR.out]; rfl, ?_⟩
      repeat (first | exact hbl | refine Below.drew ?_ | refine Below.setCell ?_ (by simp) _ | refine Below.alloc ?_ (by simp <;> omega) _)
theorem implVarWithin_out (s : ByteArray) (a E : Int) (w : World) (hA : ¬ (0 ≤ a ∧ a ≤ s.size)) :
    Calls Try.prog 10 #[.string s, .int .i64 a, .int .i64 E] w fun e w' => e = .returned (getV (withinR s a E)) ∧ Below w.heap.size w w' := by
  have Hr := Lib.hid (within_out (e := E) hA)
  by_cases h0 : a < 0
  · go_enter Try.func10, Try.ntmps10
    go_wp2_with fail
    go_ret3
    exact ⟨by rw [Hr.out]; rfl, Below.refl _ _⟩
  · have h1 : (s.size : Int) < a := by omega
    go_enter Try.func10, Try.ntmps10
    go_wp2_with fail
    go_ret3
    exact ⟨by rw [Hr.out]; rfl, Below.refl _ _⟩
theorem implVarWithin_any (s : ByteArray) (a E : Int) (w : World) (hs : s.size ≤ 281474976710656) :
    Calls Try.prog 10 #[.string s, .int .i64 a, .int .i64 E] w fun e w' => e = .returned (getV (withinR s a E)) ∧ Below w.heap.size w w' := by
  by_cases hA : 0 ≤ a ∧ a ≤ (s.size : Int)
  · obtain ⟨A, rfl⟩ := Int.eq_ofNat_of_zero_le hA.1
    exact implVarWithin_in s A E w hs (by have := hA.2; omega)
  · exact implVarWithin_out s a E w hA
end Go.Proofs.Ytcnpdcmdnmfnaaa.Num
