/-
  Several texts in one: TagOf.
-/
import Derived.Test.YtpkofbdfnbpfpaaGreatXReadZ
import Derived.Test.YtpkofbdfnbpfpaaGreatXImpB

/-
  The program's fieldOfTag: the field and the wire type of a tag, or a code.
-/
namespace Go.Proofs.YtpkofbdfnbpfpaaGreat.Num
open Go.RowKit Go.Proofs
set_option linter.unusedVariables false
set_option linter.unusedSimpArgs false
def tagFR (sch : List RM) (shape : Int) (U : Nat) : RF × Int × Int :=
  if (tagInR U).2.2 = false then (zeroF, 0, 2)
  else if wireOkB (tagInR U).2.1 = false then (zeroF, 0, 3)
  else if ((fieldAtR sch shape (tagInR U).1).2 && !allowedB (fieldAtR sch shape (tagInR U).1).1 (tagInR U).2.1) = true then (zeroF, 0, 4)
  else ((fieldAtR sch shape (tagInR U).1).1, (tagInR U).2.1, 0)
theorem fieldOk_parts {n : Nat} {f : RF} (h : fieldOkB n f = true) : 1 ≤ f.1 ∧ 1 ≤ f.2.1 ∧ f.2.1 ≤ 8 := by
  have h1 := fits_pos h
  unfold fieldOkB at h
  by_cases hn : numOkB f.1 = false
  · rw [if_pos hn] at h; exact absurd h (by decide)
  · rw [if_neg hn] at h
    by_cases hk : ¬ (1 ≤ f.2.1 ∧ f.2.1 ≤ 8)
    · rw [if_pos hk] at h; exact absurd h (by decide)
    · exact ⟨h1, by omega, by omega⟩
theorem fieldAt_cases {sch : List RM} (hS : SchemaP sch) (shape x : Int) : ((fieldAtR sch shape x).2 = false ∧ (fieldAtR sch shape x).1 = zeroF) ∨ ((fieldAtR sch shape x).2 = true ∧ 1 ≤ (fieldAtR sch shape x).1.1 ∧ 1 ≤ (fieldAtR sch shape x).1.2.1 ∧ (fieldAtR sch shape x).1.2.1 ≤ 8) := by
  unfold fieldAtR
  by_cases h : 0 ≤ shape ∧ shape.toNat < sch.length
  · rw [dif_pos h]
    have hg := hS.2 shape.toNat h.2
    unfold fieldIn
    cases hf : (sch[shape.toNat]'h.2).2.find? (fun f => f.1 == x) with
    | none => exact .inl ⟨rfl, rfl⟩
    | some f =>
      obtain ⟨k, hk, hk2, _⟩ := (List.find?_eq_some_iff_getElem.1 hf).2
      have hgood := (hg.2.2.2 k hk).1
      rw [hk2] at hgood
      obtain ⟨a, b, c⟩ := fieldOk_parts hgood
      exact .inr ⟨rfl, a, b, c⟩
  · rw [dif_neg h]; exact .inl ⟨rfl, rfl⟩
theorem fieldAt_fok {sch : List RM} (hS : SchemaP sch) (shape x : Int) : FOk (fieldAtR sch shape x).1 := by
  rcases fieldAt_cases hS shape x with h | h
  · exact .inl h.2
  · exact .inr h.2
theorem implAllowed_known (f : RF) (x : Int) (w : World) (hk : 1 ≤ f.2.1 ∧ f.2.1 ≤ 8) :
    Calls Tryz.prog 186 #[fieldV f, .int .i64 x] w fun e w' => e = .returned (.bool (allowedB f x)) ∧ Below w.heap.size w w' := by
  obtain ⟨Q, hQ⟩ : ∃ Q, allowedB f x = Q := ⟨_, rfl⟩
  obtain ⟨R, hR⟩ : ∃ R, runsB f = R := ⟨_, rfl⟩
  obtain ⟨W, hW⟩ : ∃ W, wireR f.2.1 = W := ⟨_, rfl⟩
  have HR : Hid (∀ w, Calls Tryz.prog 174 #[fieldV f] w fun e w' => e = .returned (.bool R) ∧ Below w.heap.size w w') := Lib.hid fun w => hR ▸ implRuns_any f w
  have HW : Hid (∀ w, Calls Tryz.prog 187 #[.int .i64 f.2.1] w fun e w' => e = .returned (.int .i64 W) ∧ w = w') := Lib.hid fun w => hW ▸ impl0WireOf_any f.2.1 w
  rw [hQ]
  unfold allowedB at hQ
  rw [hR, hW, show kindB f.2.1 = true from decide_eq_true hk, Bool.true_and] at hQ
  obtain ⟨A1, A2, A3, A4, A5⟩ := f
  unfold fieldV at HR ⊢
  simp only at HR HW ⊢
  have hl : Below w.heap.size w (w.alloc (.cells #[.int .i64 A1, .int .i64 A2, .bool A3, .bool A4, .int .i64 A5] 117)) := (Below.refl _ _).alloc (Nat.le_refl _) _
  clear hR hW hk
  by_cases hx : x = W
  · have hQ1 : Q = true := by rw [← hQ, decide_eq_true hx]; rfl
    subst hQ1
    have hxb : (x == W) = true := by simp [hx]
    clear hQ
    go_enter Tryz.func186, Tryz.ntmps186
    go_wp2_with fail
    refine (HW.out _).mono ?_
    rintro e w1 ⟨rfl, rfl⟩
    go_wp2_with fail
    go_ret
    exact ⟨rfl, hl⟩
  · have hxb : (x == W) = false := neI hx
    by_cases h2 : x = 2
    · have h2b : (x == 2) = true := by simp [h2]
      have hQ1 : Q = R := by rw [← hQ, decide_eq_false hx, decide_eq_true h2]; rfl
      subst hQ1
      clear hQ hx h2
      go_enter Tryz.func186, Tryz.ntmps186
      go_wp2_with fail
      refine (HW.out _).mono ?_
      rintro e w1 ⟨rfl, rfl⟩
      go_wp2_with fail
      refine (HR.out _).mono ?_
      rintro e w1 ⟨rfl, hb1⟩
      go_wp2_with fail
      go_ret
      exact ⟨rfl, hl.trans (hb1.mono hl.size)⟩
    · have h2b : (x == 2) = false := neI h2
      have hQ1 : Q = false := by rw [← hQ, decide_eq_false hx, decide_eq_false h2]; rfl
      subst hQ1
      clear hQ hx h2
      go_enter Tryz.func186, Tryz.ntmps186
      go_wp2_with fail
      refine (HW.out _).mono ?_
      rintro e w1 ⟨rfl, rfl⟩
      go_wp2_with fail
      go_ret
      exact ⟨rfl, hl⟩
set_option maxHeartbeats 4000000 in
set_option maxRecDepth 100000 in
theorem fieldOfTag_any (u : Value) (sch : List RM) (shape : Int) (U : Nat) (w : World) (hu : MsgsAt w (· < w.heap.size) u sch) (hsch : Small sch) (hS : SchemaP sch) (hU : U ≤ 18446744073709551615) :
    Calls Tryz.prog 163 #[.agg #[u], .int .i64 shape, .int .u64 U] w fun e w' => e = .returned (.tuple #[fieldV (tagFR sch shape U).1, .int .i64 (tagFR sch shape U).2.1, .int .i64 (tagFR sch shape U).2.2]) ∧ Below w.heap.size w w' := by
  obtain ⟨ua, uc, rfl⟩ := hu.len
  obtain ⟨R, hR⟩ : ∃ R, tagFR sch shape U = R := ⟨_, rfl⟩
  rw [hR]
  have HT : Hid (∀ w, Calls Tryz.prog 183 #[.int .u64 U] w fun e w' => e = .returned (tagV (tagInR U)) ∧ w = w') := Lib.hid fun w => implTagIn_any U w hU
  unfold tagFR at hR
  generalize tagInR U = tg at HT hR
  obtain ⟨num, wr, ok⟩ := tg
  unfold tagV at HT
  simp only at HT hR
  have hb0 : Below w.heap.size w ((w.alloc (.cells #[.slice ua sch.length uc] 26)).alloc (.cells #[.int .i64 0, .int .i64 0, .bool false, .bool false, .int .i64 0] 117)) := ((Below.refl _ _).alloc (Nat.le_refl _) _).alloc (by simp) _
  have hbr : Box ((w.alloc (.cells #[.slice ua sch.length uc] 26)).alloc (.cells #[.int .i64 0, .int .i64 0, .bool false, .bool false, .int .i64 0] 117)) (w.heap.size + 1) [.int .i64 0, .int .i64 0, .bool false, .bool false, .int .i64 0] := Box.fresh2R
  have HF : Hid (∀ w1, Below w.heap.size w w1 → Calls Tryz.prog 184 #[.agg #[.slice ua sch.length uc], .int .i64 shape, .int .i64 num] w1 fun e w' => e = .returned (.tuple #[fieldV (fieldAtR sch shape num).1, .bool (fieldAtR sch shape num).2]) ∧ Below w1.heap.size w1 w') := Lib.hid fun w1 hb => implFieldAt_any (.agg #[.slice ua sch.length uc]) sch shape num w1 ((hu.keep (.of_below hb fun _ h => h) fun b hb' => Nat.lt_of_lt_of_le hb' hb.size).raw) hsch
  have HFc := Lib.hid (fieldAt_cases hS shape num)
  generalize fieldAtR sch shape num = fk at HF HFc hR
  obtain ⟨f, kn⟩ := fk
  have HA : Hid (∀ w, 1 ≤ f.2.1 ∧ f.2.1 ≤ 8 → Calls Tryz.prog 186 #[fieldV f, .int .i64 wr] w fun e w' => e = .returned (.bool (allowedB f wr)) ∧ Below w.heap.size w w') := Lib.hid fun w h => implAllowed_known f wr w h
  have HW : Hid (∀ w, Calls Tryz.prog 185 #[.int .i64 wr] w fun e w' => e = .returned (.bool (wireOkB wr)) ∧ w = w') := Lib.hid fun w => implWireOk_any wr w
  simp only at HF HFc hR
  generalize allowedB f wr = al at HA hR
  generalize wireOkB wr = wo at HW hR
  obtain ⟨A1, A2, A3, A4, A5⟩ := f
  unfold fieldV at HF HA
  simp only at HF HA HFc
  clear hu
  have HR := Lib.hid hR
  clear hR
  go_enter Tryz.func163, Tryz.ntmps163
  go_wp2_with fail
  refine (HT.out _).mono ?_
  rintro e _ ⟨rfl, rfl⟩
  go_wp2_with fail
  refine (HF.out _ hb0).mono ?_
  rintro e w1 ⟨rfl, hb1⟩
  have Hl1 := Lib.hid (hb0.trans (hb1.mono hb0.size))
  have hbr1 := hbr.below hb1 hbr.lt
  have hzr := hbr1.lt
  have hzw := Hl1.out.size
  obtain ⟨r0, r1, r2, r3, r4⟩ := hbr1.fiveR
  have s0 := (hbr1.2 0 (by simp)).2
  have s1 := (hbr1.2 1 (by simp)).2
  have s2 := (hbr1.2 2 (by simp)).2
  have s3 := (hbr1.2 3 (by simp)).2
  have s4 := (hbr1.2 4 (by simp)).2
  clear hb1 hbr hb0 HF HT
  cases ok with
  | false =>
    have hv : R = (zeroF, 0, 2) := by have := HR.out; rw [if_pos rfl] at this; exact this.symm
    subst hv
    go_wp2_with fail
    refine bodyPost_ret (v := .tuple #[.agg #[.int .i64 0, .int .i64 0, .bool false, .bool false, .int .i64 0], .int .i64 0, .int .i64 2]) (by simp [results, Tryz.results163, go_sem, r0, r1, r2, r3, r4, hzr]) rfl ⟨rfl, ?_⟩
    repeat (first | with_reducible exact Hl1.out | refine Below.setCell ?_ (by simp) _ | refine Below.alloc ?_ (by first | exact hzw | (simp; exact hzw)) _)
  | true =>
    cases wo with
    | false =>
      have hv : R = (zeroF, 0, 3) := by have := HR.out; rw [if_neg (by decide), if_pos rfl] at this; exact this.symm
      subst hv
      go_wp2_with fail
      refine (HW.out _).mono ?_
      rintro e _ ⟨rfl, rfl⟩
      go_wp2_with fail
      refine bodyPost_ret (v := .tuple #[.agg #[.int .i64 0, .int .i64 0, .bool false, .bool false, .int .i64 0], .int .i64 0, .int .i64 3]) (by simp [results, Tryz.results163, go_sem, r0, r1, r2, r3, r4, hzr]) rfl ⟨rfl, ?_⟩
      repeat (first | with_reducible exact Hl1.out | refine Below.setCell ?_ (by simp) _ | refine Below.alloc ?_ (by first | exact hzw | (simp; exact hzw)) _)
    | true =>
      cases kn with
      | false =>
        have hv : R = ((A1, A2, A3, A4, A5), wr, 0) := by have := HR.out; rw [if_neg (by decide), if_neg (by decide), if_neg (by simp)] at this; exact this.symm
        subst hv
        go_wp2_with fail
        refine (HW.out _).mono ?_
        rintro e _ ⟨rfl, rfl⟩
        go_wp2_with fail
        refine bodyPost_ret (v := .tuple #[.agg #[.int .i64 A1, .int .i64 A2, .bool A3, .bool A4, .int .i64 A5], .int .i64 wr, .int .i64 0]) (by simp [results, Tryz.results163, go_sem, r0, r1, r2, r3, r4, hzr]) rfl ⟨rfl, ?_⟩
        repeat (first | with_reducible exact Hl1.out | refine Below.setCell ?_ (by simp) _ | refine Below.alloc ?_ (by first | exact hzw | (simp; exact hzw)) _)
      | true =>
        have HK : Hid (1 ≤ A2 ∧ A2 ≤ 8) := Lib.hid (by rcases HFc.out with h | h; exact absurd h.1 (by decide); exact h.2.2)
        cases al with
        | false =>
          have hv : R = (zeroF, 0, 4) := by have := HR.out; rw [if_neg (by decide), if_neg (by decide), if_pos (by rfl)] at this; exact this.symm
          subst hv
          go_wp2_with fail
          refine (HW.out _).mono ?_
          rintro e _ ⟨rfl, rfl⟩
          go_wp2_with fail
          refine (HA.out _ HK.out).mono ?_
          rintro e w2 ⟨rfl, hb2⟩
          have hbr2 := (hbr1.alloc (.cells #[.int .i64 A1, .int .i64 A2, .bool A3, .bool A4, .int .i64 A5] 117)).below hb2 (by simp; omega)
          have Hl2 := Lib.hid ((Hl1.out.alloc hzw (.cells #[.int .i64 A1, .int .i64 A2, .bool A3, .bool A4, .int .i64 A5] 117)).trans (hb2.mono (by simp; omega)))
          have hbt2 := (Box.fresh w1 #[.int .i64 A1, .int .i64 A2, .bool A3, .bool A4, .int .i64 A5] 117).below hb2 (by simp)
          clear r0 r1 r2 r3 r4 s0 s1 s2 s3 s4 hzr hb2
          have hzr := hbr2.lt
          have hzt := hbt2.lt
          generalize w1.heap.size = gt at hbt2 hzt ⊢
          obtain ⟨q0, q1, q2, q3, q4⟩ := hbt2.fiveR
          obtain ⟨r0, r1, r2, r3, r4⟩ := hbr2.fiveR
          have s0 := (hbr2.2 0 (by simp)).2
          have s1 := (hbr2.2 1 (by simp)).2
          have s2 := (hbr2.2 2 (by simp)).2
          have s3 := (hbr2.2 3 (by simp)).2
          have s4 := (hbr2.2 4 (by simp)).2
          go_wp2_with fail
          refine bodyPost_ret (v := .tuple #[.agg #[.int .i64 0, .int .i64 0, .bool false, .bool false, .int .i64 0], .int .i64 0, .int .i64 4]) (by simp [results, Tryz.results163, go_sem, r0, r1, r2, r3, r4, hzr]) rfl ⟨rfl, ?_⟩
          repeat (first | with_reducible exact Hl2.out | refine Below.setCell ?_ (by simp) _)
        | true =>
          have hv : R = ((A1, A2, A3, A4, A5), wr, 0) := by have := HR.out; rw [if_neg (by decide), if_neg (by decide), if_neg (by simp)] at this; exact this.symm
          subst hv
          go_wp2_with fail
          refine (HW.out _).mono ?_
          rintro e _ ⟨rfl, rfl⟩
          go_wp2_with fail
          refine (HA.out _ HK.out).mono ?_
          rintro e w2 ⟨rfl, hb2⟩
          have hbr2 := (hbr1.alloc (.cells #[.int .i64 A1, .int .i64 A2, .bool A3, .bool A4, .int .i64 A5] 117)).below hb2 (by simp; omega)
          have Hl2 := Lib.hid ((Hl1.out.alloc hzw (.cells #[.int .i64 A1, .int .i64 A2, .bool A3, .bool A4, .int .i64 A5] 117)).trans (hb2.mono (by simp; omega)))
          have hbt2 := (Box.fresh w1 #[.int .i64 A1, .int .i64 A2, .bool A3, .bool A4, .int .i64 A5] 117).below hb2 (by simp)
          clear r0 r1 r2 r3 r4 s0 s1 s2 s3 s4 hzr hb2
          have hzr := hbr2.lt
          have hzt := hbt2.lt
          generalize w1.heap.size = gt at hbt2 hzt ⊢
          obtain ⟨q0, q1, q2, q3, q4⟩ := hbt2.fiveR
          obtain ⟨r0, r1, r2, r3, r4⟩ := hbr2.fiveR
          have s0 := (hbr2.2 0 (by simp)).2
          have s1 := (hbr2.2 1 (by simp)).2
          have s2 := (hbr2.2 2 (by simp)).2
          have s3 := (hbr2.2 3 (by simp)).2
          have s4 := (hbr2.2 4 (by simp)).2
          go_wp2_with fail
          refine bodyPost_ret (v := .tuple #[.agg #[.int .i64 A1, .int .i64 A2, .bool A3, .bool A4, .int .i64 A5], .int .i64 wr, .int .i64 0]) (by simp [results, Tryz.results163, go_sem, r0, r1, r2, r3, r4, hzr]) rfl ⟨rfl, ?_⟩
          repeat (first | with_reducible exact Hl2.out | refine Below.setCell ?_ (by simp) _)
end Go.Proofs.YtpkofbdfnbpfpaaGreat.Num

