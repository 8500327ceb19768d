/-
  Several texts in one: ReadK ReadM.
-/
import Derived.Test.YtpkofbdfnbpfpaaGreatXReadJ

/-
  The program's reader of messages: a field is read.
-/
namespace Go.Proofs.YtpkofbdfnbpfpaaGreat.Num
open Go.RowKit Go.Proofs
set_option linter.unusedVariables false
set_option linter.unusedSimpArgs false
theorem tag2_bad {M : Int → Int → Int → RdM → RdM} {n : Nat} {s : ByteArray} {sch : List RM} {D E deep shape c : Int} {start U : Nat} {r : RdM} (h : tagFR sch shape U = (zeroF, 0, c)) (hc : c ≠ 0) :
    rdTag2 M n s D E deep start (tagInR U) (fieldAtR sch shape (tagInR U).1) r = r.bad c start := by
  unfold tagFR at h
  unfold rdTag2
  by_cases h1 : (tagInR U).2.2 = false
  · rw [if_pos h1] at h ⊢
    rw [← (Prod.mk.inj (Prod.mk.inj h).2).2]
  · rw [if_neg h1] at h ⊢
    by_cases h2 : wireOkB (tagInR U).2.1 = false
    · rw [if_pos h2] at h ⊢
      rw [← (Prod.mk.inj (Prod.mk.inj h).2).2]
    · rw [if_neg h2] at h ⊢
      by_cases h3 : ((fieldAtR sch shape (tagInR U).1).2 && !allowedB (fieldAtR sch shape (tagInR U).1).1 (tagInR U).2.1) = true
      · rw [if_pos h3] at h ⊢
        rw [← (Prod.mk.inj (Prod.mk.inj h).2).2]
      · rw [if_neg h3] at h
        exact absurd (Prod.mk.inj (Prod.mk.inj h).2).2.symm hc
theorem tag2_ok {M : Int → Int → Int → RdM → RdM} {n : Nat} {s : ByteArray} {sch : List RM} {D E deep shape x : Int} {start U : Nat} {r : RdM} {f : RF} (h : tagFR sch shape U = (f, x, 0)) (hS : SchemaP sch) :
    rdTag2 M n s D E deep start (tagInR U) (fieldAtR sch shape (tagInR U).1) r = (if x = 2 then rdLong M n s D f E deep r else rdNum s f x E r) ∧ FOk f ∧ wireOkB x = true := by
  unfold tagFR at h
  unfold rdTag2
  by_cases h1 : (tagInR U).2.2 = false
  · rw [if_pos h1] at h
    exact absurd (Prod.mk.inj (Prod.mk.inj h).2).2 (by decide)
  · rw [if_neg h1] at h ⊢
    by_cases h2 : wireOkB (tagInR U).2.1 = false
    · rw [if_pos h2] at h
      exact absurd (Prod.mk.inj (Prod.mk.inj h).2).2 (by decide)
    · rw [if_neg h2] at h ⊢
      by_cases h3 : ((fieldAtR sch shape (tagInR U).1).2 && !allowedB (fieldAtR sch shape (tagInR U).1).1 (tagInR U).2.1) = true
      · rw [if_pos h3] at h
        exact absurd (Prod.mk.inj (Prod.mk.inj h).2).2 (by decide)
      · rw [if_neg h3] at h ⊢
        have e1 := (Prod.mk.inj h).1
        have e2 := (Prod.mk.inj (Prod.mk.inj h).2).1
        exact ⟨by rw [e1, e2], by rw [← e1]; exact fieldAt_fok hS _ _, by rw [← e2]; simpa using h2⟩
theorem wire_cases {x : Int} (h : wireOkB x = true) : x = 0 ∨ x = 1 ∨ x = 2 ∨ x = 5 := by
  unfold wireOkB at h
  have := of_decide_eq_true h
  omega
set_option maxHeartbeats 8000000 in
set_option maxRecDepth 100000 in
theorem readField_any (n : Nat) {w : World} {g bs bp L B p : Nat} {u o : Value} {sch : List RM} {D Rt Mo : Int} {s : ByteArray} {out : List Ev} (h : RI w g bs bp L B u Rt Mo sch D s o p out) (IH : MsgCallI g bs bp L B u Rt Mo sch D s n) (sh E deep : Int) (hsch : Small sch) (hS : SchemaP sch) (hE : (p : Int) ≤ E ∧ E ≤ 9223372036854775807) (hs : s.size ≤ 200000000) (hl : out.length ≤ 4 * p) (hfu : s.size - p < n + 1) (hd : 1 ≤ deep ∧ deep ≤ D) (hD : D ≤ 8) :
    Calls Tryz.prog 98 #[.pointer (some ⟨g, 0, none⟩), .agg #[.int .i64 sh, .int .i64 E, .int .i64 deep]] w (PostI g bs bp L B u Rt Mo sch D s o (rdStep (msgRd s sch D n) n s sch D sh E deep ⟨p, out, zeroE⟩) w) := by
  have hp := h.inn
  obtain ⟨M, hM⟩ : ∃ M, rdStep (msgRd s sch D n) n s sch D sh E deep ⟨p, out, zeroE⟩ = M := ⟨_, rfl⟩
  rw [hM]
  unfold rdStep at hM
  rw [show (⟨p, out, zeroE⟩ : RdM).place = p from rfl] at hM
  have HM := Lib.hid hM
  clear hM
  have hb1 : Below w.heap.size w ((w.alloc (.cells #[.int .i64 sh, .int .i64 E, .int .i64 deep] 87)).alloc (.cells #[.int .i64 0, .int .i64 0, .int .u64 0, .int .i64 0, .string ⟨#[]⟩, .int .i64 0, .int .i64 0] 34)) := ((Below.refl _ _).alloc (Nat.le_refl _) _).alloc (by simp) _
  have H1 := Lib.hid (h.below hb1)
  have Hm1 : Hid (MovI g bp o o w _) := Lib.hid (.of_below hb1)
  have hbm := Lib.hid ((Box.fresh w #[.int .i64 sh, .int .i64 E, .int .i64 deep] 87).alloc (.cells #[.int .i64 0, .int .i64 0, .int .u64 0, .int .i64 0, .string ⟨#[]⟩, .int .i64 0, .int .i64 0] 34))
  have hbr : Hid (Box ((w.alloc (.cells #[.int .i64 sh, .int .i64 E, .int .i64 deep] 87)).alloc (.cells #[.int .i64 0, .int .i64 0, .int .u64 0, .int .i64 0, .string ⟨#[]⟩, .int .i64 0, .int .i64 0] 34)) (w.heap.size + 1) [.int .i64 0, .int .i64 0, .int .u64 0, .int .i64 0, .string ⟨#[]⟩, .int .i64 0, .int .i64 0]) := Lib.hid Box.fresh2R
  have hlm := Lib.hid (h.fresh (Nat.le_refl w.heap.size))
  have hlr := Lib.hid (h.fresh (Nat.le_succ w.heap.size))
  have hgz := H1.out.lt.1
  clear h hb1
  go_enter Tryz.func98, Tryz.ntmps98
  go_wp2_with fail
  refine (readTag_any H1.out sh E deep hsch hS hE (by omega)).mono ?_
  generalize (w.alloc (.cells #[.int .i64 sh, .int .i64 E, .int .i64 deep] 87)).alloc (.cells #[.int .i64 0, .int .i64 0, .int .u64 0, .int .i64 0, .string ⟨#[]⟩, .int .i64 0, .int .i64 0] 34) = w1 at H1 Hm1 hbm hbr hgz ⊢
  generalize hgm : w.heap.size = gm at hbm hbr hlm hlr
  intro e w2 hpost
  rcases hpost with ⟨c, a, hq, rfl, h2, hm2⟩ | ⟨U, P, hq, hP1, hP2, hP3, hU, h2, hm2, ht⟩
  · have H2 := Lib.hid h2
    have Hm2 := Lib.hid (Hm1.out.trans hm2)
    have hbm2 := Lib.hid (hm2.keep hbm.out hlm.out)
    have hbr2 := Lib.hid (hm2.keep hbr.out hlr.out)
    have hwz := Hm2.out.size
    have hzm := hbm2.out.lt
    have hzr := hbr2.out.lt
    clear h2 hm2 H1 Hm1 hbm hbr hgz
    have HM2 : Hid (M = ⟨p, out, failE c a⟩) := Lib.hid (by rw [← HM.out, hq, if_pos (by show ¬ (10 : Int) = 0; decide)])
    unfold zeroF fieldV
    rw [fail_evV]
    go_wp2_with fail
    refine (term_fail c a _).mono ?_
    rintro e w3 ⟨rfl, hb3⟩
    have hbA : Below w2.heap.size w2 ((w2.alloc (.cells #[.int .i64 0, .int .i64 0, .bool false, .bool false, .int .i64 0] 117)).alloc (.cells #[.int .i64 10, .int .i64 0, .int .u64 0, .int .i64 0, .string ⟨#[]⟩, .int .i64 c, .int .i64 a] 34)) := ((Below.refl _ _).alloc (Nat.le_refl _) _).alloc (by simp) _
    have hl3 := hbA.trans (hb3.mono hbA.size)
    have H3 := Lib.hid (H2.out.below hl3)
    have Hm3 := Lib.hid (Hm2.out.trans (.of_below hl3))
    have hbm3 := Lib.hid (hbm2.out.below hl3 hzm)
    have hbr3 := Lib.hid (hbr2.out.below hl3 hzr)
    have hbq3 : Hid (Box w3 w2.heap.size [.int .i64 0, .int .i64 0, .bool false, .bool false, .int .i64 0]) := Lib.hid (((Box.fresh w2 #[.int .i64 0, .int .i64 0, .bool false, .bool false, .int .i64 0] 117).alloc (.cells #[.int .i64 10, .int .i64 0, .int .u64 0, .int .i64 0, .string ⟨#[]⟩, .int .i64 c, .int .i64 a] 34)).below hb3 (by simp; omega))
    have hbe3 : Hid (Box w3 (w2.heap.size + 1) [.int .i64 10, .int .i64 0, .int .u64 0, .int .i64 0, .string ⟨#[]⟩, .int .i64 c, .int .i64 a]) := Lib.hid ((Box.fresh2R (w := w2) (xs := #[.int .i64 0, .int .i64 0, .bool false, .bool false, .int .i64 0]) (ys := #[.int .i64 10, .int .i64 0, .int .u64 0, .int .i64 0, .string ⟨#[]⟩, .int .i64 c, .int .i64 a]) (t := 117) (v := 34)).below hb3 (by simp))
    clear hb3 hbA hl3 H2 Hm2 hbm2 hbr2 hzm hzr
    generalize hgq : w2.heap.size = gq at hbq3 hbe3 hwz ⊢
    have m0 : w3.cell? ⟨gm, 0, none⟩ = some (.int .i64 sh) := (hbm3.out.2 0 (by simp)).1
    have mf0 : w3.frozen? ⟨gm, 0, none⟩ = false := (hbm3.out.2 0 (by simp)).2
    have m1 : w3.cell? ⟨gm, 1, none⟩ = some (.int .i64 E) := (hbm3.out.2 1 (by simp)).1
    have mf1 : w3.frozen? ⟨gm, 1, none⟩ = false := (hbm3.out.2 1 (by simp)).2
    have m2 : w3.cell? ⟨gm, 2, none⟩ = some (.int .i64 deep) := (hbm3.out.2 2 (by simp)).1
    have mf2 : w3.frozen? ⟨gm, 2, none⟩ = false := (hbm3.out.2 2 (by simp)).2
    have mz := hbm3.out.lt
    have q0 : w3.cell? ⟨gq, 0, none⟩ = some (.int .i64 0) := (hbq3.out.2 0 (by simp)).1
    have qf0 : w3.frozen? ⟨gq, 0, none⟩ = false := (hbq3.out.2 0 (by simp)).2
    have q1 : w3.cell? ⟨gq, 1, none⟩ = some (.int .i64 0) := (hbq3.out.2 1 (by simp)).1
    have qf1 : w3.frozen? ⟨gq, 1, none⟩ = false := (hbq3.out.2 1 (by simp)).2
    have q2 : w3.cell? ⟨gq, 2, none⟩ = some (.bool false) := (hbq3.out.2 2 (by simp)).1
    have qf2 : w3.frozen? ⟨gq, 2, none⟩ = false := (hbq3.out.2 2 (by simp)).2
    have q3 : w3.cell? ⟨gq, 3, none⟩ = some (.bool false) := (hbq3.out.2 3 (by simp)).1
    have qf3 : w3.frozen? ⟨gq, 3, none⟩ = false := (hbq3.out.2 3 (by simp)).2
    have q4 : w3.cell? ⟨gq, 4, none⟩ = some (.int .i64 0) := (hbq3.out.2 4 (by simp)).1
    have qf4 : w3.frozen? ⟨gq, 4, none⟩ = false := (hbq3.out.2 4 (by simp)).2
    have qz := hbq3.out.lt
    have e0 : w3.cell? ⟨(gq + 1), 0, none⟩ = some (.int .i64 10) := (hbe3.out.2 0 (by simp)).1
    have ef0 : w3.frozen? ⟨(gq + 1), 0, none⟩ = false := (hbe3.out.2 0 (by simp)).2
    have e1 : w3.cell? ⟨(gq + 1), 1, none⟩ = some (.int .i64 0) := (hbe3.out.2 1 (by simp)).1
    have ef1 : w3.frozen? ⟨(gq + 1), 1, none⟩ = false := (hbe3.out.2 1 (by simp)).2
    have e2 : w3.cell? ⟨(gq + 1), 2, none⟩ = some (.int .u64 0) := (hbe3.out.2 2 (by simp)).1
    have ef2 : w3.frozen? ⟨(gq + 1), 2, none⟩ = false := (hbe3.out.2 2 (by simp)).2
    have e3 : w3.cell? ⟨(gq + 1), 3, none⟩ = some (.int .i64 0) := (hbe3.out.2 3 (by simp)).1
    have ef3 : w3.frozen? ⟨(gq + 1), 3, none⟩ = false := (hbe3.out.2 3 (by simp)).2
    have e4 : w3.cell? ⟨(gq + 1), 4, none⟩ = some (.string ⟨#[]⟩) := (hbe3.out.2 4 (by simp)).1
    have ef4 : w3.frozen? ⟨(gq + 1), 4, none⟩ = false := (hbe3.out.2 4 (by simp)).2
    have e5 : w3.cell? ⟨(gq + 1), 5, none⟩ = some (.int .i64 c) := (hbe3.out.2 5 (by simp)).1
    have ef5 : w3.frozen? ⟨(gq + 1), 5, none⟩ = false := (hbe3.out.2 5 (by simp)).2
    have e6 : w3.cell? ⟨(gq + 1), 6, none⟩ = some (.int .i64 a) := (hbe3.out.2 6 (by simp)).1
    have ef6 : w3.frozen? ⟨(gq + 1), 6, none⟩ = false := (hbe3.out.2 6 (by simp)).2
    have ez := hbe3.out.lt
    have x0 : w3.cell? ⟨(gm + 1), 0, none⟩ = some (.int .i64 0) := (hbr3.out.2 0 (by simp)).1
    have xf0 : w3.frozen? ⟨(gm + 1), 0, none⟩ = false := (hbr3.out.2 0 (by simp)).2
    have x1 : w3.cell? ⟨(gm + 1), 1, none⟩ = some (.int .i64 0) := (hbr3.out.2 1 (by simp)).1
    have xf1 : w3.frozen? ⟨(gm + 1), 1, none⟩ = false := (hbr3.out.2 1 (by simp)).2
    have x2 : w3.cell? ⟨(gm + 1), 2, none⟩ = some (.int .u64 0) := (hbr3.out.2 2 (by simp)).1
    have xf2 : w3.frozen? ⟨(gm + 1), 2, none⟩ = false := (hbr3.out.2 2 (by simp)).2
    have x3 : w3.cell? ⟨(gm + 1), 3, none⟩ = some (.int .i64 0) := (hbr3.out.2 3 (by simp)).1
    have xf3 : w3.frozen? ⟨(gm + 1), 3, none⟩ = false := (hbr3.out.2 3 (by simp)).2
    have x4 : w3.cell? ⟨(gm + 1), 4, none⟩ = some (.string ⟨#[]⟩) := (hbr3.out.2 4 (by simp)).1
    have xf4 : w3.frozen? ⟨(gm + 1), 4, none⟩ = false := (hbr3.out.2 4 (by simp)).2
    have x5 : w3.cell? ⟨(gm + 1), 5, none⟩ = some (.int .i64 0) := (hbr3.out.2 5 (by simp)).1
    have xf5 : w3.frozen? ⟨(gm + 1), 5, none⟩ = false := (hbr3.out.2 5 (by simp)).2
    have x6 : w3.cell? ⟨(gm + 1), 6, none⟩ = some (.int .i64 0) := (hbr3.out.2 6 (by simp)).1
    have xf6 : w3.frozen? ⟨(gm + 1), 6, none⟩ = false := (hbr3.out.2 6 (by simp)).2
    have xz := hbr3.out.lt
    go_wp2_with fail
    refine bodyPost_ret (v := .agg #[.int .i64 10, .int .i64 0, .int .u64 0, .int .i64 0, .string ⟨#[]⟩, .int .i64 c, .int .i64 a]) (by simp [results, Tryz.results98, go_sem, xz, x0, x1, x2, x3, x4, x5, x6]) rfl ?_
    refine PostI.bad HM2.out (o' := o) (p := p) ?_ ?_
    · repeat (first | with_reducible exact H3.out | with_reducible refine RI.drew ?_ | with_reducible refine RI.loc ?_ hlr.out _ _)
    · repeat (first | with_reducible exact Hm3.out | with_reducible refine MovI.drew ?_ | with_reducible refine MovI.setX ?_ (show w.heap.size ≤ gm + 1 by omega) _ _)
  · rcases ht with ⟨c, hc, hR, rfl⟩ | ⟨f, x, hR, rfl⟩
    · have H2 := Lib.hid h2
      have Hm2 := Lib.hid (Hm1.out.trans hm2)
      have hbm2 := Lib.hid (hm2.keep hbm.out hlm.out)
      have hbr2 := Lib.hid (hm2.keep hbr.out hlr.out)
      have hwz := Hm2.out.size
      have hzm := hbm2.out.lt
      have hzr := hbr2.out.lt
      clear h2 hm2 H1 Hm1 hbm hbr hgz
      have HM2 : Hid (M = ⟨P, out, failE c p⟩) := Lib.hid (by rw [← HM.out, hq, if_neg (by show ¬ ¬ (0 : Int) = 0; decide), Int.toNat_natCast, tag2_bad hR hc]; rfl)
      clear hR hc
      unfold zeroF fieldV
      rw [fail_evV]
      go_wp2_with fail
      refine (term_fail c p _).mono ?_
      rintro e w3 ⟨rfl, hb3⟩
      have hbA : Below w2.heap.size w2 ((w2.alloc (.cells #[.int .i64 0, .int .i64 0, .bool false, .bool false, .int .i64 0] 117)).alloc (.cells #[.int .i64 10, .int .i64 0, .int .u64 0, .int .i64 0, .string ⟨#[]⟩, .int .i64 c, .int .i64 p] 34)) := ((Below.refl _ _).alloc (Nat.le_refl _) _).alloc (by simp) _
      have hl3 := hbA.trans (hb3.mono hbA.size)
      have H3 := Lib.hid (H2.out.below hl3)
      have Hm3 := Lib.hid (Hm2.out.trans (.of_below hl3))
      have hbm3 := Lib.hid (hbm2.out.below hl3 hzm)
      have hbr3 := Lib.hid (hbr2.out.below hl3 hzr)
      have hbq3 : Hid (Box w3 w2.heap.size [.int .i64 0, .int .i64 0, .bool false, .bool false, .int .i64 0]) := Lib.hid (((Box.fresh w2 #[.int .i64 0, .int .i64 0, .bool false, .bool false, .int .i64 0] 117).alloc (.cells #[.int .i64 10, .int .i64 0, .int .u64 0, .int .i64 0, .string ⟨#[]⟩, .int .i64 c, .int .i64 p] 34)).below hb3 (by simp; omega))
      have hbe3 : Hid (Box w3 (w2.heap.size + 1) [.int .i64 10, .int .i64 0, .int .u64 0, .int .i64 0, .string ⟨#[]⟩, .int .i64 c, .int .i64 p]) := Lib.hid ((Box.fresh2R (w := w2) (xs := #[.int .i64 0, .int .i64 0, .bool false, .bool false, .int .i64 0]) (ys := #[.int .i64 10, .int .i64 0, .int .u64 0, .int .i64 0, .string ⟨#[]⟩, .int .i64 c, .int .i64 p]) (t := 117) (v := 34)).below hb3 (by simp))
      clear hb3 hbA hl3 H2 Hm2 hbm2 hbr2 hzm hzr
      generalize hgq : w2.heap.size = gq at hbq3 hbe3 hwz ⊢
      have m0 : w3.cell? ⟨gm, 0, none⟩ = some (.int .i64 sh) := (hbm3.out.2 0 (by simp)).1
      have mf0 : w3.frozen? ⟨gm, 0, none⟩ = false := (hbm3.out.2 0 (by simp)).2
      have m1 : w3.cell? ⟨gm, 1, none⟩ = some (.int .i64 E) := (hbm3.out.2 1 (by simp)).1
      have mf1 : w3.frozen? ⟨gm, 1, none⟩ = false := (hbm3.out.2 1 (by simp)).2
      have m2 : w3.cell? ⟨gm, 2, none⟩ = some (.int .i64 deep) := (hbm3.out.2 2 (by simp)).1
      have mf2 : w3.frozen? ⟨gm, 2, none⟩ = false := (hbm3.out.2 2 (by simp)).2
      have mz := hbm3.out.lt
      have q0 : w3.cell? ⟨gq, 0, none⟩ = some (.int .i64 0) := (hbq3.out.2 0 (by simp)).1
      have qf0 : w3.frozen? ⟨gq, 0, none⟩ = false := (hbq3.out.2 0 (by simp)).2
      have q1 : w3.cell? ⟨gq, 1, none⟩ = some (.int .i64 0) := (hbq3.out.2 1 (by simp)).1
      have qf1 : w3.frozen? ⟨gq, 1, none⟩ = false := (hbq3.out.2 1 (by simp)).2
      have q2 : w3.cell? ⟨gq, 2, none⟩ = some (.bool false) := (hbq3.out.2 2 (by simp)).1
      have qf2 : w3.frozen? ⟨gq, 2, none⟩ = false := (hbq3.out.2 2 (by simp)).2
      have q3 : w3.cell? ⟨gq, 3, none⟩ = some (.bool false) := (hbq3.out.2 3 (by simp)).1
      have qf3 : w3.frozen? ⟨gq, 3, none⟩ = false := (hbq3.out.2 3 (by simp)).2
      have q4 : w3.cell? ⟨gq, 4, none⟩ = some (.int .i64 0) := (hbq3.out.2 4 (by simp)).1
      have qf4 : w3.frozen? ⟨gq, 4, none⟩ = false := (hbq3.out.2 4 (by simp)).2
      have qz := hbq3.out.lt
      have e0 : w3.cell? ⟨(gq + 1), 0, none⟩ = some (.int .i64 10) := (hbe3.out.2 0 (by simp)).1
      have ef0 : w3.frozen? ⟨(gq + 1), 0, none⟩ = false := (hbe3.out.2 0 (by simp)).2
      have e1 : w3.cell? ⟨(gq + 1), 1, none⟩ = some (.int .i64 0) := (hbe3.out.2 1 (by simp)).1
      have ef1 : w3.frozen? ⟨(gq + 1), 1, none⟩ = false := (hbe3.out.2 1 (by simp)).2
      have e2 : w3.cell? ⟨(gq + 1), 2, none⟩ = some (.int .u64 0) := (hbe3.out.2 2 (by simp)).1
      have ef2 : w3.frozen? ⟨(gq + 1), 2, none⟩ = false := (hbe3.out.2 2 (by simp)).2
      have e3 : w3.cell? ⟨(gq + 1), 3, none⟩ = some (.int .i64 0) := (hbe3.out.2 3 (by simp)).1
      have ef3 : w3.frozen? ⟨(gq + 1), 3, none⟩ = false := (hbe3.out.2 3 (by simp)).2
      have e4 : w3.cell? ⟨(gq + 1), 4, none⟩ = some (.string ⟨#[]⟩) := (hbe3.out.2 4 (by simp)).1
      have ef4 : w3.frozen? ⟨(gq + 1), 4, none⟩ = false := (hbe3.out.2 4 (by simp)).2
      have e5 : w3.cell? ⟨(gq + 1), 5, none⟩ = some (.int .i64 c) := (hbe3.out.2 5 (by simp)).1
      have ef5 : w3.frozen? ⟨(gq + 1), 5, none⟩ = false := (hbe3.out.2 5 (by simp)).2
      have e6 : w3.cell? ⟨(gq + 1), 6, none⟩ = some (.int .i64 p) := (hbe3.out.2 6 (by simp)).1
      have ef6 : w3.frozen? ⟨(gq + 1), 6, none⟩ = false := (hbe3.out.2 6 (by simp)).2
      have ez := hbe3.out.lt
      have x0 : w3.cell? ⟨(gm + 1), 0, none⟩ = some (.int .i64 0) := (hbr3.out.2 0 (by simp)).1
      have xf0 : w3.frozen? ⟨(gm + 1), 0, none⟩ = false := (hbr3.out.2 0 (by simp)).2
      have x1 : w3.cell? ⟨(gm + 1), 1, none⟩ = some (.int .i64 0) := (hbr3.out.2 1 (by simp)).1
      have xf1 : w3.frozen? ⟨(gm + 1), 1, none⟩ = false := (hbr3.out.2 1 (by simp)).2
      have x2 : w3.cell? ⟨(gm + 1), 2, none⟩ = some (.int .u64 0) := (hbr3.out.2 2 (by simp)).1
      have xf2 : w3.frozen? ⟨(gm + 1), 2, none⟩ = false := (hbr3.out.2 2 (by simp)).2
      have x3 : w3.cell? ⟨(gm + 1), 3, none⟩ = some (.int .i64 0) := (hbr3.out.2 3 (by simp)).1
      have xf3 : w3.frozen? ⟨(gm + 1), 3, none⟩ = false := (hbr3.out.2 3 (by simp)).2
      have x4 : w3.cell? ⟨(gm + 1), 4, none⟩ = some (.string ⟨#[]⟩) := (hbr3.out.2 4 (by simp)).1
      have xf4 : w3.frozen? ⟨(gm + 1), 4, none⟩ = false := (hbr3.out.2 4 (by simp)).2
      have x5 : w3.cell? ⟨(gm + 1), 5, none⟩ = some (.int .i64 0) := (hbr3.out.2 5 (by simp)).1
      have xf5 : w3.frozen? ⟨(gm + 1), 5, none⟩ = false := (hbr3.out.2 5 (by simp)).2
      have x6 : w3.cell? ⟨(gm + 1), 6, none⟩ = some (.int .i64 0) := (hbr3.out.2 6 (by simp)).1
      have xf6 : w3.frozen? ⟨(gm + 1), 6, none⟩ = false := (hbr3.out.2 6 (by simp)).2
      have xz := hbr3.out.lt
      go_wp2_with fail
      refine bodyPost_ret (v := .agg #[.int .i64 10, .int .i64 0, .int .u64 0, .int .i64 0, .string ⟨#[]⟩, .int .i64 c, .int .i64 p]) (by simp [results, Tryz.results98, go_sem, xz, x0, x1, x2, x3, x4, x5, x6]) rfl ?_
      refine PostI.bad HM2.out (o' := o) (p := P) ?_ ?_
      · repeat (first | with_reducible exact H3.out | with_reducible refine RI.drew ?_ | with_reducible refine RI.loc ?_ hlr.out _ _)
      · repeat (first | with_reducible exact Hm3.out | with_reducible refine MovI.drew ?_ | with_reducible refine MovI.setX ?_ (show w.heap.size ≤ gm + 1 by omega) _ _)
    · have H2 := Lib.hid h2
      have Hm2 := Lib.hid (Hm1.out.trans hm2)
      have hbm2 := Lib.hid (hm2.keep hbm.out hlm.out)
      have hbr2 := Lib.hid (hm2.keep hbr.out hlr.out)
      have hwz := Hm2.out.size
      have hzm := hbm2.out.lt
      have hzr := hbr2.out.lt
      clear h2 hm2 H1 Hm1 hbm hbr hgz
      obtain ⟨hT, hFO, hWo⟩ := tag2_ok (M := msgRd s sch D n) (n := n) (s := s) (D := D) (E := E) (deep := deep) (start := p) (r := ⟨P, out, zeroE⟩) hR hS
      have hwc := wire_cases hWo
      have hMM : (if x = 2 then rdLong (msgRd s sch D n) n s D f E deep ⟨P, out, zeroE⟩ else rdNum s f x E ⟨P, out, zeroE⟩) = M := by rw [← hT, ← HM.out, hq, if_neg (by show ¬ ¬ (0 : Int) = 0; decide), Int.toNat_natCast]
      clear hT hR hWo HM
      obtain ⟨A1, A2, A3, A4, A5⟩ := f
      unfold fieldV
      simp only
      rw [zero_evV]
      by_cases hx : x = 2
      · have hxb : (x == 2) = true := by simp [hx]
        have HMb : Hid (rdLong (msgRd s sch D n) n s D (A1, A2, A3, A4, A5) E deep ⟨P, out, zeroE⟩ = M) := Lib.hid (by rw [← hMM, if_pos hx])
        clear hMM
        have HL : Hid (∀ w, RI w g bs bp L B u Rt Mo sch D s o P out → Calls Tryz.prog 137 #[.pointer (some ⟨g, 0, none⟩), .agg #[.int .i64 A1, .int .i64 A2, .bool A3, .bool A4, .int .i64 A5], .agg #[.int .i64 sh, .int .i64 E, .int .i64 deep]] w (PostI g bs bp L B u Rt Mo sch D s o M w)) := Lib.hid fun w h => by
          rw [← HMb.out]
          exact readLong_any n h IH (A1, A2, A3, A4, A5) hFO sh E deep ⟨by omega, hE.2⟩ hs (by omega) (by omega) hd hD
        clear HMb IH
        obtain ⟨plM, outM, ⟨k2, e2f, e2b, e2l, e2t, e2c, e2p⟩⟩ := M
        unfold PostI evV at HL
        simp only at HL
        go_wp2_with fail
        refine (term_zero _).mono ?_
        rintro e w3 ⟨rfl, hb3⟩
        have hbA : Below w2.heap.size w2 ((w2.alloc (.cells #[.int .i64 A1, .int .i64 A2, .bool A3, .bool A4, .int .i64 A5] 117)).alloc (.cells #[.int .i64 0, .int .i64 0, .int .u64 0, .int .i64 0, .string ⟨#[]⟩, .int .i64 0, .int .i64 0] 34)) := ((Below.refl _ _).alloc (Nat.le_refl _) _).alloc (by simp) _
        have hl3 := hbA.trans (hb3.mono hbA.size)
        have H3 := Lib.hid (H2.out.below hl3)
        have Hm3 := Lib.hid (Hm2.out.trans (.of_below hl3))
        have hbm3 := Lib.hid (hbm2.out.below hl3 hzm)
        have hbr3 := Lib.hid (hbr2.out.below hl3 hzr)
        have hbq3 : Hid (Box w3 w2.heap.size [.int .i64 A1, .int .i64 A2, .bool A3, .bool A4, .int .i64 A5]) := Lib.hid (((Box.fresh w2 #[.int .i64 A1, .int .i64 A2, .bool A3, .bool A4, .int .i64 A5] 117).alloc (.cells #[.int .i64 0, .int .i64 0, .int .u64 0, .int .i64 0, .string ⟨#[]⟩, .int .i64 0, .int .i64 0] 34)).below hb3 (by simp; omega))
        have hbe3 : Hid (Box w3 (w2.heap.size + 1) [.int .i64 0, .int .i64 0, .int .u64 0, .int .i64 0, .string ⟨#[]⟩, .int .i64 0, .int .i64 0]) := Lib.hid ((Box.fresh2R (w := w2) (xs := #[.int .i64 A1, .int .i64 A2, .bool A3, .bool A4, .int .i64 A5]) (ys := #[.int .i64 0, .int .i64 0, .int .u64 0, .int .i64 0, .string ⟨#[]⟩, .int .i64 0, .int .i64 0]) (t := 117) (v := 34)).below hb3 (by simp))
        clear hb3 hbA hl3 H2 Hm2 hbm2 hbr2 hzm hzr
        generalize hgq : w2.heap.size = gq at hbq3 hbe3 hwz ⊢
        have m0 : w3.cell? ⟨gm, 0, none⟩ = some (.int .i64 sh) := (hbm3.out.2 0 (by simp)).1
        have mf0 : w3.frozen? ⟨gm, 0, none⟩ = false := (hbm3.out.2 0 (by simp)).2
        have m1 : w3.cell? ⟨gm, 1, none⟩ = some (.int .i64 E) := (hbm3.out.2 1 (by simp)).1
        have mf1 : w3.frozen? ⟨gm, 1, none⟩ = false := (hbm3.out.2 1 (by simp)).2
        have m2 : w3.cell? ⟨gm, 2, none⟩ = some (.int .i64 deep) := (hbm3.out.2 2 (by simp)).1
        have mf2 : w3.frozen? ⟨gm, 2, none⟩ = false := (hbm3.out.2 2 (by simp)).2
        have mz := hbm3.out.lt
        have q0 : w3.cell? ⟨gq, 0, none⟩ = some (.int .i64 A1) := (hbq3.out.2 0 (by simp)).1
        have qf0 : w3.frozen? ⟨gq, 0, none⟩ = false := (hbq3.out.2 0 (by simp)).2
        have q1 : w3.cell? ⟨gq, 1, none⟩ = some (.int .i64 A2) := (hbq3.out.2 1 (by simp)).1
        have qf1 : w3.frozen? ⟨gq, 1, none⟩ = false := (hbq3.out.2 1 (by simp)).2
        have q2 : w3.cell? ⟨gq, 2, none⟩ = some (.bool A3) := (hbq3.out.2 2 (by simp)).1
        have qf2 : w3.frozen? ⟨gq, 2, none⟩ = false := (hbq3.out.2 2 (by simp)).2
        have q3 : w3.cell? ⟨gq, 3, none⟩ = some (.bool A4) := (hbq3.out.2 3 (by simp)).1
        have qf3 : w3.frozen? ⟨gq, 3, none⟩ = false := (hbq3.out.2 3 (by simp)).2
        have q4 : w3.cell? ⟨gq, 4, none⟩ = some (.int .i64 A5) := (hbq3.out.2 4 (by simp)).1
        have qf4 : w3.frozen? ⟨gq, 4, none⟩ = false := (hbq3.out.2 4 (by simp)).2
        have qz := hbq3.out.lt
        have e0 : w3.cell? ⟨(gq + 1), 0, none⟩ = some (.int .i64 0) := (hbe3.out.2 0 (by simp)).1
        have ef0 : w3.frozen? ⟨(gq + 1), 0, none⟩ = false := (hbe3.out.2 0 (by simp)).2
        have e1 : w3.cell? ⟨(gq + 1), 1, none⟩ = some (.int .i64 0) := (hbe3.out.2 1 (by simp)).1
        have ef1 : w3.frozen? ⟨(gq + 1), 1, none⟩ = false := (hbe3.out.2 1 (by simp)).2
        have e2 : w3.cell? ⟨(gq + 1), 2, none⟩ = some (.int .u64 0) := (hbe3.out.2 2 (by simp)).1
        have ef2 : w3.frozen? ⟨(gq + 1), 2, none⟩ = false := (hbe3.out.2 2 (by simp)).2
        have e3 : w3.cell? ⟨(gq + 1), 3, none⟩ = some (.int .i64 0) := (hbe3.out.2 3 (by simp)).1
        have ef3 : w3.frozen? ⟨(gq + 1), 3, none⟩ = false := (hbe3.out.2 3 (by simp)).2
        have e4 : w3.cell? ⟨(gq + 1), 4, none⟩ = some (.string ⟨#[]⟩) := (hbe3.out.2 4 (by simp)).1
        have ef4 : w3.frozen? ⟨(gq + 1), 4, none⟩ = false := (hbe3.out.2 4 (by simp)).2
        have e5 : w3.cell? ⟨(gq + 1), 5, none⟩ = some (.int .i64 0) := (hbe3.out.2 5 (by simp)).1
        have ef5 : w3.frozen? ⟨(gq + 1), 5, none⟩ = false := (hbe3.out.2 5 (by simp)).2
        have e6 : w3.cell? ⟨(gq + 1), 6, none⟩ = some (.int .i64 0) := (hbe3.out.2 6 (by simp)).1
        have ef6 : w3.frozen? ⟨(gq + 1), 6, none⟩ = false := (hbe3.out.2 6 (by simp)).2
        have ez := hbe3.out.lt
        have x0 : w3.cell? ⟨(gm + 1), 0, none⟩ = some (.int .i64 0) := (hbr3.out.2 0 (by simp)).1
        have xf0 : w3.frozen? ⟨(gm + 1), 0, none⟩ = false := (hbr3.out.2 0 (by simp)).2
        have x1 : w3.cell? ⟨(gm + 1), 1, none⟩ = some (.int .i64 0) := (hbr3.out.2 1 (by simp)).1
        have xf1 : w3.frozen? ⟨(gm + 1), 1, none⟩ = false := (hbr3.out.2 1 (by simp)).2
        have x2 : w3.cell? ⟨(gm + 1), 2, none⟩ = some (.int .u64 0) := (hbr3.out.2 2 (by simp)).1
        have xf2 : w3.frozen? ⟨(gm + 1), 2, none⟩ = false := (hbr3.out.2 2 (by simp)).2
        have x3 : w3.cell? ⟨(gm + 1), 3, none⟩ = some (.int .i64 0) := (hbr3.out.2 3 (by simp)).1
        have xf3 : w3.frozen? ⟨(gm + 1), 3, none⟩ = false := (hbr3.out.2 3 (by simp)).2
        have x4 : w3.cell? ⟨(gm + 1), 4, none⟩ = some (.string ⟨#[]⟩) := (hbr3.out.2 4 (by simp)).1
        have xf4 : w3.frozen? ⟨(gm + 1), 4, none⟩ = false := (hbr3.out.2 4 (by simp)).2
        have x5 : w3.cell? ⟨(gm + 1), 5, none⟩ = some (.int .i64 0) := (hbr3.out.2 5 (by simp)).1
        have xf5 : w3.frozen? ⟨(gm + 1), 5, none⟩ = false := (hbr3.out.2 5 (by simp)).2
        have x6 : w3.cell? ⟨(gm + 1), 6, none⟩ = some (.int .i64 0) := (hbr3.out.2 6 (by simp)).1
        have xf6 : w3.frozen? ⟨(gm + 1), 6, none⟩ = false := (hbr3.out.2 6 (by simp)).2
        have xz := hbr3.out.lt
        go_wp2_with fail
        refine (HL.out _ H3.out).mono ?_
        rintro e w8 ⟨o8, p8, rfl, h8, hm8, hp8, hf8⟩
        have H8 := Lib.hid h8
        have Hm8 := Lib.hid (Hm3.out.trans hm8)
        have hlr8 := Lib.hid (hlr.out.moved hbr3.out.lt hm8)
        have hbr8 := hm8.keep hbr3.out hlr.out
        clear h8 hm8 x0 xf0 x1 xf1 x2 xf2 x3 xf3 x4 xf4 x5 xf5 x6 xf6 xz
        have x0 : w8.cell? ⟨(gm + 1), 0, none⟩ = some (.int .i64 0) := (hbr8.2 0 (by simp)).1
        have xf0 : w8.frozen? ⟨(gm + 1), 0, none⟩ = false := (hbr8.2 0 (by simp)).2
        have x1 : w8.cell? ⟨(gm + 1), 1, none⟩ = some (.int .i64 0) := (hbr8.2 1 (by simp)).1
        have xf1 : w8.frozen? ⟨(gm + 1), 1, none⟩ = false := (hbr8.2 1 (by simp)).2
        have x2 : w8.cell? ⟨(gm + 1), 2, none⟩ = some (.int .u64 0) := (hbr8.2 2 (by simp)).1
        have xf2 : w8.frozen? ⟨(gm + 1), 2, none⟩ = false := (hbr8.2 2 (by simp)).2
        have x3 : w8.cell? ⟨(gm + 1), 3, none⟩ = some (.int .i64 0) := (hbr8.2 3 (by simp)).1
        have xf3 : w8.frozen? ⟨(gm + 1), 3, none⟩ = false := (hbr8.2 3 (by simp)).2
        have x4 : w8.cell? ⟨(gm + 1), 4, none⟩ = some (.string ⟨#[]⟩) := (hbr8.2 4 (by simp)).1
        have xf4 : w8.frozen? ⟨(gm + 1), 4, none⟩ = false := (hbr8.2 4 (by simp)).2
        have x5 : w8.cell? ⟨(gm + 1), 5, none⟩ = some (.int .i64 0) := (hbr8.2 5 (by simp)).1
        have xf5 : w8.frozen? ⟨(gm + 1), 5, none⟩ = false := (hbr8.2 5 (by simp)).2
        have x6 : w8.cell? ⟨(gm + 1), 6, none⟩ = some (.int .i64 0) := (hbr8.2 6 (by simp)).1
        have xf6 : w8.frozen? ⟨(gm + 1), 6, none⟩ = false := (hbr8.2 6 (by simp)).2
        have xz := hbr8.lt
        go_wp2_with fail
        refine bodyPost_ret (v := .agg #[.int .i64 k2, .int .i64 e2f, .int .u64 e2b, .int .i64 e2l, .string e2t, .int .i64 e2c, .int .i64 e2p]) (by simp [results, Tryz.results98, go_sem, xz, x0, x1, x2, x3, x4, x5, x6]) rfl ?_
        refine ⟨o8, p8, rfl, ?_, ?_, hp8, hf8⟩
        · repeat (first | with_reducible exact H8.out | with_reducible refine RI.drew ?_ | with_reducible refine RI.loc ?_ hlr8.out _ _)
        · repeat (first | with_reducible exact Hm8.out | with_reducible refine MovI.drew ?_ | with_reducible refine MovI.setX ?_ (show w.heap.size ≤ gm + 1 by omega) _ _)
      · have hxb : (x == 2) = false := neI hx
        have HMb : Hid (rdNum s (A1, A2, A3, A4, A5) x E ⟨P, out, zeroE⟩ = M) := Lib.hid (by rw [← hMM, if_neg hx])
        clear hMM
        have HL : Hid (∀ w, RI w g bs bp L B u Rt Mo sch D s o P out → Calls Tryz.prog 138 #[.pointer (some ⟨g, 0, none⟩), .agg #[.int .i64 A1, .int .i64 A2, .bool A3, .bool A4, .int .i64 A5], .int .i64 x, .int .i64 E] w (PostI g bs bp L B u Rt Mo sch D s o M w)) := Lib.hid fun w h => by
          rw [← HMb.out]
          exact readNumber_any h (A1, A2, A3, A4, A5) hFO x E (by omega) ⟨by omega, hE.2⟩ (by omega) (by omega)
        clear HMb IH
        obtain ⟨plM, outM, ⟨k2, e2f, e2b, e2l, e2t, e2c, e2p⟩⟩ := M
        unfold PostI evV at HL
        simp only at HL
        go_wp2_with fail
        refine (term_zero _).mono ?_
        rintro e w3 ⟨rfl, hb3⟩
        have hbA : Below w2.heap.size w2 ((w2.alloc (.cells #[.int .i64 A1, .int .i64 A2, .bool A3, .bool A4, .int .i64 A5] 117)).alloc (.cells #[.int .i64 0, .int .i64 0, .int .u64 0, .int .i64 0, .string ⟨#[]⟩, .int .i64 0, .int .i64 0] 34)) := ((Below.refl _ _).alloc (Nat.le_refl _) _).alloc (by simp) _
        have hl3 := hbA.trans (hb3.mono hbA.size)
        have H3 := Lib.hid (H2.out.below hl3)
        have Hm3 := Lib.hid (Hm2.out.trans (.of_below hl3))
        have hbm3 := Lib.hid (hbm2.out.below hl3 hzm)
        have hbr3 := Lib.hid (hbr2.out.below hl3 hzr)
        have hbq3 : Hid (Box w3 w2.heap.size [.int .i64 A1, .int .i64 A2, .bool A3, .bool A4, .int .i64 A5]) := Lib.hid (((Box.fresh w2 #[.int .i64 A1, .int .i64 A2, .bool A3, .bool A4, .int .i64 A5] 117).alloc (.cells #[.int .i64 0, .int .i64 0, .int .u64 0, .int .i64 0, .string ⟨#[]⟩, .int .i64 0, .int .i64 0] 34)).below hb3 (by simp; omega))
        have hbe3 : Hid (Box w3 (w2.heap.size + 1) [.int .i64 0, .int .i64 0, .int .u64 0, .int .i64 0, .string ⟨#[]⟩, .int .i64 0, .int .i64 0]) := Lib.hid ((Box.fresh2R (w := w2) (xs := #[.int .i64 A1, .int .i64 A2, .bool A3, .bool A4, .int .i64 A5]) (ys := #[.int .i64 0, .int .i64 0, .int .u64 0, .int .i64 0, .string ⟨#[]⟩, .int .i64 0, .int .i64 0]) (t := 117) (v := 34)).below hb3 (by simp))
        clear hb3 hbA hl3 H2 Hm2 hbm2 hbr2 hzm hzr
        generalize hgq : w2.heap.size = gq at hbq3 hbe3 hwz ⊢
        have m0 : w3.cell? ⟨gm, 0, none⟩ = some (.int .i64 sh) := (hbm3.out.2 0 (by simp)).1
        have mf0 : w3.frozen? ⟨gm, 0, none⟩ = false := (hbm3.out.2 0 (by simp)).2
        have m1 : w3.cell? ⟨gm, 1, none⟩ = some (.int .i64 E) := (hbm3.out.2 1 (by simp)).1
        have mf1 : w3.frozen? ⟨gm, 1, none⟩ = false := (hbm3.out.2 1 (by simp)).2
        have m2 : w3.cell? ⟨gm, 2, none⟩ = some (.int .i64 deep) := (hbm3.out.2 2 (by simp)).1
        have mf2 : w3.frozen? ⟨gm, 2, none⟩ = false := (hbm3.out.2 2 (by simp)).2
        have mz := hbm3.out.lt
        have q0 : w3.cell? ⟨gq, 0, none⟩ = some (.int .i64 A1) := (hbq3.out.2 0 (by simp)).1
        have qf0 : w3.frozen? ⟨gq, 0, none⟩ = false := (hbq3.out.2 0 (by simp)).2
        have q1 : w3.cell? ⟨gq, 1, none⟩ = some (.int .i64 A2) := (hbq3.out.2 1 (by simp)).1
        have qf1 : w3.frozen? ⟨gq, 1, none⟩ = false := (hbq3.out.2 1 (by simp)).2
        have q2 : w3.cell? ⟨gq, 2, none⟩ = some (.bool A3) := (hbq3.out.2 2 (by simp)).1
        have qf2 : w3.frozen? ⟨gq, 2, none⟩ = false := (hbq3.out.2 2 (by simp)).2
        have q3 : w3.cell? ⟨gq, 3, none⟩ = some (.bool A4) := (hbq3.out.2 3 (by simp)).1
        have qf3 : w3.frozen? ⟨gq, 3, none⟩ = false := (hbq3.out.2 3 (by simp)).2
        have q4 : w3.cell? ⟨gq, 4, none⟩ = some (.int .i64 A5) := (hbq3.out.2 4 (by simp)).1
        have qf4 : w3.frozen? ⟨gq, 4, none⟩ = false := (hbq3.out.2 4 (by simp)).2
        have qz := hbq3.out.lt
        have e0 : w3.cell? ⟨(gq + 1), 0, none⟩ = some (.int .i64 0) := (hbe3.out.2 0 (by simp)).1
        have ef0 : w3.frozen? ⟨(gq + 1), 0, none⟩ = false := (hbe3.out.2 0 (by simp)).2
        have e1 : w3.cell? ⟨(gq + 1), 1, none⟩ = some (.int .i64 0) := (hbe3.out.2 1 (by simp)).1
        have ef1 : w3.frozen? ⟨(gq + 1), 1, none⟩ = false := (hbe3.out.2 1 (by simp)).2
        have e2 : w3.cell? ⟨(gq + 1), 2, none⟩ = some (.int .u64 0) := (hbe3.out.2 2 (by simp)).1
        have ef2 : w3.frozen? ⟨(gq + 1), 2, none⟩ = false := (hbe3.out.2 2 (by simp)).2
        have e3 : w3.cell? ⟨(gq + 1), 3, none⟩ = some (.int .i64 0) := (hbe3.out.2 3 (by simp)).1
        have ef3 : w3.frozen? ⟨(gq + 1), 3, none⟩ = false := (hbe3.out.2 3 (by simp)).2
        have e4 : w3.cell? ⟨(gq + 1), 4, none⟩ = some (.string ⟨#[]⟩) := (hbe3.out.2 4 (by simp)).1
        have ef4 : w3.frozen? ⟨(gq + 1), 4, none⟩ = false := (hbe3.out.2 4 (by simp)).2
        have e5 : w3.cell? ⟨(gq + 1), 5, none⟩ = some (.int .i64 0) := (hbe3.out.2 5 (by simp)).1
        have ef5 : w3.frozen? ⟨(gq + 1), 5, none⟩ = false := (hbe3.out.2 5 (by simp)).2
        have e6 : w3.cell? ⟨(gq + 1), 6, none⟩ = some (.int .i64 0) := (hbe3.out.2 6 (by simp)).1
        have ef6 : w3.frozen? ⟨(gq + 1), 6, none⟩ = false := (hbe3.out.2 6 (by simp)).2
        have ez := hbe3.out.lt
        have x0 : w3.cell? ⟨(gm + 1), 0, none⟩ = some (.int .i64 0) := (hbr3.out.2 0 (by simp)).1
        have xf0 : w3.frozen? ⟨(gm + 1), 0, none⟩ = false := (hbr3.out.2 0 (by simp)).2
        have x1 : w3.cell? ⟨(gm + 1), 1, none⟩ = some (.int .i64 0) := (hbr3.out.2 1 (by simp)).1
        have xf1 : w3.frozen? ⟨(gm + 1), 1, none⟩ = false := (hbr3.out.2 1 (by simp)).2
        have x2 : w3.cell? ⟨(gm + 1), 2, none⟩ = some (.int .u64 0) := (hbr3.out.2 2 (by simp)).1
        have xf2 : w3.frozen? ⟨(gm + 1), 2, none⟩ = false := (hbr3.out.2 2 (by simp)).2
        have x3 : w3.cell? ⟨(gm + 1), 3, none⟩ = some (.int .i64 0) := (hbr3.out.2 3 (by simp)).1
        have xf3 : w3.frozen? ⟨(gm + 1), 3, none⟩ = false := (hbr3.out.2 3 (by simp)).2
        have x4 : w3.cell? ⟨(gm + 1), 4, none⟩ = some (.string ⟨#[]⟩) := (hbr3.out.2 4 (by simp)).1
        have xf4 : w3.frozen? ⟨(gm + 1), 4, none⟩ = false := (hbr3.out.2 4 (by simp)).2
        have x5 : w3.cell? ⟨(gm + 1), 5, none⟩ = some (.int .i64 0) := (hbr3.out.2 5 (by simp)).1
        have xf5 : w3.frozen? ⟨(gm + 1), 5, none⟩ = false := (hbr3.out.2 5 (by simp)).2
        have x6 : w3.cell? ⟨(gm + 1), 6, none⟩ = some (.int .i64 0) := (hbr3.out.2 6 (by simp)).1
        have xf6 : w3.frozen? ⟨(gm + 1), 6, none⟩ = false := (hbr3.out.2 6 (by simp)).2
        have xz := hbr3.out.lt
        go_wp2_with fail
        refine (HL.out _ H3.out).mono ?_
        rintro e w8 ⟨o8, p8, rfl, h8, hm8, hp8, hf8⟩
        have H8 := Lib.hid h8
        have Hm8 := Lib.hid (Hm3.out.trans hm8)
        have hlr8 := Lib.hid (hlr.out.moved hbr3.out.lt hm8)
        have hbr8 := hm8.keep hbr3.out hlr.out
        clear h8 hm8 x0 xf0 x1 xf1 x2 xf2 x3 xf3 x4 xf4 x5 xf5 x6 xf6 xz
        have x0 : w8.cell? ⟨(gm + 1), 0, none⟩ = some (.int .i64 0) := (hbr8.2 0 (by simp)).1
        have xf0 : w8.frozen? ⟨(gm + 1), 0, none⟩ = false := (hbr8.2 0 (by simp)).2
        have x1 : w8.cell? ⟨(gm + 1), 1, none⟩ = some (.int .i64 0) := (hbr8.2 1 (by simp)).1
        have xf1 : w8.frozen? ⟨(gm + 1), 1, none⟩ = false := (hbr8.2 1 (by simp)).2
        have x2 : w8.cell? ⟨(gm + 1), 2, none⟩ = some (.int .u64 0) := (hbr8.2 2 (by simp)).1
        have xf2 : w8.frozen? ⟨(gm + 1), 2, none⟩ = false := (hbr8.2 2 (by simp)).2
        have x3 : w8.cell? ⟨(gm + 1), 3, none⟩ = some (.int .i64 0) := (hbr8.2 3 (by simp)).1
        have xf3 : w8.frozen? ⟨(gm + 1), 3, none⟩ = false := (hbr8.2 3 (by simp)).2
        have x4 : w8.cell? ⟨(gm + 1), 4, none⟩ = some (.string ⟨#[]⟩) := (hbr8.2 4 (by simp)).1
        have xf4 : w8.frozen? ⟨(gm + 1), 4, none⟩ = false := (hbr8.2 4 (by simp)).2
        have x5 : w8.cell? ⟨(gm + 1), 5, none⟩ = some (.int .i64 0) := (hbr8.2 5 (by simp)).1
        have xf5 : w8.frozen? ⟨(gm + 1), 5, none⟩ = false := (hbr8.2 5 (by simp)).2
        have x6 : w8.cell? ⟨(gm + 1), 6, none⟩ = some (.int .i64 0) := (hbr8.2 6 (by simp)).1
        have xf6 : w8.frozen? ⟨(gm + 1), 6, none⟩ = false := (hbr8.2 6 (by simp)).2
        have xz := hbr8.lt
        go_wp2_with fail
        refine bodyPost_ret (v := .agg #[.int .i64 k2, .int .i64 e2f, .int .u64 e2b, .int .i64 e2l, .string e2t, .int .i64 e2c, .int .i64 e2p]) (by simp [results, Tryz.results98, go_sem, xz, x0, x1, x2, x3, x4, x5, x6]) rfl ?_
        refine ⟨o8, p8, rfl, ?_, ?_, hp8, hf8⟩
        · repeat (first | with_reducible exact H8.out | with_reducible refine RI.drew ?_ | with_reducible refine RI.loc ?_ hlr8.out _ _)
        · repeat (first | with_reducible exact Hm8.out | with_reducible refine MovI.drew ?_ | with_reducible refine MovI.setX ?_ (show w.heap.size ≤ gm + 1 by omega) _ _)
end Go.Proofs.YtpkofbdfnbpfpaaGreat.Num


/-
  The program's reader of messages: all fields up to a place, by how many bytes are left.
-/
namespace Go.Proofs.YtpkofbdfnbpfpaaGreat.Num
open Go.RowKit Go.Proofs
set_option linter.unusedVariables false
set_option linter.unusedSimpArgs false
set_option maxHeartbeats 8000000 in
set_option maxRecDepth 100000 in
theorem readMsg_step (n : Nat) (g bs bp L B : Nat) (u : Value) (Rt Mo : Int) (sch : List RM) (D : Int) (s : ByteArray) (hsch : Small sch) (hS : SchemaP sch) (hD : D ≤ 8) (hs : s.size ≤ 200000000) (IH : ∀ m, m < n → MsgCallI g bs bp L B u Rt Mo sch D s m) : MsgCallI g bs bp L B u Rt Mo sch D s n := by
  intro sh E d o p out w h hl hE hE63 hfu hd
  have hp := h.inn
  obtain ⟨M, hM⟩ : ∃ M, msgRd s sch D n sh E d ⟨p, out, zeroE⟩ = M := ⟨_, rfl⟩
  rw [hM]
  have HM := Lib.hid hM
  have HRF : Hid (∀ (G : Nat) (w : World) (o : Value) (p : Nat) (out : List Ev), G < n → RI w g bs bp L B u Rt Mo sch D s o p out → (p : Int) ≤ E → out.length ≤ 4 * p → s.size - p < G + 1 → Calls Tryz.prog 98 #[.pointer (some ⟨g, 0, none⟩), .agg #[.int .i64 sh, .int .i64 E, .int .i64 d]] w (PostI g bs bp L B u Rt Mo sch D s o (rdStep (msgRd s sch D G) G s sch D sh E d ⟨p, out, zeroE⟩) w)) := Lib.hid fun G w o p out hG h hpE hl hfu => readField_any G h (IH G hG) sh E d hsch hS ⟨hpE, hE63⟩ hs hl hfu hd hD
  have Hadv : Hid (∀ (G p : Nat) (out : List Ev), p ≤ s.size → (p : Int) ≤ E → Adv s E ⟨p, out, zeroE⟩ (rdStep (msgRd s sch D G) G s sch D sh E d ⟨p, out, zeroE⟩) ∧ ((rdStep (msgRd s sch D G) G s sch D sh E d ⟨p, out, zeroE⟩).fail.kind = 0 → p < (rdStep (msgRd s sch D G) G s sch D sh E d ⟨p, out, zeroE⟩).place)) := Lib.hid fun G p out h1 h2 => rdStep_adv (msgRd_adv (s := s) (sch := sch) (D := D) G) h1 h2 rfl
  have Hmore : Hid (∀ (gm p : Nat) (out : List Ev), (p : Int) < E → msgRd s sch D (gm + 1) sh E d ⟨p, out, zeroE⟩ = msgRd s sch D gm sh E d (rdStep (msgRd s sch D gm) gm s sch D sh E d ⟨p, out, zeroE⟩)) := Lib.hid fun gm p out h => msgRd_more ⟨h, rfl⟩
  have Hend : Hid (∀ (gm p : Nat) (out : List Ev), ¬ (p : Int) < E → msgRd s sch D gm sh E d ⟨p, out, zeroE⟩ = ⟨p, out, zeroE⟩) := Lib.hid fun gm p out h => msgRd_end (fun e => h e.1)
  have Hbad : Hid (∀ (gm : Nat) (r : RdM) (c a : Int), r.fail = failE c a → msgRd s sch D gm sh E d r = r) := Lib.hid fun gm r c a h => msgRd_end (fun e => by have h2 := e.2; rw [h] at h2; have h3 : (10 : Int) = 0 := h2; omega)
  have hb1 : Below w.heap.size w ((w.alloc (.cells #[.int .i64 sh, .int .i64 E, .int .i64 d] 87)).alloc (.cells #[.int .i64 0, .int .i64 0, .int .u64 0, .int .i64 0, .string ⟨#[]⟩, .int .i64 0, .int .i64 0] 34)) := ((Below.refl _ _).alloc (Nat.le_refl _) _).alloc (by simp) _
  have H1 := Lib.hid (h.below hb1)
  have Hm1 : Hid (MovI g bp o o w _) := Lib.hid (.of_below hb1)
  have hbm := Lib.hid ((Box.fresh w #[.int .i64 sh, .int .i64 E, .int .i64 d] 87).alloc (.cells #[.int .i64 0, .int .i64 0, .int .u64 0, .int .i64 0, .string ⟨#[]⟩, .int .i64 0, .int .i64 0] 34))
  have hbr : Hid (Box ((w.alloc (.cells #[.int .i64 sh, .int .i64 E, .int .i64 d] 87)).alloc (.cells #[.int .i64 0, .int .i64 0, .int .u64 0, .int .i64 0, .string ⟨#[]⟩, .int .i64 0, .int .i64 0] 34)) (w.heap.size + 1) [.int .i64 0, .int .i64 0, .int .u64 0, .int .i64 0, .string ⟨#[]⟩, .int .i64 0, .int .i64 0]) := Lib.hid Box.fresh2R
  have hlm := Lib.hid (h.fresh (Nat.le_refl w.heap.size))
  have hlr := Lib.hid (h.fresh (Nat.le_succ w.heap.size))
  clear h hb1 hM IH hsch hS
  go_enter Tryz.func64, Tryz.ntmps64
  go_wp2_with fail
  generalize (w.alloc (.cells #[.int .i64 sh, .int .i64 E, .int .i64 d] 87)).alloc (.cells #[.int .i64 0, .int .i64 0, .int .u64 0, .int .i64 0, .string ⟨#[]⟩, .int .i64 0, .int .i64 0] 34) = w1 at H1 Hm1 hbm hbr ⊢
  generalize hgm : w.heap.size = gm at hbm hbr hlm hlr ⊢
  go_loopg [] n (fun fu wr => ∃ (ok : Value) (pk : Nat) (outk : List Ev), fu ≤ n ∧ Hid (RI wr g bs bp L B u Rt Mo sch D s ok pk outk) ∧ Hid (msgRd s sch D fu sh E d ⟨pk, outk, zeroE⟩ = M) ∧ Hid (s.size - pk < fu) ∧ (pk : Int) ≤ E ∧ pk ≤ s.size ∧ outk.length ≤ 4 * pk ∧ Hid (Box wr gm [.int .i64 sh, .int .i64 E, .int .i64 d]) ∧ Hid (Box wr (gm + 1) [.int .i64 0, .int .i64 0, .int .u64 0, .int .i64 0, .string ⟨#[]⟩, .int .i64 0, .int .i64 0]) ∧ Hid (Loc g bs bp L gm ok) ∧ Hid (Loc g bs bp L (gm + 1) ok) ∧ Hid (MovI g bp o ok w wr))
  case atStart => exact ⟨o, p, out, Nat.le_refl _, H1, HM, Lib.hid hfu, hE, hp, hl, hbm, hbr, hlm, hlr, Hm1⟩
  case round =>
    clear H1 Hm1 hbm hbr hlm hlr HM hl hp hE
    obtain ⟨ok, pk, outk, hgn, HK, HMk, Hfk, hkE, hks, hkl, hbm, hbr, hlm, hlr, Hmk⟩ := hrel
    have HPl : Hid (∀ w, RI w g bs bp L B u Rt Mo sch D s ok pk outk → Calls Tryz.prog 93 #[.pointer (some ⟨bp, 0, none⟩)] w fun e w' => e = .returned (.int .i64 pk) ∧ w = w') := Lib.hid fun w h => place_any h
    obtain ⟨⟨c0, c1, c2, c3, c4, c5⟩, c5f, _⟩ := HK.out.cells
    have hgz := HK.out.lt.1
    unfold plF at c2
    have m0 : wr.cell? ⟨gm, 0, none⟩ = some (.int .i64 sh) := (hbm.out.2 0 (by simp)).1
    have mf0 : wr.frozen? ⟨gm, 0, none⟩ = false := (hbm.out.2 0 (by simp)).2
    have m1 : wr.cell? ⟨gm, 1, none⟩ = some (.int .i64 E) := (hbm.out.2 1 (by simp)).1
    have mf1 : wr.frozen? ⟨gm, 1, none⟩ = false := (hbm.out.2 1 (by simp)).2
    have m2 : wr.cell? ⟨gm, 2, none⟩ = some (.int .i64 d) := (hbm.out.2 2 (by simp)).1
    have mf2 : wr.frozen? ⟨gm, 2, none⟩ = false := (hbm.out.2 2 (by simp)).2
    have mz := hbm.out.lt
    by_cases hlt : (pk : Int) < E
    · have hltb : decide ((pk : Int) < E) = true := decide_eq_true hlt
      obtain ⟨G, rfl⟩ : ∃ G, gk = G + 1 := ⟨gk - 1, by have := Hfk.out; omega⟩
      have hM2 := HMk.out
      rw [Hmore.out _ _ _ hlt] at hM2
      obtain ⟨hadv, hst⟩ := Hadv.out G pk outk hks hkE
      have HNk : Hid (∀ w, RI w g bs bp L B u Rt Mo sch D s ok pk outk → Calls Tryz.prog 98 #[.pointer (some ⟨g, 0, none⟩), .agg #[.int .i64 sh, .int .i64 E, .int .i64 d]] w (PostI g bs bp L B u Rt Mo sch D s ok (rdStep (msgRd s sch D G) G s sch D sh E d ⟨pk, outk, zeroE⟩) w)) := Lib.hid fun w h => HRF.out G w ok pk outk (by omega) h hkE hkl (by have := Hfk.out; omega)
      generalize rdStep (msgRd s sch D G) G s sch D sh E d ⟨pk, outk, zeroE⟩ = r2 at hM2 hadv hst HNk
      obtain ⟨pl2, out2, ⟨k2, e2f, e2b, e2l, e2t, e2c, e2p⟩⟩ := r2
      unfold PostI evV at HNk
      simp only at HNk
      have HM2 := Lib.hid hM2
      have Hadv2 := Lib.hid hadv
      have Hst := Lib.hid hst
      clear hM2 hadv hst HMk HRF
      go_upto_region 1 with fail
      go_cut [14] (fun s14 wx => s14 = .bool true ∧ Hid (RI wx g bs bp L B u Rt Mo sch D s ok pk outk) ∧ Hid (MovI g bp o ok w wx) ∧ Hid (Box wx gm [.int .i64 sh, .int .i64 E, .int .i64 d]) ∧ Hid (Box wx (gm + 1) [.int .i64 0, .int .i64 0, .int .u64 0, .int .i64 0, .string ⟨#[]⟩, .int .i64 0, .int .i64 0]))
      case first =>
        go_region_with ((go_at_call 93; refine (HPl.out _ ?_).mono ?_; (first | exact HK.out.drew | exact (HK.out.drew.alloc _) | exact ((HK.out.alloc _).drew)); rintro _ _ ⟨rfl, rfl⟩))
        all_goals
          go_wp2_with fail
          go_meet
          exact ⟨rfl, Lib.hid HK.out.drew, Lib.hid Hmk.out.drew, Lib.hid hbm.out.drew, Lib.hid hbr.out.drew⟩
      case rest =>
      obtain ⟨rfl, H2, Hm2, Hbm2, Hbr2⟩ := hcut
      clear c0 c1 c2 c3 c4 c5 c5f m0 m1 m2 mf0 mf1 mf2 mz hbm hbr hgz HK Hmk HPl
      have m0 : wc.cell? ⟨gm, 0, none⟩ = some (.int .i64 sh) := (Hbm2.out.2 0 (by simp)).1
      have mf0 : wc.frozen? ⟨gm, 0, none⟩ = false := (Hbm2.out.2 0 (by simp)).2
      have m1 : wc.cell? ⟨gm, 1, none⟩ = some (.int .i64 E) := (Hbm2.out.2 1 (by simp)).1
      have mf1 : wc.frozen? ⟨gm, 1, none⟩ = false := (Hbm2.out.2 1 (by simp)).2
      have m2 : wc.cell? ⟨gm, 2, none⟩ = some (.int .i64 d) := (Hbm2.out.2 2 (by simp)).1
      have mf2 : wc.frozen? ⟨gm, 2, none⟩ = false := (Hbm2.out.2 2 (by simp)).2
      have mz := Hbm2.out.lt
      go_wp2_with fail
      refine (HNk.out _ H2.out).mono ?_
      rintro e w4 ⟨o4, p4, rfl, h4, hm4, hp4, hf4⟩
      have H4 := Lib.hid h4
      have Hm4 := Lib.hid (Hm2.out.trans hm4)
      have hbm4 := Lib.hid (hm4.keep Hbm2.out hlm.out)
      have hbr4 := Lib.hid (hm4.keep Hbr2.out hlr.out)
      have hlm4 := Lib.hid (hlm.out.moved Hbm2.out.lt hm4)
      have hlr4 := Lib.hid (hlr.out.moved Hbr2.out.lt hm4)
      have hwz := Hm4.out.size
      clear h4 hm4 m0 m1 m2 mf0 mf1 mf2 mz
      rcases hf4 with hz | ⟨c, a, hfa⟩
      · unfold zeroE at hz
        simp only [Ev.mk.injEq] at hz
        obtain ⟨rfl, rfl, rfl, rfl, rfl, rfl, rfl⟩ := hz
        obtain rfl : p4 = pl2 := hp4 rfl
        go_wp2_with fail
        refine (term_zero _).mono ?_
        rintro e w6 ⟨rfl, hb6⟩
        have hl6 := from_alloc hb6
        have H6 := Lib.hid (H4.out.below hl6)
        have Hm6 := Lib.hid (Hm4.out.trans (.of_below hl6))
        have Hbm6 := Lib.hid (hbm4.out.below hl6 hbm4.out.lt)
        have Hbr6 := Lib.hid (hbr4.out.below hl6 hbr4.out.lt)
        clear hb6 hl6
        go_wp2_with fail
        go_roundg G
        case measure => omega
        case rel => exact ⟨o4, p4, out2, by omega, H6, HM2, Lib.hid (by have h1 : pk < p4 := Hst.out (by trivial); have h2 : p4 ≤ s.size := Hadv2.out.inn; have := Hfk.out; omega), Hadv2.out.upto, Hadv2.out.inn, by have h4 : out2.length + 4 * pk ≤ outk.length + 4 * p4 := Hadv2.out.len; omega, Hbm6, Hbr6, hlm4, hlr4, Hm6⟩
      · unfold failE at hfa
        simp only [Ev.mk.injEq] at hfa
        obtain ⟨rfl, rfl, rfl, rfl, rfl, rfl, rfl⟩ := hfa
        have HM3 : Hid (M = ⟨pl2, out2, failE e2c e2p⟩) := Lib.hid (by rw [← HM2.out]; exact Hbad.out G _ e2c e2p rfl)
        clear HM2
        go_wp2_with fail
        refine (term_fail _ _ _).mono ?_
        rintro e w6 ⟨rfl, hb6⟩
        have hl6 := from_alloc hb6
        have H6 := Lib.hid (H4.out.below hl6)
        have Hm6 := Lib.hid (Hm4.out.trans (.of_below hl6))
        have hbr6 := hbr4.out.below hl6 hbr4.out.lt
        have hbt6 := (Box.fresh w4 #[.int .i64 10, .int .i64 0, .int .u64 0, .int .i64 0, .string ⟨#[]⟩, .int .i64 e2c, .int .i64 e2p] 34).below hb6 (Box.fresh _ _ _).lt
        clear hb6 hl6
        generalize w4.heap.size = gt at hbt6 hwz ⊢
        have t0 : w6.cell? ⟨gt, 0, none⟩ = some (.int .i64 10) := (hbt6.2 0 (by simp)).1
        have tf0 : w6.frozen? ⟨gt, 0, none⟩ = false := (hbt6.2 0 (by simp)).2
        have t1 : w6.cell? ⟨gt, 1, none⟩ = some (.int .i64 0) := (hbt6.2 1 (by simp)).1
        have tf1 : w6.frozen? ⟨gt, 1, none⟩ = false := (hbt6.2 1 (by simp)).2
        have t2 : w6.cell? ⟨gt, 2, none⟩ = some (.int .u64 0) := (hbt6.2 2 (by simp)).1
        have tf2 : w6.frozen? ⟨gt, 2, none⟩ = false := (hbt6.2 2 (by simp)).2
        have t3 : w6.cell? ⟨gt, 3, none⟩ = some (.int .i64 0) := (hbt6.2 3 (by simp)).1
        have tf3 : w6.frozen? ⟨gt, 3, none⟩ = false := (hbt6.2 3 (by simp)).2
        have t4 : w6.cell? ⟨gt, 4, none⟩ = some (.string ⟨#[]⟩) := (hbt6.2 4 (by simp)).1
        have tf4 : w6.frozen? ⟨gt, 4, none⟩ = false := (hbt6.2 4 (by simp)).2
        have t5 : w6.cell? ⟨gt, 5, none⟩ = some (.int .i64 e2c) := (hbt6.2 5 (by simp)).1
        have tf5 : w6.frozen? ⟨gt, 5, none⟩ = false := (hbt6.2 5 (by simp)).2
        have t6 : w6.cell? ⟨gt, 6, none⟩ = some (.int .i64 e2p) := (hbt6.2 6 (by simp)).1
        have tf6 : w6.frozen? ⟨gt, 6, none⟩ = false := (hbt6.2 6 (by simp)).2
        have tz := hbt6.lt
        have x0 : w6.cell? ⟨(gm + 1), 0, none⟩ = some (.int .i64 0) := (hbr6.2 0 (by simp)).1
        have xf0 : w6.frozen? ⟨(gm + 1), 0, none⟩ = false := (hbr6.2 0 (by simp)).2
        have x1 : w6.cell? ⟨(gm + 1), 1, none⟩ = some (.int .i64 0) := (hbr6.2 1 (by simp)).1
        have xf1 : w6.frozen? ⟨(gm + 1), 1, none⟩ = false := (hbr6.2 1 (by simp)).2
        have x2 : w6.cell? ⟨(gm + 1), 2, none⟩ = some (.int .u64 0) := (hbr6.2 2 (by simp)).1
        have xf2 : w6.frozen? ⟨(gm + 1), 2, none⟩ = false := (hbr6.2 2 (by simp)).2
        have x3 : w6.cell? ⟨(gm + 1), 3, none⟩ = some (.int .i64 0) := (hbr6.2 3 (by simp)).1
        have xf3 : w6.frozen? ⟨(gm + 1), 3, none⟩ = false := (hbr6.2 3 (by simp)).2
        have x4 : w6.cell? ⟨(gm + 1), 4, none⟩ = some (.string ⟨#[]⟩) := (hbr6.2 4 (by simp)).1
        have xf4 : w6.frozen? ⟨(gm + 1), 4, none⟩ = false := (hbr6.2 4 (by simp)).2
        have x5 : w6.cell? ⟨(gm + 1), 5, none⟩ = some (.int .i64 0) := (hbr6.2 5 (by simp)).1
        have xf5 : w6.frozen? ⟨(gm + 1), 5, none⟩ = false := (hbr6.2 5 (by simp)).2
        have x6 : w6.cell? ⟨(gm + 1), 6, none⟩ = some (.int .i64 0) := (hbr6.2 6 (by simp)).1
        have xf6 : w6.frozen? ⟨(gm + 1), 6, none⟩ = false := (hbr6.2 6 (by simp)).2
        have xz := hbr6.lt
        go_wp2_with fail
        refine bodyPost_ret (v := .agg #[.int .i64 10, .int .i64 0, .int .u64 0, .int .i64 0, .string ⟨#[]⟩, .int .i64 e2c, .int .i64 e2p]) (by simp [results, Tryz.results64, go_sem, xz, x0, x1, x2, x3, x4, x5, x6]) rfl ?_
        refine PostI.bad HM3.out (o' := o4) (p := p4) ?_ ?_
        · repeat (first | with_reducible exact H6.out | with_reducible refine RI.drew ?_ | with_reducible refine RI.loc ?_ hlr4.out _ _)
        · repeat (first | with_reducible exact Hm6.out | with_reducible refine MovI.drew ?_ | with_reducible refine MovI.setX ?_ (show w.heap.size ≤ gm + 1 by omega) _ _)
    · have hltb : decide ((pk : Int) < E) = false := decide_eq_false hlt
      have HM2 : Hid (M = ⟨pk, outk, zeroE⟩) := Lib.hid (by rw [← HMk.out]; exact Hend.out _ _ _ (by omega))
      clear HMk HRF
      go_upto_region 1 with fail
      go_cut [14] (fun s14 wx => s14 = .bool false ∧ Hid (RI wx g bs bp L B u Rt Mo sch D s ok pk outk) ∧ Hid (MovI g bp o ok w wx) ∧ Hid (Box wx gm [.int .i64 sh, .int .i64 E, .int .i64 d]) ∧ Hid (Box wx (gm + 1) [.int .i64 0, .int .i64 0, .int .u64 0, .int .i64 0, .string ⟨#[]⟩, .int .i64 0, .int .i64 0]))
      case first =>
        go_region_with ((go_at_call 93; refine (HPl.out _ ?_).mono ?_; (first | exact HK.out.drew | exact (HK.out.drew.alloc _) | exact ((HK.out.alloc _).drew)); rintro _ _ ⟨rfl, rfl⟩))
        all_goals
          go_wp2_with fail
          go_meet
          exact ⟨rfl, Lib.hid HK.out.drew, Lib.hid Hmk.out.drew, Lib.hid hbm.out.drew, Lib.hid hbr.out.drew⟩
      case rest =>
      obtain ⟨rfl, H2, Hm2, Hbm2, Hbr2⟩ := hcut
      clear c0 c1 c2 c3 c4 c5 c5f m0 m1 m2 mf0 mf1 mf2 mz hbm hbr hgz HK Hmk HPl
      have x0 : wc.cell? ⟨(gm + 1), 0, none⟩ = some (.int .i64 0) := (Hbr2.out.2 0 (by simp)).1
      have xf0 : wc.frozen? ⟨(gm + 1), 0, none⟩ = false := (Hbr2.out.2 0 (by simp)).2
      have x1 : wc.cell? ⟨(gm + 1), 1, none⟩ = some (.int .i64 0) := (Hbr2.out.2 1 (by simp)).1
      have xf1 : wc.frozen? ⟨(gm + 1), 1, none⟩ = false := (Hbr2.out.2 1 (by simp)).2
      have x2 : wc.cell? ⟨(gm + 1), 2, none⟩ = some (.int .u64 0) := (Hbr2.out.2 2 (by simp)).1
      have xf2 : wc.frozen? ⟨(gm + 1), 2, none⟩ = false := (Hbr2.out.2 2 (by simp)).2
      have x3 : wc.cell? ⟨(gm + 1), 3, none⟩ = some (.int .i64 0) := (Hbr2.out.2 3 (by simp)).1
      have xf3 : wc.frozen? ⟨(gm + 1), 3, none⟩ = false := (Hbr2.out.2 3 (by simp)).2
      have x4 : wc.cell? ⟨(gm + 1), 4, none⟩ = some (.string ⟨#[]⟩) := (Hbr2.out.2 4 (by simp)).1
      have xf4 : wc.frozen? ⟨(gm + 1), 4, none⟩ = false := (Hbr2.out.2 4 (by simp)).2
      have x5 : wc.cell? ⟨(gm + 1), 5, none⟩ = some (.int .i64 0) := (Hbr2.out.2 5 (by simp)).1
      have xf5 : wc.frozen? ⟨(gm + 1), 5, none⟩ = false := (Hbr2.out.2 5 (by simp)).2
      have x6 : wc.cell? ⟨(gm + 1), 6, none⟩ = some (.int .i64 0) := (Hbr2.out.2 6 (by simp)).1
      have xf6 : wc.frozen? ⟨(gm + 1), 6, none⟩ = false := (Hbr2.out.2 6 (by simp)).2
      have xz := Hbr2.out.lt
      go_wp2_with fail
      refine bodyPost_ret (v := .agg #[.int .i64 0, .int .i64 0, .int .u64 0, .int .i64 0, .string ⟨#[]⟩, .int .i64 0, .int .i64 0]) (by simp [results, Tryz.results64, go_sem, xz, x0, x1, x2, x3, x4, x5, x6]) rfl ?_
      refine PostI.good HM2.out (o' := ok) ?_ ?_
      · repeat (first | with_reducible exact H2.out | with_reducible refine RI.drew ?_ | with_reducible refine RI.loc ?_ hlr.out _ _)
      · repeat (first | with_reducible exact Hm2.out | with_reducible refine MovI.drew ?_ | with_reducible refine MovI.setX ?_ (show w.heap.size ≤ gm + 1 by omega) _ _)
theorem readMsg_any (g bs bp L B : Nat) (u : Value) (Rt Mo : Int) (sch : List RM) (D : Int) (s : ByteArray) (hsch : Small sch) (hS : SchemaP sch) (hD : D ≤ 8) (hs : s.size ≤ 200000000) : ∀ n, MsgCallI g bs bp L B u Rt Mo sch D s n :=
  fun n => Nat.strongRecOn n fun n ih => readMsg_step n g bs bp L B u Rt Mo sch D s hsch hS hD hs ih
end Go.Proofs.YtpkofbdfnbpfpaaGreat.Num

