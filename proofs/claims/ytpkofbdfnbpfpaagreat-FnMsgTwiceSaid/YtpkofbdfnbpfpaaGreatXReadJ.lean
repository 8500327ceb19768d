/-
  Several texts in one: ReadJ.
-/
import Derived.Test.YtpkofbdfnbpfpaaGreatXReadH
import Derived.Deep.QuietTactic

/-
  The program's reader of messages: a length is read, and what it tells of.
-/
namespace Go.Proofs.YtpkofbdfnbpfpaaGreat.Num
open Go.RowKit Go.Proofs
set_option linter.unusedVariables false
set_option linter.unusedSimpArgs false
set_option maxHeartbeats 8000000 in
set_option maxRecDepth 100000 in
theorem readLong_any (n : Nat) {w : World} {g bs bp L B p : Nat} {u o : Value} {sch : List RM} {D Rt Mo : Int} {s : ByteArray} {out : List Ev} (h : RI w g bs bp L B u Rt Mo sch D s o p out) (IH : MsgCallI g bs bp L B u Rt Mo sch D s n) (f : RF) (hf : FOk f) (sh E deep : Int) (hE : (p : Int) ≤ E ∧ E ≤ 9223372036854775807) (hs : s.size ≤ 200000000) (hl : out.length ≤ 4 * p) (hfu : s.size - p < n) (hd : 1 ≤ deep ∧ deep ≤ D) (hD : D ≤ 8) :
    Calls Tryz.prog 137 #[.pointer (some ⟨g, 0, none⟩), fieldV f, .agg #[.int .i64 sh, .int .i64 E, .int .i64 deep]] w (PostI g bs bp L B u Rt Mo sch D s o (rdLong (msgRd s sch D n) n s D f E deep ⟨p, out, zeroE⟩) w) := by
  have hp := h.inn
  have hC := numR_cases (x := 0) (E := E) (out := out) (.inl rfl) h.inn
  have hN : ∀ w, RI w g bs bp L B u Rt Mo sch D s o p out → Calls Tryz.prog 94 #[.int .i64 0, .int .i64 E, .pointer (some ⟨bs, 0, none⟩), .pointer (some ⟨bp, 0, none⟩)] w fun e w' =>
      e = .returned (.tuple #[.int .u64 (rdRaw s 0 E ⟨p, out, zeroE⟩).1, evV (rdRaw s 0 E ⟨p, out, zeroE⟩).2.fail]) ∧ RI w' g bs bp L B u Rt Mo sch D s o (rdRaw s 0 E ⟨p, out, zeroE⟩).2.place out ∧ MovI g bp o o w w' := fun w h => number_any h 0 E (.inl rfl) hE (by omega)
  have hQ : rdRaw s 0 E ⟨p, out, zeroE⟩ = rdVar s E ⟨p, out, zeroE⟩ := if_pos rfl
  obtain ⟨M, hM⟩ : ∃ M, rdLong (msgRd s sch D n) n s D f E deep ⟨p, out, zeroE⟩ = M := ⟨_, rfl⟩
  rw [hM]
  unfold rdLong at hM
  rw [show (⟨p, out, zeroE⟩ : RdM).place = p from rfl] at hM
  obtain ⟨A1, A2, A3, A4, A5⟩ := f
  unfold fieldV
  simp only
  have hb1 : Below w.heap.size w (((w.alloc (.cells #[.int .i64 A1, .int .i64 A2, .bool A3, .bool A4, .int .i64 A5] 117)).alloc (.cells #[.int .i64 sh, .int .i64 E, .int .i64 deep] 87)).alloc (.cells #[.int .i64 0, .int .i64 0, .int .u64 0, .int .i64 0, .string ⟨#[]⟩, .int .i64 0, .int .i64 0] 34)) := (((Below.refl _ _).alloc (Nat.le_refl _) _).alloc (by simp) _).alloc (by simp; omega) _
  have H1 := Lib.hid (h.below hb1)
  have Hm1 : Hid (MovI g bp o o w _) := Lib.hid (.of_below hb1)
  have hbf := Lib.hid (((Box.fresh w #[.int .i64 A1, .int .i64 A2, .bool A3, .bool A4, .int .i64 A5] 117).alloc (.cells #[.int .i64 sh, .int .i64 E, .int .i64 deep] 87)).alloc (.cells #[.int .i64 0, .int .i64 0, .int .u64 0, .int .i64 0, .string ⟨#[]⟩, .int .i64 0, .int .i64 0] 34))
  have hbm : Hid (Box (((w.alloc (.cells #[.int .i64 A1, .int .i64 A2, .bool A3, .bool A4, .int .i64 A5] 117)).alloc (.cells #[.int .i64 sh, .int .i64 E, .int .i64 deep] 87)).alloc (.cells #[.int .i64 0, .int .i64 0, .int .u64 0, .int .i64 0, .string ⟨#[]⟩, .int .i64 0, .int .i64 0] 34)) (w.heap.size + 1) [.int .i64 sh, .int .i64 E, .int .i64 deep]) := Lib.hid (Box.fresh2R.alloc _)
  have hbr : Hid (Box (((w.alloc (.cells #[.int .i64 A1, .int .i64 A2, .bool A3, .bool A4, .int .i64 A5] 117)).alloc (.cells #[.int .i64 sh, .int .i64 E, .int .i64 deep] 87)).alloc (.cells #[.int .i64 0, .int .i64 0, .int .u64 0, .int .i64 0, .string ⟨#[]⟩, .int .i64 0, .int .i64 0] 34)) (w.heap.size + 1 + 1) [.int .i64 0, .int .i64 0, .int .u64 0, .int .i64 0, .string ⟨#[]⟩, .int .i64 0, .int .i64 0]) := Lib.hid Box.fresh3R
  have hlf := Lib.hid (h.fresh (Nat.le_refl w.heap.size))
  have hlm := Lib.hid (h.fresh (Nat.le_succ w.heap.size))
  have hlr := Lib.hid (h.fresh (show w.heap.size ≤ w.heap.size + 1 + 1 by omega))
  have hwz : w.heap.size ≤ (((w.alloc (.cells #[.int .i64 A1, .int .i64 A2, .bool A3, .bool A4, .int .i64 A5] 117)).alloc (.cells #[.int .i64 sh, .int .i64 E, .int .i64 deep] 87)).alloc (.cells #[.int .i64 0, .int .i64 0, .int .u64 0, .int .i64 0, .string ⟨#[]⟩, .int .i64 0, .int .i64 0] 34)).heap.size := hb1.size
  have hzf : w.heap.size < (((w.alloc (.cells #[.int .i64 A1, .int .i64 A2, .bool A3, .bool A4, .int .i64 A5] 117)).alloc (.cells #[.int .i64 sh, .int .i64 E, .int .i64 deep] 87)).alloc (.cells #[.int .i64 0, .int .i64 0, .int .u64 0, .int .i64 0, .string ⟨#[]⟩, .int .i64 0, .int .i64 0] 34)).heap.size := hbf.out.lt
  have hzm : w.heap.size + 1 < (((w.alloc (.cells #[.int .i64 A1, .int .i64 A2, .bool A3, .bool A4, .int .i64 A5] 117)).alloc (.cells #[.int .i64 sh, .int .i64 E, .int .i64 deep] 87)).alloc (.cells #[.int .i64 0, .int .i64 0, .int .u64 0, .int .i64 0, .string ⟨#[]⟩, .int .i64 0, .int .i64 0] 34)).heap.size := hbm.out.lt
  have hzr : w.heap.size + 1 + 1 < (((w.alloc (.cells #[.int .i64 A1, .int .i64 A2, .bool A3, .bool A4, .int .i64 A5] 117)).alloc (.cells #[.int .i64 sh, .int .i64 E, .int .i64 deep] 87)).alloc (.cells #[.int .i64 0, .int .i64 0, .int .u64 0, .int .i64 0, .string ⟨#[]⟩, .int .i64 0, .int .i64 0] 34)).heap.size := hbr.out.lt
  have Hlt := Lib.hid (H1.out.fresh (Nat.le_refl _))
  clear h hb1
  rcases hC with ⟨v, a, c, hc, _, hq⟩ | ⟨U, P, _, hq, hP1, hP2, hP3, hU⟩
  · rw [hq] at hN
    rw [hQ] at hq
    rw [hq] at hM
    have HM2 : Hid (M = ⟨p, out, failE c a⟩) := Lib.hid (by rw [← hM]; unfold rdLong2; rw [if_pos (by show ¬ (10 : Int) = 0; decide)])
    have HN := Lib.hid hN
    clear hN hQ hc hM
    unfold evV failE at HN
    simp only at HN
    obtain ⟨⟨c0, c1, c2, c3, c4, c5⟩, c5f, _⟩ := H1.out.cells
    have hgz := H1.out.lt.1
    unfold plF at c2
    go_enter Tryz.func137, Tryz.ntmps137
    go_wp2_with fail
    refine (place_any H1.out).mono ?_
    rintro e _ ⟨rfl, rfl⟩
    clear c0 c1 c2 c3 c4 c5 c5f hgz
    generalize ((w.alloc (.cells #[.int .i64 A1, .int .i64 A2, .bool A3, .bool A4, .int .i64 A5] 117)).alloc (.cells #[.int .i64 sh, .int .i64 E, .int .i64 deep] 87)).alloc (.cells #[.int .i64 0, .int .i64 0, .int .u64 0, .int .i64 0, .string ⟨#[]⟩, .int .i64 0, .int .i64 0] 34) = w1 at H1 Hm1 hbf hbm hbr hwz hzf hzm hzr Hlt ⊢
    generalize hgf : w.heap.size = gf at hbf hbm hbr hlf hlm hlr hzf hzm hzr
    have m0 : w1.cell? ⟨(gf + 1), 0, none⟩ = some (.int .i64 sh) := (hbm.out.2 0 (by simp)).1
    have mf0 : w1.frozen? ⟨(gf + 1), 0, none⟩ = false := (hbm.out.2 0 (by simp)).2
    have m1 : w1.cell? ⟨(gf + 1), 1, none⟩ = some (.int .i64 E) := (hbm.out.2 1 (by simp)).1
    have mf1 : w1.frozen? ⟨(gf + 1), 1, none⟩ = false := (hbm.out.2 1 (by simp)).2
    have m2 : w1.cell? ⟨(gf + 1), 2, none⟩ = some (.int .i64 deep) := (hbm.out.2 2 (by simp)).1
    have mf2 : w1.frozen? ⟨(gf + 1), 2, none⟩ = false := (hbm.out.2 2 (by simp)).2
    have mz := hbm.out.lt
    obtain ⟨⟨c0, c1, c2, c3, c4, c5⟩, c5f, _⟩ := H1.out.cells
    have hgz := H1.out.lt.1
    unfold nuF at c3
    go_upto_region 2 with fail
    go_cut [8, 9] (fun s8 s9 wx => ∃ gt : Nat, s8 = .int .u64 0 ∧ s9 = .pointer (some ⟨gt, 0, none⟩) ∧ gf + 1 + 1 < gt ∧ Hid (RI wx g bs bp L B u Rt Mo sch D s o p out) ∧ Hid (MovI g bp o o w wx) ∧ Hid (Box wx gf [.int .i64 A1, .int .i64 A2, .bool A3, .bool A4, .int .i64 A5]) ∧ Hid (Box wx (gf + 1) [.int .i64 sh, .int .i64 E, .int .i64 deep]) ∧ Hid (Box wx (gf + 1 + 1) [.int .i64 0, .int .i64 0, .int .u64 0, .int .i64 0, .string ⟨#[]⟩, .int .i64 0, .int .i64 0]) ∧ Hid (Box wx gt [.int .i64 10, .int .i64 0, .int .u64 0, .int .i64 0, .string ⟨#[]⟩, .int .i64 c, .int .i64 a]))
    case first =>
      go_region_with ((go_at_call 94; refine (HN.out _ ?_).mono ?_; (first | exact H1.out.drew | exact (H1.out.drew.alloc _) | exact ((H1.out.alloc _).drew)); rintro e w4 ⟨rfl, h4, hm4⟩; have h4 := Lib.hid h4; have hm4' : Hid (MovI g bp o o w w4) := Lib.hid (by first | exact Hm1.out.drew.trans hm4 | exact (Hm1.out.drew.alloc _).trans hm4 | exact (Hm1.out.alloc _).drew.trans hm4); have hbf4 : Hid (Box w4 gf [.int .i64 A1, .int .i64 A2, .bool A3, .bool A4, .int .i64 A5]) := Lib.hid (by first | exact hm4.keep hbf.out.drew hlf.out | exact hm4.keep (hbf.out.drew.alloc _) hlf.out | exact hm4.keep (hbf.out.alloc _).drew hlf.out); have hlf4 : Hid (Loc g bs bp L gf o) := Lib.hid (by first | exact hlf.out.moved hbf.out.drew.lt hm4 | exact hlf.out.moved (hbf.out.drew.alloc _).lt hm4 | exact hlf.out.moved (hbf.out.alloc _).drew.lt hm4); have hbm4 : Hid (Box w4 (gf + 1) [.int .i64 sh, .int .i64 E, .int .i64 deep]) := Lib.hid (by first | exact hm4.keep hbm.out.drew hlm.out | exact hm4.keep (hbm.out.drew.alloc _) hlm.out | exact hm4.keep (hbm.out.alloc _).drew hlm.out); have hlm4 : Hid (Loc g bs bp L (gf + 1) o) := Lib.hid (by first | exact hlm.out.moved hbm.out.drew.lt hm4 | exact hlm.out.moved (hbm.out.drew.alloc _).lt hm4 | exact hlm.out.moved (hbm.out.alloc _).drew.lt hm4); have hbr4 : Hid (Box w4 (gf + 1 + 1) [.int .i64 0, .int .i64 0, .int .u64 0, .int .i64 0, .string ⟨#[]⟩, .int .i64 0, .int .i64 0]) := Lib.hid (by first | exact hm4.keep hbr.out.drew hlr.out | exact hm4.keep (hbr.out.drew.alloc _) hlr.out | exact hm4.keep (hbr.out.alloc _).drew hlr.out); have hlr4 : Hid (Loc g bs bp L (gf + 1 + 1) o) := Lib.hid (by first | exact hlr.out.moved hbr.out.drew.lt hm4 | exact hlr.out.moved (hbr.out.drew.alloc _).lt hm4 | exact hlr.out.moved (hbr.out.alloc _).drew.lt hm4); (try have hlt4 : Hid (Loc g bs bp L w1.heap.size o) := Lib.hid (Hlt.out.moved (fresh_lt' w1 _) hm4)); (try have hbt4 : Hid (Box w4 w1.heap.size [.int .i64 0, .int .i64 0, .int .u64 0, .int .i64 0, .string ⟨#[]⟩, .int .i64 0, .int .i64 0]) := Lib.hid (hm4.keep ((Box.fresh w1 #[.int .i64 0, .int .i64 0, .int .u64 0, .int .i64 0, .string ⟨#[]⟩, .int .i64 0, .int .i64 0] 34).drew) Hlt.out); obtain ⟨⟨q0, q1, q2, q3, q4, q5, q6⟩, t0, t1, t2, t3, t4, t5, t6⟩ := hbt4.out.sevenE; have hzt4 := hbt4.out.lt); clear hm4))
      all_goals
        clear c0 c1 c2 c3 c4 c5 c5f m0 m1 m2 mf0 mf1 mf2 mz
        first
          | (have KK := endB7 h4.out hm4'.out hbt4.out hlt4.out hwz (.int .i64 10) (.int .i64 0) (.int .u64 0) (.int .i64 0) (.string ⟨#[]⟩) (.int .i64 c) (.int .i64 a)
             obtain ⟨K0, Kb, K3, K4⟩ := KK
             clear q0 q1 q2 q3 q4 q5 q6 t0 t1 t2 t3 t4 t5 t6 hzt4 hbt4 hlt4
             generalize ((((((w4.setCell ⟨w1.heap.size, 0, none⟩ (.int .i64 10)).setCell ⟨w1.heap.size, 1, none⟩ (.int .i64 0)).setCell ⟨w1.heap.size, 2, none⟩ (.int .u64 0)).setCell ⟨w1.heap.size, 3, none⟩ (.int .i64 0)).setCell ⟨w1.heap.size, 4, none⟩ (.string ⟨#[]⟩)).setCell ⟨w1.heap.size, 5, none⟩ (.int .i64 c)).setCell ⟨w1.heap.size, 6, none⟩ (.int .i64 a) = w5 at K0 Kb K3 K4 ⊢
             generalize hgt : w1.heap.size = gt at K3 Kb ⊢)
          | (have KK := endA7 w1.heap.size h4.out hm4'.out #[.int .i64 10, .int .i64 0, .int .u64 0, .int .i64 0, .string ⟨#[]⟩, .int .i64 c, .int .i64 a] 34
             obtain ⟨K0, Kb, K3, K4⟩ := KK
             generalize w4.alloc (.cells #[.int .i64 10, .int .i64 0, .int .u64 0, .int .i64 0, .string ⟨#[]⟩, .int .i64 c, .int .i64 a] 34) = w5 at K0 Kb K3 K4 ⊢
             generalize hgt : w4.heap.size = gt at K3 ⊢)
        have H5 := Lib.hid K0
        have Hm5 := Lib.hid K4
        have Ht5 := Lib.hid K3
        have Hbf5 : Hid (Box w5 gf [.int .i64 A1, .int .i64 A2, .bool A3, .bool A4, .int .i64 A5]) := Lib.hid (Kb _ _ (by omega) hbf4.out)
        have Hbm5 : Hid (Box w5 (gf + 1) [.int .i64 sh, .int .i64 E, .int .i64 deep]) := Lib.hid (Kb _ _ (by omega) hbm4.out)
        have Hbr5 : Hid (Box w5 (gf + 1 + 1) [.int .i64 0, .int .i64 0, .int .u64 0, .int .i64 0, .string ⟨#[]⟩, .int .i64 0, .int .i64 0]) := Lib.hid (Kb _ _ (by omega) hbr4.out)
        clear K0 Kb K3 K4 h4
        go_wp2_with fail
        go_meet
        exact ⟨gt, rfl, rfl, by have := hbr4.out.lt; omega, H5, Hm5, Hbf5, Hbm5, Hbr5, Ht5⟩
    case rest =>
    obtain ⟨gt, rfl, rfl, hgt, H5, Hm5, Hbf5, Hbm5, Hbr5, Ht5⟩ := hcut
    clear c0 c1 c2 c3 c4 c5 c5f m0 m1 m2 mf0 mf1 mf2 mz hbf hbm hbr hwz hzf hzm hzr hgz H1 Hm1 Hlt
    have t0 : wc.cell? ⟨gt, 0, none⟩ = some (.int .i64 10) := (Ht5.out.2 0 (by simp)).1
    have tf0 : wc.frozen? ⟨gt, 0, none⟩ = false := (Ht5.out.2 0 (by simp)).2
    have t1 : wc.cell? ⟨gt, 1, none⟩ = some (.int .i64 0) := (Ht5.out.2 1 (by simp)).1
    have tf1 : wc.frozen? ⟨gt, 1, none⟩ = false := (Ht5.out.2 1 (by simp)).2
    have t2 : wc.cell? ⟨gt, 2, none⟩ = some (.int .u64 0) := (Ht5.out.2 2 (by simp)).1
    have tf2 : wc.frozen? ⟨gt, 2, none⟩ = false := (Ht5.out.2 2 (by simp)).2
    have t3 : wc.cell? ⟨gt, 3, none⟩ = some (.int .i64 0) := (Ht5.out.2 3 (by simp)).1
    have tf3 : wc.frozen? ⟨gt, 3, none⟩ = false := (Ht5.out.2 3 (by simp)).2
    have t4 : wc.cell? ⟨gt, 4, none⟩ = some (.string ⟨#[]⟩) := (Ht5.out.2 4 (by simp)).1
    have tf4 : wc.frozen? ⟨gt, 4, none⟩ = false := (Ht5.out.2 4 (by simp)).2
    have t5 : wc.cell? ⟨gt, 5, none⟩ = some (.int .i64 c) := (Ht5.out.2 5 (by simp)).1
    have tf5 : wc.frozen? ⟨gt, 5, none⟩ = false := (Ht5.out.2 5 (by simp)).2
    have t6 : wc.cell? ⟨gt, 6, none⟩ = some (.int .i64 a) := (Ht5.out.2 6 (by simp)).1
    have tf6 : wc.frozen? ⟨gt, 6, none⟩ = false := (Ht5.out.2 6 (by simp)).2
    have tz := Ht5.out.lt
    go_wp2_with fail
    refine (term_fail c a _).mono ?_
    rintro e w6 ⟨rfl, hb6⟩
    have H6 := Lib.hid (H5.out.below hb6)
    have Hm6 := Lib.hid (Hm5.out.trans (.of_below hb6))
    have hbr6 := Hbr5.out.below hb6 Hbr5.out.lt
    have hbt6 := Ht5.out.below hb6 Ht5.out.lt
    clear hb6 t0 tf0 t1 tf1 t2 tf2 t3 tf3 t4 tf4 t5 tf5 t6 tf6 tz
    have t0 : w6.cell? ⟨gt, 0, none⟩ = some (.int .i64 10) := (hbt6.2 0 (by simp)).1
    have tf0 : w6.frozen? ⟨gt, 0, none⟩ = false := (hbt6.2 0 (by simp)).2
    have t1 : w6.cell? ⟨gt, 1, none⟩ = some (.int .i64 0) := (hbt6.2 1 (by simp)).1
    have tf1 : w6.frozen? ⟨gt, 1, none⟩ = false := (hbt6.2 1 (by simp)).2
    have t2 : w6.cell? ⟨gt, 2, none⟩ = some (.int .u64 0) := (hbt6.2 2 (by simp)).1
    have tf2 : w6.frozen? ⟨gt, 2, none⟩ = false := (hbt6.2 2 (by simp)).2
    have t3 : w6.cell? ⟨gt, 3, none⟩ = some (.int .i64 0) := (hbt6.2 3 (by simp)).1
    have tf3 : w6.frozen? ⟨gt, 3, none⟩ = false := (hbt6.2 3 (by simp)).2
    have t4 : w6.cell? ⟨gt, 4, none⟩ = some (.string ⟨#[]⟩) := (hbt6.2 4 (by simp)).1
    have tf4 : w6.frozen? ⟨gt, 4, none⟩ = false := (hbt6.2 4 (by simp)).2
    have t5 : w6.cell? ⟨gt, 5, none⟩ = some (.int .i64 c) := (hbt6.2 5 (by simp)).1
    have tf5 : w6.frozen? ⟨gt, 5, none⟩ = false := (hbt6.2 5 (by simp)).2
    have t6 : w6.cell? ⟨gt, 6, none⟩ = some (.int .i64 a) := (hbt6.2 6 (by simp)).1
    have tf6 : w6.frozen? ⟨gt, 6, none⟩ = false := (hbt6.2 6 (by simp)).2
    have tz := hbt6.lt
    have x0 : w6.cell? ⟨(gf + 1 + 1), 0, none⟩ = some (.int .i64 0) := (hbr6.2 0 (by simp)).1
    have xf0 : w6.frozen? ⟨(gf + 1 + 1), 0, none⟩ = false := (hbr6.2 0 (by simp)).2
    have x1 : w6.cell? ⟨(gf + 1 + 1), 1, none⟩ = some (.int .i64 0) := (hbr6.2 1 (by simp)).1
    have xf1 : w6.frozen? ⟨(gf + 1 + 1), 1, none⟩ = false := (hbr6.2 1 (by simp)).2
    have x2 : w6.cell? ⟨(gf + 1 + 1), 2, none⟩ = some (.int .u64 0) := (hbr6.2 2 (by simp)).1
    have xf2 : w6.frozen? ⟨(gf + 1 + 1), 2, none⟩ = false := (hbr6.2 2 (by simp)).2
    have x3 : w6.cell? ⟨(gf + 1 + 1), 3, none⟩ = some (.int .i64 0) := (hbr6.2 3 (by simp)).1
    have xf3 : w6.frozen? ⟨(gf + 1 + 1), 3, none⟩ = false := (hbr6.2 3 (by simp)).2
    have x4 : w6.cell? ⟨(gf + 1 + 1), 4, none⟩ = some (.string ⟨#[]⟩) := (hbr6.2 4 (by simp)).1
    have xf4 : w6.frozen? ⟨(gf + 1 + 1), 4, none⟩ = false := (hbr6.2 4 (by simp)).2
    have x5 : w6.cell? ⟨(gf + 1 + 1), 5, none⟩ = some (.int .i64 0) := (hbr6.2 5 (by simp)).1
    have xf5 : w6.frozen? ⟨(gf + 1 + 1), 5, none⟩ = false := (hbr6.2 5 (by simp)).2
    have x6 : w6.cell? ⟨(gf + 1 + 1), 6, none⟩ = some (.int .i64 0) := (hbr6.2 6 (by simp)).1
    have xf6 : w6.frozen? ⟨(gf + 1 + 1), 6, none⟩ = false := (hbr6.2 6 (by simp)).2
    have xz := hbr6.lt
    go_wp2_with fail
    refine bodyPost_ret (v := .agg #[.int .i64 10, .int .i64 0, .int .u64 0, .int .i64 0, .string ⟨#[]⟩, .int .i64 c, .int .i64 a]) (by simp [results, Tryz.results137, go_sem, xz, x0, x1, x2, x3, x4, x5, x6]) rfl ?_
    refine PostI.bad HM2.out (o' := o) (p := p) ?_ ?_
    · repeat (first | with_reducible exact H6.out | with_reducible refine RI.drew ?_ | with_reducible refine RI.loc ?_ hlr.out _ _)
    · repeat (first | with_reducible exact Hm6.out | with_reducible refine MovI.drew ?_ | with_reducible refine MovI.setX ?_ (show w.heap.size ≤ gf + 1 + 1 by omega) _ _)
  · rw [hq] at hN
    rw [hQ] at hq
    rw [hq] at hM
    have HN := Lib.hid hN
    clear hN hQ
    unfold evV zeroE at HN
    simp only at HN
    unfold rdLong2 at hM
    rw [if_neg (by show ¬ ¬ (0 : Int) = 0; decide)] at hM
    rw [show (⟨P, out, zeroE⟩ : RdM).place = P from rfl] at hM
    simp only at hM
    have HM := Lib.hid hM
    clear hM
    have hwE : IntKind.i64.wrap (E - (P : Int)) = E - (P : Int) := IntWalk.i64_in _ (by omega)
    have hwE2 : IntKind.u64.wrap (E - (P : Int)) = E - (P : Int) := by rw [IntKind.wrap_u64]; omega
    obtain ⟨⟨c0, c1, c2, c3, c4, c5⟩, c5f, _⟩ := H1.out.cells
    have hgz := H1.out.lt.1
    unfold plF at c2
    go_enter Tryz.func137, Tryz.ntmps137
    go_wp2_with fail
    refine (place_any H1.out).mono ?_
    rintro e _ ⟨rfl, rfl⟩
    clear c0 c1 c2 c3 c4 c5 c5f hgz
    generalize ((w.alloc (.cells #[.int .i64 A1, .int .i64 A2, .bool A3, .bool A4, .int .i64 A5] 117)).alloc (.cells #[.int .i64 sh, .int .i64 E, .int .i64 deep] 87)).alloc (.cells #[.int .i64 0, .int .i64 0, .int .u64 0, .int .i64 0, .string ⟨#[]⟩, .int .i64 0, .int .i64 0] 34) = w1 at H1 Hm1 hbf hbm hbr hwz hzf hzm hzr Hlt ⊢
    generalize hgf : w.heap.size = gf at hbf hbm hbr hlf hlm hlr hzf hzm hzr
    have m0 : w1.cell? ⟨(gf + 1), 0, none⟩ = some (.int .i64 sh) := (hbm.out.2 0 (by simp)).1
    have mf0 : w1.frozen? ⟨(gf + 1), 0, none⟩ = false := (hbm.out.2 0 (by simp)).2
    have m1 : w1.cell? ⟨(gf + 1), 1, none⟩ = some (.int .i64 E) := (hbm.out.2 1 (by simp)).1
    have mf1 : w1.frozen? ⟨(gf + 1), 1, none⟩ = false := (hbm.out.2 1 (by simp)).2
    have m2 : w1.cell? ⟨(gf + 1), 2, none⟩ = some (.int .i64 deep) := (hbm.out.2 2 (by simp)).1
    have mf2 : w1.frozen? ⟨(gf + 1), 2, none⟩ = false := (hbm.out.2 2 (by simp)).2
    have mz := hbm.out.lt
    obtain ⟨⟨c0, c1, c2, c3, c4, c5⟩, c5f, _⟩ := H1.out.cells
    have hgz := H1.out.lt.1
    unfold nuF at c3
    go_upto_region 2 with fail
    go_cut [8, 9] (fun s8 s9 wx => ∃ gt : Nat, s8 = .int .u64 U ∧ s9 = .pointer (some ⟨gt, 0, none⟩) ∧ gf + 1 + 1 < gt ∧ Hid (RI wx g bs bp L B u Rt Mo sch D s o P out) ∧ Hid (MovI g bp o o w wx) ∧ Hid (Box wx gf [.int .i64 A1, .int .i64 A2, .bool A3, .bool A4, .int .i64 A5]) ∧ Hid (Box wx (gf + 1) [.int .i64 sh, .int .i64 E, .int .i64 deep]) ∧ Hid (Box wx (gf + 1 + 1) [.int .i64 0, .int .i64 0, .int .u64 0, .int .i64 0, .string ⟨#[]⟩, .int .i64 0, .int .i64 0]) ∧ Hid (Box wx gt [.int .i64 0, .int .i64 0, .int .u64 0, .int .i64 0, .string ⟨#[]⟩, .int .i64 0, .int .i64 0]))
    case first =>
      go_region_with ((go_at_call 94; refine (HN.out _ ?_).mono ?_; (first | exact H1.out.drew | exact (H1.out.drew.alloc _) | exact ((H1.out.alloc _).drew)); rintro e w4 ⟨rfl, h4, hm4⟩; have h4 := Lib.hid h4; have hm4' : Hid (MovI g bp o o w w4) := Lib.hid (by first | exact Hm1.out.drew.trans hm4 | exact (Hm1.out.drew.alloc _).trans hm4 | exact (Hm1.out.alloc _).drew.trans hm4); have hbf4 : Hid (Box w4 gf [.int .i64 A1, .int .i64 A2, .bool A3, .bool A4, .int .i64 A5]) := Lib.hid (by first | exact hm4.keep hbf.out.drew hlf.out | exact hm4.keep (hbf.out.drew.alloc _) hlf.out | exact hm4.keep (hbf.out.alloc _).drew hlf.out); have hlf4 : Hid (Loc g bs bp L gf o) := Lib.hid (by first | exact hlf.out.moved hbf.out.drew.lt hm4 | exact hlf.out.moved (hbf.out.drew.alloc _).lt hm4 | exact hlf.out.moved (hbf.out.alloc _).drew.lt hm4); have hbm4 : Hid (Box w4 (gf + 1) [.int .i64 sh, .int .i64 E, .int .i64 deep]) := Lib.hid (by first | exact hm4.keep hbm.out.drew hlm.out | exact hm4.keep (hbm.out.drew.alloc _) hlm.out | exact hm4.keep (hbm.out.alloc _).drew hlm.out); have hlm4 : Hid (Loc g bs bp L (gf + 1) o) := Lib.hid (by first | exact hlm.out.moved hbm.out.drew.lt hm4 | exact hlm.out.moved (hbm.out.drew.alloc _).lt hm4 | exact hlm.out.moved (hbm.out.alloc _).drew.lt hm4); have hbr4 : Hid (Box w4 (gf + 1 + 1) [.int .i64 0, .int .i64 0, .int .u64 0, .int .i64 0, .string ⟨#[]⟩, .int .i64 0, .int .i64 0]) := Lib.hid (by first | exact hm4.keep hbr.out.drew hlr.out | exact hm4.keep (hbr.out.drew.alloc _) hlr.out | exact hm4.keep (hbr.out.alloc _).drew hlr.out); have hlr4 : Hid (Loc g bs bp L (gf + 1 + 1) o) := Lib.hid (by first | exact hlr.out.moved hbr.out.drew.lt hm4 | exact hlr.out.moved (hbr.out.drew.alloc _).lt hm4 | exact hlr.out.moved (hbr.out.alloc _).drew.lt hm4); (try have hlt4 : Hid (Loc g bs bp L w1.heap.size o) := Lib.hid (Hlt.out.moved (fresh_lt' w1 _) hm4)); (try have hbt4 : Hid (Box w4 w1.heap.size [.int .i64 0, .int .i64 0, .int .u64 0, .int .i64 0, .string ⟨#[]⟩, .int .i64 0, .int .i64 0]) := Lib.hid (hm4.keep ((Box.fresh w1 #[.int .i64 0, .int .i64 0, .int .u64 0, .int .i64 0, .string ⟨#[]⟩, .int .i64 0, .int .i64 0] 34).drew) Hlt.out); obtain ⟨⟨q0, q1, q2, q3, q4, q5, q6⟩, t0, t1, t2, t3, t4, t5, t6⟩ := hbt4.out.sevenE; have hzt4 := hbt4.out.lt); clear hm4))
      all_goals
        clear c0 c1 c2 c3 c4 c5 c5f m0 m1 m2 mf0 mf1 mf2 mz
        first
          | (have KK := endB7 h4.out hm4'.out hbt4.out hlt4.out hwz (.int .i64 0) (.int .i64 0) (.int .u64 0) (.int .i64 0) (.string ⟨#[]⟩) (.int .i64 0) (.int .i64 0)
             obtain ⟨K0, Kb, K3, K4⟩ := KK
             clear q0 q1 q2 q3 q4 q5 q6 t0 t1 t2 t3 t4 t5 t6 hzt4 hbt4 hlt4
             generalize ((((((w4.setCell ⟨w1.heap.size, 0, none⟩ (.int .i64 0)).setCell ⟨w1.heap.size, 1, none⟩ (.int .i64 0)).setCell ⟨w1.heap.size, 2, none⟩ (.int .u64 0)).setCell ⟨w1.heap.size, 3, none⟩ (.int .i64 0)).setCell ⟨w1.heap.size, 4, none⟩ (.string ⟨#[]⟩)).setCell ⟨w1.heap.size, 5, none⟩ (.int .i64 0)).setCell ⟨w1.heap.size, 6, none⟩ (.int .i64 0) = w5 at K0 Kb K3 K4 ⊢
             generalize hgt : w1.heap.size = gt at K3 Kb ⊢)
          | (have KK := endA7 w1.heap.size h4.out hm4'.out #[.int .i64 0, .int .i64 0, .int .u64 0, .int .i64 0, .string ⟨#[]⟩, .int .i64 0, .int .i64 0] 34
             obtain ⟨K0, Kb, K3, K4⟩ := KK
             generalize w4.alloc (.cells #[.int .i64 0, .int .i64 0, .int .u64 0, .int .i64 0, .string ⟨#[]⟩, .int .i64 0, .int .i64 0] 34) = w5 at K0 Kb K3 K4 ⊢
             generalize hgt : w4.heap.size = gt at K3 ⊢)
        have H5 := Lib.hid K0
        have Hm5 := Lib.hid K4
        have Ht5 := Lib.hid K3
        have Hbf5 : Hid (Box w5 gf [.int .i64 A1, .int .i64 A2, .bool A3, .bool A4, .int .i64 A5]) := Lib.hid (Kb _ _ (by omega) hbf4.out)
        have Hbm5 : Hid (Box w5 (gf + 1) [.int .i64 sh, .int .i64 E, .int .i64 deep]) := Lib.hid (Kb _ _ (by omega) hbm4.out)
        have Hbr5 : Hid (Box w5 (gf + 1 + 1) [.int .i64 0, .int .i64 0, .int .u64 0, .int .i64 0, .string ⟨#[]⟩, .int .i64 0, .int .i64 0]) := Lib.hid (Kb _ _ (by omega) hbr4.out)
        clear K0 Kb K3 K4 h4
        go_wp2_with fail
        go_meet
        exact ⟨gt, rfl, rfl, by have := hbr4.out.lt; omega, H5, Hm5, Hbf5, Hbm5, Hbr5, Ht5⟩
    case rest =>
    obtain ⟨gt, rfl, rfl, hgt, H5, Hm5, Hbf5, Hbm5, Hbr5, Ht5⟩ := hcut
    clear c0 c1 c2 c3 c4 c5 c5f m0 m1 m2 mf0 mf1 mf2 mz hbf hbm hbr hwz hzf hzm hzr hgz H1 Hm1 Hlt
    have t0 : wc.cell? ⟨gt, 0, none⟩ = some (.int .i64 0) := (Ht5.out.2 0 (by simp)).1
    have tf0 : wc.frozen? ⟨gt, 0, none⟩ = false := (Ht5.out.2 0 (by simp)).2
    have t1 : wc.cell? ⟨gt, 1, none⟩ = some (.int .i64 0) := (Ht5.out.2 1 (by simp)).1
    have tf1 : wc.frozen? ⟨gt, 1, none⟩ = false := (Ht5.out.2 1 (by simp)).2
    have t2 : wc.cell? ⟨gt, 2, none⟩ = some (.int .u64 0) := (Ht5.out.2 2 (by simp)).1
    have tf2 : wc.frozen? ⟨gt, 2, none⟩ = false := (Ht5.out.2 2 (by simp)).2
    have t3 : wc.cell? ⟨gt, 3, none⟩ = some (.int .i64 0) := (Ht5.out.2 3 (by simp)).1
    have tf3 : wc.frozen? ⟨gt, 3, none⟩ = false := (Ht5.out.2 3 (by simp)).2
    have t4 : wc.cell? ⟨gt, 4, none⟩ = some (.string ⟨#[]⟩) := (Ht5.out.2 4 (by simp)).1
    have tf4 : wc.frozen? ⟨gt, 4, none⟩ = false := (Ht5.out.2 4 (by simp)).2
    have t5 : wc.cell? ⟨gt, 5, none⟩ = some (.int .i64 0) := (Ht5.out.2 5 (by simp)).1
    have tf5 : wc.frozen? ⟨gt, 5, none⟩ = false := (Ht5.out.2 5 (by simp)).2
    have t6 : wc.cell? ⟨gt, 6, none⟩ = some (.int .i64 0) := (Ht5.out.2 6 (by simp)).1
    have tf6 : wc.frozen? ⟨gt, 6, none⟩ = false := (Ht5.out.2 6 (by simp)).2
    have tz := Ht5.out.lt
    go_wp2_with fail
    refine (term_zero _).mono ?_
    rintro e w6 ⟨rfl, hb6⟩
    have H6 := Lib.hid (H5.out.below hb6)
    have Hm6 := Lib.hid (Hm5.out.trans (.of_below hb6))
    have hbf := Lib.hid (Hbf5.out.below hb6 Hbf5.out.lt)
    have hbm := Lib.hid (Hbm5.out.below hb6 Hbm5.out.lt)
    have hbr := Lib.hid (Hbr5.out.below hb6 Hbr5.out.lt)
    clear hb6 t0 tf0 t1 tf1 t2 tf2 t3 tf3 t4 tf4 t5 tf5 t6 tf6 tz Hbf5 Hbm5 Hbr5 Hm5 H5 Ht5 hgt
    have m0 : w6.cell? ⟨(gf + 1), 0, none⟩ = some (.int .i64 sh) := (hbm.out.2 0 (by simp)).1
    have mf0 : w6.frozen? ⟨(gf + 1), 0, none⟩ = false := (hbm.out.2 0 (by simp)).2
    have m1 : w6.cell? ⟨(gf + 1), 1, none⟩ = some (.int .i64 E) := (hbm.out.2 1 (by simp)).1
    have mf1 : w6.frozen? ⟨(gf + 1), 1, none⟩ = false := (hbm.out.2 1 (by simp)).2
    have m2 : w6.cell? ⟨(gf + 1), 2, none⟩ = some (.int .i64 deep) := (hbm.out.2 2 (by simp)).1
    have mf2 : w6.frozen? ⟨(gf + 1), 2, none⟩ = false := (hbm.out.2 2 (by simp)).2
    have mz := hbm.out.lt
    obtain ⟨⟨c0, c1, c2, c3, c4, c5⟩, c5f, _⟩ := H6.out.cells
    have hgz := H6.out.lt.1
    unfold plF at c2
    have HPl : Hid (∀ w, RI w g bs bp L B u Rt Mo sch D s o P out → Calls Tryz.prog 93 #[.pointer (some ⟨bp, 0, none⟩)] w fun e w' => e = .returned (.int .i64 P) ∧ w = w') := Lib.hid fun w h => place_any h
    by_cases hlen : E - (P : Int) < (U : Int)
    · have HM2 : Hid (M = ⟨P, out, failE 8 p⟩) := Lib.hid (by rw [← HM.out, if_pos hlen]; rfl)
      have hlenb : decide (E - (P : Int) < (U : Int)) = true := decide_eq_true hlen
      go_upto_region 5 with fail
      go_cut [42] (fun s42 wx => s42 = .bool true ∧ Hid (RI wx g bs bp L B u Rt Mo sch D s o P out) ∧ Hid (MovI g bp o o w wx) ∧ Hid (Box wx gf [.int .i64 A1, .int .i64 A2, .bool A3, .bool A4, .int .i64 A5]) ∧ Hid (Box wx (gf + 1) [.int .i64 sh, .int .i64 E, .int .i64 deep]) ∧ Hid (Box wx (gf + 1 + 1) [.int .i64 0, .int .i64 0, .int .u64 0, .int .i64 0, .string ⟨#[]⟩, .int .i64 0, .int .i64 0]))
      case first =>
        go_region_with (first | (go_at_call 93; refine (HPl.out _ ?_).mono ?_; (first | exact H6.out.drew | exact (H6.out.drew.alloc _) | exact ((H6.out.alloc _).drew)); rintro _ _ ⟨rfl, rfl⟩))
        all_goals
          go_wp2_with fail
          go_meet
          exact ⟨rfl, Lib.hid H6.out.drew, Lib.hid Hm6.out.drew, Lib.hid hbf.out.drew, Lib.hid hbm.out.drew, Lib.hid hbr.out.drew⟩
      case rest =>
      obtain ⟨rfl, H7, Hm7, Hbf7, Hbm7, Hbr7⟩ := hcut
      clear c0 c1 c2 c3 c4 c5 c5f m0 m1 m2 mf0 mf1 mf2 mz hbf hbm hbr hgz H6 Hm6 HPl
      go_wp2_with fail
      refine (failure_any 8 p _).mono ?_
      rw [fail_evV]
      rintro e w8 ⟨rfl, hb8⟩
      have H8 := Lib.hid (H7.out.below hb8)
      have Hm8 := Lib.hid (Hm7.out.trans (.of_below hb8))
      have hbr8 := Hbr7.out.below hb8 Hbr7.out.lt
      clear hb8
      have x0 : w8.cell? ⟨(gf + 1 + 1), 0, none⟩ = some (.int .i64 0) := (hbr8.2 0 (by simp)).1
      have xf0 : w8.frozen? ⟨(gf + 1 + 1), 0, none⟩ = false := (hbr8.2 0 (by simp)).2
      have x1 : w8.cell? ⟨(gf + 1 + 1), 1, none⟩ = some (.int .i64 0) := (hbr8.2 1 (by simp)).1
      have xf1 : w8.frozen? ⟨(gf + 1 + 1), 1, none⟩ = false := (hbr8.2 1 (by simp)).2
      have x2 : w8.cell? ⟨(gf + 1 + 1), 2, none⟩ = some (.int .u64 0) := (hbr8.2 2 (by simp)).1
      have xf2 : w8.frozen? ⟨(gf + 1 + 1), 2, none⟩ = false := (hbr8.2 2 (by simp)).2
      have x3 : w8.cell? ⟨(gf + 1 + 1), 3, none⟩ = some (.int .i64 0) := (hbr8.2 3 (by simp)).1
      have xf3 : w8.frozen? ⟨(gf + 1 + 1), 3, none⟩ = false := (hbr8.2 3 (by simp)).2
      have x4 : w8.cell? ⟨(gf + 1 + 1), 4, none⟩ = some (.string ⟨#[]⟩) := (hbr8.2 4 (by simp)).1
      have xf4 : w8.frozen? ⟨(gf + 1 + 1), 4, none⟩ = false := (hbr8.2 4 (by simp)).2
      have x5 : w8.cell? ⟨(gf + 1 + 1), 5, none⟩ = some (.int .i64 0) := (hbr8.2 5 (by simp)).1
      have xf5 : w8.frozen? ⟨(gf + 1 + 1), 5, none⟩ = false := (hbr8.2 5 (by simp)).2
      have x6 : w8.cell? ⟨(gf + 1 + 1), 6, none⟩ = some (.int .i64 0) := (hbr8.2 6 (by simp)).1
      have xf6 : w8.frozen? ⟨(gf + 1 + 1), 6, none⟩ = false := (hbr8.2 6 (by simp)).2
      have xz := hbr8.lt
      go_wp2_with fail
      refine bodyPost_ret (v := .agg #[.int .i64 10, .int .i64 0, .int .u64 0, .int .i64 0, .string ⟨#[]⟩, .int .i64 8, .int .i64 p]) (by simp [results, Tryz.results137, go_sem, xz, x0, x1, x2, x3, x4, x5, x6]) rfl ?_
      refine PostI.bad HM2.out (o' := o) (p := P) ?_ ?_
      · repeat (first | with_reducible exact H8.out | with_reducible refine RI.drew ?_ | with_reducible refine RI.loc ?_ hlr.out _ _)
      · repeat (first | with_reducible exact Hm8.out | with_reducible refine MovI.drew ?_ | with_reducible refine MovI.setX ?_ (show w.heap.size ≤ gf + 1 + 1 by omega) _ _)
    · have HMb : Hid (rdBody (msgRd s sch D n) n s D (A1, A2, A3, A4, A5) p U deep ⟨P, out, zeroE⟩ = M) := Lib.hid (by rw [← HM.out, if_neg hlen, Int.toNat_natCast])
      have hlenb : decide (E - (P : Int) < (U : Int)) = false := decide_eq_false hlen
      have hlen2 : (U : Int) ≤ E - P := by omega
      have hwU : IntKind.i64.wrap (U : Int) = (U : Int) := IntWalk.i64_in _ (by omega)
      clear HM
      go_upto_region 5 with fail
      go_cut [42] (fun s42 wx => s42 = .bool false ∧ Hid (RI wx g bs bp L B u Rt Mo sch D s o P out) ∧ Hid (MovI g bp o o w wx) ∧ Hid (Box wx gf [.int .i64 A1, .int .i64 A2, .bool A3, .bool A4, .int .i64 A5]) ∧ Hid (Box wx (gf + 1) [.int .i64 sh, .int .i64 E, .int .i64 deep]) ∧ Hid (Box wx (gf + 1 + 1) [.int .i64 0, .int .i64 0, .int .u64 0, .int .i64 0, .string ⟨#[]⟩, .int .i64 0, .int .i64 0]))
      case first =>
        go_region_with (first | (go_at_call 93; refine (HPl.out _ ?_).mono ?_; (first | exact H6.out.drew | exact (H6.out.drew.alloc _) | exact ((H6.out.alloc _).drew)); rintro _ _ ⟨rfl, rfl⟩))
        all_goals
          go_wp2_with fail
          go_meet
          exact ⟨rfl, Lib.hid H6.out.drew, Lib.hid Hm6.out.drew, Lib.hid hbf.out.drew, Lib.hid hbm.out.drew, Lib.hid hbr.out.drew⟩
      case rest =>
      obtain ⟨rfl, H7, Hm7, Hbf7, Hbm7, Hbr7⟩ := hcut
      clear c0 c1 c2 c3 c4 c5 c5f m0 m1 m2 mf0 mf1 mf2 mz hbf hbm hbr hgz H6 Hm6 HPl
      clear hlen
      have f0 : wc.cell? ⟨gf, 0, none⟩ = some (.int .i64 A1) := (Hbf7.out.2 0 (by simp)).1
      have ff0 : wc.frozen? ⟨gf, 0, none⟩ = false := (Hbf7.out.2 0 (by simp)).2
      have f1 : wc.cell? ⟨gf, 1, none⟩ = some (.int .i64 A2) := (Hbf7.out.2 1 (by simp)).1
      have ff1 : wc.frozen? ⟨gf, 1, none⟩ = false := (Hbf7.out.2 1 (by simp)).2
      have f2 : wc.cell? ⟨gf, 2, none⟩ = some (.bool A3) := (Hbf7.out.2 2 (by simp)).1
      have ff2 : wc.frozen? ⟨gf, 2, none⟩ = false := (Hbf7.out.2 2 (by simp)).2
      have f3 : wc.cell? ⟨gf, 3, none⟩ = some (.bool A4) := (Hbf7.out.2 3 (by simp)).1
      have ff3 : wc.frozen? ⟨gf, 3, none⟩ = false := (Hbf7.out.2 3 (by simp)).2
      have f4 : wc.cell? ⟨gf, 4, none⟩ = some (.int .i64 A5) := (Hbf7.out.2 4 (by simp)).1
      have ff4 : wc.frozen? ⟨gf, 4, none⟩ = false := (Hbf7.out.2 4 (by simp)).2
      have fz := Hbf7.out.lt
      have m0 : wc.cell? ⟨(gf + 1), 0, none⟩ = some (.int .i64 sh) := (Hbm7.out.2 0 (by simp)).1
      have mf0 : wc.frozen? ⟨(gf + 1), 0, none⟩ = false := (Hbm7.out.2 0 (by simp)).2
      have m1 : wc.cell? ⟨(gf + 1), 1, none⟩ = some (.int .i64 E) := (Hbm7.out.2 1 (by simp)).1
      have mf1 : wc.frozen? ⟨(gf + 1), 1, none⟩ = false := (Hbm7.out.2 1 (by simp)).2
      have m2 : wc.cell? ⟨(gf + 1), 2, none⟩ = some (.int .i64 deep) := (Hbm7.out.2 2 (by simp)).1
      have mf2 : wc.frozen? ⟨(gf + 1), 2, none⟩ = false := (Hbm7.out.2 2 (by simp)).2
      have mz := Hbm7.out.lt
      obtain ⟨⟨c0, c1, c2, c3, c4, c5⟩, c5f, _⟩ := H7.out.cells
      have hgz := H7.out.lt.1
      have hlr7 := Hbr7.out.lt
      have HF := Lib.hid hf
      rcases hf with hf0 | ⟨hf1, hf2, hf3⟩
      · injection hf0 with e1 e2
        injection e2 with e2 e3
        injection e3 with e3 e4
        injection e4 with e4 e5
        subst e1; subst e2; subst e3; subst e4; subst e5
        have HR := H7
        have HRm := Hm7
        have HRr := Hbr7
        have HL : Hid (∀ w, RI w g bs bp L B u Rt Mo sch D s o P out → Calls Tryz.prog 164 #[.pointer (some ⟨g, 0, none⟩), .int .i64 U] w (PostI g bs bp L B u Rt Mo sch D s o M w)) := Lib.hid fun w h => by
          rw [← HMb.out]
          exact (by have h9 := skip_any h U (by omega) (by omega); unfold rdBody; rw [if_pos (by rfl)]; exact h9)
        clear HMb IH HN
        obtain ⟨plM, outM, ⟨k2, e2f, e2b, e2l, e2t, e2c, e2p⟩⟩ := M
        unfold PostI evV at HL
        simp only at HL
        go_wp2_with fail
        refine (HL.out _ HR.out).mono ?_
        rintro e w8 ⟨o8, p8, rfl, h8', hm8, hp8, hf8⟩
        have H8 := Lib.hid h8'
        have Hm8 := Lib.hid (HRm.out.trans hm8)
        have hlr8 := Lib.hid (hlr.out.moved HRr.out.lt hm8)
        have hbr8 := hm8.keep HRr.out hlr.out
        clear h8' hm8
        have x0 : w8.cell? ⟨(gf + 1 + 1), 0, none⟩ = some (.int .i64 0) := (hbr8.2 0 (by simp)).1
        have xf0 : w8.frozen? ⟨(gf + 1 + 1), 0, none⟩ = false := (hbr8.2 0 (by simp)).2
        have x1 : w8.cell? ⟨(gf + 1 + 1), 1, none⟩ = some (.int .i64 0) := (hbr8.2 1 (by simp)).1
        have xf1 : w8.frozen? ⟨(gf + 1 + 1), 1, none⟩ = false := (hbr8.2 1 (by simp)).2
        have x2 : w8.cell? ⟨(gf + 1 + 1), 2, none⟩ = some (.int .u64 0) := (hbr8.2 2 (by simp)).1
        have xf2 : w8.frozen? ⟨(gf + 1 + 1), 2, none⟩ = false := (hbr8.2 2 (by simp)).2
        have x3 : w8.cell? ⟨(gf + 1 + 1), 3, none⟩ = some (.int .i64 0) := (hbr8.2 3 (by simp)).1
        have xf3 : w8.frozen? ⟨(gf + 1 + 1), 3, none⟩ = false := (hbr8.2 3 (by simp)).2
        have x4 : w8.cell? ⟨(gf + 1 + 1), 4, none⟩ = some (.string ⟨#[]⟩) := (hbr8.2 4 (by simp)).1
        have xf4 : w8.frozen? ⟨(gf + 1 + 1), 4, none⟩ = false := (hbr8.2 4 (by simp)).2
        have x5 : w8.cell? ⟨(gf + 1 + 1), 5, none⟩ = some (.int .i64 0) := (hbr8.2 5 (by simp)).1
        have xf5 : w8.frozen? ⟨(gf + 1 + 1), 5, none⟩ = false := (hbr8.2 5 (by simp)).2
        have x6 : w8.cell? ⟨(gf + 1 + 1), 6, none⟩ = some (.int .i64 0) := (hbr8.2 6 (by simp)).1
        have xf6 : w8.frozen? ⟨(gf + 1 + 1), 6, none⟩ = false := (hbr8.2 6 (by simp)).2
        have xz := hbr8.lt
        go_wp2_with fail
        refine bodyPost_ret (v := .agg #[.int .i64 k2, .int .i64 e2f, .int .u64 e2b, .int .i64 e2l, .string e2t, .int .i64 e2c, .int .i64 e2p]) (by simp [results, Tryz.results137, go_sem, xz, x0, x1, x2, x3, x4, x5, x6]) rfl ?_
        refine ⟨o8, p8, rfl, ?_, ?_, hp8, hf8⟩
        · repeat (first | with_reducible exact H8.out | with_reducible refine RI.drew ?_ | with_reducible refine RI.loc ?_ hlr8.out _ _)
        · repeat (first | with_reducible exact Hm8.out | with_reducible refine MovI.drew ?_ | with_reducible refine MovI.setX ?_ (show w.heap.size ≤ gf + 1 + 1 by omega) _ _)
      · replace hf1 : 1 ≤ A1 := hf1
        replace hf2 : 1 ≤ A2 := hf2
        replace hf3 : A2 ≤ 8 := hf3
        have h1b : (A1 == 0) = false := neI (by omega)
        by_cases h8 : A2 = 8
        · have h8b : (A2 == 8) = true := by simp [h8]
          by_cases hdD : deep = D
          · have hdb : (deep == D) = true := by simp [hdD]
            have HM2 : Hid (M = ⟨P, out, failE 6 p⟩) := Lib.hid (by rw [← HMb.out]; unfold rdBody; rw [if_neg (by show ¬ A1 = 0; omega), if_pos (by exact h8), if_pos (by omega)]; rfl)
            go_upto_region 10 with fail
            go_quiet (fail)
            have hbq : Below wc.heap.size wc (wc.drewN nq) := ⟨rfl, rfl, rfl, Nat.le_refl _, fun _ _ => rfl⟩
            have HR := Lib.hid (H7.out.below hbq)
            have HRm := Lib.hid (Hm7.out.trans (.of_below hbq))
            have HRf := Lib.hid (Hbf7.out.below hbq Hbf7.out.lt)
            have HRn := Lib.hid (Hbm7.out.below hbq Hbm7.out.lt)
            have HRr := Lib.hid (Hbr7.out.below hbq Hbr7.out.lt)
            generalize wc.drewN nq = wq at HR HRm HRf HRn HRr ⊢
            clear f0 ff0 f1 ff1 f2 ff2 f3 ff3 f4 ff4 fz m0 m1 m2 mf0 mf1 mf2 mz c0 c1 c2 c3 c4 c5 c5f hgz
            have f0 : wq.cell? ⟨gf, 0, none⟩ = some (.int .i64 A1) := (HRf.out.2 0 (by simp)).1
            have ff0 : wq.frozen? ⟨gf, 0, none⟩ = false := (HRf.out.2 0 (by simp)).2
            have f1 : wq.cell? ⟨gf, 1, none⟩ = some (.int .i64 A2) := (HRf.out.2 1 (by simp)).1
            have ff1 : wq.frozen? ⟨gf, 1, none⟩ = false := (HRf.out.2 1 (by simp)).2
            have f2 : wq.cell? ⟨gf, 2, none⟩ = some (.bool A3) := (HRf.out.2 2 (by simp)).1
            have ff2 : wq.frozen? ⟨gf, 2, none⟩ = false := (HRf.out.2 2 (by simp)).2
            have f3 : wq.cell? ⟨gf, 3, none⟩ = some (.bool A4) := (HRf.out.2 3 (by simp)).1
            have ff3 : wq.frozen? ⟨gf, 3, none⟩ = false := (HRf.out.2 3 (by simp)).2
            have f4 : wq.cell? ⟨gf, 4, none⟩ = some (.int .i64 A5) := (HRf.out.2 4 (by simp)).1
            have ff4 : wq.frozen? ⟨gf, 4, none⟩ = false := (HRf.out.2 4 (by simp)).2
            have fz := HRf.out.lt
            have m0 : wq.cell? ⟨(gf + 1), 0, none⟩ = some (.int .i64 sh) := (HRn.out.2 0 (by simp)).1
            have mf0 : wq.frozen? ⟨(gf + 1), 0, none⟩ = false := (HRn.out.2 0 (by simp)).2
            have m1 : wq.cell? ⟨(gf + 1), 1, none⟩ = some (.int .i64 E) := (HRn.out.2 1 (by simp)).1
            have mf1 : wq.frozen? ⟨(gf + 1), 1, none⟩ = false := (HRn.out.2 1 (by simp)).2
            have m2 : wq.cell? ⟨(gf + 1), 2, none⟩ = some (.int .i64 deep) := (HRn.out.2 2 (by simp)).1
            have mf2 : wq.frozen? ⟨(gf + 1), 2, none⟩ = false := (HRn.out.2 2 (by simp)).2
            have mz := HRn.out.lt
            go_wp2_with fail
            refine (failure_any 6 p _).mono ?_
            rw [fail_evV]
            rintro e w8 ⟨rfl, hb8⟩
            have H8 := Lib.hid (HR.out.below hb8)
            have Hm8 := Lib.hid (HRm.out.trans (.of_below hb8))
            have hbr8 := HRr.out.below hb8 HRr.out.lt
            clear hb8
            have x0 : w8.cell? ⟨(gf + 1 + 1), 0, none⟩ = some (.int .i64 0) := (hbr8.2 0 (by simp)).1
            have xf0 : w8.frozen? ⟨(gf + 1 + 1), 0, none⟩ = false := (hbr8.2 0 (by simp)).2
            have x1 : w8.cell? ⟨(gf + 1 + 1), 1, none⟩ = some (.int .i64 0) := (hbr8.2 1 (by simp)).1
            have xf1 : w8.frozen? ⟨(gf + 1 + 1), 1, none⟩ = false := (hbr8.2 1 (by simp)).2
            have x2 : w8.cell? ⟨(gf + 1 + 1), 2, none⟩ = some (.int .u64 0) := (hbr8.2 2 (by simp)).1
            have xf2 : w8.frozen? ⟨(gf + 1 + 1), 2, none⟩ = false := (hbr8.2 2 (by simp)).2
            have x3 : w8.cell? ⟨(gf + 1 + 1), 3, none⟩ = some (.int .i64 0) := (hbr8.2 3 (by simp)).1
            have xf3 : w8.frozen? ⟨(gf + 1 + 1), 3, none⟩ = false := (hbr8.2 3 (by simp)).2
            have x4 : w8.cell? ⟨(gf + 1 + 1), 4, none⟩ = some (.string ⟨#[]⟩) := (hbr8.2 4 (by simp)).1
            have xf4 : w8.frozen? ⟨(gf + 1 + 1), 4, none⟩ = false := (hbr8.2 4 (by simp)).2
            have x5 : w8.cell? ⟨(gf + 1 + 1), 5, none⟩ = some (.int .i64 0) := (hbr8.2 5 (by simp)).1
            have xf5 : w8.frozen? ⟨(gf + 1 + 1), 5, none⟩ = false := (hbr8.2 5 (by simp)).2
            have x6 : w8.cell? ⟨(gf + 1 + 1), 6, none⟩ = some (.int .i64 0) := (hbr8.2 6 (by simp)).1
            have xf6 : w8.frozen? ⟨(gf + 1 + 1), 6, none⟩ = false := (hbr8.2 6 (by simp)).2
            have xz := hbr8.lt
            go_wp2_with fail
            refine bodyPost_ret (v := .agg #[.int .i64 10, .int .i64 0, .int .u64 0, .int .i64 0, .string ⟨#[]⟩, .int .i64 6, .int .i64 p]) (by simp [results, Tryz.results137, go_sem, xz, x0, x1, x2, x3, x4, x5, x6]) rfl ?_
            refine PostI.bad HM2.out (o' := o) (p := P) ?_ ?_
            · repeat (first | with_reducible exact H8.out | with_reducible refine RI.drew ?_ | with_reducible refine RI.loc ?_ hlr.out _ _)
            · repeat (first | with_reducible exact Hm8.out | with_reducible refine MovI.drew ?_ | with_reducible refine MovI.setX ?_ (show w.heap.size ≤ gf + 1 + 1 by omega) _ _)
          · have hdb : (deep == D) = false := neI hdD
            have hwd : IntKind.i64.wrap (deep + 1) = deep + 1 := IntWalk.i64_in _ (by omega)
            subst h8
            go_upto_region 10 with fail
            go_quiet (fail)
            have hbq : Below wc.heap.size wc (wc.drewN nq) := ⟨rfl, rfl, rfl, Nat.le_refl _, fun _ _ => rfl⟩
            have HR := Lib.hid (H7.out.below hbq)
            have HRm := Lib.hid (Hm7.out.trans (.of_below hbq))
            have HRf := Lib.hid (Hbf7.out.below hbq Hbf7.out.lt)
            have HRn := Lib.hid (Hbm7.out.below hbq Hbm7.out.lt)
            have HRr := Lib.hid (Hbr7.out.below hbq Hbr7.out.lt)
            generalize wc.drewN nq = wq at HR HRm HRf HRn HRr ⊢
            clear f0 ff0 f1 ff1 f2 ff2 f3 ff3 f4 ff4 fz m0 m1 m2 mf0 mf1 mf2 mz c0 c1 c2 c3 c4 c5 c5f hgz
            have f0 : wq.cell? ⟨gf, 0, none⟩ = some (.int .i64 A1) := (HRf.out.2 0 (by simp)).1
            have ff0 : wq.frozen? ⟨gf, 0, none⟩ = false := (HRf.out.2 0 (by simp)).2
            have f1 : wq.cell? ⟨gf, 1, none⟩ = some (.int .i64 8) := (HRf.out.2 1 (by simp)).1
            have ff1 : wq.frozen? ⟨gf, 1, none⟩ = false := (HRf.out.2 1 (by simp)).2
            have f2 : wq.cell? ⟨gf, 2, none⟩ = some (.bool A3) := (HRf.out.2 2 (by simp)).1
            have ff2 : wq.frozen? ⟨gf, 2, none⟩ = false := (HRf.out.2 2 (by simp)).2
            have f3 : wq.cell? ⟨gf, 3, none⟩ = some (.bool A4) := (HRf.out.2 3 (by simp)).1
            have ff3 : wq.frozen? ⟨gf, 3, none⟩ = false := (HRf.out.2 3 (by simp)).2
            have f4 : wq.cell? ⟨gf, 4, none⟩ = some (.int .i64 A5) := (HRf.out.2 4 (by simp)).1
            have ff4 : wq.frozen? ⟨gf, 4, none⟩ = false := (HRf.out.2 4 (by simp)).2
            have fz := HRf.out.lt
            have m0 : wq.cell? ⟨(gf + 1), 0, none⟩ = some (.int .i64 sh) := (HRn.out.2 0 (by simp)).1
            have mf0 : wq.frozen? ⟨(gf + 1), 0, none⟩ = false := (HRn.out.2 0 (by simp)).2
            have m1 : wq.cell? ⟨(gf + 1), 1, none⟩ = some (.int .i64 E) := (HRn.out.2 1 (by simp)).1
            have mf1 : wq.frozen? ⟨(gf + 1), 1, none⟩ = false := (HRn.out.2 1 (by simp)).2
            have m2 : wq.cell? ⟨(gf + 1), 2, none⟩ = some (.int .i64 deep) := (HRn.out.2 2 (by simp)).1
            have mf2 : wq.frozen? ⟨(gf + 1), 2, none⟩ = false := (HRn.out.2 2 (by simp)).2
            have mz := HRn.out.lt
            have HL : Hid (∀ w, RI w g bs bp L B u Rt Mo sch D s o P out → Calls Tryz.prog 165 #[.pointer (some ⟨g, 0, none⟩), .agg #[.int .i64 A1, .int .i64 8, .bool A3, .bool A4, .int .i64 A5], .int .i64 U, .int .i64 (deep + 1)] w (PostI g bs bp L B u Rt Mo sch D s o M w)) := Lib.hid fun w h => by
              rw [← HMb.out]
              exact (by have h9 := readNested_any n h IH (A1, 8, A3, A4, A5) U (deep + 1) (by omega) hs (by omega) (by omega) (by omega); unfold nestR at h9; unfold rdBody; rw [if_neg (by show ¬ A1 = 0; omega), if_pos (by rfl), if_neg (by omega)]; exact h9)
            clear HMb IH HN
            obtain ⟨plM, outM, ⟨k2, e2f, e2b, e2l, e2t, e2c, e2p⟩⟩ := M
            unfold PostI evV at HL
            simp only at HL
            go_wp2_with fail
            refine (HL.out _ HR.out).mono ?_
            rintro e w8 ⟨o8, p8, rfl, h8', hm8, hp8, hf8⟩
            have H8 := Lib.hid h8'
            have Hm8 := Lib.hid (HRm.out.trans hm8)
            have hlr8 := Lib.hid (hlr.out.moved HRr.out.lt hm8)
            have hbr8 := hm8.keep HRr.out hlr.out
            clear h8' hm8
            have x0 : w8.cell? ⟨(gf + 1 + 1), 0, none⟩ = some (.int .i64 0) := (hbr8.2 0 (by simp)).1
            have xf0 : w8.frozen? ⟨(gf + 1 + 1), 0, none⟩ = false := (hbr8.2 0 (by simp)).2
            have x1 : w8.cell? ⟨(gf + 1 + 1), 1, none⟩ = some (.int .i64 0) := (hbr8.2 1 (by simp)).1
            have xf1 : w8.frozen? ⟨(gf + 1 + 1), 1, none⟩ = false := (hbr8.2 1 (by simp)).2
            have x2 : w8.cell? ⟨(gf + 1 + 1), 2, none⟩ = some (.int .u64 0) := (hbr8.2 2 (by simp)).1
            have xf2 : w8.frozen? ⟨(gf + 1 + 1), 2, none⟩ = false := (hbr8.2 2 (by simp)).2
            have x3 : w8.cell? ⟨(gf + 1 + 1), 3, none⟩ = some (.int .i64 0) := (hbr8.2 3 (by simp)).1
            have xf3 : w8.frozen? ⟨(gf + 1 + 1), 3, none⟩ = false := (hbr8.2 3 (by simp)).2
            have x4 : w8.cell? ⟨(gf + 1 + 1), 4, none⟩ = some (.string ⟨#[]⟩) := (hbr8.2 4 (by simp)).1
            have xf4 : w8.frozen? ⟨(gf + 1 + 1), 4, none⟩ = false := (hbr8.2 4 (by simp)).2
            have x5 : w8.cell? ⟨(gf + 1 + 1), 5, none⟩ = some (.int .i64 0) := (hbr8.2 5 (by simp)).1
            have xf5 : w8.frozen? ⟨(gf + 1 + 1), 5, none⟩ = false := (hbr8.2 5 (by simp)).2
            have x6 : w8.cell? ⟨(gf + 1 + 1), 6, none⟩ = some (.int .i64 0) := (hbr8.2 6 (by simp)).1
            have xf6 : w8.frozen? ⟨(gf + 1 + 1), 6, none⟩ = false := (hbr8.2 6 (by simp)).2
            have xz := hbr8.lt
            go_wp2_with fail
            refine bodyPost_ret (v := .agg #[.int .i64 k2, .int .i64 e2f, .int .u64 e2b, .int .i64 e2l, .string e2t, .int .i64 e2c, .int .i64 e2p]) (by simp [results, Tryz.results137, go_sem, xz, x0, x1, x2, x3, x4, x5, x6]) rfl ?_
            refine ⟨o8, p8, rfl, ?_, ?_, hp8, hf8⟩
            · repeat (first | with_reducible exact H8.out | with_reducible refine RI.drew ?_ | with_reducible refine RI.loc ?_ hlr8.out _ _)
            · repeat (first | with_reducible exact Hm8.out | with_reducible refine MovI.drew ?_ | with_reducible refine MovI.setX ?_ (show w.heap.size ≤ gf + 1 + 1 by omega) _ _)
        · have h8b : (A2 == 8) = false := neI h8
          by_cases h67 : A2 = 6 ∨ A2 = 7
          · have Hk : Hid (numericB A2 = false) := Lib.hid (decide_eq_false (by omega))
            go_upto_region 10 with fail
            go_quiet (fail)
            have hbq : Below wc.heap.size wc (wc.drewN nq) := ⟨rfl, rfl, rfl, Nat.le_refl _, fun _ _ => rfl⟩
            have HR := Lib.hid (H7.out.below hbq)
            have HRm := Lib.hid (Hm7.out.trans (.of_below hbq))
            have HRf := Lib.hid (Hbf7.out.below hbq Hbf7.out.lt)
            have HRn := Lib.hid (Hbm7.out.below hbq Hbm7.out.lt)
            have HRr := Lib.hid (Hbr7.out.below hbq Hbr7.out.lt)
            generalize wc.drewN nq = wq at HR HRm HRf HRn HRr ⊢
            clear f0 ff0 f1 ff1 f2 ff2 f3 ff3 f4 ff4 fz m0 m1 m2 mf0 mf1 mf2 mz c0 c1 c2 c3 c4 c5 c5f hgz
            have f0 : wq.cell? ⟨gf, 0, none⟩ = some (.int .i64 A1) := (HRf.out.2 0 (by simp)).1
            have ff0 : wq.frozen? ⟨gf, 0, none⟩ = false := (HRf.out.2 0 (by simp)).2
            have f1 : wq.cell? ⟨gf, 1, none⟩ = some (.int .i64 A2) := (HRf.out.2 1 (by simp)).1
            have ff1 : wq.frozen? ⟨gf, 1, none⟩ = false := (HRf.out.2 1 (by simp)).2
            have f2 : wq.cell? ⟨gf, 2, none⟩ = some (.bool A3) := (HRf.out.2 2 (by simp)).1
            have ff2 : wq.frozen? ⟨gf, 2, none⟩ = false := (HRf.out.2 2 (by simp)).2
            have f3 : wq.cell? ⟨gf, 3, none⟩ = some (.bool A4) := (HRf.out.2 3 (by simp)).1
            have ff3 : wq.frozen? ⟨gf, 3, none⟩ = false := (HRf.out.2 3 (by simp)).2
            have f4 : wq.cell? ⟨gf, 4, none⟩ = some (.int .i64 A5) := (HRf.out.2 4 (by simp)).1
            have ff4 : wq.frozen? ⟨gf, 4, none⟩ = false := (HRf.out.2 4 (by simp)).2
            have fz := HRf.out.lt
            have m0 : wq.cell? ⟨(gf + 1), 0, none⟩ = some (.int .i64 sh) := (HRn.out.2 0 (by simp)).1
            have mf0 : wq.frozen? ⟨(gf + 1), 0, none⟩ = false := (HRn.out.2 0 (by simp)).2
            have m1 : wq.cell? ⟨(gf + 1), 1, none⟩ = some (.int .i64 E) := (HRn.out.2 1 (by simp)).1
            have mf1 : wq.frozen? ⟨(gf + 1), 1, none⟩ = false := (HRn.out.2 1 (by simp)).2
            have m2 : wq.cell? ⟨(gf + 1), 2, none⟩ = some (.int .i64 deep) := (HRn.out.2 2 (by simp)).1
            have mf2 : wq.frozen? ⟨(gf + 1), 2, none⟩ = false := (HRn.out.2 2 (by simp)).2
            have mz := HRn.out.lt
            have HL : Hid (∀ w, RI w g bs bp L B u Rt Mo sch D s o P out → Calls Tryz.prog 168 #[.pointer (some ⟨g, 0, none⟩), .agg #[.int .i64 A1, .int .i64 A2, .bool A3, .bool A4, .int .i64 A5], .int .i64 U] w (PostI g bs bp L B u Rt Mo sch D s o M w)) := Lib.hid fun w h => by
              rw [← HMb.out]
              exact (by have h9 := readText_any h (A1, A2, A3, A4, A5) U (by omega) (by omega) (by omega); unfold rdBody; rw [if_neg (by show ¬ A1 = 0; omega), if_neg (by exact h8), if_pos (by exact h67)]; exact h9)
            clear HMb IH HN
            obtain ⟨plM, outM, ⟨k2, e2f, e2b, e2l, e2t, e2c, e2p⟩⟩ := M
            unfold PostI evV at HL
            simp only at HL
            go_wp2_with fail
            refine (iNumeric_any A2 _).mono ?_
            rw [Hk.out]
            rintro e _ ⟨rfl, rfl⟩
            go_wp2_with fail
            refine (HL.out _ HR.out).mono ?_
            rintro e w8 ⟨o8, p8, rfl, h8', hm8, hp8, hf8⟩
            have H8 := Lib.hid h8'
            have Hm8 := Lib.hid (HRm.out.trans hm8)
            have hlr8 := Lib.hid (hlr.out.moved HRr.out.lt hm8)
            have hbr8 := hm8.keep HRr.out hlr.out
            clear h8' hm8
            have x0 : w8.cell? ⟨(gf + 1 + 1), 0, none⟩ = some (.int .i64 0) := (hbr8.2 0 (by simp)).1
            have xf0 : w8.frozen? ⟨(gf + 1 + 1), 0, none⟩ = false := (hbr8.2 0 (by simp)).2
            have x1 : w8.cell? ⟨(gf + 1 + 1), 1, none⟩ = some (.int .i64 0) := (hbr8.2 1 (by simp)).1
            have xf1 : w8.frozen? ⟨(gf + 1 + 1), 1, none⟩ = false := (hbr8.2 1 (by simp)).2
            have x2 : w8.cell? ⟨(gf + 1 + 1), 2, none⟩ = some (.int .u64 0) := (hbr8.2 2 (by simp)).1
            have xf2 : w8.frozen? ⟨(gf + 1 + 1), 2, none⟩ = false := (hbr8.2 2 (by simp)).2
            have x3 : w8.cell? ⟨(gf + 1 + 1), 3, none⟩ = some (.int .i64 0) := (hbr8.2 3 (by simp)).1
            have xf3 : w8.frozen? ⟨(gf + 1 + 1), 3, none⟩ = false := (hbr8.2 3 (by simp)).2
            have x4 : w8.cell? ⟨(gf + 1 + 1), 4, none⟩ = some (.string ⟨#[]⟩) := (hbr8.2 4 (by simp)).1
            have xf4 : w8.frozen? ⟨(gf + 1 + 1), 4, none⟩ = false := (hbr8.2 4 (by simp)).2
            have x5 : w8.cell? ⟨(gf + 1 + 1), 5, none⟩ = some (.int .i64 0) := (hbr8.2 5 (by simp)).1
            have xf5 : w8.frozen? ⟨(gf + 1 + 1), 5, none⟩ = false := (hbr8.2 5 (by simp)).2
            have x6 : w8.cell? ⟨(gf + 1 + 1), 6, none⟩ = some (.int .i64 0) := (hbr8.2 6 (by simp)).1
            have xf6 : w8.frozen? ⟨(gf + 1 + 1), 6, none⟩ = false := (hbr8.2 6 (by simp)).2
            have xz := hbr8.lt
            go_wp2_with fail
            refine bodyPost_ret (v := .agg #[.int .i64 k2, .int .i64 e2f, .int .u64 e2b, .int .i64 e2l, .string e2t, .int .i64 e2c, .int .i64 e2p]) (by simp [results, Tryz.results137, go_sem, xz, x0, x1, x2, x3, x4, x5, x6]) rfl ?_
            refine ⟨o8, p8, rfl, ?_, ?_, hp8, hf8⟩
            · repeat (first | with_reducible exact H8.out | with_reducible refine RI.drew ?_ | with_reducible refine RI.loc ?_ hlr8.out _ _)
            · repeat (first | with_reducible exact Hm8.out | with_reducible refine MovI.drew ?_ | with_reducible refine MovI.setX ?_ (show w.heap.size ≤ gf + 1 + 1 by omega) _ _)
          · have Hk : Hid (numericB A2 = true) := Lib.hid (decide_eq_true (by omega))
            go_upto_region 10 with fail
            go_quiet (fail)
            have hbq : Below wc.heap.size wc (wc.drewN nq) := ⟨rfl, rfl, rfl, Nat.le_refl _, fun _ _ => rfl⟩
            have HR := Lib.hid (H7.out.below hbq)
            have HRm := Lib.hid (Hm7.out.trans (.of_below hbq))
            have HRf := Lib.hid (Hbf7.out.below hbq Hbf7.out.lt)
            have HRn := Lib.hid (Hbm7.out.below hbq Hbm7.out.lt)
            have HRr := Lib.hid (Hbr7.out.below hbq Hbr7.out.lt)
            generalize wc.drewN nq = wq at HR HRm HRf HRn HRr ⊢
            clear f0 ff0 f1 ff1 f2 ff2 f3 ff3 f4 ff4 fz m0 m1 m2 mf0 mf1 mf2 mz c0 c1 c2 c3 c4 c5 c5f hgz
            have f0 : wq.cell? ⟨gf, 0, none⟩ = some (.int .i64 A1) := (HRf.out.2 0 (by simp)).1
            have ff0 : wq.frozen? ⟨gf, 0, none⟩ = false := (HRf.out.2 0 (by simp)).2
            have f1 : wq.cell? ⟨gf, 1, none⟩ = some (.int .i64 A2) := (HRf.out.2 1 (by simp)).1
            have ff1 : wq.frozen? ⟨gf, 1, none⟩ = false := (HRf.out.2 1 (by simp)).2
            have f2 : wq.cell? ⟨gf, 2, none⟩ = some (.bool A3) := (HRf.out.2 2 (by simp)).1
            have ff2 : wq.frozen? ⟨gf, 2, none⟩ = false := (HRf.out.2 2 (by simp)).2
            have f3 : wq.cell? ⟨gf, 3, none⟩ = some (.bool A4) := (HRf.out.2 3 (by simp)).1
            have ff3 : wq.frozen? ⟨gf, 3, none⟩ = false := (HRf.out.2 3 (by simp)).2
            have f4 : wq.cell? ⟨gf, 4, none⟩ = some (.int .i64 A5) := (HRf.out.2 4 (by simp)).1
            have ff4 : wq.frozen? ⟨gf, 4, none⟩ = false := (HRf.out.2 4 (by simp)).2
            have fz := HRf.out.lt
            have m0 : wq.cell? ⟨(gf + 1), 0, none⟩ = some (.int .i64 sh) := (HRn.out.2 0 (by simp)).1
            have mf0 : wq.frozen? ⟨(gf + 1), 0, none⟩ = false := (HRn.out.2 0 (by simp)).2
            have m1 : wq.cell? ⟨(gf + 1), 1, none⟩ = some (.int .i64 E) := (HRn.out.2 1 (by simp)).1
            have mf1 : wq.frozen? ⟨(gf + 1), 1, none⟩ = false := (HRn.out.2 1 (by simp)).2
            have m2 : wq.cell? ⟨(gf + 1), 2, none⟩ = some (.int .i64 deep) := (HRn.out.2 2 (by simp)).1
            have mf2 : wq.frozen? ⟨(gf + 1), 2, none⟩ = false := (HRn.out.2 2 (by simp)).2
            have mz := HRn.out.lt
            have HL : Hid (∀ w, RI w g bs bp L B u Rt Mo sch D s o P out → Calls Tryz.prog 167 #[.pointer (some ⟨g, 0, none⟩), .agg #[.int .i64 A1, .int .i64 A2, .bool A3, .bool A4, .int .i64 A5], .int .i64 U] w (PostI g bs bp L B u Rt Mo sch D s o M w)) := Lib.hid fun w h => by
              rw [← HMb.out]
              exact (by have h9 := readRun_any n h (A1, A2, A3, A4, A5) HF.out Hk.out U (by omega) hs (by omega) (by omega); unfold rdBody; rw [if_neg (by show ¬ A1 = 0; omega), if_neg (by exact h8), if_neg (by exact h67)]; exact h9)
            clear HMb IH HN
            obtain ⟨plM, outM, ⟨k2, e2f, e2b, e2l, e2t, e2c, e2p⟩⟩ := M
            unfold PostI evV at HL
            simp only at HL
            go_wp2_with fail
            refine (iNumeric_any A2 _).mono ?_
            rw [Hk.out]
            rintro e _ ⟨rfl, rfl⟩
            go_wp2_with fail
            refine (HL.out _ HR.out).mono ?_
            rintro e w8 ⟨o8, p8, rfl, h8', hm8, hp8, hf8⟩
            have H8 := Lib.hid h8'
            have Hm8 := Lib.hid (HRm.out.trans hm8)
            have hlr8 := Lib.hid (hlr.out.moved HRr.out.lt hm8)
            have hbr8 := hm8.keep HRr.out hlr.out
            clear h8' hm8
            have x0 : w8.cell? ⟨(gf + 1 + 1), 0, none⟩ = some (.int .i64 0) := (hbr8.2 0 (by simp)).1
            have xf0 : w8.frozen? ⟨(gf + 1 + 1), 0, none⟩ = false := (hbr8.2 0 (by simp)).2
            have x1 : w8.cell? ⟨(gf + 1 + 1), 1, none⟩ = some (.int .i64 0) := (hbr8.2 1 (by simp)).1
            have xf1 : w8.frozen? ⟨(gf + 1 + 1), 1, none⟩ = false := (hbr8.2 1 (by simp)).2
            have x2 : w8.cell? ⟨(gf + 1 + 1), 2, none⟩ = some (.int .u64 0) := (hbr8.2 2 (by simp)).1
            have xf2 : w8.frozen? ⟨(gf + 1 + 1), 2, none⟩ = false := (hbr8.2 2 (by simp)).2
            have x3 : w8.cell? ⟨(gf + 1 + 1), 3, none⟩ = some (.int .i64 0) := (hbr8.2 3 (by simp)).1
            have xf3 : w8.frozen? ⟨(gf + 1 + 1), 3, none⟩ = false := (hbr8.2 3 (by simp)).2
            have x4 : w8.cell? ⟨(gf + 1 + 1), 4, none⟩ = some (.string ⟨#[]⟩) := (hbr8.2 4 (by simp)).1
            have xf4 : w8.frozen? ⟨(gf + 1 + 1), 4, none⟩ = false := (hbr8.2 4 (by simp)).2
            have x5 : w8.cell? ⟨(gf + 1 + 1), 5, none⟩ = some (.int .i64 0) := (hbr8.2 5 (by simp)).1
            have xf5 : w8.frozen? ⟨(gf + 1 + 1), 5, none⟩ = false := (hbr8.2 5 (by simp)).2
            have x6 : w8.cell? ⟨(gf + 1 + 1), 6, none⟩ = some (.int .i64 0) := (hbr8.2 6 (by simp)).1
            have xf6 : w8.frozen? ⟨(gf + 1 + 1), 6, none⟩ = false := (hbr8.2 6 (by simp)).2
            have xz := hbr8.lt
            go_wp2_with fail
            refine bodyPost_ret (v := .agg #[.int .i64 k2, .int .i64 e2f, .int .u64 e2b, .int .i64 e2l, .string e2t, .int .i64 e2c, .int .i64 e2p]) (by simp [results, Tryz.results137, go_sem, xz, x0, x1, x2, x3, x4, x5, x6]) rfl ?_
            refine ⟨o8, p8, rfl, ?_, ?_, hp8, hf8⟩
            · repeat (first | with_reducible exact H8.out | with_reducible refine RI.drew ?_ | with_reducible refine RI.loc ?_ hlr8.out _ _)
            · repeat (first | with_reducible exact Hm8.out | with_reducible refine MovI.drew ?_ | with_reducible refine MovI.setX ?_ (show w.heap.size ≤ gf + 1 + 1 by omega) _ _)
end Go.Proofs.YtpkofbdfnbpfpaaGreat.Num

