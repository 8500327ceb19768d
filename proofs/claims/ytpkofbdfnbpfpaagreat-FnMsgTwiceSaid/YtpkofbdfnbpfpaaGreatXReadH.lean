/-
  Several texts in one: ReadH.
-/
import Derived.Test.YtpkofbdfnbpfpaaGreatXReadG

/-
  The program's reader of messages: a message within is read.
-/
namespace Go.Proofs.YtpkofbdfnbpfpaaGreat.Num
open Go.RowKit Go.Proofs
set_option linter.unusedVariables false
set_option linter.unusedSimpArgs false
/-- The reader of messages, as long as fewer than n bytes are left. -/
def MsgCallI (g bs bp L B : Nat) (u : Value) (Rt Mo : Int) (sch : List RM) (D : Int) (s : ByteArray) (n : Nat) : Prop :=
  ∀ (sh E d : Int) (o : Value) (p : Nat) (out : List Ev) (w : World), RI w g bs bp L B u Rt Mo sch D s o p out → out.length ≤ 4 * p → (p : Int) ≤ E → E ≤ 9223372036854775807 → s.size - p < n → 1 ≤ d ∧ d ≤ D →
    Calls Tryz.prog 64 #[.pointer (some ⟨g, 0, none⟩), .agg #[.int .i64 sh, .int .i64 E, .int .i64 d]] w (PostI g bs bp L B u Rt Mo sch D s o (msgRd s sch D n sh E d ⟨p, out, zeroE⟩) w)
/-- What a message within adds. -/
def nestR (s : ByteArray) (sch : List RM) (D : Int) (n : Nat) (f : RF) (m : Nat) (d : Int) (r : RdM) : RdM :=
  if (msgRd s sch D n f.2.2.2.2 ((r.place + m : Nat) : Int) d (r.tell (downE f.1 m))).fail.kind = 0 then (msgRd s sch D n f.2.2.2.2 ((r.place + m : Nat) : Int) d (r.tell (downE f.1 m))).tell upE else msgRd s sch D n f.2.2.2.2 ((r.place + m : Nat) : Int) d (r.tell (downE f.1 m))
set_option maxHeartbeats 4000000 in
set_option maxRecDepth 100000 in
theorem readNested_any (n : Nat) {w : World} {g bs bp L B p : Nat} {u o : Value} {sch : List RM} {D Rt Mo : Int} {s : ByteArray} {out : List Ev} (h : RI w g bs bp L B u Rt Mo sch D s o p out) (IH : MsgCallI g bs bp L B u Rt Mo sch D s n) (f : RF) (m : Nat) (d : Int) (hm : (p + m : Nat) ≤ 9223372036854775807) (hs : s.size ≤ 200000000) (hl : out.length + 1 ≤ 4 * p) (hfu : s.size - p < n) (hd : 1 ≤ d ∧ d ≤ D) :
    Calls Tryz.prog 165 #[.pointer (some ⟨g, 0, none⟩), fieldV f, .int .i64 m, .int .i64 d] w (PostI g bs bp L B u Rt Mo sch D s o (nestR s sch D n f m d ⟨p, out, zeroE⟩) w) := by
  have hp := h.inn
  obtain ⟨S, hS⟩ : ∃ S, p + m = S := ⟨_, rfl⟩
  have hwS : IntKind.i64.wrap ((p : Int) + (m : Int)) = (S : Int) := by rw [IntWalk.i64_in _ (by omega)]; omega
  obtain ⟨M, hM⟩ : ∃ M, nestR s sch D n f m d ⟨p, out, zeroE⟩ = M := ⟨_, rfl⟩
  rw [hM]
  have hadv := msgRd_adv (s := s) (sch := sch) (D := D) n f.2.2.2.2 (S : Int) d (RdM.tell ⟨p, out, zeroE⟩ (downE f.1 m)) hp (by show (p : Int) ≤ S; omega)
  have HIH : Hid (∀ (o : Value) (w : World), RI w g bs bp L B u Rt Mo sch D s o p (out ++ [downE f.1 m]) → Calls Tryz.prog 64 #[.pointer (some ⟨g, 0, none⟩), .agg #[.int .i64 f.2.2.2.2, .int .i64 S, .int .i64 d]] w (PostI g bs bp L B u Rt Mo sch D s o (msgRd s sch D n f.2.2.2.2 (S : Int) d (RdM.tell ⟨p, out, zeroE⟩ (downE f.1 m))) w)) := Lib.hid fun o w h => IH f.2.2.2.2 (S : Int) d o p (out ++ [downE f.1 m]) w h (by simp; omega) (by omega) (by omega) hfu hd
  unfold nestR at hM
  rw [show (⟨p, out, zeroE⟩ : RdM).place = p from rfl, hS] at hM
  generalize msgRd s sch D n f.2.2.2.2 (S : Int) d (RdM.tell ⟨p, out, zeroE⟩ (downE f.1 m)) = r2 at hM HIH hadv
  obtain ⟨pl2, out2, ⟨k2, e2f, e2b, e2l, e2t, e2c, e2p⟩⟩ := r2
  unfold PostI evV at HIH
  simp only at HIH hM
  have hl2 : out2.length ≤ 1048576000 := by
    have h1 : out2.length + 4 * p ≤ (out ++ [downE f.1 m]).length + 4 * pl2 := hadv.len
    have h2 : pl2 ≤ s.size := hadv.inn
    simp at h1
    omega
  have HM := Lib.hid hM
  clear hM hadv IH
  obtain ⟨A1, A2, A3, A4, A5⟩ := f
  unfold fieldV
  simp only at HIH ⊢
  have hb1 : Below w.heap.size w ((w.alloc (.cells #[.int .i64 A1, .int .i64 A2, .bool A3, .bool A4, .int .i64 A5] 117)).alloc (.cells #[.int .i64 0, .int .i64 0, .int .u64 0, .int .i64 0, .string ⟨#[]⟩, .int .i64 0, .int .i64 0] 34)) := ((Below.refl _ _).alloc (Nat.le_refl _) _).alloc (by simp) _
  have H0 := Lib.hid (h.below hb1)
  have hm0 : MovI g bp o o w _ := .of_below hb1
  have hbf := (Box.fresh w #[.int .i64 A1, .int .i64 A2, .bool A3, .bool A4, .int .i64 A5] 117).alloc (.cells #[.int .i64 0, .int .i64 0, .int .u64 0, .int .i64 0, .string ⟨#[]⟩, .int .i64 0, .int .i64 0] 34)
  have hbr : Box ((w.alloc (.cells #[.int .i64 A1, .int .i64 A2, .bool A3, .bool A4, .int .i64 A5] 117)).alloc (.cells #[.int .i64 0, .int .i64 0, .int .u64 0, .int .i64 0, .string ⟨#[]⟩, .int .i64 0, .int .i64 0] 34)) (w.heap.size + 1) [.int .i64 0, .int .i64 0, .int .u64 0, .int .i64 0, .string ⟨#[]⟩, .int .i64 0, .int .i64 0] := Box.fresh2R
  have Hlf := Lib.hid (h.fresh (Nat.le_refl w.heap.size))
  have Hlr := Lib.hid (h.fresh (Nat.le_succ w.heap.size))
  clear h
  go_enter Tryz.func165, Tryz.ntmps165
  go_wp2_with fail
  refine (emitdown_any H0.out A1 m (by omega)).mono ?_
  have hs0 : w.heap.size + 1 < ((w.alloc (.cells #[.int .i64 A1, .int .i64 A2, .bool A3, .bool A4, .int .i64 A5] 117)).alloc (.cells #[.int .i64 0, .int .i64 0, .int .u64 0, .int .i64 0, .string ⟨#[]⟩, .int .i64 0, .int .i64 0] 34)).heap.size := hbr.lt
  have hs1 := hbf.lt
  generalize (w.alloc (.cells #[.int .i64 A1, .int .i64 A2, .bool A3, .bool A4, .int .i64 A5] 117)).alloc (.cells #[.int .i64 0, .int .i64 0, .int .u64 0, .int .i64 0, .string ⟨#[]⟩, .int .i64 0, .int .i64 0] 34) = w1 at H0 hm0 hbf hbr hs0 hs1 hb1 ⊢
  rintro e w2 ⟨rfl, o2, h2, hm2⟩
  have hbf := Lib.hid (hm2.keep hbf Hlf.out)
  have hbr := Lib.hid (hm2.keep hbr Hlr.out)
  have hlf := Lib.hid (Hlf.out.moved hs1 hm2)
  have hlr := Lib.hid (Hlr.out.moved hs0 hm2)
  have Hm2 := Lib.hid (hm0.trans hm2)
  have hwz := Hm2.out.size
  have H2 := Lib.hid h2
  clear H0 hm0 hm2 hs0 hs1 hb1 Hlf Hlr h2
  generalize hgf : w.heap.size = gf at hbf hbr hlf hlr
  have hzf := hbf.out.lt
  have hzr := hbr.out.lt
  have Hlt := Lib.hid (H2.out.fresh (Nat.le_refl w2.heap.size))
  have HPl : Hid (∀ w, RI w g bs bp L B u Rt Mo sch D s o2 p (out ++ [downE A1 m]) → Calls Tryz.prog 93 #[.pointer (some ⟨bp, 0, none⟩)] w fun e w' => e = .returned (.int .i64 p) ∧ w = w') := Lib.hid fun w h => place_any h
  have f0 : w2.cell? ⟨gf, 0, none⟩ = some (.int .i64 A1) := (hbf.out.2 0 (by simp)).1
  have ff0 : w2.frozen? ⟨gf, 0, none⟩ = false := (hbf.out.2 0 (by simp)).2
  have f1 : w2.cell? ⟨gf, 1, none⟩ = some (.int .i64 A2) := (hbf.out.2 1 (by simp)).1
  have ff1 : w2.frozen? ⟨gf, 1, none⟩ = false := (hbf.out.2 1 (by simp)).2
  have f2 : w2.cell? ⟨gf, 2, none⟩ = some (.bool A3) := (hbf.out.2 2 (by simp)).1
  have ff2 : w2.frozen? ⟨gf, 2, none⟩ = false := (hbf.out.2 2 (by simp)).2
  have f3 : w2.cell? ⟨gf, 3, none⟩ = some (.bool A4) := (hbf.out.2 3 (by simp)).1
  have ff3 : w2.frozen? ⟨gf, 3, none⟩ = false := (hbf.out.2 3 (by simp)).2
  have f4 : w2.cell? ⟨gf, 4, none⟩ = some (.int .i64 A5) := (hbf.out.2 4 (by simp)).1
  have ff4 : w2.frozen? ⟨gf, 4, none⟩ = false := (hbf.out.2 4 (by simp)).2
  have fz := hbf.out.lt
  obtain ⟨⟨c0, c1, c2, c3, c4, c5⟩, c5f, _⟩ := H2.out.cells
  have hgz := H2.out.lt.1
  unfold plF at c2
  go_upto_region 2 with fail
  go_cut [9] (fun s9 wx => ∃ (gt : Nat) (o4 : Value) (p4 : Nat), s9 = .pointer (some ⟨gt, 0, none⟩) ∧ gf + 1 < gt ∧ Hid (RI wx g bs bp L B u Rt Mo sch D s o4 p4 out2) ∧ Hid (MovI g bp o o4 w wx) ∧ Hid (Box wx (gf + 1) [.int .i64 0, .int .i64 0, .int .u64 0, .int .i64 0, .string ⟨#[]⟩, .int .i64 0, .int .i64 0]) ∧ Hid (Loc g bs bp L (gf + 1) o4) ∧ Hid (Loc g bs bp L gt o4) ∧ Hid (Box wx gt [.int .i64 k2, .int .i64 e2f, .int .u64 e2b, .int .i64 e2l, .string e2t, .int .i64 e2c, .int .i64 e2p]) ∧ Hid ((⟨k2, e2f, e2b, e2l, e2t, e2c, e2p⟩ : Ev) = zeroE → p4 = pl2) ∧ Hid ((⟨k2, e2f, e2b, e2l, e2t, e2c, e2p⟩ : Ev) = zeroE ∨ ∃ c a, (⟨k2, e2f, e2b, e2l, e2t, e2c, e2p⟩ : Ev) = failE c a))
  case first =>
    go_region_with (first | (go_at_call 93; refine (HPl.out _ ?_).mono ?_; (first | exact H2.out.drew | exact (H2.out.drew.alloc _) | exact ((H2.out.alloc _).drew)); rintro _ _ ⟨rfl, rfl⟩) | (go_at_call 64; refine (HIH.out o2 _ ?_).mono ?_; (first | exact H2.out.drew | exact (H2.out.drew.alloc _) | exact ((H2.out.alloc _).drew)); rintro e w4 ⟨o4, p4, rfl, h4, hm4, hp4, hf4⟩; have h4 := Lib.hid h4; have hm4' : Hid (MovI g bp o o4 w w4) := Lib.hid (by first | exact Hm2.out.drew.trans hm4 | exact (Hm2.out.drew.alloc _).trans hm4 | exact (Hm2.out.alloc _).drew.trans hm4); have hbf4 : Hid (Box w4 gf [.int .i64 A1, .int .i64 A2, .bool A3, .bool A4, .int .i64 A5]) := Lib.hid (by first | exact hm4.keep hbf.out.drew hlf.out | exact hm4.keep (hbf.out.drew.alloc _) hlf.out | exact hm4.keep (hbf.out.alloc _).drew hlf.out); have hlf4 : Hid (Loc g bs bp L gf o4) := Lib.hid (by first | exact hlf.out.moved hbf.out.drew.lt hm4 | exact hlf.out.moved (hbf.out.drew.alloc _).lt hm4 | exact hlf.out.moved (hbf.out.alloc _).drew.lt hm4); have hbr4 : Hid (Box w4 (gf + 1) [.int .i64 0, .int .i64 0, .int .u64 0, .int .i64 0, .string ⟨#[]⟩, .int .i64 0, .int .i64 0]) := Lib.hid (by first | exact hm4.keep hbr.out.drew hlr.out | exact hm4.keep (hbr.out.drew.alloc _) hlr.out | exact hm4.keep (hbr.out.alloc _).drew hlr.out); have hlr4 : Hid (Loc g bs bp L (gf + 1) o4) := Lib.hid (by first | exact hlr.out.moved hbr.out.drew.lt hm4 | exact hlr.out.moved (hbr.out.drew.alloc _).lt hm4 | exact hlr.out.moved (hbr.out.alloc _).drew.lt hm4); (try have hlt4 : Hid (Loc g bs bp L w2.heap.size o4) := Lib.hid (Hlt.out.moved (fresh_lt' w2 _) hm4)); (try have hbt4 : Hid (Box w4 w2.heap.size [.int .i64 0, .int .i64 0, .int .u64 0, .int .i64 0, .string ⟨#[]⟩, .int .i64 0, .int .i64 0]) := Lib.hid (hm4.keep ((Box.fresh w2 #[.int .i64 0, .int .i64 0, .int .u64 0, .int .i64 0, .string ⟨#[]⟩, .int .i64 0, .int .i64 0] 34).drew) Hlt.out); obtain ⟨⟨q0, q1, q2, q3, q4, q5, q6⟩, t0, t1, t2, t3, t4, t5, t6⟩ := hbt4.out.sevenE; have hzt4 := hbt4.out.lt); have hp4 := Lib.hid hp4; have hf4 := Lib.hid hf4; clear hm4))
    all_goals
      clear c0 c1 c2 c3 c4 c5 c5f f0 ff0 f1 ff1 f2 ff2 f3 ff3 f4 ff4 fz
      first
        | (have KK := endB7 h4.out hm4'.out hbt4.out hlt4.out hwz (.int .i64 k2) (.int .i64 e2f) (.int .u64 e2b) (.int .i64 e2l) (.string e2t) (.int .i64 e2c) (.int .i64 e2p)
           obtain ⟨K0, Kb, K3, K4⟩ := KK
           clear q0 q1 q2 q3 q4 q5 q6 t0 t1 t2 t3 t4 t5 t6 hzt4 hbt4
           generalize ((((((w4.setCell ⟨w2.heap.size, 0, none⟩ (.int .i64 k2)).setCell ⟨w2.heap.size, 1, none⟩ (.int .i64 e2f)).setCell ⟨w2.heap.size, 2, none⟩ (.int .u64 e2b)).setCell ⟨w2.heap.size, 3, none⟩ (.int .i64 e2l)).setCell ⟨w2.heap.size, 4, none⟩ (.string e2t)).setCell ⟨w2.heap.size, 5, none⟩ (.int .i64 e2c)).setCell ⟨w2.heap.size, 6, none⟩ (.int .i64 e2p) = w5 at K0 Kb K3 K4 ⊢
           generalize hgt : w2.heap.size = gt at K3 Kb hlt4 ⊢
           have hlt5 := hlt4)
        | (have KK := endA7 w2.heap.size h4.out hm4'.out #[.int .i64 k2, .int .i64 e2f, .int .u64 e2b, .int .i64 e2l, .string e2t, .int .i64 e2c, .int .i64 e2p] 34
           obtain ⟨K0, Kb, K3, K4⟩ := KK
           generalize w4.alloc (.cells #[.int .i64 k2, .int .i64 e2f, .int .u64 e2b, .int .i64 e2l, .string e2t, .int .i64 e2c, .int .i64 e2p] 34) = w5 at K0 Kb K3 K4 ⊢
           have hlt5 := Lib.hid (h4.out.fresh (Nat.le_refl w4.heap.size))
           generalize hgt : w4.heap.size = gt at K3 hlt5 ⊢)
      have H5 := Lib.hid K0
      have Hm5 := Lib.hid K4
      have Ht5 := Lib.hid K3
      have Hbf5 : Hid (Box w5 gf [.int .i64 A1, .int .i64 A2, .bool A3, .bool A4, .int .i64 A5]) := Lib.hid (Kb _ _ (by omega) hbf4.out)
      have Hbr5 : Hid (Box w5 (gf + 1) [.int .i64 0, .int .i64 0, .int .u64 0, .int .i64 0, .string ⟨#[]⟩, .int .i64 0, .int .i64 0]) := Lib.hid (Kb _ _ (by omega) hbr4.out)
      clear K0 Kb K3 K4 h4
      go_wp2_with fail
      go_meet
      exact ⟨gt, o4, p4, rfl, by have := hbr4.out.lt; omega, H5, Hm5, Hbr5, hlr4, hlt5, Ht5, hp4, hf4⟩
  case rest =>
  obtain ⟨gt, o4, p4, rfl, hgt, H5, Hm5, Hbr5, hlr4, hlt5, Ht5, hp4, hf4⟩ := hcut
  clear c0 c1 c2 c3 c4 c5 c5f f0 ff0 f1 ff1 f2 ff2 f3 ff3 f4 ff4 fz hbf hbr hlf hlr hzf hzr hgz H2 Hm2 Hlt HPl HIH
  rcases hf4.out with hz | ⟨c, a, hfa⟩
  · unfold zeroE at hz
    simp only [Ev.mk.injEq] at hz
    obtain ⟨rfl, rfl, rfl, rfl, rfl, rfl, rfl⟩ := hz
    obtain rfl : p4 = pl2 := hp4.out rfl
    have HM2 : Hid (M = ⟨p4, out2 ++ [upE], zeroE⟩) := Lib.hid (by have := HM.out; simp only [if_true] at this; rw [← this]; rfl)
    have t0 : wc.cell? ⟨gt, 0, none⟩ = some (.int .i64 0) := (Ht5.out.2 0 (by simp)).1
    have tf0 : wc.frozen? ⟨gt, 0, none⟩ = false := (Ht5.out.2 0 (by simp)).2
    have t1 : wc.cell? ⟨gt, 1, none⟩ = some (.int .i64 0) := (Ht5.out.2 1 (by simp)).1
    have tf1 : wc.frozen? ⟨gt, 1, none⟩ = false := (Ht5.out.2 1 (by simp)).2
    have t2 : wc.cell? ⟨gt, 2, none⟩ = some (.int .u64 0) := (Ht5.out.2 2 (by simp)).1
    have tf2 : wc.frozen? ⟨gt, 2, none⟩ = false := (Ht5.out.2 2 (by simp)).2
    have t3 : wc.cell? ⟨gt, 3, none⟩ = some (.int .i64 0) := (Ht5.out.2 3 (by simp)).1
    have tf3 : wc.frozen? ⟨gt, 3, none⟩ = false := (Ht5.out.2 3 (by simp)).2
    have t4 : wc.cell? ⟨gt, 4, none⟩ = some (.string ⟨#[]⟩) := (Ht5.out.2 4 (by simp)).1
    have tf4 : wc.frozen? ⟨gt, 4, none⟩ = false := (Ht5.out.2 4 (by simp)).2
    have t5 : wc.cell? ⟨gt, 5, none⟩ = some (.int .i64 0) := (Ht5.out.2 5 (by simp)).1
    have tf5 : wc.frozen? ⟨gt, 5, none⟩ = false := (Ht5.out.2 5 (by simp)).2
    have t6 : wc.cell? ⟨gt, 6, none⟩ = some (.int .i64 0) := (Ht5.out.2 6 (by simp)).1
    have tf6 : wc.frozen? ⟨gt, 6, none⟩ = false := (Ht5.out.2 6 (by simp)).2
    have tz := Ht5.out.lt
    go_wp2_with fail
    refine (term_zero _).mono ?_
    rintro e w6 ⟨rfl, hb6⟩
    have H6 := Lib.hid (H5.out.below hb6)
    have Hm6 := Lib.hid (Hm5.out.trans (.of_below hb6))
    have hbr6 := Hbr5.out.below hb6 Hbr5.out.lt
    have hbt6 := Ht5.out.below hb6 Ht5.out.lt
    clear hb6 t0 tf0 t1 tf1 t2 tf2 t3 tf3 t4 tf4 t5 tf5 t6 tf6 tz H5 Hm5 Hbr5 Ht5
    go_wp2_with fail
    refine (emitup_any H6.out hl2).mono ?_
    rintro e w7 ⟨rfl, o7, h7, hm7⟩
    have H7 := Lib.hid h7
    have Hm7 := Lib.hid (Hm6.out.trans hm7)
    have hlr7 := Lib.hid (hlr4.out.moved hbr6.lt hm7)
    have hbr7 := hm7.keep hbr6 hlr4.out
    have hbt7 := hm7.keep hbt6 hlt5.out
    clear h7 hm7 hbr6 hbt6
    have t0 : w7.cell? ⟨gt, 0, none⟩ = some (.int .i64 0) := (hbt7.2 0 (by simp)).1
    have tf0 : w7.frozen? ⟨gt, 0, none⟩ = false := (hbt7.2 0 (by simp)).2
    have t1 : w7.cell? ⟨gt, 1, none⟩ = some (.int .i64 0) := (hbt7.2 1 (by simp)).1
    have tf1 : w7.frozen? ⟨gt, 1, none⟩ = false := (hbt7.2 1 (by simp)).2
    have t2 : w7.cell? ⟨gt, 2, none⟩ = some (.int .u64 0) := (hbt7.2 2 (by simp)).1
    have tf2 : w7.frozen? ⟨gt, 2, none⟩ = false := (hbt7.2 2 (by simp)).2
    have t3 : w7.cell? ⟨gt, 3, none⟩ = some (.int .i64 0) := (hbt7.2 3 (by simp)).1
    have tf3 : w7.frozen? ⟨gt, 3, none⟩ = false := (hbt7.2 3 (by simp)).2
    have t4 : w7.cell? ⟨gt, 4, none⟩ = some (.string ⟨#[]⟩) := (hbt7.2 4 (by simp)).1
    have tf4 : w7.frozen? ⟨gt, 4, none⟩ = false := (hbt7.2 4 (by simp)).2
    have t5 : w7.cell? ⟨gt, 5, none⟩ = some (.int .i64 0) := (hbt7.2 5 (by simp)).1
    have tf5 : w7.frozen? ⟨gt, 5, none⟩ = false := (hbt7.2 5 (by simp)).2
    have t6 : w7.cell? ⟨gt, 6, none⟩ = some (.int .i64 0) := (hbt7.2 6 (by simp)).1
    have tf6 : w7.frozen? ⟨gt, 6, none⟩ = false := (hbt7.2 6 (by simp)).2
    have tz := hbt7.lt
    have x0 : w7.cell? ⟨(gf + 1), 0, none⟩ = some (.int .i64 0) := (hbr7.2 0 (by simp)).1
    have xf0 : w7.frozen? ⟨(gf + 1), 0, none⟩ = false := (hbr7.2 0 (by simp)).2
    have x1 : w7.cell? ⟨(gf + 1), 1, none⟩ = some (.int .i64 0) := (hbr7.2 1 (by simp)).1
    have xf1 : w7.frozen? ⟨(gf + 1), 1, none⟩ = false := (hbr7.2 1 (by simp)).2
    have x2 : w7.cell? ⟨(gf + 1), 2, none⟩ = some (.int .u64 0) := (hbr7.2 2 (by simp)).1
    have xf2 : w7.frozen? ⟨(gf + 1), 2, none⟩ = false := (hbr7.2 2 (by simp)).2
    have x3 : w7.cell? ⟨(gf + 1), 3, none⟩ = some (.int .i64 0) := (hbr7.2 3 (by simp)).1
    have xf3 : w7.frozen? ⟨(gf + 1), 3, none⟩ = false := (hbr7.2 3 (by simp)).2
    have x4 : w7.cell? ⟨(gf + 1), 4, none⟩ = some (.string ⟨#[]⟩) := (hbr7.2 4 (by simp)).1
    have xf4 : w7.frozen? ⟨(gf + 1), 4, none⟩ = false := (hbr7.2 4 (by simp)).2
    have x5 : w7.cell? ⟨(gf + 1), 5, none⟩ = some (.int .i64 0) := (hbr7.2 5 (by simp)).1
    have xf5 : w7.frozen? ⟨(gf + 1), 5, none⟩ = false := (hbr7.2 5 (by simp)).2
    have x6 : w7.cell? ⟨(gf + 1), 6, none⟩ = some (.int .i64 0) := (hbr7.2 6 (by simp)).1
    have xf6 : w7.frozen? ⟨(gf + 1), 6, none⟩ = false := (hbr7.2 6 (by simp)).2
    have xz := hbr7.lt
    go_wp2_with fail
    refine bodyPost_ret (v := .agg #[.int .i64 0, .int .i64 0, .int .u64 0, .int .i64 0, .string ⟨#[]⟩, .int .i64 0, .int .i64 0]) (by simp [results, Tryz.results165, go_sem, xz, x0, x1, x2, x3, x4, x5, x6]) rfl ?_
    refine PostI.good HM2.out (o' := o7) ?_ ?_
    · repeat (first | with_reducible exact H7.out | with_reducible refine RI.drew ?_ | with_reducible refine RI.loc ?_ hlr7.out _ _)
    · repeat (first | with_reducible exact Hm7.out | with_reducible refine MovI.drew ?_ | with_reducible refine MovI.setX ?_ (show w.heap.size ≤ gf + 1 by omega) _ _)
  · unfold failE at hfa
    simp only [Ev.mk.injEq] at hfa
    obtain ⟨rfl, rfl, rfl, rfl, rfl, rfl, rfl⟩ := hfa
    have HM2 : Hid (M = ⟨pl2, out2, failE e2c e2p⟩) := Lib.hid (by have := HM.out; rw [if_neg (by decide)] at this; rw [← this]; rfl)
    have t0 : wc.cell? ⟨gt, 0, none⟩ = some (.int .i64 10) := (Ht5.out.2 0 (by simp)).1
    have tf0 : wc.frozen? ⟨gt, 0, none⟩ = false := (Ht5.out.2 0 (by simp)).2
    have t1 : wc.cell? ⟨gt, 1, none⟩ = some (.int .i64 0) := (Ht5.out.2 1 (by simp)).1
    have tf1 : wc.frozen? ⟨gt, 1, none⟩ = false := (Ht5.out.2 1 (by simp)).2
    have t2 : wc.cell? ⟨gt, 2, none⟩ = some (.int .u64 0) := (Ht5.out.2 2 (by simp)).1
    have tf2 : wc.frozen? ⟨gt, 2, none⟩ = false := (Ht5.out.2 2 (by simp)).2
    have t3 : wc.cell? ⟨gt, 3, none⟩ = some (.int .i64 0) := (Ht5.out.2 3 (by simp)).1
    have tf3 : wc.frozen? ⟨gt, 3, none⟩ = false := (Ht5.out.2 3 (by simp)).2
    have t4 : wc.cell? ⟨gt, 4, none⟩ = some (.string ⟨#[]⟩) := (Ht5.out.2 4 (by simp)).1
    have tf4 : wc.frozen? ⟨gt, 4, none⟩ = false := (Ht5.out.2 4 (by simp)).2
    have t5 : wc.cell? ⟨gt, 5, none⟩ = some (.int .i64 e2c) := (Ht5.out.2 5 (by simp)).1
    have tf5 : wc.frozen? ⟨gt, 5, none⟩ = false := (Ht5.out.2 5 (by simp)).2
    have t6 : wc.cell? ⟨gt, 6, none⟩ = some (.int .i64 e2p) := (Ht5.out.2 6 (by simp)).1
    have tf6 : wc.frozen? ⟨gt, 6, none⟩ = false := (Ht5.out.2 6 (by simp)).2
    have tz := Ht5.out.lt
    go_wp2_with fail
    refine (term_fail _ _ _).mono ?_
    rintro e w6 ⟨rfl, hb6⟩
    have H6 := Lib.hid (H5.out.below hb6)
    have Hm6 := Lib.hid (Hm5.out.trans (.of_below hb6))
    have hbr6 := Hbr5.out.below hb6 Hbr5.out.lt
    have hbt6 := Ht5.out.below hb6 Ht5.out.lt
    clear hb6 t0 tf0 t1 tf1 t2 tf2 t3 tf3 t4 tf4 t5 tf5 t6 tf6 tz H5 Hm5 Hbr5 Ht5
    have t0 : w6.cell? ⟨gt, 0, none⟩ = some (.int .i64 10) := (hbt6.2 0 (by simp)).1
    have tf0 : w6.frozen? ⟨gt, 0, none⟩ = false := (hbt6.2 0 (by simp)).2
    have t1 : w6.cell? ⟨gt, 1, none⟩ = some (.int .i64 0) := (hbt6.2 1 (by simp)).1
    have tf1 : w6.frozen? ⟨gt, 1, none⟩ = false := (hbt6.2 1 (by simp)).2
    have t2 : w6.cell? ⟨gt, 2, none⟩ = some (.int .u64 0) := (hbt6.2 2 (by simp)).1
    have tf2 : w6.frozen? ⟨gt, 2, none⟩ = false := (hbt6.2 2 (by simp)).2
    have t3 : w6.cell? ⟨gt, 3, none⟩ = some (.int .i64 0) := (hbt6.2 3 (by simp)).1
    have tf3 : w6.frozen? ⟨gt, 3, none⟩ = false := (hbt6.2 3 (by simp)).2
    have t4 : w6.cell? ⟨gt, 4, none⟩ = some (.string ⟨#[]⟩) := (hbt6.2 4 (by simp)).1
    have tf4 : w6.frozen? ⟨gt, 4, none⟩ = false := (hbt6.2 4 (by simp)).2
    have t5 : w6.cell? ⟨gt, 5, none⟩ = some (.int .i64 e2c) := (hbt6.2 5 (by simp)).1
    have tf5 : w6.frozen? ⟨gt, 5, none⟩ = false := (hbt6.2 5 (by simp)).2
    have t6 : w6.cell? ⟨gt, 6, none⟩ = some (.int .i64 e2p) := (hbt6.2 6 (by simp)).1
    have tf6 : w6.frozen? ⟨gt, 6, none⟩ = false := (hbt6.2 6 (by simp)).2
    have tz := hbt6.lt
    have x0 : w6.cell? ⟨(gf + 1), 0, none⟩ = some (.int .i64 0) := (hbr6.2 0 (by simp)).1
    have xf0 : w6.frozen? ⟨(gf + 1), 0, none⟩ = false := (hbr6.2 0 (by simp)).2
    have x1 : w6.cell? ⟨(gf + 1), 1, none⟩ = some (.int .i64 0) := (hbr6.2 1 (by simp)).1
    have xf1 : w6.frozen? ⟨(gf + 1), 1, none⟩ = false := (hbr6.2 1 (by simp)).2
    have x2 : w6.cell? ⟨(gf + 1), 2, none⟩ = some (.int .u64 0) := (hbr6.2 2 (by simp)).1
    have xf2 : w6.frozen? ⟨(gf + 1), 2, none⟩ = false := (hbr6.2 2 (by simp)).2
    have x3 : w6.cell? ⟨(gf + 1), 3, none⟩ = some (.int .i64 0) := (hbr6.2 3 (by simp)).1
    have xf3 : w6.frozen? ⟨(gf + 1), 3, none⟩ = false := (hbr6.2 3 (by simp)).2
    have x4 : w6.cell? ⟨(gf + 1), 4, none⟩ = some (.string ⟨#[]⟩) := (hbr6.2 4 (by simp)).1
    have xf4 : w6.frozen? ⟨(gf + 1), 4, none⟩ = false := (hbr6.2 4 (by simp)).2
    have x5 : w6.cell? ⟨(gf + 1), 5, none⟩ = some (.int .i64 0) := (hbr6.2 5 (by simp)).1
    have xf5 : w6.frozen? ⟨(gf + 1), 5, none⟩ = false := (hbr6.2 5 (by simp)).2
    have x6 : w6.cell? ⟨(gf + 1), 6, none⟩ = some (.int .i64 0) := (hbr6.2 6 (by simp)).1
    have xf6 : w6.frozen? ⟨(gf + 1), 6, none⟩ = false := (hbr6.2 6 (by simp)).2
    have xz := hbr6.lt
    go_wp2_with fail
    refine bodyPost_ret (v := .agg #[.int .i64 10, .int .i64 0, .int .u64 0, .int .i64 0, .string ⟨#[]⟩, .int .i64 e2c, .int .i64 e2p]) (by simp [results, Tryz.results165, go_sem, xz, x0, x1, x2, x3, x4, x5, x6]) rfl ?_
    refine PostI.bad HM2.out (o' := o4) (p := p4) ?_ ?_
    · repeat (first | with_reducible exact H6.out | with_reducible refine RI.drew ?_ | with_reducible refine RI.loc ?_ hlr4.out _ _)
    · repeat (first | with_reducible exact Hm6.out | with_reducible refine MovI.drew ?_ | with_reducible refine MovI.setX ?_ (show w.heap.size ≤ gf + 1 by omega) _ _)
end Go.Proofs.YtpkofbdfnbpfpaaGreat.Num

