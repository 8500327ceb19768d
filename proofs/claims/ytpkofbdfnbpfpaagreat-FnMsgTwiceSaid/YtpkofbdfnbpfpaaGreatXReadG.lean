/-
  Several texts in one: ReadG.
-/
import Derived.Test.YtpkofbdfnbpfpaaGreatXReadF
import Derived.Test.YtpkofbdfnbpfpaaGreatXTagOf
import Derived.Deep.DeepCutAuto

/-
  The program's reader of messages: a tag is read.
-/
namespace Go.Proofs.YtpkofbdfnbpfpaaGreat.Num
open Go.RowKit Go.Proofs
set_option linter.unusedVariables false
set_option linter.unusedSimpArgs false
section
variable {g bs bp L B gt p : Nat} {o o' u : Value} {w w' w4 : World} {sch : List RM} {D Rt Mo : Int} {s : ByteArray} {out : List Ev}
/-- What a call answered is laid in a block that is made behind it. -/
theorem endA7 (B0 : Nat) (h : RI w4 g bs bp L B u Rt Mo sch D s o' p out) (hm : MovI g bp o o' w w4) (ev : Array Value) (T : TypeId) :
    RI (w4.alloc (.cells ev T)) g bs bp L B u Rt Mo sch D s o' p out ∧ (∀ (b : Nat) (vs : List Value), b < B0 → Box w4 b vs → Box (w4.alloc (.cells ev T)) b vs) ∧ Box (w4.alloc (.cells ev T)) w4.heap.size ev.toList ∧ MovI g bp o o' w (w4.alloc (.cells ev T)) :=
  ⟨h.alloc _, fun _ _ _ hb => hb.alloc _, Box.fresh _ _ _, hm.alloc _⟩
/-- What a call answered is stored in a block that was made ahead of it. -/
theorem endB7 (h : RI w4 g bs bp L B u Rt Mo sch D s o' p out) (hm : MovI g bp o o' w w4) {z0 z1 z2 z3 z4 z5 z6 : Value} (ht : Box w4 gt [z0, z1, z2, z3, z4, z5, z6]) (hl : Loc g bs bp L gt o') (h3 : w.heap.size ≤ gt) (e0 e1 e2 e3 e4 e5 e6 : Value) :
    RI (((((((w4.setCell ⟨gt, 0, none⟩ e0).setCell ⟨gt, 1, none⟩ e1).setCell ⟨gt, 2, none⟩ e2).setCell ⟨gt, 3, none⟩ e3).setCell ⟨gt, 4, none⟩ e4).setCell ⟨gt, 5, none⟩ e5).setCell ⟨gt, 6, none⟩ e6) g bs bp L B u Rt Mo sch D s o' p out ∧
      (∀ (b : Nat) (vs : List Value), b < gt → Box w4 b vs → Box (((((((w4.setCell ⟨gt, 0, none⟩ e0).setCell ⟨gt, 1, none⟩ e1).setCell ⟨gt, 2, none⟩ e2).setCell ⟨gt, 3, none⟩ e3).setCell ⟨gt, 4, none⟩ e4).setCell ⟨gt, 5, none⟩ e5).setCell ⟨gt, 6, none⟩ e6) b vs) ∧
      Box (((((((w4.setCell ⟨gt, 0, none⟩ e0).setCell ⟨gt, 1, none⟩ e1).setCell ⟨gt, 2, none⟩ e2).setCell ⟨gt, 3, none⟩ e3).setCell ⟨gt, 4, none⟩ e4).setCell ⟨gt, 5, none⟩ e5).setCell ⟨gt, 6, none⟩ e6) gt [e0, e1, e2, e3, e4, e5, e6] ∧
      MovI g bp o o' w (((((((w4.setCell ⟨gt, 0, none⟩ e0).setCell ⟨gt, 1, none⟩ e1).setCell ⟨gt, 2, none⟩ e2).setCell ⟨gt, 3, none⟩ e3).setCell ⟨gt, 4, none⟩ e4).setCell ⟨gt, 5, none⟩ e5).setCell ⟨gt, 6, none⟩ e6) := by
  refine ⟨?_, ?_, ?_, ?_⟩
  · exact ((((((h.loc hl 0 _).loc hl 1 _).loc hl 2 _).loc hl 3 _).loc hl 4 _).loc hl 5 _).loc hl 6 _
  · intro b vs hb hf
    have h1 : gt ≠ b := by omega
    exact ((((((hf.other (a := ⟨gt, 0, none⟩) h1 _).other (a := ⟨gt, 1, none⟩) h1 _).other (a := ⟨gt, 2, none⟩) h1 _).other (a := ⟨gt, 3, none⟩) h1 _).other (a := ⟨gt, 4, none⟩) h1 _).other (a := ⟨gt, 5, none⟩) h1 _).other (a := ⟨gt, 6, none⟩) h1 _
  · have := ((((((ht.set 0 e0).set 1 e1).set 2 e2).set 3 e3).set 4 e4).set 5 e5).set 6 e6
    exact this
  · exact ((((((hm.setX h3 0 _).setX h3 1 _).setX h3 2 _).setX h3 3 _).setX h3 4 _).setX h3 5 _).setX h3 6 _
/-- The same of a field. -/
theorem endB5 (h : RI w4 g bs bp L B u Rt Mo sch D s o' p out) (hm : MovI g bp o o' w w4) {z0 z1 z2 z3 z4 : Value} (ht : Box w4 gt [z0, z1, z2, z3, z4]) (hl : Loc g bs bp L gt o') (h3 : w.heap.size ≤ gt) (e0 e1 e2 e3 e4 : Value) :
    RI (((((w4.setCell ⟨gt, 0, none⟩ e0).setCell ⟨gt, 1, none⟩ e1).setCell ⟨gt, 2, none⟩ e2).setCell ⟨gt, 3, none⟩ e3).setCell ⟨gt, 4, none⟩ e4) g bs bp L B u Rt Mo sch D s o' p out ∧
      (∀ (b : Nat) (vs : List Value), b < gt → Box w4 b vs → Box (((((w4.setCell ⟨gt, 0, none⟩ e0).setCell ⟨gt, 1, none⟩ e1).setCell ⟨gt, 2, none⟩ e2).setCell ⟨gt, 3, none⟩ e3).setCell ⟨gt, 4, none⟩ e4) b vs) ∧
      Box (((((w4.setCell ⟨gt, 0, none⟩ e0).setCell ⟨gt, 1, none⟩ e1).setCell ⟨gt, 2, none⟩ e2).setCell ⟨gt, 3, none⟩ e3).setCell ⟨gt, 4, none⟩ e4) gt [e0, e1, e2, e3, e4] ∧
      MovI g bp o o' w (((((w4.setCell ⟨gt, 0, none⟩ e0).setCell ⟨gt, 1, none⟩ e1).setCell ⟨gt, 2, none⟩ e2).setCell ⟨gt, 3, none⟩ e3).setCell ⟨gt, 4, none⟩ e4) := by
  refine ⟨?_, ?_, ?_, ?_⟩
  · exact ((((h.loc hl 0 _).loc hl 1 _).loc hl 2 _).loc hl 3 _).loc hl 4 _
  · intro b vs hb hf
    have h1 : gt ≠ b := by omega
    exact ((((hf.other (a := ⟨gt, 0, none⟩) h1 _).other (a := ⟨gt, 1, none⟩) h1 _).other (a := ⟨gt, 2, none⟩) h1 _).other (a := ⟨gt, 3, none⟩) h1 _).other (a := ⟨gt, 4, none⟩) h1 _
  · have := ((((ht.set 0 e0).set 1 e1).set 2 e2).set 3 e3).set 4 e4
    exact this
  · exact ((((hm.setX h3 0 _).setX h3 1 _).setX h3 2 _).setX h3 3 _).setX h3 4 _
end
def TagP (g bs bp L B : Nat) (u : Value) (Rt Mo : Int) (sch : List RM) (D : Int) (s : ByteArray) (o : Value) (shape E : Int) (p : Nat) (out : List Ev) (w : World) (e : Ending) (w' : World) : Prop :=
  (∃ c a, rdVar s E ⟨p, out, zeroE⟩ = (0, ⟨p, out, failE c a⟩) ∧ e = .returned (.tuple #[fieldV zeroF, .int .i64 0, evV (failE c a)]) ∧ RI w' g bs bp L B u Rt Mo sch D s o p out ∧ MovI g bp o o w w') ∨
  ∃ U P : Nat, rdVar s E ⟨p, out, zeroE⟩ = ((U : Int), ⟨P, out, zeroE⟩) ∧ p < P ∧ P ≤ s.size ∧ (P : Int) ≤ E ∧ U < 18446744073709551616 ∧ RI w' g bs bp L B u Rt Mo sch D s o P out ∧ MovI g bp o o w w' ∧
    ((∃ c, c ≠ 0 ∧ tagFR sch shape U = (zeroF, 0, c) ∧ e = .returned (.tuple #[fieldV zeroF, .int .i64 0, evV (failE c p)])) ∨ ∃ f x, tagFR sch shape U = (f, x, 0) ∧ e = .returned (.tuple #[fieldV f, .int .i64 x, evV zeroE]))
theorem tagFR_cases (sch : List RM) (shape : Int) (U : Nat) : (∃ c, c ≠ 0 ∧ tagFR sch shape U = (zeroF, 0, c)) ∨ ∃ f x, tagFR sch shape U = (f, x, 0) := by
  unfold tagFR
  split
  · exact .inl ⟨2, by decide, rfl⟩
  · split
    · exact .inl ⟨3, by decide, rfl⟩
    · split
      · exact .inl ⟨4, by decide, rfl⟩
      · exact .inr ⟨_, _, rfl⟩
theorem Box.fresh3R {w : World} {xs ys zs : Array Value} {t v r : TypeId} : Box (((w.alloc (.cells xs t)).alloc (.cells ys v)).alloc (.cells zs r)) (w.heap.size + 1 + 1) zs.toList := by
  have h := Box.fresh ((w.alloc (.cells xs t)).alloc (.cells ys v)) zs r
  rwa [show ((w.alloc (.cells xs t)).alloc (.cells ys v)).heap.size = w.heap.size + 1 + 1 by simp] at h
set_option maxHeartbeats 4000000 in
set_option maxRecDepth 100000 in
theorem readTag_any {w : World} {g bs bp L B p : Nat} {u o : Value} {sch : List RM} {D Rt Mo : Int} {s : ByteArray} {out : List Ev} (h : RI w g bs bp L B u Rt Mo sch D s o p out) (shape E deep : Int) (hsch : Small sch) (hS : SchemaP sch) (hE : (p : Int) ≤ E ∧ E ≤ 9223372036854775807) (hs : s.size ≤ 281474976710656) :
    Calls Tryz.prog 136 #[.pointer (some ⟨g, 0, none⟩), .agg #[.int .i64 shape, .int .i64 E, .int .i64 deep]] w (TagP g bs bp L B u Rt Mo sch D s o shape E p out w) := by
  obtain ⟨ua, uc, rfl⟩ := h.msgs.len
  have hC := numR_cases (x := 0) (E := E) (out := out) (.inl rfl) h.inn
  have hN : ∀ w, RI w g bs bp L B (.slice ua sch.length uc) Rt Mo sch D s o p out → Calls Tryz.prog 94 #[.int .i64 0, .int .i64 E, .pointer (some ⟨bs, 0, none⟩), .pointer (some ⟨bp, 0, none⟩)] w fun e w' =>
      e = .returned (.tuple #[.int .u64 (rdRaw s 0 E ⟨p, out, zeroE⟩).1, evV (rdRaw s 0 E ⟨p, out, zeroE⟩).2.fail]) ∧ RI w' g bs bp L B (.slice ua sch.length uc) Rt Mo sch D s o (rdRaw s 0 E ⟨p, out, zeroE⟩).2.place out ∧ MovI g bp o o w w' := fun w h => number_any h 0 E (.inl rfl) hE hs
  have hQ : rdRaw s 0 E ⟨p, out, zeroE⟩ = rdVar s E ⟨p, out, zeroE⟩ := if_pos rfl
  have hb1 : Below w.heap.size w (((w.alloc (.cells #[.int .i64 shape, .int .i64 E, .int .i64 deep] 87)).alloc (.cells #[.int .i64 0, .int .i64 0, .bool false, .bool false, .int .i64 0] 117)).alloc (.cells #[.int .i64 0, .int .i64 0, .int .u64 0, .int .i64 0, .string ⟨#[]⟩, .int .i64 0, .int .i64 0] 34)) := (((Below.refl _ _).alloc (Nat.le_refl _) _).alloc (by simp) _).alloc (by simp; omega) _
  have H1 := Lib.hid (h.below hb1)
  have Hm1 : Hid (MovI g bp o o w _) := Lib.hid (.of_below hb1)
  have hbm := Lib.hid (((Box.fresh w #[.int .i64 shape, .int .i64 E, .int .i64 deep] 87).alloc (.cells #[.int .i64 0, .int .i64 0, .bool false, .bool false, .int .i64 0] 117)).alloc (.cells #[.int .i64 0, .int .i64 0, .int .u64 0, .int .i64 0, .string ⟨#[]⟩, .int .i64 0, .int .i64 0] 34))
  have hbf : Hid (Box (((w.alloc (.cells #[.int .i64 shape, .int .i64 E, .int .i64 deep] 87)).alloc (.cells #[.int .i64 0, .int .i64 0, .bool false, .bool false, .int .i64 0] 117)).alloc (.cells #[.int .i64 0, .int .i64 0, .int .u64 0, .int .i64 0, .string ⟨#[]⟩, .int .i64 0, .int .i64 0] 34)) (w.heap.size + 1) [.int .i64 0, .int .i64 0, .bool false, .bool false, .int .i64 0]) := Lib.hid (Box.fresh2R.alloc _)
  have hbe : Hid (Box (((w.alloc (.cells #[.int .i64 shape, .int .i64 E, .int .i64 deep] 87)).alloc (.cells #[.int .i64 0, .int .i64 0, .bool false, .bool false, .int .i64 0] 117)).alloc (.cells #[.int .i64 0, .int .i64 0, .int .u64 0, .int .i64 0, .string ⟨#[]⟩, .int .i64 0, .int .i64 0] 34)) (w.heap.size + 1 + 1) [.int .i64 0, .int .i64 0, .int .u64 0, .int .i64 0, .string ⟨#[]⟩, .int .i64 0, .int .i64 0]) := Lib.hid Box.fresh3R
  have hlm := Lib.hid (h.fresh (Nat.le_refl w.heap.size))
  have hlf := Lib.hid (h.fresh (Nat.le_succ w.heap.size))
  have hle := Lib.hid (h.fresh (show w.heap.size ≤ w.heap.size + 1 + 1 by omega))
  have hwz : w.heap.size ≤ (((w.alloc (.cells #[.int .i64 shape, .int .i64 E, .int .i64 deep] 87)).alloc (.cells #[.int .i64 0, .int .i64 0, .bool false, .bool false, .int .i64 0] 117)).alloc (.cells #[.int .i64 0, .int .i64 0, .int .u64 0, .int .i64 0, .string ⟨#[]⟩, .int .i64 0, .int .i64 0] 34)).heap.size := hb1.size
  have hzm : w.heap.size < (((w.alloc (.cells #[.int .i64 shape, .int .i64 E, .int .i64 deep] 87)).alloc (.cells #[.int .i64 0, .int .i64 0, .bool false, .bool false, .int .i64 0] 117)).alloc (.cells #[.int .i64 0, .int .i64 0, .int .u64 0, .int .i64 0, .string ⟨#[]⟩, .int .i64 0, .int .i64 0] 34)).heap.size := hbm.out.lt
  have hzf : w.heap.size + 1 < (((w.alloc (.cells #[.int .i64 shape, .int .i64 E, .int .i64 deep] 87)).alloc (.cells #[.int .i64 0, .int .i64 0, .bool false, .bool false, .int .i64 0] 117)).alloc (.cells #[.int .i64 0, .int .i64 0, .int .u64 0, .int .i64 0, .string ⟨#[]⟩, .int .i64 0, .int .i64 0] 34)).heap.size := hbf.out.lt
  have hze : w.heap.size + 1 + 1 < (((w.alloc (.cells #[.int .i64 shape, .int .i64 E, .int .i64 deep] 87)).alloc (.cells #[.int .i64 0, .int .i64 0, .bool false, .bool false, .int .i64 0] 117)).alloc (.cells #[.int .i64 0, .int .i64 0, .int .u64 0, .int .i64 0, .string ⟨#[]⟩, .int .i64 0, .int .i64 0] 34)).heap.size := hbe.out.lt
  have Hlt := Lib.hid (H1.out.fresh (Nat.le_refl _))
  clear h hb1
  rcases hC with ⟨v, a, c, hc, _, hq⟩ | ⟨U, P, _, hq, hP1, hP2, hP3, hU⟩
  · rw [hq] at hN
    rw [hQ] at hq
    have HN := Lib.hid hN
    clear hN hQ hc
    unfold evV failE at HN
    simp only at HN
    obtain ⟨⟨c0, c1, c2, c3, c4, c5⟩, f5, _⟩ := H1.out.cells
    have hgz := H1.out.lt.1
    unfold plF at c2
    go_enter Tryz.func136, Tryz.ntmps136
    go_wp2_with fail
    refine (place_any H1.out).mono ?_
    rintro e _ ⟨rfl, rfl⟩
    clear c0 c1 c2 c3 c4 c5 f5 hgz
    generalize ((w.alloc (.cells #[.int .i64 shape, .int .i64 E, .int .i64 deep] 87)).alloc (.cells #[.int .i64 0, .int .i64 0, .bool false, .bool false, .int .i64 0] 117)).alloc (.cells #[.int .i64 0, .int .i64 0, .int .u64 0, .int .i64 0, .string ⟨#[]⟩, .int .i64 0, .int .i64 0] 34) = w1 at H1 Hm1 hbm hbf hbe hwz hzm hzf hze Hlt ⊢
    generalize hgm : w.heap.size = gm at hbm hbf hbe hlm hlf hle hzm hzf hze
    have m0 : w1.cell? ⟨gm, 0, none⟩ = some (.int .i64 shape) := (hbm.out.2 0 (by simp)).1
    have mf0 : w1.frozen? ⟨gm, 0, none⟩ = false := (hbm.out.2 0 (by simp)).2
    have m1 : w1.cell? ⟨gm, 1, none⟩ = some (.int .i64 E) := (hbm.out.2 1 (by simp)).1
    have mf1 : w1.frozen? ⟨gm, 1, none⟩ = false := (hbm.out.2 1 (by simp)).2
    have m2 : w1.cell? ⟨gm, 2, none⟩ = some (.int .i64 deep) := (hbm.out.2 2 (by simp)).1
    have mf2 : w1.frozen? ⟨gm, 2, none⟩ = false := (hbm.out.2 2 (by simp)).2
    have mz := hbm.out.lt
    obtain ⟨⟨c0, c1, c2, c3, c4, c5⟩, f5, _⟩ := H1.out.cells
    have hgz := H1.out.lt.1
    unfold nuF at c3
    go_upto_region 2 with fail
    go_cut [8, 9] (fun s8 s9 wx => ∃ gt : Nat, s8 = .int .u64 0 ∧ s9 = .pointer (some ⟨gt, 0, none⟩) ∧ gm + 1 + 1 < gt ∧ Hid (RI wx g bs bp L B (.slice ua sch.length uc) Rt Mo sch D s o p out) ∧ Hid (MovI g bp o o w wx) ∧ Hid (Box wx gm [.int .i64 shape, .int .i64 E, .int .i64 deep]) ∧ Hid (Box wx (gm + 1) [.int .i64 0, .int .i64 0, .bool false, .bool false, .int .i64 0]) ∧ Hid (Box wx (gm + 1 + 1) [.int .i64 0, .int .i64 0, .int .u64 0, .int .i64 0, .string ⟨#[]⟩, .int .i64 0, .int .i64 0]) ∧ Hid (Box wx gt [.int .i64 10, .int .i64 0, .int .u64 0, .int .i64 0, .string ⟨#[]⟩, .int .i64 c, .int .i64 a]))
    case first =>
      go_region_with ((go_at_call 94; refine (HN.out _ ?_).mono ?_; (first | exact H1.out.drew | exact (H1.out.drew.alloc _) | exact ((H1.out.alloc _).drew)); rintro e w4 ⟨rfl, h4, hm4⟩; have h4 := Lib.hid h4; have hm4' : Hid (MovI g bp o o w w4) := Lib.hid (by first | exact Hm1.out.drew.trans hm4 | exact (Hm1.out.drew.alloc _).trans hm4 | exact (Hm1.out.alloc _).drew.trans hm4); have hbm4 : Hid (Box w4 gm [.int .i64 shape, .int .i64 E, .int .i64 deep]) := Lib.hid (by first | exact hm4.keep hbm.out.drew hlm.out | exact hm4.keep (hbm.out.drew.alloc _) hlm.out | exact hm4.keep (hbm.out.alloc _).drew hlm.out); have hlm4 : Hid (Loc g bs bp L gm o) := Lib.hid (by first | exact hlm.out.moved hbm.out.drew.lt hm4 | exact hlm.out.moved (hbm.out.drew.alloc _).lt hm4 | exact hlm.out.moved (hbm.out.alloc _).drew.lt hm4); have hbf4 : Hid (Box w4 (gm + 1) [.int .i64 0, .int .i64 0, .bool false, .bool false, .int .i64 0]) := Lib.hid (by first | exact hm4.keep hbf.out.drew hlf.out | exact hm4.keep (hbf.out.drew.alloc _) hlf.out | exact hm4.keep (hbf.out.alloc _).drew hlf.out); have hlf4 : Hid (Loc g bs bp L (gm + 1) o) := Lib.hid (by first | exact hlf.out.moved hbf.out.drew.lt hm4 | exact hlf.out.moved (hbf.out.drew.alloc _).lt hm4 | exact hlf.out.moved (hbf.out.alloc _).drew.lt hm4); have hbe4 : Hid (Box w4 (gm + 1 + 1) [.int .i64 0, .int .i64 0, .int .u64 0, .int .i64 0, .string ⟨#[]⟩, .int .i64 0, .int .i64 0]) := Lib.hid (by first | exact hm4.keep hbe.out.drew hle.out | exact hm4.keep (hbe.out.drew.alloc _) hle.out | exact hm4.keep (hbe.out.alloc _).drew hle.out); have hle4 : Hid (Loc g bs bp L (gm + 1 + 1) o) := Lib.hid (by first | exact hle.out.moved hbe.out.drew.lt hm4 | exact hle.out.moved (hbe.out.drew.alloc _).lt hm4 | exact hle.out.moved (hbe.out.alloc _).drew.lt hm4); (try have hlt4 : Hid (Loc g bs bp L w1.heap.size o) := Lib.hid (Hlt.out.moved (fresh_lt' w1 _) hm4)); (try have hbt4 : Hid (Box w4 w1.heap.size [.int .i64 0, .int .i64 0, .int .u64 0, .int .i64 0, .string ⟨#[]⟩, .int .i64 0, .int .i64 0]) := Lib.hid (hm4.keep ((Box.fresh w1 #[.int .i64 0, .int .i64 0, .int .u64 0, .int .i64 0, .string ⟨#[]⟩, .int .i64 0, .int .i64 0] 34).drew) Hlt.out); obtain ⟨⟨q0, q1, q2, q3, q4, q5, q6⟩, t0, t1, t2, t3, t4, t5, t6⟩ := hbt4.out.sevenE; have hzt4 := hbt4.out.lt); clear hm4))
      all_goals
        clear c0 c1 c2 c3 c4 c5 f5 m0 m1 m2 mf0 mf1 mf2 mz
        first
          | (have KK := endB7 h4.out hm4'.out hbt4.out hlt4.out hwz (.int .i64 10) (.int .i64 0) (.int .u64 0) (.int .i64 0) (.string ⟨#[]⟩) (.int .i64 c) (.int .i64 a)
             obtain ⟨K0, Kb, K3, K4⟩ := KK
             clear q0 q1 q2 q3 q4 q5 q6 t0 t1 t2 t3 t4 t5 t6 hzt4 hbt4 hlt4
             generalize ((((((w4.setCell ⟨w1.heap.size, 0, none⟩ (.int .i64 10)).setCell ⟨w1.heap.size, 1, none⟩ (.int .i64 0)).setCell ⟨w1.heap.size, 2, none⟩ (.int .u64 0)).setCell ⟨w1.heap.size, 3, none⟩ (.int .i64 0)).setCell ⟨w1.heap.size, 4, none⟩ (.string ⟨#[]⟩)).setCell ⟨w1.heap.size, 5, none⟩ (.int .i64 c)).setCell ⟨w1.heap.size, 6, none⟩ (.int .i64 a) = w5 at K0 Kb K3 K4 ⊢
             generalize hgt : w1.heap.size = gt at K3 Kb ⊢)
          | (have KK := endA7 w1.heap.size h4.out hm4'.out #[.int .i64 10, .int .i64 0, .int .u64 0, .int .i64 0, .string ⟨#[]⟩, .int .i64 c, .int .i64 a] 34
             obtain ⟨K0, Kb, K3, K4⟩ := KK
             generalize w4.alloc (.cells #[.int .i64 10, .int .i64 0, .int .u64 0, .int .i64 0, .string ⟨#[]⟩, .int .i64 c, .int .i64 a] 34) = w5 at K0 Kb K3 K4 ⊢
             generalize hgt : w4.heap.size = gt at K3 ⊢)
        have H5 := Lib.hid K0
        have Hm5 := Lib.hid K4
        have Ht5 := Lib.hid K3
        have Hbm5 : Hid (Box w5 gm [.int .i64 shape, .int .i64 E, .int .i64 deep]) := Lib.hid (Kb _ _ (by omega) hbm4.out)
        have Hbf5 : Hid (Box w5 (gm + 1) [.int .i64 0, .int .i64 0, .bool false, .bool false, .int .i64 0]) := Lib.hid (Kb _ _ (by omega) hbf4.out)
        have Hbe5 : Hid (Box w5 (gm + 1 + 1) [.int .i64 0, .int .i64 0, .int .u64 0, .int .i64 0, .string ⟨#[]⟩, .int .i64 0, .int .i64 0]) := Lib.hid (Kb _ _ (by omega) hbe4.out)
        clear K0 Kb K3 K4 h4
        go_wp2_with fail
        go_meet
        exact ⟨gt, rfl, rfl, by have := hbe4.out.lt; omega, H5, Hm5, Hbm5, Hbf5, Hbe5, Ht5⟩
    case rest =>
    obtain ⟨gt, rfl, rfl, hgt, H5, Hm5, Hbm5, Hbf5, Hbe5, Ht5⟩ := hcut
    clear c0 c1 c2 c3 c4 c5 f5 m0 m1 m2 mf0 mf1 mf2 mz hbm hbf hbe hwz hzm hzf hze hgz H1 Hm1 Hlt
    have n1 : ¬ gm + 1 = gt := by omega
    have n2 : ¬ gt = gm + 1 := by omega
    have n3 : ¬ gm + 1 + 1 = gt := by omega
    have n4 : ¬ gt = gm + 1 + 1 := by omega
    have t0 : wc.cell? ⟨gt, 0, none⟩ = some (.int .i64 10) := (Ht5.out.2 0 (by simp)).1
    have tf0 : wc.frozen? ⟨gt, 0, none⟩ = false := (Ht5.out.2 0 (by simp)).2
    have t1 : wc.cell? ⟨gt, 1, none⟩ = some (.int .i64 0) := (Ht5.out.2 1 (by simp)).1
    have tf1 : wc.frozen? ⟨gt, 1, none⟩ = false := (Ht5.out.2 1 (by simp)).2
    have t2 : wc.cell? ⟨gt, 2, none⟩ = some (.int .u64 0) := (Ht5.out.2 2 (by simp)).1
    have tf2 : wc.frozen? ⟨gt, 2, none⟩ = false := (Ht5.out.2 2 (by simp)).2
    have t3 : wc.cell? ⟨gt, 3, none⟩ = some (.int .i64 0) := (Ht5.out.2 3 (by simp)).1
    have tf3 : wc.frozen? ⟨gt, 3, none⟩ = false := (Ht5.out.2 3 (by simp)).2
    have t4 : wc.cell? ⟨gt, 4, none⟩ = some (.string ⟨#[]⟩) := (Ht5.out.2 4 (by simp)).1
    have tf4 : wc.frozen? ⟨gt, 4, none⟩ = false := (Ht5.out.2 4 (by simp)).2
    have t5 : wc.cell? ⟨gt, 5, none⟩ = some (.int .i64 c) := (Ht5.out.2 5 (by simp)).1
    have tf5 : wc.frozen? ⟨gt, 5, none⟩ = false := (Ht5.out.2 5 (by simp)).2
    have t6 : wc.cell? ⟨gt, 6, none⟩ = some (.int .i64 a) := (Ht5.out.2 6 (by simp)).1
    have tf6 : wc.frozen? ⟨gt, 6, none⟩ = false := (Ht5.out.2 6 (by simp)).2
    have tz := Ht5.out.lt
    go_wp2_with fail
    refine (term_fail c a _).mono ?_
    rintro e w6 ⟨rfl, hb6⟩
    have H6 := Lib.hid (H5.out.below hb6)
    have Hm6 := Lib.hid (Hm5.out.trans (.of_below hb6))
    have hbf6 := Hbf5.out.below hb6 Hbf5.out.lt
    have hbe6 := Hbe5.out.below hb6 Hbe5.out.lt
    have hbt6 := Ht5.out.below hb6 Ht5.out.lt
    clear hb6 t0 tf0 t1 tf1 t2 tf2 t3 tf3 t4 tf4 t5 tf5 t6 tf6 tz
    have t0 : w6.cell? ⟨gt, 0, none⟩ = some (.int .i64 10) := (hbt6.2 0 (by simp)).1
    have tf0 : w6.frozen? ⟨gt, 0, none⟩ = false := (hbt6.2 0 (by simp)).2
    have t1 : w6.cell? ⟨gt, 1, none⟩ = some (.int .i64 0) := (hbt6.2 1 (by simp)).1
    have tf1 : w6.frozen? ⟨gt, 1, none⟩ = false := (hbt6.2 1 (by simp)).2
    have t2 : w6.cell? ⟨gt, 2, none⟩ = some (.int .u64 0) := (hbt6.2 2 (by simp)).1
    have tf2 : w6.frozen? ⟨gt, 2, none⟩ = false := (hbt6.2 2 (by simp)).2
    have t3 : w6.cell? ⟨gt, 3, none⟩ = some (.int .i64 0) := (hbt6.2 3 (by simp)).1
    have tf3 : w6.frozen? ⟨gt, 3, none⟩ = false := (hbt6.2 3 (by simp)).2
    have t4 : w6.cell? ⟨gt, 4, none⟩ = some (.string ⟨#[]⟩) := (hbt6.2 4 (by simp)).1
    have tf4 : w6.frozen? ⟨gt, 4, none⟩ = false := (hbt6.2 4 (by simp)).2
    have t5 : w6.cell? ⟨gt, 5, none⟩ = some (.int .i64 c) := (hbt6.2 5 (by simp)).1
    have tf5 : w6.frozen? ⟨gt, 5, none⟩ = false := (hbt6.2 5 (by simp)).2
    have t6 : w6.cell? ⟨gt, 6, none⟩ = some (.int .i64 a) := (hbt6.2 6 (by simp)).1
    have tf6 : w6.frozen? ⟨gt, 6, none⟩ = false := (hbt6.2 6 (by simp)).2
    have tz := hbt6.lt
    have x0 : w6.cell? ⟨(gm + 1), 0, none⟩ = some (.int .i64 0) := (hbf6.2 0 (by simp)).1
    have xf0 : w6.frozen? ⟨(gm + 1), 0, none⟩ = false := (hbf6.2 0 (by simp)).2
    have x1 : w6.cell? ⟨(gm + 1), 1, none⟩ = some (.int .i64 0) := (hbf6.2 1 (by simp)).1
    have xf1 : w6.frozen? ⟨(gm + 1), 1, none⟩ = false := (hbf6.2 1 (by simp)).2
    have x2 : w6.cell? ⟨(gm + 1), 2, none⟩ = some (.bool false) := (hbf6.2 2 (by simp)).1
    have xf2 : w6.frozen? ⟨(gm + 1), 2, none⟩ = false := (hbf6.2 2 (by simp)).2
    have x3 : w6.cell? ⟨(gm + 1), 3, none⟩ = some (.bool false) := (hbf6.2 3 (by simp)).1
    have xf3 : w6.frozen? ⟨(gm + 1), 3, none⟩ = false := (hbf6.2 3 (by simp)).2
    have x4 : w6.cell? ⟨(gm + 1), 4, none⟩ = some (.int .i64 0) := (hbf6.2 4 (by simp)).1
    have xf4 : w6.frozen? ⟨(gm + 1), 4, none⟩ = false := (hbf6.2 4 (by simp)).2
    have xz := hbf6.lt
    have y0 : w6.cell? ⟨(gm + 1 + 1), 0, none⟩ = some (.int .i64 0) := (hbe6.2 0 (by simp)).1
    have yf0 : w6.frozen? ⟨(gm + 1 + 1), 0, none⟩ = false := (hbe6.2 0 (by simp)).2
    have y1 : w6.cell? ⟨(gm + 1 + 1), 1, none⟩ = some (.int .i64 0) := (hbe6.2 1 (by simp)).1
    have yf1 : w6.frozen? ⟨(gm + 1 + 1), 1, none⟩ = false := (hbe6.2 1 (by simp)).2
    have y2 : w6.cell? ⟨(gm + 1 + 1), 2, none⟩ = some (.int .u64 0) := (hbe6.2 2 (by simp)).1
    have yf2 : w6.frozen? ⟨(gm + 1 + 1), 2, none⟩ = false := (hbe6.2 2 (by simp)).2
    have y3 : w6.cell? ⟨(gm + 1 + 1), 3, none⟩ = some (.int .i64 0) := (hbe6.2 3 (by simp)).1
    have yf3 : w6.frozen? ⟨(gm + 1 + 1), 3, none⟩ = false := (hbe6.2 3 (by simp)).2
    have y4 : w6.cell? ⟨(gm + 1 + 1), 4, none⟩ = some (.string ⟨#[]⟩) := (hbe6.2 4 (by simp)).1
    have yf4 : w6.frozen? ⟨(gm + 1 + 1), 4, none⟩ = false := (hbe6.2 4 (by simp)).2
    have y5 : w6.cell? ⟨(gm + 1 + 1), 5, none⟩ = some (.int .i64 0) := (hbe6.2 5 (by simp)).1
    have yf5 : w6.frozen? ⟨(gm + 1 + 1), 5, none⟩ = false := (hbe6.2 5 (by simp)).2
    have y6 : w6.cell? ⟨(gm + 1 + 1), 6, none⟩ = some (.int .i64 0) := (hbe6.2 6 (by simp)).1
    have yf6 : w6.frozen? ⟨(gm + 1 + 1), 6, none⟩ = false := (hbe6.2 6 (by simp)).2
    have yz := hbe6.lt
    go_wp2_with fail
    go_region
    all_goals
      go_wp2_with fail
      refine bodyPost_ret (v := .tuple #[.agg #[.int .i64 0, .int .i64 0, .bool false, .bool false, .int .i64 0], .int .i64 0, .agg #[.int .i64 10, .int .i64 0, .int .u64 0, .int .i64 0, .string ⟨#[]⟩, .int .i64 c, .int .i64 a]]) (by simp [results, Tryz.results136, go_sem, xz, yz, x0, x1, x2, x3, x4, y0, y1, y2, y3, y4, y5, y6]) rfl ?_
      refine .inl ⟨c, a, hq, rfl, ?_, ?_⟩
      · repeat (first | with_reducible exact H6.out | with_reducible refine RI.drew ?_ | with_reducible refine RI.loc ?_ hlf.out _ _ | with_reducible refine RI.loc ?_ hle.out _ _)
      · repeat (first | with_reducible exact Hm6.out | with_reducible refine MovI.drew ?_ | with_reducible refine MovI.setX ?_ (show w.heap.size ≤ gm + 1 by omega) _ _ | with_reducible refine MovI.setX ?_ (show w.heap.size ≤ gm + 1 + 1 by omega) _ _)
  · rw [hq] at hN
    rw [hQ] at hq
    have HN := Lib.hid hN
    clear hN hQ
    unfold evV zeroE at HN
    simp only at HN
    have HFt : Hid (∀ w, RI w g bs bp L B (.slice ua sch.length uc) Rt Mo sch D s o P out → Calls Tryz.prog 163 #[.agg #[.slice ua sch.length uc], .int .i64 shape, .int .u64 U] w fun e w' => e = .returned (.tuple #[fieldV (tagFR sch shape U).1, .int .i64 (tagFR sch shape U).2.1, .int .i64 (tagFR sch shape U).2.2]) ∧ RI w' g bs bp L B (.slice ua sch.length uc) Rt Mo sch D s o P out ∧ MovI g bp o o w w') := Lib.hid fun w h => (fieldOfTag_any (.slice ua sch.length uc) sch shape U w (h.msgs.keep (fun _ _ _ => rfl) fun b hb => by have h1 := h.gL; have h2 := h.lt.1; have h3 : b < L := hb; show b < w.heap.size; omega) hsch hS (by omega)).mono fun e w' ⟨he, hb⟩ => ⟨he, h.below hb, .of_below hb⟩
    have HTc := Lib.hid (tagFR_cases sch shape U)
    obtain ⟨⟨⟨A1, A2, A3, A4, A5⟩, x, c⟩, hR⟩ : ∃ R, tagFR sch shape U = R := ⟨_, rfl⟩
    rw [hR] at HFt HTc
    have HR := Lib.hid hR
    clear hR
    unfold fieldV at HFt
    simp only at HFt
    obtain ⟨⟨c0, c1, c2, c3, c4, c5⟩, f5, _⟩ := H1.out.cells
    have hgz := H1.out.lt.1
    unfold plF at c2
    go_enter Tryz.func136, Tryz.ntmps136
    go_wp2_with fail
    refine (place_any H1.out).mono ?_
    rintro e _ ⟨rfl, rfl⟩
    clear c0 c1 c2 c3 c4 c5 f5 hgz
    generalize ((w.alloc (.cells #[.int .i64 shape, .int .i64 E, .int .i64 deep] 87)).alloc (.cells #[.int .i64 0, .int .i64 0, .bool false, .bool false, .int .i64 0] 117)).alloc (.cells #[.int .i64 0, .int .i64 0, .int .u64 0, .int .i64 0, .string ⟨#[]⟩, .int .i64 0, .int .i64 0] 34) = w1 at H1 Hm1 hbm hbf hbe hwz hzm hzf hze Hlt ⊢
    generalize hgm : w.heap.size = gm at hbm hbf hbe hlm hlf hle hzm hzf hze
    have m0 : w1.cell? ⟨gm, 0, none⟩ = some (.int .i64 shape) := (hbm.out.2 0 (by simp)).1
    have mf0 : w1.frozen? ⟨gm, 0, none⟩ = false := (hbm.out.2 0 (by simp)).2
    have m1 : w1.cell? ⟨gm, 1, none⟩ = some (.int .i64 E) := (hbm.out.2 1 (by simp)).1
    have mf1 : w1.frozen? ⟨gm, 1, none⟩ = false := (hbm.out.2 1 (by simp)).2
    have m2 : w1.cell? ⟨gm, 2, none⟩ = some (.int .i64 deep) := (hbm.out.2 2 (by simp)).1
    have mf2 : w1.frozen? ⟨gm, 2, none⟩ = false := (hbm.out.2 2 (by simp)).2
    have mz := hbm.out.lt
    obtain ⟨⟨c0, c1, c2, c3, c4, c5⟩, f5, _⟩ := H1.out.cells
    have hgz := H1.out.lt.1
    unfold nuF at c3
    go_upto_region 2 with fail
    go_cut [8, 9] (fun s8 s9 wx => ∃ gt : Nat, s8 = .int .u64 U ∧ s9 = .pointer (some ⟨gt, 0, none⟩) ∧ gm + 1 + 1 < gt ∧ Hid (RI wx g bs bp L B (.slice ua sch.length uc) Rt Mo sch D s o P out) ∧ Hid (MovI g bp o o w wx) ∧ Hid (Box wx gm [.int .i64 shape, .int .i64 E, .int .i64 deep]) ∧ Hid (Box wx (gm + 1) [.int .i64 0, .int .i64 0, .bool false, .bool false, .int .i64 0]) ∧ Hid (Box wx (gm + 1 + 1) [.int .i64 0, .int .i64 0, .int .u64 0, .int .i64 0, .string ⟨#[]⟩, .int .i64 0, .int .i64 0]) ∧ Hid (Box wx gt [.int .i64 0, .int .i64 0, .int .u64 0, .int .i64 0, .string ⟨#[]⟩, .int .i64 0, .int .i64 0]))
    case first =>
      go_region_with ((go_at_call 94; refine (HN.out _ ?_).mono ?_; (first | exact H1.out.drew | exact (H1.out.drew.alloc _) | exact ((H1.out.alloc _).drew)); rintro e w4 ⟨rfl, h4, hm4⟩; have h4 := Lib.hid h4; have hm4' : Hid (MovI g bp o o w w4) := Lib.hid (by first | exact Hm1.out.drew.trans hm4 | exact (Hm1.out.drew.alloc _).trans hm4 | exact (Hm1.out.alloc _).drew.trans hm4); have hbm4 : Hid (Box w4 gm [.int .i64 shape, .int .i64 E, .int .i64 deep]) := Lib.hid (by first | exact hm4.keep hbm.out.drew hlm.out | exact hm4.keep (hbm.out.drew.alloc _) hlm.out | exact hm4.keep (hbm.out.alloc _).drew hlm.out); have hlm4 : Hid (Loc g bs bp L gm o) := Lib.hid (by first | exact hlm.out.moved hbm.out.drew.lt hm4 | exact hlm.out.moved (hbm.out.drew.alloc _).lt hm4 | exact hlm.out.moved (hbm.out.alloc _).drew.lt hm4); have hbf4 : Hid (Box w4 (gm + 1) [.int .i64 0, .int .i64 0, .bool false, .bool false, .int .i64 0]) := Lib.hid (by first | exact hm4.keep hbf.out.drew hlf.out | exact hm4.keep (hbf.out.drew.alloc _) hlf.out | exact hm4.keep (hbf.out.alloc _).drew hlf.out); have hlf4 : Hid (Loc g bs bp L (gm + 1) o) := Lib.hid (by first | exact hlf.out.moved hbf.out.drew.lt hm4 | exact hlf.out.moved (hbf.out.drew.alloc _).lt hm4 | exact hlf.out.moved (hbf.out.alloc _).drew.lt hm4); have hbe4 : Hid (Box w4 (gm + 1 + 1) [.int .i64 0, .int .i64 0, .int .u64 0, .int .i64 0, .string ⟨#[]⟩, .int .i64 0, .int .i64 0]) := Lib.hid (by first | exact hm4.keep hbe.out.drew hle.out | exact hm4.keep (hbe.out.drew.alloc _) hle.out | exact hm4.keep (hbe.out.alloc _).drew hle.out); have hle4 : Hid (Loc g bs bp L (gm + 1 + 1) o) := Lib.hid (by first | exact hle.out.moved hbe.out.drew.lt hm4 | exact hle.out.moved (hbe.out.drew.alloc _).lt hm4 | exact hle.out.moved (hbe.out.alloc _).drew.lt hm4); (try have hlt4 : Hid (Loc g bs bp L w1.heap.size o) := Lib.hid (Hlt.out.moved (fresh_lt' w1 _) hm4)); (try have hbt4 : Hid (Box w4 w1.heap.size [.int .i64 0, .int .i64 0, .int .u64 0, .int .i64 0, .string ⟨#[]⟩, .int .i64 0, .int .i64 0]) := Lib.hid (hm4.keep ((Box.fresh w1 #[.int .i64 0, .int .i64 0, .int .u64 0, .int .i64 0, .string ⟨#[]⟩, .int .i64 0, .int .i64 0] 34).drew) Hlt.out); obtain ⟨⟨q0, q1, q2, q3, q4, q5, q6⟩, t0, t1, t2, t3, t4, t5, t6⟩ := hbt4.out.sevenE; have hzt4 := hbt4.out.lt); clear hm4))
      all_goals
        clear c0 c1 c2 c3 c4 c5 f5 m0 m1 m2 mf0 mf1 mf2 mz
        first
          | (have KK := endB7 h4.out hm4'.out hbt4.out hlt4.out hwz (.int .i64 0) (.int .i64 0) (.int .u64 0) (.int .i64 0) (.string ⟨#[]⟩) (.int .i64 0) (.int .i64 0)
             obtain ⟨K0, Kb, K3, K4⟩ := KK
             clear q0 q1 q2 q3 q4 q5 q6 t0 t1 t2 t3 t4 t5 t6 hzt4 hbt4 hlt4
             generalize ((((((w4.setCell ⟨w1.heap.size, 0, none⟩ (.int .i64 0)).setCell ⟨w1.heap.size, 1, none⟩ (.int .i64 0)).setCell ⟨w1.heap.size, 2, none⟩ (.int .u64 0)).setCell ⟨w1.heap.size, 3, none⟩ (.int .i64 0)).setCell ⟨w1.heap.size, 4, none⟩ (.string ⟨#[]⟩)).setCell ⟨w1.heap.size, 5, none⟩ (.int .i64 0)).setCell ⟨w1.heap.size, 6, none⟩ (.int .i64 0) = w5 at K0 Kb K3 K4 ⊢
             generalize hgt : w1.heap.size = gt at K3 Kb ⊢)
          | (have KK := endA7 w1.heap.size h4.out hm4'.out #[.int .i64 0, .int .i64 0, .int .u64 0, .int .i64 0, .string ⟨#[]⟩, .int .i64 0, .int .i64 0] 34
             obtain ⟨K0, Kb, K3, K4⟩ := KK
             generalize w4.alloc (.cells #[.int .i64 0, .int .i64 0, .int .u64 0, .int .i64 0, .string ⟨#[]⟩, .int .i64 0, .int .i64 0] 34) = w5 at K0 Kb K3 K4 ⊢
             generalize hgt : w4.heap.size = gt at K3 ⊢)
        have H5 := Lib.hid K0
        have Hm5 := Lib.hid K4
        have Ht5 := Lib.hid K3
        have Hbm5 : Hid (Box w5 gm [.int .i64 shape, .int .i64 E, .int .i64 deep]) := Lib.hid (Kb _ _ (by omega) hbm4.out)
        have Hbf5 : Hid (Box w5 (gm + 1) [.int .i64 0, .int .i64 0, .bool false, .bool false, .int .i64 0]) := Lib.hid (Kb _ _ (by omega) hbf4.out)
        have Hbe5 : Hid (Box w5 (gm + 1 + 1) [.int .i64 0, .int .i64 0, .int .u64 0, .int .i64 0, .string ⟨#[]⟩, .int .i64 0, .int .i64 0]) := Lib.hid (Kb _ _ (by omega) hbe4.out)
        clear K0 Kb K3 K4 h4
        go_wp2_with fail
        go_meet
        exact ⟨gt, rfl, rfl, by have := hbe4.out.lt; omega, H5, Hm5, Hbm5, Hbf5, Hbe5, Ht5⟩
    case rest =>
    obtain ⟨gt, rfl, rfl, hgt, H5, Hm5, Hbm5, Hbf5, Hbe5, Ht5⟩ := hcut
    clear c0 c1 c2 c3 c4 c5 f5 m0 m1 m2 mf0 mf1 mf2 mz hbm hbf hbe hwz hzm hzf hze hgz H1 Hm1 Hlt
    have n1 : ¬ gm + 1 = gt := by omega
    have n2 : ¬ gt = gm + 1 := by omega
    have n3 : ¬ gm + 1 + 1 = gt := by omega
    have n4 : ¬ gt = gm + 1 + 1 := by omega
    have t0 : wc.cell? ⟨gt, 0, none⟩ = some (.int .i64 0) := (Ht5.out.2 0 (by simp)).1
    have tf0 : wc.frozen? ⟨gt, 0, none⟩ = false := (Ht5.out.2 0 (by simp)).2
    have t1 : wc.cell? ⟨gt, 1, none⟩ = some (.int .i64 0) := (Ht5.out.2 1 (by simp)).1
    have tf1 : wc.frozen? ⟨gt, 1, none⟩ = false := (Ht5.out.2 1 (by simp)).2
    have t2 : wc.cell? ⟨gt, 2, none⟩ = some (.int .u64 0) := (Ht5.out.2 2 (by simp)).1
    have tf2 : wc.frozen? ⟨gt, 2, none⟩ = false := (Ht5.out.2 2 (by simp)).2
    have t3 : wc.cell? ⟨gt, 3, none⟩ = some (.int .i64 0) := (Ht5.out.2 3 (by simp)).1
    have tf3 : wc.frozen? ⟨gt, 3, none⟩ = false := (Ht5.out.2 3 (by simp)).2
    have t4 : wc.cell? ⟨gt, 4, none⟩ = some (.string ⟨#[]⟩) := (Ht5.out.2 4 (by simp)).1
    have tf4 : wc.frozen? ⟨gt, 4, none⟩ = false := (Ht5.out.2 4 (by simp)).2
    have t5 : wc.cell? ⟨gt, 5, none⟩ = some (.int .i64 0) := (Ht5.out.2 5 (by simp)).1
    have tf5 : wc.frozen? ⟨gt, 5, none⟩ = false := (Ht5.out.2 5 (by simp)).2
    have t6 : wc.cell? ⟨gt, 6, none⟩ = some (.int .i64 0) := (Ht5.out.2 6 (by simp)).1
    have tf6 : wc.frozen? ⟨gt, 6, none⟩ = false := (Ht5.out.2 6 (by simp)).2
    have tz := Ht5.out.lt
    go_wp2_with fail
    refine (term_zero _).mono ?_
    rintro e w6 ⟨rfl, hb6⟩
    have H6 := Lib.hid (H5.out.below hb6)
    have Hm6 := Lib.hid (Hm5.out.trans (.of_below hb6))
    have hwz := Hm6.out.size
    have hbm := Lib.hid (Hbm5.out.below hb6 Hbm5.out.lt)
    have hbf := Lib.hid (Hbf5.out.below hb6 Hbf5.out.lt)
    have hbe := Lib.hid (Hbe5.out.below hb6 Hbe5.out.lt)
    clear hb6 t0 tf0 t1 tf1 t2 tf2 t3 tf3 t4 tf4 t5 tf5 t6 tf6 tz Hbm5 Hbf5 Hbe5 Hm5 H5 Ht5
    have hzm := hbm.out.lt
    have hzf := hbf.out.lt
    have hze := hbe.out.lt
    have Hlt := Lib.hid (H6.out.fresh (Nat.le_refl w6.heap.size))
    have m0 : w6.cell? ⟨gm, 0, none⟩ = some (.int .i64 shape) := (hbm.out.2 0 (by simp)).1
    have mf0 : w6.frozen? ⟨gm, 0, none⟩ = false := (hbm.out.2 0 (by simp)).2
    have m1 : w6.cell? ⟨gm, 1, none⟩ = some (.int .i64 E) := (hbm.out.2 1 (by simp)).1
    have mf1 : w6.frozen? ⟨gm, 1, none⟩ = false := (hbm.out.2 1 (by simp)).2
    have m2 : w6.cell? ⟨gm, 2, none⟩ = some (.int .i64 deep) := (hbm.out.2 2 (by simp)).1
    have mf2 : w6.frozen? ⟨gm, 2, none⟩ = false := (hbm.out.2 2 (by simp)).2
    have mz := hbm.out.lt
    obtain ⟨⟨c0, c1, c2, c3, c4, c5⟩, f5, _⟩ := H6.out.cells
    have hgz := H6.out.lt.1
    go_upto_region 5 with fail
    go_cut [10, 11, 12] (fun s10 s11 s12 wx => ∃ gx : Nat, s10 = .pointer (some ⟨gx, 0, none⟩) ∧ s11 = .int .i64 x ∧ s12 = .int .i64 c ∧ gm + 1 + 1 < gx ∧ Hid (RI wx g bs bp L B (.slice ua sch.length uc) Rt Mo sch D s o P out) ∧ Hid (MovI g bp o o w wx) ∧ Hid (Box wx gm [.int .i64 shape, .int .i64 E, .int .i64 deep]) ∧ Hid (Box wx (gm + 1) [.int .i64 0, .int .i64 0, .bool false, .bool false, .int .i64 0]) ∧ Hid (Box wx (gm + 1 + 1) [.int .i64 0, .int .i64 0, .int .u64 0, .int .i64 0, .string ⟨#[]⟩, .int .i64 0, .int .i64 0]) ∧ Hid (Box wx gx [.int .i64 A1, .int .i64 A2, .bool A3, .bool A4, .int .i64 A5]))
    case first =>
      go_region_with ((go_at_call 163; refine (HFt.out _ ?_).mono ?_; (first | exact H6.out.drew | exact (H6.out.drew.alloc _) | exact ((H6.out.alloc _).drew)); rintro e w4 ⟨rfl, h4, hm4⟩; have h4 := Lib.hid h4; have hm4' : Hid (MovI g bp o o w w4) := Lib.hid (by first | exact Hm6.out.drew.trans hm4 | exact (Hm6.out.drew.alloc _).trans hm4 | exact (Hm6.out.alloc _).drew.trans hm4); have hbm4 : Hid (Box w4 gm [.int .i64 shape, .int .i64 E, .int .i64 deep]) := Lib.hid (by first | exact hm4.keep hbm.out.drew hlm.out | exact hm4.keep (hbm.out.drew.alloc _) hlm.out | exact hm4.keep (hbm.out.alloc _).drew hlm.out); have hlm4 : Hid (Loc g bs bp L gm o) := Lib.hid (by first | exact hlm.out.moved hbm.out.drew.lt hm4 | exact hlm.out.moved (hbm.out.drew.alloc _).lt hm4 | exact hlm.out.moved (hbm.out.alloc _).drew.lt hm4); have hbf4 : Hid (Box w4 (gm + 1) [.int .i64 0, .int .i64 0, .bool false, .bool false, .int .i64 0]) := Lib.hid (by first | exact hm4.keep hbf.out.drew hlf.out | exact hm4.keep (hbf.out.drew.alloc _) hlf.out | exact hm4.keep (hbf.out.alloc _).drew hlf.out); have hlf4 : Hid (Loc g bs bp L (gm + 1) o) := Lib.hid (by first | exact hlf.out.moved hbf.out.drew.lt hm4 | exact hlf.out.moved (hbf.out.drew.alloc _).lt hm4 | exact hlf.out.moved (hbf.out.alloc _).drew.lt hm4); have hbe4 : Hid (Box w4 (gm + 1 + 1) [.int .i64 0, .int .i64 0, .int .u64 0, .int .i64 0, .string ⟨#[]⟩, .int .i64 0, .int .i64 0]) := Lib.hid (by first | exact hm4.keep hbe.out.drew hle.out | exact hm4.keep (hbe.out.drew.alloc _) hle.out | exact hm4.keep (hbe.out.alloc _).drew hle.out); have hle4 : Hid (Loc g bs bp L (gm + 1 + 1) o) := Lib.hid (by first | exact hle.out.moved hbe.out.drew.lt hm4 | exact hle.out.moved (hbe.out.drew.alloc _).lt hm4 | exact hle.out.moved (hbe.out.alloc _).drew.lt hm4); (try have hlt4 : Hid (Loc g bs bp L w6.heap.size o) := Lib.hid (Hlt.out.moved (fresh_lt' w6 _) hm4)); (try have hbt4 : Hid (Box w4 w6.heap.size [.int .i64 0, .int .i64 0, .bool false, .bool false, .int .i64 0]) := Lib.hid (hm4.keep ((Box.fresh w6 #[.int .i64 0, .int .i64 0, .bool false, .bool false, .int .i64 0] 117).drew) Hlt.out); obtain ⟨q0, q1, q2, q3, q4⟩ := hbt4.out.fiveR; have qf0 := (hbt4.out.2 0 (by simp)).2; have qf1 := (hbt4.out.2 1 (by simp)).2; have qf2 := (hbt4.out.2 2 (by simp)).2; have qf3 := (hbt4.out.2 3 (by simp)).2; have qf4 := (hbt4.out.2 4 (by simp)).2; have hzt4 := hbt4.out.lt); clear hm4))
      all_goals
        clear c0 c1 c2 c3 c4 c5 f5 m0 m1 m2 mf0 mf1 mf2 mz
        first
          | (have KK := endB5 h4.out hm4'.out hbt4.out hlt4.out hwz (.int .i64 A1) (.int .i64 A2) (.bool A3) (.bool A4) (.int .i64 A5)
             obtain ⟨K0, Kb, K3, K4⟩ := KK
             clear q0 q1 q2 q3 q4 qf0 qf1 qf2 qf3 qf4 hzt4 hbt4 hlt4
             generalize ((((w4.setCell ⟨w6.heap.size, 0, none⟩ (.int .i64 A1)).setCell ⟨w6.heap.size, 1, none⟩ (.int .i64 A2)).setCell ⟨w6.heap.size, 2, none⟩ (.bool A3)).setCell ⟨w6.heap.size, 3, none⟩ (.bool A4)).setCell ⟨w6.heap.size, 4, none⟩ (.int .i64 A5) = w5 at K0 Kb K3 K4 ⊢
             generalize hgx : w6.heap.size = gx at K3 Kb ⊢)
          | (have KK := endA7 w6.heap.size h4.out hm4'.out #[.int .i64 A1, .int .i64 A2, .bool A3, .bool A4, .int .i64 A5] 117
             obtain ⟨K0, Kb, K3, K4⟩ := KK
             generalize w4.alloc (.cells #[.int .i64 A1, .int .i64 A2, .bool A3, .bool A4, .int .i64 A5] 117) = w5 at K0 Kb K3 K4 ⊢
             generalize hgx : w4.heap.size = gx at K3 ⊢)
        have H5 := Lib.hid K0
        have Hm5 := Lib.hid K4
        have Ht5 := Lib.hid K3
        have Hbm5 : Hid (Box w5 gm [.int .i64 shape, .int .i64 E, .int .i64 deep]) := Lib.hid (Kb _ _ (by omega) hbm4.out)
        have Hbf5 : Hid (Box w5 (gm + 1) [.int .i64 0, .int .i64 0, .bool false, .bool false, .int .i64 0]) := Lib.hid (Kb _ _ (by omega) hbf4.out)
        have Hbe5 : Hid (Box w5 (gm + 1 + 1) [.int .i64 0, .int .i64 0, .int .u64 0, .int .i64 0, .string ⟨#[]⟩, .int .i64 0, .int .i64 0]) := Lib.hid (Kb _ _ (by omega) hbe4.out)
        clear K0 Kb K3 K4 h4
        go_wp2_with fail
        go_meet
        exact ⟨gx, rfl, rfl, rfl, by have := hbe4.out.lt; omega, H5, Hm5, Hbm5, Hbf5, Hbe5, Ht5⟩
    case rest =>
    obtain ⟨gx, rfl, rfl, rfl, hgx, H5, Hm5, Hbm5, Hbf5, Hbe5, Ht5⟩ := hcut
    clear c0 c1 c2 c3 c4 c5 f5 m0 m1 m2 mf0 mf1 mf2 mz hbm hbf hbe hwz hzm hzf hze hgz H6 Hm6 Hlt
    by_cases hc : c = 0
    · subst hc
      have t0 : wc.cell? ⟨gx, 0, none⟩ = some (.int .i64 A1) := (Ht5.out.2 0 (by simp)).1
      have tf0 : wc.frozen? ⟨gx, 0, none⟩ = false := (Ht5.out.2 0 (by simp)).2
      have t1 : wc.cell? ⟨gx, 1, none⟩ = some (.int .i64 A2) := (Ht5.out.2 1 (by simp)).1
      have tf1 : wc.frozen? ⟨gx, 1, none⟩ = false := (Ht5.out.2 1 (by simp)).2
      have t2 : wc.cell? ⟨gx, 2, none⟩ = some (.bool A3) := (Ht5.out.2 2 (by simp)).1
      have tf2 : wc.frozen? ⟨gx, 2, none⟩ = false := (Ht5.out.2 2 (by simp)).2
      have t3 : wc.cell? ⟨gx, 3, none⟩ = some (.bool A4) := (Ht5.out.2 3 (by simp)).1
      have tf3 : wc.frozen? ⟨gx, 3, none⟩ = false := (Ht5.out.2 3 (by simp)).2
      have t4 : wc.cell? ⟨gx, 4, none⟩ = some (.int .i64 A5) := (Ht5.out.2 4 (by simp)).1
      have tf4 : wc.frozen? ⟨gx, 4, none⟩ = false := (Ht5.out.2 4 (by simp)).2
      have tz := Ht5.out.lt
      have x0 : wc.cell? ⟨(gm + 1), 0, none⟩ = some (.int .i64 0) := (Hbf5.out.2 0 (by simp)).1
      have xf0 : wc.frozen? ⟨(gm + 1), 0, none⟩ = false := (Hbf5.out.2 0 (by simp)).2
      have x1 : wc.cell? ⟨(gm + 1), 1, none⟩ = some (.int .i64 0) := (Hbf5.out.2 1 (by simp)).1
      have xf1 : wc.frozen? ⟨(gm + 1), 1, none⟩ = false := (Hbf5.out.2 1 (by simp)).2
      have x2 : wc.cell? ⟨(gm + 1), 2, none⟩ = some (.bool false) := (Hbf5.out.2 2 (by simp)).1
      have xf2 : wc.frozen? ⟨(gm + 1), 2, none⟩ = false := (Hbf5.out.2 2 (by simp)).2
      have x3 : wc.cell? ⟨(gm + 1), 3, none⟩ = some (.bool false) := (Hbf5.out.2 3 (by simp)).1
      have xf3 : wc.frozen? ⟨(gm + 1), 3, none⟩ = false := (Hbf5.out.2 3 (by simp)).2
      have x4 : wc.cell? ⟨(gm + 1), 4, none⟩ = some (.int .i64 0) := (Hbf5.out.2 4 (by simp)).1
      have xf4 : wc.frozen? ⟨(gm + 1), 4, none⟩ = false := (Hbf5.out.2 4 (by simp)).2
      have xz := Hbf5.out.lt
      have y0 : wc.cell? ⟨(gm + 1 + 1), 0, none⟩ = some (.int .i64 0) := (Hbe5.out.2 0 (by simp)).1
      have yf0 : wc.frozen? ⟨(gm + 1 + 1), 0, none⟩ = false := (Hbe5.out.2 0 (by simp)).2
      have y1 : wc.cell? ⟨(gm + 1 + 1), 1, none⟩ = some (.int .i64 0) := (Hbe5.out.2 1 (by simp)).1
      have yf1 : wc.frozen? ⟨(gm + 1 + 1), 1, none⟩ = false := (Hbe5.out.2 1 (by simp)).2
      have y2 : wc.cell? ⟨(gm + 1 + 1), 2, none⟩ = some (.int .u64 0) := (Hbe5.out.2 2 (by simp)).1
      have yf2 : wc.frozen? ⟨(gm + 1 + 1), 2, none⟩ = false := (Hbe5.out.2 2 (by simp)).2
      have y3 : wc.cell? ⟨(gm + 1 + 1), 3, none⟩ = some (.int .i64 0) := (Hbe5.out.2 3 (by simp)).1
      have yf3 : wc.frozen? ⟨(gm + 1 + 1), 3, none⟩ = false := (Hbe5.out.2 3 (by simp)).2
      have y4 : wc.cell? ⟨(gm + 1 + 1), 4, none⟩ = some (.string ⟨#[]⟩) := (Hbe5.out.2 4 (by simp)).1
      have yf4 : wc.frozen? ⟨(gm + 1 + 1), 4, none⟩ = false := (Hbe5.out.2 4 (by simp)).2
      have y5 : wc.cell? ⟨(gm + 1 + 1), 5, none⟩ = some (.int .i64 0) := (Hbe5.out.2 5 (by simp)).1
      have yf5 : wc.frozen? ⟨(gm + 1 + 1), 5, none⟩ = false := (Hbe5.out.2 5 (by simp)).2
      have y6 : wc.cell? ⟨(gm + 1 + 1), 6, none⟩ = some (.int .i64 0) := (Hbe5.out.2 6 (by simp)).1
      have yf6 : wc.frozen? ⟨(gm + 1 + 1), 6, none⟩ = false := (Hbe5.out.2 6 (by simp)).2
      have yz := Hbe5.out.lt
      go_wp2_with fail
      refine bodyPost_ret (v := .tuple #[.agg #[.int .i64 A1, .int .i64 A2, .bool A3, .bool A4, .int .i64 A5], .int .i64 x, .agg #[.int .i64 0, .int .i64 0, .int .u64 0, .int .i64 0, .string ⟨#[]⟩, .int .i64 0, .int .i64 0]]) (by simp [results, Tryz.results136, go_sem, xz, yz, x0, x1, x2, x3, x4, y0, y1, y2, y3, y4, y5, y6]) rfl ?_
      refine .inr ⟨U, P, hq, hP1, hP2, hP3, hU, ?_, ?_, .inr ⟨_, _, HR.out, rfl⟩⟩
      · repeat (first | with_reducible exact H5.out | with_reducible refine RI.loc ?_ hlf.out _ _ | with_reducible refine RI.loc ?_ hle.out _ _)
      · repeat (first | with_reducible exact Hm5.out | with_reducible refine MovI.setX ?_ (show w.heap.size ≤ gm + 1 by omega) _ _ | with_reducible refine MovI.setX ?_ (show w.heap.size ≤ gm + 1 + 1 by omega) _ _)
    · have hcb : (c != 0) = true := by simpa using hc
      have hz : (A1, A2, A3, A4, A5) = zeroF ∧ x = 0 := by
        rcases HTc.out with ⟨c', _, h2⟩ | ⟨f', x', h2⟩
        · exact ⟨(Prod.mk.inj h2).1, (Prod.mk.inj (Prod.mk.inj h2).2).1⟩
        · exact absurd (Prod.mk.inj (Prod.mk.inj h2).2).2 hc
      have HR2 : Hid (tagFR sch shape U = (zeroF, 0, c)) := Lib.hid (by rw [HR.out, hz.1, hz.2])
      have Hc := Lib.hid hc
      clear hc hz
      go_wp2_with fail
      refine (failure_any c p _).mono ?_
      rw [fail_evV]
      rintro e w7 ⟨rfl, hb7⟩
      have H7 := Lib.hid (H5.out.below hb7)
      have Hm7 := Lib.hid (Hm5.out.trans (.of_below hb7))
      have hbf7 := Hbf5.out.below hb7 Hbf5.out.lt
      have hbe7 := Hbe5.out.below hb7 Hbe5.out.lt
      clear hb7
      have x0 : w7.cell? ⟨(gm + 1), 0, none⟩ = some (.int .i64 0) := (hbf7.2 0 (by simp)).1
      have xf0 : w7.frozen? ⟨(gm + 1), 0, none⟩ = false := (hbf7.2 0 (by simp)).2
      have x1 : w7.cell? ⟨(gm + 1), 1, none⟩ = some (.int .i64 0) := (hbf7.2 1 (by simp)).1
      have xf1 : w7.frozen? ⟨(gm + 1), 1, none⟩ = false := (hbf7.2 1 (by simp)).2
      have x2 : w7.cell? ⟨(gm + 1), 2, none⟩ = some (.bool false) := (hbf7.2 2 (by simp)).1
      have xf2 : w7.frozen? ⟨(gm + 1), 2, none⟩ = false := (hbf7.2 2 (by simp)).2
      have x3 : w7.cell? ⟨(gm + 1), 3, none⟩ = some (.bool false) := (hbf7.2 3 (by simp)).1
      have xf3 : w7.frozen? ⟨(gm + 1), 3, none⟩ = false := (hbf7.2 3 (by simp)).2
      have x4 : w7.cell? ⟨(gm + 1), 4, none⟩ = some (.int .i64 0) := (hbf7.2 4 (by simp)).1
      have xf4 : w7.frozen? ⟨(gm + 1), 4, none⟩ = false := (hbf7.2 4 (by simp)).2
      have xz := hbf7.lt
      have y0 : w7.cell? ⟨(gm + 1 + 1), 0, none⟩ = some (.int .i64 0) := (hbe7.2 0 (by simp)).1
      have yf0 : w7.frozen? ⟨(gm + 1 + 1), 0, none⟩ = false := (hbe7.2 0 (by simp)).2
      have y1 : w7.cell? ⟨(gm + 1 + 1), 1, none⟩ = some (.int .i64 0) := (hbe7.2 1 (by simp)).1
      have yf1 : w7.frozen? ⟨(gm + 1 + 1), 1, none⟩ = false := (hbe7.2 1 (by simp)).2
      have y2 : w7.cell? ⟨(gm + 1 + 1), 2, none⟩ = some (.int .u64 0) := (hbe7.2 2 (by simp)).1
      have yf2 : w7.frozen? ⟨(gm + 1 + 1), 2, none⟩ = false := (hbe7.2 2 (by simp)).2
      have y3 : w7.cell? ⟨(gm + 1 + 1), 3, none⟩ = some (.int .i64 0) := (hbe7.2 3 (by simp)).1
      have yf3 : w7.frozen? ⟨(gm + 1 + 1), 3, none⟩ = false := (hbe7.2 3 (by simp)).2
      have y4 : w7.cell? ⟨(gm + 1 + 1), 4, none⟩ = some (.string ⟨#[]⟩) := (hbe7.2 4 (by simp)).1
      have yf4 : w7.frozen? ⟨(gm + 1 + 1), 4, none⟩ = false := (hbe7.2 4 (by simp)).2
      have y5 : w7.cell? ⟨(gm + 1 + 1), 5, none⟩ = some (.int .i64 0) := (hbe7.2 5 (by simp)).1
      have yf5 : w7.frozen? ⟨(gm + 1 + 1), 5, none⟩ = false := (hbe7.2 5 (by simp)).2
      have y6 : w7.cell? ⟨(gm + 1 + 1), 6, none⟩ = some (.int .i64 0) := (hbe7.2 6 (by simp)).1
      have yf6 : w7.frozen? ⟨(gm + 1 + 1), 6, none⟩ = false := (hbe7.2 6 (by simp)).2
      have yz := hbe7.lt
      go_wp2_with fail
      refine bodyPost_ret (v := .tuple #[.agg #[.int .i64 0, .int .i64 0, .bool false, .bool false, .int .i64 0], .int .i64 0, .agg #[.int .i64 10, .int .i64 0, .int .u64 0, .int .i64 0, .string ⟨#[]⟩, .int .i64 c, .int .i64 p]]) (by simp [results, Tryz.results136, go_sem, xz, yz, x0, x1, x2, x3, x4, y0, y1, y2, y3, y4, y5, y6]) rfl ?_
      refine .inr ⟨U, P, hq, hP1, hP2, hP3, hU, ?_, ?_, .inl ⟨c, Hc.out, HR2.out, rfl⟩⟩
      · repeat (first | with_reducible exact H7.out | with_reducible refine RI.loc ?_ hlf.out _ _ | with_reducible refine RI.loc ?_ hle.out _ _)
      · repeat (first | with_reducible exact Hm7.out | with_reducible refine MovI.setX ?_ (show w.heap.size ≤ gm + 1 by omega) _ _ | with_reducible refine MovI.setX ?_ (show w.heap.size ≤ gm + 1 + 1 by omega) _ _)
end Go.Proofs.YtpkofbdfnbpfpaaGreat.Num

