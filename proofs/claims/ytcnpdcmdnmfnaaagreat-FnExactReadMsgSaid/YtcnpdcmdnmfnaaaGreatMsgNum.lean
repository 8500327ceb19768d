/-
  The walk of the reference's l12Num: a number that stands with a wire type is read, and told where the field has a number.
-/
import Derived.Test.YtcnpdcmdnmfnaaaGreatMsgTell
import Derived.Test.YtcnpdcmdnmfnaaaGreatTagWalk
namespace Go.Proofs.YtcnpdcmdnmfnaaaGreat.Num
open Go.RowKit Go.Proofs
set_option linter.unusedVariables false
/-- What is read first: value and reader. -/
def rdRaw (s : ByteArray) (x E : Int) (r : RdM) : Int × RdM := if x = 0 then rdVar s E r else rdFix s (widthR x) E r
/-- What is then told. -/
def rdTold (f : RF) (q : Int × RdM) : RdM := if q.2.fail.kind = 0 ∧ 0 < f.1 then q.2.tell (numE f q.1.toNat) else q.2
def rdNum (s : ByteArray) (f : RF) (x E : Int) (r : RdM) : RdM := rdTold f (rdRaw s x E r)
theorem rdVar_nat {s : ByteArray} {E : Int} {r : RdM} (hp : r.place ≤ s.size) : ∃ U : Nat, (rdVar s E r).1 = U := by
  unfold rdVar
  by_cases hb : (withinR s r.place E).2.2 = 0
  · rw [if_neg (fun h => h hb)]
    obtain ⟨_, _, _, _, _, U, h, _⟩ := within_range (v := (withinR s r.place E).1) (p := (withinR s r.place E).2.1) (b := (withinR s r.place E).2.2) hp rfl hb
    exact ⟨U, h⟩
  · rw [if_pos hb]; exact ⟨0, rfl⟩
theorem rdFix_nat {s : ByteArray} {W E : Int} {r : RdM} : ∃ U : Nat, (rdFix s W E r).1 = U := by
  unfold rdFix
  split
  · exact ⟨0, rfl⟩
  · split
    · exact ⟨0, rfl⟩
    · exact ⟨_, rfl⟩
theorem rdVar_out {s : ByteArray} {E : Int} {r : RdM} : (rdVar s E r).2.out = r.out := by unfold rdVar; split <;> rfl
theorem rdFix_out {s : ByteArray} {W E : Int} {r : RdM} : (rdFix s W E r).2.out = r.out := by unfold rdFix; split; rfl; split <;> rfl
set_option maxHeartbeats 2000000 in
theorem l12Num_any (g : Nat) (u : Value) (sch : List RM) (A B C x E : Int) (f : RF) (s : ByteArray) (o : Value) (r : RdM) (w : World) (h : RdAt w g u sch A B C s o r) (hs : s.size ≤ 281474976710656) (hE : (r.place : Int) ≤ E ∧ E ≤ 9223372036854775807) (hn : r.out.length ≤ 1048576000) :
    Calls Tryz.prog 66 #[.pointer (some ⟨g, 0, none⟩), fieldV f, .int .i64 x, .int .i64 E] w fun e w' => e = .returned (.tuple #[]) ∧ ∃ o', RdAt w' g u sch A B C s o' (rdNum s f x E r) ∧ Moved g o o' w w' := by
  obtain ⟨A1, A2, A3, A4, A5⟩ := f
  unfold rdNum
  have hN : ∀ (U : Nat) w, Calls Tryz.prog 98 #[.agg #[.int .i64 A1, .int .i64 A2, .bool A3, .bool A4, .int .i64 A5], .int .u64 U] w fun e w' => e = .returned (evV (numE (A1, A2, A3, A4, A5) U)) ∧ Below w.heap.size w w' := fun U w => specNumEvent_any (A1, A2, A3, A4, A5) U w
  have HN := Lib.hid hN
  unfold fieldV
  simp only
  have hg := h.lt
  have hp := h.place
  have hob : ∀ k, o.ownBlock = some k → k < w.heap.size := fun k hk => (h.out.lt k hk).2
  have hbx : Box (w.alloc (.cells #[.int .i64 A1, .int .i64 A2, .bool A3, .bool A4, .int .i64 A5] 95)) w.heap.size [.int .i64 A1, .int .i64 A2, .bool A3, .bool A4, .int .i64 A5] := Box.fresh w #[.int .i64 A1, .int .i64 A2, .bool A3, .bool A4, .int .i64 A5] _
  have hl0 : Below w.heap.size w (w.alloc (.cells #[.int .i64 A1, .int .i64 A2, .bool A3, .bool A4, .int .i64 A5] 95)) := (Below.refl _ _).alloc (Nat.le_refl _) _
  have H0 := Lib.hid (h.below hl0)
  have hm0 : Moved g o o w (w.alloc (.cells #[.int .i64 A1, .int .i64 A2, .bool A3, .bool A4, .int .i64 A5] 95)) := .of_below hl0
  have hgx : w.heap.size ≠ g := by omega
  have hox : o.ownBlock ≠ some w.heap.size := fun e => Nat.lt_irrefl _ (hob _ e)
  clear hN h hl0 hob
  by_cases hx0 : x = 0
  · have hxb : (x == 0) = true := by simp [hx0]
    have HZ : Hid (rdRaw s x E r = rdVar s E r) := Lib.hid (by unfold rdRaw; rw [if_pos hx0])
    clear hx0
    go_enter Tryz.func66, Tryz.ntmps66
    go_wp2_with fail
    generalize w.alloc (.cells #[.int .i64 A1, .int .i64 A2, .bool A3, .bool A4, .int .i64 A5] 95) = w1 at H0 hm0 hbx ⊢
    refine (l12Var_any g u sch A B C E s o r _ H0.out hs).mono ?_
    have HU := Lib.hid (rdVar_nat (E := E) hp)
    have Hlen : Hid ((rdVar s E r).2.out.length ≤ 1048576000) := Lib.hid (by rw [rdVar_out]; exact hn)
    generalize rdVar s E r = Q at HU Hlen HZ ⊢
    obtain ⟨V, Q⟩ := Q
    obtain ⟨U, hU⟩ := HU.out
    simp only at hU
    subst hU
    rintro e w2 ⟨rfl, h2, hm2⟩
    have H2 := Lib.hid h2
    have hm := hm0.trans hm2
    have hb2 := hm2.box hbx hgx hox
    clear HU H0 hm0 hm2 hbx h2
    obtain ⟨⟨x0, x1, x2, x3, x4⟩, _⟩ := Box.five hb2
    obtain ⟨⟨c0, c1, c2, c3, c4, c5, c6, c7, c8, c9, c10, c11, c12, c13⟩, f5, f6, f7, f8, f9, f10, f11, f12, f13⟩ := H2.out.box.at7
    by_cases hk : Q.fail.kind = 0
    · have hkb : (Q.fail.kind == 0) = true := by simp [hk]
      by_cases hf : 0 < A1
      · have Hq : Hid (rdTold (A1, A2, A3, A4, A5) ((U : Int), Q) = Q.tell (numE (A1, A2, A3, A4, A5) U)) := Lib.hid (by unfold rdTold; simp only; rw [if_pos ⟨hk, hf⟩, Int.toNat_natCast])
        clear hk
        go_wp2_with fail
        refine (HN.out U _).mono ?_
        rintro e w3 ⟨rfl, hb3⟩
        have H3 := Lib.hid (H2.out.below hb3)
        have hm3 := hm.trans (Moved.of_below hb3)
        clear H2 hm hb3 hb2 x0 x1 x2 x3 x4 c0 c1 c2 c3 c4 c5 c6 c7 c8 c9 c10 c11 c12 c13 f5 f6 f7 f8 f9 f10 f11 f12 f13
        go_wp2_with fail
        refine (l12Tell_any g u sch A B C s o Q _ _ H3.out Hlen.out).mono ?_
        rintro e w4 ⟨rfl, o', h4, hm4⟩
        have H4 := Lib.hid h4
        clear h4
        go_wp2_with fail
        go_end0
        exact ⟨rfl, o', by rw [HZ.out, Hq.out]; exact H4.out, hm3.trans hm4⟩
      · have hfb : decide (0 < A1) = false := decide_eq_false hf
        have Hq : Hid (rdTold (A1, A2, A3, A4, A5) ((U : Int), Q) = Q) := Lib.hid (by unfold rdTold; simp only; rw [if_neg (fun h => hf h.2)])
        clear hk hf
        go_wp2_with fail
        go_end0
        exact ⟨rfl, o, by rw [HZ.out, Hq.out]; exact H2.out, hm⟩
    · have hkb : (Q.fail.kind == 0) = false := neI hk
      have Hq : Hid (rdTold (A1, A2, A3, A4, A5) ((U : Int), Q) = Q) := Lib.hid (by unfold rdTold; simp only; rw [if_neg (fun h => hk h.1)])
      clear hk
      go_wp2_with fail
      go_end0
      exact ⟨rfl, o, by rw [HZ.out, Hq.out]; exact H2.out, hm⟩
  · have hxb : (x == 0) = false := neI hx0
    have HZ : Hid (rdRaw s x E r = rdFix s (widthR x) E r) := Lib.hid (by unfold rdRaw; rw [if_neg hx0])
    have hwb : 0 ≤ widthR x ∧ widthR x ≤ 8 := by unfold widthR; split; omega; split <;> omega
    clear hx0
    go_enter Tryz.func66, Tryz.ntmps66
    go_wp2_with fail
    generalize w.alloc (.cells #[.int .i64 A1, .int .i64 A2, .bool A3, .bool A4, .int .i64 A5] 95) = w1 at H0 hm0 hbx ⊢
    refine (specWidthOf_any x _).mono ?_
    rintro e w1' ⟨rfl, rfl⟩
    go_wp2_with fail
    refine (l12Fix_any g u sch A B C (widthR x) E s o r _ H0.out hs hE hwb).mono ?_
    have HU := Lib.hid (rdFix_nat (s := s) (W := widthR x) (E := E) (r := r))
    have Hlen : Hid ((rdFix s (widthR x) E r).2.out.length ≤ 1048576000) := Lib.hid (by rw [rdFix_out]; exact hn)
    generalize rdFix s (widthR x) E r = Q at HU Hlen HZ ⊢
    obtain ⟨V, Q⟩ := Q
    obtain ⟨U, hU⟩ := HU.out
    simp only at hU
    subst hU
    rintro e w2 ⟨rfl, h2, hm2⟩
    have H2 := Lib.hid h2
    have hm := hm0.trans hm2
    have hb2 := hm2.box hbx hgx hox
    clear HU H0 hm0 hm2 hbx h2
    obtain ⟨⟨x0, x1, x2, x3, x4⟩, _⟩ := Box.five hb2
    obtain ⟨⟨c0, c1, c2, c3, c4, c5, c6, c7, c8, c9, c10, c11, c12, c13⟩, f5, f6, f7, f8, f9, f10, f11, f12, f13⟩ := H2.out.box.at7
    by_cases hk : Q.fail.kind = 0
    · have hkb : (Q.fail.kind == 0) = true := by simp [hk]
      by_cases hf : 0 < A1
      · have Hq : Hid (rdTold (A1, A2, A3, A4, A5) ((U : Int), Q) = Q.tell (numE (A1, A2, A3, A4, A5) U)) := Lib.hid (by unfold rdTold; simp only; rw [if_pos ⟨hk, hf⟩, Int.toNat_natCast])
        clear hk
        go_wp2_with fail
        refine (HN.out U _).mono ?_
        rintro e w3 ⟨rfl, hb3⟩
        have H3 := Lib.hid (H2.out.below hb3)
        have hm3 := hm.trans (Moved.of_below hb3)
        clear H2 hm hb3 hb2 x0 x1 x2 x3 x4 c0 c1 c2 c3 c4 c5 c6 c7 c8 c9 c10 c11 c12 c13 f5 f6 f7 f8 f9 f10 f11 f12 f13
        go_wp2_with fail
        refine (l12Tell_any g u sch A B C s o Q _ _ H3.out Hlen.out).mono ?_
        rintro e w4 ⟨rfl, o', h4, hm4⟩
        have H4 := Lib.hid h4
        clear h4
        go_wp2_with fail
        go_end0
        exact ⟨rfl, o', by rw [HZ.out, Hq.out]; exact H4.out, hm3.trans hm4⟩
      · have hfb : decide (0 < A1) = false := decide_eq_false hf
        have Hq : Hid (rdTold (A1, A2, A3, A4, A5) ((U : Int), Q) = Q) := Lib.hid (by unfold rdTold; simp only; rw [if_neg (fun h => hf h.2)])
        clear hk hf
        go_wp2_with fail
        go_end0
        exact ⟨rfl, o, by rw [HZ.out, Hq.out]; exact H2.out, hm⟩
    · have hkb : (Q.fail.kind == 0) = false := neI hk
      have Hq : Hid (rdTold (A1, A2, A3, A4, A5) ((U : Int), Q) = Q) := Lib.hid (by unfold rdTold; simp only; rw [if_neg (fun h => hk h.1)])
      clear hk
      go_wp2_with fail
      go_end0
      exact ⟨rfl, o, by rw [HZ.out, Hq.out]; exact H2.out, hm⟩
end Go.Proofs.YtcnpdcmdnmfnaaaGreat.Num
