/-
  The walks of the reference's l12Var and l12Fix: a number that is read up to a place moves the reader on, or tells what went wrong.
-/
import Derived.Test.YtcnpdcmdnmfnaaaGreatMsg
import Derived.Test.YtcnpdcmdnmfnaaaGreatDraw
import Derived.Test.YtcnpdcmdnmfnaaaGreatGetFixS
import Derived.BigQuiet
import Derived.Deep.QuietTactic
import Derived.Deep.RegionWith
namespace Go.Proofs.YtcnpdcmdnmfnaaaGreat.Num
open Go.RowKit Go.Proofs
set_option linter.unusedVariables false
theorem within_range {s : ByteArray} {A : Nat} {E v p b : Int} (hA : A ≤ s.size) (hw : withinR s A E = (v, p, b)) (hb : b = 0) : ∃ P : Nat, p = (P : Int) ∧ A < P ∧ P ≤ s.size ∧ (P : Int) ≤ E ∧ ∃ U : Nat, v = (U : Int) ∧ U < 18446744073709551616 := by
  rw [within_in hA] at hw
  have hlen : ((s.data.toList.drop A).take (E - A).toNat).length = min (E - A).toNat (s.size - A) := by simp
  have hd := fun v m => Var.scan_done ((s.data.toList.drop A).take (E - A).toNat) 0 0 v m (by omega) (by omega)
  generalize hq : Var.scan 0 0 ((s.data.toList.drop A).take (E - A).toNat) = q at hw hd
  cases q with
  | more =>
    simp only [withinRes] at hw
    split at hw
    · injection hw with w1 w2; injection w2 with w2 w3; omega
    · injection hw with w1 w2; injection w2 with w2 w3; omega
  | over j => simp only [withinRes] at hw; injection hw with w1 w2; injection w2 with w2 w3; omega
  | done y m =>
    obtain ⟨n', x', h1, h2, h3, h4, _, _, _, h8⟩ := hd y m rfl
    simp only [withinRes] at hw
    injection hw with w1 w2
    injection w2 with w2 w3
    exact ⟨A + m, by omega, by omega, by omega, by omega, y, by omega, h8⟩
set_option maxHeartbeats 2000000 in
theorem l12Var_any (g : Nat) (u : Value) (sch : List RM) (A B C E : Int) (s : ByteArray) (o : Value) (r : RdM) (w : World) (h : RdAt w g u sch A B C s o r) (hs : s.size ≤ 281474976710656) :
    Calls Tryz.prog 59 #[.pointer (some ⟨g, 0, none⟩), .int .i64 E] w fun e w' => e = .returned (.int .u64 (rdVar s E r).1) ∧ RdAt w' g u sch A B C s o (rdVar s E r).2 ∧ Moved g o o w w' := by
  have hg := h.lt
  have Hg := Lib.hid hg
  have hp := h.place
  unfold rdVar
  generalize hW : withinR s r.place E = W
  obtain ⟨v, p, b⟩ := W
  have HW := Lib.hid hW
  have HV : Hid (∀ w, Calls Tryz.prog 93 #[.string s, .int .i64 r.place, .int .i64 E] w fun e w' => e = .returned (.tuple #[.int .u64 v, .int .i64 p, .int .i64 b]) ∧ w = w') := Lib.hid fun w => by have h := specWithin_any s r.place E w hs; rw [hW] at h; exact h
  have H := Lib.hid h
  clear hW h
  simp only
  obtain ⟨Z, hZ⟩ : ∃ Z, (if b ≠ 0 then ((0 : Int), r.bad b p) else (v, r.to p.toNat)) = Z := ⟨_, rfl⟩
  rw [hZ]
  have HZ := Lib.hid hZ
  clear hZ
  obtain ⟨⟨c0, c1, c2, c3, c4, c5, c6, c7, c8, c9, c10, c11, c12, c13⟩, f5, f6, f7, f8, f9, f10, f11, f12, f13⟩ := H.out.box.at7
  go_enter Tryz.func59, Tryz.ntmps59
  go_wp2_with fail
  go_quiet ((go_at_call 93; exact Calls.quiet_of_same (flip_same (HV.out _))))
  have HD : Hid (RdAt (w.drewN nq) g u sch A B C s o r) := Lib.hid ⟨H.out.box, H.out.out, H.out.msgs, H.out.place⟩
  have hl : Moved g o o w (w.drewN nq) := .drewN g o w nq
  have hsz : w.heap.size = (w.drewN nq).heap.size := rfl
  generalize w.drewN nq = wd at HD hl hsz ⊢
  clear c0 c1 c2 c3 c4 c5 c6 c7 c8 c9 c10 c11 c12 c13 f5 f6 f7 f8 f9 f10 f11 f12 f13 HV H
  by_cases hb : b = 0
  · obtain ⟨P, rfl, hP1, hP2, hP3, U, rfl, hU⟩ := within_range hp HW.out hb
    have hbn : (b != 0) = false := by simp [hb]
    obtain ⟨⟨c0, c1, c2, c3, c4, c5, c6, c7, c8, c9, c10, c11, c12, c13⟩, f5, f6, f7, f8, f9, f10, f11, f12, f13⟩ := HD.out.box.at7
    have hz := HZ.out
    rw [if_neg (fun h => h hb)] at hz
    subst hz
    clear hsz hp hg HZ
    go_wp2_with fail
    go_ret
    exact ⟨rfl, HD.out.to P hP2, hl.setCell Hg.out _ _⟩
  · have hbn : (b != 0) = true := by simp [hb]
    have hz := HZ.out
    rw [if_pos hb] at hz
    subst hz
    clear HZ
    go_wp2_with fail
    refine (l12Fail_any b p _).mono ?_
    rintro e w2 ⟨rfl, hb2⟩
    have HD2 := Lib.hid (HD.out.below hb2)
    have hl2 := hl.trans (Moved.of_below hb2)
    clear HD hb2 hsz hl hb
    obtain ⟨⟨c0, c1, c2, c3, c4, c5, c6, c7, c8, c9, c10, c11, c12, c13⟩, f5, f6, f7, f8, f9, f10, f11, f12, f13⟩ := HD2.out.box.at7
    go_wp2_with fail
    go_ret
    refine ⟨rfl, HD2.out.bad b p, ?_⟩
    repeat (first | with_reducible exact hl2 | refine Moved.setCell ?_ Hg.out _ _)
/-- A number of some bytes is read up to a place. -/
def rdFix (s : ByteArray) (W E : Int) (r : RdM) : Int × RdM :=
  if E - r.place < W then (0, r.bad 9 r.place)
  else if (getFixR s r.place W).2 = false then (0, r.bad 10 s.size)
  else ((getFixR s r.place W).1, r.to (r.place + W.toNat))
set_option maxHeartbeats 2000000 in
theorem l12Fix_any (g : Nat) (u : Value) (sch : List RM) (A B C W E : Int) (s : ByteArray) (o : Value) (r : RdM) (w : World) (h : RdAt w g u sch A B C s o r) (hs : s.size ≤ 281474976710656) (hE : (r.place : Int) ≤ E ∧ E ≤ 9223372036854775807) (hW : 0 ≤ W ∧ W ≤ 8) :
    Calls Tryz.prog 97 #[.pointer (some ⟨g, 0, none⟩), .int .i64 W, .int .i64 E] w fun e w' => e = .returned (.int .u64 (rdFix s W E r).1) ∧ RdAt w' g u sch A B C s o (rdFix s W E r).2 ∧ Moved g o o w w' := by
  have hg := h.lt
  have Hg := Lib.hid hg
  have hp := h.place
  unfold rdFix
  obtain ⟨Z, hZ⟩ : ∃ Z, (if E - r.place < W then ((0 : Int), r.bad 9 r.place) else if (getFixR s r.place W).2 = false then (0, r.bad 10 s.size) else (((getFixR s r.place W).1 : Int), r.to (r.place + W.toNat))) = Z := ⟨_, rfl⟩
  rw [hZ]
  have HZ := Lib.hid hZ
  have H := Lib.hid h
  clear hZ h
  have hw1 : IntKind.i64.wrap (E - (r.place : Int)) = E - (r.place : Int) := IntWalk.i64_in _ (by omega)
  obtain ⟨⟨c0, c1, c2, c3, c4, c5, c6, c7, c8, c9, c10, c11, c12, c13⟩, f5, f6, f7, f8, f9, f10, f11, f12, f13⟩ := H.out.box.at7
  by_cases hend : E - (r.place : Int) < W
  · have hz := HZ.out
    rw [if_pos hend] at hz
    subst hz
    clear HZ
    go_enter Tryz.func97, Tryz.ntmps97
    go_wp2_with fail
    refine (l12Fail_any 9 r.place _).mono ?_
    rintro e w2 ⟨rfl, hb2⟩
    have HD2 := Lib.hid (H.out.below hb2)
    have hl2 : Moved g o o w w2 := .of_below hb2
    clear H hb2 hend c0 c1 c2 c3 c4 c5 c6 c7 c8 c9 c10 c11 c12 c13 f5 f6 f7 f8 f9 f10 f11 f12 f13
    obtain ⟨⟨c0, c1, c2, c3, c4, c5, c6, c7, c8, c9, c10, c11, c12, c13⟩, f5, f6, f7, f8, f9, f10, f11, f12, f13⟩ := HD2.out.box.at7
    go_wp2_with fail
    go_ret
    refine ⟨rfl, HD2.out.bad 9 r.place, ?_⟩
    repeat (first | with_reducible exact hl2 | refine Moved.setCell ?_ Hg.out _ _)
  · have hendb : decide (E - (r.place : Int) < W) = false := decide_eq_false hend
    generalize hG : getFixR s r.place W = G
    obtain ⟨v, k⟩ := G
    have HG := Lib.hid hG
    have HV : Hid (∀ w, Calls Tryz.prog 128 #[.string s, .int .i64 r.place, .int .i64 W] w fun e w' => e = .returned (.tuple #[.int .u64 v, .bool k]) ∧ w = w') := Lib.hid fun w => by have h := specGetFix_same s r.place W w hs (by omega); rw [hG] at h; exact h
    clear hG
    have hz := HZ.out
    rw [if_neg hend, HG.out] at hz
    simp only at hz
    have HZ' := Lib.hid hz
    clear hz HZ
    go_enter Tryz.func97, Tryz.ntmps97
    go_wp2_with fail
    go_quiet ((go_at_call 128; exact Calls.quiet_of_same (flip_same (HV.out _))))
    have HD : Hid (RdAt (w.drewN nq) g u sch A B C s o r) := Lib.hid ⟨H.out.box, H.out.out, H.out.msgs, H.out.place⟩
    have hl : Moved g o o w (w.drewN nq) := .drewN g o w nq
    have hsz : w.heap.size = (w.drewN nq).heap.size := rfl
    generalize w.drewN nq = wd at HD hl hsz ⊢
    clear c0 c1 c2 c3 c4 c5 c6 c7 c8 c9 c10 c11 c12 c13 f5 f6 f7 f8 f9 f10 f11 f12 f13 HV H hw1 hend hendb
    obtain ⟨⟨c0, c1, c2, c3, c4, c5, c6, c7, c8, c9, c10, c11, c12, c13⟩, f5, f6, f7, f8, f9, f10, f11, f12, f13⟩ := HD.out.box.at7
    cases k with
    | false =>
      have hz := HZ'.out
      simp only [if_true] at hz
      subst hz
      clear HZ'
      go_wp2_with fail
      refine (l12Fail_any 10 s.size _).mono ?_
      rintro e w2 ⟨rfl, hb2⟩
      have HD2 := Lib.hid (HD.out.below hb2)
      have hl2 := hl.trans (Moved.of_below hb2)
      clear HD hb2 hsz hl c0 c1 c2 c3 c4 c5 c6 c7 c8 c9 c10 c11 c12 c13 f5 f6 f7 f8 f9 f10 f11 f12 f13
      obtain ⟨⟨c0, c1, c2, c3, c4, c5, c6, c7, c8, c9, c10, c11, c12, c13⟩, f5, f6, f7, f8, f9, f10, f11, f12, f13⟩ := HD2.out.box.at7
      go_wp2_with fail
      go_ret
      refine ⟨rfl, HD2.out.bad 10 s.size, ?_⟩
      repeat (first | with_reducible exact hl2 | refine Moved.setCell ?_ Hg.out _ _)
    | true =>
      obtain ⟨N, hN, hPN⟩ : ∃ N : Nat, W = (N : Int) ∧ r.place + N ≤ s.size := by
        by_cases h : (W = 4 ∨ W = 8) ∧ 0 ≤ (r.place : Int) ∧ (r.place : Int) ≤ s.size - W
        · exact ⟨W.toNat, by omega, by omega⟩
        · have h2 := HG.out
          rw [getFix_no h] at h2
          cases h2
      subst hN
      have hz := HZ'.out
      simp only [Bool.true_eq_false, if_false, Int.toNat_natCast] at hz
      subst hz
      have hw2 : IntKind.i64.wrap ((r.place : Int) + (N : Int)) = ((r.place + N : Nat) : Int) := by rw [IntWalk.i64_in _ (by omega)]; omega
      clear HZ' hsz hp hg hE hW
      go_wp2_with fail
      go_ret
      exact ⟨rfl, HD.out.to (r.place + N) hPN, hl.setCell Hg.out _ _⟩
end Go.Proofs.YtcnpdcmdnmfnaaaGreat.Num
