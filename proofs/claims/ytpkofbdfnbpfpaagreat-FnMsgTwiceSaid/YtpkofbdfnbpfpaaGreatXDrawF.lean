/-
  Several texts in one: DrawVal DrawBy Refs DrawRd.
-/
import Derived.Test.YtpkofbdfnbpfpaaGreatXDrawA
import Derived.Test.YtpkofbdfnbpfpaaGreatXSpecB
import Derived.Test.YtpkofbdfnbpfpaaGreatXSpecA
import Derived.Test.YtpkofbdfnbpfpaaGreatKind
import Derived.Deep.RegionWith
import Derived.Deep.DrawnRows
import Derived.Deep.DeepCutAuto
import Derived.Deep.CutBlock
import Derived.Test.YtpkofbdfnbpfpaaGreatRight
import Derived.Test.YtpkofbdfnbpfpaaGreatXDrawC
import Derived.Test.YtpkofbdfnbpfpaaGreatXDrawE

/-
  The walk of the reference's draw of a field's value (l12Value): some short string; a message within by the walk that is given (l12Bytes at the depth below). Q: what the plan's memory keeps.
-/
namespace Go.Proofs.YtpkofbdfnbpfpaaGreat.Num
open Go.RowKit Go.Proofs
set_option linter.unusedVariables false
set_option linter.unusedSimpArgs false
/-- While a value is drawn: the plan's and the field's variables, the cursor, what the plan's memory keeps. -/
structure Vl (Q : World → Prop) (w : World) (B g : Nat) (a : Option Addr) (len cap : Nat) (p0 p1 p2 p3 f0 f1 f2 f3 f4 : Value) (wx : World) : Prop where
  pb : Box wx w.heap.size [p0, p1, p2, p3]
  fb : Box wx (w.heap.size + 1) [f0, f1, f2, f3, f4]
  cur : Cur wx B g a len cap
  keep : Q wx
  off : Off w.heap.size g w wx
  lt : g < w.heap.size ∧ B ≤ w.heap.size
section
variable {Q : World → Prop} {w wx wy : World} {B g : Nat} {a : Option Addr} {len cap : Nat} {p0 p1 p2 p3 f0 f1 f2 f3 f4 : Value}
theorem Vl.offs (h : Vl Q w B g a len cap p0 p1 p2 p3 f0 f1 f2 f3 f4 wx) (hQ : ∀ w w', Q w → Off w.heap.size g w w' → Q w') (ho : Off wx.heap.size g wx wy) (hc : Cur wy B g a len cap) : Vl Q w B g a len cap p0 p1 p2 p3 f0 f1 f2 f3 f4 wy := by
  obtain ⟨h1, h2⟩ := h.lt
  have k1 := h.pb.1
  have k2 := h.fb.1
  exact ⟨Box.offAt ho h.pb k1 (by omega), Box.offAt ho h.fb k2 (by omega), hc, hQ _ _ h.keep ho, h.off.trans (ho.mono (by omega)), h.lt⟩
theorem Vl.only (h : Vl Q w B g a len cap p0 p1 p2 p3 f0 f1 f2 f3 f4 wx) (hQ : ∀ w w', Q w → Off w.heap.size g w w' → Q w') (ho : Only g wx wy) (hc : Cur wy B g a len cap) : Vl Q w B g a len cap p0 p1 p2 p3 f0 f1 f2 f3 f4 wy := by
  have h1 := h.lt.1
  have k1 := h.pb.1
  exact h.offs hQ (Only.off ho (by omega)) hc
theorem Vl.drew (h : Vl Q w B g a len cap p0 p1 p2 p3 f0 f1 f2 f3 f4 wx) (hQ : ∀ w w', Q w → Off w.heap.size g w w' → Q w') : Vl Q w B g a len cap p0 p1 p2 p3 f0 f1 f2 f3 f4 wx.drew :=
  h.offs hQ (Below.off (Below.refl _ _).drew) h.cur.drew
theorem Vl.size (h : Vl Q w B g a len cap p0 p1 p2 p3 f0 f1 f2 f3 f4 wx) : w.heap.size + 1 < wx.heap.size := h.fb.1
theorem Vl.cells (h : Vl Q w B g a len cap p0 p1 p2 p3 f0 f1 f2 f3 f4 wx) :
    (wx.cell? ⟨w.heap.size + 1, 0, none⟩ = some f0 ∧ wx.cell? ⟨w.heap.size + 1, 1, none⟩ = some f1 ∧ wx.cell? ⟨w.heap.size + 1, 2, none⟩ = some f2 ∧ wx.cell? ⟨w.heap.size + 1, 3, none⟩ = some f3 ∧ wx.cell? ⟨w.heap.size + 1, 4, none⟩ = some f4) ∧
      wx.cell? ⟨w.heap.size, 0, none⟩ = some p0 ∧ wx.cell? ⟨w.heap.size, 1, none⟩ = some p1 ∧ wx.cell? ⟨w.heap.size, 2, none⟩ = some p2 ∧ wx.cell? ⟨w.heap.size, 3, none⟩ = some p3 ∧ w.heap.size < wx.heap.size ∧ w.heap.size + 1 < wx.heap.size :=
  ⟨⟨(h.fb.2 0 (by simp)).1, (h.fb.2 1 (by simp)).1, (h.fb.2 2 (by simp)).1, (h.fb.2 3 (by simp)).1, (h.fb.2 4 (by simp)).1⟩, (h.pb.2 0 (by simp)).1, (h.pb.2 1 (by simp)).1, (h.pb.2 2 (by simp)).1, (h.pb.2 3 (by simp)).1, h.pb.1, h.fb.1⟩
theorem vlBelow (h : Vl Q w B g a len cap p0 p1 p2 p3 f0 f1 f2 f3 f4 wx) (hQ : ∀ w w', Q w → Off w.heap.size g w w' → Q w') (n : Int) (hn : 0 < n ∧ n ≤ 9223372036854775807) :
    Calls Tryz.prog 56 #[.pointer (some ⟨g, 0, none⟩), .int .i64 n] wx fun e wy => ∃ r : Nat, (r : Int) < n ∧ e = .returned (.int .i64 r) ∧ Vl Q w B g a len cap p0 p1 p2 p3 f0 f1 f2 f3 f4 wy := by
  refine (l1Below_any B g a len cap n wx h.cur hn.2).mono ?_
  rintro e wy ⟨r, r0, r1, rfl, hc, ho⟩
  obtain ⟨R, rfl⟩ := Int.eq_ofNat_of_zero_le r0
  exact ⟨R, r1 hn.1, rfl, h.only hQ ho hc⟩
theorem vlOnce (h : Vl Q w B g a len cap p0 p1 p2 p3 f0 f1 f2 f3 f4 wx) (hQ : ∀ w w', Q w → Off w.heap.size g w w' → Q w') (n : Int) (hn : n ≤ 9223372036854775807) :
    Calls Tryz.prog 70 #[.pointer (some ⟨g, 0, none⟩), .int .i64 n] wx fun e wy => ∃ b, e = .returned (.bool b) ∧ Vl Q w B g a len cap p0 p1 p2 p3 f0 f1 f2 f3 f4 wy := by
  refine (l1Once_any B g a len cap n wx h.cur hn).mono ?_
  rintro e wy ⟨b, rfl, hc, ho⟩
  exact ⟨b, rfl, h.only hQ ho hc⟩
theorem vlTxt (h : Vl Q w B g a len cap p0 p1 p2 p3 f0 f1 f2 f3 f4 wx) (hQ : ∀ w w', Q w → Off w.heap.size g w w' → Q w') {F : Nat} {args : Array Value} {N : Nat} (hc : Calls Tryz.prog F args wx (TxtP B g a len cap N wx)) :
    Calls Tryz.prog F args wx fun e wy => ∃ s : ByteArray, s.size ≤ N ∧ e = .returned (.string s) ∧ Vl Q w B g a len cap p0 p1 p2 p3 f0 f1 f2 f3 f4 wy := by
  refine hc.mono ?_
  rintro e wy ⟨s, hs, rfl, hcu, ho⟩
  exact ⟨s, hs, rfl, h.offs hQ ho hcu⟩
theorem vlVar (h : Vl Q w B g a len cap p0 p1 p2 p3 f0 f1 f2 f3 f4 wx) (hQ : ∀ w w', Q w → Off w.heap.size g w w' → Q w') (U : Nat) (hU : U ≤ 18446744073709551615) :
    Calls Tryz.prog 122 #[.pointer (some ⟨g, 0, none⟩), .int .u64 U] wx fun e wy => ∃ s : ByteArray, s.size ≤ 10 ∧ e = .returned (.string s) ∧ Vl Q w B g a len cap p0 p1 p2 p3 f0 f1 f2 f3 f4 wy := by
  have h1 := h.lt
  have h2 := h.size
  exact vlTxt h hQ (N := 10) ((l2Var_any B g a len cap U wx h.cur (by omega) (by omega) hU).mono fun e w' h => h)
theorem vlScalar (h : Vl Q w B g a len cap p0 p1 p2 p3 f0 f1 f2 f3 f4 wx) (hQ : ∀ w w', Q w → Off w.heap.size g w w' → Q w') (k : Int) :
    Calls Tryz.prog 130 #[.pointer (some ⟨g, 0, none⟩), .int .i64 k] wx fun e wy => ∃ s : ByteArray, s.size ≤ 10 ∧ e = .returned (.string s) ∧ Vl Q w B g a len cap p0 p1 p2 p3 f0 f1 f2 f3 f4 wy := by
  have h1 := h.lt
  have h2 := h.size
  exact vlTxt h hQ (l12Scalar_any B g a len cap k wx h.cur (by omega) (by omega))
end
theorem tag_nat (r z : Int) : ∃ T : Nat, tagR r z = (T : Int) ∧ T ≤ 18446744073709551615 := by
  unfold tagR
  split
  · next h =>
    obtain ⟨h0, h1, h2⟩ := h
    unfold Fits at h0
    exact ⟨(8 * r + z).toNat, by omega, by omega⟩
  · exact ⟨0, rfl, by omega⟩
theorem Box.fresh2D {w : World} {xs ys : Array Value} {t v : TypeId} : Box ((w.alloc (.cells xs t)).alloc (.cells ys v)) (w.heap.size + 1) ys.toList := by
  have h := Box.fresh (w.alloc (.cells xs t)) ys v
  rwa [show (w.alloc (.cells xs t)).heap.size = w.heap.size + 1 by simp] at h
set_option maxHeartbeats 8000000 in
set_option maxRecDepth 100000 in
theorem l12Value_any (Q : World → Prop) (B g : Nat) (a : Option Addr) (len cap : Nat) (hQ : ∀ w w', Q w → Off w.heap.size g w w' → Q w') (u : Value) (PA PB PC A1 A2 A5 : Int) (A3 A4 : Bool) (deep : Int) (K : Nat) (w : World) (h : Cur w B g a len cap) (hB : B ≤ w.heap.size) (hg : g < w.heap.size) (hq : Q w) (hd : 0 ≤ deep ∧ deep ≤ 100) (hK : K ≤ 1000000)
    (HB : 0 < deep → A2 = 8 → ∀ w, Cur w B g a len cap → B ≤ w.heap.size → g < w.heap.size → Q w → Calls Tryz.prog 57 #[.pointer (some ⟨g, 0, none⟩), planV u PA PB PC, .int .i64 A5, .int .i64 (deep - 1)] w (TxtP B g a len cap K w)) :
    Calls Tryz.prog 90 #[.pointer (some ⟨g, 0, none⟩), planV u PA PB PC, fieldV (A1, A2, A3, A4, A5), .int .i64 deep] w (TxtP B g a len cap (K + 60) w) := by
  have hoff : Off w.heap.size g w ((w.alloc (.cells #[u, .int .i64 PA, .int .i64 PB, .int .i64 PC] 28)).alloc (.cells #[.int .i64 A1, .int .i64 A2, .bool A3, .bool A4, .int .i64 A5] 117)) := Below.off (((Below.refl _ _).alloc (Nat.le_refl _) _).alloc (by simp) _)
  have H0 : Hid (Vl Q w B g a len cap u (.int .i64 PA) (.int .i64 PB) (.int .i64 PC) (.int .i64 A1) (.int .i64 A2) (.bool A3) (.bool A4) (.int .i64 A5) ((w.alloc (.cells #[u, .int .i64 PA, .int .i64 PB, .int .i64 PC] 28)).alloc (.cells #[.int .i64 A1, .int .i64 A2, .bool A3, .bool A4, .int .i64 A5] 117))) := Lib.hid ⟨(Box.fresh w _ _).alloc _, Box.fresh2D, h.other (((Below.refl _ _).alloc (Nat.le_refl _) _).alloc (by simp) _) (by omega) (by omega), hQ _ _ hq hoff, hoff, hg, hB⟩
  have HW : Hid (∀ w, Calls Tryz.prog 126 #[.int .i64 A2] w fun e w' => e = .returned (.int .i64 (wireR A2)) ∧ w = w') := Lib.hid fun w => specWireOf_any A2 w
  generalize wireR A2 = W0 at HW
  obtain ⟨T0, hT, hT1⟩ := tag_nat A1 W0
  have HT := Lib.hid hT
  have HQ := Lib.hid hQ
  have HB := Lib.hid HB
  have hwd : IntKind.i64.wrap (deep - 1) = deep - 1 := IntWalk.i64_in _ (by omega)
  clear h hoff hQ hq hT
  unfold planV at HB ⊢
  unfold fieldV
  simp only
  obtain ⟨⟨e0, e1, e2, e3, e4⟩, d0, d1, d2, d3, dz, ez⟩ := H0.out.cells
  go_enter Tryz.func90, Tryz.ntmps90
  go_wp2_with fail
  refine (HW.out _).mono ?_
  rintro e _ ⟨rfl, rfl⟩
  generalize (w.alloc (.cells #[u, .int .i64 PA, .int .i64 PB, .int .i64 PC] 28)).alloc (.cells #[.int .i64 A1, .int .i64 A2, .bool A3, .bool A4, .int .i64 A5] 117) = w0 at H0 e0 e1 e2 e3 e4 d0 d1 d2 d3 dz ez ⊢
  go_upto_block 0 with fail
  go_cut [9, 10] (fun s9 s10 wx => ∃ (z : Int) (t : ByteArray), s9 = .int .i64 z ∧ s10 = .string t ∧ Hid (t.size ≤ K + 32) ∧ Hid (Vl Q w B g a len cap u (.int .i64 PA) (.int .i64 PB) (.int .i64 PC) (.int .i64 A1) (.int .i64 A2) (.bool A3) (.bool A4) (.int .i64 A5) wx))
  case first =>
    by_cases h8 : A2 = 8
    · subst h8
      by_cases hd0 : 0 < deep
      · have hdb : decide (0 < deep) = true := decide_eq_true hd0
        go_wp2_with fail
        refine (vlTxt H0.out HQ.out (HB.out hd0 (by first | rfl | trivial) _ H0.out.cur (by have := H0.out.size; omega) (by have := H0.out.size; omega) H0.out.keep)).mono ?_
        rintro e w1 ⟨t, ht, rfl, H1⟩
        have H1 := Lib.hid H1
        clear e0 e1 e2 e3 e4 d0 d1 d2 d3 dz ez
        obtain ⟨⟨e0, e1, e2, e3, e4⟩, d0, d1, d2, d3, dz, ez⟩ := H1.out.cells
        go_wp2_with fail
        go_meet
        exact ⟨W0, t, rfl, rfl, Lib.hid (by omega), H1⟩
      · have hdb : decide (0 < deep) = false := decide_eq_false hd0
        go_wp2_with fail
        go_meet
        exact ⟨W0, ⟨#[]⟩, rfl, rfl, Lib.hid (Nat.zero_le _), H0⟩
    · by_cases h6 : A2 = 6
      · subst h6
        clear h8
        go_wp2_with fail
        refine (vlBelow H0.out HQ.out 3 (by omega)).mono ?_
        rintro e w1 ⟨r, hr, rfl, H1⟩
        have H1 := Lib.hid H1
        clear e0 e1 e2 e3 e4 d0 d1 d2 d3 dz ez
        clear H0
        obtain ⟨⟨e0, e1, e2, e3, e4⟩, d0, d1, d2, d3, dz, ez⟩ := H1.out.cells
        go_wp2_with fail
        refine (vlTxt H1.out HQ.out (N := 8) ((l5Text_any B g a len cap r _ H1.out.cur (by have := H1.out.size; omega) (by have := H1.out.size; omega) (by omega)).mono fun e w' h => by obtain ⟨s, hs, h⟩ := h; exact ⟨s, by omega, h⟩)).mono ?_
        rintro e w2 ⟨t, ht, rfl, H2⟩
        have H2 := Lib.hid H2
        clear e0 e1 e2 e3 e4 d0 d1 d2 d3 dz ez
        clear H1
        obtain ⟨⟨e0, e1, e2, e3, e4⟩, d0, d1, d2, d3, dz, ez⟩ := H2.out.cells
        go_wp2_with fail
        refine (vlOnce H2.out HQ.out 8 (by omega)).mono ?_
        rintro e w3 ⟨b, rfl, H3⟩
        have H3 := Lib.hid H3
        clear e0 e1 e2 e3 e4 d0 d1 d2 d3 dz ez
        clear H2
        obtain ⟨⟨e0, e1, e2, e3, e4⟩, d0, d1, d2, d3, dz, ez⟩ := H3.out.cells
        cases b with
        | false =>
          go_wp2_with fail
          go_meet
          exact ⟨W0, t, rfl, rfl, Lib.hid (by omega), H3⟩
        | true =>
          go_wp2_with fail
          refine (vlTxt H3.out HQ.out (N := 32) (l5Bent_any B g a len cap _ H3.out.cur (by have := H3.out.size; omega) (by have := H3.out.size; omega))).mono ?_
          rintro e w4 ⟨y, hy, rfl, H4⟩
          have H4 := Lib.hid H4
          clear e0 e1 e2 e3 e4 d0 d1 d2 d3 dz ez
          clear H3
          obtain ⟨⟨e0, e1, e2, e3, e4⟩, d0, d1, d2, d3, dz, ez⟩ := H4.out.cells
          go_wp2_with fail
          go_meet
          exact ⟨W0, y, rfl, rfl, Lib.hid (by omega), H4⟩
      · by_cases h7 : A2 = 7
        · subst h7
          clear h8 h6
          go_wp2_with fail
          refine (vlBelow H0.out HQ.out 6 (by omega)).mono ?_
          rintro e w1 ⟨r, hr, rfl, H1⟩
          have H1 := Lib.hid H1
          clear e0 e1 e2 e3 e4 d0 d1 d2 d3 dz ez
          clear H0
          obtain ⟨⟨e0, e1, e2, e3, e4⟩, d0, d1, d2, d3, dz, ez⟩ := H1.out.cells
          go_wp2_with fail
          refine (l1Bytes_any B g a len cap r _ H1.out.cur (by have := H1.out.size; omega) (by have := H1.out.size; omega) (by omega)).mono ?_
          rintro e w2 ⟨v, l, rfl, hl, hown, hc2, hf2⟩
          obtain ⟨t, ht, hcv⟩ := conv_own hown hl
          have H2 := Lib.hid (H1.out.offs HQ.out hf2 hc2)
          clear e0 e1 e2 e3 e4 d0 d1 d2 d3 dz ez
          clear hl hown hc2 hf2 H1
          obtain ⟨⟨e0, e1, e2, e3, e4⟩, d0, d1, d2, d3, dz, ez⟩ := H2.out.cells
          go_wp2_with fail
          go_meet
          exact ⟨W0, t, rfl, rfl, Lib.hid (by omega), H2⟩
        · have n8 : (A2 == 8) = false := neI h8
          have n6 : (A2 == 6) = false := neI h6
          have n7 : (A2 == 7) = false := neI h7
          clear h8 h6 h7
          have HR : Hid (∀ w, Calls Tryz.prog 129 #[.agg #[.int .i64 A1, .int .i64 A2, .bool A3, .bool A4, .int .i64 A5]] w fun e w' => e = .returned (.bool (runsB (A1, A2, A3, A4, A5))) ∧ Below w.heap.size w w') := Lib.hid fun w => specRuns_any (A1, A2, A3, A4, A5) w
          generalize runsB (A1, A2, A3, A4, A5) = q at HR
          go_wp2_with fail
          refine (HR.out _).mono ?_
          rintro e w1 ⟨rfl, hb1⟩
          have H1 := Lib.hid (H0.out.offs HQ.out (Below.off hb1) (H0.out.cur.other hb1 (by have := H0.out.size; have := H0.out.lt; omega) (by have := H0.out.size; have := H0.out.lt; omega)))
          clear e0 e1 e2 e3 e4 d0 d1 d2 d3 dz ez
          clear H0 HR hb1
          obtain ⟨⟨e0, e1, e2, e3, e4⟩, d0, d1, d2, d3, dz, ez⟩ := H1.out.cells
          cases q with
          | false =>
            go_upto_region 3 with fail
            have hlt0 := H1.out.lt
            have HTg : Hid (∀ w, Calls Tryz.prog 123 #[.int .i64 A1, .int .i64 W0] w fun e w' => e = .returned (.int .u64 T0) ∧ w = w') := Lib.hid fun w => by rw [← HT.out]; exact specTagOf_any A1 W0 w
            go_region_with (first
              | (go_at_call 123; refine (HTg.out _).mono ?_; rintro e _ ⟨rfl, rfl⟩)
              | (go_at_call 122; refine (vlVar (by first | exact H1.out.drew HQ.out | exact H1.out) HQ.out T0 hT1).mono ?_; rintro e w8 ⟨t8, ht8, rfl, H8⟩; have H8 := Lib.hid H8; obtain ⟨⟨q0, q1, q2, q3, q4⟩, _, _, _, _, _, qz⟩ := H8.out.cells)
              | (go_at_call 130; refine (vlScalar H8.out HQ.out A2).mono ?_; rintro e w9 ⟨t9, ht9, rfl, H9⟩; have H9 := Lib.hid H9; obtain ⟨⟨s0, s1, s2, s3, s4⟩, _, _, _, _, _, sz⟩ := H9.out.cells))
            all_goals
              go_wp2_with fail
              go_ret
              exact ⟨t8 ++ t9, by rw [ByteArray.size_append]; omega, rfl, H9.out.cur, H9.out.off⟩
          | true =>
            cases A4 with
            | true =>
              go_wp2_with fail
              refine (vlBelow H1.out HQ.out 4 (by omega)).mono ?_
              rintro e w4 ⟨n, hn, rfl, H4⟩
              have H4 := Lib.hid H4
              clear e0 e1 e2 e3 e4 d0 d1 d2 d3 dz ez
              clear H1
              obtain ⟨⟨e0, e1, e2, e3, e4⟩, d0, d1, d2, d3, dz, ez⟩ := H4.out.cells
              go_wp2_with fail
              go_loopw [10, 12] (fun v i wr => ∃ (k : Nat) (t : ByteArray), k ≤ n ∧ t.size ≤ 10 * k ∧ i = .int .i64 k ∧ v = .string t ∧ Hid (Vl Q w B g a len cap u (.int .i64 PA) (.int .i64 PB) (.int .i64 PC) (.int .i64 A1) (.int .i64 A2) (.bool A3) (.bool true) (.int .i64 A5) wr)) (fun _ i _ => n - (intOf i).toNat)
              case atStart => exact ⟨0, ⟨#[]⟩, by omega, by decide, rfl, rfl, H4⟩
              case round =>
                clear H4 e0 e1 e2 e3 e4 d0 d1 d2 d3 dz ez
                obtain ⟨k, t, hk, ht, rfl, rfl, HR⟩ := hrel
                by_cases hlt : k < n
                · have hlti : (k : Int) < (n : Int) := by omega
                  obtain ⟨⟨e0, e1, e2, e3, e4⟩, d0, d1, d2, d3, dz, ez⟩ := HR.out.cells
                  go_wp2_with fail
                  refine (vlScalar HR.out HQ.out A2).mono ?_
                  rintro e w5 ⟨y, hy, rfl, H5⟩
                  have H5 := Lib.hid H5
                  clear e0 e1 e2 e3 e4 d0 d1 d2 d3 dz ez
                  clear HR
                  go_wp2_with fail
                  go_roundw
                  case rel => exact ⟨k + 1, t ++ y, by omega, by rw [ByteArray.size_append]; omega, by go_num, rfl, H5⟩
                  case measure => simp [intOf]; omega
                · have hge : (n : Int) ≤ (k : Int) := by omega
                  have hend : decide (k < n) = false := decide_eq_false hlt
                  go_wp2_with fail
                  go_meet
                  exact ⟨2, t, rfl, rfl, Lib.hid (by omega), HR⟩
            | false =>
              go_wp2_with fail
              refine (vlOnce H1.out HQ.out 3 (by omega)).mono ?_
              rintro e w2 ⟨b, rfl, H2⟩
              have H2 := Lib.hid H2
              clear e0 e1 e2 e3 e4 d0 d1 d2 d3 dz ez
              clear H1
              obtain ⟨⟨e0, e1, e2, e3, e4⟩, d0, d1, d2, d3, dz, ez⟩ := H2.out.cells
              cases b with
              | false =>
                go_upto_region 3 with fail
                have hlt0 := H2.out.lt
                have HTg : Hid (∀ w, Calls Tryz.prog 123 #[.int .i64 A1, .int .i64 W0] w fun e w' => e = .returned (.int .u64 T0) ∧ w = w') := Lib.hid fun w => by rw [← HT.out]; exact specTagOf_any A1 W0 w
                go_region_with (first
                  | (go_at_call 123; refine (HTg.out _).mono ?_; rintro e _ ⟨rfl, rfl⟩)
                  | (go_at_call 122; refine (vlVar (by first | exact H2.out.drew HQ.out | exact H2.out) HQ.out T0 hT1).mono ?_; rintro e w8 ⟨t8, ht8, rfl, H8⟩; have H8 := Lib.hid H8; obtain ⟨⟨q0, q1, q2, q3, q4⟩, _, _, _, _, _, qz⟩ := H8.out.cells)
                  | (go_at_call 130; refine (vlScalar H8.out HQ.out A2).mono ?_; rintro e w9 ⟨t9, ht9, rfl, H9⟩; have H9 := Lib.hid H9; obtain ⟨⟨s0, s1, s2, s3, s4⟩, _, _, _, _, _, sz⟩ := H9.out.cells))
                all_goals
                  go_wp2_with fail
                  go_ret
                  exact ⟨t8 ++ t9, by rw [ByteArray.size_append]; omega, rfl, H9.out.cur, H9.out.off⟩
              | true =>
                go_wp2_with fail
                refine (vlBelow H2.out HQ.out 4 (by omega)).mono ?_
                rintro e w4 ⟨n, hn, rfl, H4⟩
                have H4 := Lib.hid H4
                clear e0 e1 e2 e3 e4 d0 d1 d2 d3 dz ez
                clear H2
                obtain ⟨⟨e0, e1, e2, e3, e4⟩, d0, d1, d2, d3, dz, ez⟩ := H4.out.cells
                go_wp2_with fail
                go_loopw [10, 12] (fun v i wr => ∃ (k : Nat) (t : ByteArray), k ≤ n ∧ t.size ≤ 10 * k ∧ i = .int .i64 k ∧ v = .string t ∧ Hid (Vl Q w B g a len cap u (.int .i64 PA) (.int .i64 PB) (.int .i64 PC) (.int .i64 A1) (.int .i64 A2) (.bool A3) (.bool false) (.int .i64 A5) wr)) (fun _ i _ => n - (intOf i).toNat)
                case atStart => exact ⟨0, ⟨#[]⟩, by omega, by decide, rfl, rfl, H4⟩
                case round =>
                  clear H4 e0 e1 e2 e3 e4 d0 d1 d2 d3 dz ez
                  obtain ⟨k, t, hk, ht, rfl, rfl, HR⟩ := hrel
                  by_cases hlt : k < n
                  · have hlti : (k : Int) < (n : Int) := by omega
                    obtain ⟨⟨e0, e1, e2, e3, e4⟩, d0, d1, d2, d3, dz, ez⟩ := HR.out.cells
                    go_wp2_with fail
                    refine (vlScalar HR.out HQ.out A2).mono ?_
                    rintro e w5 ⟨y, hy, rfl, H5⟩
                    have H5 := Lib.hid H5
                    clear e0 e1 e2 e3 e4 d0 d1 d2 d3 dz ez
                    clear HR
                    go_wp2_with fail
                    go_roundw
                    case rel => exact ⟨k + 1, t ++ y, by omega, by rw [ByteArray.size_append]; omega, by go_num, rfl, H5⟩
                    case measure => simp [intOf]; omega
                  · have hge : (n : Int) ≤ (k : Int) := by omega
                    have hend : decide (k < n) = false := decide_eq_false hlt
                    go_wp2_with fail
                    go_meet
                    exact ⟨2, t, rfl, rfl, Lib.hid (by omega), HR⟩
  case rest =>
    obtain ⟨z, t, rfl, rfl, ht, H1⟩ := hcut
    have ht := ht.out
    clear H0 HW HB e0 e1 e2 e3 e4 d0 d1 d2 d3 dz ez HT hT1
    obtain ⟨⟨e0, e1, e2, e3, e4⟩, d0, d1, d2, d3, dz, ez⟩ := H1.out.cells
    go_wp2_with fail
    refine (vlOnce H1.out HQ.out 30 (by omega)).mono ?_
    rintro e w2 ⟨b, rfl, H2⟩
    have H2 := Lib.hid H2
    clear e0 e1 e2 e3 e4 d0 d1 d2 d3 dz ez
    clear H1
    obtain ⟨⟨e0, e1, e2, e3, e4⟩, d0, d1, d2, d3, dz, ez⟩ := H2.out.cells
    go_upto_if 87 with fail
    go_cut [9] (fun s9 wx => ∃ z : Int, s9 = .int .i64 z ∧ Hid (Vl Q w B g a len cap u (.int .i64 PA) (.int .i64 PB) (.int .i64 PC) (.int .i64 A1) (.int .i64 A2) (.bool A3) (.bool A4) (.int .i64 A5) wx))
    case first =>
      cases b with
      | false =>
        go_wp2_with fail
        go_meet
        exact ⟨z, rfl, H2⟩
      | true =>
        go_wp2_with fail
        refine (vlBelow H2.out HQ.out 8 (by omega)).mono ?_
        rintro e w3 ⟨r, hr, rfl, H3⟩
        have H3 := Lib.hid H3
        go_wp2_with fail
        go_meet
        exact ⟨r, rfl, H3⟩
    case rest =>
    obtain ⟨z2, rfl, H3⟩ := hcut
    clear e0 e1 e2 e3 e4 d0 d1 d2 d3 dz ez
    clear H2
    obtain ⟨N, hN⟩ : ∃ N : Nat, t.size = N := ⟨_, rfl⟩
    obtain ⟨⟨e0, e1, e2, e3, e4⟩, d0, d1, d2, d3, dz, ez⟩ := H3.out.cells
    go_wp2_with fail
    refine (vlOnce H3.out HQ.out 20 (by omega)).mono ?_
    rintro e w4 ⟨b4, rfl, H4⟩
    have H4 := Lib.hid H4
    clear e0 e1 e2 e3 e4 d0 d1 d2 d3 dz ez
    clear H3
    obtain ⟨⟨e0, e1, e2, e3, e4⟩, d0, d1, d2, d3, dz, ez⟩ := H4.out.cells
    go_upto_if 93 with fail
    go_cut [13] (fun s13 wx => ∃ m : Int, s13 = .int .i64 m ∧ -2 ≤ m ∧ m ≤ 2000000 ∧ Hid (Vl Q w B g a len cap u (.int .i64 PA) (.int .i64 PB) (.int .i64 PC) (.int .i64 A1) (.int .i64 A2) (.bool A3) (.bool A4) (.int .i64 A5) wx))
    case first =>
      cases b4 with
      | false =>
        go_wp2_with fail
        go_meet
        exact ⟨t.size, by first | rfl | rw [hN], by omega, by omega, H4⟩
      | true =>
        go_wp2_with fail
        refine (vlBelow H4.out HQ.out 5 (by omega)).mono ?_
        rintro e w5 ⟨r, hr, rfl, H5⟩
        have H5 := Lib.hid H5
        have hw1 : IntKind.i64.wrap ((t.size : Int) + (r : Int)) = (t.size : Int) + r := IntWalk.i64_in _ (by omega)
        have hw2 : IntKind.i64.wrap ((t.size : Int) + (r : Int) - 2) = (t.size : Int) + r - 2 := IntWalk.i64_in _ (by omega)
        go_wp2_with fail
        go_meet
        exact ⟨(t.size : Int) + r - 2, by first | rfl | rw [hN], by omega, by omega, H5⟩
    case rest =>
    obtain ⟨m, rfl, hm0, hm1, H5⟩ := hcut
    clear e0 e1 e2 e3 e4 d0 d1 d2 d3 dz ez
    clear H4
    obtain ⟨⟨e0, e1, e2, e3, e4⟩, d0, d1, d2, d3, dz, ez⟩ := H5.out.cells
    obtain ⟨T, hT, hT2⟩ := tag_nat A1 z2
    have HTg : Hid (∀ w, Calls Tryz.prog 123 #[.int .i64 A1, .int .i64 z2] w fun e w' => e = .returned (.int .u64 T) ∧ w = w') := Lib.hid fun w => by rw [← hT]; exact specTagOf_any A1 z2 w
    obtain ⟨X, hX⟩ : ∃ X : Nat, max 0 m = (X : Int) := ⟨(max 0 m).toNat, by omega⟩
    have hwX : IntKind.u64.wrap (X : Int) = (X : Int) := by rw [IntKind.wrap_u64]; omega
    clear hT
    go_wp2_with fail
    refine (HTg.out _).mono ?_
    rintro e _ ⟨rfl, rfl⟩
    go_wp2_with fail
    refine (vlVar H5.out HQ.out T hT2).mono ?_
    rintro e w6 ⟨y, hy, rfl, H6⟩
    have H6 := Lib.hid H6
    clear e0 e1 e2 e3 e4 d0 d1 d2 d3 dz ez
    clear H5
    obtain ⟨⟨e0, e1, e2, e3, e4⟩, d0, d1, d2, d3, dz, ez⟩ := H6.out.cells
    go_wp2_with fail
    refine (specMax_any 0 m _).mono ?_
    rw [hX]
    rintro e _ ⟨rfl, rfl⟩
    go_wp2_with fail
    refine (vlVar H6.out HQ.out X (by omega)).mono ?_
    rintro e w7 ⟨y2, hy2, rfl, H7⟩
    have H7 := Lib.hid H7
    clear e0 e1 e2 e3 e4 d0 d1 d2 d3 dz ez
    clear H6
    go_wp2_with fail
    go_ret
    exact ⟨y ++ y2 ++ t, by rw [ByteArray.size_append, ByteArray.size_append]; omega, rfl, H7.out.cur, H7.out.off⟩
end Go.Proofs.YtpkofbdfnbpfpaaGreat.Num


/-
  The walk of the reference's draw of a message's bytes (l12Bytes): some short string; by induction on how deep messages may still nest.
-/
namespace Go.Proofs.YtpkofbdfnbpfpaaGreat.Num
open Go.RowKit Go.Proofs
set_option linter.unusedVariables false
set_option linter.unusedSimpArgs false
/-- While a message is drawn: the plan's variable, the cursor, what the plan's memory keeps. -/
structure By (Q : World → Prop) (w : World) (B g : Nat) (a : Option Addr) (len cap : Nat) (p0 p1 p2 p3 : Value) (wx : World) : Prop where
  pb : Box wx w.heap.size [p0, p1, p2, p3]
  cur : Cur wx B g a len cap
  keep : Q wx
  off : Off w.heap.size g w wx
  lt : g < w.heap.size ∧ B ≤ w.heap.size
section
variable {Q : World → Prop} {w wx wy : World} {B g : Nat} {a : Option Addr} {len cap : Nat} {p0 p1 p2 p3 : Value}
theorem By.offs (h : By Q w B g a len cap p0 p1 p2 p3 wx) (hQ : ∀ w w', Q w → Off w.heap.size g w w' → Q w') (ho : Off wx.heap.size g wx wy) (hc : Cur wy B g a len cap) : By Q w B g a len cap p0 p1 p2 p3 wy := by
  obtain ⟨h1, h2⟩ := h.lt
  have k1 := h.pb.1
  exact ⟨Box.offAt ho h.pb k1 (by omega), hc, hQ _ _ h.keep ho, h.off.trans (ho.mono (by omega)), h.lt⟩
theorem By.drew (h : By Q w B g a len cap p0 p1 p2 p3 wx) (hQ : ∀ w w', Q w → Off w.heap.size g w w' → Q w') : By Q w B g a len cap p0 p1 p2 p3 wx.drew := h.offs hQ (Below.off (Below.refl _ _).drew) h.cur.drew
theorem By.size (h : By Q w B g a len cap p0 p1 p2 p3 wx) : w.heap.size < wx.heap.size := h.pb.1
theorem By.cells (h : By Q w B g a len cap p0 p1 p2 p3 wx) : (wx.cell? ⟨w.heap.size, 0, none⟩ = some p0 ∧ wx.cell? ⟨w.heap.size, 1, none⟩ = some p1 ∧ wx.cell? ⟨w.heap.size, 2, none⟩ = some p2 ∧ wx.cell? ⟨w.heap.size, 3, none⟩ = some p3) ∧ w.heap.size < wx.heap.size :=
  ⟨⟨(h.pb.2 0 (by simp)).1, (h.pb.2 1 (by simp)).1, (h.pb.2 2 (by simp)).1, (h.pb.2 3 (by simp)).1⟩, h.pb.1⟩
theorem byBelow (h : By Q w B g a len cap p0 p1 p2 p3 wx) (hQ : ∀ w w', Q w → Off w.heap.size g w w' → Q w') (n : Int) (hn : 0 < n ∧ n ≤ 9223372036854775807) :
    Calls Tryz.prog 56 #[.pointer (some ⟨g, 0, none⟩), .int .i64 n] wx fun e wy => ∃ r : Nat, (r : Int) < n ∧ e = .returned (.int .i64 r) ∧ By Q w B g a len cap p0 p1 p2 p3 wy := by
  refine (l1Below_any B g a len cap n wx h.cur hn.2).mono ?_
  rintro e wy ⟨r, r0, r1, rfl, hc, ho⟩
  obtain ⟨R, rfl⟩ := Int.eq_ofNat_of_zero_le r0
  have h1 := h.lt
  have h2 := h.size
  exact ⟨R, r1 hn.1, rfl, h.offs hQ (Only.off ho (by omega)) hc⟩
theorem byOnce (h : By Q w B g a len cap p0 p1 p2 p3 wx) (hQ : ∀ w w', Q w → Off w.heap.size g w w' → Q w') (n : Int) (hn : n ≤ 9223372036854775807) :
    Calls Tryz.prog 70 #[.pointer (some ⟨g, 0, none⟩), .int .i64 n] wx fun e wy => ∃ b, e = .returned (.bool b) ∧ By Q w B g a len cap p0 p1 p2 p3 wy := by
  refine (l1Once_any B g a len cap n wx h.cur hn).mono ?_
  rintro e wy ⟨b, rfl, hc, ho⟩
  have h1 := h.lt
  have h2 := h.size
  exact ⟨b, rfl, h.offs hQ (Only.off ho (by omega)) hc⟩
theorem byTxt (h : By Q w B g a len cap p0 p1 p2 p3 wx) (hQ : ∀ w w', Q w → Off w.heap.size g w w' → Q w') {F : Nat} {args : Array Value} {N : Nat} (hc : Calls Tryz.prog F args wx (TxtP B g a len cap N wx)) :
    Calls Tryz.prog F args wx fun e wy => ∃ s : ByteArray, s.size ≤ N ∧ e = .returned (.string s) ∧ By Q w B g a len cap p0 p1 p2 p3 wy := by
  refine hc.mono ?_
  rintro e wy ⟨s, hs, rfl, hcu, ho⟩
  exact ⟨s, hs, rfl, h.offs hQ ho hcu⟩
theorem FieldsAt.atR {S : Nat → Prop} {b o n cap : Nat} {l : List RF} (h : FieldsAt w S (.slice (some ⟨b, o, none⟩) n cap) l) (i : Nat) (hi : i < l.length) :
    w.cell? ⟨b, o + i * 5, none⟩ = some (.int .i64 l[i].1) ∧ w.cell? ⟨b, o + i * 5 + 1, none⟩ = some (.int .i64 l[i].2.1) ∧ w.cell? ⟨b, o + i * 5 + 2, none⟩ = some (.bool l[i].2.2.1) ∧ w.cell? ⟨b, o + i * 5 + 3, none⟩ = some (.bool l[i].2.2.2.1) ∧ w.cell? ⟨b, o + i * 5 + 4, none⟩ = some (.int .i64 l[i].2.2.2.2) := by
  obtain ⟨b', o', c', hv, _, hcs⟩ := h.cells (by omega)
  injection hv with e1 e2 e3
  injection e1 with e1
  injection e1 with e4 e5 e6
  subst e4 e5
  exact hcs i hi
end
/-- What the plan's memory keeps: the schema's rows lie below C, apart from the cursor. -/
def KeepP (C g : Nat) (u : Value) (sch : List RM) (w : World) : Prop := C ≤ w.heap.size ∧ MsgsAt w (fun b => b < C ∧ b ≠ g) u sch
theorem kept_off {C g : Nat} {w w' : World} (hC : C ≤ w.heap.size) (ho : Off w.heap.size g w w') : Kept (fun b => b < C ∧ b ≠ g) w w' := fun b o' hb => World.cell?_of_block (a := ⟨b, o', none⟩) (ho.block b (Nat.lt_of_lt_of_le hb.1 hC) hb.2)
theorem KeepP.off {C g : Nat} {u : Value} {sch : List RM} : ∀ w w', KeepP C g u sch w → Off w.heap.size g w w' → KeepP C g u sch w' := fun w w' h ho =>
  ⟨Nat.le_trans h.1 ho.size, h.2.keep (kept_off h.1 ho) fun _ h => h⟩
def KeepF (C g : Nat) (u : Value) (sch : List RM) (y : Value) (fs : List RF) (w : World) : Prop := KeepP C g u sch w ∧ FieldsAt w (fun b => b < C ∧ b ≠ g) y fs
theorem KeepF.off {C g : Nat} {u y : Value} {sch : List RM} {fs : List RF} : ∀ w w', KeepF C g u sch y fs w → Off w.heap.size g w w' → KeepF C g u sch y fs w' := fun w w' h ho =>
  ⟨KeepP.off w w' h.1 ho, h.2.keep (kept_off h.1.1 ho) fun _ h => h⟩
/-- How long a message's bytes may get. -/
def bytesK : Nat → Nat
  | 0 => 240
  | d + 1 => 4 * (bytesK d + 60)
def bytesL : Nat → Nat
  | 0 => 0
  | d + 1 => bytesK d
theorem bytesK_eq (d : Nat) : bytesK d = 4 * (bytesL d + 60) := by cases d <;> rfl
theorem bytesK_le {d : Nat} (h : d ≤ 4) : bytesK d ≤ 81840 := by
  have : d = 0 ∨ d = 1 ∨ d = 2 ∨ d = 3 ∨ d = 4 := by omega
  rcases this with rfl | rfl | rfl | rfl | rfl <;> decide
structure RefsOk (sch : List RM) : Prop where
  len : sch.length ≤ 1000
  fields : ∀ m ∈ sch, m.2.length ≤ 1000
  refs : ∀ m ∈ sch, ∀ f ∈ m.2, f.2.1 = 8 → 0 ≤ f.2.2.2.2 ∧ f.2.2.2.2 < sch.length
def BytesAt (u : Value) (sch : List RM) (PA PB PC : Int) (C B g : Nat) (a : Option Addr) (len cap d : Nat) : Prop :=
  ∀ (sh : Nat) (w : World), sh < sch.length → Cur w B g a len cap → B ≤ w.heap.size → g < w.heap.size → KeepP C g u sch w → Calls Tryz.prog 57 #[.pointer (some ⟨g, 0, none⟩), planV u PA PB PC, .int .i64 sh, .int .i64 d] w (TxtP B g a len cap (bytesK d) w)
set_option maxHeartbeats 8000000 in
set_option maxRecDepth 100000 in
theorem l12Bytes_step (u : Value) (sch : List RM) (PA PB PC : Int) (C B g : Nat) (a : Option Addr) (len cap d : Nat) (hd : d ≤ 4) (hR : RefsOk sch) (IH : ∀ d', d = d' + 1 → BytesAt u sch PA PB PC C B g a len cap d') : BytesAt u sch PA PB PC C B g a len cap d := by
  intro sh w hsh h hB hg hk
  rw [bytesK_eq]
  have hK := bytesK_le hd
  rw [bytesK_eq] at hK
  have HV : Hid (∀ m ∈ sch, ∀ r, ∀ hr : r < m.2.length, ∀ w, Cur w B g a len cap → B ≤ w.heap.size → g < w.heap.size → KeepP C g u sch w → Calls Tryz.prog 90 #[.pointer (some ⟨g, 0, none⟩), .agg #[u, .int .i64 PA, .int .i64 PB, .int .i64 PC], .agg #[.int .i64 m.2[r].1, .int .i64 m.2[r].2.1, .bool m.2[r].2.2.1, .bool m.2[r].2.2.2.1, .int .i64 m.2[r].2.2.2.2], .int .i64 d] w (TxtP B g a len cap (bytesL d + 60) w)) := Lib.hid fun m hm r hr w h hB hg hk => by
    have hmem : m.2[r] ∈ m.2 := List.getElem_mem hr
    have href := hR.refs m hm m.2[r] hmem
    refine l12Value_any (KeepP C g u sch) B g a len cap KeepP.off u PA PB PC m.2[r].1 m.2[r].2.1 m.2[r].2.2.2.2 m.2[r].2.2.1 m.2[r].2.2.2.1 d (bytesL d) w h hB hg hk (by omega) (by omega) ?_
    intro hd0 h8 w h hB hg hk
    obtain ⟨d', rfl⟩ : ∃ d', d = d' + 1 := ⟨d - 1, by omega⟩
    obtain ⟨h0, h1⟩ := href h8
    obtain ⟨q, hq⟩ := Int.eq_ofNat_of_zero_le h0
    rw [hq] at h1 ⊢
    have k := IH d' rfl q w (by omega) h hB hg hk
    rw [show ((d' + 1 : Nat) : Int) - 1 = (d' : Int) by omega]
    exact k
  have hoff : Off w.heap.size g w (w.alloc (.cells #[u, .int .i64 PA, .int .i64 PB, .int .i64 PC] 28)) := Below.off ((Below.refl _ _).alloc (Nat.le_refl _) _)
  have H0 : Hid (By (KeepP C g u sch) w B g a len cap u (.int .i64 PA) (.int .i64 PB) (.int .i64 PC) (w.alloc (.cells #[u, .int .i64 PA, .int .i64 PB, .int .i64 PC] 28))) := Lib.hid ⟨Box.fresh w _ _, h.other ((Below.refl _ _).alloc (Nat.le_refl _) _) (by omega) (by omega), KeepP.off _ _ hk hoff, hoff, hg, hB⟩
  have hl := hR.len
  obtain ⟨ua, uc, rfl⟩ := MsgsAt.len hk.2
  have hmem := List.getElem_mem hsh
  have HVm := Lib.hid (HV.out _ hmem)
  have hfl := hR.fields _ hmem
  clear h hoff hk hR IH HV hmem
  have hshi : (sh : Int) < (sch.length : Int) := by omega
  unfold planV
  obtain ⟨⟨d0, d1, d2, d3⟩, dz⟩ := H0.out.cells
  go_enter Tryz.func57, Tryz.ntmps57
  go_wp2_with fail
  refine (byBelow H0.out KeepP.off 5 (by omega)).mono ?_
  rintro e w1 ⟨n, hn, rfl, H1⟩
  have H1 := Lib.hid H1
  clear d0 d1 d2 d3 dz H0
  obtain ⟨⟨d0, d1, d2, d3⟩, dz⟩ := H1.out.cells
  obtain ⟨b, o, c, hv, hbC, hcs⟩ := H1.out.keep.2.cells (by omega)
  obtain ⟨rfl, rfl⟩ : ua = some ⟨b, o, none⟩ ∧ uc = c := by injection hv with e1 e2 e3; exact ⟨e1, e3⟩
  obtain ⟨y, y0, y1, hy⟩ := hcs sh hsh
  obtain ⟨xa, xc, rfl⟩ := hy.len
  have H2 : Hid (By (KeepF C g (.slice (some ⟨b, o, none⟩) sch.length uc) sch (.slice xa sch[sh].2.length xc) sch[sh].2) w B g a len cap (.slice (some ⟨b, o, none⟩) sch.length uc) (.int .i64 PA) (.int .i64 PB) (.int .i64 PC) w1) := Lib.hid ⟨H1.out.pb, H1.out.cur, ⟨H1.out.keep, hy⟩, H1.out.off, H1.out.lt⟩
  clear hcs hv hy H1
  generalize sch[sh] = m at y0 y1 hfl HVm H2
  obtain ⟨id, fs⟩ := m
  simp only at y0 y1 hfl HVm H2
  go_wp2_with fail
  have KF := @KeepF.off C g (.slice (some ⟨b, o, none⟩) sch.length uc) (.slice xa fs.length xc) sch fs
  have HQ := Lib.hid KF
  clear KF d0 d1 d2 d3 dz y0 y1
  go_loopw [9, 12] (fun v i wr => ∃ (k : Nat) (t : ByteArray), k ≤ n ∧ t.size ≤ (bytesL d + 60) * k ∧ i = .int .i64 k ∧ v = .string t ∧ Hid (By (KeepF C g (.slice (some ⟨b, o, none⟩) sch.length uc) sch (.slice xa fs.length xc) fs) w B g a len cap (.slice (some ⟨b, o, none⟩) sch.length uc) (.int .i64 PA) (.int .i64 PB) (.int .i64 PC) wr)) (fun _ i _ => n - (intOf i).toNat)
  case atStart => exact ⟨0, ⟨#[]⟩, by omega, by show 0 ≤ _; omega, rfl, rfl, H2⟩
  case round =>
    clear H2
    obtain ⟨k, t, hkn, ht, rfl, rfl, H3⟩ := hrel
    by_cases hlt : k < n
    · have hlti : (k : Int) < (n : Int) := by omega
      have hstep : t.size + (bytesL d + 60) ≤ (bytesL d + 60) * (k + 1) := by rw [Nat.mul_succ]; omega
      have hk4 : k ≤ 4 := by omega
      have hts : t.size ≤ 81840 := Nat.le_trans ht (Nat.le_trans (Nat.mul_le_mul_left _ hk4) (by omega))
      have hLb : bytesL d + 60 ≤ 20460 := by omega
      obtain ⟨⟨d0, d1, d2, d3⟩, dz⟩ := H3.out.cells
      by_cases hz : fs.length = 0
      · have hz0 : ((fs.length : Int) == 0) = true := by simp [hz]
        clear hz
        go_wp2_with fail
        refine (byTxt H3.out HQ.out (l12Unknown_any B g a len cap _ H3.out.cur (by have := H3.out.size; omega) (by have := H3.out.size; omega))).mono ?_
        rintro e w4 ⟨x, hx, rfl, H4⟩
        have H4 := Lib.hid H4
        clear d0 d1 d2 d3 dz H3
        go_wp2_with fail
        go_roundw
        case rel => exact ⟨k + 1, t ++ x, by omega, by rw [ByteArray.size_append]; omega, by go_num, rfl, H4⟩
        case measure => simp [intOf]; omega
      · have hz0 : ((fs.length : Int) == 0) = false := neI (by omega)
        have hlz : (0 : Int) < (fs.length : Int) := by omega
        have hlN := Lib.hid (show 0 < fs.length by omega)
        clear hz
        go_wp2_with fail
        refine (byOnce H3.out HQ.out 8 (by omega)).mono ?_
        rintro e w4 ⟨q, rfl, H4⟩
        have H4 := Lib.hid H4
        clear d0 d1 d2 d3 dz H3
        obtain ⟨⟨d0, d1, d2, d3⟩, dz⟩ := H4.out.cells
        cases q with
        | true =>
          go_wp2_with fail
          refine (byTxt H4.out HQ.out (l12Unknown_any B g a len cap _ H4.out.cur (by have := H4.out.size; omega) (by have := H4.out.size; omega))).mono ?_
          rintro e w5 ⟨x, hx, rfl, H5⟩
          have H5 := Lib.hid H5
          clear d0 d1 d2 d3 dz H4
          go_wp2_with fail
          go_roundw
          case rel => exact ⟨k + 1, t ++ x, by omega, by rw [ByteArray.size_append]; omega, by go_num, rfl, H5⟩
          case measure => simp [intOf]; omega
        | false =>
          obtain ⟨fb, fo, fc, fv, fbC, _⟩ := H4.out.keep.2.cells hlN.out
          obtain ⟨rfl, rfl⟩ : xa = some ⟨fb, fo, none⟩ ∧ xc = fc := by injection fv with e1 e2 e3; exact ⟨e1, e3⟩
          clear fv
          go_upto_region 9 with fail
          go_region_with (first
            | (go_at_call 56; go_loud (refine (byBelow (by first | exact H4.out.drew HQ.out | exact H4.out) HQ.out (fs.length : Int) ⟨hlz, by omega⟩).mono ?_); go_loud (rintro e w5 ⟨r, hr, rfl, H5⟩); go_loud (have H5 := Lib.hid H5); go_loud (have hrl : r < fs.length := by omega); go_loud (obtain ⟨x0, x1, x2, x3, x4⟩ := H5.out.keep.2.atR r hrl); go_loud (have fbz := Nat.lt_of_lt_of_le fbC.1 H5.out.keep.1.1); go_loud (obtain ⟨⟨q0, q1, q2, q3⟩, qz⟩ := H5.out.cells))
            | (go_at_call 90; go_loud (refine (byTxt (N := bytesL d + 60) H5.out HQ.out (HVm.out r hrl _ H5.out.cur (by have := H5.out.size; omega) (by have := H5.out.size; omega) H5.out.keep.1)).mono ?_); go_loud (rintro e w6 ⟨x, hx, rfl, H6⟩); go_loud (have H6 := Lib.hid H6)))
          all_goals
            go_wp2_with fail
            go_roundw
            case rel => exact ⟨k + 1, t ++ x, by omega, by rw [ByteArray.size_append]; omega, by go_num, rfl, H6⟩
            case measure => simp [intOf]; omega
    · have hge : (n : Int) ≤ (k : Int) := by omega
      have hend : decide (k < n) = false := decide_eq_false hlt
      have hk4 : k ≤ 4 := by omega
      have hfin : (bytesL d + 60) * k ≤ (bytesL d + 60) * 4 := Nat.mul_le_mul_left _ hk4
      go_wp2_with fail
      go_ret
      exact ⟨t, by omega, rfl, H3.out.cur, H3.out.off⟩
theorem l12Bytes_any (u : Value) (sch : List RM) (PA PB PC : Int) (C B g : Nat) (a : Option Addr) (len cap : Nat) (hR : RefsOk sch) : ∀ d : Nat, d ≤ 4 → BytesAt u sch PA PB PC C B g a len cap d
  | 0, h => l12Bytes_step u sch PA PB PC C B g a len cap 0 h hR fun d' e => by omega
  | d + 1, h => l12Bytes_step u sch PA PB PC C B g a len cap (d + 1) h hR fun d' e => by
      obtain rfl : d = d' := by omega
      exact l12Bytes_any u sch PA PB PC C B g a len cap hR d (by omega)
end Go.Proofs.YtpkofbdfnbpfpaaGreat.Num


/-
  Of a drawn plan's schema: every field that holds a message names a shape that there is. For any program.
-/
namespace Go.Proofs.YtpkofbdfnbpfpaaGreat.Num
open Go.RowKit Go.Proofs
set_option linter.unusedVariables false
set_option linter.unusedSimpArgs false

theorem putR_memR {l : List RF} {f x : RF} (h : x ∈ putR l f) : x = f ∨ x ∈ l := by
  unfold putR at h
  rcases List.mem_append.mp h with h | h
  · exact .inr ((List.takeWhile_sublist _).subset h)
  · rcases List.mem_cons.mp h with h | h
    · exact .inl h
    · exact .inr ((List.dropWhile_sublist _).subset h)
theorem foldPut_memR {r : List RM} {x : RF} : ∀ (l acc : List RF), x ∈ l.foldl (fun acc f => putR acc (compF r f)) acc → x ∈ acc ∨ ∃ f ∈ l, x = compF r f
  | [], acc, h => .inl h
  | f :: l, acc, h => by
    rcases foldPut_memR l _ h with h | ⟨g, hg, e⟩
    · rcases putR_memR h with h | h
      · exact .inr ⟨f, List.mem_cons_self .., h⟩
      · exact .inl h
    · exact .inr ⟨g, List.mem_cons_of_mem _ hg, e⟩
theorem compFs_memR {r : List RM} {l : List RF} {x : RF} (h : x ∈ compFs r l) : ∃ f ∈ l, x = compF r f := by
  unfold compFs at h
  rcases foldPut_memR l [] h with h | h
  · simp at h
  · exact h
theorem foldStep_memR {r : List RM} {x : RM} : ∀ (l acc : List RM), x ∈ l.foldl (compStep r) acc → x ∈ acc ∨ ∃ m ∈ l, x = (m.1, compFs r m.2)
  | [], acc, h => .inl h
  | m :: l, acc, h => by
    rcases foldStep_memR l _ h with h | ⟨g, hg, e⟩
    · unfold compStep at h
      rcases List.mem_or_eq_of_mem_set h with h | h
      · exact .inl h
      · exact .inr ⟨m, List.mem_cons_self .., h⟩
    · exact .inr ⟨g, List.mem_cons_of_mem _ hg, e⟩
theorem refs_compile {ms mr : List OM} (hr : Right mr) (hp : plain ms = compileR (plain mr)) (hl : ms.length ≤ 4) (hf : ∀ j (hj : j < ms.length), ms[j].2.2.length ≤ 5) : RefsOk (plain ms) := by
  have hlen : (plain ms).length = (plain mr).length := by rw [hp, compileR_len]
  have hpl : (plain ms).length = ms.length := by unfold plain; simp
  refine ⟨by omega, ?_, ?_⟩
  · intro m hm
    unfold plain at hm
    obtain ⟨q, hq, rfl⟩ := List.mem_map.mp hm
    obtain ⟨j, hj, rfl⟩ := List.getElem_of_mem hq
    have := hf j hj
    show ms[j].2.2.length ≤ 1000
    omega
  · intro m hm f hf' h8
    rw [hlen]
    rw [hp] at hm
    unfold compileR at hm
    rcases foldStep_memR _ _ hm with h | ⟨x, hx, rfl⟩
    · rw [(List.mem_replicate.mp h).2] at hf'; simp at hf'
    · obtain ⟨y, hy, rfl⟩ := compFs_memR hf'
      unfold plain at hx
      obtain ⟨q, hq, rfl⟩ := List.mem_map.mp hx
      obtain ⟨j, hj, rfl⟩ := List.getElem_of_mem hq
      obtain ⟨_, _, _, h4, _⟩ := (hr.2 j hj).1 y hy
      obtain ⟨k, hk, hkid⟩ := h4 h8
      have hk' : k < (plain mr).length := by unfold plain; simpa using hk
      have hid : (plain mr)[k].1 = y.2.2.2.2 := (congrArg Prod.fst (List.getElem_map (fun m : OM => ((m.1, m.2.2) : RM)) (l := mr) (i := k) (h := hk'))).trans hkid
      have hrank := rank_lt (r := plain mr) hk'
      rw [hid] at hrank
      unfold compF
      rw [if_pos (show y.2.1 = 8 from h8)]
      exact ⟨by show (0 : Int) ≤ ((rankR (plain mr) y.2.2.2.2 : Nat) : Int); omega, by show ((rankR (plain mr) y.2.2.2.2 : Nat) : Int) < _; omega⟩
end Go.Proofs.YtpkofbdfnbpfpaaGreat.Num


/-
  The walk of the reference's draw of a plan, a shape, a text, two places and a depth (DrawReadMsg): what is drawn is small; nothing that was there is written.
-/
namespace Go.Proofs.YtpkofbdfnbpfpaaGreat.Num
open Go.RowKit Go.Proofs
set_option linter.unusedVariables false
set_option linter.unusedSimpArgs false
/-- A drawn schema's rows lie from lo to T. -/
def ZoneP (lo T : Nat) (u : Value) (sch : List RM) (w : World) : Prop := T ≤ w.heap.size ∧ MsgsAt w (fun b => lo ≤ b ∧ b < T) u sch
theorem ZoneP.keepP {lo T g : Nat} {u : Value} {sch : List RM} {w : World} (h : ZoneP lo T u sch w) (hg : g < lo) : KeepP T g u sch w := ⟨h.1, h.2.keep (fun _ _ _ => rfl) fun b hb => ⟨hb.2, by have := hb.1; omega⟩⟩
theorem ZoneP.off {lo T g : Nat} {u : Value} {sch : List RM} {w w' : World} (h : ZoneP lo T u sch w) (hg : g < lo) (ho : Off w.heap.size g w w') : ZoneP lo T u sch w' :=
  ⟨Nat.le_trans h.1 ho.size, h.2.keep (fun b o' hb => World.cell?_of_block (a := ⟨b, o', none⟩) (ho.block b (Nat.lt_of_lt_of_le hb.2 h.1) (by have := hb.1; omega))) fun _ h => h⟩
theorem ZoneP.below {lo T : Nat} {u : Value} {sch : List RM} {w w' : World} (h : ZoneP lo T u sch w) (ho : Below w.heap.size w w') : ZoneP lo T u sch w' :=
  ⟨Nat.le_trans h.1 ho.size, h.2.keep (.of_below ho fun b hb => Nat.lt_of_lt_of_le hb.2 h.1) fun _ h => h⟩
theorem ZoneP.set {lo T : Nat} {u : Value} {sch : List RM} {w : World} (h : ZoneP lo T u sch w) {p : Addr} (hp : p.block < lo ∨ T ≤ p.block) (v : Value) : ZoneP lo T u sch (w.setCell p v) :=
  ⟨by have := h.1; simpa [World.setCell] using this, h.2.keep (.of_set v fun hb => by have h1 := hb.1; have h2 := hb.2; omega) fun _ h => h⟩
/-- What is kept while the rest is drawn: the schema's rows, the answer's cell. -/
def QD (lo T R g : Nat) (u : Value) (sch : List RM) (w : World) : Prop := (ZoneP lo T u sch w ∧ Box w R [.slice none 0 0, .int .i64 0, .int .i64 0, .int .i64 0]) ∧ g < lo ∧ R ≠ g
theorem QD.off {lo T R g : Nat} {u : Value} {sch : List RM} : ∀ w w', QD lo T R g u sch w → Off w.heap.size g w w' → QD lo T R g u sch w' := fun w w' h ho =>
  ⟨⟨h.1.1.off h.2.1 ho, Box.offAt ho h.1.2 h.1.2.lt h.2.2⟩, h.2⟩
theorem By.bent {lo T lo' T' R g B : Nat} {a : Option Addr} {len cap : Nat} {u u' : Value} {sch sch' : List RM} {p1 p2 p3 q1 q2 q3 : Value} {w wx wy : World} (h : By (QD lo T R g u sch) w B g a len cap u p1 p2 p3 wx)
    (hz : ZoneP lo' T' u' sch' wy) (hlo : wx.heap.size ≤ lo') (ho : Off wx.heap.size g wx wy) (hc : Cur wy B g a len cap) (hRw : w.heap.size ≠ R) :
    By (QD lo' T' R g u' sch') w B g a len cap u' q1 q2 q3 ((((wy.setCell ⟨w.heap.size, 0, none⟩ u').setCell ⟨w.heap.size, 1, none⟩ q1).setCell ⟨w.heap.size, 2, none⟩ q2).setCell ⟨w.heap.size, 3, none⟩ q3) := by
  have k := h.offs QD.off ho hc
  obtain ⟨h1, h2⟩ := h.lt
  have k1 := h.pb.1
  have k2 := k.pb.1
  have hR := k.keep.1.2
  have hRl := h.keep.1.2.lt
  have hg := h.keep.2.1
  have hne : ¬ w.heap.size < lo' → False := fun h => by omega
  have hb : Below w.heap.size wy ((((wy.setCell ⟨w.heap.size, 0, none⟩ u').setCell ⟨w.heap.size, 1, none⟩ q1).setCell ⟨w.heap.size, 2, none⟩ q2).setCell ⟨w.heap.size, 3, none⟩ q3) :=
    ((((Below.refl _ _).setCell (p := ⟨w.heap.size, 0, none⟩) (Nat.le_refl w.heap.size) _).setCell (p := ⟨w.heap.size, 1, none⟩) (Nat.le_refl w.heap.size) _).setCell (p := ⟨w.heap.size, 2, none⟩) (Nat.le_refl w.heap.size) _).setCell (p := ⟨w.heap.size, 3, none⟩) (Nat.le_refl w.heap.size) _
  refine ⟨?_, ?_, ⟨⟨?_, ?_⟩, by omega, h.keep.2.2⟩, k.off.trans (Below.off hb), h.lt⟩
  · exact (((k.pb.set 0 u').set 1 q1).set 2 q2).set 3 q3
  · exact hc.other hb (by omega) (by omega)
  · exact (((hz.set (p := ⟨w.heap.size, 0, none⟩) (.inl (by show w.heap.size < lo'; omega)) _).set (p := ⟨w.heap.size, 1, none⟩) (.inl (by show w.heap.size < lo'; omega)) _).set (p := ⟨w.heap.size, 2, none⟩) (.inl (by show w.heap.size < lo'; omega)) _).set (p := ⟨w.heap.size, 3, none⟩) (.inl (by show w.heap.size < lo'; omega)) _
  · exact (((hR.other (a := ⟨w.heap.size, 0, none⟩) hRw _).other (a := ⟨w.heap.size, 1, none⟩) hRw _).other (a := ⟨w.heap.size, 2, none⟩) hRw _).other (a := ⟨w.heap.size, 3, none⟩) hRw _
theorem small_plan {ms : List OM} (h1 : ms.length ≤ 7) (h2 : ∀ j (hj : j < ms.length), ms[j].2.2.length ≤ 6) : Small (plain ms) := by
  refine ⟨by unfold plain; simp; omega, fun m hm => ?_⟩
  unfold plain at hm
  obtain ⟨q, hq, rfl⟩ := List.mem_map.mp hm
  obtain ⟨j, hj, rfl⟩ := List.getElem_of_mem hq
  have := h2 j hj
  show ms[j].2.2.length ≤ _
  omega
/-- What DrawReadMsg answers. -/
structure DrawnRd (sch : List RM) (A D C shape : Int) (s : ByteArray) (x E deep : Int) : Prop where
  small : Small sch
  plan : -1 ≤ A ∧ A ≤ 9223372036854775807 ∧ -1 ≤ D ∧ D ≤ 9 ∧ -1 ≤ C ∧ C ≤ 2001
  shape : -1 ≤ shape ∧ shape ≤ 9
  size : s.size ≤ 100000
  place : -1 ≤ x ∧ x ≤ 100001
  upto : -1 ≤ E ∧ E ≤ 9223372036854775807
  deep : -1 ≤ deep ∧ deep ≤ 9
set_option maxHeartbeats 8000000 in
set_option maxRecDepth 100000 in
theorem drawReadMsg_any (a : Option Addr) (len cap : Nat) (w : World) (h : CodeAt w w.heap.size a len) :
    Calls Tryz.prog 17 #[.slice a len cap] w fun e w' => ∃ (u : Value) (sch : List RM) (A D C shape : Int) (s : ByteArray) (x E deep : Int), DrawnRd sch A D C shape s x E deep ∧ e = .returned (.tuple #[planV u A D C, .int .i64 shape, .string s, .int .i64 x, .int .i64 E, .int .i64 deep]) ∧ MsgsAt w' (fun b => w.heap.size ≤ b ∧ b < w'.heap.size) u sch ∧ Below w.heap.size w w' := by
  have H := Lib.hid h; clear h
  have hx0 := Box.fresh w #[.slice none 0 0, .int .i64 0, .int .i64 0, .int .i64 0] 28
  have hb0 : Below w.heap.size w (w.alloc (.cells #[.slice none 0 0, .int .i64 0, .int .i64 0, .int .i64 0] 28)) := (Below.refl _ _).alloc (Nat.le_refl _) _
  have hz0 : (w.alloc (.cells #[.slice none 0 0, .int .i64 0, .int .i64 0, .int .i64 0] 28)).heap.size = w.heap.size + 1 := by simp
  go_enter Tryz.func17, Tryz.ntmps17
  go_wp2_with fail
  generalize (w.alloc (.cells #[.slice none 0 0, .int .i64 0, .int .i64 0, .int .i64 0] 28)) = w1 at hx0 hb0 hz0 ⊢
  refine (l1New_any w.heap.size a len cap _ (by omega) (H.out.below hb0)).mono ?_
  rintro e w2 ⟨g, rfl, hc2, hb2, hg2, hg2'⟩
  have hx2 := hx0.below hb2 hx0.lt
  have hl2 := hb0.trans (hb2.mono (by omega))
  have hz2 := hb2.size
  have hRg : w.heap.size ≠ g := by omega
  clear hx0 hb0 hb2
  go_wp2_with fail
  refine (l12Plan_any _ g a len cap _ hc2 (by omega) (by omega)).mono ?_
  rintro e w3 ⟨u, ms, mr, A, D, C, ⟨⟨hm0, hm4, hf5⟩, hRt, hp⟩, ⟨hA0, hA1, hD1, hD4, hC0, hC1⟩, rfl, hown, hc3, ho3⟩
  obtain ⟨gm, capm, hv, hgm1, hgm2⟩ := World.ownsRow.form hown.row hm0
  have hz3 := ho3.size
  have hl3 : Below w.heap.size w w3 := hl2.trans (ho3.below (by omega) (by omega))
  have hlt3 : w2.heap.size + 3 ≤ w3.heap.size := by
    subst hv
    have := World.ownsRow.lt hown.row gm (by rfl)
    omega
  have hw3n : w3.heap.size ≠ w.heap.size := by omega
  have hR3 : Box w3 w.heap.size [.slice none 0 0, .int .i64 0, .int .i64 0, .int .i64 0] := Box.offAt ho3 hx2 hx2.lt hRg
  obtain ⟨sch, hsch⟩ : ∃ sch, plain ms = sch := ⟨_, rfl⟩
  have hlen : sch.length = ms.length := by rw [← hsch]; unfold plain; simp
  have Hrefs := Lib.hid (refs_compile hRt hp hm4 hf5)
  have Hsm := Lib.hid (small_plan (by omega) fun j hj => Nat.le_trans (hf5 j hj) (by omega))
  have hzp := hown.msgsAt
  rw [hsch] at Hrefs Hsm hzp
  clear hv hgm1 hgm2
  obtain ⟨ua, uc, rfl⟩ := MsgsAt.len hzp
  have hpl : sch.length ≤ 4 ∧ 0 < sch.length ∧ 0 ≤ A ∧ A ≤ 4 := by omega
  have hb3 : Below w3.heap.size w3 (w3.alloc (.cells #[.slice ua sch.length uc, .int .i64 A, .int .i64 D, .int .i64 C] 28)) := (Below.refl _ _).alloc (Nat.le_refl _) _
  obtain ⟨lo, hlo⟩ : ∃ lo, w2.heap.size + 3 = lo := ⟨_, rfl⟩
  obtain ⟨T, hT⟩ : ∃ T, w3.heap.size = T := ⟨_, rfl⟩
  rw [hlo] at hzp
  have hzp2 : MsgsAt w3 (fun b => lo ≤ b ∧ b < T) (.slice ua sch.length uc) sch := by rw [← hT]; exact hzp
  have H4 : Hid (By (QD lo T w.heap.size g (.slice ua sch.length uc) sch) w3 w.heap.size g a len cap (.slice ua sch.length uc) (.int .i64 A) (.int .i64 D) (.int .i64 C) (w3.alloc (.cells #[.slice ua sch.length uc, .int .i64 A, .int .i64 D, .int .i64 C] 28))) := Lib.hid ⟨Box.fresh w3 _ _, hc3.other hb3 (by omega) (by omega), ⟨⟨(show ZoneP lo T (.slice ua sch.length uc) sch w3 from ⟨by omega, hzp2⟩).below hb3, hR3.below hb3 hR3.lt⟩, by omega, hRg⟩, Below.off hb3, by omega, by omega⟩
  have hglo : g < lo := by omega
  clear hT hlo
  clear hx2 hl2 hc2 hown hc3 ho3 hR3 hzp hb3 hsch hRt hp hf5 hm0 hm4 H hzp2 hlen hA0 hA1
  unfold planV
  obtain ⟨⟨d0, d1, d2, d3⟩, dz⟩ := H4.out.cells
  go_wp2_with fail
  generalize (w3.alloc (.cells #[.slice ua sch.length uc, .int .i64 A, .int .i64 D, .int .i64 C] 28)) = w4 at H4 d0 d1 d2 d3 dz ⊢
  refine (byBelow H4.out QD.off (sch.length : Int) ⟨by omega, by omega⟩).mono ?_
  rintro e w5 ⟨A1, hA1, rfl, H5⟩
  have H5 := Lib.hid H5
  clear d0 d1 d2 d3 dz
  clear H4
  obtain ⟨⟨d0, d1, d2, d3⟩, dz⟩ := H5.out.cells
  go_upto_region 4 with fail
  go_cut [11] (fun s11 wx => ∃ t : ByteArray, s11 = .string t ∧ t.size ≤ 81840 ∧ Hid (By (QD lo T w.heap.size g (.slice ua sch.length uc) sch) w3 w.heap.size g a len cap (.slice ua sch.length uc) (.int .i64 A) (.int .i64 D) (.int .i64 C) wx))
  case first =>
    have HB := Lib.hid (fun q hq => l12Bytes_any (.slice ua sch.length uc) sch A D C T w.heap.size g a len cap Hrefs.out q hq)
    go_region_with (first
      | (go_at_call 56; go_loud (refine (byBelow (by first | exact H5.out.drew QD.off | exact H5.out) QD.off 4 (by omega)).mono ?_); go_loud (rintro e w6 ⟨q, hq, rfl, H6⟩); go_loud (have H6 := Lib.hid H6); go_loud (obtain ⟨⟨q0, q1, q2, q3⟩, qz⟩ := H6.out.cells))
      | (go_at_call 57; go_loud (refine (byTxt (N := 81840) H6.out QD.off ((HB.out q (by omega) A1 _ (by omega) H6.out.cur (by have := H6.out.size; have := H6.out.lt; omega) (by have := H6.out.size; have := H6.out.lt; omega) (H6.out.keep.1.1.keepP hglo)).mono fun e w' h => by obtain ⟨s, hs, h⟩ := h; exact ⟨s, Nat.le_trans hs (bytesK_le (by omega)), h⟩)).mono ?_); go_loud (rintro e w7 ⟨t, ht, rfl, H7⟩); go_loud (have H7 := Lib.hid H7)))
    all_goals
      go_wp2_with fail
      go_meet
      exact ⟨t, rfl, ht, H7⟩
  case rest =>
  obtain ⟨t, rfl, ht, H6⟩ := hcut
  clear d0 d1 d2 d3 dz
  clear H5
  obtain ⟨⟨d0, d1, d2, d3⟩, dz⟩ := H6.out.cells
  go_wp2_with fail
  refine (byBelow H6.out QD.off 3 (by omega)).mono ?_
  rintro e w7 ⟨P, hP, rfl, H7⟩
  have H7 := Lib.hid H7
  clear d0 d1 d2 d3 dz
  clear H6
  obtain ⟨⟨d0, d1, d2, d3⟩, dz⟩ := H7.out.cells
  go_wp2_with fail
  refine (l1Bytes_any w.heap.size g a len cap P _ H7.out.cur (by have := H7.out.size; have := H7.out.lt; omega) (by have := H7.out.size; have := H7.out.lt; omega) (by omega)).mono ?_
  rintro e w8 ⟨v, l, rfl, hl, hown, hc8, hf8⟩
  obtain ⟨x, hx, hcv⟩ := conv_own hown hl
  have H8 := Lib.hid (H7.out.offs QD.off hf8 hc8)
  clear hl hown hc8 hf8 H7 d0 d1 d2 d3 dz
  obtain ⟨⟨d0, d1, d2, d3⟩, dz⟩ := H8.out.cells
  go_wp2_with fail
  refine (byTxt (N := 81842) H8.out QD.off (l12Turned_any w.heap.size g a len cap 81840 t _ H8.out.cur (by have := H8.out.size; have := H8.out.lt; omega) (by have := H8.out.size; have := H8.out.lt; omega) ht (by omega))).mono ?_
  rintro e w9 ⟨z, hz, rfl, H9⟩
  have H9 := Lib.hid H9
  clear d0 d1 d2 d3 dz
  clear H8
  obtain ⟨⟨d0, d1, d2, d3⟩, dz⟩ := H9.out.cells
  have hxz : (x ++ z).size ≤ 90000 := by rw [ByteArray.size_append]; omega
  have hsxz : x.size + z.size < 9223372036854775807 := by omega
  have hw1 : IntKind.i64.wrap ((P : Int) + (t.size : Int)) = (P : Int) + t.size := IntWalk.i64_in _ (by omega)
  go_wp2_with fail
  obtain ⟨y, hy⟩ : ∃ y, x ++ z = y := ⟨_, rfl⟩
  rw [hy] at hxz ⊢
  clear hy hsxz
  refine (byBelow H9.out QD.off 12 (by omega)).mono ?_
  rintro e w8 ⟨q, hq, rfl, H8⟩
  have H8 := Lib.hid H8
  clear d0 d1 d2 d3 dz
  clear H9
  obtain ⟨⟨d0, d1, d2, d3⟩, dz⟩ := H8.out.cells
  go_upto_block 0 with fail
  go_cut [10, 12, 13, 14, 15] (fun s10 s12 s13 s14 s15 wx => ∃ (lo T : Nat) (u : Value) (sch : List RM) (A D C shape : Int) (s : ByteArray) (x E deep : Int), s10 = .int .i64 shape ∧ s12 = .string s ∧ s13 = .int .i64 x ∧ s14 = .int .i64 E ∧ s15 = .int .i64 deep ∧ Hid (DrawnRd sch A D C shape s x E deep) ∧ w3.heap.size ≠ w.heap.size ∧ Hid (By (QD lo T w.heap.size g u sch) w3 w.heap.size g a len cap u (.int .i64 A) (.int .i64 D) (.int .i64 C) wx))
  case first =>
    have hq : q = 0 ∨ q = 1 ∨ q = 2 ∨ q = 3 ∨ q = 4 ∨ q = 5 ∨ 6 ≤ q := by omega
    rcases hq with hq | hq | hq | hq | hq | hq | hq
    · subst hq
      have hw0 : IntKind.i64.wrap ((y.size : Int) + 9) = (y.size : Int) + 9 := IntWalk.i64_in _ (by omega)
      go_wp2_with fail
      refine (l1PickInt_any _ g a len cap _ 5 5 [0, -1, (y.size : Int), (y.size : Int) + 9, 9223372036854775807] #[.int .i64 0, .int .i64 (-1), .int .i64 y.size, .int .i64 ((y.size : Int) + 9), .int .i64 9223372036854775807] 3 (0, 0) _ (H8.out.offs QD.off (Below.off ((Below.refl _ _).alloc (Nat.le_refl _) _)) (H8.out.cur.other ((Below.refl _ _).alloc (Nat.le_refl _) _) (by have := H8.out.size; have := H8.out.lt; omega) (by have := H8.out.size; have := H8.out.lt; omega))).cur (heap_alloc_new _ _) rfl rfl (by omega) (by omega) (by have := H8.out.size; have := H8.out.lt; omega)).mono ?_
      rintro e w9 ⟨z, hz, rfl, hc9, ho9⟩
      have H9 := Lib.hid ((H8.out.offs QD.off (Below.off ((Below.refl _ _).alloc (Nat.le_refl _) _)) (H8.out.cur.other ((Below.refl _ _).alloc (Nat.le_refl _) _) (by have := H8.out.size; have := H8.out.lt; omega) (by have := H8.out.size; have := H8.out.lt; omega))).offs QD.off (Only.off ho9 (Nat.le_refl _)) hc9)
      simp only [List.mem_cons, List.not_mem_nil, or_false] at hz
      clear hc9 ho9
      go_wp2_with fail
      go_meet
      exact ⟨lo, T, .slice ua sch.length uc, sch, A, D, C, (A1 : Int), y, (P : Int), z, 1, rfl, rfl, rfl, rfl, rfl, Lib.hid ⟨Hsm.out, by omega, by omega, by omega, by omega, by omega, by omega⟩, hw3n, H9⟩
    · subst hq
      have hw0 : IntKind.i64.wrap ((y.size : Int) + 1) = (y.size : Int) + 1 := IntWalk.i64_in _ (by omega)
      go_wp2_with fail
      refine (l1PickInt_any _ g a len cap _ 4 4 [0, -1, (y.size : Int), (y.size : Int) + 1] #[.int .i64 0, .int .i64 (-1), .int .i64 y.size, .int .i64 ((y.size : Int) + 1)] 3 (0, 0) _ (H8.out.offs QD.off (Below.off ((Below.refl _ _).alloc (Nat.le_refl _) _)) (H8.out.cur.other ((Below.refl _ _).alloc (Nat.le_refl _) _) (by have := H8.out.size; have := H8.out.lt; omega) (by have := H8.out.size; have := H8.out.lt; omega))).cur (heap_alloc_new _ _) rfl rfl (by omega) (by omega) (by have := H8.out.size; have := H8.out.lt; omega)).mono ?_
      rintro e w9 ⟨z, hz, rfl, hc9, ho9⟩
      have H9 := Lib.hid ((H8.out.offs QD.off (Below.off ((Below.refl _ _).alloc (Nat.le_refl _) _)) (H8.out.cur.other ((Below.refl _ _).alloc (Nat.le_refl _) _) (by have := H8.out.size; have := H8.out.lt; omega) (by have := H8.out.size; have := H8.out.lt; omega))).offs QD.off (Only.off ho9 (Nat.le_refl _)) hc9)
      simp only [List.mem_cons, List.not_mem_nil, or_false] at hz
      clear hc9 ho9
      go_wp2_with fail
      go_meet
      exact ⟨lo, T, .slice ua sch.length uc, sch, A, D, C, (A1 : Int), y, z, (P : Int) + t.size, 1, rfl, rfl, rfl, rfl, rfl, Lib.hid ⟨Hsm.out, by omega, by omega, by omega, by omega, by omega, by omega⟩, hw3n, H9⟩
    · subst hq
      go_wp2_with fail
      refine (byBelow H8.out QD.off 7 (by omega)).mono ?_
      rintro e w9 ⟨r, hr, rfl, H9⟩
      have H9 := Lib.hid H9
      clear d0 d1 d2 d3 dz
      clear H8
      obtain ⟨⟨d0, d1, d2, d3⟩, dz⟩ := H9.out.cells
      have hw0 : IntKind.i64.wrap ((r : Int) - 1) = (r : Int) - 1 := IntWalk.i64_in _ (by omega)
      go_wp2_with fail
      go_meet
      exact ⟨lo, T, .slice ua sch.length uc, sch, A, D, C, (A1 : Int), y, (P : Int), (P : Int) + t.size, (r : Int) - 1, rfl, rfl, rfl, rfl, rfl, Lib.hid ⟨Hsm.out, by omega, by omega, by omega, by omega, by omega, by omega⟩, hw3n, H9⟩
    · subst hq
      go_wp2_with fail
      refine (byBelow H8.out QD.off 6 (by omega)).mono ?_
      rintro e w9 ⟨r, hr, rfl, H9⟩
      have H9 := Lib.hid H9
      clear d0 d1 d2 d3 dz
      clear H8
      obtain ⟨⟨d0, d1, d2, d3⟩, dz⟩ := H9.out.cells
      have hw0 : IntKind.i64.wrap ((r : Int) - 1) = (r : Int) - 1 := IntWalk.i64_in _ (by omega)
      go_wp2_with fail
      go_meet
      exact ⟨lo, T, .slice ua sch.length uc, sch, A, D, C, (r : Int) - 1, y, (P : Int), (P : Int) + t.size, 1, rfl, rfl, rfl, rfl, rfl, Lib.hid ⟨Hsm.out, by omega, by omega, by omega, by omega, by omega, by omega⟩, hw3n, H9⟩
    · subst hq
      go_wp2_with fail
      have hsz8 := H8.out.size
      have hlt8 := H8.out.lt
      refine (l12Bent_any w.heap.size g a len cap _ H8.out.cur (by omega) (by omega)).mono ?_
      rintro e w9 ⟨v', ms', A', D', C', hs', hn', rfl, hown', hc9, ho9⟩
      have hz9 : ZoneP (w8.heap.size + 3) w9.heap.size v' (plain ms') w9 := ⟨Nat.le_refl _, hown'.msgsAt⟩
      obtain ⟨va, vc, rfl⟩ := MsgsAt.len hz9.2
      have H9 := Lib.hid (H8.out.bent (q1 := .int .i64 A') (q2 := .int .i64 D') (q3 := .int .i64 C') hz9 (by omega) ho9 hc9 hw3n)
      have hpb9 := (H8.out.offs QD.off ho9 hc9).pb
      obtain ⟨g0, k0⟩ := hpb9.2 0 (by simp)
      obtain ⟨g1, k1⟩ := hpb9.2 1 (by simp)
      obtain ⟨g2, k2⟩ := hpb9.2 2 (by simp)
      obtain ⟨g3, k3⟩ := hpb9.2 3 (by simp)
      have kz := hpb9.1
      simp only [List.getElem_cons_succ, List.getElem_cons_zero] at g0 g1 g2 g3
      have hsm' := small_plan hs'.2.1 hs'.2.2
      clear hown' hc9 ho9 hz9 hpb9 H8 d0 d1 d2 d3 dz
      unfold planV
      go_wp2_with fail
      go_meet
      exact ⟨_, _, .slice va (plain ms').length vc, plain ms', A', D', C', (A1 : Int), y, (P : Int), (P : Int) + t.size, 1, rfl, rfl, rfl, rfl, rfl, Lib.hid ⟨hsm', hn', by omega, by omega, by omega, by omega, by omega⟩, hw3n, H9⟩
    · subst hq
      go_wp2_with fail
      refine (l1Bytes_any w.heap.size g a len cap 4 _ H8.out.cur (by have := H8.out.size; have := H8.out.lt; omega) (by have := H8.out.size; have := H8.out.lt; omega) (by omega)).mono ?_
      rintro e w9 ⟨v9, l9, rfl, hl9, hown9, hc9, hf9⟩
      obtain ⟨t9, ht9, hcv9⟩ := conv_own hown9 hl9
      have H9 := Lib.hid (H8.out.offs QD.off hf9 hc9)
      clear hl9 hown9 hc9 hf9 H8 d0 d1 d2 d3 dz
      have hy9 : (y ++ t9).size ≤ 100000 := by rw [ByteArray.size_append]; omega
      go_wp2_with fail
      go_meet
      exact ⟨lo, T, .slice ua sch.length uc, sch, A, D, C, (A1 : Int), (y ++ t9), (P : Int), (P : Int) + t.size, 1, rfl, rfl, rfl, rfl, rfl, Lib.hid ⟨Hsm.out, by omega, by omega, by omega, by omega, by omega, by omega⟩, hw3n, H9⟩
    · have n0 : ((q : Int) == 0) = false := neI (by omega)
      have n1 : ((q : Int) == 1) = false := neI (by omega)
      have n2 : ((q : Int) == 2) = false := neI (by omega)
      have n3 : ((q : Int) == 3) = false := neI (by omega)
      have n4 : ((q : Int) == 4) = false := neI (by omega)
      have n5 : ((q : Int) == 5) = false := neI (by omega)
      go_wp2_with fail
      go_meet
      exact ⟨lo, T, .slice ua sch.length uc, sch, A, D, C, (A1 : Int), y, (P : Int), (P : Int) + t.size, 1, rfl, rfl, rfl, rfl, rfl, Lib.hid ⟨Hsm.out, by omega, by omega, by omega, by omega, by omega, by omega⟩, hw3n, H8⟩
  case rest =>
    clear H8 d0 d1 d2 d3 dz
    obtain ⟨lo, T, u, sch, A, D, C, shape, s, x, E, deep, rfl, rfl, rfl, rfl, rfl, Hd, hw3n, HX⟩ := hcut
    obtain ⟨ub, ud, rfl⟩ := MsgsAt.len HX.out.keep.1.1.2
    obtain ⟨⟨d0, d1, d2, d3⟩, dz⟩ := HX.out.cells
    obtain ⟨r0, f0⟩ := HX.out.keep.1.2.2 0 (by simp)
    obtain ⟨r1, f1⟩ := HX.out.keep.1.2.2 1 (by simp)
    obtain ⟨r2, f2⟩ := HX.out.keep.1.2.2 2 (by simp)
    obtain ⟨r3, f3⟩ := HX.out.keep.1.2.2 3 (by simp)
    simp only [List.getElem_cons_succ, List.getElem_cons_zero] at r0 r1 r2 r3
    have hRz := HX.out.keep.1.2.lt
    have hne1 : ¬ w3.heap.size = w.heap.size := hw3n
    have hne2 : ¬ w.heap.size = w3.heap.size := fun e => hw3n e.symm
    have hlow : w.heap.size < lo := by have := HX.out.keep.2.1; omega
    have hset : ∀ (i : Nat) (v : Value) (wy : World), ZoneP lo T (.slice ub sch.length ud) sch wy → ZoneP lo T (.slice ub sch.length ud) sch (wy.setCell ⟨w.heap.size, i, none⟩ v) := fun i v wy h => h.set (.inl hlow) v
    have Hset := Lib.hid hset
    have hlX := Lib.hid (hl3.trans (HX.out.off.below (B := w.heap.size) (by omega) (by omega)))
    have HL := Lib.hid hlow
    clear hset hlow
    go_wp2_with fail
    refine bodyPost_ret (v := .tuple #[planV (.slice ub sch.length ud) A D C, .int .i64 shape, .string s, .int .i64 x, .int .i64 E, .int .i64 deep]) (by unfold planV; simp [results, Tryz.results17, go_sem, hRz, dz, hne1, hne2, d0, d1, d2, d3, r0, r1, r2, r3]) rfl ?_
    have KK := Hset.out 3 (.int .i64 C) _ (Hset.out 2 (.int .i64 D) _ (Hset.out 1 (.int .i64 A) _ (Hset.out 0 (.slice ub sch.length ud) _ HX.out.keep.1.1)))
    refine ⟨.slice ub sch.length ud, sch, A, D, C, shape, s, x, E, deep, Hd.out, rfl, KK.2.keep (fun _ _ _ => rfl) (fun b hb => ⟨by have := hb.1; have := HL.out; omega, Nat.lt_of_lt_of_le hb.2 KK.1⟩), ?_⟩
    exact (((hlX.out.setCell (Nat.le_refl _) _).setCell (Nat.le_refl _) _).setCell (Nat.le_refl _) _).setCell (Nat.le_refl _) _
end Go.Proofs.YtpkofbdfnbpfpaaGreat.Num

