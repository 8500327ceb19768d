/-
  The walks of the library's HasPrefix, the program's mayBecome and PrefixOf; only new memory is written.
-/
import Derived.Test.YteplmjlllnbiiaaMergeI
import Derived.Test.YteplmjlllnbiiaaEvSameI
namespace Go.Proofs.Yteplmjlllnbiiaa.Num
open Go.RowKit Go.Proofs
set_option linter.unusedVariables false
set_option linter.unusedSimpArgs false
attribute [local go_sem] Region.wanted yielded

theorem litePre_long (s p : ByteArray) (w : World) (hs : s.size ≤ 281474976710656) (hp : p.size ≤ 281474976710656) (hl : s.size < p.size) :
    Calls Try.prog 60 #[.string s, .string p] w fun e w' => e = .returned (.bool false) ∧ w = w' := by
  go_enter Try.func60, Try.ntmps60
  go_wp2_with fail
  go_ret
  exact ⟨rfl, rfl⟩
theorem litePre_any (s p : ByteArray) (b : Bool) (w : World) (hs : s.size ≤ 281474976710656) (hp : p.size ≤ 281474976710656) (hl : p.size ≤ s.size) (hb : ((s.extract 0 p.size).toList == p.toList) = b) :
    Calls Try.prog 60 #[.string s, .string p] w fun e w' => e = .returned (.bool b) ∧ w = w' := by
  go_enter Try.func60, Try.ntmps60
  go_wp2_with fail
  go_ret
  exact ⟨rfl, rfl⟩
theorem hasPre_any (s p : ByteArray) (b : Bool) (w : World) (hs : s.size ≤ 281474976710656) (hp : p.size ≤ 281474976710656) (hb : decide (textPre p s) = b) :
    Calls Try.prog 59 #[.string s, .string p] w fun e w' => e = .returned (.bool b) ∧ w = w' := by
  by_cases hl : s.size < p.size
  · obtain rfl : b = false := by rw [← hb]; exact decide_eq_false fun h => by have := h.1; omega
    have Hc := Lib.hid (litePre_long s p · hs hp hl)
    clear hb
    go_enter Try.func59, Try.ntmps59
    go_wp2_with fail
    refine (Hc.out _).mono ?_
    rintro e w1 ⟨rfl, rfl⟩
    go_wp2_with fail
    go_ret
    exact ⟨rfl, rfl⟩
  · have he : ((s.extract 0 p.size).toList == p.toList) = b := by
      rw [← hb]
      by_cases hx : s.extract 0 p.size = p
      · rw [decide_eq_true ⟨by omega, hx⟩, hx]; simp
      · rw [decide_eq_false fun h => hx h.2]; exact neBA hx
    have Hc := Lib.hid (litePre_any s p b · hs hp (by omega) he)
    clear hb he hl
    go_enter Try.func59, Try.ntmps59
    go_wp2_with fail
    refine (Hc.out _).mono ?_
    rintro e w1 ⟨rfl, rfl⟩
    go_wp2_with fail
    go_ret
    exact ⟨rfl, rfl⟩
set_option maxHeartbeats 4000000 in
set_option maxRecDepth 100000 in
theorem mayBecome_any (p q : Ev) (R : Bool) (w : World) (hp : p.text.size ≤ 281474976710656) (hq : q.text.size ≤ 281474976710656) (hR : decide (evPre p q) = R) :
    Calls Try.prog 46 #[evV p, evV q] w fun e w' => e = .returned (.bool R) ∧ Below w.heap.size w w' := by
  have HR := Lib.hid hR
  have HI1 := Lib.hid (fun Q w h => isPart_any p Q w h)
  have HI2 := Lib.hid (fun Q w h => isPart_any q Q w h)
  obtain ⟨K, F, Bt, L, Tx, C, P⟩ := p
  obtain ⟨K', F', Bt', L', Tx', C', P'⟩ := q
  unfold evV at HI1 HI2 ⊢
  simp only at hp hq HI1 HI2 ⊢
  clear hR
  have hx := Box.fresh w #[.int .i64 K, .int .i64 F, .int .u64 Bt, .int .i64 L, .string Tx, .int .i64 C, .int .i64 P] 31
  have hx2 := hx.alloc (.cells #[.int .i64 K', .int .i64 F', .int .u64 Bt', .int .i64 L', .string Tx', .int .i64 C', .int .i64 P'] 31)
  have hy : Box ((w.alloc (.cells #[.int .i64 K, .int .i64 F, .int .u64 Bt, .int .i64 L, .string Tx, .int .i64 C, .int .i64 P] 31)).alloc (.cells #[.int .i64 K', .int .i64 F', .int .u64 Bt', .int .i64 L', .string Tx', .int .i64 C', .int .i64 P'] 31)) (w.heap.size + 1) [.int .i64 K', .int .i64 F', .int .u64 Bt', .int .i64 L', .string Tx', .int .i64 C', .int .i64 P'] := by
    have h := Box.fresh (w.alloc (.cells #[.int .i64 K, .int .i64 F, .int .u64 Bt, .int .i64 L, .string Tx, .int .i64 C, .int .i64 P] 31)) #[.int .i64 K', .int .i64 F', .int .u64 Bt', .int .i64 L', .string Tx', .int .i64 C', .int .i64 P'] 31
    rwa [show (w.alloc (.cells #[.int .i64 K, .int .i64 F, .int .u64 Bt, .int .i64 L, .string Tx, .int .i64 C, .int .i64 P] 31)).heap.size = w.heap.size + 1 by simp] at h
  have hb : Below w.heap.size w ((w.alloc (.cells #[.int .i64 K, .int .i64 F, .int .u64 Bt, .int .i64 L, .string Tx, .int .i64 C, .int .i64 P] 31)).alloc (.cells #[.int .i64 K', .int .i64 F', .int .u64 Bt', .int .i64 L', .string Tx', .int .i64 C', .int .i64 P'] 31)) := ((Below.refl _ _).alloc (Nat.le_refl _) _).alloc (by simp) _
  go_enter Try.func46, Try.ntmps46
  go_upto_region 1 with fail
  generalize ((w.alloc (.cells #[.int .i64 K, .int .i64 F, .int .u64 Bt, .int .i64 L, .string Tx, .int .i64 C, .int .i64 P] 31)).alloc (.cells #[.int .i64 K', .int .i64 F', .int .u64 Bt', .int .i64 L', .string Tx', .int .i64 C', .int .i64 P'] 31)) = w1 at hx2 hy hb ⊢
  clear hx
  obtain ⟨⟨p0, p1, p2, p3, p4, p5, p6⟩, _⟩ := hx2.seven
  obtain ⟨⟨q0, q1, q2, q3, q4, q5, q6⟩, _⟩ := hy.seven
  by_cases hpq : (⟨K, F, Bt, L, Tx, C, P⟩ : Ev) = ⟨K', F', Bt', L', Tx', C', P'⟩
  · have hE := evEq_as (decide_eq_true hpq)
    unfold evV at hE
    simp only at hE
    obtain rfl : R = true := by rw [← HR.out]; exact decide_eq_true (.inl hpq)
    clear hpq
    go_wp2_with fail
    go_ret
    exact ⟨rfl, hb⟩
  · have hE := evEq_as (decide_eq_false hpq)
    unfold evV at hE
    simp only at hE
    have HR3 : Hid (decide (K = 4 ∧ K' = 4 ∧ textPre Tx Tx') = R) := Lib.hid (by rw [← HR.out]; exact decide_eq_decide.2 (evPre_no hpq).symm)
    clear hpq HR
    go_wp2_with fail
    obtain ⟨Q, hQ⟩ : ∃ Q, (K == 4) = Q := ⟨_, rfl⟩
    refine (HI1.out Q _ hQ).mono ?_
    rintro e w2 ⟨rfl, hb2⟩
    have hx3 := hx2.below hb2 hx2.lt
    have hy3 := hy.below hb2 hy.lt
    have hbw := hb.trans (hb2.mono hb.size)
    have HQ := Lib.hid hQ
    clear p0 p1 p2 p3 p4 p5 p6 q0 q1 q2 q3 q4 q5 q6 hx2 hy hb hb2 hE hQ
    obtain ⟨⟨p0, p1, p2, p3, p4, p5, p6⟩, _⟩ := hx3.seven
    obtain ⟨⟨q0, q1, q2, q3, q4, q5, q6⟩, _⟩ := hy3.seven
    cases Q with
    | false =>
      obtain rfl : R = false := by rw [← HR3.out]; exact decide_eq_false fun h => by have h2 : (K == 4) = false := HQ.out; rw [h.1] at h2; cases h2
      go_wp2_with fail
      go_ret
      exact ⟨rfl, hbw⟩
    | true =>
      have hK : Hid (K = 4) := Lib.hid (by have := HQ.out; simpa using this)
      go_wp2_with fail
      obtain ⟨Q, hQ⟩ : ∃ Q, (K' == 4) = Q := ⟨_, rfl⟩
      refine (HI2.out Q _ hQ).mono ?_
      rintro e w3 ⟨rfl, hb3⟩
      have hx4 := hx3.below hb3 hx3.lt
      have hy4 := hy3.below hb3 hy3.lt
      have hbw3 := hbw.trans (hb3.mono hbw.size)
      have HQ' := Lib.hid hQ
      clear p0 p1 p2 p3 p4 p5 p6 q0 q1 q2 q3 q4 q5 q6 hx3 hy3 hbw hb3 hQ
      obtain ⟨⟨p0, p1, p2, p3, p4, p5, p6⟩, _⟩ := hx4.seven
      obtain ⟨⟨q0, q1, q2, q3, q4, q5, q6⟩, _⟩ := hy4.seven
      cases Q with
      | false =>
        obtain rfl : R = false := by rw [← HR3.out]; exact decide_eq_false fun h => by have h2 : (K' == 4) = false := HQ'.out; rw [h.2.1] at h2; cases h2
        go_wp2_with fail
        go_ret
        exact ⟨rfl, hbw3⟩
      | true =>
        have hK' : Hid (K' = 4) := Lib.hid (by have := HQ'.out; simpa using this)
        have HP := Lib.hid (hasPre_any Tx' Tx R w3 hq hp (by rw [← HR3.out]; exact decide_eq_decide.2 ⟨fun h => ⟨hK.out, hK'.out, h⟩, fun h => h.2.2⟩))
        go_wp2_with fail
        refine HP.out.mono ?_
        rintro e w4 ⟨rfl, rfl⟩
        go_wp2_with fail
        go_ret
        exact ⟨rfl, hbw3⟩
theorem sameCallP {w : World} {v u : Value} {l m : List Ev} {Q : Bool} (hv : EvsAt w (· < w.heap.size) v l) (hu : EvsAt w (· < w.heap.size) u m) (hl : l.length ≤ 1048576000 ∧ m.length ≤ 1048576000) (hQ : decide (l = m) = Q) :
    Calls Try.prog 17 #[v, u] w fun e w' => e = .returned (.bool Q) ∧ Below w.heap.size w w' := hQ ▸ implSameEvents_any v u l m w hv hu hl.1 hl.2
set_option maxHeartbeats 8000000 in
set_option maxRecDepth 100000 in
theorem implPrefixOf_any (v u : Value) (l m : List Ev) (w : World) (hv : EvsAt w (· < w.heap.size) v l) (hu : EvsAt w (· < w.heap.size) u m) (hl : SmallE l) (hm : SmallE m) :
    Calls Try.prog 22 #[v, u] w fun e w' => e = .returned (.bool (preB l m)) ∧ Below w.heap.size w w' := by
  obtain ⟨R, hR⟩ : ∃ R, preB l m = R := ⟨_, rfl⟩
  rw [hR]
  have HR := Lib.hid hR
  clear hR
  have Hu := Lib.hid hu
  have Hl := Lib.hid hl
  have Hm := Lib.hid hm
  have HC := Lib.hid (implMerged_any v l w hv hl)
  obtain ⟨a, cap, rfl⟩ := hv.len
  obtain ⟨a', cap', rfl⟩ := hu.len
  clear hv hu hl hm
  go_enter Try.func22, Try.ntmps22
  go_wp2_with fail
  refine HC.out.mono ?_
  rintro e w1 ⟨ax, cx, rfl, hx, hb1⟩
  have Hx1 := Lib.hid hx
  have hz1 := hb1.size
  clear hx
  go_wp2_with fail
  refine (implMerged_any _ m _ (Hu.out.grow hb1 (Nat.le_refl _)) Hm.out).mono ?_
  rintro e w2 ⟨ay, cy, rfl, hy, hb2⟩
  have Hx2 := Lib.hid (Hx1.out.below hb2 (Nat.le_refl _))
  have Hy2 := Lib.hid hy
  have hl2 := hb1.trans (hb2.mono hz1)
  have hxl : (mergedE l).length ≤ 1048576 := Nat.le_trans (merged_len l) Hl.out.1
  have hyl : (mergedE m).length ≤ 1048576 := Nat.le_trans (merged_len m) Hm.out.1
  have Htx : Hid (textsLen (mergedE l) ≤ 1048576) := Lib.hid (Nat.le_trans (merged_texts l) Hl.out.2)
  have Hty : Hid (textsLen (mergedE m) ≤ 1048576) := Lib.hid (Nat.le_trans (merged_texts m) Hm.out.2)
  clear hy Hx1 hb1 hb2 hz1 HC
  have HP : Hid (preMB (mergedE l) (mergedE m) = R) := HR
  clear HR
  generalize mergedE l = x at Hx2 hxl HP Htx ⊢
  generalize mergedE m = y at Hy2 hyl HP Hty ⊢
  by_cases hx0 : x.length = 0
  · obtain rfl : R = true := by rw [← HP.out]; unfold preMB; rw [dif_pos hx0]
    have hx0b : (((x.length : Nat) : Int) == 0) = true := by rw [hx0]; rfl
    have hx0c : (x.length == 0) = true := by rw [hx0]; rfl
    clear hx0
    go_wp2_with fail
    go_ret
    exact ⟨rfl, hl2⟩
  · obtain ⟨i, p, rfl⟩ : ∃ i p, x = i ++ [p] := by
      rcases nil_or_last x with rfl | h
      · simp at hx0
      · exact h
    have hil : (i ++ [p]).length = i.length + 1 := by simp
    rw [hil] at hxl ⊢
    obtain ⟨N, hN⟩ : ∃ N, i.length + 1 = N := ⟨_, rfl⟩
    have hn0 : (((N : Nat) : Int) == 0) = false := by rw [beq_eq_false_iff_ne]; omega
    have hn1 : (N == 0) = false := by rw [beq_eq_false_iff_ne]; omega
    have hw : IntKind.i64.wrap ((N : Int) - 1) = (i.length : Int) := by rw [IntWalk.i64_in _ (by omega)]; omega
    have HN := Lib.hid hN
    have HxO : Hid (OwnE w2 w.heap.size 31 (.slice ax N cx) (i ++ [p])) := Lib.hid (by have := Hx2.out; rw [hil, hN] at this; exact this)
    rw [hN] at hxl ⊢
    clear hN hil Hx2 hx0
    go_upto_region 5 with fail
    by_cases hle : i.length < y.length
    · have hlei : (i.length : Int) < (y.length : Int) := by omega
      obtain ⟨gx, rfl, hgx⟩ : ∃ gx, ax = some ⟨gx, 0, none⟩ ∧ gx < w2.heap.size := by
        rcases HxO.out.form with ⟨_, h⟩ | ⟨g, c, hv, _, hg, _⟩
        · simp at h
        · injection hv with h1; exact ⟨g, h1, hg⟩
      obtain ⟨gy, rfl, hgy⟩ : ∃ gy, ay = some ⟨gy, 0, none⟩ ∧ gy < w2.heap.size := by
        rcases Hy2.out.form with ⟨_, h⟩ | ⟨g, c, hv, _, hg, _⟩
        · rw [h] at hle; simp at hle
        · injection hv with h1; exact ⟨g, h1, hg⟩
      have hiN : i.length < N := by have := HN.out; omega
      have hiNi : (i.length : Int) < (N : Int) := by omega
      have Hpx : Hid (EvsAt w2 (· < w2.heap.size) (.slice (some ⟨gx, 0, none⟩) i.length cx) i) := Lib.hid (by have h := HxO.out.evsAll.pre i.length (by simp); rwa [List.take_left' rfl] at h)
      have Hpy : Hid (EvsAt w2 (· < w2.heap.size) (.slice (some ⟨gy, 0, none⟩) i.length cy) (y.take i.length)) := Lib.hid (Hy2.out.evsAll.pre i.length (by omega))
      have hcx : N ≤ cx := by have h := HxO.out.evsAt; rcases h with ⟨h, _⟩ | ⟨b, o, c, hv, h1, _⟩; · simp at h
                              · injection hv with _ _ e3; subst e3; have := h1.2; simp at this; have := HN.out; omega
      have hcy : y.length ≤ cy := by have h := Hy2.out.evsAt; exact RowAt.cap h
      obtain ⟨Q, hQ⟩ : ∃ Q, decide (i = y.take i.length) = Q := ⟨_, rfl⟩
      have HQ := Lib.hid hQ
      have HP2 : Hid ((decide (i = y.take i.length) && decide (evPre p (y[i.length]'hle))) = R) := Lib.hid (by
        rw [← HP.out]; unfold preMB
        rw [dif_neg (by simp), dif_neg (by simp; omega)]
        simp)
      have HCs := Lib.hid (sameCallP (w := w2.drew) Hpx.out Hpy.out ⟨by omega, by simp; omega⟩ HQ.out)
      have hcxi : (i.length : Int) ≤ (cx : Int) := by omega
      have hcyi : (i.length : Int) ≤ (cy : Int) := by omega
      have hcxn : i.length ≤ cx := by omega
      have hcyn : i.length ≤ cy := by omega
      have h0i : (0 : Int) ≤ (i.length : Int) := by omega
      obtain ⟨x0, x1, x2, x3, x4, x5, x6⟩ := HxO.out.cellsAt i.length (by simp)
      rw [List.getElem_append_right (Nat.le_refl _)] at x0 x1 x2 x3 x4 x5 x6
      simp only [Nat.sub_self, List.getElem_cons_zero] at x0 x1 x2 x3 x4 x5 x6
      obtain ⟨y0, y1, y2, y3, y4, y5, y6⟩ := Hy2.out.cellsAt i.length hle
      have hps : p.text.size ≤ 281474976710656 := by have := Htx.out; rw [textsLen_append] at this; simp [textsLen] at this; omega
      have hqs : (y[i.length]'hle).text.size ≤ 281474976710656 := by have := Hty.out; have h2 := textsLen_mem (List.getElem_mem hle); omega
      obtain ⟨q, hq⟩ : ∃ q, y[i.length]'hle = q := ⟨_, rfl⟩
      rw [hq] at y0 y1 y2 y3 y4 y5 y6 hqs HP2
      have HB := Lib.hid (fun T w h => mayBecome_any p q T w hps hqs h)
      obtain ⟨K, F, Bt, L, Tx, C, P⟩ := p
      obtain ⟨K', F', Bt', L', Tx', C', P'⟩ := q
      unfold evV at HB
      simp only at x0 x1 x2 x3 x4 x5 x6 y0 y1 y2 y3 y4 y5 y6 HB
      clear HP hQ hq hle Hpx Hpy hps hqs
      refine wp_region_any (by kernel_rfl) ?_
      change wpAny _ _ _ _ _ _ _ (World.drew _)
      refine wpAny_take (i := 0) (v := .int .i64 i.length) rfl (by kernel_rfl) (by kernel_rfl) (by kernel_rfl) (fun _ _ _ h => h) (Or.inl ⟨by kernel_rfl, ?_⟩) ?_
      · (intro w; go_simp)
      refine wpAny_take (i := 1) (v := .slice (some ⟨gy, 0, none⟩) y.length cy) rfl (by kernel_rfl) (by kernel_rfl) (by kernel_rfl) (fun _ _ _ h => h) (Or.inl ⟨by kernel_rfl, ?_⟩) ?_
      · (intro w; go_simp)
      refine wpAny_take (i := 2) (v := .int .i64 y.length) rfl (by kernel_rfl) (by kernel_rfl) (by kernel_rfl) (fun _ _ _ h => h) (Or.inl ⟨by kernel_rfl, ?_⟩) ?_
      · (intro w; go_simp)
      refine wpAny_take (i := 3) (v := .bool true) rfl (by kernel_rfl) (by kernel_rfl) (by kernel_rfl) (fun _ _ _ h => h) (Or.inl ⟨by kernel_rfl, ?_⟩) ?_
      · (intro w; go_simp)
      refine wpAny_take (i := 4) (v := .bool true) rfl (by kernel_rfl) (by kernel_rfl) (by kernel_rfl) (fun _ _ _ h => h) (Or.inl ⟨by kernel_rfl, ?_⟩) ?_
      · (intro w; go_simp)
      refine wpAny_take (i := 5) (v := .slice (some ⟨gx, 0, none⟩) N cx) rfl (by kernel_rfl) (by kernel_rfl) (by kernel_rfl) (fun _ _ _ h => h) (Or.inl ⟨by kernel_rfl, ?_⟩) ?_
      · (intro w; go_simp)
      refine wpAny_take (i := 6) (v := .int .i64 i.length) rfl (by kernel_rfl) (by kernel_rfl) (by kernel_rfl) (fun _ _ _ h => h) (Or.inl ⟨by kernel_rfl, ?_⟩) ?_
      · (intro w; go_simp)
      refine wpAny_take (i := 7) (v := .slice (some ⟨gx, 0, none⟩) i.length cx) rfl (by kernel_rfl) (by kernel_rfl) (by kernel_rfl) (fun _ _ _ h => h) (Or.inl ⟨by kernel_rfl, ?_⟩) ?_
      · (intro w; go_simp)
      refine wpAny_take (i := 8) (v := .slice (some ⟨gy, 0, none⟩) y.length cy) rfl (by kernel_rfl) (by kernel_rfl) (by kernel_rfl) (fun _ _ _ h => h) (Or.inl ⟨by kernel_rfl, ?_⟩) ?_
      · (intro w; go_simp)
      refine wpAny_take (i := 9) (v := .int .i64 i.length) rfl (by kernel_rfl) (by kernel_rfl) (by kernel_rfl) (fun _ _ _ h => h) (Or.inl ⟨by kernel_rfl, ?_⟩) ?_
      · (intro w; go_simp)
      refine wpAny_take (i := 10) (v := .slice (some ⟨gy, 0, none⟩) i.length cy) rfl (by kernel_rfl) (by kernel_rfl) (by kernel_rfl) (fun _ _ _ h => h) (Or.inl ⟨by kernel_rfl, ?_⟩) ?_
      · (intro w; go_simp)
      refine wpAny_ready (rs := [11]) (by kernel_rfl) (by simp) ?_
      refine AllReady.cons rfl (fun K hK => ?_) AllReady.nil
      go_simp
      go_wp2_with (go_at_call 17; refine HCs.out.mono ?_; rintro e w3 ⟨rfl, hb3⟩)
      try (refine hK _ _ ?_; clear hK K)
      refine wpAny_take (i := 12) (v := .bool Q) rfl (by kernel_rfl) (by kernel_rfl) (by kernel_rfl) (fun _ _ _ h => h) (Or.inl ⟨by kernel_rfl, ?_⟩) ?_
      · (intro w; go_simp)
      refine wpAny_take (i := 13) (v := .bool Q) rfl (by kernel_rfl) (by kernel_rfl) (by kernel_rfl) (fun _ _ _ h => h) (Or.inl ⟨by kernel_rfl, ?_⟩) ?_
      · (intro w; go_simp)
      have hl3 : Below w.heap.size w w3 := hl2.drew.trans (hb3.mono hl2.size)
      have hkx : ∀ o, w3.cell? ⟨gx, o, none⟩ = w2.cell? ⟨gx, o, none⟩ := fun o => hb3.cell (p := ⟨gx, o, none⟩) hgx
      have hky : ∀ o, w3.cell? ⟨gy, o, none⟩ = w2.cell? ⟨gy, o, none⟩ := fun o => hb3.cell (p := ⟨gy, o, none⟩) hgy
      rw [← hkx] at x0 x1 x2 x3 x4 x5 x6
      rw [← hky] at y0 y1 y2 y3 y4 y5 y6
      clear hkx hky
      cases Q with
      | false =>
        obtain rfl : R = false := by rw [← HP2.out, HQ.out]; rfl
        refine wpAny_take (i := 14) (v := undef) rfl (by kernel_rfl) (by kernel_rfl) (by kernel_rfl) (fun _ _ _ h => h) (Or.inr ⟨by kernel_rfl, rfl⟩) ?_
        refine wpAny_take (i := 15) (v := undef) rfl (by kernel_rfl) (by kernel_rfl) (by kernel_rfl) (fun _ _ _ h => h) (Or.inr ⟨by kernel_rfl, rfl⟩) ?_
        refine wpAny_take (i := 16) (v := undef) rfl (by kernel_rfl) (by kernel_rfl) (by kernel_rfl) (fun _ _ _ h => h) (Or.inr ⟨by kernel_rfl, rfl⟩) ?_
        refine wpAny_take (i := 17) (v := undef) rfl (by kernel_rfl) (by kernel_rfl) (by kernel_rfl) (fun _ _ _ h => h) (Or.inr ⟨by kernel_rfl, rfl⟩) ?_
        refine wpAny_take (i := 18) (v := undef) rfl (by kernel_rfl) (by kernel_rfl) (by kernel_rfl) (fun _ _ _ h => h) (Or.inr ⟨by kernel_rfl, rfl⟩) ?_
        refine wpAny_take (i := 19) (v := undef) rfl (by kernel_rfl) (by kernel_rfl) (by kernel_rfl) (fun _ _ _ h => h) (Or.inr ⟨by kernel_rfl, rfl⟩) ?_
        refine wpAny_take (i := 20) (v := undef) rfl (by kernel_rfl) (by kernel_rfl) (by kernel_rfl) (fun _ _ _ h => h) (Or.inr ⟨by kernel_rfl, rfl⟩) ?_
        refine wpAny_take (i := 21) (v := undef) rfl (by kernel_rfl) (by kernel_rfl) (by kernel_rfl) (fun _ _ _ h => h) (Or.inr ⟨by kernel_rfl, rfl⟩) ?_
        refine wpAny_take (i := 22) (v := undef) rfl (by kernel_rfl) (by kernel_rfl) (by kernel_rfl) (fun _ _ _ h => h) (Or.inr ⟨by kernel_rfl, rfl⟩) ?_
        refine wpAny_take (i := 23) (v := .bool false) rfl (by kernel_rfl) (by kernel_rfl) (by kernel_rfl) (fun _ _ _ h => h) (Or.inl ⟨by kernel_rfl, ?_⟩) ?_
        · (intro w; go_simp)
        refine wpAny_take (i := 24) (v := .bool false) rfl (by kernel_rfl) (by kernel_rfl) (by kernel_rfl) (fun _ _ _ h => h) (Or.inl ⟨by kernel_rfl, ?_⟩) ?_
        · (intro w; go_simp)
        refine wpAny_done (by kernel_rfl) ?_ _
        try simp only [List.getElem_toArray, List.getElem_cons_succ, List.getElem_cons_zero, Act.put, List.setIfInBounds_toArray, List.set_cons_zero, List.set_cons_succ]
        go_wp2_with fail
        go_ret
        exact ⟨rfl, hl3⟩
      | true =>
        obtain ⟨T, hT⟩ : ∃ T, decide (evPre (⟨K, F, Bt, L, Tx, C, P⟩ : Ev) ⟨K', F', Bt', L', Tx', C', P'⟩) = T := ⟨_, rfl⟩
        obtain rfl : R = T := by rw [← HP2.out, HQ.out, hT]; rfl
        have HT := Lib.hid hT
        clear hT HP2 HQ
        refine wpAny_take (i := 14) (v := .slice (some ⟨gx, 0, none⟩) N cx) rfl (by kernel_rfl) (by kernel_rfl) (by kernel_rfl) (fun _ _ _ h => h) (Or.inl ⟨by kernel_rfl, ?_⟩) ?_
        · (intro w; go_simp)
        refine wpAny_take (i := 15) (v := .int .i64 i.length) rfl (by kernel_rfl) (by kernel_rfl) (by kernel_rfl) (fun _ _ _ h => h) (Or.inl ⟨by kernel_rfl, ?_⟩) ?_
        · (intro w; go_simp)
        refine wpAny_take (i := 16) (v := .pointer (some ⟨gx, i.length * 7, none⟩)) rfl (by kernel_rfl) (by kernel_rfl) (by kernel_rfl) (fun _ _ _ h => h) (Or.inl ⟨by kernel_rfl, ?_⟩) ?_
        · (intro w; go_simp)
        refine wpAny_take (i := 18) (v := .slice (some ⟨gy, 0, none⟩) y.length cy) rfl (by kernel_rfl) (by kernel_rfl) (by kernel_rfl) (fun _ _ _ h => h) (Or.inl ⟨by kernel_rfl, ?_⟩) ?_
        · (intro w; go_simp)
        refine wpAny_take (i := 19) (v := .int .i64 i.length) rfl (by kernel_rfl) (by kernel_rfl) (by kernel_rfl) (fun _ _ _ h => h) (Or.inl ⟨by kernel_rfl, ?_⟩) ?_
        · (intro w; go_simp)
        refine wpAny_take (i := 20) (v := .pointer (some ⟨gy, i.length * 7, none⟩)) rfl (by kernel_rfl) (by kernel_rfl) (by kernel_rfl) (fun _ _ _ h => h) (Or.inl ⟨by kernel_rfl, ?_⟩) ?_
        · (intro w; go_simp)
        try simp only [List.getElem_toArray, List.getElem_cons_succ, List.getElem_cons_zero, Act.put, List.setIfInBounds_toArray, List.set_cons_zero, List.set_cons_succ]
        refine wpAny_ready (rs := [17, 21]) (by kernel_rfl) (by simp) ?_
        refine AllReady.cons rfl (fun K hK => ?_) (AllReady.cons rfl (fun K hK => ?_) AllReady.nil)
        · go_simp
          try (refine hK _ _ ?_; clear hK K)
          try simp only [List.getElem_toArray, List.getElem_cons_succ, List.getElem_cons_zero, Act.put, List.setIfInBounds_toArray, List.set_cons_zero, List.set_cons_succ]
          refine wpAny_ready (rs := [21]) (by kernel_rfl) (by simp) ?_
          refine AllReady.cons rfl (fun K hK => ?_) AllReady.nil
          go_simp
          try (refine hK _ _ ?_; clear hK K)
          try simp only [List.getElem_toArray, List.getElem_cons_succ, List.getElem_cons_zero, Act.put, List.setIfInBounds_toArray, List.set_cons_zero, List.set_cons_succ]
          refine wpAny_ready (rs := [22]) (by kernel_rfl) (by simp) ?_
          refine AllReady.cons rfl (fun K hK => ?_) AllReady.nil
          go_simp
          go_wp2_with (go_at_call 46; refine (HB.out R _ HT.out).mono ?_; rintro e w4 ⟨rfl, hb4⟩)
          try (refine hK _ _ ?_; clear hK K)
          refine wpAny_take (i := 23) (v := .bool R) rfl (by kernel_rfl) (by kernel_rfl) (by kernel_rfl) (fun _ _ _ h => h) (Or.inl ⟨by kernel_rfl, ?_⟩) ?_
          · (intro w; go_simp)
          refine wpAny_take (i := 24) (v := .bool R) rfl (by kernel_rfl) (by kernel_rfl) (by kernel_rfl) (fun _ _ _ h => h) (Or.inl ⟨by kernel_rfl, ?_⟩) ?_
          · (intro w; go_simp)
          refine wpAny_done (by kernel_rfl) ?_ _
          try simp only [List.getElem_toArray, List.getElem_cons_succ, List.getElem_cons_zero, Act.put, List.setIfInBounds_toArray, List.set_cons_zero, List.set_cons_succ]
          have hl4 : Below w.heap.size w w4 := hl3.trans (hb4.mono hl3.size)
          go_wp2_with fail
          go_ret
          exact ⟨rfl, hl4⟩
        · go_simp
          try (refine hK _ _ ?_; clear hK K)
          try simp only [List.getElem_toArray, List.getElem_cons_succ, List.getElem_cons_zero, Act.put, List.setIfInBounds_toArray, List.set_cons_zero, List.set_cons_succ]
          refine wpAny_ready (rs := [17]) (by kernel_rfl) (by simp) ?_
          refine AllReady.cons rfl (fun K hK => ?_) AllReady.nil
          go_simp
          try (refine hK _ _ ?_; clear hK K)
          try simp only [List.getElem_toArray, List.getElem_cons_succ, List.getElem_cons_zero, Act.put, List.setIfInBounds_toArray, List.set_cons_zero, List.set_cons_succ]
          refine wpAny_ready (rs := [22]) (by kernel_rfl) (by simp) ?_
          refine AllReady.cons rfl (fun K hK => ?_) AllReady.nil
          go_simp
          go_wp2_with (go_at_call 46; refine (HB.out R _ HT.out).mono ?_; rintro e w4 ⟨rfl, hb4⟩)
          try (refine hK _ _ ?_; clear hK K)
          refine wpAny_take (i := 23) (v := .bool R) rfl (by kernel_rfl) (by kernel_rfl) (by kernel_rfl) (fun _ _ _ h => h) (Or.inl ⟨by kernel_rfl, ?_⟩) ?_
          · (intro w; go_simp)
          refine wpAny_take (i := 24) (v := .bool R) rfl (by kernel_rfl) (by kernel_rfl) (by kernel_rfl) (fun _ _ _ h => h) (Or.inl ⟨by kernel_rfl, ?_⟩) ?_
          · (intro w; go_simp)
          refine wpAny_done (by kernel_rfl) ?_ _
          try simp only [List.getElem_toArray, List.getElem_cons_succ, List.getElem_cons_zero, Act.put, List.setIfInBounds_toArray, List.set_cons_zero, List.set_cons_succ]
          have hl4 : Below w.heap.size w w4 := hl3.trans (hb4.mono hl3.size)
          go_wp2_with fail
          go_ret
          exact ⟨rfl, hl4⟩
    · obtain rfl : R = false := by rw [← HP.out]; unfold preMB; rw [dif_neg (by simp), dif_pos (by simp; omega)]
      have hgtd : decide ((i.length : Int) < (y.length : Int)) = false := decide_eq_false (by omega)
      have hgtd2 : decide (i.length < y.length) = false := decide_eq_false hle
      go_quiet (fail)
      go_wp2_with fail
      go_ret
      exact ⟨rfl, below_drewN hl2 _⟩
end Go.Proofs.Yteplmjlllnbiiaa.Num
