/-
  The walk of the reference's PrefixOf; only new memory is written.
-/
import Derived.Test.YteplmjlllnbiiaaPartS
namespace Go.Proofs.Yteplmjlllnbiiaa.Num
open Go.RowKit Go.Proofs
set_option linter.unusedVariables false
set_option linter.unusedSimpArgs false
attribute [local go_sem] Region.wanted yielded

/-- The head of a list that is read. -/
theorem EvsAt.pre {w : World} {S : Nat → Prop} {a : Option Addr} {n cap : Nat} {l : List Ev} (h : EvsAt w S (.slice a n cap) l) (k : Nat) (hk : k ≤ l.length) : EvsAt w S (.slice a k cap) (l.take k) := by
  by_cases h0 : k = 0
  · subst h0; exact .inl ⟨rfl, a, cap, rfl⟩
  · rcases h with ⟨rfl, _⟩ | ⟨b, o, c, hv, h1, hS, hc⟩
    · simp at hk; omega
    · injection hv with e1 e2 e3
      subst e1 e3
      have hl : (l.take k).length = k := by simp; omega
      refine .inr ⟨b, o, cap, by rw [hl], by omega, hS, fun i hi => ?_⟩
      obtain ⟨cs, g1, g2, g3⟩ := hc i (by omega)
      exact ⟨cs, g1, by rw [List.getElem_take]; exact g2, g3⟩
theorem evPre_no {p q : Ev} (h : p ≠ q) : evPre p q ↔ p.kind = 4 ∧ q.kind = 4 ∧ textPre p.text q.text := ⟨fun h' => h'.resolve_left h, .inr⟩
theorem sameCall {w : World} {v u : Value} {l m : List Ev} {Q : Bool} (hv : EvsAt w (· < w.heap.size) v l) (hu : EvsAt w (· < w.heap.size) u m) (hl : l.length ≤ 1048576000 ∧ m.length ≤ 1048576000) (hQ : decide (l = m) = Q) :
    Calls Try.prog 20 #[v, u] w fun e w' => e = .returned (.bool Q) ∧ Below w.heap.size w w' := hQ ▸ specSameEvents_any v u l m w hv hu hl.1 hl.2
set_option maxHeartbeats 8000000 in
set_option maxRecDepth 100000 in
theorem specPrefixOf_any (v u : Value) (l m : List Ev) (w : World) (hv : EvsAt w (· < w.heap.size) v l) (hu : EvsAt w (· < w.heap.size) u m) (hl : SmallE l) (hm : SmallE m) :
    Calls Try.prog 23 #[v, u] w fun e w' => e = .returned (.bool (preB l m)) ∧ Below w.heap.size w w' := by
  obtain ⟨R, hR⟩ : ∃ R, preB l m = R := ⟨_, rfl⟩
  rw [hR]
  have HR := Lib.hid hR
  clear hR
  have Hu := Lib.hid hu
  have Hl := Lib.hid hl
  have Hm := Lib.hid hm
  have HC := Lib.hid (specMerged_any v l w hv hl)
  obtain ⟨a, cap, rfl⟩ := hv.len
  obtain ⟨a', cap', rfl⟩ := hu.len
  clear hv hu hl hm
  go_enter Try.func23, Try.ntmps23
  go_wp2_with fail
  refine HC.out.mono ?_
  rintro e w1 ⟨gx, cx, rfl, hx, hb1⟩
  have Hx1 := Lib.hid hx
  have hz1 := hb1.size
  clear hx
  go_wp2_with fail
  refine (specMerged_any _ m _ (Hu.out.grow hb1 (Nat.le_refl _)) Hm.out).mono ?_
  rintro e w2 ⟨gy, cy, rfl, hy, hb2⟩
  have Hx2 := Lib.hid (Hx1.out.below hb2 (Nat.le_refl _))
  have Hy2 := Lib.hid hy
  have hl2 := hb1.trans (hb2.mono hz1)
  have hxl : (mergedE l).length ≤ 1048576 := Nat.le_trans (merged_len l) Hl.out.1
  have hyl : (mergedE m).length ≤ 1048576 := Nat.le_trans (merged_len m) Hm.out.1
  clear hy Hx1 hb1 hb2 hz1
  have HP : Hid (preMB (mergedE l) (mergedE m) = R) := HR
  generalize mergedE l = x at Hx2 hxl HP ⊢
  generalize mergedE m = y at Hy2 hyl HP ⊢
  by_cases hx0 : x.length = 0
  · obtain rfl : R = true := by rw [← HP.out]; unfold preMB; rw [dif_pos hx0]
    have hx0b : (((x.length : Nat) : Int) == 0) = true := by rw [hx0]; rfl
    have hx0c : (x.length == 0) = true := by rw [hx0]; rfl
    clear hx0
    go_wp2_with fail
    go_ret
    exact ⟨rfl, hl2⟩
  · obtain ⟨i, p, rfl⟩ : ∃ i p, x = i ++ [p] := by
      rcases nil_or_last x with rfl | h
      · simp at hx0
      · exact h
    have hil : (i ++ [p]).length = i.length + 1 := by simp
    rw [hil] at hxl ⊢
    obtain ⟨N, hN⟩ : ∃ N, i.length + 1 = N := ⟨_, rfl⟩
    have hn0 : (((N : Nat) : Int) == 0) = false := by rw [beq_eq_false_iff_ne]; omega
    have hn1 : (N == 0) = false := by rw [beq_eq_false_iff_ne]; omega
    have hw : IntKind.i64.wrap ((N : Int) - 1) = (i.length : Int) := by rw [IntWalk.i64_in _ (by omega)]; omega
    have HN := Lib.hid hN
    have HxO : Hid (OwnE w2 w.heap.size 31 (.slice (some ⟨gx, 0, none⟩) N cx) (i ++ [p])) := Lib.hid (by have := Hx2.out; rw [hil, hN] at this; exact this)
    rw [hN] at hxl ⊢
    clear hN hil Hx2 hx0
    by_cases hgt : N > y.length
    · obtain rfl : R = false := by rw [← HP.out]; unfold preMB; rw [dif_neg (by simp), dif_pos (by simp; have := HN.out; omega)]
      have hgti : (y.length : Int) < (N : Int) := by omega
      go_wp2_with fail
      go_quiet (fail)
      go_wp2_with fail
      go_ret
      exact ⟨rfl, below_drewN hl2 _⟩
    · have hle : i.length < y.length := by have := HN.out; omega
      have hgtd : decide ((y.length : Int) < (N : Int)) = false := decide_eq_false (by omega)
      have hgtd2 : decide (y.length < N) = false := decide_eq_false hgt
      have hiN : i.length < N := by have := HN.out; omega
      have Hpx : Hid (EvsAt w2 (· < w2.heap.size) (.slice (some ⟨gx, 0, none⟩) i.length cx) i) := Lib.hid (by have h := HxO.out.evsAll.pre i.length (by simp); rwa [List.take_left' rfl] at h)
      have Hpy : Hid (EvsAt w2 (· < w2.heap.size) (.slice (some ⟨gy, 0, none⟩) i.length cy) (y.take i.length)) := Lib.hid (Hy2.out.evsAll.pre i.length (by omega))
      have hcx : N ≤ cx := by have h := HxO.out.evsAt; rcases h with ⟨h, _⟩ | ⟨b, o, c, hv, h1, _⟩; · simp at h
                              · injection hv with _ _ e3; subst e3; have := h1.2; simp at this; have := HN.out; omega
      have hcy : y.length ≤ cy := by have h := Hy2.out.evsAt; exact RowAt.cap h
      obtain ⟨Q, hQ⟩ : ∃ Q, decide (i = y.take i.length) = Q := ⟨_, rfl⟩
      have HQ := Lib.hid hQ
      clear hQ hgt
      have HP2 : Hid ((decide (i = y.take i.length) && decide (evPre p (y[i.length]'hle))) = R) := Lib.hid (by
        rw [← HP.out]; unfold preMB
        rw [dif_neg (by simp), dif_neg (by simp; omega)]
        simp)
      have hyz := (Hy2.out.lt gy rfl)
      have hgy : gy < w2.heap.size := hyz.2
      have hgx : gx < w2.heap.size := (HxO.out.lt gx rfl).2
      clear hyz
      have HCs := Lib.hid (sameCall (w := w2.drew) Hpx.out Hpy.out ⟨by omega, by simp; omega⟩ HQ.out)
      have hcxi : (i.length : Int) ≤ (cx : Int) := by omega
      have hcyi : (i.length : Int) ≤ (cy : Int) := by omega
      have hcxn : i.length ≤ cx := by omega
      have hcyn : i.length ≤ cy := by omega
      have h0i : (0 : Int) ≤ (i.length : Int) := by omega
      go_wp2_with fail
      refine wp_region_any (by kernel_rfl) ?_
      change wpAny _ _ _ _ _ _ _ (World.drew _)
      refine wpAny_take (i := 0) (v := .int .i64 N) rfl (by kernel_rfl) (by kernel_rfl) (by kernel_rfl) (fun _ _ _ h => h) (Or.inl ⟨by kernel_rfl, ?_⟩) ?_
      · (intro w; go_simp)
      refine wpAny_take (i := 1) (v := .slice (some ⟨gy, 0, none⟩) y.length cy) rfl (by kernel_rfl) (by kernel_rfl) (by kernel_rfl) (fun _ _ _ h => h) (Or.inl ⟨by kernel_rfl, ?_⟩) ?_
      · (intro w; go_simp)
      refine wpAny_take (i := 2) (v := .int .i64 y.length) rfl (by kernel_rfl) (by kernel_rfl) (by kernel_rfl) (fun _ _ _ h => h) (Or.inl ⟨by kernel_rfl, ?_⟩) ?_
      · (intro w; go_simp)
      refine wpAny_take (i := 3) (v := .bool false) rfl (by kernel_rfl) (by kernel_rfl) (by kernel_rfl) (fun _ _ _ h => h) (Or.inl ⟨by kernel_rfl, ?_⟩) ?_
      · (intro w; go_simp)
      refine wpAny_take (i := 4) (v := .bool false) rfl (by kernel_rfl) (by kernel_rfl) (by kernel_rfl) (fun _ _ _ h => h) (Or.inl ⟨by kernel_rfl, ?_⟩) ?_
      · (intro w; go_simp)
      refine wpAny_take (i := 5) (v := .slice (some ⟨gx, 0, none⟩) N cx) rfl (by kernel_rfl) (by kernel_rfl) (by kernel_rfl) (fun _ _ _ h => h) (Or.inl ⟨by kernel_rfl, ?_⟩) ?_
      · (intro w; go_simp)
      refine wpAny_take (i := 6) (v := .int .i64 N) rfl (by kernel_rfl) (by kernel_rfl) (by kernel_rfl) (fun _ _ _ h => h) (Or.inl ⟨by kernel_rfl, ?_⟩) ?_
      · (intro w; go_simp)
      refine wpAny_take (i := 7) (v := .int .i64 i.length) rfl (by kernel_rfl) (by kernel_rfl) (by kernel_rfl) (fun _ _ _ h => h) (Or.inl ⟨by kernel_rfl, ?_⟩) ?_
      · (intro w; go_simp)
      refine wpAny_take (i := 8) (v := .slice (some ⟨gx, 0, none⟩) i.length cx) rfl (by kernel_rfl) (by kernel_rfl) (by kernel_rfl) (fun _ _ _ h => h) (Or.inl ⟨by kernel_rfl, ?_⟩) ?_
      · (intro w; go_simp)
      refine wpAny_take (i := 9) (v := .slice (some ⟨gy, 0, none⟩) y.length cy) rfl (by kernel_rfl) (by kernel_rfl) (by kernel_rfl) (fun _ _ _ h => h) (Or.inl ⟨by kernel_rfl, ?_⟩) ?_
      · (intro w; go_simp)
      refine wpAny_take (i := 10) (v := .int .i64 N) rfl (by kernel_rfl) (by kernel_rfl) (by kernel_rfl) (fun _ _ _ h => h) (Or.inl ⟨by kernel_rfl, ?_⟩) ?_
      · (intro w; go_simp)
      refine wpAny_take (i := 11) (v := .int .i64 i.length) rfl (by kernel_rfl) (by kernel_rfl) (by kernel_rfl) (fun _ _ _ h => h) (Or.inl ⟨by kernel_rfl, ?_⟩) ?_
      · (intro w; go_simp)
      refine wpAny_take (i := 12) (v := .slice (some ⟨gy, 0, none⟩) i.length cy) rfl (by kernel_rfl) (by kernel_rfl) (by kernel_rfl) (fun _ _ _ h => h) (Or.inl ⟨by kernel_rfl, ?_⟩) ?_
      · (intro w; go_simp)
      refine wpAny_ready (rs := [13]) (by kernel_rfl) (by simp) ?_
      refine AllReady.cons rfl (fun K hK => ?_) AllReady.nil
      go_simp
      go_wp2_with (go_at_call 20; refine HCs.out.mono ?_; rintro e w3 ⟨rfl, hb3⟩)
      try (refine hK _ _ ?_; clear hK K)
      refine wpAny_take (i := 14) (v := .bool (!Q)) rfl (by kernel_rfl) (by kernel_rfl) (by kernel_rfl) (fun _ _ _ h => h) (Or.inl ⟨by kernel_rfl, ?_⟩) ?_
      · (intro w; go_simp)
      refine wpAny_take (i := 15) (v := .bool (!Q)) rfl (by kernel_rfl) (by kernel_rfl) (by kernel_rfl) (fun _ _ _ h => h) (Or.inl ⟨by kernel_rfl, ?_⟩) ?_
      · (intro w; go_simp)
      refine wpAny_done (by kernel_rfl) ?_ _
      have hl3 : Below w.heap.size w w3 := hl2.drew.trans (hb3.mono hl2.size)
      have Hx3 := Lib.hid (HxO.out.drew.below hb3 (Nat.le_refl _))
      have Hy3 := Lib.hid (Hy2.out.drew.below hb3 (Nat.le_refl _))
      have hgy3 : gy < w3.heap.size := Nat.lt_of_lt_of_le hgy hb3.size
      have hgx3 : gx < w3.heap.size := Nat.lt_of_lt_of_le hgx hb3.size
      clear hb3 hl2 HxO Hy2 Hpx Hpy hgx hgy
      cases Q with
      | false =>
        obtain rfl : R = false := by rw [← HP2.out, HQ.out]; rfl
        go_wp2_with fail
        go_ret
        exact ⟨rfl, hl3⟩
      | true =>
        have HR2 : Hid (decide (evPre p (y[i.length]'hle)) = R) := Lib.hid (by rw [← HP2.out, HQ.out]; rfl)
        obtain ⟨x0, x1, x2, x3, x4, x5, x6⟩ := Hx3.out.cellsAt i.length (by simp)
        rw [List.getElem_append_right (Nat.le_refl _)] at x0 x1 x2 x3 x4 x5 x6
        simp only [Nat.sub_self, List.getElem_cons_zero] at x0 x1 x2 x3 x4 x5 x6
        obtain ⟨y0, y1, y2, y3, y4, y5, y6⟩ := Hy3.out.cellsAt i.length hle
        have hili : (i.length : Int) < (N : Int) := by omega
        have hily : (i.length : Int) < (y.length : Int) := by omega
        generalize y[i.length] = q at y0 y1 y2 y3 y4 y5 y6 HR2
        obtain ⟨K, F, Bt, L, Tx, C, P⟩ := p
        obtain ⟨K', F', Bt', L', Tx', C', P'⟩ := q
        simp only at x0 x1 x2 x3 x4 x5 x6 y0 y1 y2 y3 y4 y5 y6
        clear HP HP2 HQ
        by_cases hpq : (⟨K, F, Bt, L, Tx, C, P⟩ : Ev) = ⟨K', F', Bt', L', Tx', C', P'⟩
        · have hE := evEq_as (decide_eq_true hpq)
          unfold evV at hE
          simp only at hE
          obtain rfl : R = true := by rw [← HR2.out]; exact decide_eq_true (.inl hpq)
          clear hpq
          go_wp2_with fail
          go_ret
          exact ⟨rfl, (hl3.alloc hl3.size _).alloc (by have := hl3.size; simp; omega) _⟩
        · have hE := evEq_as (decide_eq_false hpq)
          unfold evV at hE
          simp only at hE
          have HR3 : Hid (decide (K = 4 ∧ K' = 4 ∧ textPre Tx Tx') = R) := Lib.hid (by rw [← HR2.out]; exact decide_eq_decide.2 (evPre_no hpq).symm)
          clear hpq HR2
          have hp5 : Box ((w3.alloc (.cells #[.int .i64 K, .int .i64 F, .int .u64 Bt, .int .i64 L, .string Tx, .int .i64 C, .int .i64 P] 31)).alloc (.cells #[.int .i64 K', .int .i64 F', .int .u64 Bt', .int .i64 L', .string Tx', .int .i64 C', .int .i64 P'] 31)) w3.heap.size [.int .i64 K, .int .i64 F, .int .u64 Bt, .int .i64 L, .string Tx, .int .i64 C, .int .i64 P] := (Box.fresh _ _ _).alloc _
          have hq5 : Box ((w3.alloc (.cells #[.int .i64 K, .int .i64 F, .int .u64 Bt, .int .i64 L, .string Tx, .int .i64 C, .int .i64 P] 31)).alloc (.cells #[.int .i64 K', .int .i64 F', .int .u64 Bt', .int .i64 L', .string Tx', .int .i64 C', .int .i64 P'] 31)) (w3.heap.size + 1) [.int .i64 K', .int .i64 F', .int .u64 Bt', .int .i64 L', .string Tx', .int .i64 C', .int .i64 P'] := by
            have h := Box.fresh (w3.alloc (.cells #[.int .i64 K, .int .i64 F, .int .u64 Bt, .int .i64 L, .string Tx, .int .i64 C, .int .i64 P] 31)) #[.int .i64 K', .int .i64 F', .int .u64 Bt', .int .i64 L', .string Tx', .int .i64 C', .int .i64 P'] 31
            rwa [show (w3.alloc (.cells #[.int .i64 K, .int .i64 F, .int .u64 Bt, .int .i64 L, .string Tx, .int .i64 C, .int .i64 P] 31)).heap.size = w3.heap.size + 1 by simp] at h
          have hl5 : Below w.heap.size w ((w3.alloc (.cells #[.int .i64 K, .int .i64 F, .int .u64 Bt, .int .i64 L, .string Tx, .int .i64 C, .int .i64 P] 31)).alloc (.cells #[.int .i64 K', .int .i64 F', .int .u64 Bt', .int .i64 L', .string Tx', .int .i64 C', .int .i64 P'] 31)) := (hl3.alloc hl3.size _).alloc (by have := hl3.size; simp; omega) _
          go_upto_region 12 with fail
          generalize ((w3.alloc (.cells #[.int .i64 K, .int .i64 F, .int .u64 Bt, .int .i64 L, .string Tx, .int .i64 C, .int .i64 P] 31)).alloc (.cells #[.int .i64 K', .int .i64 F', .int .u64 Bt', .int .i64 L', .string Tx', .int .i64 C', .int .i64 P'] 31)) = w5 at hp5 hq5 hl5 ⊢
          obtain ⟨⟨p0, p1, p2, p3, p4, p5, p6⟩, _⟩ := hp5.seven
          obtain ⟨⟨q0, q1, q2, q3, q4, q5, q6⟩, _⟩ := hq5.seven
          have hpz := hp5.lt
          have hqz := hq5.lt
          clear hp5 hq5 x0 x1 x2 x3 x4 x5 x6 y0 y1 y2 y3 y4 y5 y6 hl3 hgy3 hgx3 hE
          generalize w3.heap.size = gp at p0 p1 p2 p3 p4 p5 p6 q0 q1 q2 q3 q4 q5 q6 hpz hqz ⊢
          by_cases hK : K = 4
          · have kK : (K == 4) = true := by rw [hK]; rfl
            by_cases hK' : K' = 4
            · have kK' : (K' == 4) = true := by rw [hK']; rfl
              by_cases hsz : Tx.size ≤ Tx'.size
              · have hszi : (Tx.size : Int) ≤ (Tx'.size : Int) := by omega
                by_cases hx : Tx'.extract 0 Tx.size = Tx
                · obtain rfl : R = true := by rw [← HR3.out]; exact decide_eq_true ⟨hK, hK', hsz, hx⟩
                  have hB : ((Tx'.extract 0 Tx.size).toList == Tx.toList) = true := by rw [hx]; simp
                  clear hK hK' hx
                  go_wp2_with fail
                  go_quiet (fail)
                  go_wp2_with fail
                  go_ret
                  exact ⟨rfl, below_drewN hl5 _⟩
                · obtain rfl : R = false := by rw [← HR3.out]; exact decide_eq_false fun h => hx h.2.2.2
                  have hB : ((Tx'.extract 0 Tx.size).toList == Tx.toList) = false := neBA hx
                  clear hK hK' hx
                  go_wp2_with fail
                  go_quiet (fail)
                  go_wp2_with fail
                  go_ret
                  exact ⟨rfl, below_drewN hl5 _⟩
              · obtain rfl : R = false := by rw [← HR3.out]; exact decide_eq_false fun h => hsz h.2.2.1
                have hd1 : decide ((Tx.size : Int) ≤ (Tx'.size : Int)) = false := decide_eq_false (by omega)
                have hd2 : decide (Tx.size ≤ Tx'.size) = false := decide_eq_false hsz
                clear hK hK' hsz
                go_wp2_with fail
                go_quiet (fail)
                go_wp2_with fail
                go_ret
                exact ⟨rfl, below_drewN hl5 _⟩
            · obtain rfl : R = false := by rw [← HR3.out]; exact decide_eq_false fun h => hK' h.2.1
              have nK' := neI hK'
              clear hK hK'
              go_wp2_with fail
              go_quiet (fail)
              go_wp2_with fail
              go_ret
              exact ⟨rfl, below_drewN hl5 _⟩
          · obtain rfl : R = false := by rw [← HR3.out]; exact decide_eq_false fun h => hK h.1
            have nK := neI hK
            clear hK
            go_wp2_with fail
            go_quiet (fail)
            go_wp2_with fail
            go_ret
            exact ⟨rfl, below_drewN hl5 _⟩
end Go.Proofs.Yteplmjlllnbiiaa.Num
