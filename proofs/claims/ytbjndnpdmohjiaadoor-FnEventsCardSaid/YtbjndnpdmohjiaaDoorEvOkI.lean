/-
  The walk of the program's EventOk: the event's kind in range, and the event made again from it equal to it; only new memory is written.
-/
import Derived.Test.YtbjndnpdmohjiaaDoorEvKindI
import Derived.Deep.RegionHeld
namespace Go.Proofs.YtbjndnpdmohjiaaDoor.Num
open Go.RowKit Go.Proofs
set_option linter.unusedVariables false
set_option linter.unusedSimpArgs false
attribute [local go_sem] Region.wanted yielded

/-- The cells of an event in a block of its own. -/
def SS (g : Nat) (k f b l : Int) (t : ByteArray) (c p : Int) (w : World) : Prop := w.cell? ⟨g, 0, none⟩ = some (.int .i64 k) ∧ w.cell? ⟨g, 1, none⟩ = some (.int .i64 f) ∧ w.cell? ⟨g, 2, none⟩ = some (.int .u64 b) ∧ w.cell? ⟨g, 3, none⟩ = some (.int .i64 l) ∧ w.cell? ⟨g, 4, none⟩ = some (.string t) ∧ w.cell? ⟨g, 5, none⟩ = some (.int .i64 c) ∧ w.cell? ⟨g, 6, none⟩ = some (.int .i64 p)
theorem SS.below {g B : Nat} {k f b l : Int} {t : ByteArray} {c p : Int} {w w' : World} (h : SS g k f b l t c p w) (hb : Below B w w') (hg : g < B) : SS g k f b l t c p w' := by
  unfold SS at h ⊢
  rw [hb.cell (p := ⟨g, _, none⟩) hg, hb.cell (p := ⟨g, _, none⟩) hg, hb.cell (p := ⟨g, _, none⟩) hg, hb.cell (p := ⟨g, _, none⟩) hg, hb.cell (p := ⟨g, _, none⟩) hg, hb.cell (p := ⟨g, _, none⟩) hg, hb.cell (p := ⟨g, _, none⟩) hg]; exact h
set_option maxHeartbeats 8000000 in
set_option maxRecDepth 100000 in
theorem implEventOk_any (e : Ev) (w : World) : Calls Tryd.prog 9 #[evV e] w fun x w' => x = .returned (.bool (evOkB e)) ∧ Below w.heap.size w w' := by
  obtain ⟨R, hR⟩ : ∃ R, evOkB e = R := ⟨_, rfl⟩
  have HRR := Lib.hid hR
  rw [hR]
  clear hR
  obtain ⟨k, f, b, l, t, c, p⟩ := e
  unfold evV
  simp only
  have hbe := Box.fresh w #[.int .i64 k, .int .i64 f, .int .u64 b, .int .i64 l, .string t, .int .i64 c, .int .i64 p] 26
  have hl : Below w.heap.size w (w.alloc (.cells #[.int .i64 k, .int .i64 f, .int .u64 b, .int .i64 l, .string t, .int .i64 c, .int .i64 p] 26)) := (Below.refl _ _).alloc (Nat.le_refl _) _
  go_enter Tryd.func9, Tryd.ntmps9
  go_wp2_with fail
  generalize w.alloc (.cells #[.int .i64 k, .int .i64 f, .int .u64 b, .int .i64 l, .string t, .int .i64 c, .int .i64 p] 26) = w1 at hbe hl ⊢
  rcases ev_kinds k with rfl | rfl | rfl | rfl | rfl | rfl | rfl | rfl | rfl | rfl | hk
  · refine (kindOf1 f b l t c p _).mono ?_
    rintro _ w2 ⟨rfl, hb2⟩
    have hbe2 := hbe.below hb2 hbe.lt
    have hl2 := hl.trans (hb2.mono hl.size)
    clear hbe hl hb2
    obtain ⟨⟨e0, e1, e2, e3, e4, e5, e6⟩, _⟩ := hbe2.seven
    obtain ⟨Q, hQ⟩ : ∃ Q, decide (0 ≤ l) = Q := ⟨_, rfl⟩
    obtain ⟨P, hP⟩ : ∃ P, decide ((⟨1, 0, 0, l, ⟨#[]⟩, 0, 0⟩ : Ev) = ⟨1, f, b, l, t, c, p⟩) = P := ⟨_, rfl⟩
    have hRR : R = (Q && P) := by rw [← HRR.out, okAt1, hQ, hP]
    clear HRR
    have HR := Lib.hid (inRange1 l Q hQ)
    have HE := Lib.hid (event1 l)
    have hE := evEq_as hP
    unfold evV at hE
    simp only at hE
    have hm : ∀ w : World, (Go.method 190 54 (.agg #[.int .i64 l]) "loop.example/g00498/impl.event").run Tryd.prog w = .ok (49, .agg #[.int .i64 l]) w := fun _ => by kernel_rfl
    have HB := Lib.hid hbe2
    clear hQ hP hbe2
    cases Q with
    | true =>
      obtain rfl : R = P := hRR
      go_wp2_with fail
      refine wp_region_held_drew (S := SS w.heap.size 1 f b l t c p) (by kernel_rfl) ⟨e0, e1, e2, e3, e4, e5, e6⟩ ?_
      intro hH
      refine wpAnyH_take (i := 0) (v := .iface 54 (.agg #[.int .i64 l])) rfl (by kernel_rfl) (by kernel_rfl) (by kernel_rfl) (fun _ _ _ h => h) (Or.inl ⟨by kernel_rfl, ?_⟩) hH ?_
      · (intro wv hSw; (try simp only [FS, FS2] at hSw); (try unfold SS at hSw); (try unfold SR at hSw); go_split_ands; go_simp)
      try simp only [List.getElem_toArray, List.getElem_cons_succ, List.getElem_cons_zero, Act.put, List.setIfInBounds_toArray, List.set_cons_zero, List.set_cons_succ]
      refine wpAnyH_ready (rs := [1]) (by kernel_rfl) (by simp) ?_
      refine AllReadyH.cons rfl (fun K hK => ?_) AllReadyH.nil
      go_simp
      go_wp2_with (go_at_call 21; refine (HR.out _).mono ?_; rintro _ w3 ⟨rfl, hb3⟩)
      refine hK.out _ _ (hH.below hb3 HB.out.lt) (fun hH1 => ?_)
      clear hK K hH
      have hH := hH1
      clear hH1
      have hl3 := hl2.drew.trans (hb3.mono hl2.size)
      have hz3 : w.heap.size < w3.heap.size := Nat.lt_of_lt_of_le HB.out.lt hb3.size
      try simp only [Act.put, List.setIfInBounds_toArray, List.set_cons_zero, List.set_cons_succ]
      refine wpAnyH_take (i := 2) (v := .bool true) rfl (by kernel_rfl) (by kernel_rfl) (by kernel_rfl) (fun _ _ _ h => h) (Or.inl ⟨by kernel_rfl, ?_⟩) hH ?_
      · (intro wv hSw; (try simp only [FS, FS2] at hSw); (try unfold SS at hSw); (try unfold SR at hSw); go_split_ands; go_simp)
      try simp only [List.getElem_toArray, List.getElem_cons_succ, List.getElem_cons_zero, Act.put, List.setIfInBounds_toArray, List.set_cons_zero, List.set_cons_succ]
      refine wpAnyH_take (i := 3) (v := .iface 54 (.agg #[.int .i64 l])) rfl (by kernel_rfl) (by kernel_rfl) (by kernel_rfl) (fun _ _ _ h => h) (Or.inl ⟨by kernel_rfl, ?_⟩) hH ?_
      · (intro wv hSw; (try simp only [FS, FS2] at hSw); (try unfold SS at hSw); (try unfold SR at hSw); go_split_ands; go_simp)
      try simp only [List.getElem_toArray, List.getElem_cons_succ, List.getElem_cons_zero, Act.put, List.setIfInBounds_toArray, List.set_cons_zero, List.set_cons_succ]
      refine wpAnyH_take (i := 5) (v := .agg #[.int .i64 1, .int .i64 f, .int .u64 b, .int .i64 l, .string t, .int .i64 c, .int .i64 p]) rfl (by kernel_rfl) (by kernel_rfl) (by kernel_rfl) (fun _ _ _ h => h) (Or.inl ⟨by kernel_rfl, ?_⟩) hH ?_
      · (intro wv hSw; (try simp only [FS, FS2] at hSw); (try unfold SS at hSw); (try unfold SR at hSw); go_split_ands; go_simp)
      try simp only [List.getElem_toArray, List.getElem_cons_succ, List.getElem_cons_zero, Act.put, List.setIfInBounds_toArray, List.set_cons_zero, List.set_cons_succ]
      refine wpAnyH_ready (rs := [4]) (by kernel_rfl) (by simp) ?_
      refine AllReadyH.cons rfl (fun K hK => ?_) AllReadyH.nil
      go_simp
      go_wp2_with (go_at_call 49; refine (HE.out _).mono ?_; rintro _ w4 ⟨rfl, hb4⟩)
      refine hK.out _ _ (hH.below hb4 hz3) (fun hH1 => ?_)
      clear hK K hH
      have hH := hH1
      clear hH1
      have hl4 := hl3.trans (hb4.mono hl3.size)
      try simp only [Act.put, List.setIfInBounds_toArray, List.set_cons_zero, List.set_cons_succ]
      refine wpAnyH_take (i := 6) (v := .bool R) rfl (by kernel_rfl) (by kernel_rfl) (by kernel_rfl) (fun _ _ _ h => h) (Or.inl ⟨by kernel_rfl, ?_⟩) hH ?_
      · (intro wv hSw; (try simp only [FS, FS2] at hSw); (try unfold SS at hSw); (try unfold SR at hSw); go_split_ands; go_simp)
      try simp only [List.getElem_toArray, List.getElem_cons_succ, List.getElem_cons_zero, Act.put, List.setIfInBounds_toArray, List.set_cons_zero, List.set_cons_succ]
      refine wpAnyH_take (i := 7) (v := .bool R) rfl (by kernel_rfl) (by kernel_rfl) (by kernel_rfl) (fun _ _ _ h => h) (Or.inl ⟨by kernel_rfl, ?_⟩) hH ?_
      · (intro wv hSw; (try simp only [FS, FS2] at hSw); (try unfold SS at hSw); (try unfold SR at hSw); go_split_ands; go_simp)
      try simp only [List.getElem_toArray, List.getElem_cons_succ, List.getElem_cons_zero, Act.put, List.setIfInBounds_toArray, List.set_cons_zero, List.set_cons_succ]
      refine wpAnyH_take (i := 8) (v := .bool R) rfl (by kernel_rfl) (by kernel_rfl) (by kernel_rfl) (fun _ _ _ h => h) (Or.inl ⟨by kernel_rfl, ?_⟩) hH ?_
      · (intro wv hSw; (try simp only [FS, FS2] at hSw); (try unfold SS at hSw); (try unfold SR at hSw); go_split_ands; go_simp)
      try simp only [List.getElem_toArray, List.getElem_cons_succ, List.getElem_cons_zero, Act.put, List.setIfInBounds_toArray, List.set_cons_zero, List.set_cons_succ]
      refine wpAnyH_done (by kernel_rfl) ?_ _
      go_wp2_with fail
      go_ret
      exact ⟨rfl, hl4⟩
    | false =>
      obtain rfl : R = false := hRR
      go_wp2_with fail
      refine wp_region_held_drew (S := SS w.heap.size 1 f b l t c p) (by kernel_rfl) ⟨e0, e1, e2, e3, e4, e5, e6⟩ ?_
      intro hH
      refine wpAnyH_take (i := 0) (v := .iface 54 (.agg #[.int .i64 l])) rfl (by kernel_rfl) (by kernel_rfl) (by kernel_rfl) (fun _ _ _ h => h) (Or.inl ⟨by kernel_rfl, ?_⟩) hH ?_
      · (intro wv hSw; (try simp only [FS, FS2] at hSw); (try unfold SS at hSw); (try unfold SR at hSw); go_split_ands; go_simp)
      try simp only [List.getElem_toArray, List.getElem_cons_succ, List.getElem_cons_zero, Act.put, List.setIfInBounds_toArray, List.set_cons_zero, List.set_cons_succ]
      refine wpAnyH_ready (rs := [1]) (by kernel_rfl) (by simp) ?_
      refine AllReadyH.cons rfl (fun K hK => ?_) AllReadyH.nil
      go_simp
      go_wp2_with (go_at_call 21; refine (HR.out _).mono ?_; rintro _ w3 ⟨rfl, hb3⟩)
      refine hK.out _ _ (hH.below hb3 HB.out.lt) (fun hH1 => ?_)
      clear hK K hH
      have hH := hH1
      clear hH1
      have hl3 := hl2.drew.trans (hb3.mono hl2.size)
      have hz3 : w.heap.size < w3.heap.size := Nat.lt_of_lt_of_le HB.out.lt hb3.size
      try simp only [Act.put, List.setIfInBounds_toArray, List.set_cons_zero, List.set_cons_succ]
      refine wpAnyH_take (i := 2) (v := .bool false) rfl (by kernel_rfl) (by kernel_rfl) (by kernel_rfl) (fun _ _ _ h => h) (Or.inl ⟨by kernel_rfl, ?_⟩) hH ?_
      · (intro wv hSw; (try simp only [FS, FS2] at hSw); (try unfold SS at hSw); (try unfold SR at hSw); go_split_ands; go_simp)
      try simp only [List.getElem_toArray, List.getElem_cons_succ, List.getElem_cons_zero, Act.put, List.setIfInBounds_toArray, List.set_cons_zero, List.set_cons_succ]
      refine wpAnyH_take (i := 3) (v := undef) rfl (by kernel_rfl) (by kernel_rfl) (by kernel_rfl) (fun _ _ _ h => h) (Or.inr ⟨by kernel_rfl, rfl⟩) hH ?_
      try simp only [List.getElem_toArray, List.getElem_cons_succ, List.getElem_cons_zero, Act.put, List.setIfInBounds_toArray, List.set_cons_zero, List.set_cons_succ]
      refine wpAnyH_take (i := 4) (v := undef) rfl (by kernel_rfl) (by kernel_rfl) (by kernel_rfl) (fun _ _ _ h => h) (Or.inr ⟨by kernel_rfl, rfl⟩) hH ?_
      try simp only [List.getElem_toArray, List.getElem_cons_succ, List.getElem_cons_zero, Act.put, List.setIfInBounds_toArray, List.set_cons_zero, List.set_cons_succ]
      refine wpAnyH_take (i := 5) (v := undef) rfl (by kernel_rfl) (by kernel_rfl) (by kernel_rfl) (fun _ _ _ h => h) (Or.inr ⟨by kernel_rfl, rfl⟩) hH ?_
      try simp only [List.getElem_toArray, List.getElem_cons_succ, List.getElem_cons_zero, Act.put, List.setIfInBounds_toArray, List.set_cons_zero, List.set_cons_succ]
      refine wpAnyH_take (i := 6) (v := undef) rfl (by kernel_rfl) (by kernel_rfl) (by kernel_rfl) (fun _ _ _ h => h) (Or.inr ⟨by kernel_rfl, rfl⟩) hH ?_
      try simp only [List.getElem_toArray, List.getElem_cons_succ, List.getElem_cons_zero, Act.put, List.setIfInBounds_toArray, List.set_cons_zero, List.set_cons_succ]
      refine wpAnyH_take (i := 7) (v := .bool false) rfl (by kernel_rfl) (by kernel_rfl) (by kernel_rfl) (fun _ _ _ h => h) (Or.inl ⟨by kernel_rfl, ?_⟩) hH ?_
      · (intro wv hSw; (try simp only [FS, FS2] at hSw); (try unfold SS at hSw); (try unfold SR at hSw); go_split_ands; go_simp)
      try simp only [List.getElem_toArray, List.getElem_cons_succ, List.getElem_cons_zero, Act.put, List.setIfInBounds_toArray, List.set_cons_zero, List.set_cons_succ]
      refine wpAnyH_take (i := 8) (v := .bool false) rfl (by kernel_rfl) (by kernel_rfl) (by kernel_rfl) (fun _ _ _ h => h) (Or.inl ⟨by kernel_rfl, ?_⟩) hH ?_
      · (intro wv hSw; (try simp only [FS, FS2] at hSw); (try unfold SS at hSw); (try unfold SR at hSw); go_split_ands; go_simp)
      try simp only [List.getElem_toArray, List.getElem_cons_succ, List.getElem_cons_zero, Act.put, List.setIfInBounds_toArray, List.set_cons_zero, List.set_cons_succ]
      refine wpAnyH_done (by kernel_rfl) ?_ _
      go_wp2_with fail
      go_ret
      exact ⟨rfl, hl3⟩
  · refine (kindOf2 f b l t c p _).mono ?_
    rintro _ w2 ⟨rfl, hb2⟩
    have hbe2 := hbe.below hb2 hbe.lt
    have hl2 := hl.trans (hb2.mono hl.size)
    clear hbe hl hb2
    obtain ⟨⟨e0, e1, e2, e3, e4, e5, e6⟩, _⟩ := hbe2.seven
    obtain ⟨Q, hQ⟩ : ∃ Q, decide (1 ≤ f ∧ f ≤ 536870911) = Q := ⟨_, rfl⟩
    obtain ⟨P, hP⟩ : ∃ P, decide ((⟨2, f, b, 0, ⟨#[]⟩, 0, 0⟩ : Ev) = ⟨2, f, b, l, t, c, p⟩) = P := ⟨_, rfl⟩
    have hRR : R = (Q && P) := by rw [← HRR.out, okAt2, hQ, hP]
    clear HRR
    have HR := Lib.hid (inRange2 f b Q hQ)
    have HE := Lib.hid (event2 f b)
    have hE := evEq_as hP
    unfold evV at hE
    simp only at hE
    have hm : ∀ w : World, (Go.method 190 56 (.agg #[.int .i64 f, .int .u64 b]) "loop.example/g00498/impl.event").run Tryd.prog w = .ok (50, .agg #[.int .i64 f, .int .u64 b]) w := fun _ => by kernel_rfl
    have HB := Lib.hid hbe2
    clear hQ hP hbe2
    cases Q with
    | true =>
      obtain rfl : R = P := hRR
      go_wp2_with fail
      refine wp_region_held_drew (S := SS w.heap.size 2 f b l t c p) (by kernel_rfl) ⟨e0, e1, e2, e3, e4, e5, e6⟩ ?_
      intro hH
      refine wpAnyH_take (i := 0) (v := .iface 56 (.agg #[.int .i64 f, .int .u64 b])) rfl (by kernel_rfl) (by kernel_rfl) (by kernel_rfl) (fun _ _ _ h => h) (Or.inl ⟨by kernel_rfl, ?_⟩) hH ?_
      · (intro wv hSw; (try simp only [FS, FS2] at hSw); (try unfold SS at hSw); (try unfold SR at hSw); go_split_ands; go_simp)
      try simp only [List.getElem_toArray, List.getElem_cons_succ, List.getElem_cons_zero, Act.put, List.setIfInBounds_toArray, List.set_cons_zero, List.set_cons_succ]
      refine wpAnyH_ready (rs := [1]) (by kernel_rfl) (by simp) ?_
      refine AllReadyH.cons rfl (fun K hK => ?_) AllReadyH.nil
      go_simp
      go_wp2_with (go_at_call 21; refine (HR.out _).mono ?_; rintro _ w3 ⟨rfl, hb3⟩)
      refine hK.out _ _ (hH.below hb3 HB.out.lt) (fun hH1 => ?_)
      clear hK K hH
      have hH := hH1
      clear hH1
      have hl3 := hl2.drew.trans (hb3.mono hl2.size)
      have hz3 : w.heap.size < w3.heap.size := Nat.lt_of_lt_of_le HB.out.lt hb3.size
      try simp only [Act.put, List.setIfInBounds_toArray, List.set_cons_zero, List.set_cons_succ]
      refine wpAnyH_take (i := 2) (v := .bool true) rfl (by kernel_rfl) (by kernel_rfl) (by kernel_rfl) (fun _ _ _ h => h) (Or.inl ⟨by kernel_rfl, ?_⟩) hH ?_
      · (intro wv hSw; (try simp only [FS, FS2] at hSw); (try unfold SS at hSw); (try unfold SR at hSw); go_split_ands; go_simp)
      try simp only [List.getElem_toArray, List.getElem_cons_succ, List.getElem_cons_zero, Act.put, List.setIfInBounds_toArray, List.set_cons_zero, List.set_cons_succ]
      refine wpAnyH_take (i := 3) (v := .iface 56 (.agg #[.int .i64 f, .int .u64 b])) rfl (by kernel_rfl) (by kernel_rfl) (by kernel_rfl) (fun _ _ _ h => h) (Or.inl ⟨by kernel_rfl, ?_⟩) hH ?_
      · (intro wv hSw; (try simp only [FS, FS2] at hSw); (try unfold SS at hSw); (try unfold SR at hSw); go_split_ands; go_simp)
      try simp only [List.getElem_toArray, List.getElem_cons_succ, List.getElem_cons_zero, Act.put, List.setIfInBounds_toArray, List.set_cons_zero, List.set_cons_succ]
      refine wpAnyH_take (i := 5) (v := .agg #[.int .i64 2, .int .i64 f, .int .u64 b, .int .i64 l, .string t, .int .i64 c, .int .i64 p]) rfl (by kernel_rfl) (by kernel_rfl) (by kernel_rfl) (fun _ _ _ h => h) (Or.inl ⟨by kernel_rfl, ?_⟩) hH ?_
      · (intro wv hSw; (try simp only [FS, FS2] at hSw); (try unfold SS at hSw); (try unfold SR at hSw); go_split_ands; go_simp)
      try simp only [List.getElem_toArray, List.getElem_cons_succ, List.getElem_cons_zero, Act.put, List.setIfInBounds_toArray, List.set_cons_zero, List.set_cons_succ]
      refine wpAnyH_ready (rs := [4]) (by kernel_rfl) (by simp) ?_
      refine AllReadyH.cons rfl (fun K hK => ?_) AllReadyH.nil
      go_simp
      go_wp2_with (go_at_call 50; refine (HE.out _).mono ?_; rintro _ w4 ⟨rfl, hb4⟩)
      refine hK.out _ _ (hH.below hb4 hz3) (fun hH1 => ?_)
      clear hK K hH
      have hH := hH1
      clear hH1
      have hl4 := hl3.trans (hb4.mono hl3.size)
      try simp only [Act.put, List.setIfInBounds_toArray, List.set_cons_zero, List.set_cons_succ]
      refine wpAnyH_take (i := 6) (v := .bool R) rfl (by kernel_rfl) (by kernel_rfl) (by kernel_rfl) (fun _ _ _ h => h) (Or.inl ⟨by kernel_rfl, ?_⟩) hH ?_
      · (intro wv hSw; (try simp only [FS, FS2] at hSw); (try unfold SS at hSw); (try unfold SR at hSw); go_split_ands; go_simp)
      try simp only [List.getElem_toArray, List.getElem_cons_succ, List.getElem_cons_zero, Act.put, List.setIfInBounds_toArray, List.set_cons_zero, List.set_cons_succ]
      refine wpAnyH_take (i := 7) (v := .bool R) rfl (by kernel_rfl) (by kernel_rfl) (by kernel_rfl) (fun _ _ _ h => h) (Or.inl ⟨by kernel_rfl, ?_⟩) hH ?_
      · (intro wv hSw; (try simp only [FS, FS2] at hSw); (try unfold SS at hSw); (try unfold SR at hSw); go_split_ands; go_simp)
      try simp only [List.getElem_toArray, List.getElem_cons_succ, List.getElem_cons_zero, Act.put, List.setIfInBounds_toArray, List.set_cons_zero, List.set_cons_succ]
      refine wpAnyH_take (i := 8) (v := .bool R) rfl (by kernel_rfl) (by kernel_rfl) (by kernel_rfl) (fun _ _ _ h => h) (Or.inl ⟨by kernel_rfl, ?_⟩) hH ?_
      · (intro wv hSw; (try simp only [FS, FS2] at hSw); (try unfold SS at hSw); (try unfold SR at hSw); go_split_ands; go_simp)
      try simp only [List.getElem_toArray, List.getElem_cons_succ, List.getElem_cons_zero, Act.put, List.setIfInBounds_toArray, List.set_cons_zero, List.set_cons_succ]
      refine wpAnyH_done (by kernel_rfl) ?_ _
      go_wp2_with fail
      go_ret
      exact ⟨rfl, hl4⟩
    | false =>
      obtain rfl : R = false := hRR
      go_wp2_with fail
      refine wp_region_held_drew (S := SS w.heap.size 2 f b l t c p) (by kernel_rfl) ⟨e0, e1, e2, e3, e4, e5, e6⟩ ?_
      intro hH
      refine wpAnyH_take (i := 0) (v := .iface 56 (.agg #[.int .i64 f, .int .u64 b])) rfl (by kernel_rfl) (by kernel_rfl) (by kernel_rfl) (fun _ _ _ h => h) (Or.inl ⟨by kernel_rfl, ?_⟩) hH ?_
      · (intro wv hSw; (try simp only [FS, FS2] at hSw); (try unfold SS at hSw); (try unfold SR at hSw); go_split_ands; go_simp)
      try simp only [List.getElem_toArray, List.getElem_cons_succ, List.getElem_cons_zero, Act.put, List.setIfInBounds_toArray, List.set_cons_zero, List.set_cons_succ]
      refine wpAnyH_ready (rs := [1]) (by kernel_rfl) (by simp) ?_
      refine AllReadyH.cons rfl (fun K hK => ?_) AllReadyH.nil
      go_simp
      go_wp2_with (go_at_call 21; refine (HR.out _).mono ?_; rintro _ w3 ⟨rfl, hb3⟩)
      refine hK.out _ _ (hH.below hb3 HB.out.lt) (fun hH1 => ?_)
      clear hK K hH
      have hH := hH1
      clear hH1
      have hl3 := hl2.drew.trans (hb3.mono hl2.size)
      have hz3 : w.heap.size < w3.heap.size := Nat.lt_of_lt_of_le HB.out.lt hb3.size
      try simp only [Act.put, List.setIfInBounds_toArray, List.set_cons_zero, List.set_cons_succ]
      refine wpAnyH_take (i := 2) (v := .bool false) rfl (by kernel_rfl) (by kernel_rfl) (by kernel_rfl) (fun _ _ _ h => h) (Or.inl ⟨by kernel_rfl, ?_⟩) hH ?_
      · (intro wv hSw; (try simp only [FS, FS2] at hSw); (try unfold SS at hSw); (try unfold SR at hSw); go_split_ands; go_simp)
      try simp only [List.getElem_toArray, List.getElem_cons_succ, List.getElem_cons_zero, Act.put, List.setIfInBounds_toArray, List.set_cons_zero, List.set_cons_succ]
      refine wpAnyH_take (i := 3) (v := undef) rfl (by kernel_rfl) (by kernel_rfl) (by kernel_rfl) (fun _ _ _ h => h) (Or.inr ⟨by kernel_rfl, rfl⟩) hH ?_
      try simp only [List.getElem_toArray, List.getElem_cons_succ, List.getElem_cons_zero, Act.put, List.setIfInBounds_toArray, List.set_cons_zero, List.set_cons_succ]
      refine wpAnyH_take (i := 4) (v := undef) rfl (by kernel_rfl) (by kernel_rfl) (by kernel_rfl) (fun _ _ _ h => h) (Or.inr ⟨by kernel_rfl, rfl⟩) hH ?_
      try simp only [List.getElem_toArray, List.getElem_cons_succ, List.getElem_cons_zero, Act.put, List.setIfInBounds_toArray, List.set_cons_zero, List.set_cons_succ]
      refine wpAnyH_take (i := 5) (v := undef) rfl (by kernel_rfl) (by kernel_rfl) (by kernel_rfl) (fun _ _ _ h => h) (Or.inr ⟨by kernel_rfl, rfl⟩) hH ?_
      try simp only [List.getElem_toArray, List.getElem_cons_succ, List.getElem_cons_zero, Act.put, List.setIfInBounds_toArray, List.set_cons_zero, List.set_cons_succ]
      refine wpAnyH_take (i := 6) (v := undef) rfl (by kernel_rfl) (by kernel_rfl) (by kernel_rfl) (fun _ _ _ h => h) (Or.inr ⟨by kernel_rfl, rfl⟩) hH ?_
      try simp only [List.getElem_toArray, List.getElem_cons_succ, List.getElem_cons_zero, Act.put, List.setIfInBounds_toArray, List.set_cons_zero, List.set_cons_succ]
      refine wpAnyH_take (i := 7) (v := .bool false) rfl (by kernel_rfl) (by kernel_rfl) (by kernel_rfl) (fun _ _ _ h => h) (Or.inl ⟨by kernel_rfl, ?_⟩) hH ?_
      · (intro wv hSw; (try simp only [FS, FS2] at hSw); (try unfold SS at hSw); (try unfold SR at hSw); go_split_ands; go_simp)
      try simp only [List.getElem_toArray, List.getElem_cons_succ, List.getElem_cons_zero, Act.put, List.setIfInBounds_toArray, List.set_cons_zero, List.set_cons_succ]
      refine wpAnyH_take (i := 8) (v := .bool false) rfl (by kernel_rfl) (by kernel_rfl) (by kernel_rfl) (fun _ _ _ h => h) (Or.inl ⟨by kernel_rfl, ?_⟩) hH ?_
      · (intro wv hSw; (try simp only [FS, FS2] at hSw); (try unfold SS at hSw); (try unfold SR at hSw); go_split_ands; go_simp)
      try simp only [List.getElem_toArray, List.getElem_cons_succ, List.getElem_cons_zero, Act.put, List.setIfInBounds_toArray, List.set_cons_zero, List.set_cons_succ]
      refine wpAnyH_done (by kernel_rfl) ?_ _
      go_wp2_with fail
      go_ret
      exact ⟨rfl, hl3⟩
  · refine (kindOf3 f b l t c p _).mono ?_
    rintro _ w2 ⟨rfl, hb2⟩
    have hbe2 := hbe.below hb2 hbe.lt
    have hl2 := hl.trans (hb2.mono hl.size)
    clear hbe hl hb2
    obtain ⟨⟨e0, e1, e2, e3, e4, e5, e6⟩, _⟩ := hbe2.seven
    obtain ⟨Q, hQ⟩ : ∃ Q, decide ((1 ≤ f ∧ f ≤ 536870911) ∧ 0 ≤ l) = Q := ⟨_, rfl⟩
    obtain ⟨P, hP⟩ : ∃ P, decide ((⟨3, f, 0, l, ⟨#[]⟩, 0, 0⟩ : Ev) = ⟨3, f, b, l, t, c, p⟩) = P := ⟨_, rfl⟩
    have hRR : R = (Q && P) := by rw [← HRR.out, okAt3, hQ, hP]
    clear HRR
    have HR := Lib.hid (inRange3 f l Q hQ)
    have HE := Lib.hid (event3 f l)
    have hE := evEq_as hP
    unfold evV at hE
    simp only at hE
    have hm : ∀ w : World, (Go.method 190 58 (.agg #[.int .i64 f, .int .i64 l]) "loop.example/g00498/impl.event").run Tryd.prog w = .ok (51, .agg #[.int .i64 f, .int .i64 l]) w := fun _ => by kernel_rfl
    have HB := Lib.hid hbe2
    clear hQ hP hbe2
    cases Q with
    | true =>
      obtain rfl : R = P := hRR
      go_wp2_with fail
      refine wp_region_held_drew (S := SS w.heap.size 3 f b l t c p) (by kernel_rfl) ⟨e0, e1, e2, e3, e4, e5, e6⟩ ?_
      intro hH
      refine wpAnyH_take (i := 0) (v := .iface 58 (.agg #[.int .i64 f, .int .i64 l])) rfl (by kernel_rfl) (by kernel_rfl) (by kernel_rfl) (fun _ _ _ h => h) (Or.inl ⟨by kernel_rfl, ?_⟩) hH ?_
      · (intro wv hSw; (try simp only [FS, FS2] at hSw); (try unfold SS at hSw); (try unfold SR at hSw); go_split_ands; go_simp)
      try simp only [List.getElem_toArray, List.getElem_cons_succ, List.getElem_cons_zero, Act.put, List.setIfInBounds_toArray, List.set_cons_zero, List.set_cons_succ]
      refine wpAnyH_ready (rs := [1]) (by kernel_rfl) (by simp) ?_
      refine AllReadyH.cons rfl (fun K hK => ?_) AllReadyH.nil
      go_simp
      go_wp2_with (go_at_call 21; refine (HR.out _).mono ?_; rintro _ w3 ⟨rfl, hb3⟩)
      refine hK.out _ _ (hH.below hb3 HB.out.lt) (fun hH1 => ?_)
      clear hK K hH
      have hH := hH1
      clear hH1
      have hl3 := hl2.drew.trans (hb3.mono hl2.size)
      have hz3 : w.heap.size < w3.heap.size := Nat.lt_of_lt_of_le HB.out.lt hb3.size
      try simp only [Act.put, List.setIfInBounds_toArray, List.set_cons_zero, List.set_cons_succ]
      refine wpAnyH_take (i := 2) (v := .bool true) rfl (by kernel_rfl) (by kernel_rfl) (by kernel_rfl) (fun _ _ _ h => h) (Or.inl ⟨by kernel_rfl, ?_⟩) hH ?_
      · (intro wv hSw; (try simp only [FS, FS2] at hSw); (try unfold SS at hSw); (try unfold SR at hSw); go_split_ands; go_simp)
      try simp only [List.getElem_toArray, List.getElem_cons_succ, List.getElem_cons_zero, Act.put, List.setIfInBounds_toArray, List.set_cons_zero, List.set_cons_succ]
      refine wpAnyH_take (i := 3) (v := .iface 58 (.agg #[.int .i64 f, .int .i64 l])) rfl (by kernel_rfl) (by kernel_rfl) (by kernel_rfl) (fun _ _ _ h => h) (Or.inl ⟨by kernel_rfl, ?_⟩) hH ?_
      · (intro wv hSw; (try simp only [FS, FS2] at hSw); (try unfold SS at hSw); (try unfold SR at hSw); go_split_ands; go_simp)
      try simp only [List.getElem_toArray, List.getElem_cons_succ, List.getElem_cons_zero, Act.put, List.setIfInBounds_toArray, List.set_cons_zero, List.set_cons_succ]
      refine wpAnyH_take (i := 5) (v := .agg #[.int .i64 3, .int .i64 f, .int .u64 b, .int .i64 l, .string t, .int .i64 c, .int .i64 p]) rfl (by kernel_rfl) (by kernel_rfl) (by kernel_rfl) (fun _ _ _ h => h) (Or.inl ⟨by kernel_rfl, ?_⟩) hH ?_
      · (intro wv hSw; (try simp only [FS, FS2] at hSw); (try unfold SS at hSw); (try unfold SR at hSw); go_split_ands; go_simp)
      try simp only [List.getElem_toArray, List.getElem_cons_succ, List.getElem_cons_zero, Act.put, List.setIfInBounds_toArray, List.set_cons_zero, List.set_cons_succ]
      refine wpAnyH_ready (rs := [4]) (by kernel_rfl) (by simp) ?_
      refine AllReadyH.cons rfl (fun K hK => ?_) AllReadyH.nil
      go_simp
      go_wp2_with (go_at_call 51; refine (HE.out _).mono ?_; rintro _ w4 ⟨rfl, hb4⟩)
      refine hK.out _ _ (hH.below hb4 hz3) (fun hH1 => ?_)
      clear hK K hH
      have hH := hH1
      clear hH1
      have hl4 := hl3.trans (hb4.mono hl3.size)
      try simp only [Act.put, List.setIfInBounds_toArray, List.set_cons_zero, List.set_cons_succ]
      refine wpAnyH_take (i := 6) (v := .bool R) rfl (by kernel_rfl) (by kernel_rfl) (by kernel_rfl) (fun _ _ _ h => h) (Or.inl ⟨by kernel_rfl, ?_⟩) hH ?_
      · (intro wv hSw; (try simp only [FS, FS2] at hSw); (try unfold SS at hSw); (try unfold SR at hSw); go_split_ands; go_simp)
      try simp only [List.getElem_toArray, List.getElem_cons_succ, List.getElem_cons_zero, Act.put, List.setIfInBounds_toArray, List.set_cons_zero, List.set_cons_succ]
      refine wpAnyH_take (i := 7) (v := .bool R) rfl (by kernel_rfl) (by kernel_rfl) (by kernel_rfl) (fun _ _ _ h => h) (Or.inl ⟨by kernel_rfl, ?_⟩) hH ?_
      · (intro wv hSw; (try simp only [FS, FS2] at hSw); (try unfold SS at hSw); (try unfold SR at hSw); go_split_ands; go_simp)
      try simp only [List.getElem_toArray, List.getElem_cons_succ, List.getElem_cons_zero, Act.put, List.setIfInBounds_toArray, List.set_cons_zero, List.set_cons_succ]
      refine wpAnyH_take (i := 8) (v := .bool R) rfl (by kernel_rfl) (by kernel_rfl) (by kernel_rfl) (fun _ _ _ h => h) (Or.inl ⟨by kernel_rfl, ?_⟩) hH ?_
      · (intro wv hSw; (try simp only [FS, FS2] at hSw); (try unfold SS at hSw); (try unfold SR at hSw); go_split_ands; go_simp)
      try simp only [List.getElem_toArray, List.getElem_cons_succ, List.getElem_cons_zero, Act.put, List.setIfInBounds_toArray, List.set_cons_zero, List.set_cons_succ]
      refine wpAnyH_done (by kernel_rfl) ?_ _
      go_wp2_with fail
      go_ret
      exact ⟨rfl, hl4⟩
    | false =>
      obtain rfl : R = false := hRR
      go_wp2_with fail
      refine wp_region_held_drew (S := SS w.heap.size 3 f b l t c p) (by kernel_rfl) ⟨e0, e1, e2, e3, e4, e5, e6⟩ ?_
      intro hH
      refine wpAnyH_take (i := 0) (v := .iface 58 (.agg #[.int .i64 f, .int .i64 l])) rfl (by kernel_rfl) (by kernel_rfl) (by kernel_rfl) (fun _ _ _ h => h) (Or.inl ⟨by kernel_rfl, ?_⟩) hH ?_
      · (intro wv hSw; (try simp only [FS, FS2] at hSw); (try unfold SS at hSw); (try unfold SR at hSw); go_split_ands; go_simp)
      try simp only [List.getElem_toArray, List.getElem_cons_succ, List.getElem_cons_zero, Act.put, List.setIfInBounds_toArray, List.set_cons_zero, List.set_cons_succ]
      refine wpAnyH_ready (rs := [1]) (by kernel_rfl) (by simp) ?_
      refine AllReadyH.cons rfl (fun K hK => ?_) AllReadyH.nil
      go_simp
      go_wp2_with (go_at_call 21; refine (HR.out _).mono ?_; rintro _ w3 ⟨rfl, hb3⟩)
      refine hK.out _ _ (hH.below hb3 HB.out.lt) (fun hH1 => ?_)
      clear hK K hH
      have hH := hH1
      clear hH1
      have hl3 := hl2.drew.trans (hb3.mono hl2.size)
      have hz3 : w.heap.size < w3.heap.size := Nat.lt_of_lt_of_le HB.out.lt hb3.size
      try simp only [Act.put, List.setIfInBounds_toArray, List.set_cons_zero, List.set_cons_succ]
      refine wpAnyH_take (i := 2) (v := .bool false) rfl (by kernel_rfl) (by kernel_rfl) (by kernel_rfl) (fun _ _ _ h => h) (Or.inl ⟨by kernel_rfl, ?_⟩) hH ?_
      · (intro wv hSw; (try simp only [FS, FS2] at hSw); (try unfold SS at hSw); (try unfold SR at hSw); go_split_ands; go_simp)
      try simp only [List.getElem_toArray, List.getElem_cons_succ, List.getElem_cons_zero, Act.put, List.setIfInBounds_toArray, List.set_cons_zero, List.set_cons_succ]
      refine wpAnyH_take (i := 3) (v := undef) rfl (by kernel_rfl) (by kernel_rfl) (by kernel_rfl) (fun _ _ _ h => h) (Or.inr ⟨by kernel_rfl, rfl⟩) hH ?_
      try simp only [List.getElem_toArray, List.getElem_cons_succ, List.getElem_cons_zero, Act.put, List.setIfInBounds_toArray, List.set_cons_zero, List.set_cons_succ]
      refine wpAnyH_take (i := 4) (v := undef) rfl (by kernel_rfl) (by kernel_rfl) (by kernel_rfl) (fun _ _ _ h => h) (Or.inr ⟨by kernel_rfl, rfl⟩) hH ?_
      try simp only [List.getElem_toArray, List.getElem_cons_succ, List.getElem_cons_zero, Act.put, List.setIfInBounds_toArray, List.set_cons_zero, List.set_cons_succ]
      refine wpAnyH_take (i := 5) (v := undef) rfl (by kernel_rfl) (by kernel_rfl) (by kernel_rfl) (fun _ _ _ h => h) (Or.inr ⟨by kernel_rfl, rfl⟩) hH ?_
      try simp only [List.getElem_toArray, List.getElem_cons_succ, List.getElem_cons_zero, Act.put, List.setIfInBounds_toArray, List.set_cons_zero, List.set_cons_succ]
      refine wpAnyH_take (i := 6) (v := undef) rfl (by kernel_rfl) (by kernel_rfl) (by kernel_rfl) (fun _ _ _ h => h) (Or.inr ⟨by kernel_rfl, rfl⟩) hH ?_
      try simp only [List.getElem_toArray, List.getElem_cons_succ, List.getElem_cons_zero, Act.put, List.setIfInBounds_toArray, List.set_cons_zero, List.set_cons_succ]
      refine wpAnyH_take (i := 7) (v := .bool false) rfl (by kernel_rfl) (by kernel_rfl) (by kernel_rfl) (fun _ _ _ h => h) (Or.inl ⟨by kernel_rfl, ?_⟩) hH ?_
      · (intro wv hSw; (try simp only [FS, FS2] at hSw); (try unfold SS at hSw); (try unfold SR at hSw); go_split_ands; go_simp)
      try simp only [List.getElem_toArray, List.getElem_cons_succ, List.getElem_cons_zero, Act.put, List.setIfInBounds_toArray, List.set_cons_zero, List.set_cons_succ]
      refine wpAnyH_take (i := 8) (v := .bool false) rfl (by kernel_rfl) (by kernel_rfl) (by kernel_rfl) (fun _ _ _ h => h) (Or.inl ⟨by kernel_rfl, ?_⟩) hH ?_
      · (intro wv hSw; (try simp only [FS, FS2] at hSw); (try unfold SS at hSw); (try unfold SR at hSw); go_split_ands; go_simp)
      try simp only [List.getElem_toArray, List.getElem_cons_succ, List.getElem_cons_zero, Act.put, List.setIfInBounds_toArray, List.set_cons_zero, List.set_cons_succ]
      refine wpAnyH_done (by kernel_rfl) ?_ _
      go_wp2_with fail
      go_ret
      exact ⟨rfl, hl3⟩
  · refine (kindOf4 f b l t c p _).mono ?_
    rintro _ w2 ⟨rfl, hb2⟩
    have hbe2 := hbe.below hb2 hbe.lt
    have hl2 := hl.trans (hb2.mono hl.size)
    clear hbe hl hb2
    obtain ⟨⟨e0, e1, e2, e3, e4, e5, e6⟩, _⟩ := hbe2.seven
    obtain ⟨Q, hQ⟩ : ∃ Q, decide (t.toList.isEmpty = false) = Q := ⟨_, rfl⟩
    obtain ⟨P, hP⟩ : ∃ P, decide ((⟨4, 0, 0, 0, t, 0, 0⟩ : Ev) = ⟨4, f, b, l, t, c, p⟩) = P := ⟨_, rfl⟩
    have hRR : R = (Q && P) := by rw [← HRR.out, okAt4, hQ, hP]
    clear HRR
    have HR := Lib.hid (inRange4 t Q hQ)
    have HE := Lib.hid (event4 t)
    have hE := evEq_as hP
    unfold evV at hE
    simp only at hE
    have hm : ∀ w : World, (Go.method 190 60 (.agg #[.string t]) "loop.example/g00498/impl.event").run Tryd.prog w = .ok (52, .agg #[.string t]) w := fun _ => by kernel_rfl
    have HB := Lib.hid hbe2
    clear hQ hP hbe2
    cases Q with
    | true =>
      obtain rfl : R = P := hRR
      go_wp2_with fail
      refine wp_region_held_drew (S := SS w.heap.size 4 f b l t c p) (by kernel_rfl) ⟨e0, e1, e2, e3, e4, e5, e6⟩ ?_
      intro hH
      refine wpAnyH_take (i := 0) (v := .iface 60 (.agg #[.string t])) rfl (by kernel_rfl) (by kernel_rfl) (by kernel_rfl) (fun _ _ _ h => h) (Or.inl ⟨by kernel_rfl, ?_⟩) hH ?_
      · (intro wv hSw; (try simp only [FS, FS2] at hSw); (try unfold SS at hSw); (try unfold SR at hSw); go_split_ands; go_simp)
      try simp only [List.getElem_toArray, List.getElem_cons_succ, List.getElem_cons_zero, Act.put, List.setIfInBounds_toArray, List.set_cons_zero, List.set_cons_succ]
      refine wpAnyH_ready (rs := [1]) (by kernel_rfl) (by simp) ?_
      refine AllReadyH.cons rfl (fun K hK => ?_) AllReadyH.nil
      go_simp
      go_wp2_with (go_at_call 21; refine (HR.out _).mono ?_; rintro _ w3 ⟨rfl, hb3⟩)
      refine hK.out _ _ (hH.below hb3 HB.out.lt) (fun hH1 => ?_)
      clear hK K hH
      have hH := hH1
      clear hH1
      have hl3 := hl2.drew.trans (hb3.mono hl2.size)
      have hz3 : w.heap.size < w3.heap.size := Nat.lt_of_lt_of_le HB.out.lt hb3.size
      try simp only [Act.put, List.setIfInBounds_toArray, List.set_cons_zero, List.set_cons_succ]
      refine wpAnyH_take (i := 2) (v := .bool true) rfl (by kernel_rfl) (by kernel_rfl) (by kernel_rfl) (fun _ _ _ h => h) (Or.inl ⟨by kernel_rfl, ?_⟩) hH ?_
      · (intro wv hSw; (try simp only [FS, FS2] at hSw); (try unfold SS at hSw); (try unfold SR at hSw); go_split_ands; go_simp)
      try simp only [List.getElem_toArray, List.getElem_cons_succ, List.getElem_cons_zero, Act.put, List.setIfInBounds_toArray, List.set_cons_zero, List.set_cons_succ]
      refine wpAnyH_take (i := 3) (v := .iface 60 (.agg #[.string t])) rfl (by kernel_rfl) (by kernel_rfl) (by kernel_rfl) (fun _ _ _ h => h) (Or.inl ⟨by kernel_rfl, ?_⟩) hH ?_
      · (intro wv hSw; (try simp only [FS, FS2] at hSw); (try unfold SS at hSw); (try unfold SR at hSw); go_split_ands; go_simp)
      try simp only [List.getElem_toArray, List.getElem_cons_succ, List.getElem_cons_zero, Act.put, List.setIfInBounds_toArray, List.set_cons_zero, List.set_cons_succ]
      refine wpAnyH_take (i := 5) (v := .agg #[.int .i64 4, .int .i64 f, .int .u64 b, .int .i64 l, .string t, .int .i64 c, .int .i64 p]) rfl (by kernel_rfl) (by kernel_rfl) (by kernel_rfl) (fun _ _ _ h => h) (Or.inl ⟨by kernel_rfl, ?_⟩) hH ?_
      · (intro wv hSw; (try simp only [FS, FS2] at hSw); (try unfold SS at hSw); (try unfold SR at hSw); go_split_ands; go_simp)
      try simp only [List.getElem_toArray, List.getElem_cons_succ, List.getElem_cons_zero, Act.put, List.setIfInBounds_toArray, List.set_cons_zero, List.set_cons_succ]
      refine wpAnyH_ready (rs := [4]) (by kernel_rfl) (by simp) ?_
      refine AllReadyH.cons rfl (fun K hK => ?_) AllReadyH.nil
      go_simp
      go_wp2_with (go_at_call 52; refine (HE.out _).mono ?_; rintro _ w4 ⟨rfl, hb4⟩)
      refine hK.out _ _ (hH.below hb4 hz3) (fun hH1 => ?_)
      clear hK K hH
      have hH := hH1
      clear hH1
      have hl4 := hl3.trans (hb4.mono hl3.size)
      try simp only [Act.put, List.setIfInBounds_toArray, List.set_cons_zero, List.set_cons_succ]
      refine wpAnyH_take (i := 6) (v := .bool R) rfl (by kernel_rfl) (by kernel_rfl) (by kernel_rfl) (fun _ _ _ h => h) (Or.inl ⟨by kernel_rfl, ?_⟩) hH ?_
      · (intro wv hSw; (try simp only [FS, FS2] at hSw); (try unfold SS at hSw); (try unfold SR at hSw); go_split_ands; go_simp)
      try simp only [List.getElem_toArray, List.getElem_cons_succ, List.getElem_cons_zero, Act.put, List.setIfInBounds_toArray, List.set_cons_zero, List.set_cons_succ]
      refine wpAnyH_take (i := 7) (v := .bool R) rfl (by kernel_rfl) (by kernel_rfl) (by kernel_rfl) (fun _ _ _ h => h) (Or.inl ⟨by kernel_rfl, ?_⟩) hH ?_
      · (intro wv hSw; (try simp only [FS, FS2] at hSw); (try unfold SS at hSw); (try unfold SR at hSw); go_split_ands; go_simp)
      try simp only [List.getElem_toArray, List.getElem_cons_succ, List.getElem_cons_zero, Act.put, List.setIfInBounds_toArray, List.set_cons_zero, List.set_cons_succ]
      refine wpAnyH_take (i := 8) (v := .bool R) rfl (by kernel_rfl) (by kernel_rfl) (by kernel_rfl) (fun _ _ _ h => h) (Or.inl ⟨by kernel_rfl, ?_⟩) hH ?_
      · (intro wv hSw; (try simp only [FS, FS2] at hSw); (try unfold SS at hSw); (try unfold SR at hSw); go_split_ands; go_simp)
      try simp only [List.getElem_toArray, List.getElem_cons_succ, List.getElem_cons_zero, Act.put, List.setIfInBounds_toArray, List.set_cons_zero, List.set_cons_succ]
      refine wpAnyH_done (by kernel_rfl) ?_ _
      go_wp2_with fail
      go_ret
      exact ⟨rfl, hl4⟩
    | false =>
      obtain rfl : R = false := hRR
      go_wp2_with fail
      refine wp_region_held_drew (S := SS w.heap.size 4 f b l t c p) (by kernel_rfl) ⟨e0, e1, e2, e3, e4, e5, e6⟩ ?_
      intro hH
      refine wpAnyH_take (i := 0) (v := .iface 60 (.agg #[.string t])) rfl (by kernel_rfl) (by kernel_rfl) (by kernel_rfl) (fun _ _ _ h => h) (Or.inl ⟨by kernel_rfl, ?_⟩) hH ?_
      · (intro wv hSw; (try simp only [FS, FS2] at hSw); (try unfold SS at hSw); (try unfold SR at hSw); go_split_ands; go_simp)
      try simp only [List.getElem_toArray, List.getElem_cons_succ, List.getElem_cons_zero, Act.put, List.setIfInBounds_toArray, List.set_cons_zero, List.set_cons_succ]
      refine wpAnyH_ready (rs := [1]) (by kernel_rfl) (by simp) ?_
      refine AllReadyH.cons rfl (fun K hK => ?_) AllReadyH.nil
      go_simp
      go_wp2_with (go_at_call 21; refine (HR.out _).mono ?_; rintro _ w3 ⟨rfl, hb3⟩)
      refine hK.out _ _ (hH.below hb3 HB.out.lt) (fun hH1 => ?_)
      clear hK K hH
      have hH := hH1
      clear hH1
      have hl3 := hl2.drew.trans (hb3.mono hl2.size)
      have hz3 : w.heap.size < w3.heap.size := Nat.lt_of_lt_of_le HB.out.lt hb3.size
      try simp only [Act.put, List.setIfInBounds_toArray, List.set_cons_zero, List.set_cons_succ]
      refine wpAnyH_take (i := 2) (v := .bool false) rfl (by kernel_rfl) (by kernel_rfl) (by kernel_rfl) (fun _ _ _ h => h) (Or.inl ⟨by kernel_rfl, ?_⟩) hH ?_
      · (intro wv hSw; (try simp only [FS, FS2] at hSw); (try unfold SS at hSw); (try unfold SR at hSw); go_split_ands; go_simp)
      try simp only [List.getElem_toArray, List.getElem_cons_succ, List.getElem_cons_zero, Act.put, List.setIfInBounds_toArray, List.set_cons_zero, List.set_cons_succ]
      refine wpAnyH_take (i := 3) (v := undef) rfl (by kernel_rfl) (by kernel_rfl) (by kernel_rfl) (fun _ _ _ h => h) (Or.inr ⟨by kernel_rfl, rfl⟩) hH ?_
      try simp only [List.getElem_toArray, List.getElem_cons_succ, List.getElem_cons_zero, Act.put, List.setIfInBounds_toArray, List.set_cons_zero, List.set_cons_succ]
      refine wpAnyH_take (i := 4) (v := undef) rfl (by kernel_rfl) (by kernel_rfl) (by kernel_rfl) (fun _ _ _ h => h) (Or.inr ⟨by kernel_rfl, rfl⟩) hH ?_
      try simp only [List.getElem_toArray, List.getElem_cons_succ, List.getElem_cons_zero, Act.put, List.setIfInBounds_toArray, List.set_cons_zero, List.set_cons_succ]
      refine wpAnyH_take (i := 5) (v := undef) rfl (by kernel_rfl) (by kernel_rfl) (by kernel_rfl) (fun _ _ _ h => h) (Or.inr ⟨by kernel_rfl, rfl⟩) hH ?_
      try simp only [List.getElem_toArray, List.getElem_cons_succ, List.getElem_cons_zero, Act.put, List.setIfInBounds_toArray, List.set_cons_zero, List.set_cons_succ]
      refine wpAnyH_take (i := 6) (v := undef) rfl (by kernel_rfl) (by kernel_rfl) (by kernel_rfl) (fun _ _ _ h => h) (Or.inr ⟨by kernel_rfl, rfl⟩) hH ?_
      try simp only [List.getElem_toArray, List.getElem_cons_succ, List.getElem_cons_zero, Act.put, List.setIfInBounds_toArray, List.set_cons_zero, List.set_cons_succ]
      refine wpAnyH_take (i := 7) (v := .bool false) rfl (by kernel_rfl) (by kernel_rfl) (by kernel_rfl) (fun _ _ _ h => h) (Or.inl ⟨by kernel_rfl, ?_⟩) hH ?_
      · (intro wv hSw; (try simp only [FS, FS2] at hSw); (try unfold SS at hSw); (try unfold SR at hSw); go_split_ands; go_simp)
      try simp only [List.getElem_toArray, List.getElem_cons_succ, List.getElem_cons_zero, Act.put, List.setIfInBounds_toArray, List.set_cons_zero, List.set_cons_succ]
      refine wpAnyH_take (i := 8) (v := .bool false) rfl (by kernel_rfl) (by kernel_rfl) (by kernel_rfl) (fun _ _ _ h => h) (Or.inl ⟨by kernel_rfl, ?_⟩) hH ?_
      · (intro wv hSw; (try simp only [FS, FS2] at hSw); (try unfold SS at hSw); (try unfold SR at hSw); go_split_ands; go_simp)
      try simp only [List.getElem_toArray, List.getElem_cons_succ, List.getElem_cons_zero, Act.put, List.setIfInBounds_toArray, List.set_cons_zero, List.set_cons_succ]
      refine wpAnyH_done (by kernel_rfl) ?_ _
      go_wp2_with fail
      go_ret
      exact ⟨rfl, hl3⟩
  · refine (kindOf5 f b l t c p _).mono ?_
    rintro _ w2 ⟨rfl, hb2⟩
    have hbe2 := hbe.below hb2 hbe.lt
    have hl2 := hl.trans (hb2.mono hl.size)
    clear hbe hl hb2
    obtain ⟨⟨e0, e1, e2, e3, e4, e5, e6⟩, _⟩ := hbe2.seven
    obtain ⟨Q, hQ⟩ : ∃ Q, decide (True) = Q := ⟨_, rfl⟩
    obtain ⟨P, hP⟩ : ∃ P, decide ((⟨5, 0, 0, 0, ⟨#[]⟩, 0, 0⟩ : Ev) = ⟨5, f, b, l, t, c, p⟩) = P := ⟨_, rfl⟩
    have hRR : R = (Q && P) := by rw [← HRR.out, okAt5, hQ, hP]
    clear HRR
    obtain rfl : Q = true := by rw [← hQ]; exact decide_eq_true trivial
    have HR := Lib.hid inRange5
    have HE := Lib.hid (event5 )
    have hE := evEq_as hP
    unfold evV at hE
    simp only at hE
    have hm : ∀ w : World, (Go.method 190 62 (.agg #[]) "loop.example/g00498/impl.event").run Tryd.prog w = .ok (53, .agg #[]) w := fun _ => by kernel_rfl
    have HB := Lib.hid hbe2
    clear hQ hP hbe2
    · obtain rfl : R = P := hRR
      go_wp2_with fail
      refine wp_region_held_drew (S := SS w.heap.size 5 f b l t c p) (by kernel_rfl) ⟨e0, e1, e2, e3, e4, e5, e6⟩ ?_
      intro hH
      refine wpAnyH_take (i := 0) (v := .iface 62 (.agg #[])) rfl (by kernel_rfl) (by kernel_rfl) (by kernel_rfl) (fun _ _ _ h => h) (Or.inl ⟨by kernel_rfl, ?_⟩) hH ?_
      · (intro wv hSw; (try simp only [FS, FS2] at hSw); (try unfold SS at hSw); (try unfold SR at hSw); go_split_ands; go_simp)
      try simp only [List.getElem_toArray, List.getElem_cons_succ, List.getElem_cons_zero, Act.put, List.setIfInBounds_toArray, List.set_cons_zero, List.set_cons_succ]
      refine wpAnyH_ready (rs := [1]) (by kernel_rfl) (by simp) ?_
      refine AllReadyH.cons rfl (fun K hK => ?_) AllReadyH.nil
      go_simp
      go_wp2_with (go_at_call 21; refine (HR.out _).mono ?_; rintro _ w3 ⟨rfl, hb3⟩)
      refine hK.out _ _ (hH.below hb3 HB.out.lt) (fun hH1 => ?_)
      clear hK K hH
      have hH := hH1
      clear hH1
      have hl3 := hl2.drew.trans (hb3.mono hl2.size)
      have hz3 : w.heap.size < w3.heap.size := Nat.lt_of_lt_of_le HB.out.lt hb3.size
      try simp only [Act.put, List.setIfInBounds_toArray, List.set_cons_zero, List.set_cons_succ]
      refine wpAnyH_take (i := 2) (v := .bool true) rfl (by kernel_rfl) (by kernel_rfl) (by kernel_rfl) (fun _ _ _ h => h) (Or.inl ⟨by kernel_rfl, ?_⟩) hH ?_
      · (intro wv hSw; (try simp only [FS, FS2] at hSw); (try unfold SS at hSw); (try unfold SR at hSw); go_split_ands; go_simp)
      try simp only [List.getElem_toArray, List.getElem_cons_succ, List.getElem_cons_zero, Act.put, List.setIfInBounds_toArray, List.set_cons_zero, List.set_cons_succ]
      refine wpAnyH_take (i := 3) (v := .iface 62 (.agg #[])) rfl (by kernel_rfl) (by kernel_rfl) (by kernel_rfl) (fun _ _ _ h => h) (Or.inl ⟨by kernel_rfl, ?_⟩) hH ?_
      · (intro wv hSw; (try simp only [FS, FS2] at hSw); (try unfold SS at hSw); (try unfold SR at hSw); go_split_ands; go_simp)
      try simp only [List.getElem_toArray, List.getElem_cons_succ, List.getElem_cons_zero, Act.put, List.setIfInBounds_toArray, List.set_cons_zero, List.set_cons_succ]
      refine wpAnyH_take (i := 5) (v := .agg #[.int .i64 5, .int .i64 f, .int .u64 b, .int .i64 l, .string t, .int .i64 c, .int .i64 p]) rfl (by kernel_rfl) (by kernel_rfl) (by kernel_rfl) (fun _ _ _ h => h) (Or.inl ⟨by kernel_rfl, ?_⟩) hH ?_
      · (intro wv hSw; (try simp only [FS, FS2] at hSw); (try unfold SS at hSw); (try unfold SR at hSw); go_split_ands; go_simp)
      try simp only [List.getElem_toArray, List.getElem_cons_succ, List.getElem_cons_zero, Act.put, List.setIfInBounds_toArray, List.set_cons_zero, List.set_cons_succ]
      refine wpAnyH_ready (rs := [4]) (by kernel_rfl) (by simp) ?_
      refine AllReadyH.cons rfl (fun K hK => ?_) AllReadyH.nil
      go_simp
      go_wp2_with (go_at_call 53; refine (HE.out _).mono ?_; rintro _ w4 ⟨rfl, hb4⟩)
      refine hK.out _ _ (hH.below hb4 hz3) (fun hH1 => ?_)
      clear hK K hH
      have hH := hH1
      clear hH1
      have hl4 := hl3.trans (hb4.mono hl3.size)
      try simp only [Act.put, List.setIfInBounds_toArray, List.set_cons_zero, List.set_cons_succ]
      refine wpAnyH_take (i := 6) (v := .bool R) rfl (by kernel_rfl) (by kernel_rfl) (by kernel_rfl) (fun _ _ _ h => h) (Or.inl ⟨by kernel_rfl, ?_⟩) hH ?_
      · (intro wv hSw; (try simp only [FS, FS2] at hSw); (try unfold SS at hSw); (try unfold SR at hSw); go_split_ands; go_simp)
      try simp only [List.getElem_toArray, List.getElem_cons_succ, List.getElem_cons_zero, Act.put, List.setIfInBounds_toArray, List.set_cons_zero, List.set_cons_succ]
      refine wpAnyH_take (i := 7) (v := .bool R) rfl (by kernel_rfl) (by kernel_rfl) (by kernel_rfl) (fun _ _ _ h => h) (Or.inl ⟨by kernel_rfl, ?_⟩) hH ?_
      · (intro wv hSw; (try simp only [FS, FS2] at hSw); (try unfold SS at hSw); (try unfold SR at hSw); go_split_ands; go_simp)
      try simp only [List.getElem_toArray, List.getElem_cons_succ, List.getElem_cons_zero, Act.put, List.setIfInBounds_toArray, List.set_cons_zero, List.set_cons_succ]
      refine wpAnyH_take (i := 8) (v := .bool R) rfl (by kernel_rfl) (by kernel_rfl) (by kernel_rfl) (fun _ _ _ h => h) (Or.inl ⟨by kernel_rfl, ?_⟩) hH ?_
      · (intro wv hSw; (try simp only [FS, FS2] at hSw); (try unfold SS at hSw); (try unfold SR at hSw); go_split_ands; go_simp)
      try simp only [List.getElem_toArray, List.getElem_cons_succ, List.getElem_cons_zero, Act.put, List.setIfInBounds_toArray, List.set_cons_zero, List.set_cons_succ]
      refine wpAnyH_done (by kernel_rfl) ?_ _
      go_wp2_with fail
      go_ret
      exact ⟨rfl, hl4⟩
  · refine (kindOf6 f b l t c p _).mono ?_
    rintro _ w2 ⟨rfl, hb2⟩
    have hbe2 := hbe.below hb2 hbe.lt
    have hl2 := hl.trans (hb2.mono hl.size)
    clear hbe hl hb2
    obtain ⟨⟨e0, e1, e2, e3, e4, e5, e6⟩, _⟩ := hbe2.seven
    obtain ⟨Q, hQ⟩ : ∃ Q, decide ((1 ≤ f ∧ f ≤ 536870911) ∧ 0 ≤ l) = Q := ⟨_, rfl⟩
    obtain ⟨P, hP⟩ : ∃ P, decide ((⟨6, f, 0, l, ⟨#[]⟩, 0, 0⟩ : Ev) = ⟨6, f, b, l, t, c, p⟩) = P := ⟨_, rfl⟩
    have hRR : R = (Q && P) := by rw [← HRR.out, okAt6, hQ, hP]
    clear HRR
    have HR := Lib.hid (inRange6 f l Q hQ)
    have HE := Lib.hid (event6 f l)
    have hE := evEq_as hP
    unfold evV at hE
    simp only at hE
    have hm : ∀ w : World, (Go.method 190 63 (.agg #[.int .i64 f, .int .i64 l]) "loop.example/g00498/impl.event").run Tryd.prog w = .ok (54, .agg #[.int .i64 f, .int .i64 l]) w := fun _ => by kernel_rfl
    have HB := Lib.hid hbe2
    clear hQ hP hbe2
    cases Q with
    | true =>
      obtain rfl : R = P := hRR
      go_wp2_with fail
      refine wp_region_held_drew (S := SS w.heap.size 6 f b l t c p) (by kernel_rfl) ⟨e0, e1, e2, e3, e4, e5, e6⟩ ?_
      intro hH
      refine wpAnyH_take (i := 0) (v := .iface 63 (.agg #[.int .i64 f, .int .i64 l])) rfl (by kernel_rfl) (by kernel_rfl) (by kernel_rfl) (fun _ _ _ h => h) (Or.inl ⟨by kernel_rfl, ?_⟩) hH ?_
      · (intro wv hSw; (try simp only [FS, FS2] at hSw); (try unfold SS at hSw); (try unfold SR at hSw); go_split_ands; go_simp)
      try simp only [List.getElem_toArray, List.getElem_cons_succ, List.getElem_cons_zero, Act.put, List.setIfInBounds_toArray, List.set_cons_zero, List.set_cons_succ]
      refine wpAnyH_ready (rs := [1]) (by kernel_rfl) (by simp) ?_
      refine AllReadyH.cons rfl (fun K hK => ?_) AllReadyH.nil
      go_simp
      go_wp2_with (go_at_call 21; refine (HR.out _).mono ?_; rintro _ w3 ⟨rfl, hb3⟩)
      refine hK.out _ _ (hH.below hb3 HB.out.lt) (fun hH1 => ?_)
      clear hK K hH
      have hH := hH1
      clear hH1
      have hl3 := hl2.drew.trans (hb3.mono hl2.size)
      have hz3 : w.heap.size < w3.heap.size := Nat.lt_of_lt_of_le HB.out.lt hb3.size
      try simp only [Act.put, List.setIfInBounds_toArray, List.set_cons_zero, List.set_cons_succ]
      refine wpAnyH_take (i := 2) (v := .bool true) rfl (by kernel_rfl) (by kernel_rfl) (by kernel_rfl) (fun _ _ _ h => h) (Or.inl ⟨by kernel_rfl, ?_⟩) hH ?_
      · (intro wv hSw; (try simp only [FS, FS2] at hSw); (try unfold SS at hSw); (try unfold SR at hSw); go_split_ands; go_simp)
      try simp only [List.getElem_toArray, List.getElem_cons_succ, List.getElem_cons_zero, Act.put, List.setIfInBounds_toArray, List.set_cons_zero, List.set_cons_succ]
      refine wpAnyH_take (i := 3) (v := .iface 63 (.agg #[.int .i64 f, .int .i64 l])) rfl (by kernel_rfl) (by kernel_rfl) (by kernel_rfl) (fun _ _ _ h => h) (Or.inl ⟨by kernel_rfl, ?_⟩) hH ?_
      · (intro wv hSw; (try simp only [FS, FS2] at hSw); (try unfold SS at hSw); (try unfold SR at hSw); go_split_ands; go_simp)
      try simp only [List.getElem_toArray, List.getElem_cons_succ, List.getElem_cons_zero, Act.put, List.setIfInBounds_toArray, List.set_cons_zero, List.set_cons_succ]
      refine wpAnyH_take (i := 5) (v := .agg #[.int .i64 6, .int .i64 f, .int .u64 b, .int .i64 l, .string t, .int .i64 c, .int .i64 p]) rfl (by kernel_rfl) (by kernel_rfl) (by kernel_rfl) (fun _ _ _ h => h) (Or.inl ⟨by kernel_rfl, ?_⟩) hH ?_
      · (intro wv hSw; (try simp only [FS, FS2] at hSw); (try unfold SS at hSw); (try unfold SR at hSw); go_split_ands; go_simp)
      try simp only [List.getElem_toArray, List.getElem_cons_succ, List.getElem_cons_zero, Act.put, List.setIfInBounds_toArray, List.set_cons_zero, List.set_cons_succ]
      refine wpAnyH_ready (rs := [4]) (by kernel_rfl) (by simp) ?_
      refine AllReadyH.cons rfl (fun K hK => ?_) AllReadyH.nil
      go_simp
      go_wp2_with (go_at_call 54; refine (HE.out _).mono ?_; rintro _ w4 ⟨rfl, hb4⟩)
      refine hK.out _ _ (hH.below hb4 hz3) (fun hH1 => ?_)
      clear hK K hH
      have hH := hH1
      clear hH1
      have hl4 := hl3.trans (hb4.mono hl3.size)
      try simp only [Act.put, List.setIfInBounds_toArray, List.set_cons_zero, List.set_cons_succ]
      refine wpAnyH_take (i := 6) (v := .bool R) rfl (by kernel_rfl) (by kernel_rfl) (by kernel_rfl) (fun _ _ _ h => h) (Or.inl ⟨by kernel_rfl, ?_⟩) hH ?_
      · (intro wv hSw; (try simp only [FS, FS2] at hSw); (try unfold SS at hSw); (try unfold SR at hSw); go_split_ands; go_simp)
      try simp only [List.getElem_toArray, List.getElem_cons_succ, List.getElem_cons_zero, Act.put, List.setIfInBounds_toArray, List.set_cons_zero, List.set_cons_succ]
      refine wpAnyH_take (i := 7) (v := .bool R) rfl (by kernel_rfl) (by kernel_rfl) (by kernel_rfl) (fun _ _ _ h => h) (Or.inl ⟨by kernel_rfl, ?_⟩) hH ?_
      · (intro wv hSw; (try simp only [FS, FS2] at hSw); (try unfold SS at hSw); (try unfold SR at hSw); go_split_ands; go_simp)
      try simp only [List.getElem_toArray, List.getElem_cons_succ, List.getElem_cons_zero, Act.put, List.setIfInBounds_toArray, List.set_cons_zero, List.set_cons_succ]
      refine wpAnyH_take (i := 8) (v := .bool R) rfl (by kernel_rfl) (by kernel_rfl) (by kernel_rfl) (fun _ _ _ h => h) (Or.inl ⟨by kernel_rfl, ?_⟩) hH ?_
      · (intro wv hSw; (try simp only [FS, FS2] at hSw); (try unfold SS at hSw); (try unfold SR at hSw); go_split_ands; go_simp)
      try simp only [List.getElem_toArray, List.getElem_cons_succ, List.getElem_cons_zero, Act.put, List.setIfInBounds_toArray, List.set_cons_zero, List.set_cons_succ]
      refine wpAnyH_done (by kernel_rfl) ?_ _
      go_wp2_with fail
      go_ret
      exact ⟨rfl, hl4⟩
    | false =>
      obtain rfl : R = false := hRR
      go_wp2_with fail
      refine wp_region_held_drew (S := SS w.heap.size 6 f b l t c p) (by kernel_rfl) ⟨e0, e1, e2, e3, e4, e5, e6⟩ ?_
      intro hH
      refine wpAnyH_take (i := 0) (v := .iface 63 (.agg #[.int .i64 f, .int .i64 l])) rfl (by kernel_rfl) (by kernel_rfl) (by kernel_rfl) (fun _ _ _ h => h) (Or.inl ⟨by kernel_rfl, ?_⟩) hH ?_
      · (intro wv hSw; (try simp only [FS, FS2] at hSw); (try unfold SS at hSw); (try unfold SR at hSw); go_split_ands; go_simp)
      try simp only [List.getElem_toArray, List.getElem_cons_succ, List.getElem_cons_zero, Act.put, List.setIfInBounds_toArray, List.set_cons_zero, List.set_cons_succ]
      refine wpAnyH_ready (rs := [1]) (by kernel_rfl) (by simp) ?_
      refine AllReadyH.cons rfl (fun K hK => ?_) AllReadyH.nil
      go_simp
      go_wp2_with (go_at_call 21; refine (HR.out _).mono ?_; rintro _ w3 ⟨rfl, hb3⟩)
      refine hK.out _ _ (hH.below hb3 HB.out.lt) (fun hH1 => ?_)
      clear hK K hH
      have hH := hH1
      clear hH1
      have hl3 := hl2.drew.trans (hb3.mono hl2.size)
      have hz3 : w.heap.size < w3.heap.size := Nat.lt_of_lt_of_le HB.out.lt hb3.size
      try simp only [Act.put, List.setIfInBounds_toArray, List.set_cons_zero, List.set_cons_succ]
      refine wpAnyH_take (i := 2) (v := .bool false) rfl (by kernel_rfl) (by kernel_rfl) (by kernel_rfl) (fun _ _ _ h => h) (Or.inl ⟨by kernel_rfl, ?_⟩) hH ?_
      · (intro wv hSw; (try simp only [FS, FS2] at hSw); (try unfold SS at hSw); (try unfold SR at hSw); go_split_ands; go_simp)
      try simp only [List.getElem_toArray, List.getElem_cons_succ, List.getElem_cons_zero, Act.put, List.setIfInBounds_toArray, List.set_cons_zero, List.set_cons_succ]
      refine wpAnyH_take (i := 3) (v := undef) rfl (by kernel_rfl) (by kernel_rfl) (by kernel_rfl) (fun _ _ _ h => h) (Or.inr ⟨by kernel_rfl, rfl⟩) hH ?_
      try simp only [List.getElem_toArray, List.getElem_cons_succ, List.getElem_cons_zero, Act.put, List.setIfInBounds_toArray, List.set_cons_zero, List.set_cons_succ]
      refine wpAnyH_take (i := 4) (v := undef) rfl (by kernel_rfl) (by kernel_rfl) (by kernel_rfl) (fun _ _ _ h => h) (Or.inr ⟨by kernel_rfl, rfl⟩) hH ?_
      try simp only [List.getElem_toArray, List.getElem_cons_succ, List.getElem_cons_zero, Act.put, List.setIfInBounds_toArray, List.set_cons_zero, List.set_cons_succ]
      refine wpAnyH_take (i := 5) (v := undef) rfl (by kernel_rfl) (by kernel_rfl) (by kernel_rfl) (fun _ _ _ h => h) (Or.inr ⟨by kernel_rfl, rfl⟩) hH ?_
      try simp only [List.getElem_toArray, List.getElem_cons_succ, List.getElem_cons_zero, Act.put, List.setIfInBounds_toArray, List.set_cons_zero, List.set_cons_succ]
      refine wpAnyH_take (i := 6) (v := undef) rfl (by kernel_rfl) (by kernel_rfl) (by kernel_rfl) (fun _ _ _ h => h) (Or.inr ⟨by kernel_rfl, rfl⟩) hH ?_
      try simp only [List.getElem_toArray, List.getElem_cons_succ, List.getElem_cons_zero, Act.put, List.setIfInBounds_toArray, List.set_cons_zero, List.set_cons_succ]
      refine wpAnyH_take (i := 7) (v := .bool false) rfl (by kernel_rfl) (by kernel_rfl) (by kernel_rfl) (fun _ _ _ h => h) (Or.inl ⟨by kernel_rfl, ?_⟩) hH ?_
      · (intro wv hSw; (try simp only [FS, FS2] at hSw); (try unfold SS at hSw); (try unfold SR at hSw); go_split_ands; go_simp)
      try simp only [List.getElem_toArray, List.getElem_cons_succ, List.getElem_cons_zero, Act.put, List.setIfInBounds_toArray, List.set_cons_zero, List.set_cons_succ]
      refine wpAnyH_take (i := 8) (v := .bool false) rfl (by kernel_rfl) (by kernel_rfl) (by kernel_rfl) (fun _ _ _ h => h) (Or.inl ⟨by kernel_rfl, ?_⟩) hH ?_
      · (intro wv hSw; (try simp only [FS, FS2] at hSw); (try unfold SS at hSw); (try unfold SR at hSw); go_split_ands; go_simp)
      try simp only [List.getElem_toArray, List.getElem_cons_succ, List.getElem_cons_zero, Act.put, List.setIfInBounds_toArray, List.set_cons_zero, List.set_cons_succ]
      refine wpAnyH_done (by kernel_rfl) ?_ _
      go_wp2_with fail
      go_ret
      exact ⟨rfl, hl3⟩
  · refine (kindOf7 f b l t c p _).mono ?_
    rintro _ w2 ⟨rfl, hb2⟩
    have hbe2 := hbe.below hb2 hbe.lt
    have hl2 := hl.trans (hb2.mono hl.size)
    clear hbe hl hb2
    obtain ⟨⟨e0, e1, e2, e3, e4, e5, e6⟩, _⟩ := hbe2.seven
    obtain ⟨Q, hQ⟩ : ∃ Q, decide (True) = Q := ⟨_, rfl⟩
    obtain ⟨P, hP⟩ : ∃ P, decide ((⟨7, 0, 0, 0, ⟨#[]⟩, 0, 0⟩ : Ev) = ⟨7, f, b, l, t, c, p⟩) = P := ⟨_, rfl⟩
    have hRR : R = (Q && P) := by rw [← HRR.out, okAt7, hQ, hP]
    clear HRR
    obtain rfl : Q = true := by rw [← hQ]; exact decide_eq_true trivial
    have HR := Lib.hid inRange7
    have HE := Lib.hid (event7 )
    have hE := evEq_as hP
    unfold evV at hE
    simp only at hE
    have hm : ∀ w : World, (Go.method 190 64 (.agg #[]) "loop.example/g00498/impl.event").run Tryd.prog w = .ok (55, .agg #[]) w := fun _ => by kernel_rfl
    have HB := Lib.hid hbe2
    clear hQ hP hbe2
    · obtain rfl : R = P := hRR
      go_wp2_with fail
      refine wp_region_held_drew (S := SS w.heap.size 7 f b l t c p) (by kernel_rfl) ⟨e0, e1, e2, e3, e4, e5, e6⟩ ?_
      intro hH
      refine wpAnyH_take (i := 0) (v := .iface 64 (.agg #[])) rfl (by kernel_rfl) (by kernel_rfl) (by kernel_rfl) (fun _ _ _ h => h) (Or.inl ⟨by kernel_rfl, ?_⟩) hH ?_
      · (intro wv hSw; (try simp only [FS, FS2] at hSw); (try unfold SS at hSw); (try unfold SR at hSw); go_split_ands; go_simp)
      try simp only [List.getElem_toArray, List.getElem_cons_succ, List.getElem_cons_zero, Act.put, List.setIfInBounds_toArray, List.set_cons_zero, List.set_cons_succ]
      refine wpAnyH_ready (rs := [1]) (by kernel_rfl) (by simp) ?_
      refine AllReadyH.cons rfl (fun K hK => ?_) AllReadyH.nil
      go_simp
      go_wp2_with (go_at_call 21; refine (HR.out _).mono ?_; rintro _ w3 ⟨rfl, hb3⟩)
      refine hK.out _ _ (hH.below hb3 HB.out.lt) (fun hH1 => ?_)
      clear hK K hH
      have hH := hH1
      clear hH1
      have hl3 := hl2.drew.trans (hb3.mono hl2.size)
      have hz3 : w.heap.size < w3.heap.size := Nat.lt_of_lt_of_le HB.out.lt hb3.size
      try simp only [Act.put, List.setIfInBounds_toArray, List.set_cons_zero, List.set_cons_succ]
      refine wpAnyH_take (i := 2) (v := .bool true) rfl (by kernel_rfl) (by kernel_rfl) (by kernel_rfl) (fun _ _ _ h => h) (Or.inl ⟨by kernel_rfl, ?_⟩) hH ?_
      · (intro wv hSw; (try simp only [FS, FS2] at hSw); (try unfold SS at hSw); (try unfold SR at hSw); go_split_ands; go_simp)
      try simp only [List.getElem_toArray, List.getElem_cons_succ, List.getElem_cons_zero, Act.put, List.setIfInBounds_toArray, List.set_cons_zero, List.set_cons_succ]
      refine wpAnyH_take (i := 3) (v := .iface 64 (.agg #[])) rfl (by kernel_rfl) (by kernel_rfl) (by kernel_rfl) (fun _ _ _ h => h) (Or.inl ⟨by kernel_rfl, ?_⟩) hH ?_
      · (intro wv hSw; (try simp only [FS, FS2] at hSw); (try unfold SS at hSw); (try unfold SR at hSw); go_split_ands; go_simp)
      try simp only [List.getElem_toArray, List.getElem_cons_succ, List.getElem_cons_zero, Act.put, List.setIfInBounds_toArray, List.set_cons_zero, List.set_cons_succ]
      refine wpAnyH_take (i := 5) (v := .agg #[.int .i64 7, .int .i64 f, .int .u64 b, .int .i64 l, .string t, .int .i64 c, .int .i64 p]) rfl (by kernel_rfl) (by kernel_rfl) (by kernel_rfl) (fun _ _ _ h => h) (Or.inl ⟨by kernel_rfl, ?_⟩) hH ?_
      · (intro wv hSw; (try simp only [FS, FS2] at hSw); (try unfold SS at hSw); (try unfold SR at hSw); go_split_ands; go_simp)
      try simp only [List.getElem_toArray, List.getElem_cons_succ, List.getElem_cons_zero, Act.put, List.setIfInBounds_toArray, List.set_cons_zero, List.set_cons_succ]
      refine wpAnyH_ready (rs := [4]) (by kernel_rfl) (by simp) ?_
      refine AllReadyH.cons rfl (fun K hK => ?_) AllReadyH.nil
      go_simp
      go_wp2_with (go_at_call 55; refine (HE.out _).mono ?_; rintro _ w4 ⟨rfl, hb4⟩)
      refine hK.out _ _ (hH.below hb4 hz3) (fun hH1 => ?_)
      clear hK K hH
      have hH := hH1
      clear hH1
      have hl4 := hl3.trans (hb4.mono hl3.size)
      try simp only [Act.put, List.setIfInBounds_toArray, List.set_cons_zero, List.set_cons_succ]
      refine wpAnyH_take (i := 6) (v := .bool R) rfl (by kernel_rfl) (by kernel_rfl) (by kernel_rfl) (fun _ _ _ h => h) (Or.inl ⟨by kernel_rfl, ?_⟩) hH ?_
      · (intro wv hSw; (try simp only [FS, FS2] at hSw); (try unfold SS at hSw); (try unfold SR at hSw); go_split_ands; go_simp)
      try simp only [List.getElem_toArray, List.getElem_cons_succ, List.getElem_cons_zero, Act.put, List.setIfInBounds_toArray, List.set_cons_zero, List.set_cons_succ]
      refine wpAnyH_take (i := 7) (v := .bool R) rfl (by kernel_rfl) (by kernel_rfl) (by kernel_rfl) (fun _ _ _ h => h) (Or.inl ⟨by kernel_rfl, ?_⟩) hH ?_
      · (intro wv hSw; (try simp only [FS, FS2] at hSw); (try unfold SS at hSw); (try unfold SR at hSw); go_split_ands; go_simp)
      try simp only [List.getElem_toArray, List.getElem_cons_succ, List.getElem_cons_zero, Act.put, List.setIfInBounds_toArray, List.set_cons_zero, List.set_cons_succ]
      refine wpAnyH_take (i := 8) (v := .bool R) rfl (by kernel_rfl) (by kernel_rfl) (by kernel_rfl) (fun _ _ _ h => h) (Or.inl ⟨by kernel_rfl, ?_⟩) hH ?_
      · (intro wv hSw; (try simp only [FS, FS2] at hSw); (try unfold SS at hSw); (try unfold SR at hSw); go_split_ands; go_simp)
      try simp only [List.getElem_toArray, List.getElem_cons_succ, List.getElem_cons_zero, Act.put, List.setIfInBounds_toArray, List.set_cons_zero, List.set_cons_succ]
      refine wpAnyH_done (by kernel_rfl) ?_ _
      go_wp2_with fail
      go_ret
      exact ⟨rfl, hl4⟩
  · refine (kindOf8 f b l t c p _).mono ?_
    rintro _ w2 ⟨rfl, hb2⟩
    have hbe2 := hbe.below hb2 hbe.lt
    have hl2 := hl.trans (hb2.mono hl.size)
    clear hbe hl hb2
    obtain ⟨⟨e0, e1, e2, e3, e4, e5, e6⟩, _⟩ := hbe2.seven
    obtain ⟨Q, hQ⟩ : ∃ Q, decide (True) = Q := ⟨_, rfl⟩
    obtain ⟨P, hP⟩ : ∃ P, decide ((⟨8, 0, 0, 0, ⟨#[]⟩, 0, 0⟩ : Ev) = ⟨8, f, b, l, t, c, p⟩) = P := ⟨_, rfl⟩
    have hRR : R = (Q && P) := by rw [← HRR.out, okAt8, hQ, hP]
    clear HRR
    obtain rfl : Q = true := by rw [← hQ]; exact decide_eq_true trivial
    have HR := Lib.hid inRange8
    have HE := Lib.hid (event8 )
    have hE := evEq_as hP
    unfold evV at hE
    simp only at hE
    have hm : ∀ w : World, (Go.method 190 65 (.agg #[]) "loop.example/g00498/impl.event").run Tryd.prog w = .ok (56, .agg #[]) w := fun _ => by kernel_rfl
    have HB := Lib.hid hbe2
    clear hQ hP hbe2
    · obtain rfl : R = P := hRR
      go_wp2_with fail
      refine wp_region_held_drew (S := SS w.heap.size 8 f b l t c p) (by kernel_rfl) ⟨e0, e1, e2, e3, e4, e5, e6⟩ ?_
      intro hH
      refine wpAnyH_take (i := 0) (v := .iface 65 (.agg #[])) rfl (by kernel_rfl) (by kernel_rfl) (by kernel_rfl) (fun _ _ _ h => h) (Or.inl ⟨by kernel_rfl, ?_⟩) hH ?_
      · (intro wv hSw; (try simp only [FS, FS2] at hSw); (try unfold SS at hSw); (try unfold SR at hSw); go_split_ands; go_simp)
      try simp only [List.getElem_toArray, List.getElem_cons_succ, List.getElem_cons_zero, Act.put, List.setIfInBounds_toArray, List.set_cons_zero, List.set_cons_succ]
      refine wpAnyH_ready (rs := [1]) (by kernel_rfl) (by simp) ?_
      refine AllReadyH.cons rfl (fun K hK => ?_) AllReadyH.nil
      go_simp
      go_wp2_with (go_at_call 21; refine (HR.out _).mono ?_; rintro _ w3 ⟨rfl, hb3⟩)
      refine hK.out _ _ (hH.below hb3 HB.out.lt) (fun hH1 => ?_)
      clear hK K hH
      have hH := hH1
      clear hH1
      have hl3 := hl2.drew.trans (hb3.mono hl2.size)
      have hz3 : w.heap.size < w3.heap.size := Nat.lt_of_lt_of_le HB.out.lt hb3.size
      try simp only [Act.put, List.setIfInBounds_toArray, List.set_cons_zero, List.set_cons_succ]
      refine wpAnyH_take (i := 2) (v := .bool true) rfl (by kernel_rfl) (by kernel_rfl) (by kernel_rfl) (fun _ _ _ h => h) (Or.inl ⟨by kernel_rfl, ?_⟩) hH ?_
      · (intro wv hSw; (try simp only [FS, FS2] at hSw); (try unfold SS at hSw); (try unfold SR at hSw); go_split_ands; go_simp)
      try simp only [List.getElem_toArray, List.getElem_cons_succ, List.getElem_cons_zero, Act.put, List.setIfInBounds_toArray, List.set_cons_zero, List.set_cons_succ]
      refine wpAnyH_take (i := 3) (v := .iface 65 (.agg #[])) rfl (by kernel_rfl) (by kernel_rfl) (by kernel_rfl) (fun _ _ _ h => h) (Or.inl ⟨by kernel_rfl, ?_⟩) hH ?_
      · (intro wv hSw; (try simp only [FS, FS2] at hSw); (try unfold SS at hSw); (try unfold SR at hSw); go_split_ands; go_simp)
      try simp only [List.getElem_toArray, List.getElem_cons_succ, List.getElem_cons_zero, Act.put, List.setIfInBounds_toArray, List.set_cons_zero, List.set_cons_succ]
      refine wpAnyH_take (i := 5) (v := .agg #[.int .i64 8, .int .i64 f, .int .u64 b, .int .i64 l, .string t, .int .i64 c, .int .i64 p]) rfl (by kernel_rfl) (by kernel_rfl) (by kernel_rfl) (fun _ _ _ h => h) (Or.inl ⟨by kernel_rfl, ?_⟩) hH ?_
      · (intro wv hSw; (try simp only [FS, FS2] at hSw); (try unfold SS at hSw); (try unfold SR at hSw); go_split_ands; go_simp)
      try simp only [List.getElem_toArray, List.getElem_cons_succ, List.getElem_cons_zero, Act.put, List.setIfInBounds_toArray, List.set_cons_zero, List.set_cons_succ]
      refine wpAnyH_ready (rs := [4]) (by kernel_rfl) (by simp) ?_
      refine AllReadyH.cons rfl (fun K hK => ?_) AllReadyH.nil
      go_simp
      go_wp2_with (go_at_call 56; refine (HE.out _).mono ?_; rintro _ w4 ⟨rfl, hb4⟩)
      refine hK.out _ _ (hH.below hb4 hz3) (fun hH1 => ?_)
      clear hK K hH
      have hH := hH1
      clear hH1
      have hl4 := hl3.trans (hb4.mono hl3.size)
      try simp only [Act.put, List.setIfInBounds_toArray, List.set_cons_zero, List.set_cons_succ]
      refine wpAnyH_take (i := 6) (v := .bool R) rfl (by kernel_rfl) (by kernel_rfl) (by kernel_rfl) (fun _ _ _ h => h) (Or.inl ⟨by kernel_rfl, ?_⟩) hH ?_
      · (intro wv hSw; (try simp only [FS, FS2] at hSw); (try unfold SS at hSw); (try unfold SR at hSw); go_split_ands; go_simp)
      try simp only [List.getElem_toArray, List.getElem_cons_succ, List.getElem_cons_zero, Act.put, List.setIfInBounds_toArray, List.set_cons_zero, List.set_cons_succ]
      refine wpAnyH_take (i := 7) (v := .bool R) rfl (by kernel_rfl) (by kernel_rfl) (by kernel_rfl) (fun _ _ _ h => h) (Or.inl ⟨by kernel_rfl, ?_⟩) hH ?_
      · (intro wv hSw; (try simp only [FS, FS2] at hSw); (try unfold SS at hSw); (try unfold SR at hSw); go_split_ands; go_simp)
      try simp only [List.getElem_toArray, List.getElem_cons_succ, List.getElem_cons_zero, Act.put, List.setIfInBounds_toArray, List.set_cons_zero, List.set_cons_succ]
      refine wpAnyH_take (i := 8) (v := .bool R) rfl (by kernel_rfl) (by kernel_rfl) (by kernel_rfl) (fun _ _ _ h => h) (Or.inl ⟨by kernel_rfl, ?_⟩) hH ?_
      · (intro wv hSw; (try simp only [FS, FS2] at hSw); (try unfold SS at hSw); (try unfold SR at hSw); go_split_ands; go_simp)
      try simp only [List.getElem_toArray, List.getElem_cons_succ, List.getElem_cons_zero, Act.put, List.setIfInBounds_toArray, List.set_cons_zero, List.set_cons_succ]
      refine wpAnyH_done (by kernel_rfl) ?_ _
      go_wp2_with fail
      go_ret
      exact ⟨rfl, hl4⟩
  · refine (kindOf9 f b l t c p _).mono ?_
    rintro _ w2 ⟨rfl, hb2⟩
    have hbe2 := hbe.below hb2 hbe.lt
    have hl2 := hl.trans (hb2.mono hl.size)
    clear hbe hl hb2
    obtain ⟨⟨e0, e1, e2, e3, e4, e5, e6⟩, _⟩ := hbe2.seven
    obtain ⟨Q, hQ⟩ : ∃ Q, decide (0 ≤ p) = Q := ⟨_, rfl⟩
    obtain ⟨P, hP⟩ : ∃ P, decide ((⟨9, 0, 0, 0, ⟨#[]⟩, 0, p⟩ : Ev) = ⟨9, f, b, l, t, c, p⟩) = P := ⟨_, rfl⟩
    have hRR : R = (Q && P) := by rw [← HRR.out, okAt9, hQ, hP]
    clear HRR
    have HR := Lib.hid (inRange9 p Q hQ)
    have HE := Lib.hid (event9 p)
    have hE := evEq_as hP
    unfold evV at hE
    simp only at hE
    have hm : ∀ w : World, (Go.method 190 67 (.agg #[.int .i64 p]) "loop.example/g00498/impl.event").run Tryd.prog w = .ok (57, .agg #[.int .i64 p]) w := fun _ => by kernel_rfl
    have HB := Lib.hid hbe2
    clear hQ hP hbe2
    cases Q with
    | true =>
      obtain rfl : R = P := hRR
      go_wp2_with fail
      refine wp_region_held_drew (S := SS w.heap.size 9 f b l t c p) (by kernel_rfl) ⟨e0, e1, e2, e3, e4, e5, e6⟩ ?_
      intro hH
      refine wpAnyH_take (i := 0) (v := .iface 67 (.agg #[.int .i64 p])) rfl (by kernel_rfl) (by kernel_rfl) (by kernel_rfl) (fun _ _ _ h => h) (Or.inl ⟨by kernel_rfl, ?_⟩) hH ?_
      · (intro wv hSw; (try simp only [FS, FS2] at hSw); (try unfold SS at hSw); (try unfold SR at hSw); go_split_ands; go_simp)
      try simp only [List.getElem_toArray, List.getElem_cons_succ, List.getElem_cons_zero, Act.put, List.setIfInBounds_toArray, List.set_cons_zero, List.set_cons_succ]
      refine wpAnyH_ready (rs := [1]) (by kernel_rfl) (by simp) ?_
      refine AllReadyH.cons rfl (fun K hK => ?_) AllReadyH.nil
      go_simp
      go_wp2_with (go_at_call 21; refine (HR.out _).mono ?_; rintro _ w3 ⟨rfl, hb3⟩)
      refine hK.out _ _ (hH.below hb3 HB.out.lt) (fun hH1 => ?_)
      clear hK K hH
      have hH := hH1
      clear hH1
      have hl3 := hl2.drew.trans (hb3.mono hl2.size)
      have hz3 : w.heap.size < w3.heap.size := Nat.lt_of_lt_of_le HB.out.lt hb3.size
      try simp only [Act.put, List.setIfInBounds_toArray, List.set_cons_zero, List.set_cons_succ]
      refine wpAnyH_take (i := 2) (v := .bool true) rfl (by kernel_rfl) (by kernel_rfl) (by kernel_rfl) (fun _ _ _ h => h) (Or.inl ⟨by kernel_rfl, ?_⟩) hH ?_
      · (intro wv hSw; (try simp only [FS, FS2] at hSw); (try unfold SS at hSw); (try unfold SR at hSw); go_split_ands; go_simp)
      try simp only [List.getElem_toArray, List.getElem_cons_succ, List.getElem_cons_zero, Act.put, List.setIfInBounds_toArray, List.set_cons_zero, List.set_cons_succ]
      refine wpAnyH_take (i := 3) (v := .iface 67 (.agg #[.int .i64 p])) rfl (by kernel_rfl) (by kernel_rfl) (by kernel_rfl) (fun _ _ _ h => h) (Or.inl ⟨by kernel_rfl, ?_⟩) hH ?_
      · (intro wv hSw; (try simp only [FS, FS2] at hSw); (try unfold SS at hSw); (try unfold SR at hSw); go_split_ands; go_simp)
      try simp only [List.getElem_toArray, List.getElem_cons_succ, List.getElem_cons_zero, Act.put, List.setIfInBounds_toArray, List.set_cons_zero, List.set_cons_succ]
      refine wpAnyH_take (i := 5) (v := .agg #[.int .i64 9, .int .i64 f, .int .u64 b, .int .i64 l, .string t, .int .i64 c, .int .i64 p]) rfl (by kernel_rfl) (by kernel_rfl) (by kernel_rfl) (fun _ _ _ h => h) (Or.inl ⟨by kernel_rfl, ?_⟩) hH ?_
      · (intro wv hSw; (try simp only [FS, FS2] at hSw); (try unfold SS at hSw); (try unfold SR at hSw); go_split_ands; go_simp)
      try simp only [List.getElem_toArray, List.getElem_cons_succ, List.getElem_cons_zero, Act.put, List.setIfInBounds_toArray, List.set_cons_zero, List.set_cons_succ]
      refine wpAnyH_ready (rs := [4]) (by kernel_rfl) (by simp) ?_
      refine AllReadyH.cons rfl (fun K hK => ?_) AllReadyH.nil
      go_simp
      go_wp2_with (go_at_call 57; refine (HE.out _).mono ?_; rintro _ w4 ⟨rfl, hb4⟩)
      refine hK.out _ _ (hH.below hb4 hz3) (fun hH1 => ?_)
      clear hK K hH
      have hH := hH1
      clear hH1
      have hl4 := hl3.trans (hb4.mono hl3.size)
      try simp only [Act.put, List.setIfInBounds_toArray, List.set_cons_zero, List.set_cons_succ]
      refine wpAnyH_take (i := 6) (v := .bool R) rfl (by kernel_rfl) (by kernel_rfl) (by kernel_rfl) (fun _ _ _ h => h) (Or.inl ⟨by kernel_rfl, ?_⟩) hH ?_
      · (intro wv hSw; (try simp only [FS, FS2] at hSw); (try unfold SS at hSw); (try unfold SR at hSw); go_split_ands; go_simp)
      try simp only [List.getElem_toArray, List.getElem_cons_succ, List.getElem_cons_zero, Act.put, List.setIfInBounds_toArray, List.set_cons_zero, List.set_cons_succ]
      refine wpAnyH_take (i := 7) (v := .bool R) rfl (by kernel_rfl) (by kernel_rfl) (by kernel_rfl) (fun _ _ _ h => h) (Or.inl ⟨by kernel_rfl, ?_⟩) hH ?_
      · (intro wv hSw; (try simp only [FS, FS2] at hSw); (try unfold SS at hSw); (try unfold SR at hSw); go_split_ands; go_simp)
      try simp only [List.getElem_toArray, List.getElem_cons_succ, List.getElem_cons_zero, Act.put, List.setIfInBounds_toArray, List.set_cons_zero, List.set_cons_succ]
      refine wpAnyH_take (i := 8) (v := .bool R) rfl (by kernel_rfl) (by kernel_rfl) (by kernel_rfl) (fun _ _ _ h => h) (Or.inl ⟨by kernel_rfl, ?_⟩) hH ?_
      · (intro wv hSw; (try simp only [FS, FS2] at hSw); (try unfold SS at hSw); (try unfold SR at hSw); go_split_ands; go_simp)
      try simp only [List.getElem_toArray, List.getElem_cons_succ, List.getElem_cons_zero, Act.put, List.setIfInBounds_toArray, List.set_cons_zero, List.set_cons_succ]
      refine wpAnyH_done (by kernel_rfl) ?_ _
      go_wp2_with fail
      go_ret
      exact ⟨rfl, hl4⟩
    | false =>
      obtain rfl : R = false := hRR
      go_wp2_with fail
      refine wp_region_held_drew (S := SS w.heap.size 9 f b l t c p) (by kernel_rfl) ⟨e0, e1, e2, e3, e4, e5, e6⟩ ?_
      intro hH
      refine wpAnyH_take (i := 0) (v := .iface 67 (.agg #[.int .i64 p])) rfl (by kernel_rfl) (by kernel_rfl) (by kernel_rfl) (fun _ _ _ h => h) (Or.inl ⟨by kernel_rfl, ?_⟩) hH ?_
      · (intro wv hSw; (try simp only [FS, FS2] at hSw); (try unfold SS at hSw); (try unfold SR at hSw); go_split_ands; go_simp)
      try simp only [List.getElem_toArray, List.getElem_cons_succ, List.getElem_cons_zero, Act.put, List.setIfInBounds_toArray, List.set_cons_zero, List.set_cons_succ]
      refine wpAnyH_ready (rs := [1]) (by kernel_rfl) (by simp) ?_
      refine AllReadyH.cons rfl (fun K hK => ?_) AllReadyH.nil
      go_simp
      go_wp2_with (go_at_call 21; refine (HR.out _).mono ?_; rintro _ w3 ⟨rfl, hb3⟩)
      refine hK.out _ _ (hH.below hb3 HB.out.lt) (fun hH1 => ?_)
      clear hK K hH
      have hH := hH1
      clear hH1
      have hl3 := hl2.drew.trans (hb3.mono hl2.size)
      have hz3 : w.heap.size < w3.heap.size := Nat.lt_of_lt_of_le HB.out.lt hb3.size
      try simp only [Act.put, List.setIfInBounds_toArray, List.set_cons_zero, List.set_cons_succ]
      refine wpAnyH_take (i := 2) (v := .bool false) rfl (by kernel_rfl) (by kernel_rfl) (by kernel_rfl) (fun _ _ _ h => h) (Or.inl ⟨by kernel_rfl, ?_⟩) hH ?_
      · (intro wv hSw; (try simp only [FS, FS2] at hSw); (try unfold SS at hSw); (try unfold SR at hSw); go_split_ands; go_simp)
      try simp only [List.getElem_toArray, List.getElem_cons_succ, List.getElem_cons_zero, Act.put, List.setIfInBounds_toArray, List.set_cons_zero, List.set_cons_succ]
      refine wpAnyH_take (i := 3) (v := undef) rfl (by kernel_rfl) (by kernel_rfl) (by kernel_rfl) (fun _ _ _ h => h) (Or.inr ⟨by kernel_rfl, rfl⟩) hH ?_
      try simp only [List.getElem_toArray, List.getElem_cons_succ, List.getElem_cons_zero, Act.put, List.setIfInBounds_toArray, List.set_cons_zero, List.set_cons_succ]
      refine wpAnyH_take (i := 4) (v := undef) rfl (by kernel_rfl) (by kernel_rfl) (by kernel_rfl) (fun _ _ _ h => h) (Or.inr ⟨by kernel_rfl, rfl⟩) hH ?_
      try simp only [List.getElem_toArray, List.getElem_cons_succ, List.getElem_cons_zero, Act.put, List.setIfInBounds_toArray, List.set_cons_zero, List.set_cons_succ]
      refine wpAnyH_take (i := 5) (v := undef) rfl (by kernel_rfl) (by kernel_rfl) (by kernel_rfl) (fun _ _ _ h => h) (Or.inr ⟨by kernel_rfl, rfl⟩) hH ?_
      try simp only [List.getElem_toArray, List.getElem_cons_succ, List.getElem_cons_zero, Act.put, List.setIfInBounds_toArray, List.set_cons_zero, List.set_cons_succ]
      refine wpAnyH_take (i := 6) (v := undef) rfl (by kernel_rfl) (by kernel_rfl) (by kernel_rfl) (fun _ _ _ h => h) (Or.inr ⟨by kernel_rfl, rfl⟩) hH ?_
      try simp only [List.getElem_toArray, List.getElem_cons_succ, List.getElem_cons_zero, Act.put, List.setIfInBounds_toArray, List.set_cons_zero, List.set_cons_succ]
      refine wpAnyH_take (i := 7) (v := .bool false) rfl (by kernel_rfl) (by kernel_rfl) (by kernel_rfl) (fun _ _ _ h => h) (Or.inl ⟨by kernel_rfl, ?_⟩) hH ?_
      · (intro wv hSw; (try simp only [FS, FS2] at hSw); (try unfold SS at hSw); (try unfold SR at hSw); go_split_ands; go_simp)
      try simp only [List.getElem_toArray, List.getElem_cons_succ, List.getElem_cons_zero, Act.put, List.setIfInBounds_toArray, List.set_cons_zero, List.set_cons_succ]
      refine wpAnyH_take (i := 8) (v := .bool false) rfl (by kernel_rfl) (by kernel_rfl) (by kernel_rfl) (fun _ _ _ h => h) (Or.inl ⟨by kernel_rfl, ?_⟩) hH ?_
      · (intro wv hSw; (try simp only [FS, FS2] at hSw); (try unfold SS at hSw); (try unfold SR at hSw); go_split_ands; go_simp)
      try simp only [List.getElem_toArray, List.getElem_cons_succ, List.getElem_cons_zero, Act.put, List.setIfInBounds_toArray, List.set_cons_zero, List.set_cons_succ]
      refine wpAnyH_done (by kernel_rfl) ?_ _
      go_wp2_with fail
      go_ret
      exact ⟨rfl, hl3⟩
  · refine (kindOf10 f b l t c p _).mono ?_
    rintro _ w2 ⟨rfl, hb2⟩
    have hbe2 := hbe.below hb2 hbe.lt
    have hl2 := hl.trans (hb2.mono hl.size)
    clear hbe hl hb2
    obtain ⟨⟨e0, e1, e2, e3, e4, e5, e6⟩, _⟩ := hbe2.seven
    obtain ⟨Q, hQ⟩ : ∃ Q, decide (1 ≤ c ∧ 0 ≤ p) = Q := ⟨_, rfl⟩
    obtain ⟨P, hP⟩ : ∃ P, decide ((⟨10, 0, 0, 0, ⟨#[]⟩, c, p⟩ : Ev) = ⟨10, f, b, l, t, c, p⟩) = P := ⟨_, rfl⟩
    have hRR : R = (Q && P) := by rw [← HRR.out, okAt10, hQ, hP]
    clear HRR
    have HR := Lib.hid (inRange10 c p Q hQ)
    have HE := Lib.hid (event10 c p)
    have hE := evEq_as hP
    unfold evV at hE
    simp only at hE
    have hm : ∀ w : World, (Go.method 190 69 (.agg #[.int .i64 c, .int .i64 p]) "loop.example/g00498/impl.event").run Tryd.prog w = .ok (58, .agg #[.int .i64 c, .int .i64 p]) w := fun _ => by kernel_rfl
    have HB := Lib.hid hbe2
    clear hQ hP hbe2
    cases Q with
    | true =>
      obtain rfl : R = P := hRR
      go_wp2_with fail
      refine wp_region_held_drew (S := SS w.heap.size 10 f b l t c p) (by kernel_rfl) ⟨e0, e1, e2, e3, e4, e5, e6⟩ ?_
      intro hH
      refine wpAnyH_take (i := 0) (v := .iface 69 (.agg #[.int .i64 c, .int .i64 p])) rfl (by kernel_rfl) (by kernel_rfl) (by kernel_rfl) (fun _ _ _ h => h) (Or.inl ⟨by kernel_rfl, ?_⟩) hH ?_
      · (intro wv hSw; (try simp only [FS, FS2] at hSw); (try unfold SS at hSw); (try unfold SR at hSw); go_split_ands; go_simp)
      try simp only [List.getElem_toArray, List.getElem_cons_succ, List.getElem_cons_zero, Act.put, List.setIfInBounds_toArray, List.set_cons_zero, List.set_cons_succ]
      refine wpAnyH_ready (rs := [1]) (by kernel_rfl) (by simp) ?_
      refine AllReadyH.cons rfl (fun K hK => ?_) AllReadyH.nil
      go_simp
      go_wp2_with (go_at_call 21; refine (HR.out _).mono ?_; rintro _ w3 ⟨rfl, hb3⟩)
      refine hK.out _ _ (hH.below hb3 HB.out.lt) (fun hH1 => ?_)
      clear hK K hH
      have hH := hH1
      clear hH1
      have hl3 := hl2.drew.trans (hb3.mono hl2.size)
      have hz3 : w.heap.size < w3.heap.size := Nat.lt_of_lt_of_le HB.out.lt hb3.size
      try simp only [Act.put, List.setIfInBounds_toArray, List.set_cons_zero, List.set_cons_succ]
      refine wpAnyH_take (i := 2) (v := .bool true) rfl (by kernel_rfl) (by kernel_rfl) (by kernel_rfl) (fun _ _ _ h => h) (Or.inl ⟨by kernel_rfl, ?_⟩) hH ?_
      · (intro wv hSw; (try simp only [FS, FS2] at hSw); (try unfold SS at hSw); (try unfold SR at hSw); go_split_ands; go_simp)
      try simp only [List.getElem_toArray, List.getElem_cons_succ, List.getElem_cons_zero, Act.put, List.setIfInBounds_toArray, List.set_cons_zero, List.set_cons_succ]
      refine wpAnyH_take (i := 3) (v := .iface 69 (.agg #[.int .i64 c, .int .i64 p])) rfl (by kernel_rfl) (by kernel_rfl) (by kernel_rfl) (fun _ _ _ h => h) (Or.inl ⟨by kernel_rfl, ?_⟩) hH ?_
      · (intro wv hSw; (try simp only [FS, FS2] at hSw); (try unfold SS at hSw); (try unfold SR at hSw); go_split_ands; go_simp)
      try simp only [List.getElem_toArray, List.getElem_cons_succ, List.getElem_cons_zero, Act.put, List.setIfInBounds_toArray, List.set_cons_zero, List.set_cons_succ]
      refine wpAnyH_take (i := 5) (v := .agg #[.int .i64 10, .int .i64 f, .int .u64 b, .int .i64 l, .string t, .int .i64 c, .int .i64 p]) rfl (by kernel_rfl) (by kernel_rfl) (by kernel_rfl) (fun _ _ _ h => h) (Or.inl ⟨by kernel_rfl, ?_⟩) hH ?_
      · (intro wv hSw; (try simp only [FS, FS2] at hSw); (try unfold SS at hSw); (try unfold SR at hSw); go_split_ands; go_simp)
      try simp only [List.getElem_toArray, List.getElem_cons_succ, List.getElem_cons_zero, Act.put, List.setIfInBounds_toArray, List.set_cons_zero, List.set_cons_succ]
      refine wpAnyH_ready (rs := [4]) (by kernel_rfl) (by simp) ?_
      refine AllReadyH.cons rfl (fun K hK => ?_) AllReadyH.nil
      go_simp
      go_wp2_with (go_at_call 58; refine (HE.out _).mono ?_; rintro _ w4 ⟨rfl, hb4⟩)
      refine hK.out _ _ (hH.below hb4 hz3) (fun hH1 => ?_)
      clear hK K hH
      have hH := hH1
      clear hH1
      have hl4 := hl3.trans (hb4.mono hl3.size)
      try simp only [Act.put, List.setIfInBounds_toArray, List.set_cons_zero, List.set_cons_succ]
      refine wpAnyH_take (i := 6) (v := .bool R) rfl (by kernel_rfl) (by kernel_rfl) (by kernel_rfl) (fun _ _ _ h => h) (Or.inl ⟨by kernel_rfl, ?_⟩) hH ?_
      · (intro wv hSw; (try simp only [FS, FS2] at hSw); (try unfold SS at hSw); (try unfold SR at hSw); go_split_ands; go_simp)
      try simp only [List.getElem_toArray, List.getElem_cons_succ, List.getElem_cons_zero, Act.put, List.setIfInBounds_toArray, List.set_cons_zero, List.set_cons_succ]
      refine wpAnyH_take (i := 7) (v := .bool R) rfl (by kernel_rfl) (by kernel_rfl) (by kernel_rfl) (fun _ _ _ h => h) (Or.inl ⟨by kernel_rfl, ?_⟩) hH ?_
      · (intro wv hSw; (try simp only [FS, FS2] at hSw); (try unfold SS at hSw); (try unfold SR at hSw); go_split_ands; go_simp)
      try simp only [List.getElem_toArray, List.getElem_cons_succ, List.getElem_cons_zero, Act.put, List.setIfInBounds_toArray, List.set_cons_zero, List.set_cons_succ]
      refine wpAnyH_take (i := 8) (v := .bool R) rfl (by kernel_rfl) (by kernel_rfl) (by kernel_rfl) (fun _ _ _ h => h) (Or.inl ⟨by kernel_rfl, ?_⟩) hH ?_
      · (intro wv hSw; (try simp only [FS, FS2] at hSw); (try unfold SS at hSw); (try unfold SR at hSw); go_split_ands; go_simp)
      try simp only [List.getElem_toArray, List.getElem_cons_succ, List.getElem_cons_zero, Act.put, List.setIfInBounds_toArray, List.set_cons_zero, List.set_cons_succ]
      refine wpAnyH_done (by kernel_rfl) ?_ _
      go_wp2_with fail
      go_ret
      exact ⟨rfl, hl4⟩
    | false =>
      obtain rfl : R = false := hRR
      go_wp2_with fail
      refine wp_region_held_drew (S := SS w.heap.size 10 f b l t c p) (by kernel_rfl) ⟨e0, e1, e2, e3, e4, e5, e6⟩ ?_
      intro hH
      refine wpAnyH_take (i := 0) (v := .iface 69 (.agg #[.int .i64 c, .int .i64 p])) rfl (by kernel_rfl) (by kernel_rfl) (by kernel_rfl) (fun _ _ _ h => h) (Or.inl ⟨by kernel_rfl, ?_⟩) hH ?_
      · (intro wv hSw; (try simp only [FS, FS2] at hSw); (try unfold SS at hSw); (try unfold SR at hSw); go_split_ands; go_simp)
      try simp only [List.getElem_toArray, List.getElem_cons_succ, List.getElem_cons_zero, Act.put, List.setIfInBounds_toArray, List.set_cons_zero, List.set_cons_succ]
      refine wpAnyH_ready (rs := [1]) (by kernel_rfl) (by simp) ?_
      refine AllReadyH.cons rfl (fun K hK => ?_) AllReadyH.nil
      go_simp
      go_wp2_with (go_at_call 21; refine (HR.out _).mono ?_; rintro _ w3 ⟨rfl, hb3⟩)
      refine hK.out _ _ (hH.below hb3 HB.out.lt) (fun hH1 => ?_)
      clear hK K hH
      have hH := hH1
      clear hH1
      have hl3 := hl2.drew.trans (hb3.mono hl2.size)
      have hz3 : w.heap.size < w3.heap.size := Nat.lt_of_lt_of_le HB.out.lt hb3.size
      try simp only [Act.put, List.setIfInBounds_toArray, List.set_cons_zero, List.set_cons_succ]
      refine wpAnyH_take (i := 2) (v := .bool false) rfl (by kernel_rfl) (by kernel_rfl) (by kernel_rfl) (fun _ _ _ h => h) (Or.inl ⟨by kernel_rfl, ?_⟩) hH ?_
      · (intro wv hSw; (try simp only [FS, FS2] at hSw); (try unfold SS at hSw); (try unfold SR at hSw); go_split_ands; go_simp)
      try simp only [List.getElem_toArray, List.getElem_cons_succ, List.getElem_cons_zero, Act.put, List.setIfInBounds_toArray, List.set_cons_zero, List.set_cons_succ]
      refine wpAnyH_take (i := 3) (v := undef) rfl (by kernel_rfl) (by kernel_rfl) (by kernel_rfl) (fun _ _ _ h => h) (Or.inr ⟨by kernel_rfl, rfl⟩) hH ?_
      try simp only [List.getElem_toArray, List.getElem_cons_succ, List.getElem_cons_zero, Act.put, List.setIfInBounds_toArray, List.set_cons_zero, List.set_cons_succ]
      refine wpAnyH_take (i := 4) (v := undef) rfl (by kernel_rfl) (by kernel_rfl) (by kernel_rfl) (fun _ _ _ h => h) (Or.inr ⟨by kernel_rfl, rfl⟩) hH ?_
      try simp only [List.getElem_toArray, List.getElem_cons_succ, List.getElem_cons_zero, Act.put, List.setIfInBounds_toArray, List.set_cons_zero, List.set_cons_succ]
      refine wpAnyH_take (i := 5) (v := undef) rfl (by kernel_rfl) (by kernel_rfl) (by kernel_rfl) (fun _ _ _ h => h) (Or.inr ⟨by kernel_rfl, rfl⟩) hH ?_
      try simp only [List.getElem_toArray, List.getElem_cons_succ, List.getElem_cons_zero, Act.put, List.setIfInBounds_toArray, List.set_cons_zero, List.set_cons_succ]
      refine wpAnyH_take (i := 6) (v := undef) rfl (by kernel_rfl) (by kernel_rfl) (by kernel_rfl) (fun _ _ _ h => h) (Or.inr ⟨by kernel_rfl, rfl⟩) hH ?_
      try simp only [List.getElem_toArray, List.getElem_cons_succ, List.getElem_cons_zero, Act.put, List.setIfInBounds_toArray, List.set_cons_zero, List.set_cons_succ]
      refine wpAnyH_take (i := 7) (v := .bool false) rfl (by kernel_rfl) (by kernel_rfl) (by kernel_rfl) (fun _ _ _ h => h) (Or.inl ⟨by kernel_rfl, ?_⟩) hH ?_
      · (intro wv hSw; (try simp only [FS, FS2] at hSw); (try unfold SS at hSw); (try unfold SR at hSw); go_split_ands; go_simp)
      try simp only [List.getElem_toArray, List.getElem_cons_succ, List.getElem_cons_zero, Act.put, List.setIfInBounds_toArray, List.set_cons_zero, List.set_cons_succ]
      refine wpAnyH_take (i := 8) (v := .bool false) rfl (by kernel_rfl) (by kernel_rfl) (by kernel_rfl) (fun _ _ _ h => h) (Or.inl ⟨by kernel_rfl, ?_⟩) hH ?_
      · (intro wv hSw; (try simp only [FS, FS2] at hSw); (try unfold SS at hSw); (try unfold SR at hSw); go_split_ands; go_simp)
      try simp only [List.getElem_toArray, List.getElem_cons_succ, List.getElem_cons_zero, Act.put, List.setIfInBounds_toArray, List.set_cons_zero, List.set_cons_succ]
      refine wpAnyH_done (by kernel_rfl) ?_ _
      go_wp2_with fail
      go_ret
      exact ⟨rfl, hl3⟩
  · have hno : evOkB ⟨k, f, b, l, t, c, p⟩ = false := evOk_no fun h => by have := h.2.1; simp only at this; omega
    obtain rfl : R = false := HRR.out.symm.trans hno
    clear HRR
    refine (kindOf0 k f b l t c p hk _).mono ?_
    rintro _ w2 ⟨rfl, hb2⟩
    have hl2 := hl.trans (hb2.mono hl.size)
    have HB := Lib.hid (hbe.below hb2 hbe.lt)
    clear hbe hl hb2 hno hk
    go_wp2_with fail
    obtain ⟨⟨e0, e1, e2, e3, e4, e5, e6⟩, _⟩ := HB.out.seven
    refine wp_region_held_drew (S := SS w.heap.size k f b l t c p) (by kernel_rfl) ⟨e0, e1, e2, e3, e4, e5, e6⟩ ?_
    intro hH
    refine wpAnyH_take (i := 0) (v := .nilIface) rfl (by kernel_rfl) (by kernel_rfl) (by kernel_rfl) (fun _ _ _ h => h) (Or.inl ⟨by kernel_rfl, ?_⟩) hH ?_
    · (intro wv hSw; (try simp only [FS, FS2] at hSw); (try unfold SS at hSw); (try unfold SR at hSw); go_split_ands; go_simp)
    try simp only [List.getElem_toArray, List.getElem_cons_succ, List.getElem_cons_zero, Act.put, List.setIfInBounds_toArray, List.set_cons_zero, List.set_cons_succ]
    refine wpAnyH_ready (rs := [1]) (by kernel_rfl) (by simp) ?_
    refine AllReadyH.cons rfl (fun K hK => ?_) AllReadyH.nil
    go_simp
    go_wp2_with (go_at_call 21; refine (inRange0 _).mono ?_; rintro _ w3 ⟨rfl, hb3⟩)
    refine hK.out _ _ (hH.below hb3 HB.out.lt) (fun hH1 => ?_)
    clear hK K hH
    have hH := hH1
    clear hH1
    have hl3 := hl2.drew.trans (hb3.mono hl2.size)
    try simp only [Act.put, List.setIfInBounds_toArray, List.set_cons_zero, List.set_cons_succ]
    refine wpAnyH_take (i := 2) (v := .bool false) rfl (by kernel_rfl) (by kernel_rfl) (by kernel_rfl) (fun _ _ _ h => h) (Or.inl ⟨by kernel_rfl, ?_⟩) hH ?_
    · (intro wv hSw; (try simp only [FS, FS2] at hSw); (try unfold SS at hSw); (try unfold SR at hSw); go_split_ands; go_simp)
    try simp only [List.getElem_toArray, List.getElem_cons_succ, List.getElem_cons_zero, Act.put, List.setIfInBounds_toArray, List.set_cons_zero, List.set_cons_succ]
    refine wpAnyH_take (i := 3) (v := undef) rfl (by kernel_rfl) (by kernel_rfl) (by kernel_rfl) (fun _ _ _ h => h) (Or.inr ⟨by kernel_rfl, rfl⟩) hH ?_
    try simp only [List.getElem_toArray, List.getElem_cons_succ, List.getElem_cons_zero, Act.put, List.setIfInBounds_toArray, List.set_cons_zero, List.set_cons_succ]
    refine wpAnyH_take (i := 4) (v := undef) rfl (by kernel_rfl) (by kernel_rfl) (by kernel_rfl) (fun _ _ _ h => h) (Or.inr ⟨by kernel_rfl, rfl⟩) hH ?_
    try simp only [List.getElem_toArray, List.getElem_cons_succ, List.getElem_cons_zero, Act.put, List.setIfInBounds_toArray, List.set_cons_zero, List.set_cons_succ]
    refine wpAnyH_take (i := 5) (v := undef) rfl (by kernel_rfl) (by kernel_rfl) (by kernel_rfl) (fun _ _ _ h => h) (Or.inr ⟨by kernel_rfl, rfl⟩) hH ?_
    try simp only [List.getElem_toArray, List.getElem_cons_succ, List.getElem_cons_zero, Act.put, List.setIfInBounds_toArray, List.set_cons_zero, List.set_cons_succ]
    refine wpAnyH_take (i := 6) (v := undef) rfl (by kernel_rfl) (by kernel_rfl) (by kernel_rfl) (fun _ _ _ h => h) (Or.inr ⟨by kernel_rfl, rfl⟩) hH ?_
    try simp only [List.getElem_toArray, List.getElem_cons_succ, List.getElem_cons_zero, Act.put, List.setIfInBounds_toArray, List.set_cons_zero, List.set_cons_succ]
    refine wpAnyH_take (i := 7) (v := .bool false) rfl (by kernel_rfl) (by kernel_rfl) (by kernel_rfl) (fun _ _ _ h => h) (Or.inl ⟨by kernel_rfl, ?_⟩) hH ?_
    · (intro wv hSw; (try simp only [FS, FS2] at hSw); (try unfold SS at hSw); (try unfold SR at hSw); go_split_ands; go_simp)
    try simp only [List.getElem_toArray, List.getElem_cons_succ, List.getElem_cons_zero, Act.put, List.setIfInBounds_toArray, List.set_cons_zero, List.set_cons_succ]
    refine wpAnyH_take (i := 8) (v := .bool false) rfl (by kernel_rfl) (by kernel_rfl) (by kernel_rfl) (fun _ _ _ h => h) (Or.inl ⟨by kernel_rfl, ?_⟩) hH ?_
    · (intro wv hSw; (try simp only [FS, FS2] at hSw); (try unfold SS at hSw); (try unfold SR at hSw); go_split_ands; go_simp)
    try simp only [List.getElem_toArray, List.getElem_cons_succ, List.getElem_cons_zero, Act.put, List.setIfInBounds_toArray, List.set_cons_zero, List.set_cons_succ]
    refine wpAnyH_done (by kernel_rfl) ?_ _
    go_wp2_with fail
    go_ret
    exact ⟨rfl, hl3⟩
end Go.Proofs.YtbjndnpdmohjiaaDoor.Num
