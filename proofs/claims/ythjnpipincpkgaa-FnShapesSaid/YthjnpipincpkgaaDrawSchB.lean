/-
  The walk of the reference's draw of a bent schema (l8Bent): some schema that the call owns, its sizes bounded; nothing that was there is written but the cursor.
-/
import Derived.Test.YthjnpipincpkgaaDrawSch
import Derived.Test.YthjnpipincpkgaaBentSch
import Derived.Test.YthjnpipincpkgaaHeldS
import Derived.Test.YthjnpipincpkgaaDrawBent
import Derived.Deep.RegionWith
import Derived.Deep.RegionLaw
import Derived.Deep.DrawnRows
import Derived.Deep.DeepCutAuto
import Derived.Deep.RegionHeld3
namespace Go.Proofs.Ythjnpipincpkgaa.Num
open Go.RowKit Go.Proofs
set_option linter.unusedVariables false
set_option linter.unusedSimpArgs false

/-- The schema that l8Bent gives: its sizes. -/
def SchSz (ms : List OM) : Prop := 0 < ms.length ∧ ms.length ≤ 7 ∧ ∀ j (hj : j < ms.length), ms[j].2.2.length ≤ 6
theorem bs_end {w wx : World} {B g : Nat} {a : Option Addr} {len cap : Nat} {TM TF : TypeId} {u : Value} {ms : List OM} {R : Nat} (h : Bt w B g a len cap TM TF u ms R wx) (hs : SchSz ms) (x : Value) :
    ∃ (v : Value) (ms : List OM), SchSz ms ∧ Ending.returned (.agg #[u]) = .returned (.agg #[v]) ∧ OwnRaw (wx.setCell ⟨w.heap.size, 0, none⟩ x) (w.heap.size + 3) TM TF v ms ∧ Cur (wx.setCell ⟨w.heap.size, 0, none⟩ x) B g a len cap ∧ Off w.heap.size g w (wx.setCell ⟨w.heap.size, 0, none⟩ x) := by
  obtain ⟨l1, l2, l3⟩ := h.lt
  exact ⟨u, ms, hs, rfl, h.own.other _ (h.own.out (k := w.heap.size) (by omega)).1 (h.own.out (k := w.heap.size) (by omega)).2, h.cur.other (C := w.heap.size) ((Below.refl _ _).setCell (by simp) _) (by omega) (by omega), h.off.trans (Below.off ((Below.refl _ _).setCell (by simp) _))⟩
theorem bt_S {w wx : World} {B g : Nat} {a : Option Addr} {len cap : Nat} {TM TF : TypeId} {gm n capm : Nat} {ms : List OM} {R : Nat} (h : Bt w B g a len cap TM TF (.slice (some ⟨gm, 0, none⟩) n capm) ms R wx) (hn : ms.length = n) (k : Nat) (hk : k < ms.length) :
    wx.cell? ⟨R, 0, none⟩ = some (.slice (some ⟨gm, 0, none⟩) n capm) ∧ wx.cell? ⟨gm, k * 2 + 1, none⟩ = some ms[k].2.1 :=
  ⟨(h.br.2 0 (by simp)).1, (h.own.cellsAt hn k hk).2.1⟩
set_option maxHeartbeats 8000000 in
set_option maxRecDepth 100000 in
theorem l8Bent_any (B g : Nat) (a : Option Addr) (len cap : Nat) (w : World) (h : Cur w B g a len cap) (hB : B ≤ w.heap.size) (hg : g < w.heap.size) :
    Calls Try.prog 34 #[.pointer (some ⟨g, 0, none⟩)] w fun e w' => ∃ (v : Value) (ms : List OM), SchSz ms ∧ e = .returned (.agg #[v]) ∧ OwnRaw w' (w.heap.size + 3) 32 34 v ms ∧ Cur w' B g a len cap ∧ Off w.heap.size g w w' := by
  have H := Lib.hid h; clear h
  have hgB : B ≤ g := H.out.choose_spec.choose_spec.1
  obtain ⟨i0, hi, hz0, hz1, hz2⟩ : ∃ i : TypeInfo, Try.prog.info? 32 = some i ∧ i.zero = some (.agg #[.int .i64 0, .slice none 0 0]) ∧ i.size = 2 ∧ i.bytes = 32 := ⟨_, by rfl, by rfl, by rfl, by rfl⟩
  obtain ⟨j0, hj, hj0, hj1, hj2⟩ : ∃ i : TypeInfo, Try.prog.info? 34 = some i ∧ i.zero = some (.agg #[.int .i64 0, .int .i64 0, .bool false, .bool false, .int .i64 0]) ∧ i.size = 5 ∧ i.bytes = 32 := ⟨_, by rfl, by rfl, by rfl, by rfl⟩
  go_enter Try.func34, Try.ntmps34
  go_wp2_with fail
  refine (l8Right_any B g a len cap _ (H.out.other ((Below.refl w.heap.size w).alloc (Nat.le_refl _) _) (by omega) (by omega)) (by simp; omega) (by simp; omega)).mono ?_
  rintro e w1 ⟨v, ms, mr, ⟨⟨hm0, hm1, hf5⟩, _, _⟩, rfl, hown, hcur, hoff⟩
  have hown1 : OwnRaw w1 (w.heap.size + 3) 32 34 v ms := by simpa using hown
  obtain ⟨gm, capm, hv, hgm1, hgm2⟩ := World.ownsRow.form hown1.row hm0
  subst hv
  obtain ⟨R, hR⟩ : ∃ R, R = w1.heap.size := ⟨_, rfl⟩
  obtain ⟨N, hN⟩ : ∃ N, N = ms.length := ⟨_, rfl⟩
  have hS1 : Hid (Bt w B g a len cap 32 34 (.slice (some ⟨gm, 0, none⟩) ms.length capm) ms R (w1.alloc (.cells #[.slice (some ⟨gm, 0, none⟩) ms.length capm] 26))) := by
    have hbz : Box w1 w.heap.size [.slice none 0 0] := Box.offAt hoff (Box.fresh w _ _) (by simp) (by omega)
    exact Lib.hid ⟨by rw [hR]; exact Box.fresh w1 _ _, hown1.alloc _, hbz.alloc _, hcur.other ((Below.refl w1.heap.size _).alloc (Nat.le_refl _) _) (by omega) (by omega), (Below.off ((Below.refl w.heap.size w).alloc (Nat.le_refl _) _)).trans ((hoff.mono (by simp)).trans (Below.off ((Below.refl _ _).alloc (by omega) _))), ⟨hg, by omega, hB⟩, by rw [hR]; exact hown1.new⟩
  have hms : Hid (ms.length = N) := Lib.hid hN.symm
  rw [← hN] at hS1
  rw [← hN]
  have hRw : w.heap.size + 3 ≤ R := hS1.out.lt.2.1
  have hN1 : 0 < N := by omega
  have hN4 : N ≤ 4 := by omega
  clear hown hcur hoff hown1 hm0 hm1 hN
  go_wp2_with fail
  rw [← hR]
  clear hR
  refine (l1Below_any B g a len cap _ _ hS1.out.cur (by omega)).mono ?_
  rintro e w2 ⟨m, m0, m1, rfl, hc2, ho2⟩
  obtain ⟨M, rfl⟩ := Int.eq_ofNat_of_zero_le m0
  have hM : M < N := by have := m1 (by omega); omega
  have hS2 := Lib.hid (hS1.out.only ho2 hc2)
  clear hS1 m0 m1 hc2 ho2
  go_wp2_with fail
  refine (l1Below_any B g a len cap _ _ hS2.out.cur (by omega)).mono ?_
  rintro e w4 ⟨x, x0, x1, rfl, hc4, ho4⟩
  have hx : x < 10 := x1 (by omega)
  have hS4 := Lib.hid (hS2.out.only ho4 hc4)
  clear hS2 hc4 ho4 x1
  have hMl : M < ms.length := by have := hms.out; omega
  have hMi : (M : Int) < (N : Int) := by omega
  have hRl := hS4.out.br.1
  have hSame : SchSz ms := ⟨by have := hms.out; omega, by have := hms.out; omega, fun j hj => Nat.le_trans (hf5 j hj) (by omega)⟩
  by_cases hx5 : 5 ≤ x
  · obtain ⟨q0, q1⟩ := hS4.out.br.2 0 (by simp)
    obtain ⟨z0, z1⟩ := hS4.out.bz.2 0 (by simp)
    have e0 : (x = 0) = False := eq_false (by omega)
    have e1 : (x = 1) = False := eq_false (by omega)
    have e2 : (x = 2) = False := eq_false (by omega)
    have e3 : (x = 3) = False := eq_false (by omega)
    have e4 : (x = 4) = False := eq_false (by omega)
    go_wp2_with fail
    refine bodyPost_ret (v := .agg #[.slice (some ⟨gm, 0, none⟩) N capm]) (by simp [results, Try.results34, go_sem, z0]) rfl (bs_end hS4.out hSame _)
  obtain rfl | rfl | rfl | rfl | rfl : x = 0 ∨ x = 1 ∨ x = 2 ∨ x = 3 ∨ x = 4 := by omega
  · -- another Id
    obtain ⟨c0, f0⟩ := hS4.out.br.2 0 (by simp)
    go_wp2_with fail
    go_region_with (go_at_call 57; go_loud (refine (l1PickInt_any _ g a len cap _ 4 4 [0, 5, 100, -1] _ _ _ _ (hS4.out.drew.alloc _).cur (heap_alloc_new _ _) rfl rfl (by omega) (by omega) (by show w4.heap.size ≠ g; omega)).mono ?_); go_loud (rintro e w10 ⟨z, hz, rfl, hc10, ho10⟩); go_loud (have hS10 := Lib.hid ((hS4.out.drew.alloc _).only ho10 hc10)); go_loud (obtain ⟨m0, m1, m2, m3⟩ := hS10.out.own.cellsAt hms.out M (by have := hms.out; omega)); go_loud (obtain ⟨d0, q0⟩ := hS10.out.br.2 0 (by simp)); go_loud (have hSid := Lib.hid (hS10.out.setId hms.out M (by have := hms.out; omega) z)); go_loud (obtain ⟨d1, q1⟩ := hSid.out.br.2 0 (by simp)); go_loud (obtain ⟨d2, q2⟩ := hSid.out.bz.2 0 (by simp)); go_loud (clear hc10 ho10 hz))
    all_goals
      go_wp2_with fail
      refine bodyPost_ret (v := .agg #[.slice (some ⟨gm, 0, none⟩) N capm]) (by simp [results, Try.results34, go_sem, d2]) rfl (bs_end hSid.out ⟨by rw [List.length_set]; have := hms.out; omega, by rw [List.length_set]; have := hms.out; omega, len_set (fun j hj => Nat.le_trans (hf5 j hj) (by omega)) _ _ (Nat.le_trans (hf5 _ _) (by omega)) (Nat.le_refl _)⟩ _)
  · -- a field more
    have hlk := hf5 M hMl
    have hD4 := Lib.hid hS4.out.drew
    have hgmR : gm ≠ R := fun e => hS4.out.ap.1 (by rw [e]; rfl)
    have hT4 := bt_S hS4.out hms.out M hMl
    have hM0 : (0 : Int) ≤ (M : Int) := by omega
    go_wp2_with fail
    refine wp_region_S (fun w' => w'.cell? ⟨R, 0, none⟩ = some (.slice (some ⟨gm, 0, none⟩) N capm) ∧ w'.cell? ⟨gm, M * 2 + 1, none⟩ = some ms[M].2.1) 21 (by kernel_rfl) hT4 ?_
    intro hT
    clear hT4
    refine wpAnyS_take (i := 0) (v := .pointer (some ⟨R, 0, none⟩)) [1, 19, 20, 21] rfl (by kernel_rfl) (by kernel_rfl) (by kernel_rfl) (by kernel_rfl) (fun _ _ _ h => h) (Or.inl ⟨by kernel_rfl, ?_⟩) hT ?_
    · (intro wv hSw; (try dsimp only at hSw); go_split_ands; go_simp)
    try simp only [List.getElem_toArray, List.getElem_cons_succ, List.getElem_cons_zero, Act.put, List.setIfInBounds_toArray, List.set_cons_zero, List.set_cons_succ]
    refine wpAnyS_take (i := 1) (v := .slice (some ⟨gm, 0, none⟩) N capm) [19, 20, 21] rfl (by kernel_rfl) (by kernel_rfl) (by kernel_rfl) (by kernel_rfl) (fun _ _ _ h => h) (Or.inl ⟨by kernel_rfl, ?_⟩) hT ?_
    · (intro wv hSw; (try dsimp only at hSw); go_split_ands; go_simp)
    try simp only [List.getElem_toArray, List.getElem_cons_succ, List.getElem_cons_zero, Act.put, List.setIfInBounds_toArray, List.set_cons_zero, List.set_cons_succ]
    refine wpAnyS_take (i := 2) (v := .int .i64 M) [19, 20, 21] rfl (by kernel_rfl) (by kernel_rfl) (by kernel_rfl) (by kernel_rfl) (fun _ _ _ h => h) (Or.inl ⟨by kernel_rfl, ?_⟩) hT ?_
    · (intro wv hSw; (try dsimp only at hSw); go_split_ands; go_simp)
    try simp only [List.getElem_toArray, List.getElem_cons_succ, List.getElem_cons_zero, Act.put, List.setIfInBounds_toArray, List.set_cons_zero, List.set_cons_succ]
    refine wpAnyS_take (i := 3) (v := .pointer (some ⟨R, 0, none⟩)) [4, 6, 7, 8, 18, 21] rfl (by kernel_rfl) (by kernel_rfl) (by kernel_rfl) (by kernel_rfl) (fun _ _ _ h => h) (Or.inl ⟨by kernel_rfl, ?_⟩) hT ?_
    · (intro wv hSw; (try dsimp only at hSw); go_split_ands; go_simp)
    try simp only [List.getElem_toArray, List.getElem_cons_succ, List.getElem_cons_zero, Act.put, List.setIfInBounds_toArray, List.set_cons_zero, List.set_cons_succ]
    refine wpAnyS_take (i := 4) (v := .slice (some ⟨gm, 0, none⟩) N capm) [6, 7, 8, 18, 21] rfl (by kernel_rfl) (by kernel_rfl) (by kernel_rfl) (by kernel_rfl) (fun _ _ _ h => h) (Or.inl ⟨by kernel_rfl, ?_⟩) hT ?_
    · (intro wv hSw; (try dsimp only at hSw); go_split_ands; go_simp)
    try simp only [List.getElem_toArray, List.getElem_cons_succ, List.getElem_cons_zero, Act.put, List.setIfInBounds_toArray, List.set_cons_zero, List.set_cons_succ]
    refine wpAnyS_take (i := 5) (v := .int .i64 M) [6, 7, 8, 18, 21] rfl (by kernel_rfl) (by kernel_rfl) (by kernel_rfl) (by kernel_rfl) (fun _ _ _ h => h) (Or.inl ⟨by kernel_rfl, ?_⟩) hT ?_
    · (intro wv hSw; (try dsimp only at hSw); go_split_ands; go_simp)
    try simp only [List.getElem_toArray, List.getElem_cons_succ, List.getElem_cons_zero, Act.put, List.setIfInBounds_toArray, List.set_cons_zero, List.set_cons_succ]
    refine wpAnyS_take (i := 6) (v := .pointer (some ⟨gm, M * 2, none⟩)) [7, 8, 18, 21] rfl (by kernel_rfl) (by kernel_rfl) (by kernel_rfl) (by kernel_rfl) (fun _ _ _ h => h) (Or.inl ⟨by kernel_rfl, ?_⟩) hT ?_
    · (intro wv hSw; (try dsimp only at hSw); go_split_ands; go_simp)
    try simp only [List.getElem_toArray, List.getElem_cons_succ, List.getElem_cons_zero, Act.put, List.setIfInBounds_toArray, List.set_cons_zero, List.set_cons_succ]
    refine wpAnyS_take (i := 7) (v := .pointer (some ⟨gm, M * 2 + 1, none⟩)) [8, 18, 21] rfl (by kernel_rfl) (by kernel_rfl) (by kernel_rfl) (by kernel_rfl) (fun _ _ _ h => h) (Or.inl ⟨by kernel_rfl, ?_⟩) hT ?_
    · (intro wv hSw; (try dsimp only at hSw); go_split_ands; go_simp)
    try simp only [List.getElem_toArray, List.getElem_cons_succ, List.getElem_cons_zero, Act.put, List.setIfInBounds_toArray, List.set_cons_zero, List.set_cons_succ]
    refine wpAnyS_take (i := 8) (v := ms[M].2.1) [18, 21] rfl (by kernel_rfl) (by kernel_rfl) (by kernel_rfl) (by kernel_rfl) (fun _ _ _ h => h) (Or.inl ⟨by kernel_rfl, ?_⟩) hT ?_
    · (intro wv hSw; (try dsimp only at hSw); go_split_ands; go_simp)
    try simp only [List.getElem_toArray, List.getElem_cons_succ, List.getElem_cons_zero, Act.put, List.setIfInBounds_toArray, List.set_cons_zero, List.set_cons_succ]
    refine wpAnyS_take (i := 9) (v := .pointer (some ⟨g, 0, none⟩)) [10, 12, 14, 15, 16, 17, 18, 21] rfl (by kernel_rfl) (by kernel_rfl) (by kernel_rfl) (by kernel_rfl) (fun _ _ _ h => h) (Or.inl ⟨by kernel_rfl, ?_⟩) hT ?_
    · (intro wv hSw; (try dsimp only at hSw); go_split_ands; go_simp)
    try simp only [List.getElem_toArray, List.getElem_cons_succ, List.getElem_cons_zero, Act.put, List.setIfInBounds_toArray, List.set_cons_zero, List.set_cons_succ]
    refine wpAnyS_take (i := 11) (v := .pointer (some ⟨g, 0, none⟩)) [12, 14, 15, 16, 17, 18, 21] rfl (by kernel_rfl) (by kernel_rfl) (by kernel_rfl) (by kernel_rfl) (fun _ _ _ h => h) (Or.inl ⟨by kernel_rfl, ?_⟩) hT ?_
    · (intro wv hSw; (try dsimp only at hSw); go_split_ands; go_simp)
    try simp only [List.getElem_toArray, List.getElem_cons_succ, List.getElem_cons_zero, Act.put, List.setIfInBounds_toArray, List.set_cons_zero, List.set_cons_succ]
    refine wpAnyS_take (i := 13) (v := .pointer (some ⟨g, 0, none⟩)) [14, 15, 16, 17, 18, 21] rfl (by kernel_rfl) (by kernel_rfl) (by kernel_rfl) (by kernel_rfl) (fun _ _ _ h => h) (Or.inl ⟨by kernel_rfl, ?_⟩) hT ?_
    · (intro wv hSw; (try dsimp only at hSw); go_split_ands; go_simp)
    try simp only [List.getElem_toArray, List.getElem_cons_succ, List.getElem_cons_zero, Act.put, List.setIfInBounds_toArray, List.set_cons_zero, List.set_cons_succ]
    refine wpAnyS_one (i := 10) (by kernel_rfl) rfl (fun K hK => ?_)
    rw [if_pos (by kernel_rfl)]
    go_simp
    refine (l4Number_any B g a len cap _ hD4.out.cur (by show B ≤ w4.heap.size; omega) (by show g < w4.heap.size; omega)).mono ?_
    rintro e w5 ⟨zn, hzn, rfl, hc5, ho5⟩
    have hS5 := Lib.hid (hD4.out.only (Off.only ho5) hc5)
    have hR5 := hS5.out.br.1
    clear hc5 ho5 hzn
    refine hK.out _ _ (bt_S hS5.out hms.out M hMl) (fun hT1 => ?_)
    clear hK K hT
    have hT := hT1
    clear hT1
    try simp only [Act.put, List.setIfInBounds_toArray, List.set_cons_zero, List.set_cons_succ]
    refine wpAnyS_one (i := 12) (by kernel_rfl) rfl (fun K hK => ?_)
    rw [if_pos (by kernel_rfl)]
    go_simp
    refine (l1Below_any B g a len cap _ _ hS5.out.cur (by omega)).mono ?_
    rintro e w6 ⟨z2, z20, z21, rfl, hc6, ho6⟩
    have hS6 := Lib.hid (hS5.out.only ho6 hc6)
    have hR6 := hS6.out.br.1
    clear hc6 ho6 z20 z21
    refine hK.out _ _ (bt_S hS6.out hms.out M hMl) (fun hT1 => ?_)
    clear hK K hT
    have hT := hT1
    clear hT1
    try simp only [Act.put, List.setIfInBounds_toArray, List.set_cons_zero, List.set_cons_succ]
    refine wpAnyS_one (i := 14) (by kernel_rfl) rfl (fun K hK => ?_)
    rw [if_pos (by kernel_rfl)]
    go_simp
    refine (l1Below_any B g a len cap _ _ hS6.out.cur (by omega)).mono ?_
    rintro e w7 ⟨z3, z30, z31, rfl, hc7, ho7⟩
    have hz34 : z3 < 4 := z31 (by omega)
    have hw1 : IntKind.i64.wrap (z3 - 1) = z3 - 1 := IntWalk.i64_in _ (by omega)
    have hS7 := Lib.hid (hS6.out.only ho7 hc7)
    have hR7 := hS7.out.br.1
    clear hc7 ho7 z31
    refine hK.out _ _ (bt_S hS7.out hms.out M hMl) (fun hT1 => ?_)
    clear hK K hT
    have hT := hT1
    clear hT1
    try simp only [Act.put, List.setIfInBounds_toArray, List.set_cons_zero, List.set_cons_succ]
    refine wpAnyS_take (i := 15) (v := .int .i64 (z3 - 1)) [16, 17, 18, 21] rfl (by kernel_rfl) (by kernel_rfl) (by kernel_rfl) (by kernel_rfl) (fun _ _ _ h => h) (Or.inl ⟨by kernel_rfl, ?_⟩) hT ?_
    · (intro wv hSw; (try dsimp only at hSw); go_split_ands; go_simp)
    try simp only [List.getElem_toArray, List.getElem_cons_succ, List.getElem_cons_zero, Act.put, List.setIfInBounds_toArray, List.set_cons_zero, List.set_cons_succ]
    refine wpAnyS_take (i := 16) (v := .agg #[.int .i64 zn, .int .i64 z2, .bool false, .bool false, .int .i64 (z3 - 1)]) [17, 18, 21] rfl (by kernel_rfl) (by kernel_rfl) (by kernel_rfl) (by kernel_rfl) (fun _ _ _ h => h) (Or.inl ⟨by kernel_rfl, ?_⟩) hT ?_
    · (intro wv hSw; (try dsimp only at hSw); go_split_ands; go_simp)
    try simp only [List.getElem_toArray, List.getElem_cons_succ, List.getElem_cons_zero, Act.put, List.setIfInBounds_toArray, List.set_cons_zero, List.set_cons_succ]
    have hfrow : w7.ownsRow (w.heap.size + 3) 34 5 ms[M].2.1 ms[M].2.2.length (ms[M].2.2.flatMap fieldC) := hS7.out.own.fields M hMl
    have hnew : (w7.alloc (.cells #[.int .i64 zn, .int .i64 z2, .bool false, .bool false, .int .i64 (z3 - 1)] 34)).heap[w7.heap.size]? = some (.cells #[.int .i64 zn, .int .i64 z2, .bool false, .bool false, .int .i64 (z3 - 1)] 34 (0, 0)) := heap_alloc_new _ _
    refine wpAnyS_one (i := 17) (by kernel_rfl) rfl (fun K hK => ?_)
    rw [if_pos (by kernel_rfl)]
    go_simp
    refine hK.out _ _ (bt_S (Bt.alloc hS7.out _) hms.out M hMl) (fun hT1 => ?_)
    clear hK K hT
    have hT := hT1
    clear hT1
    try simp only [Act.put, List.setIfInBounds_toArray, List.set_cons_zero, List.set_cons_succ]
    refine wpAnyS_one (i := 18) (by kernel_rfl) rfl (fun K hK => ?_)
    rw [if_pos (by kernel_rfl)]
    skip
    refine wp_append_lies _ _ _ 30 (by rfl) (w.heap.size + 3) 34 j0 _ 5 32 Try.underlying30 hj hj0 hj1 hj2 (by rfl) (by omega) ms[M].2.1 _ _ (by rfl) (World.ownsRow.alloc hfrow _) ⟨w7.heap.size, 0, none⟩ 1 1 [.int .i64 zn, .int .i64 z2, .bool false, .bool false, .int .i64 (z3 - 1)] (by rfl) (by rfl) (fun j u hj => World.news_of_block hnew j u hj) (by intro u hu; simp at hu; rcases hu with rfl | rfl | rfl | rfl | rfl <;> rfl) (by omega) (by unfold maxLen; omega) (by omega) (by simp; omega) (w7.heap.size + 1) (by simp) ?_
    intro g' cap' w8 hown2 hg2 hor2 hlt2
    have e012 := bt_cellsW (Bt.alloc hS7.out _) hms.out M hMl hg2
    obtain ⟨e0, e1, e2⟩ := e012
    refine hK.out _ _ ⟨e0, e1⟩ (fun hT1 => ?_)
    clear hK K hT
    have hT := hT1
    clear hT1
    try simp only [Act.put, List.setIfInBounds_toArray, List.set_cons_zero, List.set_cons_succ]
    refine wpAnyS_take (i := 19) (v := .pointer (some ⟨gm, M * 2, none⟩)) [20, 21] rfl (by kernel_rfl) (by kernel_rfl) (by kernel_rfl) (by kernel_rfl) (fun _ _ _ h => h) (Or.inl ⟨by kernel_rfl, ?_⟩) hT ?_
    · (intro wv hSw; (try dsimp only at hSw); go_split_ands; go_simp)
    try simp only [List.getElem_toArray, List.getElem_cons_succ, List.getElem_cons_zero, Act.put, List.setIfInBounds_toArray, List.set_cons_zero, List.set_cons_succ]
    refine wpAnyS_take (i := 20) (v := .pointer (some ⟨gm, M * 2 + 1, none⟩)) [21] rfl (by kernel_rfl) (by kernel_rfl) (by kernel_rfl) (by kernel_rfl) (fun _ _ _ h => h) (Or.inl ⟨by kernel_rfl, ?_⟩) hT ?_
    · (intro wv hSw; (try dsimp only at hSw); go_split_ands; go_simp)
    try simp only [List.getElem_toArray, List.getElem_cons_succ, List.getElem_cons_zero, Act.put, List.setIfInBounds_toArray, List.set_cons_zero, List.set_cons_succ]
    refine wpAnyS_last (by kernel_rfl) rfl (fun K hK => ?_)
    rw [if_pos (by kernel_rfl)]
    go_simp
    refine hK.out _ _ ?_
    clear hK K
    refine wpAnyS_done (by kernel_rfl) ?_ _
    have hE := Lib.hid (bt_fieldW (Bt.alloc hS7.out _) hms.out M hMl hg2 (zn, z2, false, false, z3 - 1) g' cap' hown2 (hor2.imp id fun e => e.trans (by simp)))
    have hSz : Hid (SchSz (ms.set M (ms[M].1, Value.slice (some ⟨g', 0, none⟩) (ms[M].2.2.length + 1) cap', ms[M].2.2 ++ [(zn, z2, false, false, z3 - 1)]))) := Lib.hid ⟨by rw [List.length_set]; have := hms.out; omega, by rw [List.length_set]; have := hms.out; omega, len_set hf5 M _ (by simp; omega) (by omega)⟩
    obtain ⟨d1, q3⟩ := hE.out.br.2 0 (by simp)
    obtain ⟨d2, q4⟩ := hE.out.bz.2 0 (by simp)
    clear hT e0 e1 e2 hfrow hnew hown2 hg2
    go_wp2_with fail
    refine bodyPost_ret (v := .agg #[.slice (some ⟨gm, 0, none⟩) N capm]) (by simp [results, Try.results34, go_sem, d2]) rfl (bs_end hE.out hSz.out _)
  · -- another reference
    have hfrow : w4.ownsRow (w.heap.size + 3) 34 5 ms[M].2.1 ms[M].2.2.length (ms[M].2.2.flatMap fieldC) := hS4.out.own.fields M hMl
    obtain ⟨n0', n1', n2', n3'⟩ := hS4.out.own.cellsAt hms.out M hMl
    obtain ⟨q0, q1⟩ := hS4.out.br.2 0 (by simp)
    obtain ⟨z0, z1⟩ := hS4.out.bz.2 0 (by simp)
    by_cases hl0 : 0 < ms[M].2.2.length
    · obtain ⟨gf, capf, hu, hgf1, hgf2⟩ := World.ownsRow.form hfrow hl0
      have Hu := Lib.hid hu
      rw [hu] at n1'
      have hl0i : (0 : Int) < (ms[M].2.2.length : Int) := by omega
      clear hfrow
      go_wp2_with fail
      go_region_with (go_at_call 56; go_loud (refine (l1Below_any B g a len cap _ _ hS4.out.drew.cur (by omega)).mono ?_); go_loud (rintro e w10 ⟨z, hz0', hz1', rfl, hc10, ho10⟩); go_loud (have hz5 : z < 5 := hz1' (by omega)); go_loud (have hw1 : IntKind.i64.wrap (z - 1) = z - 1 := IntWalk.i64_in _ (by omega)); go_loud (have hS10 := Lib.hid (hS4.out.drew.only ho10 hc10)); go_loud (have hfr10 := OwnRaw.fields hS10.out.own M hMl); go_loud (unfold FOwn at hfr10); go_loud (rw [Hu.out] at hfr10); go_loud (obtain ⟨m0, m1, m2, m3⟩ := hS10.out.own.cellsAt hms.out M hMl); go_loud (rw [Hu.out] at m1); go_loud (obtain ⟨d0, q2⟩ := hS10.out.br.2 0 (by simp)); go_loud (have hk5 := fcells hfr10 rfl 0 hl0); go_loud (simp only [Nat.zero_mul, Nat.zero_add] at hk5); go_loud (obtain ⟨k0, k1, k2, k3, k4, k5, k6, k7, k8, k9⟩ := hk5); go_loud (have hSid := Lib.hid (bt_put1 hS10.out M hMl Hu.out hl0 4 (by omega) (.int .i64 (z - 1)) (ms[M].2.2[0].1, ms[M].2.2[0].2.1, ms[M].2.2[0].2.2.1, ms[M].2.2[0].2.2.2.1, z - 1) rfl)); go_loud (obtain ⟨d1, q3⟩ := hSid.out.br.2 0 (by simp)); go_loud (obtain ⟨d2, q4⟩ := hSid.out.bz.2 0 (by simp)); go_loud (clear hc10 ho10 hz1' hfr10))
      all_goals
        go_wp2_with fail
        refine bodyPost_ret (v := .agg #[.slice (some ⟨gm, 0, none⟩) N capm]) (by simp [results, Try.results34, go_sem, d2]) rfl (bs_end hSid.out ⟨by rw [List.length_set]; have := hms.out; omega, by rw [List.length_set]; have := hms.out; omega, len_set (fun j hj => Nat.le_trans (hf5 j hj) (by omega)) _ _ (by rw [List.length_set]; exact Nat.le_trans (hf5 _ _) (by omega)) (Nat.le_refl _)⟩ _)
    · obtain ⟨av, cv, hav⟩ := FieldsAt.len (hS4.out.own.fieldsAt M hMl)
      rw [hav] at n1'
      have hl00 : ms[M].2.2.length = 0 := by omega
      rw [hl00] at n1'
      clear hav hl00 hl0 hfrow
      go_wp2_with fail
      refine bodyPost_ret (v := .agg #[.slice (some ⟨gm, 0, none⟩) N capm]) (by simp [results, Try.results34, go_sem, z0]) rfl (bs_end hS4.out hSame _)
  · -- Packed
    have hfrow : w4.ownsRow (w.heap.size + 3) 34 5 ms[M].2.1 ms[M].2.2.length (ms[M].2.2.flatMap fieldC) := hS4.out.own.fields M hMl
    obtain ⟨n0', n1', n2', n3'⟩ := hS4.out.own.cellsAt hms.out M hMl
    obtain ⟨q0, q1⟩ := hS4.out.br.2 0 (by simp)
    obtain ⟨z0, z1⟩ := hS4.out.bz.2 0 (by simp)
    by_cases hl0 : 0 < ms[M].2.2.length
    · obtain ⟨gf, capf, hu, hgf1, hgf2⟩ := World.ownsRow.form hfrow hl0
      have Hu := Lib.hid hu
      rw [hu] at n1' hfrow
      have hl0i : (0 : Int) < (ms[M].2.2.length : Int) := by omega
      have hk5 := fcells hfrow rfl 0 hl0
      simp only [Nat.zero_mul, Nat.zero_add] at hk5
      obtain ⟨k0, k1, k2, k3, k4, k5, k6, k7, k8, k9⟩ := hk5
      have hSid := Lib.hid (bt_put1 hS4.out M hMl Hu.out hl0 3 (by omega) (.bool true) (ms[M].2.2[0].1, ms[M].2.2[0].2.1, ms[M].2.2[0].2.2.1, true, ms[M].2.2[0].2.2.2.2) rfl)
      obtain ⟨d1, q3⟩ := hSid.out.br.2 0 (by simp)
      obtain ⟨d2, q4⟩ := hSid.out.bz.2 0 (by simp)
      clear hfrow
      go_wp2_with fail
      refine bodyPost_ret (v := .agg #[.slice (some ⟨gm, 0, none⟩) N capm]) (by simp [results, Try.results34, go_sem, d2]) rfl (bs_end hSid.out ⟨by rw [List.length_set]; have := hms.out; omega, by rw [List.length_set]; have := hms.out; omega, len_set (fun j hj => Nat.le_trans (hf5 j hj) (by omega)) _ _ (by rw [List.length_set]; exact Nat.le_trans (hf5 _ _) (by omega)) (Nat.le_refl _)⟩ _)
    · obtain ⟨av, cv, hav⟩ := FieldsAt.len (hS4.out.own.fieldsAt M hMl)
      rw [hav] at n1'
      have hl00 : ms[M].2.2.length = 0 := by omega
      rw [hl00] at n1'
      clear hav hl00 hl0 hfrow
      go_wp2_with fail
      refine bodyPost_ret (v := .agg #[.slice (some ⟨gm, 0, none⟩) N capm]) (by simp [results, Try.results34, go_sem, z0]) rfl (bs_end hS4.out hSame _)
  · -- messages more
    go_wp2_with fail
    go_loopw [88] (fun _ wr => ∃ (u : Value) (ms' : List OM), 0 < ms'.length ∧ ms'.length ≤ 7 ∧ Hid (Bt w B g a len cap 32 34 u ms' R wr) ∧ Hid (∀ j (hj : j < ms'.length), ms'[j].2.2.length ≤ 5)) (fun _ wr => 7 - lenAt wr R)
    case atStart => exact ⟨_, ms, by have := hms.out; omega, by have := hms.out; omega, hS4, Lib.hid hf5⟩
    case round =>
      obtain ⟨u, ms', hl0, hl7, hS, hf⟩ := hrel
      clear hS4
      obtain ⟨g2, cap2, hu, _, _⟩ := World.ownsRow.form hS.out.own.row hl0
      subst hu
      obtain ⟨c0, f0⟩ := hS.out.br.2 0 (by simp)
      have hla := Lib.hid (lenAt_of hS.out.br)
      have hRl := hS.out.br.1
      go_wp2_with fail
      go_region_with (go_at_call 56; go_loud (refine (l1Below_any B g a len cap _ _ hS.out.drew.cur (by omega)).mono ?_); go_loud (rintro e w10 ⟨x, x0, x1, rfl, hc, ho⟩); go_loud (have hx : x < 2 := x1 (by omega)); go_loud (have hS10 := Lib.hid (hS.out.drew.only ho hc)); go_loud (obtain ⟨d0, q0⟩ := hS10.out.br.2 0 (by simp)); go_loud (have hw6 : IntKind.i64.wrap (6 + x) = 6 + x := IntWalk.i64_in _ (by omega)); go_loud (clear x1 hc ho))
      all_goals
        have hRl2 := hS10.out.br.1
        obtain ⟨d1, q1⟩ := hS10.out.bz.2 0 (by simp)
        by_cases hlt : (ms'.length : Int) < 6 + x
        · have hcap := hS10.out.own.row
          have hnew : (w10.alloc (.cells #[.int .i64 (91 + (ms'.length : Int)), .slice none 0 0] 32)).heap[w10.heap.size]? = some (.cells #[.int .i64 (91 + (ms'.length : Int)), .slice none 0 0] 32 (0, 0)) := heap_alloc_new _ _
          go_wp2_with (at_builtin; refine wpList_append_lies _ (by rfl) (.tmp 96) (.tmp 102) 24 (by rfl) (w.heap.size + 3) 32 i0 _ 2 32 Try.underlying24 hi hz0 hz1 hz2 (by rfl) (by omega) (.slice (some ⟨g2, 0, none⟩) ms'.length cap2) _ _ (by rfl) (World.ownsRow.alloc hcap _) ⟨w10.heap.size, 0, none⟩ 1 1 [.int .i64 (91 + (ms'.length : Int)), .slice none 0 0] (by rfl) (by rfl) (fun j u hj => World.news_of_block hnew j u hj) (by intro u hu; simp at hu; rcases hu with rfl | rfl <;> rfl) (by omega) (by unfold maxLen; omega) (by omega) (by simp; omega) (w10.heap.size + 1) (by simp) ?_; intro g' cap' w2 hown2 hg2 hor2 hlt2; have e01 := bt_cells hS10.out _ hg2; obtain ⟨e0, e1⟩ := e01)
          have hE := Lib.hid (bt_push hS10.out _ hg2 _ g' cap' hown2 hor2)
          have hla2 := Lib.hid (lenAt_of hE.out.br)
          go_roundw
          case rel => exact ⟨_, _, by simp, by simp <;> omega, hE, Lib.hid (len_push hf.out _ (by simp))⟩
          case measure => rw [hla.out, hla2.out]; omega
        · have hge : 6 + x ≤ (ms'.length : Int) := by omega
          go_wp2_with fail
          refine bodyPost_ret (v := .agg #[_]) (by simp [results, Try.results34, go_sem, d1]) rfl (bs_end hS10.out ⟨hl0, hl7, fun j hj => Nat.le_trans (hf.out j hj) (by omega)⟩ _)
end Go.Proofs.Ythjnpipincpkgaa.Num
