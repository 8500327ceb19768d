/-
  l6Bent once more, with the range of the Ids told too: lz is the number of the fields, or far more where the Id is out of range. The walk is DrawBent's.
-/
import Derived.Test.YtcbohfncckpolaaGreatDoorDrawBent
namespace Go.Proofs.YtcbohfncckpolaaGreatDoor.Num
open Go.RowKit Go.Proofs
set_option linter.unusedVariables false

def lz (m : OM) : Nat := m.2.2.length + (if -1 ≤ m.1 ∧ m.1 ≤ 100 then 0 else 1000)
theorem lz_len {m : OM} {n : Nat} (h : lz m ≤ n) : m.2.2.length ≤ n := by unfold lz at h; omega
theorem lz_id {m : OM} (h : lz m ≤ 14) : -1 ≤ m.1 ∧ m.1 ≤ 100 := by
  unfold lz at h
  split at h
  · assumption
  · omega
theorem lz_of {m : OM} {n : Nat} (h : m.2.2.length ≤ n) (hi : -1 ≤ m.1 ∧ m.1 ≤ 100) : lz m ≤ n := by unfold lz; rw [if_pos hi]; omega
theorem lz_eq {m x : OM} (h : x.1 = m.1) (hl : x.2.2.length ≤ m.2.2.length) : lz x ≤ lz m := by unfold lz; rw [h]; omega
theorem lz_new {ms : List OM} {M : Nat} (hM : M < ms.length) {z : Int} (hf : lz ms[M] ≤ 5) (hz : -1 ≤ z ∧ z ≤ 100) : lz (z, ms[M].2) ≤ 14 := by
  have h := lz_len hf
  refine lz_of ?_ hz
  show ms[M].2.2.length ≤ 14
  omega
theorem lz_app {m : OM} {n : Nat} (v : Value) (f : RF) (h : lz m ≤ n) : lz (m.1, v, m.2.2 ++ [f]) ≤ n + 1 := by unfold lz at *; simp; omega
theorem lz_set {ms : List OM} {n m : Nat} (h : ∀ j (hj : j < ms.length), lz ms[j] ≤ n) (k : Nat) (x : OM) (hx : lz x ≤ m) (hnm : n ≤ m) : ∀ j (hj : j < (ms.set k x).length), lz (ms.set k x)[j] ≤ m := by
  intro j hj
  rw [List.length_set] at hj
  by_cases e : k = j
  · subst e; rw [List.getElem_set_self]; exact hx
  · rw [List.getElem_set_ne e]; exact Nat.le_trans (h j hj) hnm
theorem lz_push {ms : List OM} {n : Nat} (h : ∀ j (hj : j < ms.length), lz ms[j] ≤ n) (x : OM) (hx : lz x ≤ n) : ∀ j (hj : j < (ms ++ [x]).length), lz (ms ++ [x])[j] ≤ n := by
  intro j hj
  by_cases e : j < ms.length
  · rw [List.getElem_append_left e]; exact h j e
  · obtain rfl : j = ms.length := by simp at hj; omega
    rw [List.getElem_append_right (by omega)]
    simpa using hx
theorem right_id {ms : List OM} (h : Right ms) (j : Nat) (hj : j < ms.length) : -1 ≤ ms[j].1 ∧ ms[j].1 ≤ 100 := by
  have h1 := four_in (h.1.2 j hj) (by have := h.1.1; omega)
  omega
theorem five_in {z : Int} (h : z ∈ [0, -1, 100, 5, 1]) : -1 ≤ z ∧ z ≤ 100 := by
  simp only [List.mem_cons, List.not_mem_nil, or_false] at h
  omega
def BentSzI (ms : List OM) : Prop := 0 < ms.length ∧ ms.length ≤ 7 ∧ ∀ j (hj : j < ms.length), lz ms[j] ≤ 14
/-- What the end of the walk asks. -/
theorem bt_endI {w wx : World} {B g : Nat} {a : Option Addr} {len cap : Nat} {TM TF : TypeId} {u : Value} {ms : List OM} {R : Nat} (h : Bt w B g a len cap TM TF u ms R wx) (hs : BentSzI ms) (x : Value) :
    ∃ (v : Value) (ms : List OM), BentSzI ms ∧ Ending.returned (.agg #[u]) = .returned (.agg #[v]) ∧ OwnRaw (wx.setCell ⟨w.heap.size, 0, none⟩ x) (w.heap.size + 3) TM TF v ms ∧ Cur (wx.setCell ⟨w.heap.size, 0, none⟩ x) B g a len cap ∧ Off w.heap.size g w (wx.setCell ⟨w.heap.size, 0, none⟩ x) := by
  obtain ⟨l1, l2, l3⟩ := h.lt
  exact ⟨u, ms, hs, rfl, h.own.other _ (h.own.out (k := w.heap.size) (by omega)).1 (h.own.out (k := w.heap.size) (by omega)).2, h.cur.other (C := w.heap.size) ((Below.refl _ _).setCell (by simp) _) (by omega) (by omega), h.off.trans (Below.off ((Below.refl _ _).setCell (by simp) _))⟩
set_option maxHeartbeats 8000000 in
set_option maxRecDepth 100000 in
theorem l6BentI_any (B g : Nat) (a : Option Addr) (len cap : Nat) (w : World) (h : Cur w B g a len cap) (hB : B ≤ w.heap.size) (hg : g < w.heap.size) :
    Calls Tryz.prog 16 #[.pointer (some ⟨g, 0, none⟩)] w fun e w' => ∃ (v : Value) (ms : List OM), BentSzI ms ∧ e = .returned (.agg #[v]) ∧ OwnRaw w' (w.heap.size + 3) 42 58 v ms ∧ Cur w' B g a len cap ∧ Off w.heap.size g w w' := by
  have H := Lib.hid h; clear h
  have hgB : B ≤ g := H.out.choose_spec.choose_spec.1
  obtain ⟨i0, hi, hz0, hz1, hz2⟩ : ∃ i : TypeInfo, Tryz.prog.info? 42 = some i ∧ i.zero = some (.agg #[.int .i64 0, .slice none 0 0]) ∧ i.size = 2 ∧ i.bytes = 32 := ⟨_, by rfl, by rfl, by rfl, by rfl⟩
  obtain ⟨j0, hj, hj0, hj1, hj2⟩ : ∃ i : TypeInfo, Tryz.prog.info? 58 = some i ∧ i.zero = some (.agg #[.int .i64 0, .int .i64 0, .bool false, .bool false, .int .i64 0]) ∧ i.size = 5 ∧ i.bytes = 32 := ⟨_, by rfl, by rfl, by rfl, by rfl⟩
  go_enter Tryz.func16, Tryz.ntmps16
  go_wp2_with fail
  refine (l6Right_any B g a len cap _ (H.out.other ((Below.refl w.heap.size w).alloc (Nat.le_refl _) _) (by omega) (by omega)) (by simp; omega) (by simp; omega)).mono ?_
  rintro e w1 ⟨v, ms, ⟨hm0, hm1, hf5r, hright⟩, rfl, hown, hcur, hoff⟩
  have hf5 : ∀ j (hj : j < ms.length), lz ms[j] ≤ 5 := fun j hj => lz_of (hf5r j hj) (right_id hright j hj)
  clear hf5r hright
  have hown1 : OwnRaw w1 (w.heap.size + 3) 42 58 v ms := by simpa using hown
  obtain ⟨gm, capm, hv, hgm1, hgm2⟩ := World.ownsRow.form hown1.row hm0
  subst hv
  obtain ⟨R, hR⟩ : ∃ R, R = w1.heap.size := ⟨_, rfl⟩
  obtain ⟨N, hN⟩ : ∃ N, N = ms.length := ⟨_, rfl⟩
  have hS1 : Hid (Bt w B g a len cap 42 58 (.slice (some ⟨gm, 0, none⟩) ms.length capm) ms R (w1.alloc (.cells #[.slice (some ⟨gm, 0, none⟩) ms.length capm] 26))) := by
    have hbz : Box w1 w.heap.size [.slice none 0 0] := Box.offAt hoff (Box.fresh w _ _) (by simp) (by omega)
    exact Lib.hid ⟨by rw [hR]; exact Box.fresh w1 _ _, hown1.alloc _, hbz.alloc _, hcur.other ((Below.refl w1.heap.size _).alloc (Nat.le_refl _) _) (by omega) (by omega), (Below.off ((Below.refl w.heap.size w).alloc (Nat.le_refl _) _)).trans ((hoff.mono (by simp)).trans (Below.off ((Below.refl _ _).alloc (by omega) _))), ⟨hg, by omega, hB⟩, by rw [hR]; exact hown1.new⟩
  have hms : Hid (ms.length = N) := Lib.hid hN.symm
  rw [← hN] at hS1
  rw [← hN]
  have hRw : w.heap.size + 3 ≤ R := hS1.out.lt.2.1
  have hN1 : 0 < N := by omega
  have hN4 : N ≤ 4 := by omega
  clear hown hcur hoff hown1 hm0 hm1 hN
  go_wp2_with fail
  rw [← hR]
  clear hR
  refine (l1Below_any B g a len cap _ _ hS1.out.cur (by omega)).mono ?_
  rintro e w2 ⟨m, m0, m1, rfl, hc2, ho2⟩
  obtain ⟨M, rfl⟩ := Int.eq_ofNat_of_zero_le m0
  have hM : M < N := by have := m1 (by omega); omega
  have hS2 := Lib.hid (hS1.out.only ho2 hc2)
  clear hS1 m0 m1 hc2 ho2
  go_wp2_with fail
  refine (l1Once_any B g a len cap _ _ hS2.out.cur (by omega)).mono ?_
  rintro e w3 ⟨b1, rfl, hc3, ho3⟩
  have hS3 := Lib.hid (hS2.out.only ho3 hc3)
  clear hS2 hc3 ho3
  cases b1
  · have hMl : M < ms.length := by have := hms.out; omega
    have hMi : (M : Int) < (N : Int) := by omega
    obtain ⟨n0', n1', n2', n3'⟩ := hS3.out.own.cellsAt hms.out M hMl
    obtain ⟨q0, q1⟩ := hS3.out.br.2 0 (by simp)
    obtain ⟨z0, z1⟩ := hS3.out.bz.2 0 (by simp)
    have hfrow : w3.ownsRow (w.heap.size + 3) 58 5 ms[M].2.1 ms[M].2.2.length (ms[M].2.2.flatMap fieldC) := hS3.out.own.fields M hMl
    have hlk := lz_len (hf5 M hMl)
    by_cases hl0 : 0 < ms[M].2.2.length
    · obtain ⟨gf, capf, hu, hgf1, hgf2⟩ := World.ownsRow.form hfrow hl0
      have Hu := Lib.hid hu
      rw [hu] at n1'
      generalize hk : ms[M].2.2 = fs at hl0 n1' hlk
      have HK := Lib.hid hk
      clear hu hfrow hk
      go_wp2_with fail
      refine (l1Once_any B g a len cap _ _ hS3.out.cur (by have := hS3.out.br.1; omega)).mono ?_
      rintro e w4 ⟨b2, rfl, hc4, ho4⟩
      have hS4 := Lib.hid (hS3.out.only ho4 hc4)
      clear hS3 hc4 ho4 n0' n1' n2' n3' q0 q1 z0 z1
      obtain ⟨n0', n1', n2', n3'⟩ := hS4.out.own.cellsAt hms.out M hMl
      rw [Hu.out, HK.out] at n1'
      obtain ⟨q0, q1⟩ := hS4.out.br.2 0 (by simp)
      obtain ⟨z0, z1⟩ := hS4.out.bz.2 0 (by simp)
      cases b2
      · go_wp2_with fail
        refine bodyPost_ret (v := .agg #[.slice (some ⟨gm, 0, none⟩) N capm]) (by simp [results, Tryz.results16, go_sem, z0]) rfl (bt_endI hS4.out ⟨by have := hms.out; omega, by have := hms.out; omega, fun j hj => Nat.le_trans (hf5 j hj) (by omega)⟩ _)
      · go_wp2_with fail
        refine (l1Below_any B g a len cap _ _ hS4.out.cur (by have := hS4.out.br.1; omega)).mono ?_
        rintro e w5 ⟨k, k0, k1, rfl, hc5, ho5⟩
        obtain ⟨Q, rfl⟩ := Int.eq_ofNat_of_zero_le k0
        have hQ : Q < fs.length := by have := k1 (by omega); omega
        have hS5 := Lib.hid (hS4.out.only ho5 hc5)
        clear hS4 hc5 ho5 k1 k0 n0' n1' n2' n3' q0 q1 z0 z1
        have hfrow : w5.ownsRow (w.heap.size + 3) 58 5 (.slice (some ⟨gf, 0, none⟩) fs.length capf) fs.length (fs.flatMap fieldC) := by
          have := hS5.out.own.fields M hMl
          unfold FOwn at this
          rw [Hu.out, HK.out] at this
          exact this
        obtain ⟨n0', n1', n2', n3'⟩ := hS5.out.own.cellsAt hms.out M hMl
        rw [Hu.out, HK.out] at n1'
        obtain ⟨q0, q1⟩ := hS5.out.br.2 0 (by simp)
        obtain ⟨k0, k1, k2, k3, k4, _⟩ := fcells hfrow rfl Q hQ
        have hQi : (Q : Int) < (fs.length : Int) := by omega
        obtain ⟨F, hF⟩ : ∃ F, F = w5.heap.size := ⟨_, rfl⟩
        have hRF : R < F := by have := hS5.out.br.1; omega
        have hap : Hid ((gm ≠ F) ∧ ∀ i (hi : i < ms.length), ms[i].2.1.ownBlock ≠ some F) := Lib.hid (by
          rw [hF]
          have := hS5.out.off' (Nat.le_refl _)
          exact ⟨fun e => this.1 (by rw [e]; rfl), this.2⟩)
        have hS5a := Lib.hid (hS5.out.alloc (.cells #[.int .i64 fs[Q].1, .int .i64 fs[Q].2.1, .bool fs[Q].2.2.1, .bool fs[Q].2.2.2.1, .int .i64 fs[Q].2.2.2.2] 58))
        have hb5 : Hid (∃ f : RF, Box (w5.alloc (.cells #[.int .i64 fs[Q].1, .int .i64 fs[Q].2.1, .bool fs[Q].2.2.1, .bool fs[Q].2.2.2.1, .int .i64 fs[Q].2.2.2.2] 58)) F (fieldC f)) := Lib.hid ⟨fs[Q], by rw [hF]; exact Box.fresh w5 _ _⟩
        go_wp2_with fail
        refine (l1Below_any B g a len cap _ _ hS5a.out.cur (by omega)).mono ?_
        rintro e w6 ⟨y, y0, y1, rfl, hc6, ho6⟩
        have hy : y < 6 := y1 (by omega)
        have hS6 := Lib.hid (hS5a.out.only ho6 hc6)
        obtain ⟨f, hb⟩ := hb5.out
        have Hb := Lib.hid (Box.grown ho6 hb (fun k hk => by have := Option.some.inj hk; omega))
        have hFz := Hb.out.1
        rw [← hF]
        clear hS5 n0' n1' n2' n3' q0 q1 k0 k1 k2 k3 k4 hfrow hF hb hb5 hS5a hc6 ho6 y1
        go_upto_block 5 with fail
        go_cut [] from 104 to 141 (fun wx => ∃ f : RF, Hid (Bt w B g a len cap 42 58 (.slice (some ⟨gm, 0, none⟩) N capm) ms R wx) ∧ Hid (Box wx F (fieldC f)))
        case first =>
          obtain ⟨⟨c0, c1, c2, c3, c4⟩, p0, p1, p2, p3, p4⟩ := (show Box w6 F [.int .i64 f.1, .int .i64 f.2.1, .bool f.2.2.1, .bool f.2.2.2.1, .int .i64 f.2.2.2.2] from Hb.out).five
          have hapF := hap.out
          have hN' := hms.out
          have hFz6 : F < w6.heap.size := hFz
          obtain rfl | rfl | rfl | rfl | rfl | rfl : y = 0 ∨ y = 1 ∨ y = 2 ∨ y = 3 ∨ y = 4 ∨ y = 5 := by omega
          · go_wp2_with fail
            refine (l4Number_any B g a len cap _ hS6.out.cur (by omega) (by omega)).mono ?_
            rintro e w7 ⟨z, hz, rfl, hc7, ho7⟩
            have hS7 := Lib.hid (hS6.out.only (Off.only ho7) hc7)
            have hB7 := Lib.hid (Box.grown (Off.only ho7) Hb.out (fun k hk => by have := Option.some.inj hk; omega))
            obtain ⟨d0, d1⟩ := hB7.out.2 0 (by simp [fieldC])
            clear hc7 ho7 hz
            go_wp2_with fail
            go_meet
            exact ⟨(z, f.2), Lib.hid (bt_F hS7.out hapF hRF _ _), Lib.hid (hB7.out.set 0 _)⟩
          · go_wp2_with fail
            refine (l1Below_any B g a len cap _ _ hS6.out.cur (by omega)).mono ?_
            rintro e w7 ⟨z, hz0', hz1', rfl, hc7, ho7⟩
            have hz11 : z < 11 := hz1' (by omega)
            have hS7 := Lib.hid (hS6.out.only ho7 hc7)
            have hB7 := Lib.hid (Box.grown ho7 Hb.out (fun k hk => by have := Option.some.inj hk; omega))
            obtain ⟨d0, d1⟩ := hB7.out.2 1 (by simp [fieldC])
            have hw1 : IntKind.i64.wrap (z - 1) = z - 1 := IntWalk.i64_in _ (by omega)
            clear hc7 ho7 hz1'
            go_wp2_with fail
            go_meet
            exact ⟨(f.1, z - 1, f.2.2), Lib.hid (bt_F hS7.out hapF hRF _ _), Lib.hid (hB7.out.set 1 _)⟩
          · go_wp2_with fail
            go_meet
            exact ⟨(f.1, f.2.1, f.2.2.1, !f.2.2.2.1, f.2.2.2.2), Lib.hid (bt_F hS6.out hapF hRF _ _), Lib.hid (Hb.out.set 3 _)⟩
          · go_wp2_with fail
            go_meet
            exact ⟨(f.1, f.2.1, !f.2.2.1, f.2.2.2), Lib.hid (bt_F hS6.out hapF hRF _ _), Lib.hid (Hb.out.set 2 _)⟩
          · go_wp2_with fail
            refine (l1PickInt_any _ g a len cap _ 6 6 [0, 5, 1, 99, 44, -1] _ _ _ _ (hS6.out.alloc _).cur (heap_alloc_new _ _) rfl rfl (by omega) (by omega) (by omega)).mono ?_
            rintro e w7 ⟨z, hz, rfl, hc7, ho7⟩
            have hS7 := Lib.hid ((hS6.out.alloc _).only ho7 hc7)
            have hB7 := Lib.hid (Box.grown ho7 (Hb.out.alloc _) (fun k hk => by have := Option.some.inj hk; omega))
            obtain ⟨d0, d1⟩ := hB7.out.2 4 (by simp [fieldC])
            clear hc7 ho7 hz
            go_wp2_with fail
            go_meet
            exact ⟨(f.1, f.2.1, f.2.2.1, f.2.2.2.1, z), Lib.hid (bt_F hS7.out hapF hRF _ _), Lib.hid (hB7.out.set 4 _)⟩
          · obtain ⟨n0', n1', n2', n3'⟩ := hS6.out.own.cellsAt hms.out M hMl
            rw [Hu.out, HK.out] at n1'
            obtain ⟨q0, q1⟩ := hS6.out.br.2 0 (by simp)
            have hfrow6 : w6.ownsRow (w.heap.size + 3) 58 5 (.slice (some ⟨gf, 0, none⟩) fs.length capf) fs.length (fs.flatMap fieldC) := by
              have := hS6.out.own.fields M hMl
              unfold FOwn at this
              rw [Hu.out, HK.out] at this
              exact this
            have hk5 := fcells hfrow6 rfl 0 hl0
            simp only [Nat.zero_mul, Nat.zero_add] at hk5
            obtain ⟨k0, k1, k2, k3, k4, _⟩ := hk5
            have hl0i : (0 : Int) < (fs.length : Int) := by omega
            clear hfrow6
            go_wp2_with fail
            go_meet
            exact ⟨fs[0], Lib.hid (bt_F (bt_F (bt_F (bt_F (bt_F hS6.out hapF hRF _ _) hapF hRF _ _) hapF hRF _ _) hapF hRF _ _) hapF hRF _ _), Lib.hid (((((Hb.out.set 0 _).set 1 _).set 2 _).set 3 _).set 4 _)⟩
        case rest =>
          obtain ⟨f', hS7, hb7⟩ := hcut
          clear hS6 Hb hFz
          obtain ⟨⟨c0, c1, c2, c3, c4⟩, p0, p1, p2, p3, p4⟩ := (show Box wc F [.int .i64 f'.1, .int .i64 f'.2.1, .bool f'.2.2.1, .bool f'.2.2.2.1, .int .i64 f'.2.2.2.2] from hb7.out).five
          obtain ⟨n0', n1', n2', n3'⟩ := hS7.out.own.cellsAt hms.out M hMl
          rw [Hu.out, HK.out] at n1'
          obtain ⟨q0, q1⟩ := hS7.out.br.2 0 (by simp)
          have hfrow7 : wc.ownsRow (w.heap.size + 3) 58 5 (.slice (some ⟨gf, 0, none⟩) fs.length capf) fs.length (fs.flatMap fieldC) := by
            have := hS7.out.own.fields M hMl
            unfold FOwn at this
            rw [Hu.out, HK.out] at this
            exact this
          obtain ⟨k0, k1, k2, k3, k4, k5, k6, k7, k8, k9⟩ := fcells hfrow7 rfl Q hQ
          have hP := Lib.hid (bt_put hS7.out.drew M hMl (by rw [Hu.out, HK.out]) Q (by rw [HK.out]; exact hQ) f')
          have hSz : Hid (BentSzI (ms.set M (ms[M].1, ms[M].2.1, ms[M].2.2.set Q f'))) := Lib.hid ⟨by rw [List.length_set]; have := hms.out; omega, by rw [List.length_set]; have := hms.out; omega, lz_set (fun j hj => Nat.le_trans (hf5 j hj) (by omega)) _ _ (Nat.le_trans (lz_eq (m := ms[M]) rfl (by simp)) (Nat.le_trans (hf5 M hMl) (by omega))) (Nat.le_refl _)⟩
          clear hfrow7
          go_wp2_with fail
          go_still_tail 8, (by kernel_rfl)
          change wpList _ _ _ _ _ wc.drew
          have hgfR : gf ≠ R := fun e => hS7.out.ap.2 M hMl (by rw [Hu.out, e]; rfl)
          have hgfw : gf ≠ w.heap.size := by omega
          clear c0 c1 c2 c3 c4 p0 p1 p2 p3 p4 n0' n1' n2' n3'
          go_upto_region 31 with fail
          have hP2 : Bt w B g a len cap 42 58 (.slice (some ⟨gm, 0, none⟩) N capm) (ms.set M (ms[M].1, ms[M].2.1, ms[M].2.2.set Q f')) R (((((wc.setCell ⟨gf, Q * 5, none⟩ (.int .i64 f'.1)).setCell ⟨gf, Q * 5 + 1, none⟩ (.int .i64 f'.2.1)).setCell ⟨gf, Q * 5 + 2, none⟩ (.bool f'.2.2.1)).setCell ⟨gf, Q * 5 + 3, none⟩ (.bool f'.2.2.2.1)).setCell ⟨gf, Q * 5 + 4, none⟩ (.int .i64 f'.2.2.2.2)).drew := by
            have h0 := hP.out
            rw [put5_drew] at h0
            unfold put5 at h0
            exact h0
          generalize (((((wc.setCell ⟨gf, Q * 5, none⟩ (.int .i64 f'.1)).setCell ⟨gf, Q * 5 + 1, none⟩ (.int .i64 f'.2.1)).setCell ⟨gf, Q * 5 + 2, none⟩ (.bool f'.2.2.1)).setCell ⟨gf, Q * 5 + 3, none⟩ (.bool f'.2.2.2.1)).setCell ⟨gf, Q * 5 + 4, none⟩ (.int .i64 f'.2.2.2.2)).drew = W2 at hP2 ⊢
          obtain ⟨d0, d1⟩ := hP2.br.2 0 (by simp)
          obtain ⟨d2, d3⟩ := hP2.bz.2 0 (by simp)
          have hP3 := Lib.hid hP2
          clear hP2 hP k0 k1 k2 k3 k4 k5 k6 k7 k8 k9 q0 q1
          go_wp2_with fail
          refine bodyPost_ret (v := .agg #[.slice (some ⟨gm, 0, none⟩) N capm]) (by simp [results, Tryz.results16, go_sem, d2]) rfl (bt_endI hP3.out hSz.out _)
    · obtain ⟨av, cv, hav⟩ := FieldsAt.len (hS3.out.own.fieldsAt M hMl)
      rw [hav] at n1'
      have hl00 : ms[M].2.2.length = 0 := by omega
      rw [hl00] at n1'
      clear hav hl00 hl0 hfrow
      go_wp2_with fail
      refine bodyPost_ret (v := .agg #[.slice (some ⟨gm, 0, none⟩) N capm]) (by simp [results, Tryz.results16, go_sem, z0]) rfl (bt_endI hS3.out ⟨by have := hms.out; omega, by have := hms.out; omega, fun j hj => Nat.le_trans (hf5 j hj) (by omega)⟩ _)
  · go_wp2_with fail
    refine (l1Below_any B g a len cap _ _ hS3.out.cur (by omega)).mono ?_
    rintro e w4 ⟨x1, x10, x11, rfl, hc4, ho4⟩
    have hx1 : x1 < 3 := x11 (by omega)
    have hS4 := Lib.hid (hS3.out.only ho4 hc4)
    clear hS3 hc4 ho4 x11
    obtain rfl | rfl | rfl : x1 = 0 ∨ x1 = 1 ∨ x1 = 2 := by omega
    · -- another Id
      obtain ⟨c0, f0⟩ := hS4.out.br.2 0 (by simp)
      have hMi : (M : Int) < (N : Int) := by omega
      have hRl := hS4.out.br.1
      go_wp2_with fail
      go_region_with (go_at_call 36; go_loud (refine (l1PickInt_any _ g a len cap _ 5 5 [0, -1, 100, 5, 1] _ _ _ _ (hS4.out.drew.alloc _).cur (heap_alloc_new _ _) rfl rfl (by omega) (by omega) (by show w4.heap.size ≠ g; omega)).mono ?_); go_loud (rintro e w10 ⟨z, hz, rfl, hc10, ho10⟩); go_loud (have hS10 := Lib.hid ((hS4.out.drew.alloc _).only ho10 hc10)); go_loud (obtain ⟨m0, m1, m2, m3⟩ := hS10.out.own.cellsAt hms.out M (by have := hms.out; omega)); go_loud (obtain ⟨d0, q0⟩ := hS10.out.br.2 0 (by simp)); go_loud (have hSid := Lib.hid (hS10.out.setId hms.out M (by have := hms.out; omega) z)); go_loud (obtain ⟨d1, q1⟩ := hSid.out.br.2 0 (by simp)); go_loud (obtain ⟨d2, q2⟩ := hSid.out.bz.2 0 (by simp)); go_loud (have hz5 := five_in hz); go_loud (clear hc10 ho10 hz))
      all_goals
        go_wp2_with fail
        refine bodyPost_ret (v := .agg #[.slice (some ⟨gm, 0, none⟩) N capm]) (by simp [results, Tryz.results16, go_sem, d2]) rfl (bt_endI hSid.out ⟨by rw [List.length_set]; have := hms.out; omega, by rw [List.length_set]; have := hms.out; omega, lz_set (fun j hj => Nat.le_trans (hf5 j hj) (by omega)) _ _ (lz_new (M := M) (by have := hms.out; omega) (hf5 M (by have := hms.out; omega)) hz5) (Nat.le_refl _)⟩ _)
    · -- messages more
      go_wp2_with fail
      go_loopw [54] (fun _ wr => ∃ (u : Value) (ms' : List OM), 0 < ms'.length ∧ ms'.length ≤ 7 ∧ Hid (Bt w B g a len cap 42 58 u ms' R wr) ∧ Hid (∀ j (hj : j < ms'.length), lz ms'[j] ≤ 5)) (fun _ wr => 7 - lenAt wr R)
      case atStart => exact ⟨_, ms, by have := hms.out; omega, by have := hms.out; omega, hS4, Lib.hid hf5⟩
      case round =>
        obtain ⟨u, ms', hl0, hl7, hS, hf⟩ := hrel
        clear hS4
        obtain ⟨g2, cap2, hu, _, _⟩ := World.ownsRow.form hS.out.own.row hl0
        subst hu
        obtain ⟨c0, f0⟩ := hS.out.br.2 0 (by simp)
        have hla := Lib.hid (lenAt_of hS.out.br)
        have hRl := hS.out.br.1
        go_wp2_with fail
        go_region_with (go_at_call 34; go_loud (refine (l1Below_any B g a len cap _ _ hS.out.drew.cur (by omega)).mono ?_); go_loud (rintro e w10 ⟨x, x0, x1, rfl, hc, ho⟩); go_loud (have hx : x < 2 := x1 (by omega)); go_loud (have hS10 := Lib.hid (hS.out.drew.only ho hc)); go_loud (obtain ⟨d0, q0⟩ := hS10.out.br.2 0 (by simp)); go_loud (have hw6 : IntKind.i64.wrap (6 + x) = 6 + x := IntWalk.i64_in _ (by omega)); go_loud (clear x1 hc ho))
        all_goals
          have hRl2 := hS10.out.br.1
          obtain ⟨d1, q1⟩ := hS10.out.bz.2 0 (by simp)
          by_cases hlt : (ms'.length : Int) < 6 + x
          · have hcap := hS10.out.own.row
            have hnew : (w10.alloc (.cells #[.int .i64 (20 + (ms'.length : Int)), .slice none 0 0] 42)).heap[w10.heap.size]? = some (.cells #[.int .i64 (20 + (ms'.length : Int)), .slice none 0 0] 42 (0, 0)) := heap_alloc_new _ _
            go_wp2_with (at_builtin; refine wpList_append_lies _ (by rfl) (.tmp 62) (.tmp 68) 24 (by rfl) (w.heap.size + 3) 42 i0 _ 2 32 Tryz.underlying24 hi hz0 hz1 hz2 (by rfl) (by omega) (.slice (some ⟨g2, 0, none⟩) ms'.length cap2) _ _ (by rfl) (World.ownsRow.alloc hcap _) ⟨w10.heap.size, 0, none⟩ 1 1 [.int .i64 (20 + (ms'.length : Int)), .slice none 0 0] (by rfl) (by rfl) (fun j u hj => World.news_of_block hnew j u hj) (by intro u hu; simp at hu; rcases hu with rfl | rfl <;> rfl) (by omega) (by unfold maxLen; omega) (by omega) (by simp; omega) (w10.heap.size + 1) (by simp) ?_; intro g' cap' w2 hown2 hg2 hor2 hlt2; have e01 := bt_cells hS10.out _ hg2; obtain ⟨e0, e1⟩ := e01)
            have hE := Lib.hid (bt_push hS10.out _ hg2 _ g' cap' hown2 hor2)
            have hla2 := Lib.hid (lenAt_of hE.out.br)
            go_roundw
            case rel => exact ⟨_, _, by simp, by simp <;> omega, hE, Lib.hid (lz_push hf.out _ (lz_of (by simp) (by simp only; omega)))⟩
            case measure => rw [hla.out, hla2.out]; omega
          · have hge : 6 + x ≤ (ms'.length : Int) := by omega
            go_wp2_with fail
            refine bodyPost_ret (v := .agg #[_]) (by simp [results, Tryz.results16, go_sem, d1]) rfl (bt_endI hS10.out ⟨hl0, hl7, fun j hj => Nat.le_trans (hf.out j hj) (by omega)⟩ _)
    · -- fields more
      go_wp2_with fail
      go_loopw [5] (fun i wr => ∃ (k : Nat) (ms' : List OM), k ≤ 9 ∧ i = .int .i64 k ∧ ms'.length = N ∧ Hid (∀ j (hj : j < ms'.length), lz ms'[j] ≤ 5 + k) ∧ Hid (Bt w B g a len cap 42 58 (.slice (some ⟨gm, 0, none⟩) N capm) ms' R wr)) (fun i _ => 9 - (intOf i).toNat)
      case atStart => exact ⟨0, ms, by omega, rfl, hms.out, Lib.hid (fun j hj => Nat.le_trans (hf5 j hj) (by omega)), hS4⟩
      case round =>
        obtain ⟨k, ms', hk9, rfl, hml, hf, hS⟩ := hrel
        clear hS4
        have hRl := hS.out.br.1
        go_wp2_with fail
        refine (l1Below_any B g a len cap _ _ hS.out.cur (by omega)).mono ?_
        rintro e w10 ⟨x, x0, x1, rfl, hc, ho⟩
        have hx : x < 2 := x1 (by omega)
        have hS10 := Lib.hid (hS.out.only ho hc)
        clear hS x1 hc ho
        have hRl2 := hS10.out.br.1
        by_cases hlt : (k : Int) < 8 + x
        · have hMl : M < ms'.length := by omega
          obtain ⟨n0', n1', n2', n3'⟩ := hS10.out.own.cellsAt hml M hMl
          obtain ⟨q0, _⟩ := hS10.out.br.2 0 (by simp)
          have hlk : ms'[M].2.2.length ≤ 5 + k := lz_len (hf.out M hMl)
          have hMi : (M : Int) < (N : Int) := by omega
          have hfrow : w10.ownsRow (w.heap.size + 3) 58 5 ms'[M].2.1 ms'[M].2.2.length (ms'[M].2.2.flatMap fieldC) := hS10.out.own.fields M hMl
          have hgmlt : gm < w10.heap.size := (hS10.out.own.row.lt gm rfl).2
          have hw100 : IntKind.i64.wrap (100 + (k : Int)) = 100 + (k : Int) := IntWalk.i64_in _ (by omega)
          have hnew : (w10.alloc (.cells #[.int .i64 (100 + (k : Int)), .int .i64 1, .bool false, .bool false, .int .i64 0] 58)).heap[w10.heap.size]? = some (.cells #[.int .i64 (100 + (k : Int)), .int .i64 1, .bool false, .bool false, .int .i64 0] 58 (0, 0)) := heap_alloc_new _ _
          go_wp2_with fail
          go_region_law (refine step_append_lies _ (by rfl) _ _ 40 (by rfl) (w.heap.size + 3) 58 j0 _ 5 32 Tryz.underlying40 hj hj0 hj1 hj2 (by rfl) (by omega) ms'[M].2.1 _ _ (by rfl) (World.ownsRow.alloc hfrow _) ⟨w10.heap.size, 0, none⟩ 1 1 [.int .i64 (100 + (k : Int)), .int .i64 1, .bool false, .bool false, .int .i64 0] (by rfl) (by rfl) (fun j u hj => World.news_of_block hnew j u hj) (by intro u hu; simp at hu; rcases hu with rfl | rfl | rfl | rfl | rfl <;> rfl) (by omega) (by unfold maxLen; omega) (by omega) (by simp; omega) (w10.heap.size + 1) (by simp) ?_; intro g' cap' w2 hown2 hg2 hor2 hlt2; have e012 := bt_cellsF hS10.out hml M hMl _ hg2; obtain ⟨e0, e1, e2⟩ := e012)
          all_goals
            have hE := Lib.hid (bt_field hS10.out hml M hMl _ hg2 (100 + (k : Int), 1, false, false, 0) g' cap' hown2 hor2)
            have hLs := Lib.hid (lz_set (m := 5 + (k + 1)) hf.out M (ms'[M].1, Value.slice (some ⟨g', 0, none⟩) (ms'[M].2.2.length + 1) cap', ms'[M].2.2 ++ [(100 + (k : Int), 1, false, false, 0)]) (lz_app _ _ (hf.out M hMl)) (by omega))
            clear n0' n1' n2' n3' q0 e0 e1 e2 hfrow hnew hown2 hg2
            go_wp2_with fail
            refine ⟨⟨k + 1, _, by omega, by go_num, (List.length_set.trans hml : _), hLs, hE⟩, by simp [intOf] <;> omega⟩
        · have hge : 8 + x ≤ (k : Int) := by omega
          obtain ⟨d0, q0⟩ := hS10.out.br.2 0 (by simp)
          obtain ⟨d1, q1⟩ := hS10.out.bz.2 0 (by simp)
          go_wp2_with fail
          refine bodyPost_ret (v := .agg #[_]) (by simp [results, Tryz.results16, go_sem, d1]) rfl (bt_endI hS10.out ⟨by omega, by omega, fun j hj => Nat.le_trans (hf.out j hj) (by omega)⟩ _)
end Go.Proofs.YtcbohfncckpolaaGreatDoor.Num
