/-
  The walk of the reference's draw of a right plan (l6Right).
-/
import Derived.Test.YtpkofbdfnbpfpaaGreatRound
import Derived.Test.YtpkofbdfnbpfpaaGreatDrawOnce
import Derived.Test.YtpkofbdfnbpfpaaGreatDrawPickInt
import Derived.Test.YtpkofbdfnbpfpaaGreatRight
import Derived.Deep.RegionWith
import Derived.Deep.RegionLaw
import Derived.Deep.DrawnRows
import Derived.Deep.DeepCutAuto
namespace Go.Proofs.YtpkofbdfnbpfpaaGreat.Num
open Go.RowKit Go.Proofs
set_option linter.unusedVariables false

theorem num_six {z : Int} (h : z ∈ [16, 2047, 2048, 18999, 20000, 536870911]) : numOkB z = true := by
  simp only [List.mem_cons, List.not_mem_nil, or_false] at h
  unfold numOkB Fits
  exact decide_eq_true (by omega)
set_option maxHeartbeats 4000000 in
set_option maxRecDepth 100000 in
theorem l6Right_any (B g : Nat) (a : Option Addr) (len cap : Nat) (w : World) (h : Cur w B g a len cap) (hB : B ≤ w.heap.size) (hg : g < w.heap.size) :
    Calls Tryz.prog 121 #[.pointer (some ⟨g, 0, none⟩)] w fun e w' => ∃ (v : Value) (ms : List OM), (0 < ms.length ∧ ms.length ≤ 4 ∧ (∀ j (hj : j < ms.length), ms[j].2.2.length ≤ 5) ∧ Right ms) ∧ e = .returned (.agg #[v]) ∧ OwnRaw w' (w.heap.size + 2) 187 189 v ms ∧ Cur w' B g a len cap ∧ Off w.heap.size g w w' := by
  have H := Lib.hid h; clear h
  have hgB : B ≤ g := H.out.choose_spec.choose_spec.1
  obtain ⟨i0, hi, hz0, hz1, hz2⟩ : ∃ i : TypeInfo, Tryz.prog.info? 187 = some i ∧ i.zero = some (.agg #[.int .i64 0, .slice none 0 0]) ∧ i.size = 2 ∧ i.bytes = 32 := ⟨_, by rfl, by rfl, by rfl, by rfl⟩
  obtain ⟨j0, hj, hj0, hj1, hj2⟩ : ∃ i : TypeInfo, Tryz.prog.info? 189 = some i ∧ i.zero = some (.agg #[.int .i64 0, .int .i64 0, .bool false, .bool false, .int .i64 0]) ∧ i.size = 5 ∧ i.bytes = 32 := ⟨_, by rfl, by rfl, by rfl, by rfl⟩
  go_enter Tryz.func121, Tryz.ntmps121
  go_wp2_with fail
  refine (l1Below_any B g a len cap _ _ (H.out.other (((Below.refl w.heap.size w).alloc (Nat.le_refl _) _).alloc (by simp) _) (by omega) (by omega)) (by omega)).mono ?_
  rintro e w1 ⟨n, n0, n1, rfl, hc1, ho1⟩
  have hn : n < 3 := n1 (by omega)
  have Hc1 := Lib.hid hc1
  obtain ⟨N, rfl⟩ := Int.eq_ofNat_of_zero_le n0
  have hz1' : w.heap.size + 1 < w1.heap.size := by have := ho1.size; simp at this; omega
  have hx1 : Hid (Box w1 (w.heap.size + 1) [.slice none 0 0]) := Lib.hid (Box.grown ho1 (Box.fresh2 w _ _ _) (fun k hk => by have := Option.some.inj hk; omega))
  have hy1 : Hid (Box w1 w.heap.size [.slice none 0 0]) := Lib.hid (Box.grown ho1 ((Box.fresh w _ _).alloc _) (fun k hk => by have := Option.some.inj hk; omega))
  have hf1 : Off w.heap.size g w w1 := (Below.off (((Below.refl w.heap.size w).alloc (Nat.le_refl _) _).alloc (by simp) _)).trans (Only.off ho1 (by simp; omega))
  clear n1 hc1 ho1
  go_wp2_with fail
  go_loopw [5] (fun i wr => ∃ (ms : List OM) (u : Value), ms.length ≤ N + 1 ∧ i = .int .i64 ms.length ∧ Fs ms 0 0 ∧ Hid (rightIds ms) ∧ Hid (OwnRaw wr (w.heap.size + 2) 187 189 u ms) ∧ Hid (Box wr (w.heap.size + 1) [u]) ∧ Hid (Box wr w.heap.size [.slice none 0 0]) ∧ Hid (Cur wr B g a len cap) ∧ Off w.heap.size g w wr ∧ w.heap.size + 2 ≤ wr.heap.size) (fun i _ => N + 1 - (intOf i).toNat)
  case atStart => exact ⟨[], .slice none 0 0, by simp, rfl, (fun j hj => by simp at hj), Lib.hid Right.start.1, Lib.hid (OwnRaw.start _ _ _ _), hx1, hy1, Hc1, hf1, by omega⟩
  case round =>
    obtain ⟨ms, u, hk, rfl, hfs0, hri, hown, hbx, hby, hcur, hof, hsz⟩ := hrel
    clear hx1 hy1
    by_cases hlt : ms.length < N + 1
    · have hlti : (ms.length : Int) < 1 + (N : Int) := by omega
      obtain ⟨c0, f0⟩ := hbx.out.2 0 (by simp)
      have hcap := hown.out.row
      have hlt1 : w.heap.size + 1 < wr.heap.size := by omega
      have hlt0 : w.heap.size < wr.heap.size := by omega
      have hi4 : (ms.length : Int) < 4 := by omega
      obtain ⟨id, hid, hid4⟩ : ∃ id : Int, (#[Value.int .i64 5, .int .i64 1, .int .i64 99, .int .i64 7] : Array Value)[ms.length]? = some (.int .i64 id) ∧ fourIds[ms.length]? = some id := by
        rcases (by omega : ms.length = 0 ∨ ms.length = 1 ∨ ms.length = 2 ∨ ms.length = 3) with e | e | e | e <;> rw [e] <;> exact ⟨_, rfl, rfl⟩
      have hcell : (wr.alloc (.cells #[.int .i64 5, .int .i64 1, .int .i64 99, .int .i64 7] 3)).cell? ⟨wr.heap.size, ms.length, none⟩ = some (.int .i64 id) := by
        rw [cell_of_row _ _ _ _ _ _ (heap_alloc_new _ _), hid]
      have hnew : ((wr.alloc (.cells #[.int .i64 5, .int .i64 1, .int .i64 99, .int .i64 7] 3)).alloc (.cells #[.int .i64 id, .slice none 0 0] 187)).heap[wr.heap.size + 1]? = some (.cells #[.int .i64 id, .slice none 0 0] 187 (0, 0)) := by
        have := heap_alloc_new (wr.alloc (.cells #[.int .i64 5, .int .i64 1, .int .i64 99, .int .i64 7] 3)) (.cells #[.int .i64 id, .slice none 0 0] 187)
        simpa using this
      go_wp2_with fail
      go_region_law (refine step_append_lies _ (by rfl) _ _ 147 (by rfl) (w.heap.size + 2) 187 i0 _ 2 32 Tryz.underlying147 hi hz0 hz1 hz2 (by rfl) (by omega) u _ _ (by rfl) (World.ownsRow.alloc (World.ownsRow.alloc hcap _) _) ⟨wr.heap.size + 1, 0, none⟩ 1 1 [.int .i64 id, .slice none 0 0] (by rfl) (by rfl) (fun j u hj => World.news_of_block hnew j u hj) (by intro u hu; simp at hu; rcases hu with rfl | rfl <;> rfl) (by omega) (by unfold maxLen; omega) (by omega) (by simp; omega) (wr.heap.size + 2) (by simp) ?_; intro g' cap' w2 hown2 hg2 hor2 hlt2; have hx2 : Hid (Box w2 (w.heap.size + 1) [u]) := Lib.hid (Box.grown hg2 (Box.alloc (Box.alloc hbx.out _) _) (fun k hk => by have := (hcap.lt k hk).1; omega)); obtain ⟨d0, q0⟩ := hx2.out.2 0 (by simp))
      all_goals
        have hb2 : Below (w.heap.size + 2) wr w2 := Below.grown (Below.drew (Below.alloc (Below.alloc (Below.refl _ _) hsz _) (by simp; omega) _)) hg2 (by simp; omega) (fun k hk => (hcap.lt k hk).1)
        have hb3 : Below (w.heap.size + 1) wr (w2.setCell ⟨w.heap.size + 1, 0, none⟩ (.slice (some ⟨g', 0, none⟩) (ms.length + 1) cap')) := (hb2.mono (by omega)).setCell (by simp) _
        have hnx : OwnRaw (w2.setCell ⟨w.heap.size + 1, 0, none⟩ (.slice (some ⟨g', 0, none⟩) (ms.length + 1) cap')) (w.heap.size + 2) 187 189 (.slice (some ⟨g', 0, none⟩) (ms.length + 1) cap') (ms ++ [(id, .slice none 0 0, [])]) := by
          have hp := OwnRaw.push (OwnRaw.alloc (OwnRaw.alloc hown.out _) _).drew (by simp; omega) hown2 hg2 (by rcases hor2 with e | e; exact .inl e.symm; exact .inr (by simp [Value.ownBlock, e]))
          exact hp.other _ (hp.out (k := w.heap.size + 1) (by omega)).1 (hp.out (k := w.heap.size + 1) (by omega)).2
        go_wp2_with fail
        refine ⟨⟨ms ++ [(id, .slice none 0 0, [])], _, by simp <;> omega, by first | (simp; done) | (simp; go_num), hfs0.push _ _, Lib.hid (hri.out.push (by omega) hid4 _), Lib.hid hnx, Lib.hid (hx2.out.set 0 _), Lib.hid (hby.out.below hb3 (by omega)), Lib.hid (hcur.out.other hb3 (by omega) (by omega)), hof.trans (Below.off (hb3.mono (by omega))), by have := hb3.size; omega⟩, by simp [intOf] <;> omega⟩
    · have hge : (1 : Int) + (N : Int) ≤ (ms.length : Int) := by omega
      have hend : decide ((N : Int) + 1 < 1 + (N : Int)) = false := decide_eq_false (by omega)
      have hml : ms.length = N + 1 := by omega
      obtain ⟨gm, capm, hu, hgm1, hgm2⟩ := World.ownsRow.form hown.out.row (by omega)
      subst hu
      clear hlt hge hk
      rw [hml] at hbx hown ⊢
      have hmlH := Lib.hid hml
      clear hml
      rw [Int.natCast_add, Int.cast_ofNat_Int]
      go_wp2_with fail
      go_loopw [6] (fun i wx => ∃ (k : Nat) (ms' : List OM), k ≤ N + 1 ∧ i = .int .i64 k ∧ ms'.length = N + 1 ∧ Fs ms' k 0 ∧ Hid (Right ms') ∧ Hid (OwnRaw wx (w.heap.size + 2) 187 189 (.slice (some ⟨gm, 0, none⟩) (N + 1) capm) ms') ∧ Hid (Box wx (w.heap.size + 1) [.slice (some ⟨gm, 0, none⟩) (N + 1) capm]) ∧ Hid (Box wx w.heap.size [.slice none 0 0]) ∧ Hid (Cur wx B g a len cap) ∧ Off w.heap.size g w wx ∧ w.heap.size + 2 ≤ wx.heap.size) (fun i _ => N + 1 - (intOf i).toNat)
      case atStart => exact ⟨0, ms, by omega, rfl, hmlH.out, hfs0, Lib.hid (Right.of_ids hri.out fun j hj => by
        have h := hfs0 j hj
        rcases Nat.eq_zero_or_pos j with e | e
        · have := h.2.1 e; omega
        · exact h.2.2 e), hown, hbx, hby, hcur, hof, hsz⟩
      case round =>
        obtain ⟨k, ms', hk', rfl, hml', hfs, hrt, hown', hbx', hby', hcur', hof', hsz'⟩ := hrel
        clear hown hbx hby hcur hof hsz
        by_cases hlt' : k < N + 1
        · have hlti : (k : Int) < 1 + (N : Int) := by omega
          go_wp2_with fail
          refine (l1Below_any B g a len cap _ _ hcur'.out (by omega)).mono ?_
          rintro e w2 ⟨m, m0, m1, rfl, hc2, ho2⟩
          have hm : m < 6 := m1 (by omega)
          obtain ⟨M, rfl⟩ := Int.eq_ofNat_of_zero_le m0
          have hown2 := Lib.hid (OwnRaw.only hown'.out ho2 (by omega))
          have hbx2 := Lib.hid (Box.grown ho2 hbx'.out (fun k hk => by have := Option.some.inj hk; omega))
          have hby2 := Lib.hid (Box.grown ho2 hby'.out (fun k hk => by have := Option.some.inj hk; omega))
          have hof2 : Off w.heap.size g w w2 := hof'.trans (Only.off ho2 (by omega))
          have hsz2 : w.heap.size + 2 ≤ w2.heap.size := by have := ho2.size; omega
          have Hc2 := Lib.hid hc2
          clear hown' hbx' hby' hof' hsz' hcur' hc2 ho2 m1
          go_wp2_with fail
          go_loopw [8] (fun i wx => ∃ (c : Nat) (ms'' : List OM), c ≤ M ∧ i = .int .i64 c ∧ ms''.length = N + 1 ∧ Fs ms'' k c ∧ Hid (Right ms'') ∧ Hid (OwnRaw wx (w.heap.size + 2) 187 189 (.slice (some ⟨gm, 0, none⟩) (N + 1) capm) ms'') ∧ Hid (Box wx (w.heap.size + 1) [.slice (some ⟨gm, 0, none⟩) (N + 1) capm]) ∧ Hid (Box wx w.heap.size [.slice none 0 0]) ∧ Hid (Cur wx B g a len cap) ∧ Off w.heap.size g w wx ∧ w.heap.size + 2 ≤ wx.heap.size) (fun i _ => M - (intOf i).toNat)
          case atStart => exact ⟨0, ms', by omega, rfl, hml', hfs, hrt, hown2, hbx2, hby2, Hc2, hof2, hsz2⟩
          case round =>
            obtain ⟨c, ms2, hc', rfl, hml2, hfs2, hrt2, hown3, hbx3, hby3, hcur3, hof3, hsz3⟩ := hrel
            clear hown2 hbx2 hby2 hof2 hsz2 Hc2 hfs hml' hrt
            by_cases hlc : c < M
            · have hlci : (c : Int) < (M : Int) := by omega
              go_wp2_with fail
              refine (l1Below_any B g a len cap _ _ hcur3.out (by omega)).mono ?_
              rintro e w4 ⟨x1, x10, x11, rfl, hc4, ho4⟩
              have hx1 : x1 < 12 := x11 (by omega)
              have hown4 := Lib.hid (OwnRaw.only hown3.out ho4 (by omega))
              have hbx4 := Lib.hid (Box.grown ho4 hbx3.out (fun k hk => by have := Option.some.inj hk; omega))
              have hby4 := Lib.hid (Box.grown ho4 hby3.out (fun k hk => by have := Option.some.inj hk; omega))
              have hof4 : Off w.heap.size g w w4 := hof3.trans (Only.off ho4 (by omega))
              have hsz4 : w.heap.size + 2 ≤ w4.heap.size := by have := ho4.size; omega
              have Hc4 := Lib.hid hc4
              clear hown3 hbx3 hby3 hof3 hsz3 hcur3 hc4 ho4 x11
              go_wp2_with fail
              refine (l1Below_any B g a len cap _ _ Hc4.out (by omega)).mono ?_
              rintro e w5 ⟨x2, x20, x21, rfl, hc5, ho5⟩
              have hx2 : x2 < 8 := x21 (by omega)
              have hown5 := Lib.hid (OwnRaw.only hown4.out ho5 (by omega))
              have hbx5 := Lib.hid (Box.grown ho5 hbx4.out (fun k hk => by have := Option.some.inj hk; omega))
              have hby5 := Lib.hid (Box.grown ho5 hby4.out (fun k hk => by have := Option.some.inj hk; omega))
              have hof5 : Off w.heap.size g w w5 := hof4.trans (Only.off ho5 (by omega))
              have hsz5 : w.heap.size + 2 ≤ w5.heap.size := by have := ho5.size; omega
              have Hc5 := Lib.hid hc5
              clear hown4 hbx4 hby4 hof4 hsz4 Hc4 hc5 ho5 x21
              go_wp2_with fail
              refine (l1Once_any B g a len cap _ _ Hc5.out (by omega)).mono ?_
              rintro e w6 ⟨b1, rfl, hc6, ho6⟩
              have hown6 := Lib.hid (OwnRaw.only hown5.out ho6 (by omega))
              have hbx6 := Lib.hid (Box.grown ho6 hbx5.out (fun k hk => by have := Option.some.inj hk; omega))
              have hby6 := Lib.hid (Box.grown ho6 hby5.out (fun k hk => by have := Option.some.inj hk; omega))
              have hof6 : Off w.heap.size g w w6 := hof5.trans (Only.off ho6 (by omega))
              have hsz6 : w.heap.size + 2 ≤ w6.heap.size := by have := ho6.size; omega
              have Hc6 := Lib.hid hc6
              clear hown5 hbx5 hby5 hof5 hsz5 Hc5 hc6 ho6
              go_wp2_with fail
              obtain ⟨F, hF⟩ : ∃ F, F = w6.heap.size := ⟨_, rfl⟩
              have hFlt : w.heap.size + 2 ≤ F := by omega
              refine (l1Once_any B g a len cap _ _ (Hc6.out.other ((Below.refl w6.heap.size _).alloc (Nat.le_refl _) _) (by omega) (by omega)) (by omega)).mono ?_
              rintro e w7 ⟨b2, rfl, hc7, ho7⟩
              have hS7 : Hid (St w B g a len cap 187 189 (.slice (some ⟨gm, 0, none⟩) (N + 1) capm) ms2 F [.int .i64 (1 + x1), .int .i64 (1 + x2), .bool b1, .bool false, .int .i64 0] w7) := by
                have h6 : St w B g a len cap 187 189 (.slice (some ⟨gm, 0, none⟩) (N + 1) capm) ms2 F [.int .i64 (1 + x1), .int .i64 (1 + x2), .bool b1, .bool false, .int .i64 0] (w6.alloc (.cells #[.int .i64 (1 + x1), .int .i64 (1 + x2), .bool b1, .bool false, .int .i64 0] 189)) :=
                  ⟨by rw [hF]; exact Box.fresh w6 _ _, hown6.out.alloc _, hbx6.out.alloc _, hby6.out.alloc _, Hc6.out.other ((Below.refl w6.heap.size _).alloc (Nat.le_refl _) _) (by omega) (by omega), hof6.trans (Below.off ((Below.refl _ _).alloc (by omega) _)), ⟨hg, hFlt, hB⟩, by rw [hF]; exact hown6.out.new⟩
                exact Lib.hid (h6.only ho7 hc7)
              rw [← hF]
              clear hown6 hbx6 hby6 hof6 hsz6 Hc6 hc7 ho7 hF
              go_upto_if 51 with fail
              go_cut [] from 52 to 103 (fun wx => ∃ z : Int, Hid (numOkB z = true) ∧ Hid (St w B g a len cap 187 189 (.slice (some ⟨gm, 0, none⟩) (N + 1) capm) ms2 F [.int .i64 z, .int .i64 (1 + x2), .bool b1, .bool false, .int .i64 0] wx))
              case first =>
                have hz7 := hS7.out.bf.1
                cases b2
                · go_wp2_with fail
                  go_meet
                  exact ⟨_, Lib.hid (by unfold numOkB Fits; exact decide_eq_true (by omega)), hS7⟩
                · go_wp2_with fail
                  refine (l1PickInt_any _ g a len cap _ 6 6 [16, 2047, 2048, 18999, 20000, 536870911] _ _ _ _ (hS7.out.alloc _).cur (heap_alloc_new _ _) rfl rfl (by omega) (by omega) (by omega)).mono ?_
                  rintro e w8 ⟨z, hz, rfl, hc8, ho8⟩
                  have hS8 := Lib.hid ((hS7.out.alloc _).only ho8 hc8)
                  obtain ⟨⟨c0, c1, c2, c3, c4⟩, f0, f1, f2, f3, f4⟩ := hS8.out.bf.five
                  clear hc8 ho8
                  go_wp2_with fail
                  go_meet
                  exact ⟨z, Lib.hid (num_six hz), Lib.hid (hS8.out.set 0 _)⟩
              case rest =>
                obtain ⟨z1, hok1, hS8⟩ := hcut
                clear hS7
                go_upto_region 17 with fail
                go_cut [] from 56 to 103 (fun wx => ∃ p : Bool, Hid (p = true → b1 = true ∧ numericB (1 + x2) = true) ∧ Hid (St w B g a len cap 187 189 (.slice (some ⟨gm, 0, none⟩) (N + 1) capm) ms2 F [.int .i64 z1, .int .i64 (1 + x2), .bool b1, .bool p, .int .i64 0] wx))
                case first =>
                  obtain ⟨⟨c0, c1, c2, c3, c4⟩, f0, f1, f2, f3, f4⟩ := hS8.out.bf.five
                  cases b1
                  · go_wp2_with fail
                    go_meet
                    exact ⟨_, Lib.hid (fun h => by cases h), Lib.hid (hS8.out.set 3 _)⟩
                  · go_wp2_with fail
                    refine (specNumeric_any _ _).mono ?_
                    rintro e w9 ⟨rfl, rfl⟩
                    obtain ⟨q, hq0⟩ : ∃ q, numericB (1 + x2) = q := ⟨_, rfl⟩
                    have Hq := Lib.hid hq0
                    rw [hq0]
                    clear hq0
                    cases q
                    · go_wp2_with fail
                      go_meet
                      exact ⟨_, Lib.hid (fun h => by cases h), Lib.hid (hS8.out.set 3 _)⟩
                    · go_wp2_with fail
                      refine (l1Once_any B g a len cap _ _ hS8.out.cur (by omega)).mono ?_
                      rintro e w9 ⟨b3, rfl, hc9, ho9⟩
                      have hS9 := Lib.hid (hS8.out.only ho9 hc9)
                      obtain ⟨⟨d0, d1, d2, d3, d4⟩, g0, g1, g2, g3, g4⟩ := hS9.out.bf.five
                      clear hc9 ho9
                      go_wp2_with fail
                      go_meet
                      exact ⟨_, Lib.hid (fun _ => ⟨by trivial, by first | trivial | exact Hq.out⟩), Lib.hid (hS9.out.set 3 _)⟩
                case rest =>
                  obtain ⟨p1, hpk1, hS9⟩ := hcut
                  clear hS8
                  obtain ⟨⟨c0, c1, c2, c3, c4⟩, f0, f1, f2, f3, f4⟩ := hS9.out.bf.five
                  go_upto_if 70 with fail
                  go_cut [] from 70 to 103 (fun wx => ∃ r : Int, Hid ((1 + x2 = 8 → ∃ j, ∃ h : j < ms2.length, ms2[j].1 = r) ∧ (1 + x2 ≠ 8 → r = 0)) ∧ Hid (St w B g a len cap 187 189 (.slice (some ⟨gm, 0, none⟩) (N + 1) capm) ms2 F [.int .i64 z1, .int .i64 (1 + x2), .bool b1, .bool p1, .int .i64 r] wx))
                  case first =>
                    obtain ⟨q0, _⟩ := hS9.out.bx.2 0 (by simp)
                    by_cases h8 : 1 + x2 = 8
                    · have hb8 : (1 + x2 == 8) = true := by rw [h8]; rfl
                      have H8 := Lib.hid h8
                      clear h8
                      go_wp2_with fail
                      go_region_with (go_at_call 56; go_loud (refine (l1Below_any B g a len cap _ _ hS9.out.drew.cur (by omega)).mono ?_); go_loud (rintro e w10 ⟨r, r0, r1, rfl, hc10, ho10⟩); go_loud (have hr := r1 (by omega)); go_loud (obtain ⟨R, hR⟩ := Int.eq_ofNat_of_zero_le r0); go_loud (subst hR); go_loud (have hRn : R < ms2.length := by omega); go_loud (have hRi : (R : Int) < (N : Int) + 1 := by omega); go_loud (have hS10 := Lib.hid (hS9.out.drew.only ho10 hc10)); go_loud (obtain ⟨m0, _⟩ := hS10.out.own.cellsAt hml2 R hRn); go_loud (obtain ⟨q1, _⟩ := hS10.out.bx.2 0 (by simp)); go_loud (obtain ⟨⟨d0, d1, d2, d3, d4⟩, p0, p1', p2, p3, p4⟩ := hS10.out.bf.five); go_loud (clear r1 hc10 ho10))
                      all_goals
                        go_wp2_with fail
                        go_meet
                        exact ⟨_, Lib.hid ⟨fun _ => ⟨R, hRn, rfl⟩, fun hh => absurd H8.out hh⟩, Lib.hid (hS10.out.set 4 _)⟩
                    · have hb8 : (1 + x2 == 8) = false := by rw [beq_eq_false_iff_ne]; exact h8
                      go_wp2_with fail
                      go_meet
                      exact ⟨_, Lib.hid ⟨fun hh => absurd hh h8, fun _ => rfl⟩, hS9⟩
                  case rest =>
                    obtain ⟨r1, hrf1, hS10⟩ := hcut
                    clear hS9 c0 c1 c2 c3 c4 f0 f1 f2 f3 f4
                    obtain ⟨⟨c0, c1, c2, c3, c4⟩, f0, f1, f2, f3, f4⟩ := hS10.out.bf.five
                    have hkn : k < ms2.length := by omega
                    obtain ⟨n0', n1', n2', n3'⟩ := hS10.out.own.cellsAt hml2 k hkn
                    obtain ⟨q0, _⟩ := hS10.out.bx.2 0 (by simp)
                    have hlk : ms2[k].2.2.length ≤ c := (hfs2 k hkn).2.1 rfl
                    have hki : (k : Int) < (N : Int) + 1 := by omega
                    go_upto_region 20 with fail
                    go_cut [89] from 80 to 88 (fun s89 wx => ∃ q : Bool, s89 = .bool q ∧ Hid (q = !hasNum ms2[k].2.2 z1) ∧ Hid (St w B g a len cap 187 189 (.slice (some ⟨gm, 0, none⟩) (N + 1) capm) ms2 F [.int .i64 z1, .int .i64 (1 + x2), .bool b1, .bool p1, .int .i64 r1] wx))
                    case first =>
                      go_region_with (go_at_call 155; refine (specHasNumber_any _ ms2[k].2.2 z1 _ (hS10.out.own.drew.fieldsAt k hkn) (by omega)).mono ?_; rintro e w11 ⟨rfl, hb11⟩)
                      all_goals
                        go_wp2_with fail
                        go_meet
                        exact ⟨_, rfl, Lib.hid rfl, Lib.hid (hS10.out.drew.below hb11)⟩
                    case rest =>
                      obtain ⟨q, rfl, hqn, hS11⟩ := hcut
                      clear hS10 c0 c1 c2 c3 c4 f0 f1 f2 f3 f4 n0' n1' n2' n3' q0
                      have hz11 := hS11.out.bf.1
                      cases q
                      · go_wp2_with fail
                        refine ⟨⟨c + 1, ms2, by omega, by go_num, hml2, hfs2.more, hrt2, Lib.hid hS11.out.own, Lib.hid hS11.out.bx, Lib.hid hS11.out.bz, Lib.hid hS11.out.cur, hS11.out.off, by omega⟩, by simp [intOf] <;> omega⟩
                      · obtain ⟨⟨c0, c1, c2, c3, c4⟩, f0, f1, f2, f3, f4⟩ := hS11.out.bf.five
                        obtain ⟨n0', n1', n2', n3'⟩ := hS11.out.own.cellsAt hml2 k hkn
                        obtain ⟨q0, _⟩ := hS11.out.bx.2 0 (by simp)
                        have hfrow : wc.ownsRow (w.heap.size + 2) 189 5 ms2[k].2.1 ms2[k].2.2.length (ms2[k].2.2.flatMap fieldC) := hS11.out.own.fields k hkn
                        have hgmlt : gm < wc.heap.size := (hS11.out.own.row.lt gm rfl).2
                        have hlt1 : w.heap.size + 1 < wc.heap.size := by omega
                        have hnew : (wc.alloc (.cells #[.int .i64 z1, .int .i64 (1 + x2), .bool b1, .bool p1, .int .i64 r1] 189)).heap[wc.heap.size]? = some (.cells #[.int .i64 z1, .int .i64 (1 + x2), .bool b1, .bool p1, .int .i64 r1] 189 (0, 0)) := heap_alloc_new _ _
                        go_wp2_with fail
                        go_region_law (refine step_append_lies _ (by rfl) _ _ 185 (by rfl) (w.heap.size + 2) 189 j0 _ 5 32 Tryz.underlying185 hj hj0 hj1 hj2 (by rfl) (by omega) ms2[k].2.1 _ _ (by rfl) (World.ownsRow.alloc hfrow _) ⟨wc.heap.size, 0, none⟩ 1 1 [.int .i64 z1, .int .i64 (1 + x2), .bool b1, .bool p1, .int .i64 r1] (by rfl) (by rfl) (fun j u hj => World.news_of_block hnew j u hj) (by intro u hu; simp at hu; rcases hu with rfl | rfl | rfl | rfl | rfl <;> rfl) (by omega) (by unfold maxLen; omega) (by omega) (by simp; omega) (wc.heap.size + 1) (by simp) ?_; intro g' cap' w2 hown2 hg2 hor2 hlt2; obtain ⟨e0, e1, e2⟩ := round_cells hS11.out hml2 k hkn _ hg2)
                        all_goals
                          obtain ⟨hown12, hbx12, hby12, hcur12, hof12, hsz12⟩ := round_end hS11.out hml2 k hkn _ hg2 (z1, 1 + x2, b1, p1, r1) g' cap' hown2 hor2
                          have HR12 := Lib.hid (hrt2.out.more k hkn (.slice (some ⟨g', 0, none⟩) (ms2[k].2.2.length + 1) cap') (z1, 1 + x2, b1, p1, r1) ⟨hok1.out, ⟨by simp only; omega, by simp only; omega⟩, hpk1.out, hrf1.out.1, hrf1.out.2⟩ (by
                            have hh := hqn.out
                            cases hx : hasNum ms2[k].2.2 z1 with
                            | false => rfl
                            | true => rw [hx] at hh; cases hh))
                          clear c0 c1 c2 c3 c4 f0 f1 f2 f3 f4 n0' n1' n2' n3' q0 e0 e1 e2 hfrow hnew hown2 hg2
                          go_wp2_with fail
                          refine ⟨⟨c + 1, _, by omega, by go_num, (List.length_set.trans hml2 : _), hfs2.set hkn _ _, HR12, hown12, hbx12, hby12, hcur12, hof12, hsz12⟩, by simp [intOf] <;> omega⟩
            · have hgec : (M : Int) ≤ (c : Int) := by omega
              have hendc : decide ((c : Int) < (M : Int)) = false := decide_eq_false (by omega)
              go_wp2_with fail
              go_roundw
              case rel => exact ⟨k + 1, ms2, by omega, by go_num, hml2, hfs2.next (by omega), hrt2, hown3, hbx3, hby3, hcur3, hof3, hsz3⟩
              case measure => simp [intOf] <;> omega
        · have hgek : (1 : Int) + (N : Int) ≤ (k : Int) := by omega
          have hendk : decide ((k : Int) < 1 + (N : Int)) = false := decide_eq_false (by omega)
          obtain ⟨d0, q0⟩ := hby'.out.2 0 (by simp)
          obtain ⟨d1, q1⟩ := hbx'.out.2 0 (by simp)
          go_wp2_with fail
          refine bodyPost_ret (v := .agg #[.slice (some ⟨gm, 0, none⟩) (N + 1) capm]) (by simp [results, Tryz.results121, go_sem, d0]) rfl ⟨_, ms', ⟨by omega, by omega, fun j hj => (hfs j hj).1 (by omega), hrt.out⟩, rfl, ?_, ?_, ?_⟩
          · exact hown'.out.other _ (hown'.out.out (k := w.heap.size) (by omega)).1 (hown'.out.out (k := w.heap.size) (by omega)).2
          · exact hcur'.out.other (C := w.heap.size) ((Below.refl _ _).setCell (by simp) _) (by omega) (by omega)
          · exact hof'.trans (Below.off ((Below.refl _ _).setCell (by simp) _))
end Go.Proofs.YtpkofbdfnbpfpaaGreat.Num
