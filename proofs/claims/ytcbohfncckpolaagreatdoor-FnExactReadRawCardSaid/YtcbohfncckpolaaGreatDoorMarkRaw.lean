/-
  The walks of the laws' markRaw and heldRaw: a description of the call's own marked cell by cell, and found so again; no other block is written.
-/
import Derived.Test.YtcbohfncckpolaaGreatDoorZone
namespace Go.Proofs.YtcbohfncckpolaaGreatDoor.Num
open Go.RowKit Go.Proofs
set_option linter.unusedVariables false
set_option linter.unusedSimpArgs false

set_option maxHeartbeats 4000000 in
theorem markF_any (g n cap : Nat) (k : Int) (w : World) (hf : Fill w g (n * 5)) (hn : n ≤ 1048576) (hk : 0 ≤ k ∧ k ≤ 1000000000000000) :
    Calls Tryz.prog 56 #[.slice (some ⟨g, 0, none⟩) n cap, .int .i64 k] w fun e w' => e = .returned (.int .i64 (k + 5 * (n : Int))) ∧ Marked w' g k (n * 5) ∧ Fill w' g (n * 5) ∧ w.grownBy w' (some g) ∧ w'.heap.size = w.heap.size := by
  have HF := Lib.hid hf
  clear hf
  go_enter Tryz.func56, Tryz.ntmps56
  go_wp2_with fail
  go_loopw [1, 5] (fun kk ii wr => ∃ i : Nat, i ≤ n ∧ kk = .int .i64 (k + 5 * (i : Int)) ∧ ii = .int .i64 i ∧ Hid (Marked wr g k (i * 5)) ∧ Hid (Fill wr g (n * 5)) ∧ Hid (w.grownBy wr (some g)) ∧ wr.heap.size = w.heap.size) (fun _ ii _ => n - (intOf ii).toNat)
  case atStart => exact ⟨0, by omega, by simp, rfl, Lib.hid fun j hj => by omega, HF, Lib.hid ⟨rfl, rfl, rfl, Nat.le_refl _, fun _ _ _ => rfl⟩, rfl⟩
  case round =>
    obtain ⟨i, hi, rfl, rfl, hm, hf, hg, hz⟩ := hrel
    by_cases hlt : i < n
    · have hlti : (i : Int) < (n : Int) := by omega
      obtain ⟨v0, a0, b0⟩ := hf.out.cell (j := i * 5) (by omega)
      obtain ⟨v1, a1, b1⟩ := hf.out.cell (j := i * 5 + 1) (by omega)
      obtain ⟨v2, a2, b2⟩ := hf.out.cell (j := i * 5 + 2) (by omega)
      obtain ⟨v3, a3, b3⟩ := hf.out.cell (j := i * 5 + 3) (by omega)
      obtain ⟨v4, a4, b4⟩ := hf.out.cell (j := i * 5 + 4) (by omega)
      have w1 : IntKind.i64.wrap (k + 5 * (i : Int) + 1) = k + 5 * (i : Int) + 1 := IntWalk.i64_in _ (by omega)
      have w2 : IntKind.i64.wrap (k + 5 * (i : Int) + 1 + 1) = k + 5 * (i : Int) + 1 + 1 := IntWalk.i64_in _ (by omega)
      have w3 : IntKind.i64.wrap (k + 5 * (i : Int) + 1 + 1 + 1) = k + 5 * (i : Int) + 1 + 1 + 1 := IntWalk.i64_in _ (by omega)
      have w4 : IntKind.i64.wrap (k + 5 * (i : Int) + 1 + 1 + 1 + 1) = k + 5 * (i : Int) + 1 + 1 + 1 + 1 := IntWalk.i64_in _ (by omega)
      have w5 : IntKind.i64.wrap (k + 5 * (i : Int) + 1 + 1 + 1 + 1 + 1) = k + 5 * (i : Int) + 1 + 1 + 1 + 1 + 1 := IntWalk.i64_in _ (by omega)
      have F0 := hf.out
      have F1 := F0.set (i * 5) (markAt k (i * 5))
      have F2 := F1.set (i * 5 + 1) (markAt k (i * 5 + 1))
      have F3 := F2.set (i * 5 + 2) (markAt k (i * 5 + 2))
      have F4 := F3.set (i * 5 + 3) (markAt k (i * 5 + 3))
      have F5 := Lib.hid (F4.set (i * 5 + 4) (markAt k (i * 5 + 4)))
      have M5 := Lib.hid (((((hm.out.set (F0.2 _ (by omega)).1).set (F1.2 _ (by omega)).1).set (F2.2 _ (by omega)).1).set (F3.2 _ (by omega)).1).set (F4.2 _ (by omega)).1)
      have G5 : Hid (w.grownBy (((((wr.setCell ⟨g, i * 5, none⟩ (markAt k (i * 5))).setCell ⟨g, i * 5 + 1, none⟩ (markAt k (i * 5 + 1))).setCell ⟨g, i * 5 + 2, none⟩ (markAt k (i * 5 + 2))).setCell ⟨g, i * 5 + 3, none⟩ (markAt k (i * 5 + 3))).setCell ⟨g, i * 5 + 4, none⟩ (markAt k (i * 5 + 4))) (some g)) := Lib.hid (Only.setCell (Only.setCell (Only.setCell (Only.setCell (Only.setCell hg.out _ _) _ _) _ _) _ _) _ _)
      rw [mark0, mark1, mark2, mark3, mark4] at F5 M5 G5
      clear F0 F1 F2 F3 F4
      go_wp2_with fail
      refine ⟨⟨i + 1, by omega, by congr 1; push_cast; omega, by simp, ?_, F5, G5, by simpa [World.setCell] using hz⟩, by simp [intOf]; omega⟩
      rw [show (i + 1) * 5 = i * 5 + 4 + 1 by omega]
      exact M5
    · have hge : (n : Int) ≤ (i : Int) := by omega
      have hend : decide (i < n) = false := decide_eq_false hlt
      obtain rfl : i = n := by omega
      go_wp2_with fail
      go_ret
      exact ⟨rfl, hm.out, hf.out, hg.out, hz⟩
set_option maxHeartbeats 4000000 in
theorem heldF_any (g n cap : Nat) (k : Int) (w : World) (hm : Marked w g k (n * 5)) (hn : n ≤ 1048576) (hk : 0 ≤ k ∧ k ≤ 1000000000000000) :
    Calls Tryz.prog 57 #[.slice (some ⟨g, 0, none⟩) n cap, .int .i64 k] w fun e w' => e = .returned (.int .i64 (k + 5 * (n : Int))) ∧ w = w' := by
  have HM := Lib.hid hm
  clear hm
  go_enter Tryz.func57, Tryz.ntmps57
  go_wp2_with fail
  go_loopw [1, 5] (fun kk ii wr => ∃ i : Nat, i ≤ n ∧ kk = .int .i64 (k + 5 * (i : Int)) ∧ ii = .int .i64 i ∧ w = wr) (fun _ ii _ => n - (intOf ii).toNat)
  case atStart => exact ⟨0, by omega, by simp, rfl, rfl⟩
  case round =>
    obtain ⟨i, hi, rfl, rfl, rfl⟩ := hrel
    by_cases hlt : i < n
    · have hlti : (i : Int) < (n : Int) := by omega
      have a0 := HM.out (i * 5) (by omega)
      have a1 := HM.out (i * 5 + 1) (by omega)
      have a2 := HM.out (i * 5 + 2) (by omega)
      have a3 := HM.out (i * 5 + 3) (by omega)
      have a4 := HM.out (i * 5 + 4) (by omega)
      rw [mark0] at a0
      rw [mark1] at a1
      rw [mark2] at a2
      rw [mark3] at a3
      rw [mark4] at a4
      have w1 : IntKind.i64.wrap (k + 5 * (i : Int) + 1) = k + 5 * (i : Int) + 1 := IntWalk.i64_in _ (by omega)
      have w2 : IntKind.i64.wrap (k + 5 * (i : Int) + 1 + 1) = k + 5 * (i : Int) + 1 + 1 := IntWalk.i64_in _ (by omega)
      have w3 : IntKind.i64.wrap (k + 5 * (i : Int) + 1 + 1 + 1) = k + 5 * (i : Int) + 1 + 1 + 1 := IntWalk.i64_in _ (by omega)
      have w4 : IntKind.i64.wrap (k + 5 * (i : Int) + 1 + 1 + 1 + 1) = k + 5 * (i : Int) + 1 + 1 + 1 + 1 := IntWalk.i64_in _ (by omega)
      have w5 : IntKind.i64.wrap (k + 5 * (i : Int) + 1 + 1 + 1 + 1 + 1) = k + 5 * (i : Int) + 1 + 1 + 1 + 1 + 1 := IntWalk.i64_in _ (by omega)
      have q2 : (((k + 5 * (i : Int) + 1 + 1) % 3 == 0) != ((k + 5 * (i : Int) + 1 + 1) % 3 == 0)) = false := by simp
      have q3 : (((k + 5 * (i : Int) + 1 + 1 + 1) % 3 == 0) != ((k + 5 * (i : Int) + 1 + 1 + 1) % 3 == 0)) = false := by simp
      go_wp2_with fail
      go_roundw
      case rel => exact ⟨i + 1, by omega, by congr 1; push_cast; omega, by simp, by trivial⟩
      case measure => simp [intOf]; omega
    · have hge : (n : Int) ≤ (i : Int) := by omega
      have hend : decide (i < n) = false := decide_eq_false hlt
      obtain rfl : i = n := by omega
      go_wp2_with fail
      go_ret
      exact ⟨rfl, rfl⟩
/-- A nil row. -/
theorem markF_nil (k : Int) (w : World) : Calls Tryz.prog 56 #[.slice none 0 0, .int .i64 k] w fun e w' => e = .returned (.int .i64 k) ∧ w = w' := by
  go_enter Tryz.func56, Tryz.ntmps56
  go_wp2_with fail
  refine wp_loop_rounds 1 ?_
  rw [rounds_succ]
  go_wp2_with fail
  go_ret
  exact ⟨rfl, rfl⟩
theorem heldF_nil (k : Int) (w : World) : Calls Tryz.prog 57 #[.slice none 0 0, .int .i64 k] w fun e w' => e = .returned (.int .i64 k) ∧ w = w' := by
  go_enter Tryz.func57, Tryz.ntmps57
  go_wp2_with fail
  refine wp_loop_rounds 1 ?_
  rw [rounds_succ]
  go_wp2_with fail
  go_ret
  exact ⟨rfl, rfl⟩
set_option maxHeartbeats 4000000 in
theorem markM_any (gv cap : Nat) (ms : List OM) (k : Int) (w : World) (hs : Shp w gv ms) (h6 : ms.length ≤ 1048576) (hl : ∀ m ∈ ms, m.2.2.length ≤ 1048576) (hk : 0 ≤ k ∧ k ≤ 1000000) :
    Calls Tryz.prog 31 #[.slice (some ⟨gv, 0, none⟩) ms.length cap, .int .i64 k] w fun e w' => e = .returned (.int .i64 (kAt k ms ms.length)) ∧ MarkM w' gv k ms ms.length ∧ Shp w' gv ms ∧ Touch gv ms w w' := by
  have HS := Lib.hid hs
  have HL := Lib.hid hl
  clear hs hl
  go_enter Tryz.func31, Tryz.ntmps31
  go_wp2_with fail
  go_loopw [1, 5] (fun kk ii wr => ∃ i : Nat, i ≤ ms.length ∧ kk = .int .i64 (kAt k ms i) ∧ ii = .int .i64 i ∧ Hid (MarkM wr gv k ms i) ∧ Hid (Shp wr gv ms) ∧ Hid (Touch gv ms w wr)) (fun _ ii _ => ms.length - (intOf ii).toNat)
  case atStart => exact ⟨0, by omega, by rw [kAt_zero], rfl, Lib.hid fun j _ hj => by omega, HS, Lib.hid (Touch.refl _ _ _)⟩
  case round =>
    obtain ⟨i, hi, rfl, rfl, hm, hs, ht⟩ := hrel
    by_cases hlt : i < ms.length
    · have hlti : (i : Int) < (ms.length : Int) := by omega
      have hb := kAt_le (k := k) HL.out i hi
      have hlf := HL.out _ (List.getElem_mem hlt)
      have hks := kAt_succ (k := k) hlt
      obtain ⟨⟨v0, a0⟩, b0⟩ := hs.out.row.2 (i * 2) (by omega)
      have a1 := hs.out.vals i hlt
      have hgv := hs.out.row.1
      have w1 : IntKind.i64.wrap (kAt k ms i + 1) = kAt k ms i + 1 := IntWalk.i64_in _ (by omega)
      -- the world behind the Id's mark
      have hblk : ∀ x, x ≠ gv → (wr.setCell ⟨gv, i * 2, none⟩ (.int .i64 (kAt k ms i))).heap[x]? = wr.heap[x]? := fun x hx => by
        have := Below.heap_setCell wr ⟨gv, i * 2, none⟩ (.int .i64 (kAt k ms i)) x (by intro e; exact hx e)
        exact this
      have hsz : (wr.setCell ⟨gv, i * 2, none⟩ (.int .i64 (kAt k ms i))).heap.size = wr.heap.size := by simp [World.setCell]
      have hs1 : Shp (wr.setCell ⟨gv, i * 2, none⟩ (.int .i64 (kAt k ms i))) gv ms := ⟨hs.out.row.set _ _, fun j hj => by
          rw [World.cell?_setCell_other _ _ _ _ (by intro e; injection e with _ e; omega)]; exact hs.out.vals j hj, fun j hj => by
          rcases hs.out.flds j hj with h | ⟨g, c, h1, h2, h3⟩
          · exact .inl h
          · exact .inr ⟨g, c, h1, h2, h3.block (hblk g h2) hsz⟩, hs.out.each⟩
      have hm1 : MarkM (wr.setCell ⟨gv, i * 2, none⟩ (.int .i64 (kAt k ms i))) gv k ms i := fun j hj hji => by
        obtain ⟨h1, h2⟩ := hm.out j hj hji
        refine ⟨by rw [World.cell?_setCell_other _ _ _ _ (by intro e; injection e with _ e; omega)]; exact h1, fun g c hg => ?_⟩
        rcases hs.out.flds j hj with ⟨h, _⟩ | ⟨g', c', h3, h4, _⟩
        · rw [h] at hg; cases hg
        · rw [h3] at hg
          obtain rfl : g' = g := by injection hg with e; injection e with e; injection e
          exact (h2 _ _ h3).block (hblk _ h4)
      have hid : (wr.setCell ⟨gv, i * 2, none⟩ (.int .i64 (kAt k ms i))).cell? ⟨gv, i * 2, none⟩ = some (.int .i64 (kAt k ms i)) := World.cell?_setCell_same _ _ _ a0
      have ht1 : Touch gv ms w (wr.setCell ⟨gv, i * 2, none⟩ (.int .i64 (kAt k ms i))) := ht.out.trans ⟨rfl, rfl, rfl, hsz, fun x h1 _ => hblk x h1⟩
      have HS1 := Lib.hid hs1
      have HM1 := Lib.hid hm1
      have Hid1 := Lib.hid hid
      have HT1 := Lib.hid ht1
      have hap := Lib.hid fun j hj hne => (hs.out.each j i hj hlt hne)
      clear hs1 hm1 hid ht1 hblk hsz
      rcases hs.out.flds i hlt with ⟨hv, hn⟩ | ⟨g, c, hv, hgne, hfill⟩
      · rw [hv] at a1
        have hk1 : kAt k ms (i + 1) = kAt k ms i + 1 := by rw [hks, hn]; simp
        have Hk1 := Lib.hid hk1
        have Hv := Lib.hid hv
        clear hv hn hks hs hm ht hk1
        go_wp2_with fail
        refine (markF_nil _ _).mono ?_
        rintro e w2 ⟨rfl, rfl⟩
        go_wp2_with fail
        go_roundw
        case rel =>
          refine ⟨i + 1, by omega, by rw [Hk1.out], by simp, Lib.hid fun j hj hji => ?_, HS1, HT1⟩
          by_cases e : j = i
          · subst e; exact ⟨Hid1.out, fun g c hg => by rw [Hv.out] at hg; cases hg⟩
          · exact HM1.out j hj (by omega)
        case measure => simp [intOf]; omega
      · rw [hv] at a1
        have Hk1 : Hid (kAt k ms (i + 1) = kAt k ms i + 1 + 5 * (ms[i].2.2.length : Int)) := Lib.hid (by rw [hks]; omega)
        have Hv := Lib.hid hv
        have Hf : Hid (Fill (wr.setCell ⟨gv, i * 2, none⟩ (.int .i64 (kAt k ms i))) g (ms[i].2.2.length * 5)) := Lib.hid (by
          rcases HS1.out.flds i hlt with ⟨h, _⟩ | ⟨g', c', h3, _, h5⟩
          · rw [h] at hv; cases hv
          · rw [h3] at hv
            obtain rfl : g' = g := by injection hv with e; injection e with e; injection e
            exact h5)
        generalize hnn : ms[i].2.2.length = n at a1 hlf Hk1 Hf
        have Hnn := Lib.hid hnn
        clear hv hks hs hm ht hfill hnn
        go_wp2_with fail
        refine (markF_any g n c _ _ Hf.out hlf (by omega)).mono ?_
        rintro e w2 ⟨rfl, hm2, hf2, hg2, hz2⟩
        generalize wr.setCell ⟨gv, i * 2, none⟩ (.int .i64 (kAt k ms i)) = wq at HS1 HM1 Hid1 HT1 Hf hg2 hz2
        have blk : ∀ x, x ≠ g → w2.heap[x]? = wq.heap[x]? := fun x hx => by
          rcases Nat.lt_or_ge x wq.heap.size with h | h
          · exact grown_cell hg2 h hx
          · rw [Array.getElem?_eq_none h, Array.getElem?_eq_none (by omega)]
        have hoth : ∀ j (hj : j < ms.length), j ≠ i → ∀ g' c', ms[j].2.1 = .slice (some ⟨g', 0, none⟩) ms[j].2.2.length c' → g' ≠ g := fun j hj hne g' c' h e => by
          subst e
          rcases hap.out j hj hne with h1 | h1
          · rw [h] at h1; cases h1
          · rw [h, Hv.out] at h1; exact h1 rfl
        have hgi : ∀ g' c', ms[i].2.1 = .slice (some ⟨g', 0, none⟩) ms[i].2.2.length c' → g' = g := fun g' c' h => by
          rw [Hv.out] at h; injection h with e; injection e with e; injection e with e; exact e.symm
        have S2 : Hid (Shp w2 gv ms) := Lib.hid ⟨HS1.out.row.block (blk gv (Ne.symm hgne)) hz2, fun j hj => (World.cell?_of_block (a := ⟨gv, j * 2 + 1, none⟩) (blk gv (Ne.symm hgne))).trans (HS1.out.vals j hj), fun j hj => by
          by_cases e : j = i
          · subst e; exact .inr ⟨g, c, Hv.out, hgne, by rw [Hnn.out]; exact hf2⟩
          · rcases HS1.out.flds j hj with h | ⟨g', c', h1, h2, h3⟩
            · exact .inl h
            · exact .inr ⟨g', c', h1, h2, h3.block (blk g' (hoth j hj e g' c' h1)) hz2⟩, HS1.out.each⟩
        have M2 : Hid (MarkM w2 gv k ms (i + 1)) := Lib.hid fun j hj hji => by
          by_cases e : j = i
          · subst e
            exact ⟨(World.cell?_of_block (a := ⟨gv, j * 2, none⟩) (blk gv (Ne.symm hgne))).trans Hid1.out, fun g' c' h => by obtain rfl := hgi g' c' h; rw [Hnn.out]; exact hm2⟩
          · obtain ⟨h1, h2⟩ := HM1.out j hj (by omega)
            exact ⟨(World.cell?_of_block (a := ⟨gv, j * 2, none⟩) (blk gv (Ne.symm hgne))).trans h1, fun g' c' h => (h2 g' c' h).block (blk g' (hoth j hj e g' c' h))⟩
        have T2 : Hid (Touch gv ms w w2) := Lib.hid (HT1.out.trans ⟨hg2.os, hg2.tape, hg2.output, hz2, fun x h1 h2 => blk x (fun e => h2 i hlt (by rw [Hv.out, e]; rfl))⟩)
        clear hm2 hf2 hg2 hz2 blk hoth hgi HS1 HM1 Hid1 HT1 Hf
        go_wp2_with fail
        go_roundw
        case rel => exact ⟨i + 1, by omega, by rw [Hk1.out], by simp, M2, S2, T2⟩
        case measure => simp [intOf]; omega
    · have hge : (ms.length : Int) ≤ (i : Int) := by omega
      have hend : decide (i < ms.length) = false := decide_eq_false hlt
      obtain rfl : i = ms.length := by omega
      go_wp2_with fail
      go_ret
      exact ⟨rfl, hm.out, hs.out, ht.out⟩
set_option maxHeartbeats 4000000 in
theorem heldM_any (gv cap : Nat) (ms : List OM) (k : Int) (w : World) (hm : MarkM w gv k ms ms.length) (hs : Shp w gv ms) (h6 : ms.length ≤ 1048576) (hl : ∀ m ∈ ms, m.2.2.length ≤ 1048576) (hk : 0 ≤ k ∧ k ≤ 1000000) :
    Calls Tryz.prog 32 #[.slice (some ⟨gv, 0, none⟩) ms.length cap, .int .i64 k] w fun e w' => e = .returned (.int .i64 (kAt k ms ms.length)) ∧ w = w' := by
  have HS := Lib.hid hs
  have HM := Lib.hid hm
  have HL := Lib.hid hl
  clear hs hl hm
  go_enter Tryz.func32, Tryz.ntmps32
  go_wp2_with fail
  go_loopw [1, 5] (fun kk ii wr => ∃ i : Nat, i ≤ ms.length ∧ kk = .int .i64 (kAt k ms i) ∧ ii = .int .i64 i ∧ w = wr) (fun _ ii _ => ms.length - (intOf ii).toNat)
  case atStart => exact ⟨0, by omega, by rw [kAt_zero], rfl, rfl⟩
  case round =>
    obtain ⟨i, hi, rfl, rfl, rfl⟩ := hrel
    by_cases hlt : i < ms.length
    · have hlti : (i : Int) < (ms.length : Int) := by omega
      have hb := kAt_le (k := k) HL.out i hi
      have hlf := HL.out _ (List.getElem_mem hlt)
      have hks := kAt_succ (k := k) hlt
      obtain ⟨a0, hmf⟩ := HM.out i hlt hlt
      have a1 := HS.out.vals i hlt
      have hgv := HS.out.row.1
      have w1 : IntKind.i64.wrap (kAt k ms i + 1) = kAt k ms i + 1 := IntWalk.i64_in _ (by omega)
      rcases HS.out.flds i hlt with ⟨hv, hn⟩ | ⟨g, c, hv, hgne, hfill⟩
      · rw [hv] at a1
        have Hk1 : Hid (kAt k ms (i + 1) = kAt k ms i + 1) := Lib.hid (by rw [hks, hn]; simp)
        have hneg : decide (kAt k ms i + 1 < 0) = false := decide_eq_false (by omega)
        clear hv hn hks hmf
        go_wp2_with fail
        refine (heldF_nil _ _).mono ?_
        rintro e w2 ⟨rfl, rfl⟩
        go_wp2_with fail
        go_roundw
        case rel => exact ⟨i + 1, by omega, by rw [Hk1.out], by simp, by trivial⟩
        case measure => simp [intOf]; omega
      · have hmk := Lib.hid (hmf g c hv)
        rw [hv] at a1
        have Hk1 : Hid (kAt k ms (i + 1) = kAt k ms i + 1 + 5 * (ms[i].2.2.length : Int)) := Lib.hid (by rw [hks]; omega)
        have hneg : decide (kAt k ms i + 1 + 5 * (ms[i].2.2.length : Int) < 0) = false := decide_eq_false (by omega)
        generalize ms[i].2.2.length = n at a1 hlf Hk1 hmk hneg
        clear hv hks hmf hfill
        go_wp2_with fail
        refine (heldF_any g n c _ _ hmk.out hlf (by omega)).mono ?_
        rintro e w2 ⟨rfl, rfl⟩
        go_wp2_with fail
        go_roundw
        case rel => exact ⟨i + 1, by omega, by rw [Hk1.out], by simp, by trivial⟩
        case measure => simp [intOf]; omega
    · have hge : (ms.length : Int) ≤ (i : Int) := by omega
      have hend : decide (i < ms.length) = false := decide_eq_false hlt
      obtain rfl : i = ms.length := by omega
      go_wp2_with fail
      go_ret
      exact ⟨rfl, rfl⟩
theorem markM_nil (k : Int) (w : World) : Calls Tryz.prog 31 #[.slice none 0 0, .int .i64 k] w fun e w' => e = .returned (.int .i64 k) ∧ w = w' := by
  go_enter Tryz.func31, Tryz.ntmps31
  go_wp2_with fail
  refine wp_loop_rounds 1 ?_
  rw [rounds_succ]
  go_wp2_with fail
  go_ret
  exact ⟨rfl, rfl⟩
theorem heldM_nil (k : Int) (w : World) : Calls Tryz.prog 32 #[.slice none 0 0, .int .i64 k] w fun e w' => e = .returned (.int .i64 k) ∧ w = w' := by
  go_enter Tryz.func32, Tryz.ntmps32
  go_wp2_with fail
  refine wp_loop_rounds 1 ?_
  rw [rounds_succ]
  go_wp2_with fail
  go_ret
  exact ⟨rfl, rfl⟩
theorem markRaw_any {lo hi : Nat} (v : Value) (ms : List OM) (k : Int) (w : World) (ho : OwnIn w lo hi v ms) (hw : hi ≤ w.heap.size) (h6 : ms.length ≤ 1048576) (hl : ∀ m ∈ ms, m.2.2.length ≤ 1048576) (hk : 0 ≤ k ∧ k ≤ 1000000) :
    Calls Tryz.prog 14 #[.agg #[v], .int .i64 k] w fun e w' => e = .returned (.int .i64 (kAt k ms ms.length)) ∧ MarkedIn w' lo hi v k ms ∧ Zone lo hi w w' := by
  rcases ho.form with ⟨rfl, rfl⟩ | ⟨gv, cap, rfl, hs0⟩
  · go_enter Tryz.func14, Tryz.ntmps14
    go_wp2_with fail
    refine (markM_nil _ _).mono ?_
    rintro e w1 ⟨rfl, rfl⟩
    go_wp2_with fail
    go_ret
    exact ⟨by simp [kAt], ⟨fun b hb => (by cases hb), fun j hj => (by simp at hj), .inl ⟨rfl, rfl⟩⟩, .of_below ((Below.refl _ _).alloc (Nat.le_refl _) _)⟩
  · have hz : Zone w.heap.size w.heap.size w (w.alloc (.cells #[.slice (some ⟨gv, 0, none⟩) ms.length cap] 26)) := .of_below ((Below.refl _ _).alloc (Nat.le_refl _) _)
    have hs1 : Shp (w.alloc (.cells #[.slice (some ⟨gv, 0, none⟩) ms.length cap] 26)) gv ms :=
      hs0.zone (lo := lo) (hi := hi) hz (.inl hs0.row.1) fun j hj b hb => by have := ho.sub j hj b hb; omega
    have HS1 := Lib.hid hs1
    have Ho := Lib.hid ho
    clear hs1 ho hs0
    go_enter Tryz.func14, Tryz.ntmps14
    go_wp2_with fail
    refine (markM_any gv cap ms k _ HS1.out h6 hl hk).mono ?_
    rintro e w1 ⟨rfl, hm, hs, ht⟩
    have Hm := Lib.hid hm
    have Hs := Lib.hid hs
    have Ht := Lib.hid ht
    clear hm hs ht
    go_wp2_with fail
    go_ret
    refine ⟨rfl, ⟨Ho.out.top, Ho.out.sub, .inr ⟨gv, cap, rfl, Hm.out, Hs.out⟩⟩, ?_⟩
    obtain ⟨t1, t2, t3, t4, t5⟩ := Ht.out
    have hb := (Below.refl w.heap.size w).alloc (Nat.le_refl _) (.cells #[.slice (some ⟨gv, 0, none⟩) ms.length cap] 26)
    have htop := Ho.out.top gv rfl
    exact ⟨t1.trans hb.os, t2.trans hb.tape, t3.trans hb.output, by rw [t4]; exact hb.size, fun b hb1 h1 => (t5 b (by omega) (fun j hj e => by have := Ho.out.sub j hj b e; omega)).trans (hb.block b hb1)⟩
theorem heldRaw_any {lo hi : Nat} (v : Value) (ms : List OM) (k : Int) (w : World) (hmi : MarkedIn w lo hi v k ms) (hw : hi ≤ w.heap.size) (h6 : ms.length ≤ 1048576) (hl : ∀ m ∈ ms, m.2.2.length ≤ 1048576) (hk : 0 ≤ k ∧ k ≤ 1000000) :
    Calls Tryz.prog 15 #[.agg #[v], .int .i64 k] w fun e w' => e = .returned (.int .i64 (kAt k ms ms.length)) ∧ Below w.heap.size w w' := by
  have hm := hmi.marked
  have hf : ∀ j (h : j < ms.length) b, ms[j].2.1.ownBlock = some b → b < w.heap.size := fun j hj b hb => by have := hmi.sub j hj b hb; omega
  clear hmi
  have hb := kAt_le (k := k) hl ms.length (Nat.le_refl _)
  have hneg : decide (kAt k ms ms.length < 0) = false := decide_eq_false (by omega)
  rcases hm with ⟨rfl, rfl⟩ | ⟨gv, cap, rfl, hm, hs⟩
  · have hneg2 : decide (k < 0) = false := decide_eq_false (by omega)
    go_enter Tryz.func15, Tryz.ntmps15
    go_wp2_with fail
    refine (heldM_nil _ _).mono ?_
    rintro e w1 ⟨rfl, rfl⟩
    go_wp2_with fail
    go_ret
    exact ⟨by simp [kAt], (Below.refl _ _).alloc (Nat.le_refl _) _⟩
  · have hbw : Below w.heap.size w (w.alloc (.cells #[.slice (some ⟨gv, 0, none⟩) ms.length cap] 26)) := (Below.refl _ _).alloc (Nat.le_refl _) _
    have hgv := hs.row.1
    have hs1 : Hid (Shp (w.alloc (.cells #[.slice (some ⟨gv, 0, none⟩) ms.length cap] 26)) gv ms) := Lib.hid ⟨hs.row.below hbw hgv, fun j hj => (hbw.cell (p := ⟨gv, _, none⟩) hgv).trans (hs.vals j hj), fun j hj => by
      rcases hs.flds j hj with h | ⟨g, c, h1, h2, h3⟩
      · exact .inl h
      · exact .inr ⟨g, c, h1, h2, h3.below hbw h3.1⟩, hs.each⟩
    have hm1 : Hid (MarkM (w.alloc (.cells #[.slice (some ⟨gv, 0, none⟩) ms.length cap] 26)) gv k ms ms.length) := Lib.hid fun j hj hji => by
      obtain ⟨h1, h2⟩ := hm j hj hji
      exact ⟨(hbw.cell (p := ⟨gv, _, none⟩) hgv).trans h1, fun g c hg => (h2 g c hg).block (hbw.block g (hf j hj g (by rw [hg]; rfl)))⟩
    clear hm hs hb hf
    go_enter Tryz.func15, Tryz.ntmps15
    go_wp2_with fail
    refine (heldM_any gv cap ms k _ hm1.out hs1.out h6 hl hk).mono ?_
    rintro e w1 ⟨rfl, rfl⟩
    go_wp2_with fail
    go_ret
    exact ⟨rfl, hbw⟩
end Go.Proofs.YtcbohfncckpolaaGreatDoor.Num
