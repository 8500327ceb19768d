/-
  The walks of the laws' own helpers on slices of strings: two slices that read alike are found equal; a slice is filled with marks; the marks are found again.
-/
import Derived.Test.YtofeefkhelibpaaDoorStrs
import Derived.Test.YtofeefkhelibpaaDoorLong
import Derived.Test.YtofeefkhelibpaaDoorDraw
import Derived.Deep.RegionWith
import Derived.Deep.DrawnRows
namespace Go.Proofs.YtofeefkhelibpaaDoor.Num
open Go.RowKit Go.Proofs
attribute [local go_sem ↓] Go.wp_at_zero Go.wp_at_succ

set_option maxHeartbeats 400000 in
theorem eqStringS_same (p q : Option Addr) (n c d : Nat) (xs : List ByteArray) (w : World) (h1 : RdS w p n xs) (h2 : RdS w q n xs) (hn : n ≤ 2097152) :
    Calls Tryd.prog 19 #[.slice p n c, .slice q n d] w fun e w' => e = .returned (.bool true) ∧ ∃ k, w' = w.drewN k := by
  obtain ⟨hl, hx⟩ := h1
  obtain ⟨_, hy⟩ := h2
  have Hl := Lib.hid hl; clear hl
  go_enter Tryd.func19, Tryd.ntmps19
  go_wp2_with fail
  go_loopw [5] (fun i wr => ∃ k m : Nat, k ≤ n ∧ i = .int .i64 k ∧ wr = w.drewN m) (fun i _ => n - (intOf i).toNat)
  case atStart => exact ⟨0, 0, Nat.zero_le _, rfl, rfl⟩
  case round =>
    obtain ⟨k, m, hk, rfl, rfl⟩ := hrel
    by_cases hlt : k < n
    · rcases hx with h0 | ⟨b, off, rfl, hb, hcx⟩
      · omega
      rcases hy with h0 | ⟨b2, off2, rfl, hb2, hcy⟩
      · omega
      have c1 := hcx k (by rw [Hl.out]; exact hlt)
      have c2 := hcy k (by rw [Hl.out]; exact hlt)
      obtain ⟨x, hxk⟩ : ∃ x, x = xs[k]'(by rw [Hl.out]; exact hlt) := ⟨_, rfl⟩
      rw [← hxk] at c1 c2
      clear hxk hcx hcy
      have i0 : (0 : Int) ≤ (k : Int) := by omega
      have i1 : (k : Int) < (n : Int) := by omega
      go_wp2_with fail
      go_quiet (fail)
      go_wp2_with fail
      go_round
      case rel => exact ⟨k + 1, m + nq, by omega, by go_num, rfl⟩
      case measure => simp [intOf]; omega
    · go_wp2_with fail
      go_ret
      exact ⟨rfl, m, rfl⟩

def markB (k : Nat) : ByteArray := ⟨(109 :: dec k).toArray⟩
set_option maxHeartbeats 400000 in
theorem markText_any (k : Nat) (w : World) (h1 : 1 ≤ k) (h2 : k ≤ 9223372036854775807) :
    Calls Tryd.prog 34 #[.int .i64 k] w fun e w' => e = .returned (.string (markB k)) ∧ Below w.heap.size w w' := by
  have hcv := conv1
  have hdl : (dec k).length ≤ 20 := dec_len64 (by omega)
  have Hdl := Lib.hid hdl; clear hdl
  go_enter Tryd.func34, Tryd.ntmps34
  go_wp2_with fail
  go_loopw [0, 3] (fun x o wr => ∃ (v : Nat) (l : List UInt8), v ≤ k ∧ x = .int .i64 v ∧ o = .string ⟨l.toArray⟩ ∧ Hid (dec k = decZ v ++ l) ∧ Below w.heap.size w wr) (fun x _ _ => (intOf x).toNat)
  case atStart => exact ⟨k, [], Nat.le_refl _, rfl, rfl, Lib.hid (by rw [decZ_pos h1]; simp), Below.refl _ _⟩
  case round =>
    obtain ⟨v, l, hv, rfl, rfl, Hd, hb⟩ := hrel
    have hl : l.length ≤ 20 := by
      have h := Hdl.out
      rw [Hd.out, List.length_append] at h; omega
    by_cases hz : 0 < v
    · go_wp2_with fail
      go_roundw
      case rel =>
        refine ⟨v / 10, dgt (v % 10) :: l, by omega, by go_num, ?_, Lib.hid ?_, hb.alloc (hb.size) _⟩
        · rw [dgt_eq]; rfl
        · rw [Hd.out, decZ_step hz]; simp
      case measure => simp [intOf]; omega
    · have hv0 : v = 0 := by omega
      have Hv := Lib.hid hv0
      clear hv0
      go_wp2_with fail
      go_ret
      exact ⟨by unfold markB; rw [Hd.out, Hv.out, decZ_zero]; rfl, hb⟩

/-- The first n cells of block g bear the marks from k on. -/
def Marked (w : World) (g n k : Nat) : Prop := ∀ t, t < n → w.cell? ⟨g, t, none⟩ = some (.string (markB (k + t)))
/-- The first n cells of block g are there and may be written. -/
def Open' (w : World) (g n : Nat) : Prop := ∀ t, t < n → (w.cell? ⟨g, t, none⟩).isSome = true ∧ w.frozen? ⟨g, t, none⟩ = false
def MarkP (g n k : Nat) (w : World) (e : Ending) (w' : World) : Prop := e = .returned (.int .i64 ((k + n : Nat) : Int)) ∧ Off w.heap.size g w w' ∧ Marked w' g n k
set_option maxHeartbeats 400000 in
theorem markStringS_any (g n cap k : Nat) (w : World) (hg : g < w.heap.size) (ho : Open' w g n) (h1 : 1 ≤ k) (hk : k ≤ 1000000000) (hn : n ≤ 1000000000) :
    Calls Tryd.prog 20 #[.slice (some ⟨g, 0, none⟩) n cap, .int .i64 k] w (MarkP g n k w) := by
  have Ho := Lib.hid ho; clear ho
  go_enter Tryd.func20, Tryd.ntmps20
  go_wp2_with fail
  go_loopw [1, 5] (fun q i wr => ∃ j : Nat, j ≤ n ∧ i = .int .i64 j ∧ q = .int .i64 ((k + j : Nat) : Int) ∧ Off w.heap.size g w wr ∧ Hid (Open' wr g n) ∧ Hid (Marked wr g j k)) (fun _ i _ => n - (intOf i).toNat)
  case atStart => exact ⟨0, Nat.zero_le _, rfl, rfl, Off.refl _ _ _, Ho, Lib.hid (fun t ht => by omega)⟩
  case round =>
    obtain ⟨j, hj, rfl, rfl, hoff, hop, hmk⟩ := hrel
    have hsz := hoff.size
    by_cases hlt : j < n
    · go_wp2_with fail
      refine (markText_any (k + j) _ (by omega) (by omega)).mono ?_
      rintro e w1 ⟨rfl, hb⟩
      have hgr : g < wr.heap.size := by omega
      have hcs : (w1.cell? ⟨g, j, none⟩).isSome = true := by rw [hb.cell (p := ⟨g, j, none⟩) hgr]; exact (hop.out j hlt).1
      obtain ⟨old, hc⟩ := Option.isSome_iff_exists.1 hcs
      have hf : w1.frozen? ⟨g, j, none⟩ = false := by rw [hb.frozen (p := ⟨g, j, none⟩) hgr]; exact (hop.out j hlt).2
      have Hop2 : Hid (Open' (w1.setCell ⟨g, j, none⟩ (.string (markB (k + j)))) g n) := Lib.hid (fun t ht => by
        rw [World.frozen?_setCell, hb.frozen (p := ⟨g, t, none⟩) hgr]
        refine ⟨?_, (hop.out t ht).2⟩
        by_cases e : t = j
        · rw [e, World.cell?_setCell_same _ _ _ (by rw [hc])]; rfl
        · rw [World.cell?_setCell_other _ _ _ _ (by first | (simp; done) | (simp; omega)), hb.cell (p := ⟨g, t, none⟩) hgr]; exact (hop.out t ht).1)
      have Hmk2 : Hid (Marked (w1.setCell ⟨g, j, none⟩ (.string (markB (k + j)))) g (j + 1) k) := Lib.hid (fun t ht => by
        by_cases e : t = j
        · rw [e, World.cell?_setCell_same _ _ _ (by rw [hc])]
        · rw [World.cell?_setCell_other _ _ _ _ (by first | (simp; done) | (simp; omega)), hb.cell (p := ⟨g, t, none⟩) hgr]; exact hmk.out t (by omega))
      have hoff2 : Off w.heap.size g w w1 := hoff.trans (Below.off (hb.mono hsz))
      have hoff3 : Off w.heap.size g w (w1.setCell ⟨g, j, none⟩ (.string (markB (k + j)))) := hoff2.trans (Only.off ((Only.refl g w1).setCell j _) (by have := hoff2.size; omega))
      clear hcs hgr hb hoff2
      go_wp2_with fail
      go_roundw
      case rel => exact ⟨j + 1, by omega, by go_num, by go_num, hoff3, Hop2, Hmk2⟩
      case measure => simp [intOf]; omega
    · have hjn : j = n := by omega
      have Hjn := Lib.hid hjn
      clear hjn
      go_wp2_with fail
      go_ret
      exact ⟨by rw [Hjn.out]; rfl, hoff, by have := hmk.out; rwa [Hjn.out] at this⟩
def HeldP (n k : Nat) (w : World) (e : Ending) (w' : World) : Prop := e = .returned (.int .i64 ((k + n : Nat) : Int)) ∧ Below w.heap.size w w'
set_option maxHeartbeats 800000 in
theorem heldStringS_any (g n cap k : Nat) (w : World) (hg : g < w.heap.size) (hm : Marked w g n k) (h1 : 1 ≤ k) (hk : k ≤ 1000000000) (hn : n ≤ 1000000000) :
    Calls Tryd.prog 21 #[.slice (some ⟨g, 0, none⟩) n cap, .int .i64 k] w (HeldP n k w) := by
  have Hm := Lib.hid hm; clear hm
  go_enter Tryd.func21, Tryd.ntmps21
  go_wp2_with fail
  go_loopw [1, 5] (fun q i wr => ∃ j : Nat, j ≤ n ∧ i = .int .i64 j ∧ q = .int .i64 ((k + j : Nat) : Int) ∧ Below w.heap.size w wr) (fun _ i _ => n - (intOf i).toNat)
  case atStart => exact ⟨0, Nat.zero_le _, rfl, rfl, Below.refl _ _⟩
  case round =>
    obtain ⟨j, hj, rfl, rfl, hb⟩ := hrel
    have hsz := hb.size
    by_cases hlt : j < n
    · have hc : wr.cell? ⟨g, j, none⟩ = some (.string (markB (k + j))) := (hb.cell (p := ⟨g, j, none⟩) hg).trans (Hm.out j hlt)
      have hj0 : (0 : Int) ≤ (j : Int) := by omega
      have hj1 : (j : Int) < (n : Int) := by omega
      go_wp2_with fail
      go_region_with (go_at_call 34; refine (markText_any (k + j) _ (by omega) (by omega)).mono ?_; rintro e w1 ⟨rfl, hb1⟩; have hc1 : w1.cell? ⟨g, j, none⟩ = some (.string (markB (k + j))) := (hb1.cell (p := ⟨g, j, none⟩) (by simp; omega)).trans (by simpa using hc))
      all_goals
        have hb2 : Below w.heap.size w w1 := hb.drew.trans (hb1.mono (by simp; omega))
        clear hb1 hc hc1
        go_wp2_with fail
        go_roundw
        case rel => exact ⟨j + 1, by omega, by go_num, by go_num, hb2⟩
        case measure => simp [intOf]; omega
    · have hjn : j = n := by omega
      have Hjn := Lib.hid hjn
      clear hjn
      go_wp2_with fail
      go_ret
      exact ⟨by rw [Hjn.out]; rfl, hb⟩
theorem Marked.below {w w' : World} {g n k : Nat} (h : Marked w g n k) (hg : g < w.heap.size) (hb : Below w.heap.size w w') : Marked w' g n k := fun t ht => (hb.cell (p := ⟨g, t, none⟩) hg).trans (h t ht)
theorem RdS.drewN {w : World} {p : Option Addr} {n : Nat} {ss : List ByteArray} (h : RdS w p n ss) (k : Nat) : RdS (w.drewN k) p n ss := h
theorem openOwn {w : World} {B g cap n : Nat} {E : TypeId} {xs : List Value} (h : w.ownsRow B E 1 (.slice (some ⟨g, 0, none⟩) n cap) n xs) : Open' w g n := fun t ht => by
  refine ⟨?_, World.ownsRow.frozenAt h t⟩
  rw [World.ownsRow.cellAt h t (by omega)]
  have hl := h.1
  rw [List.getElem?_eq_getElem (by omega)]
  rfl
theorem mark1_any (g n cap : Nat) (w : World) (hg : g < w.heap.size) (ho : Open' w g n) (hn : n ≤ 1000000000) :
    Calls Tryd.prog 20 #[.slice (some ⟨g, 0, none⟩) n cap, .int .i64 1] w (MarkP g n 1 w) := markStringS_any g n cap 1 w hg ho (Nat.le_refl 1) (by omega) hn
theorem held1_any (g n cap : Nat) (w : World) (hg : g < w.heap.size) (hm : Marked w g n 1) (hn : n ≤ 1000000000) :
    Calls Tryd.prog 21 #[.slice (some ⟨g, 0, none⟩) n cap, .int .i64 1] w (HeldP n 1 w) := heldStringS_any g n cap 1 w hg hm (Nat.le_refl 1) (by omega) hn
end Go.Proofs.YtofeefkhelibpaaDoor.Num
