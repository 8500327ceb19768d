/-
  The walk of the reference's l1Spoil: some string no longer than two bytes or the given string; of what was there only the cursor's block is written.
-/
import Derived.Test.YtoohcepobbbejaaPick
import Derived.Test.YtoohcepobbbejaaDrawBytes
import Derived.Deep.RegionWith
import Derived.Deep.DrawnRows
namespace Go.Proofs.Ytoohcepobbbejaa.Num
open Go.RowKit Go.Proofs
attribute [local go_sem ↓] Go.wp_at_zero Go.wp_at_succ

theorem strBytes (w : World) (s : ByteArray) : ∃ (C : Array Value) (c n : Nat), (convert 9 22 (.string s)).run Try.prog w = .ok (.slice (some ⟨w.heap.size, 0, none⟩) s.size c) (w.drew.alloc (.cells C 5 (n, n + 1))) ∧ C.size = n ∧ s.size ≤ n ∧
    ∀ j, j < s.size → ∃ z : Nat, z < 256 ∧ C[j]? = some (.int .u8 z) := by
  have h := run_bytes_of_string (P := Try.prog) w 9 22 5 s Try.underlying9 Try.underlying22 Try.underlying5
  refine ⟨_, _, _, h, rfl, ?_, ?_⟩
  · simp [bytesRow]
  · intro j hj
    refine ⟨s[j].toNat, s[j].toNat_lt, ?_⟩
    have hj2 : j < s.data.size := hj
    simp only [bytesRow, Array.getElem?_append, Array.size_map, Array.getElem?_map]
    rw [if_pos hj2, Array.getElem?_eq_getElem hj2]
    rfl
theorem bytesBack (w : World) (b c : Nat) : ∀ n, (∀ j, j < n → ∃ z : Int, w.cell? ⟨b, j, none⟩ = some (.int .u8 z)) → ∃ t : ByteArray, t.size = n ∧ (convert 22 9 (.slice (some ⟨b, 0, none⟩) n c)).run Try.prog w = .ok (.string t) w := by
  intro n h
  have hx : ∀ m, m ≤ n → ∃ xs : List Int, xs.length = m ∧ ∀ j, j < m → w.cell? ⟨b, 0 + j, none⟩ = some (.int .u8 (xs.getD j 0)) := by
    intro m
    induction m with
    | zero => exact fun _ => ⟨[], rfl, fun j hj => by omega⟩
    | succ m ih =>
      intro hm
      obtain ⟨xs, hl, hc⟩ := ih (by omega)
      obtain ⟨z, hz⟩ := h m (by omega)
      refine ⟨xs ++ [z], by simp [hl], fun j hj => ?_⟩
      by_cases e : j < m
      · rw [hc j e]; simp [List.getD, List.getElem?_append_left (show j < xs.length by omega)]
      · obtain rfl : j = m := by omega
        rw [Nat.zero_add, hz]; simp [List.getD, ← hl]
  obtain ⟨xs, hl, hc⟩ := hx n (Nat.le_refl _)
  exact ⟨strOfNums xs, by rw [strOfNums_size, hl], run_convert_bytes_arg (P := Try.prog) w 22 5 Try.underlying22 Try.underlying5 b 0 n c xs hl hc 9 Try.underlying9⟩

theorem spoilF {w : World} {b k : Nat} {C : Array Value} {T : TypeId} (h : w.heap[b]? = some (.cells C T (C.size, C.size + 1))) (hk : k < C.size) : w.frozen? ⟨b, k, none⟩ = false := by
  simp [World.frozen?, h]; omega
def SpoilP (B g : Nat) (a : Option Addr) (len cap : Nat) (m : Nat) (w : World) (e : Ending) (w' : World) : Prop :=
  ∃ t : ByteArray, t.size ≤ m ∧ e = .returned (.string t) ∧ Cur w' B g a len cap ∧ Off w.heap.size g w w'
theorem l1Spoil_empty (B g : Nat) (a : Option Addr) (len cap : Nat) (s : ByteArray) (w : World) (h : Cur w B g a len cap) (hB : B ≤ w.heap.size) (hg : g < w.heap.size) (hs : s.toList.isEmpty = true) :
    Calls Try.prog 45 #[.pointer (some ⟨g, 0, none⟩), .string s] w (SpoilP B g a len cap 2 w) := by
  have H := Lib.hid h; clear h
  go_enter Try.func45, Try.ntmps45
  go_wp2_with fail
  refine (l1Bytes_any B g a len cap 2 _ H.out hB hg (by omega)).mono ?_
  rintro e w1 ⟨v, l, rfl, hl, hown, hc, ho⟩
  have hcv := run_convB (P := Try.prog) 22 9 Try.underlying22 Try.underlying5 Try.underlying9 hown
  have Hl := Lib.hid hl; clear hl
  have Hc := Lib.hid hc; clear hc
  clear hown
  go_wp2_with fail
  go_ret
  exact ⟨⟨l.toArray⟩, by have := Hl.out; simp [ByteArray.size, this], rfl, Hc.out, ho⟩
set_option maxHeartbeats 400000 in
theorem l1Spoil_some (B g : Nat) (a : Option Addr) (len cap : Nat) (s : ByteArray) (w : World) (h : Cur w B g a len cap) (hB : B ≤ w.heap.size) (hg : g < w.heap.size) (hs : s.toList.isEmpty = false) (h1 : 0 < s.size) (h2 : s.size ≤ 1048576) :
    Calls Try.prog 45 #[.pointer (some ⟨g, 0, none⟩), .string s] w (SpoilP B g a len cap s.size w) := by
  obtain ⟨C, c, n, hcv, hn, hsn, hC⟩ := strBytes w s
  subst hn
  have hb0 : Below w.heap.size w (w.alloc (.cells C 5 (C.size, C.size + 1))).drew := ((Below.refl _ _).alloc (Nat.le_refl _) _).drew
  have H := Lib.hid (h.other hb0 hg hB); clear h
  have HC := Lib.hid hC; clear hC
  go_enter Try.func45, Try.ntmps45
  go_wp2_with fail
  refine (l1Below_any B g a len cap _ _ H.out (by omega)).mono ?_
  rintro e w1 ⟨r, r0, r1, rfl, hc1, ho1⟩
  have hr : r < s.size := r1 (by omega)
  clear r1
  obtain ⟨k, rfl⟩ := Int.eq_ofNat_of_zero_le r0
  have hk : k < s.size := by omega
  have hblk1 : w1.heap[w.heap.size]? = some (.cells C 5 (C.size, C.size + 1)) := by rw [ho1.block w.heap.size (by simp) (by intro e; have := Option.some.inj e; omega)]; exact heap_alloc_new w _
  have Hc1 := Lib.hid hc1; clear hc1
  have hof1 : Off w.heap.size g w w1 := (Below.off hb0).trans (Only.off ho1 (by simp))
  have hsz1 : w.heap.size < w1.heap.size := by have := ho1.size; simp at this; omega
  clear ho1
  have Hblk1 := Lib.hid hblk1
  obtain ⟨z, hz, hCz⟩ := HC.out k hk
  have hcell : w1.cell? ⟨w.heap.size, k, none⟩ = some (.int .u8 z) := by rw [cell_of_row w1 _ k C _ _ hblk1]; exact hCz
  have hCk : C[k]? = some (.int .u8 z) := hCz
  clear hblk1 hCz hcv
  have hki : (k : Int) < (s.size : Int) := by omega
  have hki0 : 0 ≤ (k : Int) := by omega
  have HCk := Lib.hid hCk; clear hCk
  have hkn : k < C.size := by omega
  go_wp2_with fail
  go_region_with (go_at_call 37; refine (l1Below_any B g a len cap _ _ Hc1.out.drew (by omega)).mono ?_; rintro e w2 ⟨r, r0, r1, rfl, hc2, ho2⟩; have hc2c : w2.cell? ⟨w.heap.size, k, none⟩ = some (.int .u8 z) := (by rw [cell_of_row w2 _ k C _ _ ((ho2.block w.heap.size (by simp; omega) (by intro e; have := Option.some.inj e; omega)).trans Hblk1.out)]; exact HCk.out); have hc2f : w2.frozen? ⟨w.heap.size, k, none⟩ = false := spoilF ((ho2.block w.heap.size (by simp; omega) (by intro e; have := Option.some.inj e; omega)).trans Hblk1.out) hkn)
  all_goals
    have hblk2 := (ho2.block w.heap.size (by simp; omega) (by intro e; have := Option.some.inj e; omega)).trans Hblk1.out
    have hback : ∀ X : Int, ∃ t : ByteArray, t.size = s.size ∧ (convert 22 9 (.slice (some ⟨w.heap.size, 0, none⟩) s.size c)).run Try.prog (w2.setCell ⟨w.heap.size, k, none⟩ (.int .u8 X)) = .ok (.string t) (w2.setCell ⟨w.heap.size, k, none⟩ (.int .u8 X)) := fun X => bytesBack _ _ _ _ (fun j hj => by
      by_cases e : j = k
      · exact ⟨X, by rw [e]; exact World.cell?_setCell_same _ _ _ (by rw [hc2c])⟩
      · obtain ⟨y, _, hy⟩ := HC.out j hj
        exact ⟨y, by rw [World.cell?_setCell_other _ _ _ _ (by simp), cell_of_row w2 _ j C _ _ hblk2]; exact hy⟩)
    obtain ⟨t, ht⟩ := Classical.axiomOfChoice hback
    have hcv := fun X => (ht X).2
    have Ht := Lib.hid (fun X => (ht X).1)
    have Hc2 := Lib.hid hc2
    clear hback ht hblk2 hc2 hcell hc2c hc2f
    have hof2 : Off w.heap.size g w w2 := hof1.trans (Only.off (a := w1) ⟨ho2.os, ho2.tape, ho2.output, ho2.size, ho2.block⟩ (by omega))
    clear ho2 hof1
    go_wp2_with fail
    go_ret
    exact ⟨t _, by rw [Ht.out]; exact Nat.le_refl _, rfl, Hc2.out.other (C := w.heap.size) ((Below.refl _ _).setCell (p := ⟨w.heap.size, k, none⟩) (Nat.le_refl _) _) hg hB, hof2.trans (Below.off ((Below.refl _ _).setCell (p := ⟨w.heap.size, k, none⟩) (Nat.le_refl _) _))⟩
theorem l1Spoil_any (B g : Nat) (a : Option Addr) (len cap : Nat) (s : ByteArray) (w : World) (h : Cur w B g a len cap) (hB : B ≤ w.heap.size) (hg : g < w.heap.size) (h2 : s.size ≤ 1048576) :
    Calls Try.prog 45 #[.pointer (some ⟨g, 0, none⟩), .string s] w (SpoilP B g a len cap (s.size + 2) w) := by
  by_cases hs : s.size = 0
  · have e0 : s = ⟨#[]⟩ := by
      cases s with
      | mk d => congr; exact Array.eq_empty_of_size_eq_zero hs
    subst e0
    exact (l1Spoil_empty B g a len cap _ w h hB hg (by rw [ByteArray.toList_eq]; rfl)).mono fun e w' ⟨t, ht, he⟩ => ⟨t, by omega, he⟩
  · have he : s.toList.isEmpty = false := by
      have h3 : s.toList.length = s.size := by rw [ByteArray.toList_eq]; simp
      cases hl : s.toList with
      | nil => rw [hl] at h3; simp at h3; omega
      | cons a l => rfl
    exact (l1Spoil_some B g a len cap s w h hB hg he (by omega) h2).mono fun e w' ⟨t, ht, he⟩ => ⟨t, by omega, he⟩
end Go.Proofs.Ytoohcepobbbejaa.Num
