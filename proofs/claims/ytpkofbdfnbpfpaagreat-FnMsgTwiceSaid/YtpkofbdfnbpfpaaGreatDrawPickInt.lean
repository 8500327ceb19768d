/-
  The walk of the reference's l1PickInt: one number of a list that lies in a block of its own; of what was there only the cursor's block is written.
-/
import Derived.Test.YtpkofbdfnbpfpaaGreatDraw
namespace Go.Proofs.YtpkofbdfnbpfpaaGreat.Num
open Go.RowKit Go.Proofs

def PickIntP (B g : Nat) (a : Option Addr) (len cap : Nat) (zs : List Int) (w : World) (e : Ending) (w' : World) : Prop :=
  ∃ z, z ∈ zs ∧ e = .returned (.int .i64 z) ∧ Cur w' B g a len cap ∧ Only g w w'
theorem blk_lt {w : World} {b : Nat} {o : Obj} (h : w.heap[b]? = some o) : b < w.heap.size := by
  rcases Nat.lt_or_ge b w.heap.size with h' | h'
  · exact h'
  · rw [Array.getElem?_eq_none h'] at h; cases h
set_option maxHeartbeats 400000 in
theorem l1PickInt_any (B g : Nat) (a : Option Addr) (len cap : Nat) (b m c : Nat) (zs : List Int) (C : Array Value) (T : TypeId) (fr : Nat × Nat) (w : World) (h : Cur w B g a len cap) (hblk : w.heap[b]? = some (.cells C T fr)) (hC : C.toList = zs.map (Value.int .i64))
    (hm : m = zs.length) (h0 : 0 < m) (h1 : m ≤ 256) (hbg : b ≠ g) :
    Calls Tryz.prog 60 #[.pointer (some ⟨g, 0, none⟩), .slice (some ⟨b, 0, none⟩) m c] w (PickIntP B g a len cap zs w) := by
  have H := Lib.hid h; clear h
  have hlt := blk_lt hblk
  have Hblk := Lib.hid hblk; clear hblk
  have HC := Lib.hid hC; clear hC
  have Hm := Lib.hid hm; clear hm
  go_enter Tryz.func60, Tryz.ntmps60
  go_wp2_with fail
  refine (l1Below_any B g a len cap _ _ H.out (by omega)).mono ?_
  rintro e w1 ⟨r, r0, r1, rfl, hc1, ho1⟩
  have hr : r < m := r1 (by omega)
  clear r1
  obtain ⟨k, rfl⟩ := Int.eq_ofNat_of_zero_le r0
  have hk : k < zs.length := by have := Hm.out; omega
  have hblk1 : w1.heap[b]? = some (.cells C T fr) := by rw [ho1.block b hlt (by intro e; exact hbg (Option.some.inj e))]; exact Hblk.out
  have hcell : w1.cell? ⟨b, k, none⟩ = some (.int .i64 zs[k]) := by
    rw [cell_of_row w1 b k C T fr hblk1, ← Array.getElem?_toList, HC.out]; simp [hk]
  have Hc1 := Lib.hid hc1; clear hc1
  have Ho1 := Lib.hid ho1; clear ho1
  clear hblk1
  go_wp2_with fail
  go_ret
  exact ⟨zs[k], List.getElem_mem hk, rfl, Hc1.out, Ho1.out⟩
end Go.Proofs.YtpkofbdfnbpfpaaGreat.Num
