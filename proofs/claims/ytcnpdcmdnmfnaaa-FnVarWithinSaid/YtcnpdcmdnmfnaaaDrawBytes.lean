/-
  The walk of the reference's l1Bytes: a slice of n drawn bytes in new memory; of what was there only the cursor's block is written.
-/
import Derived.Test.YtcnpdcmdnmfnaaaDraw
namespace Go.Proofs.Ytcnpdcmdnmfnaaa.Num
open Go.RowKit Go.Proofs

theorem info_u8d : (Try.prog.info? 5).map (fun i => (i.zero, i.size, i.bytes)) = some (some (.int .u8 0), 1, 1) := by kernel_rfl
def BytesP (B g : Nat) (a : Option Addr) (len cap n : Nat) (w : World) (e : Ending) (w' : World) : Prop :=
  ∃ v l, e = .returned v ∧ l.length = n ∧ OwnB w' w.heap.size 5 v l ∧ Cur w' B g a len cap ∧ Off w.heap.size g w w'
set_option maxHeartbeats 800000 in
theorem l1Bytes_any (B g : Nat) (a : Option Addr) (len cap : Nat) (n : Nat) (w : World) (h : Cur w B g a len cap) (hB : B ≤ w.heap.size) (hg : g < w.heap.size) (hn : n ≤ 1048576) :
    Calls Try.prog 39 #[.pointer (some ⟨g, 0, none⟩), .int .i64 n] w (BytesP B g a len cap n w) := by
  obtain ⟨i0, hi, hz0, hz1, hz2⟩ := info_parts info_u8d
  have H := Lib.hid h; clear h
  go_enter Try.func39, Try.ntmps39
  go_wp2_with fail
  go_loopw [5, 6] (fun v i wr => ∃ (k : Nat) (l : List UInt8), k ≤ n ∧ i = .int .i64 k ∧ l.length = k ∧ OwnB wr w.heap.size 5 v l ∧ Hid (Cur wr B g a len cap) ∧ Off w.heap.size g w wr) (fun _ i _ => n - (intOf i).toNat)
  case atStart =>
    have hb : Below w.heap.size w (w.alloc (.cells #[] 5)) := (Below.refl _ _).alloc (Nat.le_refl _) _
    exact ⟨0, [], Nat.zero_le _, rfl, rfl, OwnB.empty (Nat.le_refl _), Lib.hid (H.out.other hb hg hB), Below.off hb⟩
  case round =>
    obtain ⟨k, l, hk, rfl, hl, hown, hcur, hoff⟩ := hrel
    have hsz := hoff.size
    have Hl := Lib.hid hl; clear hl
    have Hown := Lib.hid hown; clear hown
    by_cases hlt : k < n
    · go_wp2_with fail
      refine (l1Byte_any B g a len cap _ hcur.out).mono ?_
      rintro e w1 ⟨x, x0, x1, rfl, hc1, ho1⟩
      have Hc1 := Lib.hid hc1; clear hc1
      have hof1 : Off w.heap.size g wr w1 := Only.off ho1 hsz
      have Hown1 : Hid (OwnB w1 w.heap.size 5 u5 l) := Lib.hid (Hown.out.only ho1 (fun k hk => by have := (World.ownsRow.lt Hown.out k hk).1; omega))
      clear ho1
      have hsz1 := hof1.size
      have hbv : [Value.int .u8 x] = [UInt8.ofNat x.toNat].map byteV := by rw [List.map_cons, byteV_of _ (by omega) (by omega)]; rfl
      have Hbv := Lib.hid hbv; clear hbv
      have hll : l.length ≤ 1048576 := by rw [Hl.out]; omega
      go_wp2_with (at_builtin; refine wpList_appB rfl _ _ 22 rfl w.heap.size 5 i0 Try.underlying22 hi hz0 hz1 hz2 u5 l rfl (Hown1.out.alloc _) w1.heap.size _ (0, 0) (heap_alloc_new _ _) 1 1 rfl _ Hbv.out rfl (by omega) (by omega) (by simp; omega) ?_; intro v' w2 hown2 hb2)
      have hb3 : Below w.heap.size w1 w2 := ((Below.refl _ _).alloc (by omega) _).trans hb2
      have Hc2 : Hid (Cur w2 B g a len cap) := Lib.hid (Hc1.out.other hb3 hg hB)
      have hl2 : Hid ((l ++ [UInt8.ofNat x.toNat]).length = k + 1) := Lib.hid (by rw [List.length_append, Hl.out]; rfl)
      go_roundw
      case rel => exact ⟨k + 1, _, by omega, by go_num, hl2.out, hown2, Hc2, (hoff.trans hof1).trans (Below.off hb3)⟩
      case measure => simp [intOf]; omega
    · go_wp2_with fail
      go_ret
      exact ⟨_, l, rfl, by rw [Hl.out]; omega, Hown.out, hcur.out, hoff⟩
end Go.Proofs.Ytcnpdcmdnmfnaaa.Num
