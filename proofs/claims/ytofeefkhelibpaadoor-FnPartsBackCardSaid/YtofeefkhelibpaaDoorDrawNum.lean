/-
  The walks of the reference's DrawDigits and DrawLong: each gives some number of its type; nothing that was there is written.
-/
import Derived.Test.YtofeefkhelibpaaDoorDraw
namespace Go.Proofs.YtofeefkhelibpaaDoor.Num
open Go.RowKit Go.Proofs

def PickIntP (B g : Nat) (a : Option Addr) (len cap : Nat) (zs : List Int) (w : World) (e : Ending) (w' : World) : Prop :=
  ∃ z, z ∈ zs ∧ e = .returned (.int .i64 z) ∧ Cur w' B g a len cap ∧ Only g w w'
theorem blk_lt {w : World} {b : Nat} {o : Obj} (h : w.heap[b]? = some o) : b < w.heap.size := by
  rcases Nat.lt_or_ge b w.heap.size with h' | h'
  · exact h'
  · rw [Array.getElem?_eq_none h'] at h; cases h
set_option maxHeartbeats 400000 in
theorem l1PickInt_any (B g : Nat) (a : Option Addr) (len cap : Nat) (b m c : Nat) (zs : List Int) (C : Array Value) (T : TypeId) (fr : Nat × Nat) (w : World) (h : Cur w B g a len cap) (hblk : w.heap[b]? = some (.cells C T fr)) (hC : C.toList = zs.map (Value.int .i64))
    (hm : m = zs.length) (h0 : 0 < m) (h1 : m ≤ 256) (hbg : b ≠ g) :
    Calls Tryd.prog 32 #[.pointer (some ⟨g, 0, none⟩), .slice (some ⟨b, 0, none⟩) m c] w (PickIntP B g a len cap zs w) := by
  have H := Lib.hid h; clear h
  have hlt := blk_lt hblk
  have Hblk := Lib.hid hblk; clear hblk
  have HC := Lib.hid hC; clear hC
  have Hm := Lib.hid hm; clear hm
  go_enter Tryd.func32, Tryd.ntmps32
  go_wp2_with fail
  refine (l1Below_any B g a len cap _ _ H.out (by omega)).mono ?_
  rintro e w1 ⟨r, r0, r1, rfl, hc1, ho1⟩
  have hr : r < m := r1 (by omega)
  clear r1
  obtain ⟨k, rfl⟩ := Int.eq_ofNat_of_zero_le r0
  have hk : k < zs.length := by have := Hm.out; omega
  have hblk1 : w1.heap[b]? = some (.cells C T fr) := by rw [ho1.block b hlt (by intro e; exact hbg (Option.some.inj e))]; exact Hblk.out
  have hcell : w1.cell? ⟨b, k, none⟩ = some (.int .i64 zs[k]) := by
    rw [cell_of_row w1 b k C T fr hblk1, ← Array.getElem?_toList, HC.out]; simp [hk]
  have Hc1 := Lib.hid hc1; clear hc1
  have Ho1 := Lib.hid ho1; clear ho1
  clear hblk1
  go_wp2_with fail
  go_ret
  exact ⟨zs[k], List.getElem_mem hk, rfl, Hc1.out, Ho1.out⟩

/-- Some number of the type int. -/
def WholeP (w : World) (C : Nat) (e : Ending) (w' : World) : Prop := ∃ n : Int, -9223372036854775808 ≤ n ∧ n ≤ 9223372036854775807 ∧ e = .returned (.int .i64 n) ∧ Below C w w'
set_option maxHeartbeats 400000 in
set_option maxRecDepth 100000 in
theorem l1Whole_any (B g : Nat) (a : Option Addr) (len cap : Nat) (w : World) (h : Cur w B g a len cap) (hB : B ≤ w.heap.size) (hg : g < w.heap.size) :
    Calls Tryd.prog 23 #[.pointer (some ⟨g, 0, none⟩)] w (WholeP w B) := by
  have hgB : B ≤ g := h.choose_spec.choose_spec.1
  have H := Lib.hid h; clear h
  go_enter Tryd.func23, Tryd.ntmps23
  go_wp2_with fail
  refine (l1Below_any B g a len cap _ _ H.out (by omega)).mono ?_
  rintro e w1 ⟨r, r0, r1, rfl, hc1, ho1⟩
  clear r1
  have Hc1 := Lib.hid hc1; clear hc1
  have hb1 : Below B w w1 := ho1.below hgB hB
  have hz1 := ho1.size
  clear ho1
  by_cases c0 : r = 0
  · subst c0
    go_wp2_with fail
    refine (l1PickInt_any B g a len cap _ 11 11 [0, 1, -1, 9, 10, 127, 128, 999999999, 1000000000, 9223372036854775807, -9223372036854775808] _ _ _ _ (Hc1.out.other ((Below.refl w1.heap.size _).alloc (Nat.le_refl _) _) (by omega) (by omega)) (heap_alloc_new _ _) rfl rfl (by omega) (by omega) (by omega)).mono ?_
    rintro e w2 ⟨z, hz, rfl, hc2, ho2⟩
    have hzb : -9223372036854775808 ≤ z ∧ z ≤ 9223372036854775807 := by
      simp only [List.mem_cons, List.not_mem_nil, or_false] at hz
      omega
    have hb2 : Below B w1 w2 := ((Below.refl _ _).alloc (by omega) _).trans (ho2.below hgB (by simp; omega))
    clear ho2 hc2 hz
    have Hz := Lib.hid hzb; clear hzb
    go_wp2_with fail
    go_ret
    exact ⟨z, Hz.out.1, Hz.out.2, rfl, hb1.trans hb2⟩
  · have n0 : (r == 0) = false := by rw [beq_eq_false_iff_ne]; exact c0
    by_cases c1 : r = 1
    · subst c1
      clear c0 n0
      go_wp2_with fail
      refine (l1Below_any B g a len cap _ _ Hc1.out (by omega)).mono ?_
      rintro e w2 ⟨q, q0, q1, rfl, hc2, ho2⟩
      have hq : q < 1000000 := q1 (by omega)
      have hb2 : Below B w1 w2 := ho2.below hgB (by omega)
      clear ho2 hc2 q1
      go_wp2_with fail
      go_ret
      exact ⟨q - 500000, by omega, by omega, rfl, hb1.trans hb2⟩
    · have n1 : (r == 1) = false := by rw [beq_eq_false_iff_ne]; exact c1
      clear c0 c1
      go_wp2_with fail
      refine (l1Below_any B g a len cap _ _ Hc1.out (by omega)).mono ?_
      rintro e w2 ⟨q, q0, q1, rfl, hc2, ho2⟩
      have hq : q < 20 := q1 (by omega)
      have hb2 : Below B w1 w2 := ho2.below hgB (by omega)
      clear ho2 hc2 q1
      go_wp2_with fail
      go_ret
      exact ⟨q, by omega, by omega, rfl, hb1.trans hb2⟩
theorem drawDigits_any (a : Option Addr) (len cap : Nat) (w : World) (h : CodeAt w w.heap.size a len) :
    Calls Tryd.prog 9 #[.slice a len cap] w (WholeP w w.heap.size) := by
  have H := Lib.hid h; clear h
  go_enter Tryd.func9, Tryd.ntmps9
  go_wp2_with fail
  refine (l1New_any _ a len cap _ (Nat.le_refl _) H.out).mono ?_
  rintro e w1 ⟨g, rfl, hc1, hb1, hg1, hg1'⟩
  have Hc1 := Lib.hid hc1; clear hc1
  have hz1 := hb1.size
  go_wp2_with fail
  refine (l1Whole_any _ g a len cap _ Hc1.out hz1 hg1').mono ?_
  rintro e w2 ⟨n, h0, h1, rfl, hb2⟩
  have H0 := Lib.hid h0
  have H1 := Lib.hid h1
  clear h0 h1
  go_wp2_with fail
  go_ret
  exact ⟨n, H0.out, H1.out, rfl, hb1.trans hb2⟩

/-- Some number of the type uint64. -/
def WideP (w : World) (C : Nat) (e : Ending) (w' : World) : Prop := ∃ u : Nat, u ≤ 18446744073709551615 ∧ e = .returned (.int .u64 u) ∧ Below C w w'
def big64 : Nat := 18446744073709551616
theorem wrap_u64_nat (x : Int) : ∃ u : Nat, u ≤ 18446744073709551615 ∧ IntKind.u64.wrap x = u := ⟨(x % 18446744073709551616).toNat, by omega, by rw [IntKind.wrap_u64]; omega⟩
set_option maxHeartbeats 400000 in
set_option maxRecDepth 100000 in
theorem l1Wide_any (B g : Nat) (a : Option Addr) (len cap : Nat) (w : World) (h : Cur w B g a len cap) (hB : B ≤ w.heap.size) (hg : g < w.heap.size) :
    Calls Tryd.prog 28 #[.pointer (some ⟨g, 0, none⟩)] w (WideP w B) := by
  have hgB : B ≤ g := h.choose_spec.choose_spec.1
  have H := Lib.hid h; clear h
  go_enter Tryd.func28, Tryd.ntmps28
  go_wp2_with fail
  refine (l1Below_any B g a len cap _ _ H.out (by omega)).mono ?_
  rintro e w1 ⟨r, r0, r1, rfl, hc1, ho1⟩
  clear r1
  have Hc1 := Lib.hid hc1; clear hc1
  have hb1 : Below B w w1 := ho1.below hgB hB
  have hz1 := ho1.size
  clear ho1
  by_cases c0 : r = 0
  · subst c0
    go_wp2_with fail
    refine (l1Below_any B g a len cap _ _ (Hc1.out.other ((Below.refl w1.heap.size _).alloc (Nat.le_refl _) _) (by omega) (by omega)) (by omega)).mono ?_
    rintro e w2 ⟨q, q0, q1, rfl, hc2, ho2⟩
    have hq : q < 12 := q1 (by omega)
    clear q1 hc2
    obtain ⟨k, rfl⟩ := Int.eq_ofNat_of_zero_le q0
    have hblk2 := (ho2.block w1.heap.size (by simp) (by intro e; have := Option.some.inj e; omega)).trans (heap_alloc_new w1 _)
    have hb2 : Below B w1 w2 := ((Below.refl _ _).alloc (by omega) _).trans (ho2.below hgB (by simp; omega))
    obtain ⟨z, hz, hcell⟩ : ∃ z : Nat, Hid (z ≤ 18446744073709551615) ∧ w2.cell? ⟨w1.heap.size, k, none⟩ = some (.int .u64 z) := by
      rw [cell_of_row w2 _ k _ _ _ hblk2]
      have hk : k < 12 := by omega
      match k, hk with
      | 0, _ => exact ⟨0, Lib.hid (by omega), rfl⟩
      | 1, _ => exact ⟨1, Lib.hid (by omega), rfl⟩
      | 2, _ => exact ⟨127, Lib.hid (by omega), rfl⟩
      | 3, _ => exact ⟨128, Lib.hid (by omega), rfl⟩
      | 4, _ => exact ⟨16383, Lib.hid (by omega), rfl⟩
      | 5, _ => exact ⟨16384, Lib.hid (by omega), rfl⟩
      | 6, _ => exact ⟨2147483647, Lib.hid (by omega), rfl⟩
      | 7, _ => exact ⟨4294967295, Lib.hid (by omega), rfl⟩
      | 8, _ => exact ⟨4294967296, Lib.hid (by omega), rfl⟩
      | 9, _ => exact ⟨9223372036854775807, Lib.hid (by omega), rfl⟩
      | 10, _ => exact ⟨9223372036854775808, Lib.hid (by omega), rfl⟩
      | 11, _ => exact ⟨18446744073709551615, Lib.hid (by omega), rfl⟩
    clear ho2 hblk2
    go_wp2_with fail
    go_ret
    exact ⟨z, hz.out, rfl, hb1.trans hb2⟩
  · have n0 : (r == 0) = false := by rw [beq_eq_false_iff_ne]; exact c0
    by_cases c1 : r = 1
    · subst c1
      clear c0 n0
      go_wp2_with fail
      go_loopw [3, 4] (fun x i wr => ∃ (k : Nat) (u : Nat), k ≤ 8 ∧ i = .int .i64 k ∧ x = .int .u64 u ∧ Hid (u ≤ 18446744073709551615) ∧ Hid (Cur wr B g a len cap) ∧ Below B w1 wr ∧ w1.heap.size ≤ wr.heap.size) (fun _ i _ => 8 - (intOf i).toNat)
      case atStart => exact ⟨0, 0, by omega, rfl, rfl, Lib.hid (by omega), Hc1, Below.refl _ _, Nat.le_refl _⟩
      case round =>
        obtain ⟨k, u, hk, rfl, rfl, hu, hc, hb, hz⟩ := hrel
        by_cases hlt : (k : Int) < 8
        · go_wp2_with fail
          refine (l1Byte_any B g a len cap _ hc.out).mono ?_
          rintro e w2 ⟨x, x0, x1, rfl, hc2, ho2⟩
          have Hc2 := Lib.hid hc2; clear hc2
          have hb2 : Below B wr w2 := ho2.below hgB (by omega)
          have hz2 := ho2.size
          clear ho2
          go_wp2_with fail
          go_roundw
          case rel =>
            obtain ⟨u', hu', eu⟩ := wrap_u64_nat (IntKind.u64.wrap (256 * (u : Int)) + x)
            exact ⟨k + 1, u', by omega, by go_num, by rw [eu], Lib.hid hu', Hc2, hb.trans hb2, by omega⟩
          case measure => simp [intOf]; omega
        · go_wp2_with fail
          go_ret
          exact ⟨u, hu.out, rfl, hb1.trans hb⟩
    · have n1 : (r == 1) = false := by rw [beq_eq_false_iff_ne]; exact c1
      clear c0 c1
      go_wp2_with fail
      refine (l1Below_any B g a len cap _ _ Hc1.out (by omega)).mono ?_
      rintro e w2 ⟨q, q0, q1, rfl, hc2, ho2⟩
      have hq : q < 300 := q1 (by omega)
      have hb2 : Below B w1 w2 := ho2.below hgB (by omega)
      clear ho2 hc2 q1
      obtain ⟨k, rfl⟩ := Int.eq_ofNat_of_zero_le q0
      go_wp2_with fail
      go_ret
      exact ⟨k, by omega, rfl, hb1.trans hb2⟩
theorem drawLong_any (a : Option Addr) (len cap : Nat) (w : World) (h : CodeAt w w.heap.size a len) :
    Calls Tryd.prog 12 #[.slice a len cap] w (WideP w w.heap.size) := by
  have H := Lib.hid h; clear h
  go_enter Tryd.func12, Tryd.ntmps12
  go_wp2_with fail
  refine (l1New_any _ a len cap _ (Nat.le_refl _) H.out).mono ?_
  rintro e w1 ⟨g, rfl, hc1, hb1, hg1, hg1'⟩
  have Hc1 := Lib.hid hc1; clear hc1
  have hz1 := hb1.size
  go_wp2_with fail
  refine (l1Wide_any _ g a len cap _ Hc1.out hz1 hg1').mono ?_
  rintro e w2 ⟨n, h0, rfl, hb2⟩
  have H0 := Lib.hid h0
  clear h0
  go_wp2_with fail
  go_ret
  exact ⟨n, H0.out, rfl, hb1.trans hb2⟩
end Go.Proofs.YtofeefkhelibpaaDoor.Num
