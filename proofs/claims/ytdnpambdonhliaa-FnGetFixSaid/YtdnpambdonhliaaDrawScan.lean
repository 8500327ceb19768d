/-
  The walks of the reference's draws of stage 3 (l3Scan, l3Byte, l3Width, DrawScanByte, DrawPutFix, DrawGetFix): each gives some state, number or string; nothing that was there is written but the cursor.
-/
import Derived.Test.YtdnpambdonhliaaScanText
import Derived.Test.YtdnpambdonhliaaDrawVar
import Derived.Test.YtdnpambdonhliaaDrawBytes
import Derived.Test.YtdnpambdonhliaaDrawPickInt
import Derived.Deep.RegionWith
import Derived.Deep.DrawnRows
namespace Go.Proofs.Ytdnpambdonhliaa.Num
open Go.RowKit Go.Proofs
set_option linter.unusedVariables false

theorem Box.only {w w' : World} {b g : Nat} {vs : List Value} (h : Box w b vs) (ho : Only g w w') (hne : b ≠ g) : Box w' b vs := by
  refine ⟨Nat.lt_of_lt_of_le h.1 ho.size, fun j hj => ?_⟩
  have hb := ho.block b h.1 (by intro e; exact hne (Option.some.inj e))
  have e1 : w'.cell? ⟨b, j, none⟩ = w.cell? ⟨b, j, none⟩ := by unfold World.cell?; simp only [hb]
  have e2 : w'.frozen? ⟨b, j, none⟩ = w.frozen? ⟨b, j, none⟩ := by unfold World.frozen?; simp only [hb]
  rw [e1, e2]; exact h.2 j hj
theorem Box.off {w w' : World} {b C g : Nat} {vs : List Value} (h : Box w b vs) (ho : Off C g w w') (hne : b ≠ g) (hC : b < C) : Box w' b vs := by
  refine ⟨Nat.lt_of_lt_of_le h.1 ho.size, fun j hj => ?_⟩
  have hb := ho.block b hC hne
  have e1 : w'.cell? ⟨b, j, none⟩ = w.cell? ⟨b, j, none⟩ := by unfold World.cell?; simp only [hb]
  have e2 : w'.frozen? ⟨b, j, none⟩ = w.frozen? ⟨b, j, none⟩ := by unfold World.frozen?; simp only [hb]
  rw [e1, e2]; exact h.2 j hj
theorem l3Width_any (B g : Nat) (a : Option Addr) (len cap : Nat) (w : World) (h : Cur w B g a len cap) (hB : B ≤ w.heap.size) (hg : g < w.heap.size) :
    Calls Try.prog 49 #[.pointer (some ⟨g, 0, none⟩)] w fun e w' => ∃ z : Int, (z = 4 ∨ z = 8 ∨ z = 0 ∨ z = 5 ∨ z = -1 ∨ z = 9) ∧ e = .returned (.int .i64 z) ∧ Cur w' B g a len cap ∧ Off w.heap.size g w w' := by
  have H := Lib.hid h; clear h
  go_enter Try.func49, Try.ntmps49
  go_wp2_with fail
  refine (l1PickInt_any _ g a len cap _ 10 10 [4, 8, 4, 8, 4, 8, 0, 5, -1, 9] _ _ _ _ (H.out.other ((Below.refl w.heap.size _).alloc (Nat.le_refl _) _) (by omega) (by omega)) (heap_alloc_new _ _) rfl rfl (by omega) (by omega) (by omega)).mono ?_
  rintro e w1 ⟨z, hz, rfl, hc1, ho1⟩
  have Hz := Lib.hid hz
  have Hc1 := Lib.hid hc1
  have hf1 : Off w.heap.size g w w1 := (Below.off ((Below.refl _ _).alloc (Nat.le_refl _) _)).trans (Only.off ho1 (by simp))
  clear hz hc1 ho1
  go_wp2_with fail
  go_ret
  exact ⟨z, by have := Hz.out; simp only [List.mem_cons, List.not_mem_nil, or_false] at this; omega, rfl, Hc1.out, hf1⟩
theorem l3Byte_any (B g : Nat) (a : Option Addr) (len cap : Nat) (w : World) (h : Cur w B g a len cap) (hB : B ≤ w.heap.size) (hg : g < w.heap.size) :
    Calls Try.prog 46 #[.pointer (some ⟨g, 0, none⟩)] w fun e w' => ∃ z : Int, (-9223372036854775808 ≤ z ∧ z ≤ 9223372036854775807) ∧ e = .returned (.int .i64 z) ∧ Cur w' B g a len cap ∧ Off w.heap.size g w w' := by
  have H := Lib.hid h; clear h
  go_enter Try.func46, Try.ntmps46
  go_wp2_with fail
  refine (l1Once_any B g a len cap _ _ H.out (by omega)).mono ?_
  rintro e w1 ⟨b, rfl, hc1, ho1⟩
  have Hc1 := Lib.hid hc1; clear hc1
  have hf1 : Off w.heap.size g w w1 := Only.off ho1 (Nat.le_refl _)
  have hz1 := ho1.size
  clear ho1
  cases b with
  | true =>
    go_wp2_with fail
    refine (l1PickInt_any _ g a len cap _ 4 4 [-1, 256, 9223372036854775807, -9223372036854775808] _ _ _ _ (Hc1.out.other ((Below.refl w1.heap.size _).alloc (Nat.le_refl _) _) (by omega) (by omega)) (heap_alloc_new _ _) rfl rfl (by omega) (by omega) (by omega)).mono ?_
    rintro e w2 ⟨z, hz, rfl, hc2, ho2⟩
    have Hz := Lib.hid hz
    have Hc2 := Lib.hid hc2
    have hf2 : Off w.heap.size g w1 w2 := (Below.off ((Below.refl _ _).alloc (by omega) _)).trans (Only.off ho2 (by simp; omega))
    clear hz hc2 ho2
    go_wp2_with fail
    go_ret
    exact ⟨z, by have := Hz.out; simp only [List.mem_cons, List.not_mem_nil, or_false] at this; omega, rfl, Hc2.out, hf1.trans hf2⟩
  | false =>
    go_wp2_with fail
    refine (l1Below_any B g a len cap _ _ Hc1.out (by omega)).mono ?_
    rintro e w2 ⟨r, r0, r1, rfl, hc2, ho2⟩
    have hr : r < 256 := r1 (by omega)
    have Hc2 := Lib.hid hc2
    have hf2 : Off w.heap.size g w1 w2 := Only.off ho2 (by omega)
    have hz2 := ho2.size
    clear hc2 ho2 r1
    go_wp2_with fail
    refine (l1PickInt_any _ g a len cap _ 8 8 [0, 1, 2, 127, 128, 129, 255, r] _ _ _ _ (Hc2.out.other ((Below.refl w2.heap.size _).alloc (Nat.le_refl _) _) (by omega) (by omega)) (heap_alloc_new _ _) rfl rfl (by omega) (by omega) (by omega)).mono ?_
    rintro e w3 ⟨z, hz, rfl, hc3, ho3⟩
    have Hz := Lib.hid hz
    have Hc3 := Lib.hid hc3
    have hf3 : Off w.heap.size g w2 w3 := (Below.off ((Below.refl _ _).alloc (by omega) _)).trans (Only.off ho3 (by simp; omega))
    clear hz hc3 ho3
    go_wp2_with fail
    go_ret
    exact ⟨z, by have := Hz.out; simp only [List.mem_cons, List.not_mem_nil, or_false] at this; omega, rfl, Hc3.out, (hf1.trans hf2).trans hf3⟩
theorem Off.setCell {C g : Nat} {a w : World} (h : Off C g a w) {p : Addr} (hp : C ≤ p.block) (v : Value) : Off C g a (w.setCell p v) := h.trans (Below.off ((Below.refl _ _).setCell hp v))
theorem Off.drew {C g : Nat} {a w : World} (h : Off C g a w) : Off C g a w.drew := ⟨h.os, h.tape, h.output, h.size, h.block⟩
theorem Cur.setCell {w : World} {B g : Nat} {a : Option Addr} {len cap : Nat} (h : Cur w B g a len cap) (hgB : B ≤ g) {p : Addr} (hp : g < p.block) (v : Value) : Cur (w.setCell p v) B g a len cap :=
  h.other (C := g + 1) ((Below.refl _ _).setCell hp v) (by omega) (by omega)
def i64B (h : Int) : Prop := -9223372036854775808 ≤ h ∧ h ≤ 9223372036854775807
theorem scan_some (b : Nat) (h x : Int) (hb : b ≤ 18446744073709551615) (hh : i64B h) : ∃ (V : Nat) (H C : Int), scanByteR b h x = (V, H, C) ∧ V ≤ 18446744073709551615 ∧ i64B H := by
  refine ⟨(scanByteR b h x).1, (scanByteR b h x).2.1, (scanByteR b h x).2.2, rfl, scanByteR_bound hb, ?_⟩
  unfold i64B at hh ⊢
  unfold scanByteR
  split
  · next hc =>
    have h1 := hc.1
    unfold scanOkB at h1
    simp only [Bool.and_eq_true, decide_eq_true_iff] at h1
    simp only; omega
  · exact hh
theorem specScanByte_as (b : Nat) (h x : Int) (w : World) (V : Nat) (H C : Int) (hS : scanByteR b h x = (V, H, C)) :
    Calls Try.prog 24 #[scV b h, .int .i64 x] w fun e w' => e = .returned (.tuple #[.agg #[.int .u64 V, .int .i64 H], .int .i64 C]) ∧ Below w.heap.size w w' :=
  (specScanByte_any b h x w).mono fun e w' ⟨he, hb⟩ => ⟨by rw [he, hS]; rfl, hb⟩
set_option maxHeartbeats 2000000 in
set_option maxRecDepth 100000 in
theorem l3Scan_any (B g : Nat) (a : Option Addr) (len cap : Nat) (w : World) (h : Cur w B g a len cap) (hB : B ≤ w.heap.size) (hg : g < w.heap.size) :
    Calls Try.prog 45 #[.pointer (some ⟨g, 0, none⟩)] w fun e w' => ∃ (b : Nat) (h : Int), b ≤ 18446744073709551615 ∧ i64B h ∧ e = .returned (scV b h) ∧ Cur w' B g a len cap ∧ Off w.heap.size g w w' := by
  have H := Lib.hid h; clear h
  have hgB : B ≤ g := H.out.choose_spec.choose_spec.1
  go_enter Try.func45, Try.ntmps45
  go_wp2_with fail
  refine (l1Below_any B g a len cap _ _ (H.out.other (((Below.refl w.heap.size w).alloc (Nat.le_refl _) _).alloc (by simp) _) (by omega) (by omega)) (by omega)).mono ?_
  rintro e w1 ⟨n, n0, n1, rfl, hc1, ho1⟩
  have hn : n < 10 := n1 (by omega)
  have Hc1 := Lib.hid hc1
  obtain ⟨N, rfl⟩ := Int.eq_ofNat_of_zero_le n0
  have hz1 : w.heap.size + 1 < w1.heap.size := by have := ho1.size; simp at this; omega
  have hx1 : Hid (Box w1 (w.heap.size + 1) [.int .u64 ((0 : Nat) : Int), .int .i64 0]) := Lib.hid ((Box.fresh2 w _ _ _).only ho1 (by omega))
  have hy1 : Hid (Box w1 w.heap.size [.int .u64 0, .int .i64 0]) := Lib.hid (((Box.fresh w _ _).alloc _).only ho1 (by omega))
  have hf1 : Off w.heap.size g w w1 := (Below.off (((Below.refl w.heap.size w).alloc (Nat.le_refl _) _).alloc (by simp) _)).trans (Only.off ho1 (by simp; omega))
  clear n1 hc1 ho1
  go_wp2_with fail
  go_loopw [5] (fun i wr => ∃ (k V : Nat) (H : Int), k ≤ N ∧ i = .int .i64 k ∧ Hid (V ≤ 18446744073709551615) ∧ Hid (i64B H) ∧ Hid (Box wr (w.heap.size + 1) [.int .u64 (V : Int), .int .i64 H]) ∧ Hid (Box wr w.heap.size [.int .u64 0, .int .i64 0]) ∧ Hid (Cur wr B g a len cap) ∧ Off w.heap.size g w wr) (fun i _ => N - (intOf i).toNat)
  case atStart => exact ⟨0, 0, 0, by omega, rfl, Lib.hid (by omega), Lib.hid (by unfold i64B; omega), hx1, hy1, Hc1, hf1⟩
  case round =>
    obtain ⟨k, V, H, hk, rfl, HV, HH, hbx, hby, hcur, hof⟩ := hrel
    clear hx1 hy1
    have hz0 := hbx.out.lt
    obtain ⟨c0, c1, f0, f1⟩ := hbx.out.two
    by_cases hlt : k < N
    · have hlti : (k : Int) < (N : Int) := by omega
      go_wp2_with fail
      go_region_with (first | (go_at_call 39; refine (l1Below_any B g a len cap _ _ hcur.out.drew (by omega)).mono ?_; rintro e w2 ⟨r, r0, r1, rfl, hc2, ho2⟩; have hr := r1 (by omega); have Hc2 := Lib.hid hc2; have hw : IntKind.i64.wrap (128 + r) = 128 + r := IntWalk.i64_in _ (by omega); have hx2 := Lib.hid (hbx.out.drew.only ho2 (by omega)); obtain ⟨e0, e1, p0, p1⟩ := hx2.out.two; obtain ⟨V', H', C', hS, hV', hH'⟩ := scan_some V H (128 + r) HV.out HH.out; have HS := Lib.hid hS; have HV' := Lib.hid hV'; have HH' := Lib.hid hH'; clear r1 hc2 hS hV' hH') | (go_at_call 24; refine (specScanByte_as V H (128 + r) _ V' H' C' HS.out).mono ?_; rintro e w3 ⟨rfl, hb3⟩; obtain ⟨e2, e3, p2, p3⟩ := (hx2.out.below hb3 hx2.out.lt).two))
      all_goals
        have hof2 : Off w.heap.size g wr w2 := (Off.drew (Off.refl _ _ _)).trans (Only.off ho2 (by simp; omega))
        have hof3 : Off w.heap.size g wr w3 := hof2.trans (Below.off (hb3.mono (by have := ho2.size; simp at this; omega)))
        go_wp2_with fail
        refine ⟨⟨k + 1, V', H', by omega, by go_num, HV', HH', Lib.hid (((hx2.out.below hb3 hx2.out.lt).set 0 _).set 1 _), Lib.hid (((((hby.out.drew.only ho2 (by omega)).below hb3 (by have := ho2.size; simp at this; omega)).other (by simp) _).other (by simp) _)), Lib.hid (((Hc2.out.other hb3 (by have := ho2.size; simp at this; omega) (by have := ho2.size; simp at this; omega)).setCell hgB (by simp; omega) _).setCell hgB (by simp; omega) _), hof.trans ((hof3.setCell (by simp) _).setCell (by simp) _)⟩, by simp [intOf] <;> omega⟩
    · have hge : (N : Int) ≤ (k : Int) := by omega
      have hend : decide (k < N) = false := decide_eq_false hlt
      obtain ⟨d0, d1, g0, g1⟩ := hby.out.two
      go_wp2_with fail
      refine (l1Below_any B g a len cap _ _ hcur.out (by omega)).mono ?_
      rintro e w2 ⟨r, r0, r1, rfl, hc2, ho2⟩
      have Hc2 := Lib.hid hc2
      have hx2 := Lib.hid (hbx.out.only ho2 (by omega))
      have hy2 := Lib.hid (hby.out.only ho2 (by omega))
      have hf2 : Off w.heap.size g w w2 := hof.trans (Only.off ho2 (by omega))
      have hz2 := hx2.out.lt
      clear hbx hby hcur hof c0 c1 f0 f1 d0 d1 g0 g1 hc2 ho2 r1
      by_cases h0 : r = 0
      · subst h0
        go_wp2_with fail
        refine (l1PickInt_any _ g a len cap _ 7 7 [-1, 0, 9, 10, 11, 9223372036854775807, -9223372036854775808] _ _ _ _ (Hc2.out.other ((Below.refl w2.heap.size _).alloc (Nat.le_refl _) _) (by omega) (by omega)) (heap_alloc_new _ _) rfl rfl (by omega) (by omega) (by omega)).mono ?_
        rintro e w3 ⟨z, hz, rfl, hc3, ho3⟩
        have Hz : Hid (i64B z) := Lib.hid (by unfold i64B; simp only [List.mem_cons, List.not_mem_nil, or_false] at hz; omega)
        have Hc3 := Lib.hid hc3
        have hx3 := Lib.hid ((hx2.out.alloc _).only ho3 (by omega))
        have hy3 := Lib.hid ((hy2.out.alloc _).only ho3 (by omega))
        have hf3 : Off w.heap.size g w w3 := hf2.trans ((Below.off ((Below.refl _ _).alloc (by omega) _)).trans (Only.off ho3 (by simp; omega)))
        obtain ⟨e0, e1, p0, p1⟩ := hx3.out.two
        obtain ⟨d0, d1, q0, q1⟩ := hy3.out.two
        clear hz hc3 ho3
        go_wp2_with fail
        refine bodyPost_ret (v := .agg #[.int .u64 V, .int .i64 z]) (by simp [results, Try.results45, go_sem, d0, d1]) rfl ⟨V, z, HV.out, Hz.out, rfl, ?_, ?_⟩
        · repeat (first | exact Hc3.out | refine Cur.setCell ?_ hgB (by simp <;> omega) _)
        · repeat (first | exact hf3 | refine Off.setCell ?_ (by simp <;> omega) _)
      · have n0' : (r == 0) = false := by rw [beq_eq_false_iff_ne]; exact h0
        by_cases h1 : r = 1
        · subst h1
          go_wp2_with fail
          refine (l1Wide_any _ g a len cap _ Hc2.out (by omega)).mono ?_
          rintro e w3 ⟨u, hu, rfl, hc3, hof3⟩
          have Hu := Lib.hid hu
          have Hc3 := Lib.hid hc3
          have hf3 : Off w.heap.size g w w3 := hf2.trans (hof3.mono (by omega))
          have hx3 := Lib.hid (hx2.out.off hof3 (by omega) (by omega))
          have hy3 := Lib.hid (hy2.out.off hof3 (by omega) (by omega))
          obtain ⟨e0, e1, p0, p1⟩ := hx3.out.two
          obtain ⟨d0, d1, q0, q1⟩ := hy3.out.two
          clear hu hc3 hof3
          go_wp2_with fail
          refine bodyPost_ret (v := .agg #[.int .u64 u, .int .i64 H]) (by simp [results, Try.results45, go_sem, d0, d1]) rfl ⟨u, H, Hu.out, HH.out, rfl, ?_, ?_⟩
          · repeat (first | exact Hc3.out | refine Cur.setCell ?_ hgB (by simp <;> omega) _)
          · repeat (first | exact hf3 | refine Off.setCell ?_ (by simp <;> omega) _)
        · have n1' : (r == 1) = false := by rw [beq_eq_false_iff_ne]; exact h1
          obtain ⟨e0, e1, p0, p1⟩ := hx2.out.two
          obtain ⟨d0, d1, q0, q1⟩ := hy2.out.two
          clear h0 h1
          go_wp2_with fail
          refine bodyPost_ret (v := .agg #[.int .u64 V, .int .i64 H]) (by simp [results, Try.results45, go_sem, d0, d1]) rfl ⟨V, H, HV.out, HH.out, rfl, ?_, ?_⟩
          · repeat (first | exact Hc2.out | refine Cur.setCell ?_ hgB (by simp <;> omega) _)
          · repeat (first | exact hf2 | refine Off.setCell ?_ (by simp <;> omega) _)
theorem drawScanByte_any (a : Option Addr) (len cap : Nat) (w : World) (h : CodeAt w w.heap.size a len) :
    Calls Try.prog 22 #[.slice a len cap] w fun e w' => ∃ (b : Nat) (h x : Int), b ≤ 18446744073709551615 ∧ i64B h ∧ i64B x ∧ e = .returned (.tuple #[scV b h, .int .i64 x]) ∧ Below w.heap.size w w' := by
  have H := Lib.hid h; clear h
  go_enter Try.func22, Try.ntmps22
  go_wp2_with fail
  refine (l1New_any w.heap.size a len cap _ (by simp) (H.out.below ((Below.refl _ _).alloc (Nat.le_refl _) _))).mono ?_
  rintro e w1 ⟨g, rfl, hc1, hb1, hg1, hg1'⟩
  have Hc1 := Lib.hid hc1; clear hc1
  have hz1 := alloc_lt hb1
  have hb1' := from_alloc hb1
  have hx1 := Lib.hid ((Box.fresh w _ _).below hb1 (by simp))
  have hgw : w.heap.size < g := by simp at hg1; omega
  clear hb1 hg1
  go_wp2_with fail
  refine (l3Scan_any _ g a len cap _ Hc1.out (by omega) (by omega)).mono ?_
  rintro e w2 ⟨b, hh, hb, hhB, rfl, hc2, hf2⟩
  have Hb := Lib.hid hb
  have HhB := Lib.hid hhB
  have Hc2 := Lib.hid hc2
  have hx2 := Lib.hid (hx1.out.off hf2 (by omega) (by omega))
  have hb2 : Below w.heap.size w w2 := hb1'.trans (hf2.below (by omega) (by omega))
  have hz2 := hf2.size
  clear hb hhB hc2 hf2
  simp only [scV]
  go_wp2_with fail
  refine (l3Byte_any _ g a len cap _ Hc2.out (by omega) (by omega)).mono ?_
  rintro e w3 ⟨x, hxB, rfl, hc3, hf3⟩
  have HxB := Lib.hid hxB
  have hx3 := Lib.hid (hx2.out.off hf3 (by omega) (by omega))
  have hb3 : Below w.heap.size w w3 := hb2.trans (hf3.below (by omega) (by omega))
  obtain ⟨d0, d1, q0, q1⟩ := hx3.out.two
  clear hxB hc3 hf3
  go_wp2_with fail
  refine bodyPost_ret (v := .tuple #[.agg #[.int .u64 b, .int .i64 hh], .int .i64 x]) (by simp [results, Try.results22, go_sem, d0, d1]) rfl ⟨b, hh, x, Hb.out, HhB.out, HxB.out, rfl, ?_⟩
  repeat (first | exact hb3 | refine Below.setCell ?_ (by simp) _)
theorem drawPutFix_any (a : Option Addr) (len cap : Nat) (w : World) (h : CodeAt w w.heap.size a len) :
    Calls Try.prog 26 #[.slice a len cap] w fun e w' => ∃ (u : Nat) (n : Int), u ≤ 18446744073709551615 ∧ -1 ≤ n ∧ n ≤ 9 ∧ e = .returned (.tuple #[.int .u64 u, .int .i64 n]) ∧ Below w.heap.size w w' := by
  have H := Lib.hid h; clear h
  go_enter Try.func26, Try.ntmps26
  go_wp2_with fail
  refine (l1New_any _ a len cap _ (Nat.le_refl _) H.out).mono ?_
  rintro e w1 ⟨g, rfl, hc1, hb1, hg1, hg1'⟩
  have Hc1 := Lib.hid hc1; clear hc1
  have hz1 := hb1.size
  go_wp2_with fail
  refine (l1Wide_any _ g a len cap _ Hc1.out hg1').mono ?_
  rintro e w2 ⟨u, h0, rfl, hc2, ho2⟩
  have hb2 : Below w.heap.size w1 w2 := ho2.below hg1 hz1
  have Hc2 := Lib.hid hc2; clear hc2
  have H0 := Lib.hid h0
  have hz2 := hb2.size
  clear h0 ho2
  go_wp2_with fail
  refine (l3Width_any _ g a len cap _ Hc2.out (by omega) (by omega)).mono ?_
  rintro e w3 ⟨z, hz, rfl, hc3, hf3⟩
  have hb3 : Below w.heap.size w2 w3 := hf3.below hg1 (by omega)
  have Hz : Hid (-1 ≤ z ∧ z ≤ 9) := Lib.hid (by omega)
  clear hc3 hf3 hz
  go_wp2_with fail
  go_ret2
  exact ⟨u, z, H0.out, Hz.out.1, Hz.out.2, rfl, (hb1.trans hb2).trans hb3⟩
end Go.Proofs.Ytdnpambdonhliaa.Num
