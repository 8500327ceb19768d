/-
  The walks of the laws' toSchema: a description laid anew in new memory, each of its rows in a block of its own.
-/
import Derived.Test.YtcnpdcmdnmfnaaaZone
import Derived.OwnWalk
import Derived.LoopTactic
namespace Go.Proofs.Ytcnpdcmdnmfnaaa.Num.Sch
open Go.RowKit Go.Proofs
set_option linter.unusedVariables false
set_option linter.unusedSimpArgs false

theorem toRawField_any (f : RF) (w : World) :
    Calls Try.prog 22 #[fieldV f] w fun e w' => e = .returned (fieldV f) ∧ Below w.heap.size w w' := by
  unfold fieldV
  obtain ⟨a, b, c, d, e⟩ := f
  simp only
  go_enter Try.func22, Try.ntmps22
  go_wp2_with fail
  refine bodyPost_ret (v := .agg #[.int .i64 a, .int .i64 b, .bool c, .bool d, .int .i64 e]) (by simp [results, Try.results22, go_sem]) rfl ⟨rfl, ?_⟩
  repeat (first | exact Below.refl _ _ | refine Below.setCell ?_ (by simp) _ | refine Below.alloc ?_ (by simp <;> omega) _)
theorem info_field : (Try.prog.info? 31).map (fun i => (i.zero, i.size, i.bytes)) = some (some (.agg #[.int .i64 0, .int .i64 0, .bool false, .bool false, .int .i64 0]), 5, 32) := by kernel_rfl
set_option maxHeartbeats 1000000 in
theorem toRawFieldS_any (v : Value) (l : List RF) (w : World) (h : FieldsAt w (· < w.heap.size) v l) (hl : l.length ≤ 1048576) :
    Calls Try.prog 62 #[v] w fun e w' => ∃ u, e = .returned u ∧ FieldsAt w' (fun b => w.heap.size ≤ b ∧ b < w'.heap.size) u l ∧ FLies w' w.heap.size u l.length ∧ Below w.heap.size w w' := by
  obtain ⟨i0, hi, hz0, hz1, hz2⟩ := info_parts info_field
  obtain ⟨a, cap, rfl⟩ := h.len
  have H := Lib.hid h
  clear h
  go_enter Try.func62, Try.ntmps62
  go_wp2_with (refine wpList_make_full _ rfl _ _ 91 rfl w.heap.size 31 i0 _ 5 Try.underlying91 hi hz0 hz1 .i64 .i64 _ _ l.length rfl rfl rfl rfl (by rw [hz2]; omega) (by unfold maxLen; omega) (Nat.le_refl _) ?_; intro w1 hown hgr)
  have hrow : FRow w1 w.heap.size l.length 0 l := FRow.start hown
  have hl1 : Below w.heap.size w w1 := (Below.refl _ _).grown hgr (Nat.le_refl _) (fun k hk => by cases hk)
  clear hown hgr hi hz0 hz1 hz2
  go_loopw [4] (fun i wr => ∃ k : Nat, k ≤ l.length ∧ i = .int .i64 k ∧ Hid (FRow wr w.heap.size l.length k l) ∧ Below w.heap.size w wr) (fun i _ => l.length - (intOf i).toNat)
  case atStart => exact ⟨0, by omega, rfl, Lib.hid hrow, hl1⟩
  case round =>
    obtain ⟨k, hk, rfl, hr, hbr⟩ := hrel
    by_cases hlt : k < l.length
    · have hlti : (k : Int) < (l.length : Int) := by omega
      obtain ⟨b, o, cap', hv, hbC, hcs⟩ := H.out.cells (by omega)
      obtain ⟨rfl, rfl⟩ : a = some ⟨b, o, none⟩ ∧ cap = cap' := by injection hv with e1 e2 e3; exact ⟨e1, e3⟩
      obtain ⟨c0, c1, c2, c3, c4⟩ := hcs k hlt
      clear hcs hv
      rw [← hbr.cell (p := ⟨b, _, none⟩) hbC] at c0 c1 c2 c3 c4
      go_wp2_with fail
      refine (toRawField_any l[k] _).mono ?_
      unfold fieldV
      rintro e w2 ⟨rfl, hb2⟩
      have hz := hr.out.1.1
      have hr2 := hr.out.below hb2 hz
      have hl2 := hbr.trans (hb2.mono hbr.size)
      have hput := Lib.hid (hr2.put hlt hlt)
      obtain ⟨v0, v1, v2, v3, v4, s0, s1, s2, s3, s4, f0, f1, f2, f3, f4⟩ := hr2.1.slots5 hlt
      clear hr2 hb2 c0 c1 c2 c3 c4
      go_wp2_with fail
      go_roundw
      case rel =>
        refine ⟨k + 1, by omega, by go_num, hput, ?_⟩
        repeat (first | exact hl2 | refine Below.setCell ?_ (by simp) _)
      case measure => simp [intOf]; omega
    · have hge : (l.length : Int) ≤ (k : Int) := by omega
      have hend : decide (k < l.length) = false := decide_eq_false hlt
      obtain rfl : k = l.length := by omega
      go_wp2_with fail
      go_ret
      exact ⟨_, rfl, (hr.out.done _ (Nat.le_refl _)).keep (fun _ _ _ => rfl) (fun b hb => by subst hb; exact ⟨Nat.le_refl _, hr.out.1.1⟩), ⟨_, _, rfl, Nat.le_refl _, hr.out.1⟩, hbr⟩
theorem toRawMsg_any (m : RM) (u : Value) (w : World) (h : FieldsAt w (· < w.heap.size) u m.2) (hl : m.2.length ≤ 1048576) :
    Calls Try.prog 58 #[.agg #[.int .i64 m.1, u]] w fun e w' => ∃ u', e = .returned (.agg #[.int .i64 m.1, u']) ∧ FieldsAt w' (fun b => w.heap.size ≤ b ∧ b < w'.heap.size) u' m.2 ∧ FLies w' w.heap.size u' m.2.length ∧ Below w.heap.size w w' := by
  obtain ⟨id, fs⟩ := m
  simp only at h hl ⊢
  obtain ⟨a, cap, rfl⟩ := h.len
  have H := Lib.hid h
  clear h
  go_enter Try.func58, Try.ntmps58
  go_wp2_with fail
  have hl3 : Below w.heap.size w (((w.alloc (.cells #[.int .i64 id, .slice a fs.length cap] 106)).alloc (.cells #[.int .i64 0, .slice none 0 0] 93)).alloc (.cells #[.int .i64 id, .slice none 0 0] 93)) := by
    repeat (first | exact Below.refl _ _ | refine Below.alloc ?_ (by simp <;> omega) _)
  have hx3 : Box (((w.alloc (.cells #[.int .i64 id, .slice a fs.length cap] 106)).alloc (.cells #[.int .i64 0, .slice none 0 0] 93)).alloc (.cells #[.int .i64 id, .slice none 0 0] 93)) (w.heap.size + 1) [.int .i64 0, .slice none 0 0] := by
    have h := (Box.fresh (w.alloc (.cells #[.int .i64 id, .slice a fs.length cap] 106)) #[.int .i64 0, .slice none 0 0] 93).alloc (.cells #[.int .i64 id, .slice none 0 0] 93)
    rwa [show (w.alloc (.cells #[.int .i64 id, .slice a fs.length cap] 106)).heap.size = w.heap.size + 1 by simp] at h
  have hy3 : Box (((w.alloc (.cells #[.int .i64 id, .slice a fs.length cap] 106)).alloc (.cells #[.int .i64 0, .slice none 0 0] 93)).alloc (.cells #[.int .i64 id, .slice none 0 0] 93)) (w.heap.size + 1 + 1) [.int .i64 id, .slice none 0 0] := by
    have h := Box.fresh ((w.alloc (.cells #[.int .i64 id, .slice a fs.length cap] 106)).alloc (.cells #[.int .i64 0, .slice none 0 0] 93)) #[.int .i64 id, .slice none 0 0] 93
    rwa [show ((w.alloc (.cells #[.int .i64 id, .slice a fs.length cap] 106)).alloc (.cells #[.int .i64 0, .slice none 0 0] 93)).heap.size = w.heap.size + 1 + 1 by simp] at h
  generalize (((w.alloc (.cells #[.int .i64 id, .slice a fs.length cap] 106)).alloc (.cells #[.int .i64 0, .slice none 0 0] 93)).alloc (.cells #[.int .i64 id, .slice none 0 0] 93)) = w3 at hl3 hx3 hy3 ⊢
  have hz3 := hy3.lt
  refine (toRawFieldS_any _ fs _ (H.out.keep (below_sees hl3) fun b hb => by omega) hl).mono ?_
  rintro e w4 ⟨u', rfl, hu, ⟨a', cap', rfl, ha', hfl⟩, hb4⟩
  have hl4 := hl3.trans (hb4.mono (by omega))
  have hx4 := hx3.below hb4 (by omega)
  have hy4 := hy3.below hb4 (by omega)
  have Hu := Lib.hid hu
  have Hfl := Lib.hid hfl
  obtain ⟨c0, c1, f0, f1⟩ := hx4.two
  obtain ⟨d0, d1, g0, g1⟩ := hy4.two
  clear hu hfl hb4 hx3 hy3 hx4 hy4 hl3
  go_wp2_with fail
  refine bodyPost_ret (v := .agg #[.int .i64 id, .slice (some ⟨a', 0, none⟩) fs.length cap']) (by simp [results, Try.results58, go_sem, c0, c1, d0, d1]) rfl ⟨_, rfl, ?_, ⟨a', cap', rfl, by omega, ?_⟩, ?_⟩
  · refine Hu.out.keep ?_ fun b hb => ⟨by omega, by simpa [World.setCell] using hb.2⟩
    repeat (first | exact fun _ _ _ => rfl | refine Kept.trans ?_ (Kept.of_set _ (by simp; omega)))
  · repeat (first | exact Hfl.out | refine Fill.off ?_ (by simp; omega) _)
  · repeat (first | exact hl4 | refine Below.setCell ?_ (by simp <;> omega) _)
theorem info_msg : (Try.prog.info? 93).map (fun i => (i.zero, i.size, i.bytes)) = some (some (.agg #[.int .i64 0, .slice none 0 0]), 2, 32) := by kernel_rfl
set_option maxHeartbeats 1000000 in
theorem toRawMsgS_any (v : Value) (l : List RM) (w : World) (h : MsgsAt w (· < w.heap.size) v l) (hl : Small l) :
    Calls Try.prog 47 #[v] w fun e w' => ∃ u ms, plain ms = l ∧ e = .returned u ∧ OwnIn w' w.heap.size w'.heap.size u ms ∧ Below w.heap.size w w' := by
  obtain ⟨i0, hi, hz0, hz1, hz2⟩ := info_parts info_msg
  obtain ⟨a, cap, rfl⟩ := h.len
  have H := Lib.hid h
  have hl1' := hl.1
  have Hl := Lib.hid hl.2
  clear h hl
  go_enter Try.func47, Try.ntmps47
  go_wp2_with (refine wpList_make_full _ rfl _ _ 45 rfl w.heap.size 93 i0 _ 2 Try.underlying45 hi hz0 hz1 .i64 .i64 _ _ l.length rfl rfl rfl rfl (by rw [hz2]; omega) (by unfold maxLen; omega) (Nat.le_refl _) ?_; intro w1 hown hgr)
  have hrow : MRow w1 w.heap.size l.length 0 l := MRow.start hown
  have hl1 : Below w.heap.size w w1 := (Below.refl _ _).grown hgr (Nat.le_refl _) (fun k hk => by cases hk)
  clear hown hgr hi hz0 hz1 hz2
  go_loopw [4] (fun i wr => ∃ k : Nat, k ≤ l.length ∧ i = .int .i64 k ∧ Hid (MRow wr w.heap.size l.length k l) ∧ Hid (∃ ms, plain ms = l.take k ∧ Laid wr w.heap.size ms) ∧ Below w.heap.size w wr) (fun i _ => l.length - (intOf i).toNat)
  case atStart => exact ⟨0, by omega, rfl, Lib.hid hrow, Lib.hid ⟨[], by simp [plain], Laid.start _ _⟩, hl1⟩
  case round =>
    obtain ⟨k, hk, rfl, hr, hms, hbr⟩ := hrel
    by_cases hlt : k < l.length
    · have hlti : (k : Int) < (l.length : Int) := by omega
      obtain ⟨b, o, cap', hv, hbC, hcs⟩ := H.out.cells (by omega)
      obtain ⟨rfl, rfl⟩ : a = some ⟨b, o, none⟩ ∧ cap = cap' := by injection hv with e1 e2 e3; exact ⟨e1, e3⟩
      obtain ⟨u, c0, c1, hu⟩ := hcs k hlt
      obtain ⟨ua, ucap, rfl⟩ := hu.len
      have hu2 : FieldsAt wr (· < wr.heap.size) (.slice ua l[k].2.length ucap) l[k].2 := hu.keep (below_sees hbr) fun b hb => Nat.lt_of_lt_of_le hb hbr.size
      have Hu2 := Lib.hid hu2
      have hsm := Lib.hid (Hl.out _ (List.getElem_mem hlt))
      clear hcs hv hu hu2
      rw [← hbr.cell (p := ⟨b, _, none⟩) hbC] at c0 c1
      go_wp2_with fail
      refine (toRawMsg_any l[k] _ _ Hu2.out hsm.out).mono ?_
      rintro e w2 ⟨u', rfl, hu', ⟨ua', ucap', rfl, hua', hfl⟩, hb2⟩
      have hz := hr.out.1.1
      have hr2 := hr.out.below hb2
      have hl2 := hbr.trans (hb2.mono hbr.size)
      have Hms : Hid (∃ ms, plain ms = l.take (k + 1) ∧ Laid ((w2.setCell ⟨w.heap.size, k * 2, none⟩ (.int .i64 l[k].1)).setCell ⟨w.heap.size, k * 2 + 1, none⟩ (.slice (some ⟨ua', 0, none⟩) l[k].2.length ucap')) w.heap.size ms) := by
        obtain ⟨ms, hp, hL⟩ := hms.out
        exact Lib.hid ⟨ms ++ [(l[k].1, .slice (some ⟨ua', 0, none⟩) l[k].2.length ucap', l[k].2)], plain_snoc hp hlt _, hL.push (plain_len hp (by omega)) hb2 hz hua' hfl.1 hfl (by obtain ⟨v0, v1, s0, s1, f0, f1⟩ := hr2.1.slots2 hlt; exact ⟨v1, s1⟩)⟩
      have hput := Lib.hid (hr2.put hlt hlt (hu'.keep (fun _ _ _ => rfl) fun b hb => ⟨by omega, hb.2⟩))
      obtain ⟨v0, v1, s0, s1, f0, f1⟩ := hr2.1.slots2 hlt
      clear hr2 hb2 c0 c1 hu' hms hfl
      go_wp2_with fail
      go_roundw
      case rel =>
        refine ⟨k + 1, by omega, by go_num, hput, Hms, ?_⟩
        repeat (first | exact hl2 | refine Below.setCell ?_ (by simp) _)
      case measure => simp [intOf]; omega
    · have hge : (l.length : Int) ≤ (k : Int) := by omega
      have hend : decide (k < l.length) = false := decide_eq_false hlt
      obtain rfl : k = l.length := by omega
      go_wp2_with fail
      go_ret
      obtain ⟨ms, hp, hL⟩ := hms.out
      have hn := plain_len hp (Nat.le_refl _)
      rw [List.take_length] at hp
      refine ⟨_, ms, hp, rfl, ?_, hbr⟩
      have h1 := hr.out.done l.length (Nat.le_refl _)
      have h2 := hr.out.1
      rw [← hn] at h1 h2
      rw [← hp] at h1
      have h3 := hL.done h2 h1
      rw [hn] at h3
      exact h3
theorem toRaw_own (v : Value) (r : List RM) (w : World) (h : RawAt w (· < w.heap.size) v r) (hl : Small r) :
    Calls Try.prog 35 #[v] w fun e w' => ∃ u ms, plain ms = r ∧ e = .returned (.agg #[u]) ∧ OwnIn w' w.heap.size w'.heap.size u ms ∧ Below w.heap.size w w' := by
  obtain ⟨u, rfl, hu⟩ := h
  obtain ⟨a, cap, rfl⟩ := hu.len
  have H := Lib.hid hu
  have Hl := Lib.hid hl
  clear hu hl
  go_enter Try.func35, Try.ntmps35
  go_wp2_with fail
  have hl3 : Below w.heap.size w (((w.alloc (.cells #[.slice a r.length cap] 40)).alloc (.cells #[.slice none 0 0] 47)).alloc (.cells #[.slice none 0 0] 47)) := by
    repeat (first | exact Below.refl _ _ | refine Below.alloc ?_ (by simp <;> omega) _)
  have hx3 : Box (((w.alloc (.cells #[.slice a r.length cap] 40)).alloc (.cells #[.slice none 0 0] 47)).alloc (.cells #[.slice none 0 0] 47)) (w.heap.size + 1) [.slice none 0 0] := by
    have h := (Box.fresh (w.alloc (.cells #[.slice a r.length cap] 40)) #[.slice none 0 0] 47).alloc (.cells #[.slice none 0 0] 47)
    rwa [show (w.alloc (.cells #[.slice a r.length cap] 40)).heap.size = w.heap.size + 1 by simp] at h
  have hy3 : Box (((w.alloc (.cells #[.slice a r.length cap] 40)).alloc (.cells #[.slice none 0 0] 47)).alloc (.cells #[.slice none 0 0] 47)) (w.heap.size + 1 + 1) [.slice none 0 0] := by
    have h := Box.fresh ((w.alloc (.cells #[.slice a r.length cap] 40)).alloc (.cells #[.slice none 0 0] 47)) #[.slice none 0 0] 47
    rwa [show ((w.alloc (.cells #[.slice a r.length cap] 40)).alloc (.cells #[.slice none 0 0] 47)).heap.size = w.heap.size + 1 + 1 by simp] at h
  generalize (((w.alloc (.cells #[.slice a r.length cap] 40)).alloc (.cells #[.slice none 0 0] 47)).alloc (.cells #[.slice none 0 0] 47)) = w3 at hl3 hx3 hy3 ⊢
  have hz3 := hy3.lt
  refine (toRawMsgS_any _ r _ (H.out.keep (below_sees hl3) fun b hb => by omega) Hl.out).mono ?_
  rintro e w4 ⟨u', ms, hpm, rfl, hu, hb4⟩
  obtain ⟨a', cap', rfl⟩ := hu.at_.len
  have hml : ms.length = r.length := by rw [← hpm]; simp [plain]
  rw [show (plain ms).length = r.length by rw [hpm]] at hu ⊢
  have hl4 := hl3.trans (hb4.mono (by omega))
  have hx4 := hx3.below hb4 (by omega)
  have hy4 := hy3.below hb4 (by omega)
  have Hu := Lib.hid hu
  obtain ⟨c0, f0⟩ := hx4.one
  obtain ⟨d0, g0⟩ := hy4.one
  clear hu hb4 hx3 hy3 hx4 hy4 hl3
  go_wp2_with fail
  refine bodyPost_ret (v := .agg #[.slice a' r.length cap']) (by simp [results, Try.results35, go_sem, c0, d0]) rfl ⟨_, ms, hpm, rfl, ?_, ?_⟩
  · refine OwnIn.wide (lo := w3.heap.size) (hi := w4.heap.size) ?_ (by omega) (by simp [World.setCell])
    repeat (first | exact Hu.out | refine OwnIn.off ?_ (by simp; omega) (by simp [World.setCell]) _)
  · repeat (first | exact hl4 | refine Below.setCell ?_ (by simp <;> omega) _)
theorem toRaw_any (v : Value) (r : List RM) (w : World) (h : RawAt w (· < w.heap.size) v r) (hl : Small r) :
    Calls Try.prog 35 #[v] w fun e w' => ∃ u, e = .returned u ∧ RawAt w' (fun b => w.heap.size ≤ b ∧ b < w'.heap.size) u r ∧ Below w.heap.size w w' :=
  (toRaw_own v r w h hl).mono fun e w' ⟨u, ms, hp, he, ho, hb⟩ => ⟨_, he, hp ▸ ho.raw, hb⟩
end Go.Proofs.Ytcnpdcmdnmfnaaa.Num.Sch
