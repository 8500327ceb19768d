/-
  Several texts in one: ToSch SzSch EqSch TwoSch PlanW MarkSch PlanOwn OpenRow OpenSch OpenPlan NumMath Conv1 MarkText MarkEv MarkOwn Frame.
-/
import Derived.Test.YtcnpdcmdnmfnaaaGreatZone
import Derived.OwnWalk
import Derived.LoopTactic
import Derived.Deep.RegionWith
import Derived.Test.YtcnpdcmdnmfnaaaGreatPlanS
import Derived.Test.YtcnpdcmdnmfnaaaGreatRaw
import Derived.Deep.Slices
import Derived.Deep.Fields
import Derived.ChangeSame
import Derived.ChangeArms
import Derived.Test.YtcnpdcmdnmfnaaaGreatChecked
import Derived.ProofKit
import Derived.Lib.Hide
import Derived.Test.YtcnpdcmdnmfnaaaGreatProg
import Derived.WalkKit
import Derived.Laws.BytesArg
import Derived.Laws.IdiomStrings
import Derived.Test.YtcnpdcmdnmfnaaaGreatBytes
import Derived.Test.YtcnpdcmdnmfnaaaGreatDraw
import Derived.Deep.DrawnRows
import Derived.Test.YtcnpdcmdnmfnaaaGreatOwnEv
import Derived.Test.YtcnpdcmdnmfnaaaGreatToEv
import Derived.Deep.QuietTactic
import Derived.BigQuiet
import Derived.Deep.DeepCutAuto
import Derived.ReadAgain
import Derived.Below
import Derived.ChangeOld

/-
  The walks of the laws' toSchema: a description laid anew in new memory, each of its rows in a block of its own.
-/
namespace Go.Proofs.YtcnpdcmdnmfnaaaGreat.Num.Sch
open Go.RowKit Go.Proofs
set_option linter.unusedVariables false
set_option linter.unusedSimpArgs false

theorem toRawField_any (f : RF) (w : World) :
    Calls Tryz.prog 149 #[fieldV f] w fun e w' => e = .returned (fieldV f) ∧ Below w.heap.size w w' := by
  unfold fieldV
  obtain ⟨a, b, c, d, e⟩ := f
  simp only
  go_enter Tryz.func149, Tryz.ntmps149
  go_wp2_with fail
  refine bodyPost_ret (v := .agg #[.int .i64 a, .int .i64 b, .bool c, .bool d, .int .i64 e]) (by simp [results, Tryz.results149, go_sem]) rfl ⟨rfl, ?_⟩
  repeat (first | exact Below.refl _ _ | refine Below.setCell ?_ (by simp) _ | refine Below.alloc ?_ (by simp <;> omega) _)
theorem info_field : (Tryz.prog.info? 95).map (fun i => (i.zero, i.size, i.bytes)) = some (some (.agg #[.int .i64 0, .int .i64 0, .bool false, .bool false, .int .i64 0]), 5, 32) := by kernel_rfl
set_option maxHeartbeats 1000000 in
theorem toRawFieldS_any (v : Value) (l : List RF) (w : World) (h : FieldsAt w (· < w.heap.size) v l) (hl : l.length ≤ 1048576) :
    Calls Tryz.prog 130 #[v] w fun e w' => ∃ u, e = .returned u ∧ FieldsAt w' (fun b => w.heap.size ≤ b ∧ b < w'.heap.size) u l ∧ FLies w' w.heap.size u l.length ∧ Below w.heap.size w w' := by
  obtain ⟨i0, hi, hz0, hz1, hz2⟩ := info_parts info_field
  obtain ⟨a, cap, rfl⟩ := h.len
  have H := Lib.hid h
  clear h
  go_enter Tryz.func130, Tryz.ntmps130
  go_wp2_with (refine wpList_make_full _ rfl _ _ 88 rfl w.heap.size 95 i0 _ 5 Tryz.underlying88 hi hz0 hz1 .i64 .i64 _ _ l.length rfl rfl rfl rfl (by rw [hz2]; omega) (by unfold maxLen; omega) (Nat.le_refl _) ?_; intro w1 hown hgr)
  have hrow : FRow w1 w.heap.size l.length 0 l := FRow.start hown
  have hl1 : Below w.heap.size w w1 := (Below.refl _ _).grown hgr (Nat.le_refl _) (fun k hk => by cases hk)
  clear hown hgr hi hz0 hz1 hz2
  go_loopw [4] (fun i wr => ∃ k : Nat, k ≤ l.length ∧ i = .int .i64 k ∧ Hid (FRow wr w.heap.size l.length k l) ∧ Below w.heap.size w wr) (fun i _ => l.length - (intOf i).toNat)
  case atStart => exact ⟨0, by omega, rfl, Lib.hid hrow, hl1⟩
  case round =>
    obtain ⟨k, hk, rfl, hr, hbr⟩ := hrel
    by_cases hlt : k < l.length
    · have hlti : (k : Int) < (l.length : Int) := by omega
      obtain ⟨b, o, cap', hv, hbC, hcs⟩ := H.out.cells (by omega)
      obtain ⟨rfl, rfl⟩ : a = some ⟨b, o, none⟩ ∧ cap = cap' := by injection hv with e1 e2 e3; exact ⟨e1, e3⟩
      obtain ⟨c0, c1, c2, c3, c4⟩ := hcs k hlt
      clear hcs hv
      rw [← hbr.cell (p := ⟨b, _, none⟩) hbC] at c0 c1 c2 c3 c4
      go_wp2_with fail
      refine (toRawField_any l[k] _).mono ?_
      unfold fieldV
      rintro e w2 ⟨rfl, hb2⟩
      have hz := hr.out.1.1
      have hr2 := hr.out.below hb2 hz
      have hl2 := hbr.trans (hb2.mono hbr.size)
      have hput := Lib.hid (hr2.put hlt hlt)
      obtain ⟨v0, v1, v2, v3, v4, s0, s1, s2, s3, s4, f0, f1, f2, f3, f4⟩ := hr2.1.slots5 hlt
      clear hr2 hb2 c0 c1 c2 c3 c4
      go_wp2_with fail
      go_roundw
      case rel =>
        refine ⟨k + 1, by omega, by go_num, hput, ?_⟩
        repeat (first | exact hl2 | refine Below.setCell ?_ (by simp) _)
      case measure => simp [intOf]; omega
    · have hge : (l.length : Int) ≤ (k : Int) := by omega
      have hend : decide (k < l.length) = false := decide_eq_false hlt
      obtain rfl : k = l.length := by omega
      go_wp2_with fail
      go_ret
      exact ⟨_, rfl, (hr.out.done _ (Nat.le_refl _)).keep (fun _ _ _ => rfl) (fun b hb => by subst hb; exact ⟨Nat.le_refl _, hr.out.1.1⟩), ⟨_, _, rfl, Nat.le_refl _, hr.out.1⟩, hbr⟩
theorem toRawMsg_any (m : RM) (u : Value) (w : World) (h : FieldsAt w (· < w.heap.size) u m.2) (hl : m.2.length ≤ 1048576) :
    Calls Tryz.prog 102 #[.agg #[.int .i64 m.1, u]] w fun e w' => ∃ u', e = .returned (.agg #[.int .i64 m.1, u']) ∧ FieldsAt w' (fun b => w.heap.size ≤ b ∧ b < w'.heap.size) u' m.2 ∧ FLies w' w.heap.size u' m.2.length ∧ Below w.heap.size w w' := by
  obtain ⟨id, fs⟩ := m
  simp only at h hl ⊢
  obtain ⟨a, cap, rfl⟩ := h.len
  have H := Lib.hid h
  clear h
  go_enter Tryz.func102, Tryz.ntmps102
  go_wp2_with fail
  have hl3 : Below w.heap.size w (((w.alloc (.cells #[.int .i64 id, .slice a fs.length cap] 148)).alloc (.cells #[.int .i64 0, .slice none 0 0] 90)).alloc (.cells #[.int .i64 id, .slice none 0 0] 90)) := by
    repeat (first | exact Below.refl _ _ | refine Below.alloc ?_ (by simp <;> omega) _)
  have hx3 : Box (((w.alloc (.cells #[.int .i64 id, .slice a fs.length cap] 148)).alloc (.cells #[.int .i64 0, .slice none 0 0] 90)).alloc (.cells #[.int .i64 id, .slice none 0 0] 90)) (w.heap.size + 1) [.int .i64 0, .slice none 0 0] := by
    have h := (Box.fresh (w.alloc (.cells #[.int .i64 id, .slice a fs.length cap] 148)) #[.int .i64 0, .slice none 0 0] 90).alloc (.cells #[.int .i64 id, .slice none 0 0] 90)
    rwa [show (w.alloc (.cells #[.int .i64 id, .slice a fs.length cap] 148)).heap.size = w.heap.size + 1 by simp] at h
  have hy3 : Box (((w.alloc (.cells #[.int .i64 id, .slice a fs.length cap] 148)).alloc (.cells #[.int .i64 0, .slice none 0 0] 90)).alloc (.cells #[.int .i64 id, .slice none 0 0] 90)) (w.heap.size + 1 + 1) [.int .i64 id, .slice none 0 0] := by
    have h := Box.fresh ((w.alloc (.cells #[.int .i64 id, .slice a fs.length cap] 148)).alloc (.cells #[.int .i64 0, .slice none 0 0] 90)) #[.int .i64 id, .slice none 0 0] 90
    rwa [show ((w.alloc (.cells #[.int .i64 id, .slice a fs.length cap] 148)).alloc (.cells #[.int .i64 0, .slice none 0 0] 90)).heap.size = w.heap.size + 1 + 1 by simp] at h
  generalize (((w.alloc (.cells #[.int .i64 id, .slice a fs.length cap] 148)).alloc (.cells #[.int .i64 0, .slice none 0 0] 90)).alloc (.cells #[.int .i64 id, .slice none 0 0] 90)) = w3 at hl3 hx3 hy3 ⊢
  have hz3 := hy3.lt
  refine (toRawFieldS_any _ fs _ (H.out.keep (below_sees hl3) fun b hb => by omega) hl).mono ?_
  rintro e w4 ⟨u', rfl, hu, ⟨a', cap', rfl, ha', hfl⟩, hb4⟩
  have hl4 := hl3.trans (hb4.mono (by omega))
  have hx4 := hx3.below hb4 (by omega)
  have hy4 := hy3.below hb4 (by omega)
  have Hu := Lib.hid hu
  have Hfl := Lib.hid hfl
  obtain ⟨c0, c1, f0, f1⟩ := hx4.two
  obtain ⟨d0, d1, g0, g1⟩ := hy4.two
  clear hu hfl hb4 hx3 hy3 hx4 hy4 hl3
  go_wp2_with fail
  refine bodyPost_ret (v := .agg #[.int .i64 id, .slice (some ⟨a', 0, none⟩) fs.length cap']) (by simp [results, Tryz.results102, go_sem, c0, c1, d0, d1]) rfl ⟨_, rfl, ?_, ⟨a', cap', rfl, by omega, ?_⟩, ?_⟩
  · refine Hu.out.keep ?_ fun b hb => ⟨by omega, by simpa [World.setCell] using hb.2⟩
    repeat (first | exact fun _ _ _ => rfl | refine Kept.trans ?_ (Kept.of_set _ (by simp; omega)))
  · repeat (first | exact Hfl.out | refine Fill.off ?_ (by simp; omega) _)
  · repeat (first | exact hl4 | refine Below.setCell ?_ (by simp <;> omega) _)
theorem info_msg : (Tryz.prog.info? 90).map (fun i => (i.zero, i.size, i.bytes)) = some (some (.agg #[.int .i64 0, .slice none 0 0]), 2, 32) := by kernel_rfl
set_option maxHeartbeats 1000000 in
theorem toRawMsgS_any (v : Value) (l : List RM) (w : World) (h : MsgsAt w (· < w.heap.size) v l) (hl : Small l) :
    Calls Tryz.prog 69 #[v] w fun e w' => ∃ u ms, plain ms = l ∧ e = .returned u ∧ OwnIn w' w.heap.size w'.heap.size u ms ∧ Below w.heap.size w w' := by
  obtain ⟨i0, hi, hz0, hz1, hz2⟩ := info_parts info_msg
  obtain ⟨a, cap, rfl⟩ := h.len
  have H := Lib.hid h
  have hl1' := hl.1
  have Hl := Lib.hid hl.2
  clear h hl
  go_enter Tryz.func69, Tryz.ntmps69
  go_wp2_with (refine wpList_make_full _ rfl _ _ 24 rfl w.heap.size 90 i0 _ 2 Tryz.underlying24 hi hz0 hz1 .i64 .i64 _ _ l.length rfl rfl rfl rfl (by rw [hz2]; omega) (by unfold maxLen; omega) (Nat.le_refl _) ?_; intro w1 hown hgr)
  have hrow : MRow w1 w.heap.size l.length 0 l := MRow.start hown
  have hl1 : Below w.heap.size w w1 := (Below.refl _ _).grown hgr (Nat.le_refl _) (fun k hk => by cases hk)
  clear hown hgr hi hz0 hz1 hz2
  go_loopw [4] (fun i wr => ∃ k : Nat, k ≤ l.length ∧ i = .int .i64 k ∧ Hid (MRow wr w.heap.size l.length k l) ∧ Hid (∃ ms, plain ms = l.take k ∧ Laid wr w.heap.size ms) ∧ Below w.heap.size w wr) (fun i _ => l.length - (intOf i).toNat)
  case atStart => exact ⟨0, by omega, rfl, Lib.hid hrow, Lib.hid ⟨[], by simp [plain], Laid.start _ _⟩, hl1⟩
  case round =>
    obtain ⟨k, hk, rfl, hr, hms, hbr⟩ := hrel
    by_cases hlt : k < l.length
    · have hlti : (k : Int) < (l.length : Int) := by omega
      obtain ⟨b, o, cap', hv, hbC, hcs⟩ := H.out.cells (by omega)
      obtain ⟨rfl, rfl⟩ : a = some ⟨b, o, none⟩ ∧ cap = cap' := by injection hv with e1 e2 e3; exact ⟨e1, e3⟩
      obtain ⟨u, c0, c1, hu⟩ := hcs k hlt
      obtain ⟨ua, ucap, rfl⟩ := hu.len
      have hu2 : FieldsAt wr (· < wr.heap.size) (.slice ua l[k].2.length ucap) l[k].2 := hu.keep (below_sees hbr) fun b hb => Nat.lt_of_lt_of_le hb hbr.size
      have Hu2 := Lib.hid hu2
      have hsm := Lib.hid (Hl.out _ (List.getElem_mem hlt))
      clear hcs hv hu hu2
      rw [← hbr.cell (p := ⟨b, _, none⟩) hbC] at c0 c1
      go_wp2_with fail
      refine (toRawMsg_any l[k] _ _ Hu2.out hsm.out).mono ?_
      rintro e w2 ⟨u', rfl, hu', ⟨ua', ucap', rfl, hua', hfl⟩, hb2⟩
      have hz := hr.out.1.1
      have hr2 := hr.out.below hb2
      have hl2 := hbr.trans (hb2.mono hbr.size)
      have Hms : Hid (∃ ms, plain ms = l.take (k + 1) ∧ Laid ((w2.setCell ⟨w.heap.size, k * 2, none⟩ (.int .i64 l[k].1)).setCell ⟨w.heap.size, k * 2 + 1, none⟩ (.slice (some ⟨ua', 0, none⟩) l[k].2.length ucap')) w.heap.size ms) := by
        obtain ⟨ms, hp, hL⟩ := hms.out
        exact Lib.hid ⟨ms ++ [(l[k].1, .slice (some ⟨ua', 0, none⟩) l[k].2.length ucap', l[k].2)], plain_snoc hp hlt _, hL.push (plain_len hp (by omega)) hb2 hz hua' hfl.1 hfl (by obtain ⟨v0, v1, s0, s1, f0, f1⟩ := hr2.1.slots2 hlt; exact ⟨v1, s1⟩)⟩
      have hput := Lib.hid (hr2.put hlt hlt (hu'.keep (fun _ _ _ => rfl) fun b hb => ⟨by omega, hb.2⟩))
      obtain ⟨v0, v1, s0, s1, f0, f1⟩ := hr2.1.slots2 hlt
      clear hr2 hb2 c0 c1 hu' hms hfl
      go_wp2_with fail
      go_roundw
      case rel =>
        refine ⟨k + 1, by omega, by go_num, hput, Hms, ?_⟩
        repeat (first | exact hl2 | refine Below.setCell ?_ (by simp) _)
      case measure => simp [intOf]; omega
    · have hge : (l.length : Int) ≤ (k : Int) := by omega
      have hend : decide (k < l.length) = false := decide_eq_false hlt
      obtain rfl : k = l.length := by omega
      go_wp2_with fail
      go_ret
      obtain ⟨ms, hp, hL⟩ := hms.out
      have hn := plain_len hp (Nat.le_refl _)
      rw [List.take_length] at hp
      refine ⟨_, ms, hp, rfl, ?_, hbr⟩
      have h1 := hr.out.done l.length (Nat.le_refl _)
      have h2 := hr.out.1
      rw [← hn] at h1 h2
      rw [← hp] at h1
      have h3 := hL.done h2 h1
      rw [hn] at h3
      exact h3
theorem toRaw_own (v : Value) (r : List RM) (w : World) (h : RawAt w (· < w.heap.size) v r) (hl : Small r) :
    Calls Tryz.prog 40 #[v] w fun e w' => ∃ u ms, plain ms = r ∧ e = .returned (.agg #[u]) ∧ OwnIn w' w.heap.size w'.heap.size u ms ∧ Below w.heap.size w w' := by
  obtain ⟨u, rfl, hu⟩ := h
  obtain ⟨a, cap, rfl⟩ := hu.len
  have H := Lib.hid hu
  have Hl := Lib.hid hl
  clear hu hl
  go_enter Tryz.func40, Tryz.ntmps40
  go_wp2_with fail
  have hl3 : Below w.heap.size w (((w.alloc (.cells #[.slice a r.length cap] 42)).alloc (.cells #[.slice none 0 0] 26)).alloc (.cells #[.slice none 0 0] 26)) := by
    repeat (first | exact Below.refl _ _ | refine Below.alloc ?_ (by simp <;> omega) _)
  have hx3 : Box (((w.alloc (.cells #[.slice a r.length cap] 42)).alloc (.cells #[.slice none 0 0] 26)).alloc (.cells #[.slice none 0 0] 26)) (w.heap.size + 1) [.slice none 0 0] := by
    have h := (Box.fresh (w.alloc (.cells #[.slice a r.length cap] 42)) #[.slice none 0 0] 26).alloc (.cells #[.slice none 0 0] 26)
    rwa [show (w.alloc (.cells #[.slice a r.length cap] 42)).heap.size = w.heap.size + 1 by simp] at h
  have hy3 : Box (((w.alloc (.cells #[.slice a r.length cap] 42)).alloc (.cells #[.slice none 0 0] 26)).alloc (.cells #[.slice none 0 0] 26)) (w.heap.size + 1 + 1) [.slice none 0 0] := by
    have h := Box.fresh ((w.alloc (.cells #[.slice a r.length cap] 42)).alloc (.cells #[.slice none 0 0] 26)) #[.slice none 0 0] 26
    rwa [show ((w.alloc (.cells #[.slice a r.length cap] 42)).alloc (.cells #[.slice none 0 0] 26)).heap.size = w.heap.size + 1 + 1 by simp] at h
  generalize (((w.alloc (.cells #[.slice a r.length cap] 42)).alloc (.cells #[.slice none 0 0] 26)).alloc (.cells #[.slice none 0 0] 26)) = w3 at hl3 hx3 hy3 ⊢
  have hz3 := hy3.lt
  refine (toRawMsgS_any _ r _ (H.out.keep (below_sees hl3) fun b hb => by omega) Hl.out).mono ?_
  rintro e w4 ⟨u', ms, hpm, rfl, hu, hb4⟩
  obtain ⟨a', cap', rfl⟩ := hu.at_.len
  have hml : ms.length = r.length := by rw [← hpm]; simp [plain]
  rw [show (plain ms).length = r.length by rw [hpm]] at hu ⊢
  have hl4 := hl3.trans (hb4.mono (by omega))
  have hx4 := hx3.below hb4 (by omega)
  have hy4 := hy3.below hb4 (by omega)
  have Hu := Lib.hid hu
  obtain ⟨c0, f0⟩ := hx4.one
  obtain ⟨d0, g0⟩ := hy4.one
  clear hu hb4 hx3 hy3 hx4 hy4 hl3
  go_wp2_with fail
  refine bodyPost_ret (v := .agg #[.slice a' r.length cap']) (by simp [results, Tryz.results40, go_sem, c0, d0]) rfl ⟨_, ms, hpm, rfl, ?_, ?_⟩
  · refine OwnIn.wide (lo := w3.heap.size) (hi := w4.heap.size) ?_ (by omega) (by simp [World.setCell])
    repeat (first | exact Hu.out | refine OwnIn.off ?_ (by simp; omega) (by simp [World.setCell]) _)
  · repeat (first | exact hl4 | refine Below.setCell ?_ (by simp <;> omega) _)
theorem toRaw_any (v : Value) (r : List RM) (w : World) (h : RawAt w (· < w.heap.size) v r) (hl : Small r) :
    Calls Tryz.prog 40 #[v] w fun e w' => ∃ u, e = .returned u ∧ RawAt w' (fun b => w.heap.size ≤ b ∧ b < w'.heap.size) u r ∧ Below w.heap.size w w' :=
  (toRaw_own v r w h hl).mono fun e w' ⟨u, ms, hp, he, ho, hb⟩ => ⟨_, he, hp ▸ ho.raw, hb⟩
end Go.Proofs.YtcnpdcmdnmfnaaaGreat.Num.Sch

/-
  The walks of the laws' szSchema: what is left is not below 0 only where no list is longer than the bound; nothing that was there is written.
-/
namespace Go.Proofs.YtcnpdcmdnmfnaaaGreat.Num.Sch
open Go.RowKit Go.Proofs
set_option linter.unusedVariables false

theorem szRawFieldS_any (a : Option Addr) (n cap : Nat) (left : Int) (w : World) (hn : n ≤ 9223372036854775807) (h0 : 0 ≤ left) (h1 : left ≤ 1048576) :
    Calls Tryz.prog 129 #[.slice a n cap, .int .i64 left] w fun e w' => ∃ x : Int, e = .returned (.int .i64 x) ∧ -1 ≤ x ∧ x ≤ 1048576 ∧ (0 ≤ x → n ≤ 1048576) ∧ w = w' := by
  have hw : IntKind.i64.wrap (left - (n : Int)) = left - (n : Int) := IntWalk.i64_in _ (by omega)
  by_cases hlt : left - (n : Int) < 0
  · go_enter Tryz.func129, Tryz.ntmps129
    go_wp2_with fail
    go_ret
    exact ⟨-1, rfl, by omega, by omega, fun h => by omega, rfl⟩
  · have hlt2 : decide (left - (n : Int) < 0) = false := decide_eq_false hlt
    go_enter Tryz.func129, Tryz.ntmps129
    go_wp2_with fail
    go_ret
    exact ⟨left - n, rfl, by omega, by omega, fun h => by omega, rfl⟩
theorem szRawMsg_any (m : RM) (a : Option Addr) (cap : Nat) (left : Int) (w : World) (hn : m.2.length ≤ 9223372036854775807) (h0 : 0 ≤ left) (h1 : left ≤ 1048576) :
    Calls Tryz.prog 101 #[.agg #[.int .i64 m.1, .slice a m.2.length cap], .int .i64 left] w fun e w' => ∃ x : Int, e = .returned (.int .i64 x) ∧ -1 ≤ x ∧ x ≤ 1048576 ∧ (0 ≤ x → m.2.length ≤ 1048576) ∧ Below w.heap.size w w' := by
  have H0 := Lib.hid h0
  have H1 := Lib.hid h1
  clear h0 h1
  go_enter Tryz.func101, Tryz.ntmps101
  go_wp2_with fail
  refine (szRawFieldS_any a m.2.length cap left _ hn H0.out H1.out).mono ?_
  rintro e w1 ⟨x, rfl, hx0, hx1, hx, rfl⟩
  by_cases hlt : x < 0
  · go_wp2_with fail
    go_ret
    exact ⟨-1, rfl, by omega, by omega, fun h => by omega, (Below.refl _ _).alloc (Nat.le_refl _) _⟩
  · have hlt2 : decide (x < 0) = false := decide_eq_false hlt
    go_wp2_with fail
    go_ret
    exact ⟨x, rfl, hx0, hx1, hx, (Below.refl _ _).alloc (Nat.le_refl _) _⟩
set_option maxHeartbeats 1000000 in
theorem szRawMsgS_any (v : Value) (l : List RM) (left : Int) (w : World) (h : MsgsAt w (· < w.heap.size) v l) (hm : inMem l) (h0 : 0 ≤ left) (h1 : left ≤ 1048576) :
    Calls Tryz.prog 68 #[v, .int .i64 left] w fun e w' => ∃ x : Int, e = .returned (.int .i64 x) ∧ -1 ≤ x ∧ x ≤ 1048576 ∧ (0 ≤ x → Small l) ∧ Below w.heap.size w w' := by
  obtain ⟨a, cap, rfl⟩ := h.len
  have H := Lib.hid h
  have Hm := Lib.hid hm.2
  have hm1 := hm.1
  have hw : IntKind.i64.wrap (left - (l.length : Int)) = left - (l.length : Int) := IntWalk.i64_in _ (by omega)
  clear h hm
  by_cases hlt : left - (l.length : Int) < 0
  · go_enter Tryz.func68, Tryz.ntmps68
    go_wp2_with fail
    go_ret
    exact ⟨-1, rfl, by omega, by omega, fun h => by omega, Below.refl _ _⟩
  · have hlt2 : decide (left - (l.length : Int) < 0) = false := decide_eq_false hlt
    have hl20 : l.length ≤ 1048576 := by omega
    go_enter Tryz.func68, Tryz.ntmps68
    go_wp2_with fail
    go_loopw [1, 5] (fun x i wr => ∃ (k : Nat) (y : Int), k ≤ l.length ∧ i = .int .i64 k ∧ x = .int .i64 y ∧ 0 ≤ y ∧ y ≤ 1048576 ∧ Hid (∀ j (hj : j < l.length), j < k → l[j].2.length ≤ 1048576) ∧ Below w.heap.size w wr) (fun _ i _ => l.length - (intOf i).toNat)
    case atStart => exact ⟨0, left - l.length, by omega, rfl, rfl, by omega, by omega, Lib.hid fun j _ hj => by omega, Below.refl _ _⟩
    case round =>
      obtain ⟨k, y, hk, rfl, rfl, hy0, hy1, hdone, hbr⟩ := hrel
      clear hw hlt hlt2
      by_cases hlt : k < l.length
      · have hlti : (k : Int) < (l.length : Int) := by omega
        obtain ⟨b, o, cap', hv, hbC, hcs⟩ := H.out.cells (by omega)
        obtain ⟨rfl, rfl⟩ : a = some ⟨b, o, none⟩ ∧ cap = cap' := by injection hv with e1 e2 e3; exact ⟨e1, e3⟩
        obtain ⟨u, c0, c1, hu⟩ := hcs k hlt
        obtain ⟨ua, ucap, rfl⟩ := hu.len
        have hsm := Lib.hid (Hm.out _ (List.getElem_mem hlt))
        clear hcs hv hu
        rw [← hbr.cell (p := ⟨b, _, none⟩) hbC] at c0 c1
        have Hy0 := Lib.hid hy0
        have Hy1 := Lib.hid hy1
        go_wp2_with fail
        refine (szRawMsg_any l[k] ua ucap y _ hsm.out Hy0.out Hy1.out).mono ?_
        rintro e w2 ⟨x, rfl, hx0, hx1, hx, hb2⟩
        have hl2 := hbr.trans (hb2.mono hbr.size)
        clear hb2 c0 c1
        by_cases hneg : x < 0
        · go_wp2_with fail
          go_ret
          exact ⟨-1, rfl, by omega, by omega, fun h => by omega, hl2⟩
        · have hneg2 : decide (x < 0) = false := decide_eq_false hneg
          have Hx := Lib.hid (hx (by omega))
          clear hx
          go_wp2_with fail
          go_roundw
          case rel =>
            refine ⟨k + 1, x, by omega, by go_num, rfl, by omega, hx1, Lib.hid fun j hj hjk => ?_, hl2⟩
            by_cases e : j = k
            · subst e; exact Hx.out
            · exact hdone.out j hj (by omega)
          case measure => simp [intOf]; omega
      · have hge : (l.length : Int) ≤ (k : Int) := by omega
        have hend : decide (k < l.length) = false := decide_eq_false hlt
        go_wp2_with fail
        go_ret
        refine ⟨y, rfl, by omega, hy1, fun _ => ⟨hl20, fun m hm => ?_⟩, hbr⟩
        obtain ⟨j, hj, rfl⟩ := List.getElem_of_mem hm
        exact hdone.out j hj (by omega)
theorem szRaw_any (v : Value) (r : List RM) (left : Int) (w : World) (h : RawAt w (· < w.heap.size) v r) (hm : inMem r) (h0 : 0 ≤ left) (h1 : left ≤ 1048576) :
    Calls Tryz.prog 39 #[v, .int .i64 left] w fun e w' => ∃ x : Int, e = .returned (.int .i64 x) ∧ -1 ≤ x ∧ x ≤ 1048576 ∧ (0 ≤ x → Small r) ∧ Below w.heap.size w w' := by
  obtain ⟨u, rfl, hu⟩ := h
  obtain ⟨a, cap, rfl⟩ := hu.len
  have H := Lib.hid hu
  have Hm := Lib.hid hm
  have H0 := Lib.hid h0
  have H1 := Lib.hid h1
  clear hu hm h0 h1
  go_enter Tryz.func39, Tryz.ntmps39
  go_wp2_with fail
  have hl1 : Below w.heap.size w (w.alloc (.cells #[.slice a r.length cap] 42)) := (Below.refl _ _).alloc (Nat.le_refl _) _
  refine (szRawMsgS_any _ r left _ (H.out.keep (below_sees hl1) fun b hb => by simp; omega) Hm.out H0.out H1.out).mono ?_
  rintro e w1 ⟨x, rfl, hx0, hx1, hx, hb1⟩
  have hl2 : Below w.heap.size w w1 := hl1.trans (hb1.mono (by simp))
  have Hx := Lib.hid hx
  clear hx
  by_cases hlt : x < 0
  · go_wp2_with fail
    go_ret
    exact ⟨-1, rfl, by omega, by omega, fun h => by omega, hl2⟩
  · have hlt2 : decide (x < 0) = false := decide_eq_false hlt
    go_wp2_with fail
    go_ret
    exact ⟨x, rfl, hx0, hx1, Hx.out, hl2⟩
end Go.Proofs.YtcnpdcmdnmfnaaaGreat.Num.Sch

/-
  The walks of the laws' eqSchema: two values that hold the same description are equal; only new memory is written.
-/
namespace Go.Proofs.YtcnpdcmdnmfnaaaGreat.Num.Sch
open Go.RowKit Go.Proofs
set_option linter.unusedVariables false

theorem eqRawField_same (f : RF) (w : World) :
    Calls Tryz.prog 150 #[fieldV f, fieldV f] w fun e w' => e = .returned (.bool true) ∧ Below w.heap.size w w' := by
  unfold fieldV
  go_enter Tryz.func150, Tryz.ntmps150
  go_wp2_with fail
  go_ret
  refine ⟨rfl, ?_⟩
  repeat (first | exact Below.refl _ _ | refine Below.setCell ?_ (by simp) _ | refine Below.alloc ?_ (by simp <;> omega) _)
set_option maxHeartbeats 1000000 in
theorem eqRawFieldS_same (v u : Value) (l : List RF) (w : World) (hv : FieldsAt w (· < w.heap.size) v l) (hu : FieldsAt w (· < w.heap.size) u l) (hl : l.length ≤ 1048576) :
    Calls Tryz.prog 131 #[v, u] w fun e w' => e = .returned (.bool true) ∧ Below w.heap.size w w' := by
  obtain ⟨a, cap, rfl⟩ := hv.len
  obtain ⟨a', cap', rfl⟩ := hu.len
  have H := Lib.hid hv
  have H' := Lib.hid hu
  clear hv hu
  go_enter Tryz.func131, Tryz.ntmps131
  go_wp2_with fail
  go_loopw [5] (fun i wr => ∃ k : Nat, k ≤ l.length ∧ i = .int .i64 k ∧ Below w.heap.size w wr) (fun i _ => l.length - (intOf i).toNat)
  case atStart => exact ⟨0, by omega, rfl, Below.refl _ _⟩
  case round =>
    obtain ⟨k, hk, rfl, hbr⟩ := hrel
    by_cases hlt : k < l.length
    · have hlti : (k : Int) < (l.length : Int) := by omega
      obtain ⟨b, o, c, hv, hbC, hcs⟩ := H.out.cells (by omega)
      obtain ⟨rfl, rfl⟩ : a = some ⟨b, o, none⟩ ∧ cap = c := by injection hv with e1 e2 e3; exact ⟨e1, e3⟩
      obtain ⟨c0, c1, c2, c3, c4⟩ := hcs k hlt
      obtain ⟨b', o', c', hv', hbC', hcs'⟩ := H'.out.cells (by omega)
      obtain ⟨rfl, rfl⟩ : a' = some ⟨b', o', none⟩ ∧ cap' = c' := by injection hv' with e1 e2 e3; exact ⟨e1, e3⟩
      obtain ⟨d0, d1, d2, d3, d4⟩ := hcs' k hlt
      clear hcs hv hcs' hv'
      rw [← hbr.cell (p := ⟨b, _, none⟩) hbC] at c0 c1 c2 c3 c4
      rw [← hbr.cell (p := ⟨b', _, none⟩) hbC'] at d0 d1 d2 d3 d4
      have He := Lib.hid (eqRawField_same l[k])
      unfold fieldV at He
      generalize l[k] = f at He c0 c1 c2 c3 c4 d0 d1 d2 d3 d4
      go_wp2_with fail
      go_region_with (go_at_call 150; refine (He.out _).mono ?_; rintro e w2 ⟨rfl, hb2⟩; have hl2 := hbr.drew.trans (hb2.mono hbr.size))
      all_goals
        clear c0 c1 c2 c3 c4 d0 d1 d2 d3 d4
        go_wp2_with fail
        go_roundw
        case rel => exact ⟨k + 1, by omega, by go_num, hl2⟩
        case measure => simp [intOf]; omega
    · have hge : (l.length : Int) ≤ (k : Int) := by omega
      have hend : decide (k < l.length) = false := decide_eq_false hlt
      go_wp2_with fail
      go_ret
      exact ⟨rfl, hbr⟩
theorem eqRawMsg_same (m : RM) (a a' : Option Addr) (cap cap' : Nat) (w : World) (hv : FieldsAt w (· < w.heap.size) (.slice a m.2.length cap) m.2) (hu : FieldsAt w (· < w.heap.size) (.slice a' m.2.length cap') m.2) (hl : m.2.length ≤ 1048576) :
    Calls Tryz.prog 103 #[.agg #[.int .i64 m.1, .slice a m.2.length cap], .agg #[.int .i64 m.1, .slice a' m.2.length cap']] w fun e w' => e = .returned (.bool true) ∧ Below w.heap.size w w' := by
  have H := Lib.hid hv
  have H' := Lib.hid hu
  have Hl := Lib.hid hl
  clear hv hu hl
  go_enter Tryz.func103, Tryz.ntmps103
  go_wp2_with fail
  have hl2 : Below w.heap.size w ((w.alloc (.cells #[.int .i64 m.1, .slice a m.2.length cap] 90)).alloc (.cells #[.int .i64 m.1, .slice a' m.2.length cap'] 90)) := by
    repeat (first | exact Below.refl _ _ | refine Below.alloc ?_ (by simp <;> omega) _)
  have hz2 : w.heap.size ≤ ((w.alloc (.cells #[.int .i64 m.1, .slice a m.2.length cap] 90)).alloc (.cells #[.int .i64 m.1, .slice a' m.2.length cap'] 90)).heap.size := hl2.size
  refine (eqRawFieldS_same _ _ m.2 _ (H.out.keep (below_sees hl2) fun b hb => by omega) (H'.out.keep (below_sees hl2) fun b hb => by omega) Hl.out).mono ?_
  rintro e w1 ⟨rfl, hb1⟩
  have hl3 := hl2.trans (hb1.mono hz2)
  clear hb1 hl2
  go_wp2_with fail
  go_ret
  exact ⟨rfl, hl3⟩
set_option maxHeartbeats 1000000 in
theorem eqRawMsgS_same (v u : Value) (l : List RM) (w : World) (hv : MsgsAt w (· < w.heap.size) v l) (hu : MsgsAt w (· < w.heap.size) u l) (hl : Small l) :
    Calls Tryz.prog 70 #[v, u] w fun e w' => e = .returned (.bool true) ∧ Below w.heap.size w w' := by
  obtain ⟨a, cap, rfl⟩ := hv.len
  obtain ⟨a', cap', rfl⟩ := hu.len
  have H := Lib.hid hv
  have H' := Lib.hid hu
  have hl1 := hl.1
  have Hl := Lib.hid hl.2
  clear hv hu hl
  go_enter Tryz.func70, Tryz.ntmps70
  go_wp2_with fail
  go_loopw [5] (fun i wr => ∃ k : Nat, k ≤ l.length ∧ i = .int .i64 k ∧ Below w.heap.size w wr) (fun i _ => l.length - (intOf i).toNat)
  case atStart => exact ⟨0, by omega, rfl, Below.refl _ _⟩
  case round =>
    obtain ⟨k, hk, rfl, hbr⟩ := hrel
    by_cases hlt : k < l.length
    · have hlti : (k : Int) < (l.length : Int) := by omega
      obtain ⟨b, o, c, hv, hbC, hcs⟩ := H.out.cells (by omega)
      obtain ⟨rfl, rfl⟩ : a = some ⟨b, o, none⟩ ∧ cap = c := by injection hv with e1 e2 e3; exact ⟨e1, e3⟩
      obtain ⟨x, c0, c1, hx⟩ := hcs k hlt
      obtain ⟨xa, xcap, rfl⟩ := hx.len
      obtain ⟨b', o', c', hv', hbC', hcs'⟩ := H'.out.cells (by omega)
      obtain ⟨rfl, rfl⟩ : a' = some ⟨b', o', none⟩ ∧ cap' = c' := by injection hv' with e1 e2 e3; exact ⟨e1, e3⟩
      obtain ⟨y, d0, d1, hy⟩ := hcs' k hlt
      obtain ⟨ya, ycap, rfl⟩ := hy.len
      have Hx := Lib.hid (hx.keep (below_sees hbr) (S' := (· < wr.heap.size)) fun b hb => Nat.lt_of_lt_of_le hb hbr.size)
      have Hy := Lib.hid (hy.keep (below_sees hbr) (S' := (· < wr.heap.size)) fun b hb => Nat.lt_of_lt_of_le hb hbr.size)
      have hsm := Lib.hid (Hl.out _ (List.getElem_mem hlt))
      clear hcs hv hcs' hv' hx hy
      rw [← hbr.cell (p := ⟨b, _, none⟩) hbC] at c0 c1
      rw [← hbr.cell (p := ⟨b', _, none⟩) hbC'] at d0 d1
      have He := Lib.hid (eqRawMsg_same l[k] xa ya xcap ycap wr.drew (Hx.out.keep (fun _ _ _ => rfl) fun _ h => h) (Hy.out.keep (fun _ _ _ => rfl) fun _ h => h) hsm.out)
      clear Hx Hy hsm
      generalize l[k] = f at He c0 c1 d0 d1
      go_wp2_with fail
      go_region_with (go_at_call 103; refine He.out.mono ?_; rintro e w2 ⟨rfl, hb2⟩; have hl2 := hbr.drew.trans (hb2.mono hbr.size))
      all_goals
        clear c0 c1 d0 d1
        go_wp2_with fail
        go_roundw
        case rel => exact ⟨k + 1, by omega, by go_num, hl2⟩
        case measure => simp [intOf]; omega
    · have hge : (l.length : Int) ≤ (k : Int) := by omega
      have hend : decide (k < l.length) = false := decide_eq_false hlt
      go_wp2_with fail
      go_ret
      exact ⟨rfl, hbr⟩
theorem eqRaw_same (v u : Value) (r : List RM) (w : World) (hv : RawAt w (· < w.heap.size) v r) (hu : RawAt w (· < w.heap.size) u r) (hl : Small r) :
    Calls Tryz.prog 41 #[v, u] w fun e w' => e = .returned (.bool true) ∧ Below w.heap.size w w' := by
  obtain ⟨x, rfl, hx⟩ := hv
  obtain ⟨y, rfl, hy⟩ := hu
  obtain ⟨a, cap, rfl⟩ := hx.len
  obtain ⟨a', cap', rfl⟩ := hy.len
  have H := Lib.hid hx
  have H' := Lib.hid hy
  have Hl := Lib.hid hl
  clear hx hy hl
  go_enter Tryz.func41, Tryz.ntmps41
  go_wp2_with fail
  have hl2 : Below w.heap.size w ((w.alloc (.cells #[.slice a r.length cap] 26)).alloc (.cells #[.slice a' r.length cap'] 26)) := by
    repeat (first | exact Below.refl _ _ | refine Below.alloc ?_ (by simp <;> omega) _)
  have hz2 := hl2.size
  refine (eqRawMsgS_same _ _ r _ (H.out.keep (below_sees hl2) fun b hb => by omega) (H'.out.keep (below_sees hl2) fun b hb => by omega) Hl.out).mono ?_
  rintro e w1 ⟨rfl, hb1⟩
  have hl3 := hl2.trans (hb1.mono hz2)
  clear hb1 hl2
  go_wp2_with fail
  go_ret
  exact ⟨rfl, hl3⟩
end Go.Proofs.YtcnpdcmdnmfnaaaGreat.Num.Sch

/-
  Two descriptions held in two local variables, as the exact laws hold their arguments: what each call of the laws leaves of them.
-/
namespace Go.Proofs.YtcnpdcmdnmfnaaaGreat.Num.Sch
open Go.RowKit Go.Proofs
set_option linter.unusedVariables false

theorem toRaw_held {w : World} {g C : Nat} {a : Value} {r : List RM} (h : Holds w g C a r) (hl : Small r) :
    Calls Tryz.prog 40 #[.agg #[a]] w fun e w' => ∃ x cap, e = .returned (.agg #[.slice x r.length cap]) ∧ RawAt w' (· < w'.heap.size) (.agg #[.slice x r.length cap]) r ∧ Below w.heap.size w w' :=
  (toRaw_any _ r w h.raw hl).mono fun e w' ⟨u, he, hu, hb⟩ => by
    obtain ⟨y, rfl, hy⟩ := hu
    obtain ⟨x, cap, rfl⟩ := hy.len
    exact ⟨x, cap, he, (show RawAt w' _ _ r from ⟨_, rfl, hy⟩).keep (fun _ _ _ => rfl) fun b hb' => hb'.2, hb⟩
end Go.Proofs.YtcnpdcmdnmfnaaaGreat.Num.Sch

/-
  The walks of the laws' szPlan, toPlan and eqPlan: what is left is not below 0 only where the plan is small; a plan laid anew; equal plans are told so.
-/
namespace Go.Proofs.YtcnpdcmdnmfnaaaGreat.Num
open Go.RowKit Go.Proofs
set_option linter.unusedVariables false
theorem Box.fourA {w : World} {g : Nat} {a b c d : Value} (h : Box w g [a, b, c, d]) : w.cell? ⟨g, 0, none⟩ = some a ∧ w.cell? ⟨g, 1, none⟩ = some b ∧ w.cell? ⟨g, 2, none⟩ = some c ∧ w.cell? ⟨g, 3, none⟩ = some d ∧ w.frozen? ⟨g, 0, none⟩ = false ∧ w.frozen? ⟨g, 1, none⟩ = false ∧ w.frozen? ⟨g, 2, none⟩ = false ∧ w.frozen? ⟨g, 3, none⟩ = false :=
  ⟨(h.2 0 (by simp)).1, (h.2 1 (by simp)).1, (h.2 2 (by simp)).1, (h.2 3 (by simp)).1, (h.2 0 (by simp)).2, (h.2 1 (by simp)).2, (h.2 2 (by simp)).2, (h.2 3 (by simp)).2⟩
theorem MsgsAt.below {w w' : World} {u : Value} {r : List RM} (h : MsgsAt w (· < w.heap.size) u r) (hb : Below w.heap.size w w') : MsgsAt w' (· < w'.heap.size) u r :=
  h.keep (.of_below hb fun _ h => h) fun b h => Nat.lt_of_lt_of_le h hb.size
theorem szPlan_any (u : Value) (r : List RM) (A B C left : Int) (w : World) (h : MsgsAt w (· < w.heap.size) u r) (hm : inMem r) (h0 : 0 ≤ left) (h1 : left ≤ 1048576) :
    Calls Tryz.prog 15 #[planV u A B C, .int .i64 left] w fun e w' => ∃ x : Int, e = .returned (.int .i64 x) ∧ -1 ≤ x ∧ x ≤ 1048576 ∧ (0 ≤ x → Small r) ∧ Below w.heap.size w w' := by
  unfold planV
  have hbx : Box (w.alloc (.cells #[u, .int .i64 A, .int .i64 B, .int .i64 C] 44)) w.heap.size [u, .int .i64 A, .int .i64 B, .int .i64 C] := Box.fresh w #[u, .int .i64 A, .int .i64 B, .int .i64 C] _
  have hM := h.keep (.of_below (Below.alloc (Below.refl w.heap.size w) (Nat.le_refl _) (.cells #[u, .int .i64 A, .int .i64 B, .int .i64 C] 44)) fun b hb => hb) fun b hb => show b < (w.alloc (.cells #[u, .int .i64 A, .int .i64 B, .int .i64 C] 44)).heap.size from by simp; omega
  have HM := Lib.hid hM
  clear hM h
  go_enter Tryz.func15, Tryz.ntmps15
  go_wp2_with fail
  refine (Sch.szRaw_any _ r left _ HM.out.raw hm h0 h1).mono ?_
  rintro e w1 ⟨x, rfl, hx0, hx1, hx, hb1⟩
  have hl1 := from_alloc hb1
  clear hb1 hbx HM
  by_cases hneg : x < 0
  · go_wp2_with fail
    go_ret
    exact ⟨-1, rfl, by omega, by omega, fun h => absurd h (by decide), hl1⟩
  · go_wp2_with fail
    go_ret
    exact ⟨x, rfl, hx0, hx1, hx, hl1⟩
set_option maxHeartbeats 1000000 in
theorem toPlan_any (u : Value) (r : List RM) (A B C : Int) (w : World) (h : MsgsAt w (· < w.heap.size) u r) (hr : Small r) :
    Calls Tryz.prog 16 #[planV u A B C] w fun e w' => ∃ x cap, e = .returned (planV (.slice x r.length cap) A B C) ∧ MsgsAt w' (· < w'.heap.size) (.slice x r.length cap) r ∧ Below w.heap.size w w' := by
  unfold planV
  obtain ⟨P0, hP0⟩ : ∃ P0, ((w.alloc (.cells #[u, .int .i64 A, .int .i64 B, .int .i64 C] 44)).alloc (.cells #[.slice none 0 0, .int .i64 0, .int .i64 0, .int .i64 0] 28)).alloc (.cells #[.slice none 0 0, .int .i64 0, .int .i64 0, .int .i64 0] 28) = P0 := ⟨_, rfl⟩
  have hl : Below w.heap.size w P0 := hP0 ▸ (((Below.refl _ _).alloc (Nat.le_refl _) _).alloc (by simp) _).alloc (by simp; omega) _
  have hx0 : Box P0 w.heap.size [u, .int .i64 A, .int .i64 B, .int .i64 C] := hP0 ▸ ((Box.fresh w #[u, .int .i64 A, .int .i64 B, .int .i64 C] _).alloc _).alloc _
  have hx1 : Box P0 (w.heap.size + 1) [.slice none 0 0, .int .i64 0, .int .i64 0, .int .i64 0] := hP0 ▸ by
    have h := (Box.fresh (w.alloc (.cells #[u, .int .i64 A, .int .i64 B, .int .i64 C] 44)) #[.slice none 0 0, .int .i64 0, .int .i64 0, .int .i64 0] 28).alloc (.cells #[.slice none 0 0, .int .i64 0, .int .i64 0, .int .i64 0] 28)
    rwa [show (w.alloc (.cells #[u, .int .i64 A, .int .i64 B, .int .i64 C] 44)).heap.size = w.heap.size + 1 by simp] at h
  have hx2 : Box P0 (w.heap.size + 2) [.slice none 0 0, .int .i64 0, .int .i64 0, .int .i64 0] := hP0 ▸ by
    have h := (Box.fresh ((w.alloc (.cells #[u, .int .i64 A, .int .i64 B, .int .i64 C] 44)).alloc (.cells #[.slice none 0 0, .int .i64 0, .int .i64 0, .int .i64 0] 28)) #[.slice none 0 0, .int .i64 0, .int .i64 0, .int .i64 0] 28)
    rwa [show ((w.alloc (.cells #[u, .int .i64 A, .int .i64 B, .int .i64 C] 44)).alloc (.cells #[.slice none 0 0, .int .i64 0, .int .i64 0, .int .i64 0] 28)).heap.size = w.heap.size + 2 by simp] at h
  have hM : MsgsAt P0 (· < P0.heap.size) u r := h.keep (.of_below hl fun _ h => h) fun b h => Nat.lt_of_lt_of_le h hl.size
  have HM := Lib.hid hM
  clear hM h
  obtain ⟨c0, c1, c2, c3, _⟩ := hx0.fourA
  go_enter Tryz.func16, Tryz.ntmps16
  go_wp2_with fail
  clear c0 c1 c2 c3
  refine (Sch.toRaw_any _ r _ HM.out.raw hr).mono ?_
  rintro e w1 ⟨u', rfl, hu', hb1⟩
  obtain ⟨y, rfl, hy⟩ := hu'
  obtain ⟨x, cap, rfl⟩ := hy.len
  have hl1 := hl.trans (hb1.mono hl.size)
  obtain ⟨c0, c1, c2, c3, _⟩ := (hx0.below hb1 hx0.lt).fourA
  have hx1' := hx1.below hb1 hx1.lt
  have hx2' := hx2.below hb1 hx2.lt
  obtain ⟨a0, a1, a2, a3, b0, b1, b2, b3⟩ := hx1'.fourA
  obtain ⟨d0, d1, d2, d3, f0, f1, f2, f3⟩ := hx2'.fourA
  have hlt := hx2.lt
  have hx6 := ((((((((hx1'.other (a := ⟨w.heap.size + 1 + 1, 0, none⟩) (by simp) (.slice x r.length cap)).other (a := ⟨w.heap.size + 1 + 1, 1, none⟩) (by simp) (.int .i64 A)).other (a := ⟨w.heap.size + 1 + 1, 2, none⟩) (by simp) (.int .i64 B)).other (a := ⟨w.heap.size + 1 + 1, 3, none⟩) (by simp) (.int .i64 C)).set 0 (.slice x r.length cap)).set 1 (.int .i64 A)).set 2 (.int .i64 B)).set 3 (.int .i64 C))
  obtain ⟨y0, y1, y2, y3, _⟩ := Box.fourA (a := .slice x r.length cap) (b := .int .i64 A) (c := .int .i64 B) (d := .int .i64 C) hx6
  clear hP0 hx0 hx1 hx2 hb1 hl HM hx6
  go_wp2_with fail
  refine bodyPost_ret (v := .agg #[.slice x r.length cap, .int .i64 A, .int .i64 B, .int .i64 C]) (by simp [results, Tryz.results16, go_sem, y0, y1, y2, y3]) rfl ⟨x, cap, rfl, ?_, ?_⟩
  · refine hy.keep (S' := (· < _)) (fun b o hb => ?_) fun b hb => ?_
    · repeat rw [World.cell?_setCell_other]
      all_goals
        intro h
        injection h with h1
        omega
    · simp; omega
  · repeat (first | with_reducible exact hl1 | refine Below.setCell ?_ (by first | (simp <;> omega) | omega) _)
theorem eqPlan_same (u v : Value) (r : List RM) (A B C : Int) (w : World) (h : MsgsAt w (· < w.heap.size) u r) (h' : MsgsAt w (· < w.heap.size) v r) (hr : Small r) :
    Calls Tryz.prog 19 #[planV u A B C, planV v A B C] w fun e w' => e = .returned (.bool true) ∧ Below w.heap.size w w' := by
  unfold planV
  obtain ⟨P0, hP0⟩ : ∃ P0, (w.alloc (.cells #[u, .int .i64 A, .int .i64 B, .int .i64 C] 28)).alloc (.cells #[v, .int .i64 A, .int .i64 B, .int .i64 C] 28) = P0 := ⟨_, rfl⟩
  have hl : Below w.heap.size w P0 := hP0 ▸ ((Below.refl _ _).alloc (Nat.le_refl _) _).alloc (by simp) _
  have hx0 : Box P0 w.heap.size [u, .int .i64 A, .int .i64 B, .int .i64 C] := hP0 ▸ (Box.fresh w #[u, .int .i64 A, .int .i64 B, .int .i64 C] _).alloc _
  have hx1 : Box P0 (w.heap.size + 1) [v, .int .i64 A, .int .i64 B, .int .i64 C] := hP0 ▸ by
    have h := Box.fresh (w.alloc (.cells #[u, .int .i64 A, .int .i64 B, .int .i64 C] 28)) #[v, .int .i64 A, .int .i64 B, .int .i64 C] 28
    rwa [show (w.alloc (.cells #[u, .int .i64 A, .int .i64 B, .int .i64 C] 28)).heap.size = w.heap.size + 1 by simp] at h
  have HM := Lib.hid (show MsgsAt P0 (· < P0.heap.size) u r from h.keep (.of_below hl fun _ h => h) fun b h => Nat.lt_of_lt_of_le h hl.size)
  have HM' := Lib.hid (show MsgsAt P0 (· < P0.heap.size) v r from h'.keep (.of_below hl fun _ h => h) fun b h => Nat.lt_of_lt_of_le h hl.size)
  clear h h'
  have nA : (A != A) = false := by simp
  have nB : (B != B) = false := by simp
  have nC : (C != C) = false := by simp
  obtain ⟨c0, c1, c2, c3, _⟩ := hx0.fourA
  obtain ⟨d0, d1, d2, d3, _⟩ := hx1.fourA
  go_enter Tryz.func19, Tryz.ntmps19
  go_wp2_with fail
  clear c0 c1 c2 c3 d0 d1 d2 d3
  refine (Sch.eqRaw_same _ _ r _ HM.out.raw HM'.out.raw hr).mono ?_
  rintro e w1 ⟨rfl, hb1⟩
  have hl1 := hl.trans (hb1.mono hl.size)
  obtain ⟨c0, c1, c2, c3, _⟩ := (hx0.below hb1 hx0.lt).fourA
  obtain ⟨d0, d1, d2, d3, _⟩ := (hx1.below hb1 hx1.lt).fourA
  clear hP0 hx0 hx1 hb1 hl HM HM'
  go_wp2_with fail
  go_ret
  exact ⟨rfl, hl1⟩
end Go.Proofs.YtcnpdcmdnmfnaaaGreat.Num

/-
  The walks of the laws' markRaw and heldRaw: a description of the call's own marked cell by cell, and found so again; no other block is written.
-/
namespace Go.Proofs.YtcnpdcmdnmfnaaaGreat.Num.Sch
open Go.RowKit Go.Proofs
set_option linter.unusedVariables false
set_option linter.unusedSimpArgs false

set_option maxHeartbeats 4000000 in
theorem markF_any (g n cap : Nat) (k : Int) (w : World) (hf : Fill w g (n * 5)) (hn : n ≤ 1048576) (hk : 0 ≤ k ∧ k ≤ 1000000000000000) :
    Calls Tryz.prog 104 #[.slice (some ⟨g, 0, none⟩) n cap, .int .i64 k] w fun e w' => e = .returned (.int .i64 (k + 5 * (n : Int))) ∧ Marked w' g k (n * 5) ∧ Fill w' g (n * 5) ∧ w.grownBy w' (some g) ∧ w'.heap.size = w.heap.size := by
  have HF := Lib.hid hf
  clear hf
  go_enter Tryz.func104, Tryz.ntmps104
  go_wp2_with fail
  go_loopw [1, 5] (fun kk ii wr => ∃ i : Nat, i ≤ n ∧ kk = .int .i64 (k + 5 * (i : Int)) ∧ ii = .int .i64 i ∧ Hid (Marked wr g k (i * 5)) ∧ Hid (Fill wr g (n * 5)) ∧ Hid (w.grownBy wr (some g)) ∧ wr.heap.size = w.heap.size) (fun _ ii _ => n - (intOf ii).toNat)
  case atStart => exact ⟨0, by omega, by simp, rfl, Lib.hid fun j hj => by omega, HF, Lib.hid ⟨rfl, rfl, rfl, Nat.le_refl _, fun _ _ _ => rfl⟩, rfl⟩
  case round =>
    obtain ⟨i, hi, rfl, rfl, hm, hf, hg, hz⟩ := hrel
    by_cases hlt : i < n
    · have hlti : (i : Int) < (n : Int) := by omega
      obtain ⟨v0, a0, b0⟩ := hf.out.cell (j := i * 5) (by omega)
      obtain ⟨v1, a1, b1⟩ := hf.out.cell (j := i * 5 + 1) (by omega)
      obtain ⟨v2, a2, b2⟩ := hf.out.cell (j := i * 5 + 2) (by omega)
      obtain ⟨v3, a3, b3⟩ := hf.out.cell (j := i * 5 + 3) (by omega)
      obtain ⟨v4, a4, b4⟩ := hf.out.cell (j := i * 5 + 4) (by omega)
      have w1 : IntKind.i64.wrap (k + 5 * (i : Int) + 1) = k + 5 * (i : Int) + 1 := IntWalk.i64_in _ (by omega)
      have w2 : IntKind.i64.wrap (k + 5 * (i : Int) + 1 + 1) = k + 5 * (i : Int) + 1 + 1 := IntWalk.i64_in _ (by omega)
      have w3 : IntKind.i64.wrap (k + 5 * (i : Int) + 1 + 1 + 1) = k + 5 * (i : Int) + 1 + 1 + 1 := IntWalk.i64_in _ (by omega)
      have w4 : IntKind.i64.wrap (k + 5 * (i : Int) + 1 + 1 + 1 + 1) = k + 5 * (i : Int) + 1 + 1 + 1 + 1 := IntWalk.i64_in _ (by omega)
      have w5 : IntKind.i64.wrap (k + 5 * (i : Int) + 1 + 1 + 1 + 1 + 1) = k + 5 * (i : Int) + 1 + 1 + 1 + 1 + 1 := IntWalk.i64_in _ (by omega)
      have F0 := hf.out
      have F1 := F0.set (i * 5) (markAt k (i * 5))
      have F2 := F1.set (i * 5 + 1) (markAt k (i * 5 + 1))
      have F3 := F2.set (i * 5 + 2) (markAt k (i * 5 + 2))
      have F4 := F3.set (i * 5 + 3) (markAt k (i * 5 + 3))
      have F5 := Lib.hid (F4.set (i * 5 + 4) (markAt k (i * 5 + 4)))
      have M5 := Lib.hid (((((hm.out.set (F0.2 _ (by omega)).1).set (F1.2 _ (by omega)).1).set (F2.2 _ (by omega)).1).set (F3.2 _ (by omega)).1).set (F4.2 _ (by omega)).1)
      have G5 : Hid (w.grownBy (((((wr.setCell ⟨g, i * 5, none⟩ (markAt k (i * 5))).setCell ⟨g, i * 5 + 1, none⟩ (markAt k (i * 5 + 1))).setCell ⟨g, i * 5 + 2, none⟩ (markAt k (i * 5 + 2))).setCell ⟨g, i * 5 + 3, none⟩ (markAt k (i * 5 + 3))).setCell ⟨g, i * 5 + 4, none⟩ (markAt k (i * 5 + 4))) (some g)) := Lib.hid (Only.setCell (Only.setCell (Only.setCell (Only.setCell (Only.setCell hg.out _ _) _ _) _ _) _ _) _ _)
      rw [mark0, mark1, mark2, mark3, mark4] at F5 M5 G5
      clear F0 F1 F2 F3 F4
      go_wp2_with fail
      refine ⟨⟨i + 1, by omega, by congr 1; push_cast; omega, by simp, ?_, F5, G5, by simpa [World.setCell] using hz⟩, by simp [intOf]; omega⟩
      rw [show (i + 1) * 5 = i * 5 + 4 + 1 by omega]
      exact M5
    · have hge : (n : Int) ≤ (i : Int) := by omega
      have hend : decide (i < n) = false := decide_eq_false hlt
      obtain rfl : i = n := by omega
      go_wp2_with fail
      go_ret
      exact ⟨rfl, hm.out, hf.out, hg.out, hz⟩
/-- A nil row. -/
theorem markF_nil (k : Int) (w : World) : Calls Tryz.prog 104 #[.slice none 0 0, .int .i64 k] w fun e w' => e = .returned (.int .i64 k) ∧ w = w' := by
  go_enter Tryz.func104, Tryz.ntmps104
  go_wp2_with fail
  refine wp_loop_rounds 1 ?_
  rw [rounds_succ]
  go_wp2_with fail
  go_ret
  exact ⟨rfl, rfl⟩
set_option maxHeartbeats 4000000 in
theorem markM_any (gv cap : Nat) (ms : List OM) (k : Int) (w : World) (hs : Shp w gv ms) (h6 : ms.length ≤ 1048576) (hl : ∀ m ∈ ms, m.2.2.length ≤ 1048576) (hk : 0 ≤ k ∧ k ≤ 1000000) :
    Calls Tryz.prog 71 #[.slice (some ⟨gv, 0, none⟩) ms.length cap, .int .i64 k] w fun e w' => e = .returned (.int .i64 (kAt k ms ms.length)) ∧ MarkM w' gv k ms ms.length ∧ Shp w' gv ms ∧ Touch gv ms w w' := by
  have HS := Lib.hid hs
  have HL := Lib.hid hl
  clear hs hl
  go_enter Tryz.func71, Tryz.ntmps71
  go_wp2_with fail
  go_loopw [1, 5] (fun kk ii wr => ∃ i : Nat, i ≤ ms.length ∧ kk = .int .i64 (kAt k ms i) ∧ ii = .int .i64 i ∧ Hid (MarkM wr gv k ms i) ∧ Hid (Shp wr gv ms) ∧ Hid (Touch gv ms w wr)) (fun _ ii _ => ms.length - (intOf ii).toNat)
  case atStart => exact ⟨0, by omega, by rw [kAt_zero], rfl, Lib.hid fun j _ hj => by omega, HS, Lib.hid (Touch.refl _ _ _)⟩
  case round =>
    obtain ⟨i, hi, rfl, rfl, hm, hs, ht⟩ := hrel
    by_cases hlt : i < ms.length
    · have hlti : (i : Int) < (ms.length : Int) := by omega
      have hb := kAt_le (k := k) HL.out i hi
      have hlf := HL.out _ (List.getElem_mem hlt)
      have hks := kAt_succ (k := k) hlt
      obtain ⟨⟨v0, a0⟩, b0⟩ := hs.out.row.2 (i * 2) (by omega)
      have a1 := hs.out.vals i hlt
      have hgv := hs.out.row.1
      have w1 : IntKind.i64.wrap (kAt k ms i + 1) = kAt k ms i + 1 := IntWalk.i64_in _ (by omega)
      -- the world behind the Id's mark
      have hblk : ∀ x, x ≠ gv → (wr.setCell ⟨gv, i * 2, none⟩ (.int .i64 (kAt k ms i))).heap[x]? = wr.heap[x]? := fun x hx => by
        have := Below.heap_setCell wr ⟨gv, i * 2, none⟩ (.int .i64 (kAt k ms i)) x (by intro e; exact hx e)
        exact this
      have hsz : (wr.setCell ⟨gv, i * 2, none⟩ (.int .i64 (kAt k ms i))).heap.size = wr.heap.size := by simp [World.setCell]
      have hs1 : Shp (wr.setCell ⟨gv, i * 2, none⟩ (.int .i64 (kAt k ms i))) gv ms := ⟨hs.out.row.set _ _, fun j hj => by
          rw [World.cell?_setCell_other _ _ _ _ (by intro e; injection e with _ e; omega)]; exact hs.out.vals j hj, fun j hj => by
          rcases hs.out.flds j hj with h | ⟨g, c, h1, h2, h3⟩
          · exact .inl h
          · exact .inr ⟨g, c, h1, h2, h3.block (hblk g h2) hsz⟩, hs.out.each⟩
      have hm1 : MarkM (wr.setCell ⟨gv, i * 2, none⟩ (.int .i64 (kAt k ms i))) gv k ms i := fun j hj hji => by
        obtain ⟨h1, h2⟩ := hm.out j hj hji
        refine ⟨by rw [World.cell?_setCell_other _ _ _ _ (by intro e; injection e with _ e; omega)]; exact h1, fun g c hg => ?_⟩
        rcases hs.out.flds j hj with ⟨h, _⟩ | ⟨g', c', h3, h4, _⟩
        · rw [h] at hg; cases hg
        · rw [h3] at hg
          obtain rfl : g' = g := by injection hg with e; injection e with e; injection e
          exact (h2 _ _ h3).block (hblk _ h4)
      have hid : (wr.setCell ⟨gv, i * 2, none⟩ (.int .i64 (kAt k ms i))).cell? ⟨gv, i * 2, none⟩ = some (.int .i64 (kAt k ms i)) := World.cell?_setCell_same _ _ _ a0
      have ht1 : Touch gv ms w (wr.setCell ⟨gv, i * 2, none⟩ (.int .i64 (kAt k ms i))) := ht.out.trans ⟨rfl, rfl, rfl, hsz, fun x h1 _ => hblk x h1⟩
      have HS1 := Lib.hid hs1
      have HM1 := Lib.hid hm1
      have Hid1 := Lib.hid hid
      have HT1 := Lib.hid ht1
      have hap := Lib.hid fun j hj hne => (hs.out.each j i hj hlt hne)
      clear hs1 hm1 hid ht1 hblk hsz
      rcases hs.out.flds i hlt with ⟨hv, hn⟩ | ⟨g, c, hv, hgne, hfill⟩
      · rw [hv] at a1
        have hk1 : kAt k ms (i + 1) = kAt k ms i + 1 := by rw [hks, hn]; simp
        have Hk1 := Lib.hid hk1
        have Hv := Lib.hid hv
        clear hv hn hks hs hm ht hk1
        go_wp2_with fail
        refine (markF_nil _ _).mono ?_
        rintro e w2 ⟨rfl, rfl⟩
        go_wp2_with fail
        go_roundw
        case rel =>
          refine ⟨i + 1, by omega, by rw [Hk1.out], by simp, Lib.hid fun j hj hji => ?_, HS1, HT1⟩
          by_cases e : j = i
          · subst e; exact ⟨Hid1.out, fun g c hg => by rw [Hv.out] at hg; cases hg⟩
          · exact HM1.out j hj (by omega)
        case measure => simp [intOf]; omega
      · rw [hv] at a1
        have Hk1 : Hid (kAt k ms (i + 1) = kAt k ms i + 1 + 5 * (ms[i].2.2.length : Int)) := Lib.hid (by rw [hks]; omega)
        have Hv := Lib.hid hv
        have Hf : Hid (Fill (wr.setCell ⟨gv, i * 2, none⟩ (.int .i64 (kAt k ms i))) g (ms[i].2.2.length * 5)) := Lib.hid (by
          rcases HS1.out.flds i hlt with ⟨h, _⟩ | ⟨g', c', h3, _, h5⟩
          · rw [h] at hv; cases hv
          · rw [h3] at hv
            obtain rfl : g' = g := by injection hv with e; injection e with e; injection e
            exact h5)
        generalize hnn : ms[i].2.2.length = n at a1 hlf Hk1 Hf
        have Hnn := Lib.hid hnn
        clear hv hks hs hm ht hfill hnn
        go_wp2_with fail
        refine (markF_any g n c _ _ Hf.out hlf (by omega)).mono ?_
        rintro e w2 ⟨rfl, hm2, hf2, hg2, hz2⟩
        generalize wr.setCell ⟨gv, i * 2, none⟩ (.int .i64 (kAt k ms i)) = wq at HS1 HM1 Hid1 HT1 Hf hg2 hz2
        have blk : ∀ x, x ≠ g → w2.heap[x]? = wq.heap[x]? := fun x hx => by
          rcases Nat.lt_or_ge x wq.heap.size with h | h
          · exact grown_cell hg2 h hx
          · rw [Array.getElem?_eq_none h, Array.getElem?_eq_none (by omega)]
        have hoth : ∀ j (hj : j < ms.length), j ≠ i → ∀ g' c', ms[j].2.1 = .slice (some ⟨g', 0, none⟩) ms[j].2.2.length c' → g' ≠ g := fun j hj hne g' c' h e => by
          subst e
          rcases hap.out j hj hne with h1 | h1
          · rw [h] at h1; cases h1
          · rw [h, Hv.out] at h1; exact h1 rfl
        have hgi : ∀ g' c', ms[i].2.1 = .slice (some ⟨g', 0, none⟩) ms[i].2.2.length c' → g' = g := fun g' c' h => by
          rw [Hv.out] at h; injection h with e; injection e with e; injection e with e; exact e.symm
        have S2 : Hid (Shp w2 gv ms) := Lib.hid ⟨HS1.out.row.block (blk gv (Ne.symm hgne)) hz2, fun j hj => (World.cell?_of_block (a := ⟨gv, j * 2 + 1, none⟩) (blk gv (Ne.symm hgne))).trans (HS1.out.vals j hj), fun j hj => by
          by_cases e : j = i
          · subst e; exact .inr ⟨g, c, Hv.out, hgne, by rw [Hnn.out]; exact hf2⟩
          · rcases HS1.out.flds j hj with h | ⟨g', c', h1, h2, h3⟩
            · exact .inl h
            · exact .inr ⟨g', c', h1, h2, h3.block (blk g' (hoth j hj e g' c' h1)) hz2⟩, HS1.out.each⟩
        have M2 : Hid (MarkM w2 gv k ms (i + 1)) := Lib.hid fun j hj hji => by
          by_cases e : j = i
          · subst e
            exact ⟨(World.cell?_of_block (a := ⟨gv, j * 2, none⟩) (blk gv (Ne.symm hgne))).trans Hid1.out, fun g' c' h => by obtain rfl := hgi g' c' h; rw [Hnn.out]; exact hm2⟩
          · obtain ⟨h1, h2⟩ := HM1.out j hj (by omega)
            exact ⟨(World.cell?_of_block (a := ⟨gv, j * 2, none⟩) (blk gv (Ne.symm hgne))).trans h1, fun g' c' h => (h2 g' c' h).block (blk g' (hoth j hj e g' c' h))⟩
        have T2 : Hid (Touch gv ms w w2) := Lib.hid (HT1.out.trans ⟨hg2.os, hg2.tape, hg2.output, hz2, fun x h1 h2 => blk x (fun e => h2 i hlt (by rw [Hv.out, e]; rfl))⟩)
        clear hm2 hf2 hg2 hz2 blk hoth hgi HS1 HM1 Hid1 HT1 Hf
        go_wp2_with fail
        go_roundw
        case rel => exact ⟨i + 1, by omega, by rw [Hk1.out], by simp, M2, S2, T2⟩
        case measure => simp [intOf]; omega
    · have hge : (ms.length : Int) ≤ (i : Int) := by omega
      have hend : decide (i < ms.length) = false := decide_eq_false hlt
      obtain rfl : i = ms.length := by omega
      go_wp2_with fail
      go_ret
      exact ⟨rfl, hm.out, hs.out, ht.out⟩
theorem markM_nil (k : Int) (w : World) : Calls Tryz.prog 71 #[.slice none 0 0, .int .i64 k] w fun e w' => e = .returned (.int .i64 k) ∧ w = w' := by
  go_enter Tryz.func71, Tryz.ntmps71
  go_wp2_with fail
  refine wp_loop_rounds 1 ?_
  rw [rounds_succ]
  go_wp2_with fail
  go_ret
  exact ⟨rfl, rfl⟩
theorem markRaw_any {lo hi : Nat} (v : Value) (ms : List OM) (k : Int) (w : World) (ho : OwnIn w lo hi v ms) (hw : hi ≤ w.heap.size) (h6 : ms.length ≤ 1048576) (hl : ∀ m ∈ ms, m.2.2.length ≤ 1048576) (hk : 0 ≤ k ∧ k ≤ 1000000) :
    Calls Tryz.prog 42 #[.agg #[v], .int .i64 k] w fun e w' => e = .returned (.int .i64 (kAt k ms ms.length)) ∧ MarkedIn w' lo hi v k ms ∧ Zone lo hi w w' := by
  rcases ho.form with ⟨rfl, rfl⟩ | ⟨gv, cap, rfl, hs0⟩
  · go_enter Tryz.func42, Tryz.ntmps42
    go_wp2_with fail
    refine (markM_nil _ _).mono ?_
    rintro e w1 ⟨rfl, rfl⟩
    go_wp2_with fail
    go_ret
    exact ⟨by simp [kAt], ⟨fun b hb => (by cases hb), fun j hj => (by simp at hj), .inl ⟨rfl, rfl⟩⟩, .of_below ((Below.refl _ _).alloc (Nat.le_refl _) _)⟩
  · have hz : Zone w.heap.size w.heap.size w (w.alloc (.cells #[.slice (some ⟨gv, 0, none⟩) ms.length cap] 26)) := .of_below ((Below.refl _ _).alloc (Nat.le_refl _) _)
    have hs1 : Shp (w.alloc (.cells #[.slice (some ⟨gv, 0, none⟩) ms.length cap] 26)) gv ms :=
      hs0.zone (lo := lo) (hi := hi) hz (.inl hs0.row.1) fun j hj b hb => by have := ho.sub j hj b hb; omega
    have HS1 := Lib.hid hs1
    have Ho := Lib.hid ho
    clear hs1 ho hs0
    go_enter Tryz.func42, Tryz.ntmps42
    go_wp2_with fail
    refine (markM_any gv cap ms k _ HS1.out h6 hl hk).mono ?_
    rintro e w1 ⟨rfl, hm, hs, ht⟩
    have Hm := Lib.hid hm
    have Hs := Lib.hid hs
    have Ht := Lib.hid ht
    clear hm hs ht
    go_wp2_with fail
    go_ret
    refine ⟨rfl, ⟨Ho.out.top, Ho.out.sub, .inr ⟨gv, cap, rfl, Hm.out, Hs.out⟩⟩, ?_⟩
    obtain ⟨t1, t2, t3, t4, t5⟩ := Ht.out
    have hb := (Below.refl w.heap.size w).alloc (Nat.le_refl _) (.cells #[.slice (some ⟨gv, 0, none⟩) ms.length cap] 26)
    have htop := Ho.out.top gv rfl
    exact ⟨t1.trans hb.os, t2.trans hb.tape, t3.trans hb.output, by rw [t4]; exact hb.size, fun b hb1 h1 => (t5 b (by omega) (fun j hj e => by have := Ho.out.sub j hj b e; omega)).trans (hb.block b hb1)⟩
end Go.Proofs.YtcnpdcmdnmfnaaaGreat.Num.Sch

/-
  The walks of laws.toPlan, whose plan is memory of its own, and laws.markPlan.
-/
namespace Go.Proofs.YtcnpdcmdnmfnaaaGreat.Num
open Go.RowKit Go.Proofs
set_option linter.unusedVariables false

set_option maxHeartbeats 1000000 in
theorem toPlan_own (u : Value) (r : List RM) (A B C : Int) (w : World) (h : MsgsAt w (· < w.heap.size) u r) (hr : Small r) :
    Calls Tryz.prog 16 #[planV u A B C] w fun e w' => ∃ x cap ms, plain ms = r ∧ e = .returned (planV (.slice x r.length cap) A B C) ∧ OwnIn w' w.heap.size w'.heap.size (.slice x r.length cap) ms ∧ Below w.heap.size w w' := by
  unfold planV
  obtain ⟨P0, hP0⟩ : ∃ P0, ((w.alloc (.cells #[u, .int .i64 A, .int .i64 B, .int .i64 C] 44)).alloc (.cells #[.slice none 0 0, .int .i64 0, .int .i64 0, .int .i64 0] 28)).alloc (.cells #[.slice none 0 0, .int .i64 0, .int .i64 0, .int .i64 0] 28) = P0 := ⟨_, rfl⟩
  have hl : Below w.heap.size w P0 := hP0 ▸ (((Below.refl _ _).alloc (Nat.le_refl _) _).alloc (by simp) _).alloc (by simp; omega) _
  have hx0 : Box P0 w.heap.size [u, .int .i64 A, .int .i64 B, .int .i64 C] := hP0 ▸ ((Box.fresh w #[u, .int .i64 A, .int .i64 B, .int .i64 C] _).alloc _).alloc _
  have hx1 : Box P0 (w.heap.size + 1) [.slice none 0 0, .int .i64 0, .int .i64 0, .int .i64 0] := hP0 ▸ by
    have h := (Box.fresh (w.alloc (.cells #[u, .int .i64 A, .int .i64 B, .int .i64 C] 44)) #[.slice none 0 0, .int .i64 0, .int .i64 0, .int .i64 0] 28).alloc (.cells #[.slice none 0 0, .int .i64 0, .int .i64 0, .int .i64 0] 28)
    rwa [show (w.alloc (.cells #[u, .int .i64 A, .int .i64 B, .int .i64 C] 44)).heap.size = w.heap.size + 1 by simp] at h
  have hx2 : Box P0 (w.heap.size + 2) [.slice none 0 0, .int .i64 0, .int .i64 0, .int .i64 0] := hP0 ▸ by
    have h := (Box.fresh ((w.alloc (.cells #[u, .int .i64 A, .int .i64 B, .int .i64 C] 44)).alloc (.cells #[.slice none 0 0, .int .i64 0, .int .i64 0, .int .i64 0] 28)) #[.slice none 0 0, .int .i64 0, .int .i64 0, .int .i64 0] 28)
    rwa [show ((w.alloc (.cells #[u, .int .i64 A, .int .i64 B, .int .i64 C] 44)).alloc (.cells #[.slice none 0 0, .int .i64 0, .int .i64 0, .int .i64 0] 28)).heap.size = w.heap.size + 2 by simp] at h
  have hM : MsgsAt P0 (· < P0.heap.size) u r := h.keep (.of_below hl fun _ h => h) fun b h => Nat.lt_of_lt_of_le h hl.size
  have HM := Lib.hid hM
  clear hM h
  obtain ⟨c0, c1, c2, c3, _⟩ := hx0.fourA
  go_enter Tryz.func16, Tryz.ntmps16
  go_wp2_with fail
  clear c0 c1 c2 c3
  refine (Sch.toRaw_own _ r _ HM.out.raw hr).mono ?_
  rintro e w1 ⟨y, ms, hpl, rfl, hown, hb1⟩
  obtain ⟨x, cap, rfl⟩ := hown.at_.len
  have hP2 : P0.heap.size = w.heap.size + 3 := by rw [← hP0]; simp
  have Hpl := Lib.hid hpl
  have Hown : Hid (OwnIn w1 (w.heap.size + 3) w1.heap.size (.slice x r.length cap) ms) := Lib.hid (by rw [← hP2, ← hpl]; exact hown)
  rw [hpl]
  clear hown hpl hP2
  have hl1 := hl.trans (hb1.mono hl.size)
  obtain ⟨c0, c1, c2, c3, _⟩ := (hx0.below hb1 hx0.lt).fourA
  have hx1' := hx1.below hb1 hx1.lt
  have hx2' := hx2.below hb1 hx2.lt
  obtain ⟨a0, a1, a2, a3, b0, b1, b2, b3⟩ := hx1'.fourA
  obtain ⟨d0, d1, d2, d3, f0, f1, f2, f3⟩ := hx2'.fourA
  have hlt := hx2.lt
  have hx6 := ((((((((hx1'.other (a := ⟨w.heap.size + 1 + 1, 0, none⟩) (by simp) (.slice x r.length cap)).other (a := ⟨w.heap.size + 1 + 1, 1, none⟩) (by simp) (.int .i64 A)).other (a := ⟨w.heap.size + 1 + 1, 2, none⟩) (by simp) (.int .i64 B)).other (a := ⟨w.heap.size + 1 + 1, 3, none⟩) (by simp) (.int .i64 C)).set 0 (.slice x r.length cap)).set 1 (.int .i64 A)).set 2 (.int .i64 B)).set 3 (.int .i64 C))
  obtain ⟨y0, y1, y2, y3, _⟩ := Box.fourA (a := .slice x r.length cap) (b := .int .i64 A) (c := .int .i64 B) (d := .int .i64 C) hx6
  clear hP0 hx0 hx1 hx2 hb1 hl HM hx6
  go_wp2_with fail
  refine bodyPost_ret (v := .agg #[.slice x r.length cap, .int .i64 A, .int .i64 B, .int .i64 C]) (by simp [results, Tryz.results16, go_sem, y0, y1, y2, y3]) rfl ⟨x, cap, ms, Hpl.out, rfl, ?_, ?_⟩
  · refine OwnIn.wide (lo := w.heap.size + 3) (hi := w1.heap.size) ?_ (by omega) (by simp [World.setCell])
    repeat (first | with_reducible exact Hown.out | refine OwnIn.off ?_ (by show _ < w.heap.size + 3; simp <;> omega) (by simp [World.setCell]) _)
  · repeat (first | with_reducible exact hl1 | refine Below.setCell ?_ (by first | (simp <;> omega) | omega) _)
set_option maxHeartbeats 1000000 in
theorem markPlan_any {lo hi : Nat} (v : Value) (ms : List OM) (A B C k : Int) (w : World) (ho : OwnIn w lo hi v ms) (hw : hi ≤ w.heap.size) (h6 : ms.length ≤ 1048576) (hl : ∀ m ∈ ms, m.2.2.length ≤ 1048576) (hk : 0 ≤ k ∧ k ≤ 1000000) :
    Calls Tryz.prog 20 #[planV v A B C, .int .i64 k] w fun e w' => e = .returned (.int .i64 (kAt k ms ms.length)) ∧ Zone lo hi w w' := by
  unfold planV
  have hb := (Below.refl w.heap.size w).alloc (Nat.le_refl _) (.cells #[v, .int .i64 A, .int .i64 B, .int .i64 C] 28)
  have H1 := Lib.hid (ho.below hb hw)
  have hz1 : hi ≤ (w.alloc (.cells #[v, .int .i64 A, .int .i64 B, .int .i64 C] 28)).heap.size := by simp; omega
  have HM := Lib.hid (Sch.markRaw_any v ms k _ H1.out hz1 h6 hl hk)
  have hx := Box.fresh w #[v, .int .i64 A, .int .i64 B, .int .i64 C] 28
  have hsl : ∃ a n c, v = .slice a n c := by
    rcases ho.form with ⟨h, _⟩ | ⟨gv, cap, h, _⟩
    · exact ⟨_, _, _, h⟩
    · exact ⟨_, _, _, h⟩
  obtain ⟨a, n, c, rfl⟩ := hsl
  clear ho
  go_enter Tryz.func20, Tryz.ntmps20
  go_wp2_with fail
  refine HM.out.mono ?_
  rintro e w1 ⟨rfl, hm, hz⟩
  have hz2 := (Zone.of_below (lo := lo) (hi := hi) hb).trans hz
  clear hm
  go_wp2_with fail
  go_ret
  exact ⟨rfl, hz2⟩
end Go.Proofs.YtcnpdcmdnmfnaaaGreat.Num

/-
  Data that came in, opened: a slice of structs as a row of known cells; a struct of one-cell fields field by field. For any program.
-/
namespace Go.Proofs.YtcnpdcmdnmfnaaaGreat.Num
open Go.RowKit Go.Proofs Go.ChangeShapes Go.WideShapes Go.Deep
set_option linter.unusedVariables false

theorem exists_list {α : Type} {Q : Nat → α → Prop} : ∀ n, (∀ i, i < n → ∃ x, Q i x) → ∃ l : List α, l.length = n ∧ ∀ i (h : i < l.length), Q i l[i]
  | 0, _ => ⟨[], rfl, fun i h => by simp at h⟩
  | n + 1, h => by
    obtain ⟨l, hl, hq⟩ := exists_list n fun i hi => h i (by omega)
    obtain ⟨x, hx⟩ := h n (by omega)
    refine ⟨l ++ [x], by simp [hl], fun i hi => ?_⟩
    by_cases e : i < l.length
    · rw [List.getElem_append_left e]; exact hq i e
    · have hi2 : i < l.length + 1 := by simpa using hi
      obtain rfl : i = l.length := by omega
      rw [List.getElem_append_right (by omega)]
      simp only [Nat.sub_self, List.getElem_cons_zero]
      rw [hl]; exact hx
theorem add_none (b o n : Nat) : (⟨b, o, none⟩ : Addr).add n = ⟨b, o + n, none⟩ := by
  unfold Addr.add
  split
  · next h => subst h; rfl
  · rfl
theorem cell_lt {w : World} {p : Addr} {v : Value} (h : w.cell? p = some v) : p.block < w.heap.size := by
  rcases Nat.lt_or_ge p.block w.heap.size with hlt | hge
  · exact hlt
  · unfold World.cell? at h
    rw [Array.getElem?_eq_none hge] at h
    simp at h
section
variable {H : Type} {enc : TypeId × Value → H} {P : Program} {w : World} {base : Nat} {spare : Nat → Bool} {held : Bool}
/-- A struct of one-cell fields: each field's cell by itself. -/
theorem open_fields {t : TypeId} {fs : Array Field} {fuel : Nat} {cs : List Value} {x : DataW H × List MemPlace} (hs : P.underlying t = some (.struct fs)) (hone : oneCellFields P fs = true) (hC : P.cellsOf t = fs.size)
    (h : DataW.trod enc P w base spare held fuel t cs = some x) : cs.length = fs.size ∧ ∃ n, ∀ (j : Nat) (f : Field) (hf : fs[j]? = some f) (hj : j < cs.length), ∃ y, DataW.trod enc P w base spare held n f.type [cs[j]] = some y := by
  obtain ⟨xs, n, _, _, hl, hxl, hf⟩ := DataW.trod_struct hs h
  refine ⟨hl.trans hC, n, fun j f hj hlt => ?_⟩
  obtain ⟨ho, hk⟩ := hone_of hone j f hj
  have h1 := hf j f hj
  have hjl : j < fs.size := (Array.getElem?_eq_some_iff.1 hj).1
  rw [ho, hk, show (cs.drop j).take 1 = [cs[j]] by rw [List.drop_eq_getElem_cons hlt]; rfl] at h1
  rw [List.getElem?_eq_getElem (show j < xs.length by omega)] at h1
  exact ⟨_, h1⟩
/-- A slice: a row of elements of sz cells each, of which R tells what reading one of them tells. -/
theorem open_row {α : Type} {t e : TypeId} {sz fuel : Nat} {cs : List Value} {x : DataW H × List MemPlace} (ht : P.underlying t = some (.slice e)) (hsz : P.cellsOf e = sz) (hpos : 0 < sz) (R : α → List Value → Prop)
    (hR : ∀ (n : Nat) (cs' : List Value) (y : DataW H × List MemPlace), cs'.length = sz → DataW.trod enc P w base spare held n e cs' = some y → ∃ z : α, R z cs') (h : DataW.trod enc P w base spare held fuel t cs = some x) :
    ∃ (v : Value) (l : List α), cs = [v] ∧ RowAt w (· < w.heap.size) sz R v l ∧ l.length ≤ maxLen := by
  rcases open_slice ht h with ⟨hcs, _⟩ | ⟨a, len, cap, m, n, D, Pl, hcs, hb, hl, hm, hmm, hx, hi⟩
  · exact ⟨_, [], hcs, .inl ⟨rfl, none, 0, rfl⟩, by simp⟩
  · have hlm : len ≤ m := by rw [hmm]; split <;> omega
    have key : ∀ i, i < len → ∃ zc : α × List Value, R zc.1 zc.2 ∧ zc.2.length = sz ∧ ∀ j (hj : j < zc.2.length), w.cell? ((a.add (i * sz)).add j) = some zc.2[j] := by
      intro i hilt
      obtain ⟨cs', hc, ht'⟩ := hi i (by omega)
      rw [hsz] at hc
      obtain ⟨_, hcl, hat⟩ := World.cells?_some hc
      obtain ⟨z, hz⟩ := hR n cs' _ hcl ht'
      exact ⟨(z, cs'), hz, hcl, fun j hj => by rw [hat j (by rw [← hcl]; exact hj), List.getElem?_eq_getElem hj]⟩
    obtain ⟨l, hll, hq⟩ := exists_list len key
    by_cases h0 : len = 0
    · subst h0
      exact ⟨_, [], hcs, .inl ⟨rfl, some a, cap, rfl⟩, by simp⟩
    · obtain ⟨_, hz, hc0⟩ := hq 0 (by omega)
      have hfirst := hc0 0 (by omega)
      rw [Nat.zero_mul] at hfirst
      have hsp : a.spot = none := by simpa [Addr.add] using World.cell?_spot hfirst
      obtain ⟨b, o, sp⟩ := a
      simp only at hsp
      subst hsp
      have hblt := cell_lt hfirst
      rw [add_none, add_none] at hblt
      refine ⟨_, l.map (·.1), hcs, .inr ⟨b, o, cap, by rw [List.length_map, hll], ⟨by rw [List.length_map]; omega, by rw [List.length_map]; omega⟩, hblt, fun i hilt => ?_⟩, by rw [List.length_map]; omega⟩
      rw [List.length_map] at hilt
      obtain ⟨hR1, hl1, hc1⟩ := hq i hilt
      refine ⟨l[i].2, hl1, by rw [List.getElem_map]; exact hR1, fun j hj => ?_⟩
      have := hc1 j hj
      rw [add_none, add_none] at this
      rw [← Nat.add_assoc]; exact this
end
end Go.Proofs.YtcnpdcmdnmfnaaaGreat.Num

/-
  A description that came in, opened: the value holds some description, in memory that was there.
-/
namespace Go.Proofs.YtcnpdcmdnmfnaaaGreat.Num.Sch
open Go.RowKit Go.Proofs Go.ChangeShapes Go.WideShapes Go.Deep
set_option linter.unusedVariables false

section
variable {H : Type} {enc : TypeId × Value → H} {w : World} {base : Nat} {spare : Nat → Bool} {held : Bool}
set_option maxRecDepth 100000 in
theorem open_rawField {n : Nat} {cs : List Value} {y : DataW H × List MemPlace} (hl : cs.length = 5) (h : DataW.trod enc Tryz.prog w base spare held n 202 cs = some y) : ∃ f : RF, fieldR f cs := by
  obtain ⟨_, n', hf⟩ := open_fields Tryz.underlying202 (by kernel_rfl) (by kernel_rfl) h
  match cs, hl with
  | [c0, c1, c2, c3, c4], _ =>
    obtain ⟨y0, h0⟩ := hf 0 _ rfl (by simp)
    obtain ⟨y1, h1⟩ := hf 1 _ rfl (by simp)
    obtain ⟨y2, h2⟩ := hf 2 _ rfl (by simp)
    obtain ⟨y3, h3⟩ := hf 3 _ rfl (by simp)
    obtain ⟨y4, h4⟩ := hf 4 _ rfl (by simp)
    obtain ⟨a0, e0, _⟩ := DataW.trod_int Tryz.underlying3 h0
    obtain ⟨a1, e1, _⟩ := DataW.trod_int Tryz.underlying3 h1
    obtain ⟨a2, e2, _⟩ := DataW.trod_bool Tryz.underlying4 h2
    obtain ⟨a3, e3, _⟩ := DataW.trod_bool Tryz.underlying4 h3
    obtain ⟨a4, e4, _⟩ := DataW.trod_int Tryz.underlying3 h4
    simp at e0 e1 e2 e3 e4
    subst e0 e1 e2 e3 e4
    exact ⟨(a0, a1, a2, a3, a4), rfl⟩
set_option maxRecDepth 100000 in
theorem open_rawMsg {n : Nat} {cs : List Value} {y : DataW H × List MemPlace} (hl : cs.length = 2) (h : DataW.trod enc Tryz.prog w base spare held n 148 cs = some y) : ∃ m : RM, msgR w (· < w.heap.size) m cs ∧ m.2.length ≤ maxLen := by
  obtain ⟨_, n', hf⟩ := open_fields Tryz.underlying148 (by kernel_rfl) (by kernel_rfl) h
  match cs, hl with
  | [c0, c1], _ =>
    obtain ⟨y0, h0⟩ := hf 0 _ rfl (by simp)
    obtain ⟨y1, h1⟩ := hf 1 _ rfl (by simp)
    obtain ⟨a0, e0, _⟩ := DataW.trod_int Tryz.underlying3 h0
    obtain ⟨v, l, e1, hrow, hlen⟩ := open_row (sz := 5) (α := RF) Tryz.underlying146 (by kernel_rfl) (by omega) fieldR (fun n cs' y hl h => open_rawField hl h) h1
    simp at e0 e1
    subst e0 e1
    exact ⟨(a0, l), ⟨c1, rfl, hrow⟩, hlen⟩
set_option maxRecDepth 100000 in
theorem open_raw {r0 : Reach} {b0 : Nat} {v : Value} {d : DataW H} {p : List MemPlace} (hv : Value.okWide Tryz.prog w r0 b0 42 v) (h : DataW.Trod enc Tryz.prog w base spare held 42 v d p) :
    ∃ (y : Value) (r : List RM), v = .agg #[y] ∧ MsgsAt w (· < w.heap.size) y r ∧ inMem r := by
  obtain ⟨cs, rfl, hsz⟩ := okWide_struct Tryz.underlying42 hv
  obtain ⟨fuel, hf⟩ := h
  obtain ⟨hl, n', hfs⟩ := open_fields Tryz.underlying42 (by kernel_rfl) (by kernel_rfl) hf
  have hc : (Value.agg cs).cells = cs := rfl
  rw [hc] at hl hfs
  obtain ⟨l⟩ := cs
  simp only at hl hfs
  match l, hl with
  | [c0], _ =>
    obtain ⟨y0, h0⟩ := hfs 0 _ rfl (by simp)
    obtain ⟨v, ms, e1, hrow, hlen⟩ := open_row (sz := 2) (α := RM) Tryz.underlying40 (by kernel_rfl) (by omega) (fun m cs => msgR w (· < w.heap.size) m cs ∧ m.2.length ≤ maxLen) (fun n cs' y hl h => open_rawMsg hl h) h0
    simp at e1
    subst e1
    refine ⟨c0, ms, rfl, hrow.keep (fun _ _ _ => rfl) (fun _ h => h) fun m cs h => h.1, by unfold maxLen at hlen; omega, fun m hm => ?_⟩
    obtain ⟨i, hi, rfl⟩ := List.getElem_of_mem hm
    rcases hrow with ⟨rfl, _⟩ | ⟨b, o, cap, _, _, _, hc⟩
    · simp at hi
    · obtain ⟨_, _, ⟨_, h2⟩, _⟩ := hc i hi
      unfold maxLen at h2; omega
set_option maxRecDepth 100000 in
theorem open_field {r0 : Reach} {b0 : Nat} {v : Value} {d : DataW H} {p : List MemPlace} (hv : Value.okWide Tryz.prog w r0 b0 202 v) (h : DataW.Trod enc Tryz.prog w base spare held 202 v d p) : ∃ f : RF, v = fieldV f := by
  obtain ⟨cs, rfl, hsz⟩ := okWide_struct Tryz.underlying202 hv
  obtain ⟨fuel, hf⟩ := h
  obtain ⟨hl, _, _⟩ := open_fields Tryz.underlying202 (by kernel_rfl) (by kernel_rfl) hf
  have hc : (Value.agg cs).cells = cs := rfl
  rw [hc] at hl hf
  obtain ⟨l⟩ := cs
  obtain ⟨f, hf⟩ := open_rawField hl hf
  exact ⟨f, by unfold fieldR at hf; simp only at hf; rw [hf]; rfl⟩
end
end Go.Proofs.YtcnpdcmdnmfnaaaGreat.Num.Sch

/-
  A plan that came in, opened: its schema some description, in memory that was there, and three numbers.
-/
namespace Go.Proofs.YtcnpdcmdnmfnaaaGreat.Num
open Go.RowKit Go.Proofs Go.ChangeShapes Go.WideShapes Go.Deep
set_option linter.unusedVariables false
section
variable {H : Type} {enc : TypeId × Value → H} {w : World} {base : Nat} {spare : Nat → Bool} {held : Bool}
set_option maxRecDepth 100000 in
theorem open_rowSch {n : Nat} {c0 : Value} {y : DataW H × List MemPlace} (h : DataW.trod enc Tryz.prog w base spare held n 42 [c0] = some y) : ∃ r : List RM, MsgsAt w (· < w.heap.size) c0 r ∧ inMem r := by
  obtain ⟨hl, n', hfs⟩ := open_fields Tryz.underlying42 (by kernel_rfl) (by kernel_rfl) h
  obtain ⟨y0, h0⟩ := hfs 0 _ rfl (by simp)
  obtain ⟨v, ms, e1, hrow, hlen⟩ := open_row (sz := 2) (α := RM) Tryz.underlying40 (by kernel_rfl) (by omega) (fun m cs => msgR w (· < w.heap.size) m cs ∧ m.2.length ≤ maxLen) (fun n cs' y hl h => Sch.open_rawMsg hl h) h0
  simp at e1
  subst e1
  refine ⟨ms, hrow.keep (fun _ _ _ => rfl) (fun _ h => h) fun m cs h => h.1, by unfold maxLen at hlen; omega, fun m hm => ?_⟩
  obtain ⟨i, hi, rfl⟩ := List.getElem_of_mem hm
  rcases hrow with ⟨rfl, _⟩ | ⟨b, o, cap, _, _, _, hc⟩
  · simp at hi
  · obtain ⟨_, _, ⟨_, h2⟩, _⟩ := hc i hi
    unfold maxLen at h2; omega
set_option maxRecDepth 100000 in
theorem open_plan {r0 : Reach} {b0 : Nat} {v : Value} {d : DataW H} {p : List MemPlace} (hv : Value.okWide Tryz.prog w r0 b0 44 v) (h : DataW.Trod enc Tryz.prog w base spare held 44 v d p) :
    ∃ (y : Value) (r : List RM) (A B C : Int), v = planV y A B C ∧ MsgsAt w (· < w.heap.size) y r ∧ inMem r := by
  obtain ⟨cs, rfl, hsz⟩ := okWide_struct Tryz.underlying44 hv
  obtain ⟨fuel, hf⟩ := h
  obtain ⟨hl, n', hfs⟩ := open_fields Tryz.underlying44 (by kernel_rfl) (by kernel_rfl) hf
  have hc : (Value.agg cs).cells = cs := rfl
  rw [hc] at hl hfs
  obtain ⟨l⟩ := cs
  simp only at hl hfs
  match l, hl with
  | [c0, c1, c2, c3], _ =>
    obtain ⟨y0, h0⟩ := hfs 0 _ rfl (by simp)
    obtain ⟨y1, h1⟩ := hfs 1 _ rfl (by simp)
    obtain ⟨y2, h2⟩ := hfs 2 _ rfl (by simp)
    obtain ⟨y3, h3⟩ := hfs 3 _ rfl (by simp)
    obtain ⟨a1, e1, _⟩ := DataW.trod_int Tryz.underlying3 h1
    obtain ⟨a2, e2, _⟩ := DataW.trod_int Tryz.underlying3 h2
    obtain ⟨a3, e3, _⟩ := DataW.trod_int Tryz.underlying3 h3
    obtain ⟨r, hr, hm⟩ := open_rowSch h0
    simp at e1 e2 e3
    subst e1 e2 e3
    exact ⟨c0, r, a1, a2, a3, rfl, hr, hm⟩
end
end Go.Proofs.YtcnpdcmdnmfnaaaGreat.Num

/-
  Plain lemmas on decimal numerals as lists of bytes: a numeral without a leading zero is the numeral of its value, and the numeral of a value has that value. No program is named here.
-/
namespace Go.Proofs.YtcnpdcmdnmfnaaaGreat.Num

theorem snoc_induct {P : List UInt8 → Prop} (h0 : P []) (h1 : ∀ l c, P l → P (l ++ [c])) (l : List UInt8) : P l := by
  have h : ∀ r : List UInt8, P r.reverse := by
    intro r
    induction r with
    | nil => exact h0
    | cons c r ih => rw [List.reverse_cons]; exact h1 _ _ ih
  have := h l.reverse
  rwa [List.reverse_reverse] at this
def isDig (c : UInt8) : Bool := decide (48 ≤ c.toNat ∧ c.toNat ≤ 57)
def val (l : List UInt8) : Nat := l.foldl (fun a c => 10 * a + (c.toNat - 48)) 0
/-- No leading zero, but for the numeral 0 itself; not empty; digits alone. -/
def canon (l : List UInt8) : Bool := !l.isEmpty && (decide (l.length = 1) || decide (l.head? ≠ some 48)) && l.all isDig
def numOk (M : Nat) (l : List UInt8) : Bool := canon l && decide (val l ≤ M)
/-- So far so good behind some digits of a numeral: digits alone, and the limit is kept. -/
def pref (M : Nat) (l : List UInt8) : Bool := l.all isDig && decide (val l ≤ M)

theorem val_nil : val [] = 0 := rfl
theorem val_snoc (l : List UInt8) (c : UInt8) : val (l ++ [c]) = 10 * val l + (c.toNat - 48) := by
  simp [val]
theorem val_app (l r : List UInt8) : val l * 10 ^ r.length ≤ val (l ++ r) := by
  induction r using snoc_induct with
  | h0 => simp
  | h1 r c ih =>
    rw [← List.append_assoc, val_snoc, List.length_append, List.length_singleton, Nat.pow_succ]
    have : val l * (10 ^ r.length * 10) = 10 * (val l * 10 ^ r.length) := by rw [Nat.mul_comm (10 ^ r.length) 10, ← Nat.mul_assoc, Nat.mul_comm (val l) 10, Nat.mul_assoc]
    omega
theorem val_mono (l r : List UInt8) : val l ≤ val (l ++ r) := by
  have h := val_app l r
  have h1 : 1 ≤ 10 ^ r.length := Nat.one_le_pow _ _ (by omega)
  exact Nat.le_trans (Nat.le_mul_of_pos_right _ (by omega)) h

theorem pref_nil (M : Nat) : pref M [] = true := by simp [pref, val]
theorem pref_snoc (M : Nat) (l : List UInt8) (c : UInt8) : pref M (l ++ [c]) = true ↔ l.all isDig = true ∧ isDig c = true ∧ 10 * val l + (c.toNat - 48) ≤ M := by
  simp [pref, val_snoc, List.all_append]
  constructor
  · rintro ⟨⟨a, b⟩, c⟩; exact ⟨a, b, c⟩
  · rintro ⟨a, b, c⟩; exact ⟨⟨a, b⟩, c⟩
theorem pref_of_app {M : Nat} {l r : List UInt8} (h : pref M (l ++ r) = true) : pref M l = true := by
  simp only [pref, Bool.and_eq_true, List.all_append, decide_eq_true_eq] at h ⊢
  exact ⟨h.1.1, Nat.le_trans (val_mono l r) h.2⟩
/-- A bad beginning makes a bad numeral. -/
theorem pref_take {M : Nat} {l : List UInt8} (k : Nat) (h : pref M (l.take k) = false) : pref M l = false := by
  cases hp : pref M l with
  | false => rfl
  | true => rw [← List.take_append_drop k l] at hp; rw [pref_of_app hp] at h; cases h

def dgt (d : Nat) : UInt8 := UInt8.ofNat (48 + d)
def decF : Nat → Nat → List UInt8
  | 0, u => [dgt (u % 10)]
  | f + 1, u => if u ≤ 9 then [dgt u] else decF f (u / 10) ++ [dgt (u % 10)]
/-- The shortest decimal numeral of a number. -/
def dec (u : Nat) : List UInt8 := decF u u

theorem decF_eq : ∀ f g u, u ≤ f → u ≤ g → decF f u = decF g u
  | 0, 0, _, _, _ => rfl
  | 0, g + 1, u, h, _ => by have : u = 0 := by omega
                            subst this; rfl
  | f + 1, 0, u, _, h => by have : u = 0 := by omega
                            subst this; rfl
  | f + 1, g + 1, u, h1, h2 => by
    simp only [decF]
    split
    · rfl
    · rw [decF_eq f g (u / 10) (by omega) (by omega)]
theorem dec_small {u : Nat} (h : u ≤ 9) : dec u = [dgt u] := by
  unfold dec
  cases u with
  | zero => rfl
  | succ n => simp only [decF]; rw [if_pos h]
theorem dec_big {u : Nat} (h : 9 < u) : dec u = dec (u / 10) ++ [dgt (u % 10)] := by
  unfold dec
  cases u with
  | zero => omega
  | succ n => simp only [decF]; rw [if_neg (by omega), decF_eq n ((n + 1) / 10) _ (by omega) (Nat.le_refl _)]
theorem ofNat_toNat {n : Nat} (h : n < 256) : (UInt8.ofNat n).toNat = n := by simp [UInt8.toNat_ofNat']; omega
theorem dig_toNat (d : Nat) (h : d ≤ 9) : (dgt d).toNat = 48 + d := ofNat_toNat (by omega)
theorem isDig_of (d : Nat) (h : d ≤ 9) : isDig (dgt d) = true := by
  unfold isDig; rw [dig_toNat d h]; simp; omega
theorem dig_back {c : UInt8} (h : isDig c = true) : dgt (c.toNat - 48) = c := by
  unfold isDig at h; simp at h
  apply UInt8.toNat.inj
  rw [dig_toNat _ (by omega)]; omega
theorem dec_induct {P : Nat → Prop} (hs : ∀ u, u ≤ 9 → P u) (hb : ∀ u, 9 < u → P (u / 10) → P u) (u : Nat) : P u := by
  induction u using Nat.strongRecOn with
  | ind u ih =>
    by_cases h : u ≤ 9
    · exact hs u h
    · exact hb u (by omega) (ih (u / 10) (by omega))
theorem val_dec (u : Nat) : val (dec u) = u := by
  induction u using dec_induct with
  | hs u h => rw [dec_small h]; simp [val]; rw [dig_toNat u h]; omega
  | hb u h ih => rw [dec_big h, val_snoc, ih, dig_toNat _ (by omega)]; omega
theorem dec_ne (u : Nat) : dec u ≠ [] := by
  by_cases h : u ≤ 9
  · rw [dec_small h]; simp
  · rw [dec_big (by omega)]; simp
theorem dec_all (u : Nat) : (dec u).all isDig = true := by
  induction u using dec_induct with
  | hs u h => rw [dec_small h]; simp [isDig_of u h]
  | hb u h ih => rw [dec_big h]; simp only [List.all_append, ih]; simp [isDig_of (u % 10) (by omega)]
theorem dec_head (u : Nat) (h : 1 ≤ u) : (dec u).head? ≠ some 48 := by
  induction u using dec_induct with
  | hs u hu => rw [dec_small hu]; simp; intro e; have := congrArg UInt8.toNat e; rw [dig_toNat u hu] at this; simp at this; omega
  | hb u hu ih =>
    rw [dec_big hu, List.head?_append]
    cases hd : dec (u / 10) with
    | nil => exact absurd hd (dec_ne _)
    | cons a t => have := ih (by omega); rw [hd] at this; simpa using this
theorem canon_dec (u : Nat) : canon (dec u) = true := by
  unfold canon
  rw [dec_all]
  have h1 := dec_ne u
  by_cases h : u ≤ 9
  · rw [dec_small h]; simp
  · have h2 := dec_head u (by omega)
    simp [h1, h2]
theorem head_pos {c : UInt8} {l : List UInt8} (hd : isDig c = true) (hc : c ≠ 48) : 1 ≤ val (c :: l) := by
  have h := val_mono [c] l
  simp only [val, List.foldl_cons, List.foldl_nil, List.singleton_append] at h
  unfold isDig at hd; simp at hd
  have h3 : c.toNat ≠ 48 := fun e => hc (by apply UInt8.toNat.inj; rw [e]; rfl)
  have h2 : 1 ≤ 10 * 0 + (c.toNat - 48) := by omega
  exact Nat.le_trans h2 h
theorem dec_val (l : List UInt8) (h : canon l = true) : dec (val l) = l := by
  induction l using snoc_induct with
  | h0 => simp [canon] at h
  | h1 l c ih =>
    unfold canon at h
    simp only [Bool.and_eq_true, List.all_append, List.all_cons, List.all_nil, Bool.and_true] at h
    obtain ⟨⟨_, hh⟩, hl, hc⟩ := h
    have hcd := hc
    unfold isDig at hcd; simp at hcd
    rw [val_snoc]
    cases l with
    | nil => simp only [val_nil]; rw [dec_small (by omega)]; simp [dig_back hc]
    | cons a t =>
      simp at hh
      simp only [List.all_cons, Bool.and_eq_true] at hl
      have hp := head_pos (l := t) hl.1 hh
      have hcan : canon (a :: t) = true := by unfold canon; simp [hl.1, hh]; simpa using hl.2
      rw [dec_big (by omega), show (10 * val (a :: t) + (c.toNat - 48)) / 10 = val (a :: t) from by omega, show (10 * val (a :: t) + (c.toNat - 48)) % 10 = c.toNat - 48 from by omega, ih hcan, dig_back hc]
theorem canon_length {l : List UInt8} (h : canon l = true) : l.length = 1 ∨ 10 ^ (l.length - 1) ≤ val l := by
  unfold canon at h
  simp only [Bool.and_eq_true] at h
  obtain ⟨⟨hne, hh⟩, ha⟩ := h
  cases l with
  | nil => simp at hne
  | cons a t =>
    cases t with
    | nil => left; rfl
    | cons b r =>
      right
      simp at hh
      simp only [List.all_cons, Bool.and_eq_true] at ha
      have h1 := head_pos (l := []) ha.1 hh
      have h2 := val_app [a] (b :: r)
      have h3 : val [a] * 10 ^ (b :: r).length ≥ 10 ^ (b :: r).length := Nat.le_mul_of_pos_left _ (by omega)
      simpa using Nat.le_trans h3 h2
/-- A numeral without a leading zero whose value is below 10 ^ n has at most n bytes. -/
theorem canon_short {l : List UInt8} (n : Nat) (hn : 1 ≤ n) (h : canon l = true) (hv : val l < 10 ^ n) : l.length ≤ n := by
  rcases canon_length h with h1 | h1
  · omega
  · have : l.length - 1 < n := (Nat.pow_lt_pow_iff_right (by omega : 1 < 10)).1 (Nat.lt_of_le_of_lt h1 hv)
    omega
theorem numOk_dec {M u : Nat} (h : u ≤ M) : numOk M (dec u) = true := by simp [numOk, canon_dec, val_dec, h]
theorem dec_length {u : Nat} (n : Nat) (hn : 1 ≤ n) (h : u < 10 ^ n) : (dec u).length ≤ n := canon_short n hn (canon_dec u) (by rw [val_dec]; exact h)
theorem dgt_eq (d : Nat) : dgt d = 48 + UInt8.ofNat d := by unfold dgt; simp
theorem dec_len64 {u : Nat} (h : u ≤ 18446744073709551615) : (dec u).length ≤ 20 := dec_length 20 (by omega) (by omega)
theorem numOk_pref {M : Nat} {l : List UInt8} (hne : l ≠ []) (hh : l.length = 1 ∨ l.head? ≠ some 48) : numOk M l = pref M l := by
  have h1 : l.isEmpty = false := by cases l with | nil => exact absurd rfl hne | cons a t => rfl
  have h2 : (decide (l.length = 1) || decide (l.head? ≠ some 48)) = true := by simpa using hh
  unfold numOk canon pref
  rw [h1, h2]; rfl
theorem numOk_zero {M : Nat} {l : List UInt8} (h1 : 1 < l.length) (hh : l.head? = some 48) : numOk M l = false := by
  have h2 : (decide (l.length = 1) || decide (l.head? ≠ some 48)) = false := by simp [hh]; omega
  unfold numOk canon
  rw [h2]; simp
/-- What the parsers hand back. -/
def parse (M : Nat) (l : List UInt8) : Nat × Bool := if numOk M l = true then (val l, true) else (0, false)
theorem parse_no {M : Nat} {l : List UInt8} (h : numOk M l = false) : parse M l = (0, false) := by unfold parse; rw [if_neg (by rw [h]; simp)]
theorem parse_yes {M : Nat} {l : List UInt8} (h : numOk M l = true) : parse M l = (val l, true) := by unfold parse; rw [if_pos h]
theorem pref_no {M : Nat} {l : List UInt8} (h : pref M l = false) : numOk M l = false := by
  unfold numOk canon; unfold pref at h
  cases h1 : l.all isDig <;> simp_all
/-- The reference's test at the end: the numeral of the value is the text itself. -/
theorem numOk_back {M : Nat} {l : List UInt8} (hp : pref M l = true) : numOk M l = decide (dec (val l) = l) := by
  by_cases h : dec (val l) = l
  · have hc : canon l = true := by rw [← h]; exact canon_dec _
    simp only [pref, Bool.and_eq_true] at hp
    simp only [h, numOk, hc, hp.2]; simp
  · have hc : canon l = false := by
      cases hc : canon l with
      | false => rfl
      | true => exact absurd (dec_val l hc) h
    simp [numOk, hc, h]
theorem numOk_long {M : Nat} {l : List UInt8} (hM : M ≤ 18446744073709551615) (hl : 20 < l.length) : numOk M l = false := by
  cases h : numOk M l with
  | false => rfl
  | true =>
    simp only [numOk, Bool.and_eq_true, decide_eq_true_eq] at h
    have := canon_short 20 (by omega) h.1 (by omega)
    omega
theorem numOk_nil {M : Nat} : numOk M [] = false := by simp [numOk, canon]
/-- The digits that are still to come: none of 0. -/
def decZ (m : Nat) : List UInt8 := if m = 0 then [] else dec m
theorem decZ_zero : decZ 0 = [] := rfl
theorem decZ_pos {m : Nat} (h : 1 ≤ m) : decZ m = dec m := by unfold decZ; rw [if_neg (by omega)]
theorem decZ_step {m : Nat} (h : 1 ≤ m) : decZ m = decZ (m / 10) ++ [dgt (m % 10)] := by
  by_cases h9 : m ≤ 9
  · rw [decZ_pos h, dec_small h9, show m / 10 = 0 by omega, decZ_zero, show m % 10 = m by omega]; rfl
  · rw [decZ_pos h, decZ_pos (by omega), dec_big (by omega)]
end Go.Proofs.YtcnpdcmdnmfnaaaGreat.Num

/-
  A slice of one byte made a string.
-/
namespace Go.Proofs.YtcnpdcmdnmfnaaaGreat.Num
open Go.RowKit Go.Proofs

/-- string([]byte{x}). -/
theorem conv1 (w : World) (x : Int) : (convert 22 9 (.slice (some ⟨w.heap.size, 0, none⟩) 1 1)).run Tryz.prog (w.alloc (.cells #[.int .u8 x] 5)) = .ok (.string ⟨#[UInt8.ofNat x.toNat]⟩) (w.alloc (.cells #[.int .u8 x] 5)) :=
  run_convert_bytes_arg (P := Tryz.prog) _ 22 5 Tryz.underlying22 Tryz.underlying5 w.heap.size 0 1 1 [x] rfl (fun i hi => by
    obtain rfl : i = 0 := by omega
    rw [Nat.zero_add]; simp [World.cell?_alloc_mark]) 9 Tryz.underlying9

end Go.Proofs.YtcnpdcmdnmfnaaaGreat.Num

/-
  The walk of the laws' markText: the mark of a number; only new memory is written.
-/
namespace Go.Proofs.YtcnpdcmdnmfnaaaGreat.Num
open Go.RowKit Go.Proofs
set_option linter.unusedVariables false
attribute [local go_sem ↓] Go.wp_at_zero Go.wp_at_succ

def markB (k : Nat) : ByteArray := ⟨(109 :: dec k).toArray⟩
set_option maxHeartbeats 400000 in
theorem markText_any (k : Nat) (w : World) (h1 : 1 ≤ k) (h2 : k ≤ 9223372036854775807) :
    Calls Tryz.prog 43 #[.int .i64 k] w fun e w' => e = .returned (.string (markB k)) ∧ Below w.heap.size w w' := by
  have hcv := conv1
  have hdl : (dec k).length ≤ 20 := dec_len64 (by omega)
  have Hdl := Lib.hid hdl; clear hdl
  go_enter Tryz.func43, Tryz.ntmps43
  go_wp2_with fail
  go_loopw [0, 3] (fun x o wr => ∃ (v : Nat) (l : List UInt8), v ≤ k ∧ x = .int .i64 v ∧ o = .string ⟨l.toArray⟩ ∧ Hid (dec k = decZ v ++ l) ∧ Below w.heap.size w wr) (fun x _ _ => (intOf x).toNat)
  case atStart => exact ⟨k, [], Nat.le_refl _, rfl, rfl, Lib.hid (by rw [decZ_pos h1]; simp), Below.refl _ _⟩
  case round =>
    obtain ⟨v, l, hv, rfl, rfl, Hd, hb⟩ := hrel
    have hl : l.length ≤ 20 := by
      have h := Hdl.out
      rw [Hd.out, List.length_append] at h; omega
    by_cases hz : 0 < v
    · go_wp2_with fail
      go_roundw
      case rel =>
        refine ⟨v / 10, dgt (v % 10) :: l, by omega, by go_num, ?_, Lib.hid ?_, hb.alloc (hb.size) _⟩
        · rw [dgt_eq]; rfl
        · rw [Hd.out, decZ_step hz]; simp
      case measure => simp [intOf]; omega
    · have hv0 : v = 0 := by omega
      have Hv := Lib.hid hv0
      clear hv0
      go_wp2_with fail
      go_ret
      exact ⟨by unfold markB; rw [Hd.out, Hv.out, decZ_zero]; rfl, hb⟩
end Go.Proofs.YtcnpdcmdnmfnaaaGreat.Num

/-
  The walks of the laws' markEventS and heldEventS: a list of events of the call's own marked cell by cell, and found so again; no other block is written.
-/
namespace Go.Proofs.YtcnpdcmdnmfnaaaGreat.Num
open Go.RowKit Go.Proofs
set_option linter.unusedVariables false
set_option linter.unusedSimpArgs false

/-- What the j-th cell of a marked list of events holds, the marks counted from k. -/
def mev (k : Int) (j : Nat) : Value := if j % 7 = 2 then .int .u64 (k + (j : Int)) else if j % 7 = 4 then .string (markB (k + (j : Int)).toNat) else .int .i64 (k + (j : Int))
def MarkedE (w : World) (g : Nat) (k : Int) (m : Nat) : Prop := ∀ j, j < m → w.cell? ⟨g, j, none⟩ = some (mev k j)
theorem MarkedE.set {w : World} {g : Nat} {k : Int} {m : Nat} (h : MarkedE w g k m) (hx : ∃ v, w.cell? ⟨g, m, none⟩ = some v) : MarkedE (w.setCell ⟨g, m, none⟩ (mev k m)) g k (m + 1) := fun j hj => by
  by_cases e : m = j
  · subst e; obtain ⟨v, hv⟩ := hx; exact World.cell?_setCell_same _ _ _ hv
  · rw [World.cell?_setCell_other _ _ _ _ (by intro h; injection h with _ h; exact e h)]; exact h j (by omega)
theorem MarkedE.below {w w' : World} {g m B : Nat} {k : Int} (h : MarkedE w g k m) (hb : Below B w w') (hg : g < B) : MarkedE w' g k m := fun j hj => (hb.cell (p := ⟨g, j, none⟩) hg).trans (h j hj)
theorem mev0 (k : Int) (i : Nat) : mev k (i * 7) = .int .i64 (k + 7 * (i : Int)) := by unfold mev; rw [if_neg (by omega), if_neg (by omega)]; congr 1; push_cast; omega
theorem mev1 (k : Int) (i : Nat) : mev k (i * 7 + 1) = .int .i64 (k + 7 * (i : Int) + 1) := by unfold mev; rw [if_neg (by omega), if_neg (by omega)]; congr 1; push_cast; omega
theorem mev2 (k : Int) (i : Nat) : mev k (i * 7 + 2) = .int .u64 (k + 7 * (i : Int) + 1 + 1) := by unfold mev; rw [if_pos (by omega)]; congr 1; push_cast; omega
theorem mev3 (k : Int) (i : Nat) : mev k (i * 7 + 3) = .int .i64 (k + 7 * (i : Int) + 1 + 1 + 1) := by unfold mev; rw [if_neg (by omega), if_neg (by omega)]; congr 1; push_cast; omega
theorem mev4 (k : Int) (i : Nat) : mev k (i * 7 + 4) = .string (markB (k + 7 * (i : Int) + 1 + 1 + 1 + 1).toNat) := by unfold mev; rw [if_neg (by omega), if_pos (by omega)]; congr 3; push_cast; omega
theorem mev5 (k : Int) (i : Nat) : mev k (i * 7 + 5) = .int .i64 (k + 7 * (i : Int) + 1 + 1 + 1 + 1 + 1) := by unfold mev; rw [if_neg (by omega), if_neg (by omega)]; congr 1; push_cast; omega
theorem mev6 (k : Int) (i : Nat) : mev k (i * 7 + 6) = .int .i64 (k + 7 * (i : Int) + 1 + 1 + 1 + 1 + 1 + 1) := by unfold mev; rw [if_neg (by omega), if_neg (by omega)]; congr 1; push_cast; omega
theorem Fill.at {w : World} {g m j : Nat} (h : Fill w g m) (hj : j < m) : ∃ v, w.cell? ⟨g, j, none⟩ = some v ∧ w.frozen? ⟨g, j, none⟩ = false := by
  obtain ⟨⟨v, hv⟩, hf⟩ := h.2 j hj
  exact ⟨v, hv, hf⟩
theorem markText_int (k : Int) (w : World) (h1 : 1 ≤ k) (h2 : k ≤ 9223372036854775807) :
    Calls Tryz.prog 43 #[.int .i64 k] w fun e w' => e = .returned (.string (markB k.toNat)) ∧ Below w.heap.size w w' := by
  obtain ⟨n, rfl⟩ := Int.eq_ofNat_of_zero_le (show 0 ≤ k by omega)
  have h := markText_any n w (by omega) (by omega)
  simpa using h
set_option maxHeartbeats 8000000 in
theorem markEvs_any (g n cap : Nat) (k : Int) (w : World) (hf : Fill w g (n * 7)) (hn : n ≤ 4194304) (hk : 1 ≤ k ∧ k ≤ 1000000000000000) :
    Calls Tryz.prog 21 #[.slice (some ⟨g, 0, none⟩) n cap, .int .i64 k] w fun e w' => e = .returned (.int .i64 (k + 7 * (n : Int))) ∧ MarkedE w' g k (n * 7) ∧ Fill w' g (n * 7) ∧ w.grownBy w' (some g) := by
  have HF := Lib.hid hf
  clear hf
  go_enter Tryz.func21, Tryz.ntmps21
  go_wp2_with fail
  go_loopw [1, 5] (fun kk ii wr => ∃ i : Nat, i ≤ n ∧ kk = .int .i64 (k + 7 * (i : Int)) ∧ ii = .int .i64 i ∧ Hid (MarkedE wr g k (i * 7)) ∧ Hid (Fill wr g (n * 7)) ∧ Hid (w.grownBy wr (some g))) (fun _ ii _ => n - (intOf ii).toNat)
  case atStart => exact ⟨0, by omega, by simp, rfl, Lib.hid fun j hj => by omega, HF, Lib.hid ⟨rfl, rfl, rfl, Nat.le_refl _, fun _ _ _ => rfl⟩⟩
  case round =>
    obtain ⟨i, hi, rfl, rfl, hm, hf, hg⟩ := hrel
    by_cases hlt : i < n
    · have hlti : (i : Int) < (n : Int) := by omega
      have w1 : IntKind.i64.wrap (k + 7 * (i : Int) + 1) = k + 7 * (i : Int) + 1 := IntWalk.i64_in _ (by omega)
      have w2 : IntKind.i64.wrap (k + 7 * (i : Int) + 1 + 1) = k + 7 * (i : Int) + 1 + 1 := IntWalk.i64_in _ (by omega)
      have w3 : IntKind.i64.wrap (k + 7 * (i : Int) + 1 + 1 + 1) = k + 7 * (i : Int) + 1 + 1 + 1 := IntWalk.i64_in _ (by omega)
      have w4 : IntKind.i64.wrap (k + 7 * (i : Int) + 1 + 1 + 1 + 1) = k + 7 * (i : Int) + 1 + 1 + 1 + 1 := IntWalk.i64_in _ (by omega)
      have w5 : IntKind.i64.wrap (k + 7 * (i : Int) + 1 + 1 + 1 + 1 + 1) = k + 7 * (i : Int) + 1 + 1 + 1 + 1 + 1 := IntWalk.i64_in _ (by omega)
      have w6 : IntKind.i64.wrap (k + 7 * (i : Int) + 1 + 1 + 1 + 1 + 1 + 1) = k + 7 * (i : Int) + 1 + 1 + 1 + 1 + 1 + 1 := IntWalk.i64_in _ (by omega)
      have w7 : IntKind.i64.wrap (k + 7 * (i : Int) + 1 + 1 + 1 + 1 + 1 + 1 + 1) = k + 7 * (i : Int) + 1 + 1 + 1 + 1 + 1 + 1 + 1 := IntWalk.i64_in _ (by omega)
      have u2 : IntKind.u64.wrap (k + 7 * (i : Int) + 1 + 1) = k + 7 * (i : Int) + 1 + 1 := IntWalk.u64_in _ (by omega)
      have hkb : 1 ≤ k + 7 * (i : Int) + 1 + 1 + 1 + 1 ∧ k + 7 * (i : Int) + 1 + 1 + 1 + 1 ≤ 9223372036854775807 := by omega
      have HT := Lib.hid (markText_int (k + 7 * (i : Int) + 1 + 1 + 1 + 1) · hkb.1 hkb.2)
      have hknext : k + 7 * ((i + 1 : Nat) : Int) = k + 7 * (i : Int) + 1 + 1 + 1 + 1 + 1 + 1 + 1 := by push_cast; omega
      obtain ⟨v0, a0, b0⟩ := hf.out.at (j := i * 7) (by omega)
      obtain ⟨v1, a1, b1⟩ := hf.out.at (j := i * 7 + 1) (by omega)
      obtain ⟨v2, a2, b2⟩ := hf.out.at (j := i * 7 + 2) (by omega)
      obtain ⟨v3, a3, b3⟩ := hf.out.at (j := i * 7 + 3) (by omega)
      have F0 := hf.out
      have F1 := F0.set (i * 7) (mev k (i * 7))
      have F2 := F1.set (i * 7 + 1) (mev k (i * 7 + 1))
      have F3 := F2.set (i * 7 + 2) (mev k (i * 7 + 2))
      have F4 := Lib.hid (F3.set (i * 7 + 3) (mev k (i * 7 + 3)))
      have M4 := Lib.hid ((((hm.out.set (F0.2 _ (by omega)).1).set (F1.2 _ (by omega)).1).set (F2.2 _ (by omega)).1).set (F3.2 _ (by omega)).1)
      have G4 : Hid (w.grownBy ((((wr.setCell ⟨g, i * 7, none⟩ (mev k (i * 7))).setCell ⟨g, i * 7 + 1, none⟩ (mev k (i * 7 + 1))).setCell ⟨g, i * 7 + 2, none⟩ (mev k (i * 7 + 2))).setCell ⟨g, i * 7 + 3, none⟩ (mev k (i * 7 + 3))) (some g)) := Lib.hid (Only.setCell (Only.setCell (Only.setCell (Only.setCell hg.out _ _) _ _) _ _) _ _)
      rw [mev0, mev1, mev2, mev3] at F4 M4 G4
      clear F0 F1 F2 F3
      obtain ⟨K, hK⟩ : ∃ K : Int, k + 7 * (i : Int) = K := ⟨_, rfl⟩
      have hm4 := mev4 k i
      have hm5 := mev5 k i
      have hm6 := mev6 k i
      rw [hK] at w1 w2 w3 w4 w5 w6 w7 u2 HT F4 M4 G4 hknext hm4 hm5 hm6 ⊢
      clear hkb
      have Hk := Lib.hid hknext
      have Hm4 := Lib.hid hm4
      have Hm5 := Lib.hid hm5
      have Hm6 := Lib.hid hm6
      have HK := Lib.hid hK
      clear hK hknext hm4 hm5 hm6 hf hm hg
      go_upto_region 12 with fail
      generalize ((((wr.setCell ⟨g, i * 7, none⟩ (.int .i64 K)).setCell ⟨g, i * 7 + 1, none⟩ (.int .i64 (K + 1))).setCell ⟨g, i * 7 + 2, none⟩ (.int .u64 (K + 1 + 1))).setCell ⟨g, i * 7 + 3, none⟩ (.int .i64 (K + 1 + 1 + 1))) = wb at F4 M4 G4 ⊢
      go_wp2_with fail
      refine (HT.out _).mono ?_
      rintro _ w8 ⟨rfl, hb8⟩
      have hgb := F4.out.1
      have G5 : Hid (w.grownBy w8 (some g)) := Lib.hid (Only.trans G4.out ⟨hb8.os, hb8.tape, hb8.output, hb8.size, fun i hi _ => hb8.block i hi⟩)
      have M5 := Lib.hid (M4.out.below hb8 hgb)
      have F5 := Lib.hid (F4.out.below hb8 hgb)
      clear hb8 hgb F4 M4 G4 a0 b0 a1 b1 a2 b2 a3 b3
      obtain ⟨v4, a4, b4⟩ := F5.out.at (j := i * 7 + 4) (by omega)
      obtain ⟨v5, a5, b5⟩ := F5.out.at (j := i * 7 + 5) (by omega)
      obtain ⟨v6, a6, b6⟩ := F5.out.at (j := i * 7 + 6) (by omega)
      have F6 := F5.out.set (i * 7 + 4) (mev k (i * 7 + 4))
      have F7 := F6.set (i * 7 + 5) (mev k (i * 7 + 5))
      have F8 := Lib.hid (F7.set (i * 7 + 6) (mev k (i * 7 + 6)))
      have M8 := Lib.hid (((M5.out.set (F5.out.2 _ (by omega)).1).set (F6.2 _ (by omega)).1).set (F7.2 _ (by omega)).1)
      have G8 : Hid (w.grownBy (((w8.setCell ⟨g, i * 7 + 4, none⟩ (mev k (i * 7 + 4))).setCell ⟨g, i * 7 + 5, none⟩ (mev k (i * 7 + 5))).setCell ⟨g, i * 7 + 6, none⟩ (mev k (i * 7 + 6))) (some g)) := Lib.hid (Only.setCell (Only.setCell (Only.setCell G5.out _ _) _ _) _ _)
      rw [Hm4.out, Hm5.out, Hm6.out] at F8 M8 G8
      clear F6 F7 M5 F5 G5 Hm4 Hm5 Hm6
      generalize markB (K + 1 + 1 + 1 + 1).toNat = mt at F8 M8 G8 ⊢
      go_wp2_with fail
      refine ⟨⟨i + 1, by omega, by rw [Hk.out], by simp, ?_, F8, G8⟩, by simp [intOf]; omega⟩
      rw [show (i + 1) * 7 = i * 7 + 6 + 1 by omega]
      exact M8
    · have hge : (n : Int) ≤ (i : Int) := by omega
      have hend : decide (i < n) = false := decide_eq_false hlt
      obtain rfl : i = n := by omega
      go_wp2_with fail
      go_ret
      exact ⟨rfl, hm.out, hf.out, hg.out⟩
set_option maxHeartbeats 8000000 in
theorem heldEvs_any (g n cap : Nat) (k : Int) (w : World) (hg : g < w.heap.size) (hm : MarkedE w g k (n * 7)) (hn : n ≤ 4194304) (hk : 1 ≤ k ∧ k ≤ 1000000000000000) :
    Calls Tryz.prog 22 #[.slice (some ⟨g, 0, none⟩) n cap, .int .i64 k] w fun e w' => e = .returned (.int .i64 (k + 7 * (n : Int))) ∧ Below w.heap.size w w' := by
  have HM := Lib.hid hm
  clear hm
  go_enter Tryz.func22, Tryz.ntmps22
  go_wp2_with fail
  go_loopw [1, 5] (fun kk ii wr => ∃ i : Nat, i ≤ n ∧ kk = .int .i64 (k + 7 * (i : Int)) ∧ ii = .int .i64 i ∧ Below w.heap.size w wr) (fun _ ii _ => n - (intOf ii).toNat)
  case atStart => exact ⟨0, by omega, by simp, rfl, Below.refl _ _⟩
  case round =>
    obtain ⟨i, hi, rfl, rfl, hbr⟩ := hrel
    by_cases hlt : i < n
    · have hlti : (i : Int) < (n : Int) := by omega
      have hm2 := HM.out.below hbr hg
      have a0 := hm2 (i * 7) (by omega)
      have a1 := hm2 (i * 7 + 1) (by omega)
      have a2 := hm2 (i * 7 + 2) (by omega)
      have a3 := hm2 (i * 7 + 3) (by omega)
      have hm2' := Lib.hid hm2
      rw [mev0] at a0
      rw [mev1] at a1
      rw [mev2] at a2
      rw [mev3] at a3
      have w1 : IntKind.i64.wrap (k + 7 * (i : Int) + 1) = k + 7 * (i : Int) + 1 := IntWalk.i64_in _ (by omega)
      have w2 : IntKind.i64.wrap (k + 7 * (i : Int) + 1 + 1) = k + 7 * (i : Int) + 1 + 1 := IntWalk.i64_in _ (by omega)
      have w3 : IntKind.i64.wrap (k + 7 * (i : Int) + 1 + 1 + 1) = k + 7 * (i : Int) + 1 + 1 + 1 := IntWalk.i64_in _ (by omega)
      have w4 : IntKind.i64.wrap (k + 7 * (i : Int) + 1 + 1 + 1 + 1) = k + 7 * (i : Int) + 1 + 1 + 1 + 1 := IntWalk.i64_in _ (by omega)
      have w5 : IntKind.i64.wrap (k + 7 * (i : Int) + 1 + 1 + 1 + 1 + 1) = k + 7 * (i : Int) + 1 + 1 + 1 + 1 + 1 := IntWalk.i64_in _ (by omega)
      have w6 : IntKind.i64.wrap (k + 7 * (i : Int) + 1 + 1 + 1 + 1 + 1 + 1) = k + 7 * (i : Int) + 1 + 1 + 1 + 1 + 1 + 1 := IntWalk.i64_in _ (by omega)
      have w7 : IntKind.i64.wrap (k + 7 * (i : Int) + 1 + 1 + 1 + 1 + 1 + 1 + 1) = k + 7 * (i : Int) + 1 + 1 + 1 + 1 + 1 + 1 + 1 := IntWalk.i64_in _ (by omega)
      have u2 : IntKind.u64.wrap (k + 7 * (i : Int) + 1 + 1) = k + 7 * (i : Int) + 1 + 1 := IntWalk.u64_in _ (by omega)
      have hkb : 1 ≤ k + 7 * (i : Int) + 1 + 1 + 1 + 1 ∧ k + 7 * (i : Int) + 1 + 1 + 1 + 1 ≤ 9223372036854775807 := by omega
      have HT := Lib.hid (markText_int (k + 7 * (i : Int) + 1 + 1 + 1 + 1) · hkb.1 hkb.2)
      have hknext : k + 7 * ((i + 1 : Nat) : Int) = k + 7 * (i : Int) + 1 + 1 + 1 + 1 + 1 + 1 + 1 := by push_cast; omega
      obtain ⟨K, hK⟩ : ∃ K : Int, k + 7 * (i : Int) = K := ⟨_, rfl⟩
      have hm4 := mev4 k i
      have hm5 := mev5 k i
      have hm6 := mev6 k i
      rw [hK] at w1 w2 w3 w4 w5 w6 w7 u2 HT hknext hm4 hm5 hm6 a0 a1 a2 a3 ⊢
      have Hk := Lib.hid hknext
      have Hm4 := Lib.hid hm4
      have Hm5 := Lib.hid hm5
      have Hm6 := Lib.hid hm6
      have hgr : g < wr.heap.size := Nat.lt_of_lt_of_le hg hbr.size
      clear hK hknext hm4 hm5 hm6 hkb hm2
      have a4 := (hm2'.out) (i * 7 + 4) (by omega)
      rw [Hm4.out] at a4
      generalize markB (K + 1 + 1 + 1 + 1).toNat = mt at HT a4 Hm4 ⊢
      go_wp2_with fail
      go_region_with (go_at_call 43; refine (HT.out _).mono ?_; rintro _ w8 ⟨rfl, hb8⟩; have a4' := (hb8.cell (p := ⟨g, i * 7 + 4, none⟩) hgr).trans a4)
      all_goals
        have hm8 := Lib.hid ((show MarkedE wr.drew g k (n * 7) from hm2'.out).below hb8 hgr)
        have a5 := hm8.out (i * 7 + 5) (by omega)
        have a6 := hm8.out (i * 7 + 6) (by omega)
        rw [Hm5.out] at a5
        rw [Hm6.out] at a6
        have hl8 : Below w.heap.size w w8 := hbr.drew.trans (hb8.mono hbr.size)
        clear hb8 hm8 a0 a1 a2 a3 a4 a4'
        go_wp2_with fail
        go_roundw
        case rel => exact ⟨i + 1, by omega, by rw [Hk.out], by simp, hl8⟩
        case measure => simp [intOf]; omega
    · have hge : (n : Int) ≤ (i : Int) := by omega
      have hend : decide (i < n) = false := decide_eq_false hlt
      obtain rfl : i = n := by omega
      go_wp2_with fail
      go_ret
      exact ⟨rfl, hbr⟩
end Go.Proofs.YtcnpdcmdnmfnaaaGreat.Num

/-
  A list of events of the call's own, nil or in a block of its own: marked and found again by the laws' markEventS and heldEventS; blocks below it stay.
-/
namespace Go.Proofs.YtcnpdcmdnmfnaaaGreat.Num
open Go.RowKit Go.Proofs
set_option linter.unusedVariables false

def MarkedO (w : World) (v : Value) (n : Nat) : Prop := (v = .slice none 0 0 ∧ n = 0) ∨ ∃ g cap, v = .slice (some ⟨g, 0, none⟩) n cap ∧ g < w.heap.size ∧ MarkedE w g 1 (n * 7)
theorem MarkedO.below {w w' : World} {v : Value} {n : Nat} (h : MarkedO w v n) (hb : Below w.heap.size w w') : MarkedO w' v n := by
  rcases h with h | ⟨g, cap, h1, h2, h3⟩
  · exact .inl h
  · exact .inr ⟨g, cap, h1, Nat.lt_of_lt_of_le h2 hb.size, h3.below hb h2⟩
theorem grown_below {w w' : World} {B g : Nat} (h : w.grownBy w' (some g)) (hg : B ≤ g) (hB : B ≤ w.heap.size) : Below B w w' := Only.below h hg hB
theorem EvsAt.under {w w' : World} {B : Nat} {v : Value} {l : List Ev} (h : EvsAt w (· < B) v l) (hb : Below B w w') : EvsAt w' (· < B) v l := h.below hb fun _ h => h
theorem markEvs_nil (w : World) : Calls Tryz.prog 21 #[.slice none 0 0, .int .i64 1] w fun e w' => e = .returned (.int .i64 1) ∧ w = w' := by
  go_enter Tryz.func21, Tryz.ntmps21
  go_wp2_with fail
  refine wp_loop_rounds 1 ?_
  rw [rounds_succ]
  go_wp2_with fail
  go_ret
  exact ⟨rfl, rfl⟩
theorem heldEvs_nil (w : World) : Calls Tryz.prog 22 #[.slice none 0 0, .int .i64 1] w fun e w' => e = .returned (.int .i64 1) ∧ w = w' := by
  go_enter Tryz.func22, Tryz.ntmps22
  go_wp2_with fail
  refine wp_loop_rounds 1 ?_
  rw [rounds_succ]
  go_wp2_with fail
  go_ret
  exact ⟨rfl, rfl⟩
theorem markOwn_any {B : Nat} {T : TypeId} {v : Value} {l : List Ev} (w : World) (h : OwnE w B T v l) (hB : B ≤ w.heap.size) (hl : l.length ≤ 4194304) :
    Calls Tryz.prog 21 #[v, .int .i64 1] w fun e w' => e = .returned (.int .i64 (1 + 7 * (l.length : Int))) ∧ MarkedO w' v l.length ∧ Below B w w' := by
  rcases h.form with ⟨rfl, rfl⟩ | ⟨g, cap, rfl, hg, hlt, hf⟩
  · exact (markEvs_nil w).mono fun e w' ⟨he, hw⟩ => ⟨by rw [he]; rfl, .inl ⟨rfl, rfl⟩, by subst hw; exact Below.refl _ _⟩
  · exact (markEvs_any g l.length cap 1 w hf hl (by omega)).mono fun e w' ⟨he, hm, hf', hgr⟩ => ⟨he, .inr ⟨g, cap, rfl, hf'.1, hm⟩, grown_below hgr hg hB⟩
theorem heldOwn_any {v : Value} {n : Nat} (w : World) (h : MarkedO w v n) (hl : n ≤ 4194304) :
    Calls Tryz.prog 22 #[v, .int .i64 1] w fun e w' => e = .returned (.int .i64 (1 + 7 * (n : Int))) ∧ Below w.heap.size w w' := by
  rcases h with ⟨rfl, rfl⟩ | ⟨g, cap, rfl, hg, hm⟩
  · exact (heldEvs_nil w).mono fun e w' ⟨he, hw⟩ => ⟨by rw [he]; rfl, by subst hw; exact Below.refl _ _⟩
  · exact heldEvs_any g n cap 1 w hg hm hl (by omega)
end Go.Proofs.YtcnpdcmdnmfnaaaGreat.Num

/-
  The arguments of a call that wrote new memory only read again as they did, whatever their types.
-/
namespace Go.Proofs.YtcnpdcmdnmfnaaaGreat.Num
open Go.RowKit Go.Proofs

theorem kids : Kids Tryz.prog (· < Tryz.prog.types.size) := kids_rows (by kernel_rfl) (by kernel_rfl)
theorem full : ∀ t e, t < Tryz.prog.types.size → Tryz.prog.underlying t = some (.slice e) → 0 < Tryz.prog.cellsOf e := slices_full_of Tryz.prog (by kernel_rfl)
section
variable {H : Type} {enc : TypeId × Value → H} {P : Program} {w w' : World} {base : Nat} {spare : Nat → Bool} {held : Bool}
theorem carryAll : ∀ {ts : List TypeId} {vs : List Value} {ds : List (DataW H)} {ps : List MemPlace}, DataW.TrodAll enc P w base spare held ts vs ds ps → (∀ p ∈ ps, w.sameAt w' p) → DataW.TrodAll enc P w' base spare held ts vs ds ps
  | [], [], [], _, h, _ => h
  | _ :: _, _ :: _, _ :: _, _, ⟨p, q, ⟨n, hn⟩, h2, e⟩, hs => ⟨p, q, ⟨n, DataW.trod_carry n _ _ _ hn fun x hx => hs x (by rw [e]; exact List.mem_append_left _ hx)⟩, carryAll h2 (fun x hx => hs x (by rw [e]; exact List.mem_append_right _ hx)), e⟩
end
theorem args_again {H : Type} {enc : TypeId × Value → H} {W W' : World} {ts : List TypeId} {vs : List Value} {ds : List (DataW H)} {ps : List MemPlace} (hts : ∀ t ∈ ts, t < Tryz.prog.types.size)
    (h : DataW.TrodAll enc Tryz.prog W 0 (fun _ => true) true ts vs ds ps) (hb : Below W.heap.size W W') : DataW.TrodAll enc Tryz.prog W' 0 (fun b => decide (b < W.heap.size)) true ts vs ds ps :=
  carryAll (DataW.TrodAll.respare kids full hts h fun p hp => by simpa using h.lt p hp) fun p hp => hb.same (h.lt p hp)
end Go.Proofs.YtcnpdcmdnmfnaaaGreat.Num
