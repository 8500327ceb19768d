/-
  The walks of spec.Parts and impl.Parts: both give the parts between the bytes, in new memory; nothing that was there is written.
-/
import Derived.Test.YtcbohfncckpolaaGreatDoorStrs
import Derived.Test.YtcbohfncckpolaaGreatDoorPartsMath
import Derived.Test.YtcbohfncckpolaaGreatDoorShelf
import Derived.Test.YtcbohfncckpolaaGreatDoorLong
namespace Go.Proofs.YtcbohfncckpolaaGreatDoor.Num
open Go.RowKit Go.Proofs

theorem info_str : (Tryz.prog.info? 9).map (fun i => (i.zero, i.size, i.bytes)) = some (some (.string ⟨#[]⟩), 1, 16) := by kernel_rfl
def strL (P : List ByteArray) : List (List UInt8) := P.map (fun s => s.data.toList)
theorem pieceData (s : ByteArray) (f k : Nat) : (s.extract f k).data.toList = (s.data.toList.drop f).take (k - f) := by rw [Go.Lib.extract_data]
/-- What Parts gives: the parts, in the call's own memory. -/
def PartsP (s : ByteArray) (b : UInt8) (w : World) (e : Ending) (w' : World) : Prop :=
  ∃ v P, e = .returned v ∧ strL P = partsF b s.data.toList ∧ w'.ownsRow w.heap.size 9 1 v P.length (P.map Value.string) ∧ Below w.heap.size w w'

set_option maxHeartbeats 800000 in
theorem specParts_any (s : ByteArray) (b : UInt8) (w : World) (hs : s.size ≤ 1048576) :
    Calls Tryz.prog 26 #[.string s, .int .u8 b.toNat] w (PartsP s b w) := by
  obtain ⟨i0, hi, hz0, hz1, hz2⟩ := info_parts info_str
  have hll : s.data.toList.length = s.size := by simp
  have Hll := Lib.hid hll; clear hll
  go_enter Tryz.func26, Tryz.ntmps26
  go_wp2_with fail
  go_loopw [5, 6, 7] (fun v x y wr => ∃ (k f : Nat) (P : List ByteArray), k ≤ s.size + 1 ∧ f ≤ k ∧ y = .int .i64 k ∧ x = .int .i64 f ∧ Hid (k ≤ s.size → PAt b s.data.toList (strL P) f k) ∧ Hid (s.size < k → strL P = partsF b s.data.toList) ∧
      P.length ≤ k ∧ Hid (wr.ownsRow w.heap.size 9 1 v P.length (P.map Value.string)) ∧ Below w.heap.size w wr) (fun _ _ y _ => s.size + 1 - (intOf y).toNat)
  case atStart => exact ⟨0, 0, [], Nat.zero_le _, Nat.le_refl _, rfl, rfl, Lib.hid (fun _ => pAt_zero _ _), Lib.hid (fun h => by omega), Nat.le_refl _, Lib.hid (World.ownsRow_lit w #[] 0 (Nat.le_refl _) (Nat.zero_le _) rfl), (Below.refl _ _).alloc (Nat.le_refl _) _⟩
  case round =>
    obtain ⟨k, f, P, hk, hf, rfl, rfl, hat, hend, hPl, hown, hb⟩ := hrel
    have hsz := hb.size
    by_cases hle : k ≤ s.size
    · by_cases heq : k = s.size
      · have hkk : ((k : Int) == (s.size : Int)) = true := by rw [beq_iff_eq]; omega
        have Hfin : Hid (strL (P ++ [s.extract f k]) = partsF b s.data.toList) := Lib.hid (by
          rw [pAt_end (hat.out hle) (by rw [Hll.out]; omega)]
          unfold strL
          rw [List.map_append, List.map_singleton, pieceData])
        have hkle : (k : Int) ≤ (s.size : Int) := by omega
        have Heq := Lib.hid heq
        clear heq
        go_wp2_with (at_builtin; refine wpList_appV rfl _ _ 39 rfl w.heap.size 9 i0 (.string ⟨#[]⟩) 1 16 Tryz.underlying39 hi hz0 hz1 hz2 rfl (by decide) u5 P.length _ rfl (hown.out.alloc _) wr.heap.size _ (0, 0) (heap_alloc_new _ _) 1 1 rfl rfl (by simp [Value.oneCell']) (by omega) (by unfold maxLen; omega) (by simp; omega) ?_; intro v' w1 hown1 hb1)
        have hown2 : Hid (w1.ownsRow w.heap.size 9 1 v' (P ++ [s.extract f k]).length ((P ++ [s.extract f k]).map Value.string)) := Lib.hid (by rw [List.length_append, List.map_append]; exact hown1)
        clear hown1
        go_roundw
        case rel =>
          exact ⟨k + 1, k + 1, _, by omega, Nat.le_refl _, by go_num, by go_num, Lib.hid (fun h => by have := Heq.out; omega), Lib.hid (fun _ => Hfin.out), by rw [List.length_append, List.length_singleton]; omega, hown2, (hb.alloc hsz _).trans hb1⟩
        case measure => simp [intOf]; omega
      · have hlt : k < s.size := by omega
        have hkk : ((k : Int) == (s.size : Int)) = false := by rw [beq_eq_false_iff_ne]; omega
        have hkle : (k : Int) ≤ (s.size : Int) := by omega
        have hgk : Hid (s.data.toList[k]'(by simpa using hlt) = s[k]) := Lib.hid rfl
        clear heq
        by_cases hc : s[k] = b
        · have Hcut : Hid (PAt b s.data.toList (strL (P ++ [s.extract f k])) (k + 1) (k + 1)) := Lib.hid (by
            have h := pAt_cut (hat.out hle) (by simpa using hlt) (by rw [hgk.out]; exact hc)
            unfold strL
            rw [List.map_append, List.map_singleton, pieceData]
            exact h)
          have hcb : ((s[k].toNat : Int) == (b.toNat : Int)) = true := by rw [hc, beq_self_eq_true]
          clear hc
          go_wp2_with (at_builtin; refine wpList_appV rfl _ _ 39 rfl w.heap.size 9 i0 (.string ⟨#[]⟩) 1 16 Tryz.underlying39 hi hz0 hz1 hz2 rfl (by decide) u5 P.length _ rfl (hown.out.alloc _) wr.heap.size _ (0, 0) (heap_alloc_new _ _) 1 1 rfl rfl (by simp [Value.oneCell']) (by omega) (by unfold maxLen; omega) (by simp; omega) ?_; intro v' w1 hown1 hb1)
          have hown2 : Hid (w1.ownsRow w.heap.size 9 1 v' (P ++ [s.extract f k]).length ((P ++ [s.extract f k]).map Value.string)) := Lib.hid (by rw [List.length_append, List.map_append]; exact hown1)
          clear hown1
          go_roundw
          case rel =>
            exact ⟨k + 1, k + 1, _, by omega, Nat.le_refl _, by go_num, by go_num, Lib.hid (fun _ => Hcut.out), Lib.hid (fun h => by omega), by rw [List.length_append, List.length_singleton]; omega, hown2, (hb.alloc hsz _).trans hb1⟩
          case measure => simp [intOf]; omega
        · have Hkeep : Hid (PAt b s.data.toList (strL P) f (k + 1)) := Lib.hid (pAt_keep (hat.out hle) hf (by simpa using hlt) (by rw [hgk.out]; exact hc))
          have hcb : ((s[k].toNat : Int) == (b.toNat : Int)) = false := by rw [beq_eq_false_iff_ne]; intro h; apply hc; apply UInt8.toNat.inj; omega
          clear hc
          go_wp2_with fail
          go_roundw
          case rel => exact ⟨k + 1, f, P, by omega, by omega, by go_num, rfl, Lib.hid (fun _ => Hkeep.out), Lib.hid (fun h => by omega), by omega, hown, hb⟩
          case measure => simp [intOf]; omega
    · go_wp2_with fail
      go_ret
      exact ⟨_, P, rfl, hend.out (by omega), hown.out, hb⟩
theorem shaped_below {P : Program} {w w' : World} (h : w.ShapedOpen P) (hb : Below w.heap.size w w') : w'.ShapedOpen P := h.keptBut (hb.frame (fun _ => False)) (fun _ h => h.elim)
theorem implParts_any (s : ByteArray) (b : UInt8) (w : World) (hs : s.size ≤ 1048576) (hsh : w.ShapedOpen Tryz.prog) :
    Calls Tryz.prog 44 #[.string s, .int .u8 b.toNat] w (PartsP s b w) := by
  have hcv := conv1
  have Hsh : Hid ((w.alloc (.cells #[.int .u8 b.toNat] 5)).ShapedOpen Tryz.prog) := Lib.hid (shaped_below hsh ((Below.refl _ _).alloc (Nat.le_refl _) _))
  have hn : (Go.Lib.splitB ⟨#[b]⟩ 0 (Go.Lib.countB s ⟨#[b]⟩) s).length = Go.Lib.countB s ⟨#[b]⟩ + 1 := Go.Lib.splitB_all ⟨#[b]⟩ (Nat.le_refl 1) 0 _ s rfl
  have hd : strL (Go.Lib.splitB ⟨#[b]⟩ 0 (Go.Lib.countB s ⟨#[b]⟩) s) = partsF b s.data.toList := by
    unfold strL
    rw [Go.Lib.splitB_data]
    exact split_parts b s.data.toList
  have Hn := Lib.hid hn; clear hn
  have Hd := Lib.hid hd; clear hd
  clear hsh
  go_enter Tryz.func44, Tryz.ntmps44
  go_wp2_with fail
  refine (Tryz.strings_Split_shaped s ⟨#[b]⟩ _ Hsh.out (by omega) (Nat.le_refl 1)).mono ?_
  rintro e w1 ⟨rfl, rfl⟩
  go_wp2_with fail
  go_ret
  refine ⟨_, Go.Lib.splitB ⟨#[b]⟩ 0 (Go.Lib.countB s ⟨#[b]⟩) s, rfl, Hd.out, ?_, ((Below.refl _ _).alloc (Nat.le_refl _) _).alloc (by simp) _⟩
  have hmx : Go.Lib.countB s ⟨#[b]⟩ + 1 ≤ maxLen := by
    have h1 := Hn.out
    have h2 := partsF_length b s.data.toList
    have h3 := congrArg List.length Hd.out
    unfold strL at h3
    rw [List.length_map] at h3
    have h4 : s.data.toList.length = s.size := by simp
    unfold maxLen
    omega
  rw [Hn.out]
  have h := World.ownsRow_lit (base := w.heap.size) (e := 9) (size := 1) (w.alloc (.cells #[.int .u8 b.toNat] 5)) ((Go.Lib.splitB ⟨#[b]⟩ 0 (Go.Lib.countB s ⟨#[b]⟩) s).map Value.string).toArray (Go.Lib.countB s ⟨#[b]⟩ + 1) (by simp) hmx (by simp [Hn.out])
  simpa using h
end Go.Proofs.YtcbohfncckpolaaGreatDoor.Num
