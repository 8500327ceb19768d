/-
  The walks of the reference's PutVar, VarLen, PadVar and GetVar: they give what the plain lemmas on varints say; only new memory is written.
-/
import Derived.Test.YtpkofbdfnbpfpaaOwnM
import Derived.Test.YtpkofbdfnbpfpaaIn
import Derived.Test.YtpkofbdfnbpfpaaVarMath
import Derived.Test.YtpkofbdfnbpfpaaProg
import Derived.WalkLawsBesides
import Derived.WalkSpells
import Derived.LoopTactic
namespace Go.Proofs.Ytpkofbdfnbpfpaa.Num
open Go.RowKit Go.Proofs

theorem info_u8v : (Try.prog.info? 5).map (fun i => (i.zero, i.size, i.bytes)) = some (some (.int .u8 0), 1, 1) := by kernel_rfl
def varS (u : Nat) : ByteArray := ⟨(Var.put u).toArray⟩
set_option maxHeartbeats 800000 in
theorem specPutVar_any (u : Nat) (w : World) (hu : u ≤ 18446744073709551615) :
    Calls Try.prog 6 #[.int .u64 u] w fun e w' => e = .returned (.string (varS u)) ∧ Below w.heap.size w w' := by
  obtain ⟨i0, hi, hz0, hz1, hz2⟩ := info_parts info_u8v
  go_enter Try.func6, Try.ntmps6
  go_wp2_with fail
  go_loopw [0, 3] (fun x v wr => ∃ (k : Nat) (l : List UInt8), x = .int .u64 k ∧ k ≤ 18446744073709551615 ∧ OwnB wr w.heap.size 5 v l ∧ Hid (Var.put u = l ++ Var.put k) ∧ l.length ≤ 10 ∧ Below w.heap.size w wr) (fun x _ _ => (intOf x).toNat)
  case atStart => exact ⟨u, [], rfl, hu, OwnB.empty (Nat.le_refl _), Lib.hid rfl, by simp, (Below.refl _ _).alloc (Nat.le_refl _) _⟩
  case round =>
    obtain ⟨k, l, rfl, hk, hown, hput, hl, hb⟩ := hrel
    have hsz := hb.size
    by_cases hlt : (127 : Int) < k
    · have hw : IntKind.u8.wrap ((k : Int) % 128 + 128) = (k : Int) % 128 + 128 := IntWalk.u8_in _ (by omega)
      have hbv : [Value.int .u8 ((k : Int) % 128 + 128)] = [Var.by' (k % 128 + 128)].map byteV := by simp only [List.map_cons, List.map_nil, byteV]; rw [Var.by_toNat (by omega)]; rfl
      have Hbv := Lib.hid hbv; clear hbv
      go_wp2_with (at_builtin; refine wpList_appB rfl _ _ 26 rfl w.heap.size 5 i0 Try.underlying26 hi hz0 hz1 hz2 _ l rfl (hown.alloc _) wr.heap.size _ (0, 0) (heap_alloc_new _ _) 1 1 rfl _ Hbv.out rfl (by omega) (by omega) (by simp; omega) ?_; intro v' w2 hown2 hb2)
      have Hp : Hid (Var.put u = (l ++ [Var.by' (k % 128 + 128)]) ++ Var.put (k / 128)) := Lib.hid (by rw [hput.out, Var.put_big (by omega), List.append_assoc]; rfl)
      have hl2 : (l ++ [Var.by' (k % 128 + 128)]).length ≤ 10 := by
        have := congrArg List.length Hp.out
        rw [Var.put_length, List.length_append] at this
        have := Var.varLen_64 hu
        omega
      have Hl2 := Lib.hid hl2; clear hl2
      have hb3 : Below w.heap.size wr w2 := ((Below.refl _ _).alloc hsz _).trans hb2
      go_wp2_with fail
      go_roundw
      case rel => exact ⟨k / 128, _, by go_num, by omega, hown2, Hp, Hl2.out, hb.trans hb3⟩
      case measure => simp [intOf]; omega
    · have hw : IntKind.u8.wrap (k : Int) = (k : Int) := IntWalk.u8_in _ (by omega)
      have hbv : [Value.int .u8 (k : Int)] = [Var.by' k].map byteV := by simp only [List.map_cons, List.map_nil, byteV]; rw [Var.by_toNat (by omega)]
      have Hbv := Lib.hid hbv; clear hbv
      have Hp : Hid (Var.put u = l ++ [Var.by' k]) := Lib.hid (by rw [hput.out, Var.put_small (by omega)])
      go_wp2_with (at_builtin; refine wpList_appB rfl _ _ 26 rfl w.heap.size 5 i0 Try.underlying26 hi hz0 hz1 hz2 _ l rfl (hown.alloc _) wr.heap.size _ (0, 0) (heap_alloc_new _ _) 1 1 rfl _ Hbv.out rfl (by omega) (by omega) (by simp; omega) ?_; intro v' w2 hown2 hb2; have hcv := run_convB (P := Try.prog) 26 9 Try.underlying26 Try.underlying5 Try.underlying9 hown2)
      have hb3 : Below w.heap.size wr w2 := ((Below.refl _ _).alloc hsz _).trans hb2
      go_wp2_with fail
      go_ret
      exact ⟨by unfold varS; rw [Hp.out]; rfl, hb.trans hb3⟩
/-- u in n bytes, or nothing. -/
def padS (u : Nat) (n : Int) : ByteArray := if (Var.varLen u : Int) ≤ n ∧ n ≤ 10 then ⟨(Var.enc n.toNat u).toArray⟩ else ⟨#[]⟩
theorem spoilF' {w : World} {b k n : Nat} {C : Array Value} {T : TypeId} (h : w.heap[b]? = some (.cells C T (n, n + 1))) (hk : k < n) : w.frozen? ⟨b, k, none⟩ = false := by
  simp [World.frozen?, h]; omega
def lenV : Value → Nat
  | .slice _ n _ => n
  | _ => 0
theorem strOwn (w : World) (l : List UInt8) : ∃ v w', (convert 9 26 (.string ⟨l.toArray⟩)).run Try.prog w = .ok v w' ∧ OwnM w' w.heap.size v l ∧ Below w.heap.size w w' := by
  have h := run_bytes_of_string (P := Try.prog) w 9 26 5 ⟨l.toArray⟩ Try.underlying9 Try.underlying26 Try.underlying5
  have hsz : (ByteArray.mk l.toArray).size = l.length := by simp [ByteArray.size]
  have hcap : l.length ≤ grownCap w l.length 0 5 := grownCap_ge _ _ _ _
  rw [hsz] at h
  generalize grownCap w l.length 0 5 = cap at h hcap
  have hrow : (bytesRow ⟨l.toArray⟩ cap).size = cap := by simp [bytesRow, ByteArray.size]; omega
  rw [hrow] at h
  refine ⟨_, _, h, OwnM.of_cells (heap_alloc_new w.drew _) (Nat.le_refl _) hcap (by rw [hrow]; exact Nat.le_refl _) (fun j hj => ?_) (fun j hj => ?_), ((Below.refl w.heap.size w).alloc (Nat.le_refl _) _).drew⟩
  · have hj2 : j < l.toArray.size := by simpa using hj
    simp only [bytesRow, Array.getElem?_append, Array.size_map, Array.getElem?_map]
    rw [if_pos hj2, Array.getElem?_eq_getElem hj2]
    simp [byteV]
  · exact spoilF' (heap_alloc_new w.drew _) hj
end Go.Proofs.Ytpkofbdfnbpfpaa.Num
