/-
  A slice of strings that can be read and is cut from the front, and the walk of the program's takeWord: whether the first word is the one asked for, and the words behind it; nothing is written.
-/
import Derived.Test.YtcbohfncckpolaaDoorStrs
import Derived.Test.YtcbohfncckpolaaDoorDraw
import Derived.Test.YtcbohfncckpolaaDoorTextParse
import Derived.WalkLawsBesides
import Derived.WalkSpells
import Derived.BigQuiet
namespace Go.Proofs.YtcbohfncckpolaaDoor.Num
open Go.RowKit Go.Proofs
set_option linter.unusedVariables false
set_option linter.unusedSimpArgs false

/-- The slice reads as the strings ss; its block lies below D. -/
def SlS (w : World) (D : Nat) (p : Option Addr) (n cap : Nat) (ss : List (List UInt8)) : Prop :=
  ss.length = n ∧ n ≤ cap ∧ (n = 0 ∨ ∃ b o, p = some ⟨b, o, none⟩ ∧ b < D ∧ ∀ j (h : j < ss.length), w.cell? ⟨b, o + j, none⟩ = some (.string ⟨ss[j].toArray⟩))
section
variable {w w' : World} {D : Nat} {p : Option Addr} {n cap : Nat} {ss : List (List UInt8)}
theorem SlS.below (h : SlS w D p n cap ss) (hb : Below D w w') : SlS w' D p n cap ss := by
  refine ⟨h.1, h.2.1, ?_⟩
  rcases h.2.2 with h0 | ⟨b, o, hp, hlt, hc⟩
  · exact .inl h0
  · exact .inr ⟨b, o, hp, hlt, fun j hj => (hb.cell (p := ⟨b, o + j, none⟩) hlt).trans (hc j hj)⟩
theorem SlS.drew (h : SlS w D p n cap ss) : SlS w.drew D p n cap ss := h
theorem SlS.set (h : SlS w D p n cap ss) {a : Addr} (ha : D ≤ a.block) (v : Value) : SlS (w.setCell a v) D p n cap ss := by
  refine ⟨h.1, h.2.1, ?_⟩
  rcases h.2.2 with h0 | ⟨b, o, hp, hlt, hc⟩
  · exact .inl h0
  · exact .inr ⟨b, o, hp, hlt, fun j hj => by rw [World.cell?_setCell_other _ _ _ _ (by rintro rfl; simp at ha; omega)]; exact hc j hj⟩
theorem SlS.mono {D' : Nat} (h : SlS w D p n cap ss) (hD : D ≤ D') : SlS w D' p n cap ss := by
  refine ⟨h.1, h.2.1, ?_⟩
  rcases h.2.2 with h0 | ⟨b, o, hp, hlt, hc⟩
  · exact .inl h0
  · exact .inr ⟨b, o, hp, by omega, hc⟩
/-- Where the slice lies, if it is not empty, and its cells. -/
theorem SlS.cells (h : SlS w D p n cap ss) (h0 : 0 < n) : ∃ b o, p = some ⟨b, o, none⟩ ∧ b < D ∧ ∀ j (h : j < ss.length), w.cell? ⟨b, o + j, none⟩ = some (.string ⟨ss[j].toArray⟩) := by
  rcases h.2.2 with h | h
  · omega
  · exact h
/-- The rest of it from the k-th on. -/
theorem SlS.from (h : SlS w D p n cap ss) (k : Nat) (hk : k ≤ n) : SlS w D (if cap = k then p else p.map (·.add (k * 1))) (n - k) (cap - k) (ss.drop k) := by
  obtain ⟨h1, h2, h3⟩ := h
  refine ⟨by simp [h1], by omega, ?_⟩
  by_cases hn : n - k = 0
  · exact .inl hn
  rcases h3 with h3 | ⟨b, o, rfl, hlt, hc⟩
  · exact .inl (by omega)
  · right
    rw [if_neg (by omega)]
    refine ⟨b, o + k, ?_, hlt, fun j hj => ?_⟩
    · have ha : (⟨b, o, none⟩ : Addr).add (k * 1) = ⟨b, o + k, none⟩ := by
        unfold Addr.add
        split
        · next e => simp at e; subst e; rfl
        · simp
      show some ((⟨b, o, none⟩ : Addr).add (k * 1)) = _
      rw [ha]
    · rw [List.length_drop] at hj
      have := hc (k + j) (by omega)
      rw [List.getElem_drop, Nat.add_assoc]
      exact this
end
theorem run_from (p : Option Addr) (n cap k : Nat) (hk : k ≤ n) (h63 : n ≤ 9223372036854775807) (w : World) :
    (Instr.slice 52 (.slice p n cap) (some (.int .i64 (k : Int))) none none).run Tryd.prog w = .ok (.slice (if cap = k then p else p.map (·.add (k * 1))) (n - k) (cap - k)) w := by
  have hk' : (k : Int) ≤ (n : Int) := by omega
  have hsz : (sizeOf 9).run Tryd.prog w = .ok 1 w := by kernel_rfl
  have hel : Tryd.prog.elem 52 = 9 := by kernel_rfl
  rw [run_slice_any w 52 p n cap (by rw [hel]; exact Tryd.underlying52)]
  rw [hel]
  simp [Instr.sliceBounds, go_sem, hk', hsz, Result.andThen, sliced]
theorem takeWord_none (p : Option Addr) (cap : Nat) (word : ByteArray) (w : World) :
    Calls Tryd.prog 55 #[.slice p 0 cap, .string word] w fun e w' => e = .returned (.tuple #[.bool false, .slice p 0 cap]) ∧ w = w' := by
  go_enter Tryd.func55, Tryd.ntmps55
  go_wp2_with fail
  go_ret2
  exact ⟨rfl, rfl⟩
theorem takeWord_miss (D : Nat) (p : Option Addr) (n cap : Nat) (ss : List (List UInt8)) (x : List UInt8) (word : ByteArray) (w : World) (h : SlS w D p n cap (x :: ss)) (hn : n ≤ 1048577) (hx : x ≠ word.data.toList) :
    Calls Tryd.prog 55 #[.slice p n cap, .string word] w fun e w' => e = .returned (.tuple #[.bool false, .slice p n cap]) ∧ w = w' := by
  have hn1 : 0 < n := by have := h.1; simp at this; omega
  obtain ⟨b, o, rfl, hlt, hc⟩ := h.cells hn1
  have hc0 := hc 0 (by simp)
  simp only [List.getElem_cons_zero, Nat.add_zero] at hc0
  obtain ⟨s, hs⟩ : ∃ s : ByteArray, s = ⟨x.toArray⟩ := ⟨_, rfl⟩
  rw [← hs] at hc0
  have ht : (s.toList == word.toList) = false := by
    rw [beq_eq_false_iff_ne]
    intro e
    apply hx
    rw [ByteArray.toList_eq, ByteArray.toList_eq, hs] at e
    simpa using e
  have hn1i : (0 : Int) < (n : Int) := by omega
  clear hc h hs hx
  go_enter Tryd.func55, Tryd.ntmps55
  go_wp2_with fail
  go_ret2
  exact ⟨rfl, rfl⟩
set_option maxHeartbeats 1000000 in
theorem takeWord_hit (D : Nat) (p : Option Addr) (n cap : Nat) (ss : List (List UInt8)) (word : ByteArray) (w : World) (h : SlS w D p n cap (word.data.toList :: ss)) (hn : n ≤ 1048577) :
    Calls Tryd.prog 55 #[.slice p n cap, .string word] w fun e w' => ∃ p' n' cap', e = .returned (.tuple #[.bool true, .slice p' n' cap']) ∧ n' ≤ n ∧ SlS w' D p' n' cap' ss ∧ Below w.heap.size w w' := by
  have hn1 : 0 < n := by have := h.1; simp at this; omega
  have hf := h.from 1 hn1
  have hcap := h.2.1
  rw [show List.drop 1 (word.data.toList :: ss) = ss from rfl] at hf
  obtain ⟨b, o, rfl, hlt, hc⟩ := h.cells hn1
  have ha : (⟨b, o, none⟩ : Addr).add (1 * 1) = ⟨b, o + 1, none⟩ := rfl
  have hc0 := hc 0 (by simp)
  simp only [List.getElem_cons_zero, Nat.add_zero] at hc0
  have ht : (word.toList == word.toList) = true := by simp
  have hw : (⟨word.data.toList.toArray⟩ : ByteArray) = word := by simp
  rw [hw] at hc0
  have hn1i : (0 : Int) < (n : Int) := by omega
  clear hc h hw
  by_cases hc1 : cap = 1
  · subst hc1
    obtain rfl : n = 1 := by omega
    rw [if_pos rfl] at hf
    have Hf := Lib.hid hf
    clear hf ha
    go_enter Tryd.func55, Tryd.ntmps55
    go_wp2_with fail
    go_quiet (fail)
    go_wp2_with fail
    go_ret2
    exact ⟨_, 0, 0, rfl, by omega, Hf.out, below_drewN (Below.refl _ _) _⟩
  · rw [if_neg hc1, show (some (⟨b, o, none⟩ : Addr)).map (·.add (1 * 1)) = some ⟨b, o + 1, none⟩ from rfl] at hf
    have Hf := Lib.hid hf
    have hc2 : cap - 1 ≠ 0 := by omega
    clear hf ha
    go_enter Tryd.func55, Tryd.ntmps55
    go_wp2_with fail
    go_quiet (fail)
    go_wp2_with fail
    go_ret2
    exact ⟨_, n - 1, cap - 1, rfl, by omega, Hf.out, below_drewN (Below.refl _ _) _⟩
/-- takeWord, whatever the words are: as takeR has it. -/
theorem takeWord_any (D : Nat) (p : Option Addr) (n cap : Nat) (ss : List (List UInt8)) (word : ByteArray) (w : World) (h : SlS w D p n cap ss) (hn : n ≤ 1048577) :
    Calls Tryd.prog 55 #[.slice p n cap, .string word] w fun e w' => ∃ p' n' cap', e = .returned (.tuple #[.bool (takeR word.data.toList ss).1, .slice p' n' cap']) ∧ n' ≤ 1048577 ∧ SlS w' D p' n' cap' (takeR word.data.toList ss).2 ∧ Below w.heap.size w w' := by
  cases ss with
  | nil =>
    obtain rfl : n = 0 := by have := h.1; simpa using this.symm
    exact (takeWord_none p cap word w).mono fun e w' ⟨he, hb⟩ => ⟨p, 0, cap, he, by omega, hb ▸ h, hb ▸ Below.refl _ _⟩
  | cons x ss =>
    by_cases hx : x = word.data.toList
    · subst hx
      refine (takeWord_hit D p n cap ss word w h hn).mono fun e w' ⟨p', n', c', he, hn', hs, hb⟩ => ?_
      have ht : takeR word.data.toList (word.data.toList :: ss) = (true, ss) := by simp [takeR]
      rw [ht]
      exact ⟨p', n', c', he, by omega, hs, hb⟩
    · refine (takeWord_miss D p n cap ss x word w h hn hx).mono fun e w' ⟨he, hb⟩ => ?_
      have ht : takeR word.data.toList (x :: ss) = (false, x :: ss) := by simp [takeR, hx]
      rw [ht]
      exact ⟨p, n, cap, he, hn, hb ▸ h, hb ▸ Below.refl _ _⟩
end Go.Proofs.YtcbohfncckpolaaDoor.Num
