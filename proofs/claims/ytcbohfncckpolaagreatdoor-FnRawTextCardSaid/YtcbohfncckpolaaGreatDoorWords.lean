/-
  Words in a slice of the call's own: one appended, all joined by strings.Join; only new memory is written.
-/
import Derived.Test.YtcbohfncckpolaaGreatDoorStrs
import Derived.Test.YtcbohfncckpolaaGreatDoorPartsMath
import Derived.Test.YtcbohfncckpolaaGreatDoorShelf
import Derived.Test.YtcbohfncckpolaaGreatDoorBox
namespace Go.Proofs.YtcbohfncckpolaaGreatDoor.Num
open Go.RowKit Go.Proofs
set_option linter.unusedVariables false
set_option linter.unusedSimpArgs false

theorem info_strW : (Tryz.prog.info? 9).map (fun i => (i.zero, i.size, i.bytes)) = some (some (.string ⟨#[]⟩), 1, 16) := by kernel_rfl
theorem info_partsW {z : Value} {n b : Nat} {t : TypeId} (h : (Tryz.prog.info? t).map (fun i => (i.zero, i.size, i.bytes)) = some (some z, n, b)) : ∃ i, Tryz.prog.info? t = some i ∧ i.zero = some z ∧ i.size = n ∧ i.bytes = b := by
  obtain ⟨i, hi, e⟩ := Option.map_eq_some_iff.1 h
  injection e with e1 e2
  injection e2 with e2 e3
  exact ⟨i, hi, e1, e2, e3⟩
/-- The words ws in an own slice v, made behind the block of w's size, which still holds vs; below, all is as it was. -/
def Words (w wx : World) (vs : List Value) (v : Value) (ws : List ByteArray) : Prop :=
  Box wx w.heap.size vs ∧ Below w.heap.size w wx ∧ w.heap.size + 1 ≤ wx.heap.size ∧ wx.ownsRow (w.heap.size + 1) 9 1 v ws.length (ws.map Value.string)
section
variable {w wx : World} {vs : List Value} {v : Value} {ws : List ByteArray}
theorem Words.box (h : Words w wx vs v ws) : Box wx w.heap.size vs := h.1
theorem Words.all {w' : World} (h : Words w wx vs v ws) (hb : Below wx.heap.size wx w') : Words w w' vs v ws := by
  obtain ⟨h1, h2, h3, h4⟩ := h
  refine ⟨h1.below hb h1.lt, h2.trans (hb.mono h2.size), Nat.le_trans h3 hb.size, ?_⟩
  obtain ⟨l, h5⟩ := h4
  refine ⟨l, ?_⟩
  rcases h5 with h5 | ⟨g, cap, cur, e, a, b, c⟩
  · exact .inl h5
  · refine .inr ⟨g, cap, cur, e, a, ?_, c⟩
    have hg : g < wx.heap.size := (Array.getElem?_eq_some_iff.1 b).1
    rw [hb.block g hg]; exact b
/-- Two words laid at once. -/
theorem Words.two {a b : ByteArray} (h1 : Box wx w.heap.size vs) (h2 : Below w.heap.size w wx) (h3 : w.heap.size + 1 ≤ wx.heap.size) : Words w (wx.alloc (.cells #[.string a, .string b] 9)) vs (.slice (some ⟨wx.heap.size, 0, none⟩) 2 2) [a, b] :=
  ⟨h1.alloc _, h2.alloc h2.size _, by simp; omega, World.ownsRow_lit wx #[.string a, .string b] 2 h3 (by decide) rfl⟩
/-- A word appended, at the list of a plain region's operations. -/
theorem wpList_word {ops : Array Oper} {rest : List Oper} {o : Oper} {a : Act} {Q : Exit → Act → World → Prop} (hgd : o.guard = none) (s x : Operand)
    (ho : o.op = .call { callee := .builtin .append, args := #[s, x], argTypes := #[39, 39] }) (h : Words w wx vs v ws) (hs : a.eval s = v) (t : ByteArray) (hx : a.eval x = .slice (some ⟨wx.heap.size, 0, none⟩) 1 1) (hn : ws.length ≤ 1048576)
    (hK : ∀ v' w', Words w w' vs v' (ws ++ [t]) → wpList Tryz.prog ops Q rest (a.put o.dst v') w') : wpList Tryz.prog ops Q (o :: rest) a (wx.alloc (.cells #[.string t] 9)) := by
  obtain ⟨i0, hi, hz0, hz1, hz2⟩ := info_partsW info_strW
  obtain ⟨h1, h2, h3, h4⟩ := h
  refine wpList_appV hgd s x 39 ho (w.heap.size + 1) 9 i0 (.string ⟨#[]⟩) 1 16 Tryz.underlying39 hi hz0 hz1 hz2 rfl (by decide) v ws.length _ hs (h4.alloc _) wx.heap.size _ (0, 0) (heap_alloc_new _ _) 1 1 hx rfl (by simp [Value.oneCell']) (by omega) (by unfold maxLen; omega) (by simp; omega) ?_
  intro v' w' hown hb
  refine hK v' w' ⟨(h1.alloc _).below hb (by omega), ?_, ?_, ?_⟩
  · exact (h2.alloc h2.size _).trans (hb.mono (by omega))
  · have := hb.size; simp at this; omega
  · rw [List.length_append, List.map_append]; exact hown
theorem joinTail_joinF (b : UInt8) (t : List (List UInt8)) (h : List UInt8) : Lib.join (h :: t) [b] = joinF b h t := by
  rw [Lib.join_cons]
  unfold joinF Lib.joinTail
  congr 1
/-- All words joined at a byte: an own row of any base. -/
theorem joinRow_any {B : Nat} {t : ByteArray} (b : UInt8) (h : wx.ownsRow B 9 1 v (t :: ws).length ((t :: ws).map Value.string)) (hlen : (joinF b t.data.toList (ws.map (·.data.toList))).length ≤ 1048576) (hw : ws.length ≤ 1048576) :
    Calls Tryz.prog 20 #[v, .string ⟨#[b]⟩] wx fun e w' => e = .returned (.string ⟨(joinF b t.data.toList (ws.map (·.data.toList))).toArray⟩) ∧ Below wx.heap.size wx w' := by
  obtain ⟨l, h5⟩ := h
  rcases h5 with ⟨_, h0⟩ | ⟨g, cap, cur, rfl, hB, hg, hc, hcm, hcs, hcur⟩
  · simp at h0
  · have hown : wx.ownsRow B 9 1 (.slice (some ⟨g, 0, none⟩) (t :: ws).length cap) (t :: ws).length ((t :: ws).map Value.string) := ⟨l, .inr ⟨g, cap, cur, rfl, hB, hg, hc, hcm, hcs, hcur⟩⟩
    have hJ : Lib.join ((t :: ws).map (·.data.toList)) (ByteArray.mk #[b]).data.toList = joinF b t.data.toList (ws.map (·.data.toList)) := by
      rw [List.map_cons]; exact joinTail_joinF b _ _
    have hc' := Tryz.strings_Join g 0 cap (t :: ws) ⟨#[b]⟩ wx (fun j x hx => by
      have hj : j < (t :: ws).length := (List.getElem?_eq_some_iff.1 hx).1
      rw [Nat.zero_add, World.ownsRow.cellAt hown j (by omega), List.getElem?_map, hx]; rfl) (Array.getElem?_eq_some_iff.1 hg).1 (by simp; omega) hc (by rw [hJ]; omega)
    rw [hJ] at hc'
    exact hc'
end
end Go.Proofs.YtcbohfncckpolaaGreatDoor.Num
