/-
  The walk of the reference's l12Tell: one more event is told.
-/
import Derived.Test.YtcnpdcmdnmfnaaaGreatMsgVar
import Derived.Test.YtcnpdcmdnmfnaaaGreatToEv
import Derived.Test.YtcnpdcmdnmfnaaaGreatRawBase
import Derived.Deep.AppendLies
import Derived.Deep.RegionWith
import Derived.Deep.RegionLaw
namespace Go.Proofs.YtcnpdcmdnmfnaaaGreat.Num
open Go.RowKit Go.Proofs
set_option linter.unusedVariables false
theorem Box.sevenT {w : World} {g : Nat} {a b c d e f h : Value} (hx : Box w g [a, b, c, d, e, f, h]) : (w.cell? ⟨g, 0, none⟩ = some a ∧ w.cell? ⟨g, 1, none⟩ = some b ∧ w.cell? ⟨g, 2, none⟩ = some c ∧ w.cell? ⟨g, 3, none⟩ = some d ∧ w.cell? ⟨g, 4, none⟩ = some e ∧ w.cell? ⟨g, 5, none⟩ = some f ∧ w.cell? ⟨g, 6, none⟩ = some h) ∧ True :=
  ⟨⟨(hx.2 0 (by simp)).1, (hx.2 1 (by simp)).1, (hx.2 2 (by simp)).1, (hx.2 3 (by simp)).1, (hx.2 4 (by simp)).1, (hx.2 5 (by simp)).1, (hx.2 6 (by simp)).1⟩, trivial⟩
/-- The reader's block while what it told is being written: all but what was told. -/
structure RdAt2 (w : World) (g : Nat) (u : Value) (sch : List RM) (A B C : Int) (s : ByteArray) (o : Value) (r : RdM) : Prop where
  box : Box w g ([u, .int .i64 A, .int .i64 B, .int .i64 C, .string s, .int .i64 r.place, o] ++ evC r.fail)
  msgs : MsgsAt w (· < g) u sch
  place : r.place ≤ s.size
theorem RdAt2.of {w w' : World} {g : Nat} {u : Value} {sch : List RM} {A B C : Int} {s : ByteArray} {o : Value} {r : RdM} (h : RdAt w g u sch A B C s o r) (hg : w.grownBy w' o.ownBlock) : RdAt2 w' g u sch A B C s o r := by
  have hb : Below (g + 1) w w' := (Below.refl (g + 1) w).grown hg h.box.lt fun k hk => (h.out.lt k hk).1
  exact ⟨h.box.below hb (Nat.lt_succ_self g), h.msgs.keep (.of_below hb fun b hb' => Nat.lt_succ_of_lt hb') fun _ h => h, h.place⟩
theorem RdAt.drew {w : World} {g : Nat} {u : Value} {sch : List RM} {A B C : Int} {s : ByteArray} {o : Value} {r : RdM} (h : RdAt w g u sch A B C s o r) : RdAt w.drew g u sch A B C s o r := ⟨h.box, h.out, h.msgs, h.place⟩
theorem RdAt2.told {w : World} {g cap g' : Nat} {u : Value} {sch : List RM} {A B C : Int} {s : ByteArray} {o : Value} {r : RdM} {x : Ev} (h : RdAt2 w g u sch A B C s o r)
    (ho : w.ownsRow (g + 1) 34 7 (.slice (some ⟨g', 0, none⟩) (r.out.length + 1) cap) (r.out.length + 1) (r.out.flatMap evC ++ evC x)) :
    RdAt (w.setCell ⟨g, 6, none⟩ (.slice (some ⟨g', 0, none⟩) (r.out.length + 1) cap)) g u sch A B C s (.slice (some ⟨g', 0, none⟩) (r.out.length + 1) cap) (r.tell x) := by
  refine ⟨?_, ?_, h.msgs.keep (.of_set _ (Nat.lt_irrefl g)) fun _ h => h, h.place⟩
  · have := h.box.set 6 (.slice (some ⟨g', 0, none⟩) (r.out.length + 1) cap)
    exact this
  · have h' : OwnE w (g + 1) 34 (.slice (some ⟨g', 0, none⟩) (r.out.length + 1) cap) (r.out ++ [x]) := by unfold OwnE; rw [List.length_append, flat_snoc]; exact ho
    exact h'.other (p := ⟨g, 6, none⟩) (Nat.lt_succ_self g) _
theorem Moved.grown {w w2 : World} {g n g' c : Nat} {o : Value} {ob : Obj} (h : (w.alloc ob).drew.grownBy w2 o.ownBlock) (ho : o.ownBlock = some g' ∨ g' = w.heap.size + 1) : Moved g o (.slice (some ⟨g', 0, none⟩) n c) w w2 := by
  have ha : Below w.heap.size w (w.alloc ob).drew := ((Below.refl _ _).alloc (Nat.le_refl _) _).drew
  refine ⟨h.os.trans ha.os, h.tape.trans ha.tape, h.output.trans ha.output, Nat.le_trans ha.size h.size, fun k hk hn hk' => (h.block k (Nat.lt_of_lt_of_le hk ha.size) fun e => hk' e.symm).trans (ha.block k hk), fun k hk => ?_⟩
  have e : g' = k := by simpa [Value.ownBlock] using hk
  subst e
  rcases ho with h1 | h1
  · exact .inl h1
  · exact .inr (by omega)
theorem RdAt2.out6 {w : World} {g : Nat} {u : Value} {sch : List RM} {A B C : Int} {s : ByteArray} {o : Value} {r : RdM} (h : RdAt2 w g u sch A B C s o r) : w.cell? ⟨g, 6, none⟩ = some o ∧ w.frozen? ⟨g, 6, none⟩ = false := ⟨(h.box.2 6 (by simp)).1, (h.box.2 6 (by simp)).2⟩
set_option maxHeartbeats 2000000 in
theorem l12Tell_any (g : Nat) (u : Value) (sch : List RM) (A B C : Int) (s : ByteArray) (o : Value) (r : RdM) (x : Ev) (w : World) (h : RdAt w g u sch A B C s o r) (hn : r.out.length ≤ 1048576000) :
    Calls Tryz.prog 95 #[.pointer (some ⟨g, 0, none⟩), evV x] w fun e w' => e = .returned (.tuple #[]) ∧ ∃ o', RdAt w' g u sch A B C s o' (r.tell x) ∧ Moved g o o' w w' := by
  obtain ⟨i0, hi, hz0, hz1, hz2⟩ := info_parts info_event
  obtain ⟨k, f, b, l, t, c, p⟩ := x
  unfold evV
  simp only
  have hg := h.lt
  obtain ⟨w1, hw1⟩ : ∃ w1, w.alloc (.cells #[.int .i64 k, .int .i64 f, .int .u64 b, .int .i64 l, .string t, .int .i64 c, .int .i64 p] 34) = w1 := ⟨_, rfl⟩
  have hl1 : Below w.heap.size w w1 := hw1 ▸ (Below.refl _ _).alloc (Nat.le_refl _) _
  have hx1 : Box w1 w.heap.size [.int .i64 k, .int .i64 f, .int .u64 b, .int .i64 l, .string t, .int .i64 c, .int .i64 p] := hw1 ▸ Box.fresh w #[.int .i64 k, .int .i64 f, .int .u64 b, .int .i64 l, .string t, .int .i64 c, .int .i64 p] _
  have hsz1 : w1.heap.size = w.heap.size + 1 := by rw [← hw1]; simp
  have H1 := Lib.hid (h.below hl1)
  have hl1g : Moved g o o w w1 := .of_below hl1
  have Hg := Lib.hid hg
  have hgz : g < w1.heap.size := by omega
  go_enter Tryz.func95, Tryz.ntmps95
  go_wp2_with fail
  generalize w.heap.size = gx at hx1 ⊢
  clear hw1 h hl1 hsz1 hg
  obtain ⟨⟨c0, c1, c2, c3, c4, c5, c6, c7, c8, c9, c10, c11, c12, c13⟩, f5, f6, f7, f8, f9, f10, f11, f12, f13⟩ := H1.out.box.at7
  obtain ⟨⟨e0, e1, e2, e3, e4, e5, e6⟩, _⟩ := Box.sevenT hx1
  have hown : w1.ownsRow (g + 1) 34 7 o r.out.length (r.out.flatMap evC) := H1.out.out
  have hnew : (w1.alloc (.cells #[.int .i64 k, .int .i64 f, .int .u64 b, .int .i64 l, .string t, .int .i64 c, .int .i64 p] 34)).heap[w1.heap.size]? = some (.cells #[.int .i64 k, .int .i64 f, .int .u64 b, .int .i64 l, .string t, .int .i64 c, .int .i64 p] 34 (0, 0)) := heap_alloc_new _ _
  have hRd : RdAt (w1.alloc (.cells #[.int .i64 k, .int .i64 f, .int .u64 b, .int .i64 l, .string t, .int .i64 c, .int .i64 p] 34)) g u sch A B C s o r := H1.out.below ((Below.refl _ _).alloc (Nat.le_refl _) _)
  go_region_law (refine step_append_lies _ (by rfl) _ _ 31 (by rfl) (g + 1) 34 i0 _ 7 64 Tryz.underlying31 hi hz0 hz1 hz2 (by rfl) (by omega) o _ _ (by rfl) (World.ownsRow.alloc hown _) ⟨w1.heap.size, 0, none⟩ 1 1 (evC ⟨k, f, b, l, t, c, p⟩) (by rfl) (by rfl) (fun j u hj => World.news_of_block hnew j u hj) (by intro u hu; simp [evC] at hu; rcases hu with rfl | rfl | rfl | rfl | rfl | rfl | rfl <;> rfl) (by omega) (by unfold maxLen; omega) (by omega) (by simp; omega) (w1.heap.size + 1) (by simp) ?_; intro g' cap' w2 hown2 hg2 hor2 hlt2; have hx2 : Hid (RdAt2 w2 g u sch A B C s o r) := Lib.hid (by first | exact RdAt2.of hRd.drew hg2 | exact RdAt2.of hRd hg2); have hb2 : Hid (Moved g o (.slice (some ⟨g', 0, none⟩) (r.out.length + 1) cap') w1 w2) := Lib.hid (Moved.grown hg2 hor2); obtain ⟨c6', f6'⟩ := RdAt2.out6 hx2.out)
  all_goals
    go_wp2_with fail
    go_end0
    exact ⟨rfl, _, RdAt2.told hx2.out hown2, (hl1g.trans hb2.out).setCell Hg.out _ _⟩
end Go.Proofs.YtcnpdcmdnmfnaaaGreat.Num
