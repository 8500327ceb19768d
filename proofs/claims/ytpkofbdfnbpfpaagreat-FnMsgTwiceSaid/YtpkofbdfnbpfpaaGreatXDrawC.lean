/-
  Several texts in one: CompMath Put PushWith SetMsg CompOwn Comp.
-/
import Derived.Test.YtpkofbdfnbpfpaaGreatRaw
import Derived.Test.YtpkofbdfnbpfpaaGreatCodes
import Derived.Test.YtpkofbdfnbpfpaaGreatRound
import Derived.Test.YtpkofbdfnbpfpaaGreatXSpecB
import Derived.Deep.QuietTactic
import Derived.Deep.RegionLaw
import Derived.BigQuiet
import Derived.LoopTactic
import Derived.Deep.DeepCutAuto
import Derived.OwnWalk
import Derived.Test.YtpkofbdfnbpfpaaGreatOwnRead
import Derived.Below
import Derived.Test.YtpkofbdfnbpfpaaGreatFirst
import Derived.Test.YtpkofbdfnbpfpaaGreatZone
import Derived.Deep.RegionHeld3

/-
  Compiling, as the reference does it, told by plain lists: ranks of Ids, fields put in order, shapes put in their places. For any program.
-/
namespace Go.Proofs.YtpkofbdfnbpfpaaGreat.Num
set_option linter.unusedVariables false
set_option linter.unusedSimpArgs false

/-- How many messages have a lesser Id. -/
def rankR (r : List RM) (id : Int) : Nat := (r.filter fun m => decide (m.1 < id)).length
/-- A field put into its place among fields in order. -/
def putR (l : List RF) (f : RF) : List RF := l.takeWhile (fun g => decide (g.1 < f.1)) ++ f :: l.dropWhile (fun g => decide (g.1 < f.1))
def compF (r : List RM) (f : RF) : RF := (f.1, f.2.1, f.2.2.1, f.2.2.2.1, if f.2.1 = 8 then (rankR r f.2.2.2.2 : Int) else -1)
def compFs (r : List RM) (l : List RF) : List RF := l.foldl (fun acc f => putR acc (compF r f)) []
def compStep (r : List RM) (acc : List RM) (m : RM) : List RM := acc.set (rankR r m.1) (m.1, compFs r m.2)
def compileR (r : List RM) : List RM := r.foldl (compStep r) (List.replicate r.length (0, []))
theorem rank_take (r : List RM) (id : Int) (k : Nat) (hk : k < r.length) : ((r.take (k + 1)).filter fun m => decide (m.1 < id)).length = ((r.take k).filter fun m => decide (m.1 < id)).length + (if r[k].1 < id then 1 else 0) := by
  rw [List.take_succ_eq_append_getElem hk, List.filter_append, List.length_append]
  by_cases h : r[k].1 < id
  · simp [h]
  · simp [h]
theorem rank_lt {r : List RM} {k : Nat} (hk : k < r.length) : rankR r r[k].1 < r.length := by
  unfold rankR
  rcases Nat.lt_or_ge (r.filter fun m => decide (m.1 < r[k].1)).length r.length with h | h
  · exact h
  · exfalso
    have he : (r.filter fun m => decide (m.1 < r[k].1)).length = r.length := Nat.le_antisymm (List.length_filter_le ..) h
    have := (List.length_filter_eq_length_iff.1 he) r[k] (List.getElem_mem hk)
    simp at this
theorem putR_len (l : List RF) (f : RF) : (putR l f).length = l.length + 1 := by
  unfold putR
  have := congrArg List.length (List.takeWhile_append_dropWhile (p := fun g : RF => decide (g.1 < f.1)) (l := l))
  rw [List.length_append] at this
  simp only [List.length_append, List.length_cons]
  omega
theorem foldPut_len (r : List RM) : ∀ (l : List RF) (acc : List RF), (l.foldl (fun acc f => putR acc (compF r f)) acc).length = acc.length + l.length
  | [], acc => by simp
  | f :: l, acc => by rw [List.foldl_cons, foldPut_len r l, putR_len, List.length_cons]; omega
theorem compFs_len (r : List RM) (l : List RF) : (compFs r l).length = l.length := by unfold compFs; rw [foldPut_len]; simp
theorem foldStep_len (r : List RM) : ∀ (l : List RM) (acc : List RM), (l.foldl (compStep r) acc).length = acc.length
  | [], acc => rfl
  | m :: l, acc => by rw [List.foldl_cons, foldStep_len r l]; simp [compStep]
theorem compileR_len (r : List RM) : (compileR r).length = r.length := by unfold compileR; rw [foldStep_len]; simp
theorem fold_take {α β : Type} (f : β → α → β) (l : List α) (b : β) (k : Nat) (hk : k < l.length) : (l.take (k + 1)).foldl f b = f ((l.take k).foldl f b) l[k] := by
  rw [List.take_succ_eq_append_getElem hk, List.foldl_append]; rfl
/-- Where a field is put: behind the k first ones, all lesser, ahead of the k-th, which is not. -/
theorem putR_at (l : List RF) (f : RF) (k : Nat) (hk : k ≤ l.length) (hlt : ∀ j (hj : j < l.length), j < k → l[j].1 < f.1) (hge : ∀ h : k < l.length, ¬ l[k].1 < f.1) : putR l f = l.take k ++ f :: l.drop k := by
  unfold putR
  have h1 : l.takeWhile (fun g => decide (g.1 < f.1)) = l.take k ∧ l.dropWhile (fun g => decide (g.1 < f.1)) = l.drop k := by
    induction l generalizing k with
    | nil => simp
    | cons a l ih =>
      cases k with
      | zero =>
        have := hge (by simp)
        simp only [List.getElem_cons_zero] at this
        simp [List.takeWhile_cons, List.dropWhile_cons, this]
      | succ k =>
        have h0 := hlt 0 (by simp) (by omega)
        simp only [List.getElem_cons_zero] at h0
        have hi := ih k (by simpa using hk) (fun j hj hjk => by have := hlt (j + 1) (by simpa using hj) (by omega); simpa using this) (fun h => by have := hge (by simpa using h); simpa using this)
        simp [List.takeWhile_cons, List.dropWhile_cons, h0, hi.1, hi.2]
  rw [h1.1, h1.2]
end Go.Proofs.YtpkofbdfnbpfpaaGreat.Num


/-
  The walks of the reference's l8Rank and l8Put: how many messages have a lesser Id; a field put into its place in a new row; only new memory is written.
-/
namespace Go.Proofs.YtpkofbdfnbpfpaaGreat.Num
open Go.RowKit Go.Proofs
set_option linter.unusedVariables false
set_option linter.unusedSimpArgs false


set_option maxHeartbeats 1000000 in
theorem l8Rank_any (v : Value) (r : List RM) (id : Int) (w : World) (h : RawAt w (· < w.heap.size) v r) (hr : r.length ≤ 1048576) :
    Calls Tryz.prog 153 #[v, .int .i64 id] w fun e w' => e = .returned (.int .i64 (rankR r id)) ∧ Below w.heap.size w w' := by
  obtain ⟨u, rfl, hu⟩ := h
  obtain ⟨a, cap, rfl⟩ := hu.len
  have H := Lib.hid hu
  clear hu
  go_enter Tryz.func153, Tryz.ntmps153
  go_wp2_with fail
  go_loopw [5, 6] (fun nn i wr => ∃ k c : Nat, k ≤ r.length ∧ Hid (c = ((r.take k).filter fun m => decide (m.1 < id)).length) ∧ nn = .int .i64 c ∧ i = .int .i64 k ∧ c ≤ k ∧ Hid (Box wr w.heap.size [.slice a r.length cap]) ∧ Below w.heap.size w wr) (fun _ i _ => r.length - (intOf i).toNat)
  case atStart => exact ⟨0, 0, by omega, Lib.hid (by simp), rfl, rfl, by omega, Lib.hid (Box.fresh _ _ _), (Below.refl _ _).alloc (Nat.le_refl _) _⟩
  case round =>
    obtain ⟨k, c, hk, hc, rfl, rfl, hck, hbx, hbr⟩ := hrel
    obtain ⟨c0, f0⟩ := hbx.out.one
    by_cases hlt : k < r.length
    · have hlti : (k : Int) < (r.length : Int) := by omega
      obtain ⟨b, o, cp, hv, hbC, hcs⟩ := H.out.cells (by omega)
      obtain ⟨rfl, rfl⟩ : a = some ⟨b, o, none⟩ ∧ cap = cp := by injection hv with e1 e2 e3; exact ⟨e1, e3⟩
      obtain ⟨x, d0, d1, hx⟩ := hcs k hlt
      clear hcs hv hx d1
      rw [← hbr.cell (p := ⟨b, _, none⟩) hbC] at d0
      have Hstep : Hid (∀ q : Nat, (if r[k].1 < id then 1 else 0) = q → c + q = ((r.take (k + 1)).filter fun m => decide (m.1 < id)).length) := Lib.hid fun q hq => by rw [rank_take r id k hlt, ← hc.out, hq]
      by_cases he : r[k].1 < id
      · have Hn := Lib.hid (Hstep.out 1 (if_pos he))
        generalize r[k].1 = y at d0 he
        clear hc Hstep
        go_wp2_with fail
        go_roundw
        case rel => exact ⟨k + 1, c + 1, by omega, Hn, by go_num, by go_num, by omega, hbx, hbr⟩
        case measure => simp [intOf]; omega
      · have hb : decide (r[k].1 < id) = false := decide_eq_false he
        have Hn := Lib.hid (Hstep.out 0 (if_neg he))
        generalize r[k].1 = y at d0 hb
        clear he hc Hstep
        go_wp2_with fail
        go_roundw
        case rel => exact ⟨k + 1, c, by omega, Hn, rfl, by go_num, by omega, hbx, hbr⟩
        case measure => simp [intOf]; omega
    · have hge : (r.length : Int) ≤ (k : Int) := by omega
      have hend : decide (k < r.length) = false := decide_eq_false hlt
      have hce : c = rankR r id := by rw [hc.out, List.take_of_length_le (by omega)]; rfl
      go_wp2_with fail
      go_ret
      exact ⟨by rw [hce]; rfl, hbr⟩
theorem ownsRow_drew {w : World} {B : Nat} {T : TypeId} {sz n : Nat} {v : Value} {xs : List Value} (h : w.ownsRow B T sz v n xs) : w.drew.ownsRow B T sz v n xs := h
theorem infoFld : (Tryz.prog.info? 117).map (fun i => (i.zero, i.size, i.bytes)) = some (some (.agg #[.int .i64 0, .int .i64 0, .bool false, .bool false, .int .i64 0]), 5, 32) := by kernel_rfl
theorem fieldC_one (l : List RF) : ∀ u ∈ l.flatMap fieldC, u.oneCell' = true := by
  intro u hu
  obtain ⟨f, _, hf⟩ := List.mem_flatMap.1 hu
  simp only [fieldC, List.mem_cons, List.not_mem_nil, or_false] at hf
  rcases hf with rfl | rfl | rfl | rfl | rfl <;> rfl
/-- The cells of a row of fields, counted from its address. -/
theorem FieldsAt.flat {w : World} {S : Nat → Prop} {ao : Option Addr} {n cap : Nat} {l : List RF} (h : FieldsAt w S (.slice ao n cap) l) : ∀ ad, ao = some ad → ∀ j u, (l.flatMap fieldC)[j]? = some u → w.cell? (ad.add j) = some u := by
  intro ad had j u hj
  subst had
  rcases h with ⟨rfl, _⟩ | ⟨b, o, c, hv, _, _, hc⟩
  · simp at hj
  · injection hv with e1 _ _
    injection e1 with e1
    subst e1
    have hlen : j < l.length * 5 := by
      rcases Nat.lt_or_ge j (l.length * 5) with h | h
      · exact h
      · rw [List.getElem?_eq_none (by rw [flat_len (f := fieldC) (sz := 5) (fun _ => rfl)]; exact h)] at hj; cases hj
    obtain ⟨i, q, hq, rfl⟩ : ∃ i q, q < 5 ∧ j = i * 5 + q := ⟨j / 5, j % 5, Nat.mod_lt _ (by omega), by omega⟩
    have hi : i < l.length := by omega
    rw [flat_get (f := fieldC) (sz := 5) (fun _ => rfl) l i hi q hq] at hj
    obtain ⟨cs, h1, h2, h3⟩ := hc i hi
    unfold fieldR at h2
    subst h2
    have := h3 q (by rw [h1]; exact hq)
    rw [List.getElem?_eq_getElem (by rw [h1]; exact hq)] at hj
    have hadd : (⟨b, o, none⟩ : Addr).add (i * 5 + q) = ⟨b, o + (i * 5 + q), none⟩ := by unfold Addr.add; split <;> simp_all
    rw [← Option.some.inj hj, ← this, hadd]
theorem FieldsAt.drop {w : World} {S : Nat → Prop} {b o cap : Nat} {l : List RF} (h : FieldsAt w S (.slice (some ⟨b, o, none⟩) l.length cap) l) (k : Nat) (hk : k < l.length) : FieldsAt w S (.slice (some ⟨b, o + k * 5, none⟩) (l.length - k) (cap - k)) (l.drop k) := by
  have hlen : (l.drop k).length = l.length - k := List.length_drop
  rcases h with ⟨rfl, _⟩ | ⟨b', o', c, hv, hp, hS, hc⟩
  · simp at hk
  · injection hv with e1 _ e3
    injection e1 with e1
    injection e1 with e1 e4
    subst e1; subst e4; subst e3
    refine .inr ⟨b, o + k * 5, cap - k, by rw [hlen], ⟨by omega, by omega⟩, hS, fun i hi => ?_⟩
    obtain ⟨cs, h1, h2, h3⟩ := hc (k + i) (by omega)
    refine ⟨cs, h1, by rw [List.getElem_drop]; exact h2, fun j hj => ?_⟩
    rw [show o + k * 5 + (i * 5 + j) = o + ((k + i) * 5 + j) by rw [Nat.add_mul]; omega]
    exact h3 j hj
set_option maxHeartbeats 4000000 in
set_option maxRecDepth 100000 in
theorem l8Put_any (v : Value) (l : List RF) (f : RF) (w : World) (hv : FieldsAt w (· < w.heap.size) v l) (hl : l.length ≤ 1048576) (hn : v = .slice none 0 0 ∨ ∃ b o c, v = .slice (some ⟨b, o, none⟩) l.length c) :
    Calls Tryz.prog 154 #[v, fieldV f] w fun e w' => ∃ g cap, e = .returned (.slice (some ⟨g, 0, none⟩) (l.length + 1) cap) ∧ w'.ownsRow w.heap.size 117 5 (.slice (some ⟨g, 0, none⟩) (l.length + 1) cap) (l.length + 1) ((putR l f).flatMap fieldC) ∧ Below w.heap.size w w' := by
  obtain ⟨j0, hj, hj0, hj1, hj2⟩ := info_parts infoFld
  obtain ⟨a, cap, rfl⟩ := hv.len
  have hcap := hv.cap
  obtain ⟨A1, A2, A3, A4, A5⟩ := f
  have hnil : (a = none ∧ cap = 0) ∨ ∃ b o, a = some ⟨b, o, none⟩ := by
    rcases hn with e | ⟨b, o, c, e⟩
    · injection e with e1 e2 e3; exact .inl ⟨e1, e3⟩
    · injection e with e1 e2 e3; exact .inr ⟨b, o, e1⟩
  have H := Lib.hid hv
  have Hput : Hid (∀ k, k ≤ l.length → (∀ j (hj : j < l.length), j < k → l[j].1 < A1) → (∀ h : k < l.length, ¬ l[k].1 < A1) → putR l (A1, A2, A3, A4, A5) = l.take k ++ (A1, A2, A3, A4, A5) :: l.drop k) := Lib.hid fun k h1 h2 h3 => putR_at l _ k h1 h2 h3
  have Ht : Hid (∀ (wx : World) (k : Nat), k ≤ l.length → Below w.heap.size w wx → FieldsAt wx (· < w.heap.size) (.slice a k cap) (l.take k)) := Lib.hid fun wx k hk hb => (H.out.take k hk cap (by omega)).keep (below_sees hb) fun _ h => h
  have Hlen : Hid (∀ k, k ≤ l.length → ((l.take k).flatMap fieldC).length = k * 5) := Lib.hid fun k hk => by rw [flat_len (f := fieldC) (sz := 5) (fun _ => rfl), List.length_take, Nat.min_eq_left hk]
  have hla : a = none → l.length = 0 := fun e => by
    rcases H.out with ⟨rfl, _⟩ | ⟨b, o, c, hv, _⟩
    · rfl
    · rw [e] at hv; cases hv
  generalize putR l (A1, A2, A3, A4, A5) = R at Hput ⊢
  clear hv hn
  unfold fieldV
  simp only
  have hl1 : Below w.heap.size w (w.alloc (.cells #[.int .i64 A1, .int .i64 A2, .bool A3, .bool A4, .int .i64 A5] 117)) := (Below.refl _ _).alloc (Nat.le_refl _) _
  go_enter Tryz.func154, Tryz.ntmps154
  go_wp2_with fail
  go_loopw [5] (fun i wr => ∃ k : Nat, k ≤ l.length ∧ i = .int .i64 k ∧ Hid (∀ j (hj : j < l.length), j < k → l[j].1 < A1) ∧ Hid (Box wr w.heap.size [.int .i64 A1, .int .i64 A2, .bool A3, .bool A4, .int .i64 A5]) ∧ Below w.heap.size w wr) (fun i _ => l.length - (intOf i).toNat)
  case atStart => exact ⟨0, by omega, rfl, Lib.hid fun j _ hj => by omega, Lib.hid (Box.fresh _ _ _), hl1⟩
  case round =>
    obtain ⟨k, hk, rfl, hno, hbx, hbr⟩ := hrel
    obtain ⟨c0, f0⟩ := hbx.out.2 0 (by simp)
    simp only [List.getElem_cons_zero] at c0
    have hzw := hbx.out.1
    by_cases hgo : ∃ h : k < l.length, l[k].1 < A1
    · obtain ⟨hlt, he⟩ := hgo
      have hlti : (k : Int) < (l.length : Int) := by omega
      obtain ⟨b, o, cp, hv, hbC, hcs⟩ := H.out.cells (by omega)
      obtain ⟨rfl, rfl⟩ : a = some ⟨b, o, none⟩ ∧ cap = cp := by injection hv with e1 e2 e3; exact ⟨e1, e3⟩
      obtain ⟨d0, _, _, _, _⟩ := hcs k hlt
      clear hcs hv
      rw [← hbr.cell (p := ⟨b, _, none⟩) hbC] at d0
      have Hn : Hid (∀ j (hj : j < l.length), j < k + 1 → l[j].1 < A1) := Lib.hid fun j hj hjk => by
        by_cases e : j = k
        · subst e; exact he
        · exact hno.out j hj (by omega)
      generalize l[k].1 = y at d0 he
      clear hno
      go_wp2_with fail
      go_quiet (fail)
      go_wp2_with fail
      go_roundw
      case rel => exact ⟨k + 1, by omega, by go_num, Hn, Lib.hid (hbx.out.drewN _), below_drewN hbr _⟩
      case measure => simp [intOf]; omega
    · have HR := Lib.hid (Hput.out k hk hno.out fun h => Int.not_lt.1 fun hh => hgo ⟨h, hh⟩)
      have hkc : (k : Int) ≤ (cap : Int) := by omega
      have hki : (k : Int) ≤ (l.length : Int) := by omega
      obtain ⟨e0, e1, e2, e3, e4, _⟩ := hbx.out.fiveT
      by_cases hlt : k < l.length
      · have hlti : (k : Int) < (l.length : Int) := by omega
        obtain ⟨b, o, cp, hv, hbC, hcs⟩ := H.out.cells (by omega)
        obtain ⟨rfl, rfl⟩ : a = some ⟨b, o, none⟩ ∧ cap = cp := by injection hv with e1 e2 e3; exact ⟨e1, e3⟩
        obtain ⟨d0, _, _, _, _⟩ := hcs k hlt
        clear hcs hv
        rw [← hbr.cell (p := ⟨b, _, none⟩) hbC] at d0
        have hb : decide (l[k].1 < A1) = false := decide_eq_false fun h => hgo ⟨hlt, h⟩
        generalize l[k].1 = y at d0 hb
        clear hno hgo
        go_wp2_with fail
        go_quiet (fail)
        go_upto_region 5 with (at_builtin; refine wpList_append_onto _ (by rfl) (.tmp 23) (.tmp 26) 111 (by rfl) w.heap.size 117 j0 _ 5 32 Tryz.underlying111 hj hj0 hj1 hj2 (by rfl) (by omega) wr.heap.size 0 0 [] (by rfl) (World.ownsRow_lit _ #[] 0 (by show w.heap.size ≤ wr.heap.size; omega) (by unfold maxLen; omega) (by rfl)) (some ⟨b, o, none⟩) k cap (by rfl) (fun h => by cases h) ((l.take k).flatMap fieldC) (Hlen.out k hk) (FieldsAt.flat (Ht.out _ k hk ((below_drewN hbr _).alloc (by show w.heap.size ≤ wr.heap.size; omega) _))) (fieldC_one _) (by unfold maxLen; omega) (by omega) (by simp; omega) (wr.heap.size + 1) (by simp) ?_; intro g1 cap1 w1 hown1 hg1 hor1 hlt1; simp only [Nat.zero_add] at hown1 ⊢)
        have hB1 : Hid (Below w.heap.size w w1) := Lib.hid (((below_drewN hbr _).alloc (by show w.heap.size ≤ wr.heap.size; omega) _).grown hg1 (by show w.heap.size ≤ _; simp; omega) (fun q hq => by have := Option.some.inj hq; omega))
        have hx1 := Lib.hid (Box.grown hg1 ((hbx.out.drewN _).alloc _) (fun q hq => by have := Option.some.inj hq; omega))
        have hz1 : wr.heap.size + 1 ≤ w1.heap.size := by have := hg1.size; simpa using this
        have hg1b : w.heap.size ≤ g1 := (hown1.lt g1 rfl).1
        clear e0 e1 e2 e3 e4 c0 f0 hbx hbr d0 hg1 hor1
        obtain ⟨e0, e1, e2, e3, e4, _⟩ := hx1.out.fiveT
        have hw1 := hx1.out.1
        have hnew : (w1.alloc (.cells #[.int .i64 A1, .int .i64 A2, .bool A3, .bool A4, .int .i64 A5] 117)).heap[w1.heap.size]? = some (.cells #[.int .i64 A1, .int .i64 A2, .bool A3, .bool A4, .int .i64 A5] 117 (0, 0)) := heap_alloc_new _ _
        have hkne : (cap == k) = false := by rw [beq_eq_false_iff_ne]; omega
        have hkne2 : ¬ cap = k := by omega
        have hwk : w1.heap.size ≤ 0 + w1.heap.size := by omega
        go_region_law (first
          | (refine step_append_onto _ (by rfl) _ _ 111 (by rfl) w.heap.size 117 j0 _ 5 32 Tryz.underlying111 hj hj0 hj1 hj2 (by rfl) (by omega) g2 (k + 1) cap2 _ (by rfl) hown2 (some ⟨b, o + k * 5, none⟩) (l.length - k) (cap - k) (by rfl) (by intro h; cases h) ((l.drop k).flatMap fieldC) (by rw [flat_len (f := fieldC) (sz := 5) (fun _ => rfl), List.length_drop]) (FieldsAt.flat ((H.out.drop k hlt).keep (below_sees hB2) fun _ h => h)) (fieldC_one _) (by unfold maxLen; omega) (by omega) (by omega) w2.heap.size rfl ?_; intro g3 cap3 w3 hown3 hg3 hor3 hlt3)
          | (refine step_append_onto _ (by rfl) _ _ 111 (by rfl) w.heap.size 117 j0 _ 5 32 Tryz.underlying111 hj hj0 hj1 hj2 (by rfl) (by omega) g1 k cap1 _ (by rfl) (ownsRow_drew (World.ownsRow.alloc hown1 _)) (some ⟨w1.heap.size, 0, none⟩) 1 1 (by rfl) (by intro h; cases h) [.int .i64 A1, .int .i64 A2, .bool A3, .bool A4, .int .i64 A5] (by rfl) (fun ad had j u hj => by cases had; exact World.news_of_block hnew j u hj) (by intro u hu; simp at hu; rcases hu with rfl | rfl | rfl | rfl | rfl <;> rfl) (by unfold maxLen; omega) (by omega) (by simp; omega) (w1.heap.size + 1) (by simp) ?_; intro g2 cap2 w2 hown2 hg2 hor2 hlt2; have hB2 : Below w.heap.size w w2 := ((hB1.out.alloc (by omega) _).drew).grown hg2 (by simp; omega) (fun q hq => by have := Option.some.inj hq; omega); have hz2 : w1.heap.size + 1 ≤ w2.heap.size := (by have := hg2.size; simpa using this); have hg2b : w.heap.size ≤ g2 := (hown2.lt g2 rfl).1))
        all_goals
          go_wp2_with fail
          go_ret
          have hnn : k + 1 + (l.length - k) = l.length + 1 := by omega
          refine ⟨g3, cap3, by rw [← hnn]; rfl, ?_, hB2.grown hg3 (by omega) (fun q hq => by have := Option.some.inj hq; omega)⟩
          rw [hnn] at hown3
          rw [HR.out, show (l.take k ++ (A1, A2, A3, A4, A5) :: l.drop k).flatMap fieldC = ([] ++ (l.take k).flatMap fieldC ++ [.int .i64 A1, .int .i64 A2, .bool A3, .bool A4, .int .i64 A5]) ++ (l.drop k).flatMap fieldC by simp [fieldC]]
          exact hown3
      · have hend : decide (k < l.length) = false := decide_eq_false hlt
        have hendi : decide ((k : Int) < (l.length : Int)) = false := decide_eq_false (by omega)
        have hge : (l.length : Int) ≤ (k : Int) := by omega
        clear hno hgo
        have d0 : True := trivial
        rcases hnil with ⟨rfl, rfl⟩ | ⟨b, o, rfl⟩
        · obtain rfl : k = 0 := by omega
          obtain rfl : l = [] := List.length_eq_zero_iff.1 (by omega)
          go_wp2_with fail
          go_quiet (fail)
          go_upto_region 5 with fail
          have hB1 : Hid (Below w.heap.size w ((wr.drewN nq).alloc (.cells #[] 117))) := Lib.hid ((below_drewN hbr _).alloc (by show w.heap.size ≤ wr.heap.size; omega) _)
          have hx1 := Lib.hid ((hbx.out.drewN nq).alloc (.cells #[] 117))
          have hz1 : wr.heap.size + 1 ≤ ((wr.drewN nq).alloc (.cells #[] 117)).heap.size := by simp
          have hown1 : ((wr.drewN nq).alloc (.cells #[] 117)).ownsRow w.heap.size 117 5 (.slice (some ⟨wr.heap.size, 0, none⟩) 0 0) 0 [] := World.ownsRow_lit (wr.drewN nq) #[] 0 (by show w.heap.size ≤ wr.heap.size; omega) (by unfold maxLen; omega) (by rfl)
          have hg1b : w.heap.size ≤ wr.heap.size := by omega
          generalize (wr.drewN nq).alloc (.cells #[] 117) = w1 at hB1 hx1 hz1 hown1 ⊢
          clear e0 e1 e2 e3 e4 c0 f0 hbx hbr d0
          obtain ⟨e0, e1, e2, e3, e4, _⟩ := hx1.out.fiveT
          have hw1 := hx1.out.1
          have hnew : (w1.alloc (.cells #[.int .i64 A1, .int .i64 A2, .bool A3, .bool A4, .int .i64 A5] 117)).heap[w1.heap.size]? = some (.cells #[.int .i64 A1, .int .i64 A2, .bool A3, .bool A4, .int .i64 A5] 117 (0, 0)) := heap_alloc_new _ _
          go_region_law (first
            | (refine step_append_onto _ (by rfl) _ _ 111 (by rfl) w.heap.size 117 j0 _ 5 32 Tryz.underlying111 hj hj0 hj1 hj2 (by rfl) (by omega) g2 (0 + 1) cap2 _ (by rfl) hown2 none 0 0 (by rfl) (fun _ => ⟨rfl, rfl⟩) [] (by rfl) (fun ad had j u hj => by simp at hj) (by intro u hu; simp at hu) (by unfold maxLen; omega) (by omega) (by omega) w2.heap.size rfl ?_; intro g3 cap3 w3 hown3 hg3 hor3 hlt3)
            | (refine step_append_onto _ (by rfl) _ _ 111 (by rfl) w.heap.size 117 j0 _ 5 32 Tryz.underlying111 hj hj0 hj1 hj2 (by rfl) (by omega) wr.heap.size 0 0 _ (by rfl) (ownsRow_drew (World.ownsRow.alloc hown1 _)) (some ⟨w1.heap.size, 0, none⟩) 1 1 (by rfl) (by intro h; cases h) [.int .i64 A1, .int .i64 A2, .bool A3, .bool A4, .int .i64 A5] (by rfl) (fun ad had j u hj => by cases had; exact World.news_of_block hnew j u hj) (by intro u hu; simp at hu; rcases hu with rfl | rfl | rfl | rfl | rfl <;> rfl) (by unfold maxLen; omega) (by omega) (by simp; omega) (w1.heap.size + 1) (by simp) ?_; intro g2 cap2 w2 hown2 hg2 hor2 hlt2; have hB2 : Below w.heap.size w w2 := ((hB1.out.alloc (by omega) _).drew).grown hg2 (by simp; omega) (fun q hq => by have := Option.some.inj hq; omega); have hz2 : w1.heap.size + 1 ≤ w2.heap.size := (by have := hg2.size; simpa using this); have hg2b : w.heap.size ≤ g2 := (hown2.lt g2 rfl).1))
          all_goals
            go_wp2_with fail
            go_ret
            have hnn : 0 + 1 + 0 = ([] : List RF).length + 1 := by rfl
            refine ⟨g3, cap3, by rw [← hnn]; rfl, ?_, hB2.grown hg3 (by omega) (fun q hq => by have := Option.some.inj hq; omega)⟩
            rw [hnn] at hown3
            rw [HR.out, show (([] : List RF).take 0 ++ (A1, A2, A3, A4, A5) :: ([] : List RF).drop 0).flatMap fieldC = ([] ++ [.int .i64 A1, .int .i64 A2, .bool A3, .bool A4, .int .i64 A5]) ++ [] by simp [fieldC]]
            exact hown3
        · by_cases hcq : k = cap
          · subst hcq
            go_wp2_with fail
            go_quiet (fail)
            go_upto_region 5 with (at_builtin; refine wpList_append_onto _ (by rfl) (.tmp 23) (.tmp 26) 111 (by rfl) w.heap.size 117 j0 _ 5 32 Tryz.underlying111 hj hj0 hj1 hj2 (by rfl) (by omega) wr.heap.size 0 0 [] (by rfl) (World.ownsRow_lit _ #[] 0 (by show w.heap.size ≤ wr.heap.size; omega) (by unfold maxLen; omega) (by rfl)) (some ⟨b, o, none⟩) k k (by rfl) (fun h => by cases h) ((l.take k).flatMap fieldC) (Hlen.out k hk) (FieldsAt.flat (Ht.out _ k hk ((below_drewN hbr _).alloc (by show w.heap.size ≤ wr.heap.size; omega) _))) (fieldC_one _) (by unfold maxLen; omega) (by omega) (by simp; omega) (wr.heap.size + 1) (by simp) ?_; intro g1 cap1 w1 hown1 hg1 hor1 hlt1; simp only [Nat.zero_add] at hown1 ⊢)
            have hB1 : Hid (Below w.heap.size w w1) := Lib.hid (((below_drewN hbr _).alloc (by show w.heap.size ≤ wr.heap.size; omega) _).grown hg1 (by show w.heap.size ≤ _; simp; omega) (fun q hq => by have := Option.some.inj hq; omega))
            have hx1 := Lib.hid (Box.grown hg1 ((hbx.out.drewN _).alloc _) (fun q hq => by have := Option.some.inj hq; omega))
            have hz1 : wr.heap.size + 1 ≤ w1.heap.size := by have := hg1.size; simpa using this
            have hg1b : w.heap.size ≤ g1 := (hown1.lt g1 rfl).1
            clear e0 e1 e2 e3 e4 c0 f0 hbx hbr d0 hg1 hor1
            obtain ⟨e0, e1, e2, e3, e4, _⟩ := hx1.out.fiveT
            have hw1 := hx1.out.1
            have hnew : (w1.alloc (.cells #[.int .i64 A1, .int .i64 A2, .bool A3, .bool A4, .int .i64 A5] 117)).heap[w1.heap.size]? = some (.cells #[.int .i64 A1, .int .i64 A2, .bool A3, .bool A4, .int .i64 A5] 117 (0, 0)) := heap_alloc_new _ _
            go_region_law (first
              | (refine step_append_onto _ (by rfl) _ _ 111 (by rfl) w.heap.size 117 j0 _ 5 32 Tryz.underlying111 hj hj0 hj1 hj2 (by rfl) (by omega) g2 (k + 1) cap2 _ (by rfl) hown2 (some ⟨b, o, none⟩) 0 0 (by rfl) (by intro h; cases h) [] (by rfl) (fun ad had j u hj => by simp at hj) (by intro u hu; simp at hu) (by unfold maxLen; omega) (by omega) (by omega) w2.heap.size rfl ?_; intro g3 cap3 w3 hown3 hg3 hor3 hlt3)
              | (refine step_append_onto _ (by rfl) _ _ 111 (by rfl) w.heap.size 117 j0 _ 5 32 Tryz.underlying111 hj hj0 hj1 hj2 (by rfl) (by omega) g1 k cap1 _ (by rfl) (ownsRow_drew (World.ownsRow.alloc hown1 _)) (some ⟨w1.heap.size, 0, none⟩) 1 1 (by rfl) (by intro h; cases h) [.int .i64 A1, .int .i64 A2, .bool A3, .bool A4, .int .i64 A5] (by rfl) (fun ad had j u hj => by cases had; exact World.news_of_block hnew j u hj) (by intro u hu; simp at hu; rcases hu with rfl | rfl | rfl | rfl | rfl <;> rfl) (by unfold maxLen; omega) (by omega) (by simp; omega) (w1.heap.size + 1) (by simp) ?_; intro g2 cap2 w2 hown2 hg2 hor2 hlt2; have hB2 : Below w.heap.size w w2 := ((hB1.out.alloc (by omega) _).drew).grown hg2 (by simp; omega) (fun q hq => by have := Option.some.inj hq; omega); have hz2 : w1.heap.size + 1 ≤ w2.heap.size := (by have := hg2.size; simpa using this); have hg2b : w.heap.size ≤ g2 := (hown2.lt g2 rfl).1))
            all_goals
              go_wp2_with fail
              go_ret
              have hnn : k + 1 + 0 = l.length + 1 := by omega
              refine ⟨g3, cap3, by rw [← hnn]; rfl, ?_, hB2.grown hg3 (by omega) (fun q hq => by have := Option.some.inj hq; omega)⟩
              rw [hnn] at hown3
              rw [HR.out, show (l.take k ++ (A1, A2, A3, A4, A5) :: l.drop k).flatMap fieldC = ([] ++ (l.take k).flatMap fieldC ++ [.int .i64 A1, .int .i64 A2, .bool A3, .bool A4, .int .i64 A5]) ++ [] by rw [List.drop_of_length_le (by omega)]; simp [fieldC]]
              exact hown3
          · have hck : k < cap := by omega
            go_wp2_with fail
            go_quiet (fail)
            go_upto_region 5 with (at_builtin; refine wpList_append_onto _ (by rfl) (.tmp 23) (.tmp 26) 111 (by rfl) w.heap.size 117 j0 _ 5 32 Tryz.underlying111 hj hj0 hj1 hj2 (by rfl) (by omega) wr.heap.size 0 0 [] (by rfl) (World.ownsRow_lit _ #[] 0 (by show w.heap.size ≤ wr.heap.size; omega) (by unfold maxLen; omega) (by rfl)) (some ⟨b, o, none⟩) k cap (by rfl) (fun h => by cases h) ((l.take k).flatMap fieldC) (Hlen.out k hk) (FieldsAt.flat (Ht.out _ k hk ((below_drewN hbr _).alloc (by show w.heap.size ≤ wr.heap.size; omega) _))) (fieldC_one _) (by unfold maxLen; omega) (by omega) (by simp; omega) (wr.heap.size + 1) (by simp) ?_; intro g1 cap1 w1 hown1 hg1 hor1 hlt1; simp only [Nat.zero_add] at hown1 ⊢)
            have hB1 : Hid (Below w.heap.size w w1) := Lib.hid (((below_drewN hbr _).alloc (by show w.heap.size ≤ wr.heap.size; omega) _).grown hg1 (by show w.heap.size ≤ _; simp; omega) (fun q hq => by have := Option.some.inj hq; omega))
            have hx1 := Lib.hid (Box.grown hg1 ((hbx.out.drewN _).alloc _) (fun q hq => by have := Option.some.inj hq; omega))
            have hz1 : wr.heap.size + 1 ≤ w1.heap.size := by have := hg1.size; simpa using this
            have hg1b : w.heap.size ≤ g1 := (hown1.lt g1 rfl).1
            clear e0 e1 e2 e3 e4 c0 f0 hbx hbr d0 hg1 hor1
            obtain ⟨e0, e1, e2, e3, e4, _⟩ := hx1.out.fiveT
            have hw1 := hx1.out.1
            have hnew : (w1.alloc (.cells #[.int .i64 A1, .int .i64 A2, .bool A3, .bool A4, .int .i64 A5] 117)).heap[w1.heap.size]? = some (.cells #[.int .i64 A1, .int .i64 A2, .bool A3, .bool A4, .int .i64 A5] 117 (0, 0)) := heap_alloc_new _ _
            have hkne : (cap == k) = false := by rw [beq_eq_false_iff_ne]; omega
            have hkne2 : ¬ cap = k := by omega
            have hwk : w1.heap.size ≤ 0 + w1.heap.size := by omega
            go_region_law (first
              | (refine step_append_onto _ (by rfl) _ _ 111 (by rfl) w.heap.size 117 j0 _ 5 32 Tryz.underlying111 hj hj0 hj1 hj2 (by rfl) (by omega) g2 (k + 1) cap2 _ (by rfl) hown2 (some ⟨b, o + k * 5, none⟩) (l.length - k) (cap - k) (by rfl) (by intro h; cases h) [] (by rw [show l.length - k = 0 by omega]; rfl) (fun ad had j u hj => by simp at hj) (by intro u hu; simp at hu) (by unfold maxLen; omega) (by omega) (by omega) w2.heap.size rfl ?_; intro g3 cap3 w3 hown3 hg3 hor3 hlt3)
              | (refine step_append_onto _ (by rfl) _ _ 111 (by rfl) w.heap.size 117 j0 _ 5 32 Tryz.underlying111 hj hj0 hj1 hj2 (by rfl) (by omega) g1 k cap1 _ (by rfl) (ownsRow_drew (World.ownsRow.alloc hown1 _)) (some ⟨w1.heap.size, 0, none⟩) 1 1 (by rfl) (by intro h; cases h) [.int .i64 A1, .int .i64 A2, .bool A3, .bool A4, .int .i64 A5] (by rfl) (fun ad had j u hj => by cases had; exact World.news_of_block hnew j u hj) (by intro u hu; simp at hu; rcases hu with rfl | rfl | rfl | rfl | rfl <;> rfl) (by unfold maxLen; omega) (by omega) (by simp; omega) (w1.heap.size + 1) (by simp) ?_; intro g2 cap2 w2 hown2 hg2 hor2 hlt2; have hB2 : Below w.heap.size w w2 := ((hB1.out.alloc (by omega) _).drew).grown hg2 (by simp; omega) (fun q hq => by have := Option.some.inj hq; omega); have hz2 : w1.heap.size + 1 ≤ w2.heap.size := (by have := hg2.size; simpa using this); have hg2b : w.heap.size ≤ g2 := (hown2.lt g2 rfl).1))
            all_goals
              go_wp2_with fail
              go_ret
              have hnn : k + 1 + (l.length - k) = l.length + 1 := by omega
              refine ⟨g3, cap3, by rw [← hnn]; rfl, ?_, hB2.grown hg3 (by omega) (fun q hq => by have := Option.some.inj hq; omega)⟩
              rw [hnn] at hown3
              rw [HR.out, show (l.take k ++ (A1, A2, A3, A4, A5) :: l.drop k).flatMap fieldC = ([] ++ (l.take k).flatMap fieldC ++ [.int .i64 A1, .int .i64 A2, .bool A3, .bool A4, .int .i64 A5]) ++ [] by rw [List.drop_of_length_le (by omega)]; simp [fieldC]]
              exact hown3
end Go.Proofs.YtpkofbdfnbpfpaaGreat.Num


/-
  A message with its fields appended to a description that the call owns. For any program.
-/
namespace Go.Proofs.YtpkofbdfnbpfpaaGreat.Num
open Go.RowKit Go.Proofs
set_option linter.unusedVariables false

theorem ownsRow_below {w w' : World} {C B : Nat} {T : TypeId} {sz n : Nat} {v : Value} {xs : List Value} (h : w.ownsRow B T sz v n xs) (hb : Below C w w') (hC : ∀ k, v.ownBlock = some k → k < C) : w'.ownsRow B T sz v n xs := by
  obtain ⟨h1, h2⟩ := h
  refine ⟨h1, ?_⟩
  rcases h2 with h2 | ⟨g, cap, cur, rfl, a, b, c⟩
  · exact .inl h2
  · exact .inr ⟨g, cap, cur, rfl, a, (hb.block g (hC g rfl)).trans b, c⟩
theorem ownsRow_base {w : World} {B B' : Nat} {T : TypeId} {sz n : Nat} {v : Value} {xs : List Value} (h : w.ownsRow B T sz v n xs) (hB : B' ≤ B) : w.ownsRow B' T sz v n xs := by
  obtain ⟨h1, h2⟩ := h
  refine ⟨h1, ?_⟩
  rcases h2 with h2 | ⟨g, cap, cur, e, a, b⟩
  · exact .inl h2
  · exact .inr ⟨g, cap, cur, e, Nat.le_trans hB a, b⟩
theorem ownsRow_form {w : World} {B : Nat} {T : TypeId} {sz n : Nat} {v : Value} {xs : List Value} (h : w.ownsRow B T sz v n xs) : ∃ a c, v = .slice a n c := by
  rcases h.2 with ⟨rfl, rfl⟩ | ⟨g, cap, cur, e, _⟩
  · exact ⟨_, _, rfl⟩
  · exact ⟨_, _, e⟩
section
variable {w w' : World} {B : Nat} {TM TF : TypeId} {v : Value} {ms : List OM}
end
end Go.Proofs.YtpkofbdfnbpfpaaGreat.Num


/-
  A message laid into its place in a description that the call owns, and a row of empty messages. For any program.
-/
namespace Go.Proofs.YtpkofbdfnbpfpaaGreat.Num
open Go.RowKit Go.Proofs
set_option linter.unusedVariables false
set_option linter.unusedSimpArgs false

section
variable {w w' : World} {B : Nat} {TM TF : TypeId} {v : Value} {ms : List OM}
/-- Another row of fields, in a block of none of the others, at the i-th message. -/
theorem OwnRaw.setVal {g cap : Nat} {u : Value} {l : List RF} (h : OwnRaw w B TM TF (.slice (some ⟨g, 0, none⟩) ms.length cap) ms) (i : Nat) (hi : i < ms.length) (hu : FOwn w B TF (ms[i].1, u, l))
    (hug : u.ownBlock ≠ some g) (ha : ∀ j (hj : j < ms.length), Apart ms[j].2.1 u ∧ Apart u ms[j].2.1) :
    OwnRaw (w.setCell ⟨g, i * 2 + 1, none⟩ u) B TM TF (.slice (some ⟨g, 0, none⟩) ms.length cap) (ms.set i (ms[i].1, u, l)) := by
  have hlen : (ms.set i (ms[i].1, u, l)).length = ms.length := List.length_set
  refine ⟨?_, fun j hj => ?_, fun j hj => ?_, fun j k hj hk hjk => ?_⟩
  · rw [hlen]
    have := (h.row.stored (i * 2 + 1) u).1
    rw [flat_set ms i hi (ms[i].1, u, l) rfl] at this
    exact this
  · have hj' : j < ms.length := by rw [hlen] at hj; exact hj
    by_cases e : i = j
    · subst e
      rw [List.getElem_set_self]
      exact ownsRow_setCell_other hu hug u
    · rw [List.getElem_set_ne e]
      refine ownsRow_setCell_other (h.fields j hj') ?_ u
      rcases h.apart j hj' with a | a
      · rw [a]; simp
      · exact a
  · have hj' : j < ms.length := by rw [hlen] at hj; exact hj
    by_cases e : i = j
    · subst e; rw [List.getElem_set_self]; exact .inr hug
    · rw [List.getElem_set_ne e]; exact h.apart j hj'
  · have hj' : j < ms.length := by rw [hlen] at hj; exact hj
    have hk' : k < ms.length := by rw [hlen] at hk; exact hk
    by_cases e : i = j
    · subst e
      rw [List.getElem_set_self, List.getElem_set_ne hjk]
      exact (ha k hk').2
    · by_cases e2 : i = k
      · subst e2
        rw [List.getElem_set_self, List.getElem_set_ne e]
        exact (ha j hj').1
      · rw [List.getElem_set_ne e, List.getElem_set_ne e2]; exact h.each j k hj' hk' hjk
/-- A whole message at the i-th place. -/
theorem OwnRaw.setMsg {g cap : Nat} {u : Value} {id : Int} {l : List RF} (h : OwnRaw w B TM TF (.slice (some ⟨g, 0, none⟩) ms.length cap) ms) (i : Nat) (hi : i < ms.length) (hu : FOwn w B TF (id, u, l))
    (hug : u.ownBlock ≠ some g) (ha : ∀ j (hj : j < ms.length), Apart ms[j].2.1 u ∧ Apart u ms[j].2.1) :
    OwnRaw ((w.setCell ⟨g, i * 2, none⟩ (.int .i64 id)).setCell ⟨g, i * 2 + 1, none⟩ u) B TM TF (.slice (some ⟨g, 0, none⟩) ms.length cap) (ms.set i (id, u, l)) := by
  have h1 := h.setId i hi id
  have hlen : (ms.set i (id, ms[i].2)).length = ms.length := List.length_set
  rw [← hlen] at h1 ⊢
  have h2 := h1.setVal (u := u) (l := l) i (by rw [hlen]; exact hi) (ownsRow_setCell_other (a := ⟨g, i * 2, none⟩) hu hug _) hug fun j hj => by
    rw [List.getElem_set]
    split
    · rename_i e; subst e; exact ha i hi
    · exact ha j (by rw [hlen] at hj; exact hj)
  rw [List.set_set, List.getElem_set_self] at h2
  exact h2
theorem made_two (n : Nat) : (madeCells #[.int .i64 0, .slice none 0 0] (n * 2)).toList = (List.replicate n ((0, .slice none 0 0, []) : OM)).flatMap msgC := by
  have hl : ((List.replicate n ((0, .slice none 0 0, []) : OM)).flatMap msgC).length = n * 2 := by
    rw [flat_len (f := msgC) (sz := 2) (fun _ => rfl), List.length_replicate]
  have hm : (madeCells #[.int .i64 0, .slice none 0 0] (n * 2)).toList.length = n * 2 := by simp [madeCells]
  apply List.ext_getElem (by rw [hl, hm])
  intro j h1 h2
  rw [hm] at h1
  obtain ⟨i, q, hq, rfl⟩ : ∃ i q, q < 2 ∧ j = i * 2 + q := ⟨j / 2, j % 2, Nat.mod_lt _ (by omega), by omega⟩
  have hi : i < n := by omega
  have h3 := flat_get (f := msgC) (sz := 2) (fun _ => rfl) (List.replicate n ((0, .slice none 0 0, []) : OM)) i (by simpa using hi) q hq
  rw [List.getElem?_eq_getElem h2, List.getElem_replicate, List.getElem?_eq_getElem hq] at h3
  rw [Option.some.inj h3]
  match q, hq with
  | 0, _ => simp [madeCells, msgC]
  | 1, _ => simp [madeCells, msgC]
/-- A row of empty messages, newly made. -/
theorem OwnRaw.made {g n : Nat} (h : w.ownsRow B TM 2 (.slice (some ⟨g, 0, none⟩) n n) n (madeCells #[.int .i64 0, .slice none 0 0] (n * 2)).toList) : OwnRaw w B TM TF (.slice (some ⟨g, 0, none⟩) n n) (List.replicate n (0, .slice none 0 0, [])) := by
  rw [made_two] at h
  refine ⟨by simpa using h, fun i hi => ?_, fun i hi => ?_, fun i j hi hj _ => ?_⟩
  · simp only [List.getElem_replicate]; exact World.ownsRow_nil w B TF 5
  · simp only [List.getElem_replicate]; exact .inl rfl
  · simp only [List.getElem_replicate]; exact .inl rfl
end
end Go.Proofs.YtpkofbdfnbpfpaaGreat.Num


/-
  What Compile gives, at a violation or none, as a schema in memory of its own; and what the exact law on it holds beside its calls. For any program.
-/
namespace Go.Proofs.YtpkofbdfnbpfpaaGreat.Num
open Go.RowKit Go.Proofs
set_option linter.unusedVariables false

/-- What Compile gives: the schema (a Value) and the violation, as the description is. -/
def Compiled (w w' : World) (r : List RM) (f : Int × Int × Int) (u : Value) : Prop :=
  First r f ∧ ((f.1 ≠ 0 ∧ u = .slice none 0 0) ∨ (f.1 = 0 ∧ ∃ ms, plain ms = compileR r ∧ OwnIn w' w.heap.size w'.heap.size u ms))
/-- The same, its rows owned, with their types: so that more can be appended. -/
def CompiledO (w w' : World) (TM TF : TypeId) (r : List RM) (f : Int × Int × Int) (u : Value) : Prop :=
  First r f ∧ ((f.1 ≠ 0 ∧ u = .slice none 0 0) ∨ (f.1 = 0 ∧ ∃ ms, plain ms = compileR r ∧ OwnRaw w' w.heap.size TM TF u ms))
theorem CompiledO.plain {w w' : World} {TM TF : TypeId} {r : List RM} {f : Int × Int × Int} {u : Value} (h : CompiledO w w' TM TF r f u) : Compiled w w' r f u :=
  ⟨h.1, h.2.imp id fun ⟨h0, ms, hp, ho⟩ => ⟨h0, ms, hp, ho.inZone⟩⟩
theorem OwnRaw.base {w : World} {B B' : Nat} {TM TF : TypeId} {v : Value} {ms : List OM} (h : OwnRaw w B TM TF v ms) (hB : B' ≤ B) : OwnRaw w B' TM TF v ms :=
  ⟨ownsRow_base h.row hB, fun i hi => ownsRow_base (h.fields i hi) hB, h.apart, h.each⟩
/-- The schema that Compile gives, told by a list. -/
def resS (r : List RM) (f : Int × Int × Int) : List RM := if f.1 = 0 then compileR r else []
theorem ownIn_nil (w : World) (lo hi : Nat) : OwnIn w lo hi (.slice none 0 0) [] :=
  ⟨fun b hb => (by cases hb), fun j hj => (by simp at hj), .inl ⟨rfl, _, _, rfl⟩, .inl ⟨rfl, rfl⟩⟩
theorem Compiled.own {w w' : World} {r : List RM} {f : Int × Int × Int} {u : Value} (h : Compiled w w' r f u) : First r f ∧ ∃ ms, plain ms = resS r f ∧ OwnIn w' w.heap.size w'.heap.size u ms := by
  obtain ⟨hf, hu⟩ := h
  refine ⟨hf, ?_⟩
  unfold resS
  rcases hu with ⟨h0, rfl⟩ | ⟨h0, ms, hp, ho⟩
  · rw [if_neg h0]; exact ⟨[], rfl, ownIn_nil _ _ _⟩
  · rw [if_pos h0]; exact ⟨ms, hp, ho⟩
theorem comp_small {r : List RM} {N : Nat} (h : ∀ m ∈ r, m.2.length ≤ N) : ∀ (l acc : List RM), (∀ m ∈ l, m.2.length ≤ N) → (∀ m ∈ acc, m.2.length ≤ N) → ∀ m ∈ l.foldl (compStep r) acc, m.2.length ≤ N
  | [], acc, _, ha => ha
  | x :: l, acc, hl, ha => by
    rw [List.foldl_cons]
    refine comp_small h l _ (fun m hm => hl m (List.mem_cons_of_mem _ hm)) fun m hm => ?_
    unfold compStep at hm
    rcases List.mem_or_eq_of_mem_set hm with h1 | h1
    · exact ha m h1
    · subst h1; simp only; rw [compFs_len]; exact hl x List.mem_cons_self
/-- What the exact law holds: the argument, the reference's answer, the call's argument and its answer, each where it lies. -/
structure LC (w : World) (gA gW loX gX gG : Nat) (uA : Value) (t : List RM) (uW : Value) (rs : List RM) (uX : Value) (mx : List OM) (uG : Value) (mg : List OM) (F1 F2 F3 : Int) : Prop where
  A : Holds w gA gA uA t
  W : Holds w gW gW uW rs
  V : Box w (gW + 1) [.int .i64 F1, .int .i64 F2, .int .i64 F3]
  X : Box w gX [uX]
  OX : OwnIn w loX gX uX mx
  G : Box w gG [uG]
  U : Box w (gG + 1) [.int .i64 F1, .int .i64 F2, .int .i64 F3]
  OG : OwnIn w (gX + 1) gG uG mg
  lt : gA < loX ∧ gW + 1 < loX ∧ loX ≤ gX ∧ gX + 1 ≤ gG ∧ gG + 2 ≤ w.heap.size
section
variable {w w' : World} {gA gW loX gX gG : Nat} {uA : Value} {t : List RM} {uW : Value} {rs : List RM} {uX : Value} {mx : List OM} {uG : Value} {mg : List OM} {F1 F2 F3 : Int}
theorem LC.below (h : LC w gA gW loX gX gG uA t uW rs uX mx uG mg F1 F2 F3) (hb : Below w.heap.size w w') : LC w' gA gW loX gX gG uA t uW rs uX mx uG mg F1 F2 F3 := by
  have hl := h.lt
  have hs := hb.size
  exact ⟨h.A.all hb, h.W.all hb, h.V.below hb h.V.1, h.X.below hb h.X.1, h.OX.below hb (by omega), h.G.below hb h.G.1, h.U.below hb h.U.1, h.OG.below hb (by omega), by omega⟩
theorem LC.drew (h : LC w gA gW loX gX gG uA t uW rs uX mx uG mg F1 F2 F3) : LC w.drew gA gW loX gX gG uA t uW rs uX mx uG mg F1 F2 F3 :=
  ⟨h.A, h.W, h.V, h.X, h.OX.drew, h.G, h.U, h.OG.drew, h.lt⟩
/-- The same without the call's own argument (it has been marked). -/
structure LD (w : World) (gA gW gX gG : Nat) (uA : Value) (t : List RM) (uW : Value) (rs : List RM) (uG : Value) (mg : List OM) (F1 F2 F3 : Int) : Prop where
  A : Holds w gA gA uA t
  W : Holds w gW gW uW rs
  V : Box w (gW + 1) [.int .i64 F1, .int .i64 F2, .int .i64 F3]
  G : Box w gG [uG]
  U : Box w (gG + 1) [.int .i64 F1, .int .i64 F2, .int .i64 F3]
  OG : OwnIn w (gX + 1) gG uG mg
  lt : gA ≤ gX ∧ gW + 1 ≤ gX ∧ gX + 1 ≤ gG ∧ gG + 2 ≤ w.heap.size
theorem LC.marked (h : LC w gA gW loX gX gG uA t uW rs uX mx uG mg F1 F2 F3) (hz : Zone loX gX w w') : LD w' gA gW gX gG uA t uW rs uG mg F1 F2 F3 := by
  have hl := h.lt
  have hs := hz.size
  exact ⟨h.A.zone hz (by omega) (by omega), h.W.zone hz (by omega) (by omega), h.V.zone hz (by omega), h.G.zone hz (by omega), h.U.zone hz (by omega), h.OG.zone hz (by omega) (by omega), by omega⟩
theorem LD.below (h : LD w gA gW gX gG uA t uW rs uG mg F1 F2 F3) (hb : Below w.heap.size w w') : LD w' gA gW gX gG uA t uW rs uG mg F1 F2 F3 := by
  have hl := h.lt
  have hs := hb.size
  exact ⟨h.A.all hb, h.W.all hb, h.V.below hb h.V.1, h.G.below hb h.G.1, h.U.below hb h.U.1, h.OG.below hb (by omega), by omega⟩
/-- The same, the answer marked too. -/
structure LE (w : World) (gA gW gX gG : Nat) (uA : Value) (t : List RM) (uW : Value) (rs : List RM) (uG : Value) (mg : List OM) (F1 F2 F3 : Int) : Prop where
  A : Holds w gA gA uA t
  W : Holds w gW gW uW rs
  V : Box w (gW + 1) [.int .i64 F1, .int .i64 F2, .int .i64 F3]
  G : Box w gG [uG]
  OG : MarkedIn w (gX + 1) gG uG 1 mg
  lt : gA ≤ gX ∧ gW + 1 ≤ gX ∧ gX + 1 ≤ gG ∧ gG + 2 ≤ w.heap.size
theorem LD.marked (h : LD w gA gW gX gG uA t uW rs uG mg F1 F2 F3) (hz : Zone (gX + 1) gG w w') (hm : MarkedIn w' (gX + 1) gG uG 1 mg) : LE w' gA gW gX gG uA t uW rs uG mg F1 F2 F3 := by
  have hl := h.lt
  have hs := hz.size
  exact ⟨h.A.zone hz (by omega) (by omega), h.W.zone hz (by omega) (by omega), h.V.zone hz (by omega), h.G.zone hz (by omega), hm, by omega⟩
theorem LE.below (h : LE w gA gW gX gG uA t uW rs uG mg F1 F2 F3) (hb : Below w.heap.size w w') : LE w' gA gW gX gG uA t uW rs uG mg F1 F2 F3 := by
  have hl := h.lt
  have hs := hb.size
  exact ⟨h.A.all hb, h.W.all hb, h.V.below hb h.V.1, h.G.below hb h.G.1, h.OG.below hb (by omega), by omega⟩
end
end Go.Proofs.YtpkofbdfnbpfpaaGreat.Num


/-
  The walk of the reference's Compile: the first violation, or the shapes in the order of their Ids, each in memory of the call's own.
-/
namespace Go.Proofs.YtpkofbdfnbpfpaaGreat.Num
open Go.RowKit Go.Proofs
set_option linter.unusedVariables false
set_option linter.unusedSimpArgs false

theorem infoShp : (Tryz.prog.info? 113).map (fun i => (i.zero, i.size, i.bytes)) = some (some (.agg #[.int .i64 0, .slice none 0 0]), 2, 32) := by kernel_rfl
/-- What stands while the shapes are laid: the call's variables, and the shapes so far. -/
def CSt (wr : World) (B V O n cap : Nat) (a : Option Addr) (F2 F3 : Int) (TM TF : TypeId) (ms : List OM) : Prop :=
  (Box wr B [.slice a n cap] ∧ Box wr (B + 1) [.slice none 0 0] ∧ Box wr (B + 1 + 1) [.int .i64 0, .int .i64 0, .int .i64 0] ∧ Box wr V [.int .i64 0, .int .i64 F2, .int .i64 F3] ∧ Box wr O [.slice (some ⟨V + 1, 0, none⟩) n n]) ∧
  OwnRaw wr (V + 1) TM TF (.slice (some ⟨V + 1, 0, none⟩) n n) ms ∧ ms.length = n ∧ (B + 1 + 1 < V ∧ V + 1 < O ∧ O < wr.heap.size)
section
variable {wr wx : World} {B V O n cap : Nat} {a : Option Addr} {F2 F3 : Int} {TM TF : TypeId} {ms : List OM}
theorem CSt.below (h : CSt wr B V O n cap a F2 F3 TM TF ms) (hb : Below wr.heap.size wr wx) : CSt wx B V O n cap a F2 F3 TM TF ms := by
  obtain ⟨⟨h1, h2, h3, h4, h5⟩, h6, h7, h8, h9, h10⟩ := h
  exact ⟨⟨h1.below hb h1.1, h2.below hb h2.1, h3.below hb h3.1, h4.below hb h4.1, h5.below hb h5.1⟩, h6.below hb, h7, h8, h9, Nat.lt_of_lt_of_le h10 hb.size⟩
/-- The i-th shape is laid: its fields in a block newer than all of the others. -/
theorem CSt.put {N i : Nat} {u : Value} {id : Int} {l : List RF} (h : CSt wx B V O n cap a F2 F3 TM TF ms) (hi : i < n) (hu : FOwn wx (V + 1) TF (id, u, l)) (hN : ∀ b, u.ownBlock = some b → N ≤ b) (hold : ∀ j (hj : j < ms.length) b, ms[j].2.1.ownBlock = some b → b < N) (hV : V + 1 < N) :
    CSt ((wx.setCell ⟨V + 1, i * 2, none⟩ (.int .i64 id)).setCell ⟨V + 1, i * 2 + 1, none⟩ u) B V O n cap a F2 F3 TM TF (ms.set i (id, u, l)) := by
  obtain ⟨⟨h1, h2, h3, h4, h5⟩, h6, h7, h8, h9, h10⟩ := h
  refine ⟨⟨(h1.other (by simp; omega) _).other (by simp; omega) _, (h2.other (by simp; omega) _).other (by simp; omega) _, (h3.other (by simp; omega) _).other (by simp; omega) _, (h4.other (by simp) _).other (by simp) _, (h5.other (by simp; omega) _).other (by simp; omega) _⟩, ?_, by simpa using h7, h8, h9, by simpa [World.setCell] using h10⟩
  subst h7
  refine h6.setMsg i hi hu (fun e => by have := hN _ e; omega) fun j hj => ?_
  refine ⟨?_, ?_⟩
  · cases hb : ms[j].2.1.ownBlock with
    | none => exact .inl hb
    | some b => exact .inr fun e => by have h1 := hold j hj b hb; rw [hb] at e; have h2 := hN b e.symm; omega
  · cases hb : u.ownBlock with
    | none => exact .inl hb
    | some b => exact .inr fun e => by have h1 := hN b hb; rw [hb] at e; have h2 := hold j hj b e.symm; omega
end
theorem undrewB {w w' : World} (h : Below w.drew.heap.size w.drew w') : Below w.heap.size w w' := ⟨h.os, h.tape, h.output, h.size, h.block⟩
theorem plain_set (ms : List OM) (i : Nat) (m : OM) : plain (ms.set i m) = (plain ms).set i (m.1, m.2.2) := by unfold plain; rw [List.map_set]
set_option maxHeartbeats 8000000 in
set_option maxRecDepth 100000 in
theorem specCompile_own (v : Value) (r : List RM) (w : World) (h : RawAt w (· < w.heap.size) v r) (hr : Small r) :
    Calls Tryz.prog 120 #[v] w fun e w' => ∃ f u, CompiledO w w' 113 117 r f u ∧ e = .returned (.tuple #[.agg #[u], violV f]) ∧ Below w.heap.size w w' := by
  obtain ⟨i0, hi, hz0, hz1, hz2⟩ := info_parts infoShp
  obtain ⟨u, rfl, hu⟩ := h
  obtain ⟨a, cap, rfl⟩ := hu.len
  have H := Lib.hid hu
  have Hsm := Lib.hid hr
  have hr1 := hr.1
  have Hr2 := Lib.hid hr.2
  clear hu hr
  go_enter Tryz.func120, Tryz.ntmps120
  go_wp2_with fail
  have hb3 : Below w.heap.size w (((w.alloc (.cells #[.slice a r.length cap] 149)).alloc (.cells #[.slice none 0 0] 26)).alloc (.cells #[.int .i64 0, .int .i64 0, .int .i64 0] 144)) := (((Below.refl _ _).alloc (Nat.le_refl _) _).alloc (by simp) _).alloc (by simp; omega) _
  have hs3 : Box (((w.alloc (.cells #[.slice a r.length cap] 149)).alloc (.cells #[.slice none 0 0] 26)).alloc (.cells #[.int .i64 0, .int .i64 0, .int .i64 0] 144)) w.heap.size [.slice a r.length cap] := ((Box.fresh _ _ _).alloc _).alloc _
  have hx3 : Box (((w.alloc (.cells #[.slice a r.length cap] 149)).alloc (.cells #[.slice none 0 0] 26)).alloc (.cells #[.int .i64 0, .int .i64 0, .int .i64 0] 144)) (w.heap.size + 1) [.slice none 0 0] := by
    have h := (Box.fresh (w.alloc (.cells #[.slice a r.length cap] 149)) #[.slice none 0 0] 26).alloc (.cells #[.int .i64 0, .int .i64 0, .int .i64 0] 144)
    rwa [show (w.alloc (.cells #[.slice a r.length cap] 149)).heap.size = w.heap.size + 1 by simp] at h
  have ho3 : Box (((w.alloc (.cells #[.slice a r.length cap] 149)).alloc (.cells #[.slice none 0 0] 26)).alloc (.cells #[.int .i64 0, .int .i64 0, .int .i64 0] 144)) (w.heap.size + 1 + 1) [.int .i64 0, .int .i64 0, .int .i64 0] := by
    have h := Box.fresh ((w.alloc (.cells #[.slice a r.length cap] 149)).alloc (.cells #[.slice none 0 0] 26)) #[.int .i64 0, .int .i64 0, .int .i64 0] 144
    rwa [show ((w.alloc (.cells #[.slice a r.length cap] 149)).alloc (.cells #[.slice none 0 0] 26)).heap.size = w.heap.size + 1 + 1 by simp] at h
  have hz3 : w.heap.size + 1 + 1 < (((w.alloc (.cells #[.slice a r.length cap] 149)).alloc (.cells #[.slice none 0 0] 26)).alloc (.cells #[.int .i64 0, .int .i64 0, .int .i64 0] 144)).heap.size := by simp
  generalize (((w.alloc (.cells #[.slice a r.length cap] 149)).alloc (.cells #[.slice none 0 0] 26)).alloc (.cells #[.int .i64 0, .int .i64 0, .int .i64 0] 144)) = w3 at hb3 hs3 hx3 ho3 hz3 ⊢
  refine (specFirst_any _ r _ ((show RawAt w (· < w.heap.size) _ r from ⟨_, rfl, H.out⟩).keep (.of_below hb3 fun _ h => h) fun _ h => Nat.lt_of_lt_of_le h hb3.size) Hsm.out).mono ?_
  rintro e w4 ⟨⟨F1, F2, F3⟩, hf, rfl, hb4⟩
  have Hf := Lib.hid hf
  have HS4 := Lib.hid (hs3.below hb4 (by omega))
  have HX4 := Lib.hid (hx3.below hb4 (by omega))
  have HO4 := Lib.hid (ho3.below hb4 (by omega))
  have hl4 := hb3.trans (hb4.mono hb3.size)
  have hz4 := Nat.lt_of_lt_of_le hz3 hb4.size
  clear hf hb3 hs3 hx3 ho3 hb4 hz3
  unfold violV
  obtain ⟨c0, _⟩ := HS4.out.one
  obtain ⟨d0, k0⟩ := HX4.out.one
  obtain ⟨o0, o1, o2, l0, l1, l2⟩ := HO4.out.three
  have hs0 : w.heap.size < w4.heap.size := by omega
  have hs1 : w.heap.size + 1 < w4.heap.size := by omega
  by_cases hF : F1 = 0
  · subst hF
    have hz5 : w.heap.size ≤ w4.heap.size := by omega
    go_wp2_with (refine wpList_make_full _ rfl _ _ 24 rfl (w4.heap.size + 1) 113 i0 _ 2 Tryz.underlying24 hi hz0 hz1 .i64 .i64 _ _ r.length rfl rfl rfl rfl (by rw [hz2]; omega) (by unfold maxLen; omega) (by simp) ?_; intro w5 hown5 hg5)
    have hB5 : Below w.heap.size w w5 := (hl4.alloc (by omega) _).grown hg5 (by simp; omega) (fun k hk => by cases hk)
    have hz50 : w4.heap.size + 1 < w5.heap.size := by
      have h1 := (hown5.lt _ rfl).2
      simpa using h1
    have hgv : (w4.alloc (.cells #[.int .i64 0, .int .i64 F2, .int .i64 F3] 144)).heap.size = w4.heap.size + 1 := by simp
    have hS5 := Box.grown hg5 (HS4.out.alloc (.cells #[.int .i64 0, .int .i64 F2, .int .i64 F3] 144)) (fun k hk => by cases hk)
    have hX5 := Box.grown hg5 (HX4.out.alloc (.cells #[.int .i64 0, .int .i64 F2, .int .i64 F3] 144)) (fun k hk => by cases hk)
    have hO5 := Box.grown hg5 (HO4.out.alloc (.cells #[.int .i64 0, .int .i64 F2, .int .i64 F3] 144)) (fun k hk => by cases hk)
    have hV5 := Box.grown hg5 (Box.fresh w4 #[.int .i64 0, .int .i64 F2, .int .i64 F3] 144) (fun k hk => by cases hk)
    rw [hgv] at hown5
    have HC : Hid (CSt (w5.alloc (.cells #[.slice (some ⟨w4.heap.size + 1, 0, none⟩) r.length r.length] 26)) w.heap.size w4.heap.size w5.heap.size r.length cap a F2 F3 113 117 (List.replicate r.length (0, .slice none 0 0, []))) :=
      Lib.hid ⟨⟨hS5.alloc _, hX5.alloc _, hO5.alloc _, hV5.alloc _, Box.fresh _ _ _⟩, (OwnRaw.made hown5).alloc _, by simp, by omega, by omega, by simp⟩
    have hl6 : Below w.heap.size w (w5.alloc (.cells #[.slice (some ⟨w4.heap.size + 1, 0, none⟩) r.length r.length] 26)) := hB5.alloc hB5.size _
    generalize w5.alloc (.cells #[.slice (some ⟨w4.heap.size + 1, 0, none⟩) r.length r.length] 26) = w6 at HC hl6 ⊢
    generalize w5.heap.size = O at HC ⊢
    generalize w4.heap.size = V at HC ⊢
    clear hB5 hz50 hS5 hX5 hO5 hV5 hown5 hg5 HS4 HX4 HO4 hl4 hz4 c0 d0 k0 o0 o1 o2 l0 l1 l2 hs0 hs1 hz5 hgv
    go_loopw [6] (fun i wr => ∃ k : Nat, k ≤ r.length ∧ i = .int .i64 k ∧ Hid (∃ ms, plain ms = (r.take k).foldl (compStep r) (List.replicate r.length (0, [])) ∧ CSt wr w.heap.size V O r.length cap a F2 F3 113 117 ms) ∧ Below w.heap.size w wr) (fun i _ => r.length - (intOf i).toNat)
    case atStart => exact ⟨0, by omega, rfl, Lib.hid ⟨_, by simp [plain], HC.out⟩, hl6⟩
    case round =>
      clear HC hl6
      obtain ⟨k, hk, rfl, hms, hl⟩ := hrel
      obtain ⟨ms, hp, hst⟩ := hms.out
      have HC := Lib.hid hst
      have Hp := Lib.hid hp
      obtain ⟨wo, hwo⟩ : ∃ wo : World, wo = wr := ⟨_, rfl⟩
      subst hwo
      obtain ⟨c0, _⟩ := hst.1.1.one
      have hzB := hst.1.1.1
      clear hms hp hst
      by_cases hlt : k < r.length
      · have hlti : (k : Int) < (r.length : Int) := by omega
        obtain ⟨b, o, cp, hv, hbC, hcs⟩ := H.out.cells (by omega)
        obtain ⟨rfl, rfl⟩ : a = some ⟨b, o, none⟩ ∧ cap = cp := by injection hv with e1 e2 e3; exact ⟨e1, e3⟩
        obtain ⟨x, d0, d1, hx⟩ := hcs k hlt
        obtain ⟨xa, xc, rfl⟩ := hx.len
        have Hx := Lib.hid hx
        have hfl := Hr2.out _ (List.getElem_mem hlt)
        have Hnext : Hid (∀ ms' : List OM, plain ms' = (plain ms).set (rankR r r[k].1) (r[k].1, compFs r r[k].2) → plain ms' = (r.take (k + 1)).foldl (compStep r) (List.replicate r.length (0, []))) := Lib.hid fun ms' h => by
          rw [h, fold_take _ _ _ _ hlt, ← Hp.out]; rfl
        have hrk := rank_lt hlt
        clear hcs hv hx
        rw [← hl.cell (p := ⟨b, _, none⟩) hbC] at d0 d1
        generalize r[k] = m at d0 d1 Hx hfl Hnext hrk
        obtain ⟨id, fs⟩ := m
        simp only at d0 d1 Hx hfl Hnext hrk
        have hbw : b < wo.heap.size := Nat.lt_of_lt_of_le hbC hl.size
        have hz0 := hl.size
        have hX1 := Box.fresh wo #[.int .i64 id, .slice none 0 0] 113
        have hbX : Below wo.heap.size wo (wo.alloc (.cells #[.int .i64 id, .slice none 0 0] 113)) := (Below.refl _ _).alloc (Nat.le_refl _) _
        have hzX : wo.heap.size + 1 ≤ (wo.alloc (.cells #[.int .i64 id, .slice none 0 0] 113)).heap.size := by simp
        have hF0 : FOwn (wo.alloc (.cells #[.int .i64 id, .slice none 0 0] 113)) (wo.heap.size + 1) 117 (id, .slice none 0 0, []) := World.ownsRow_nil _ _ _ 5
        go_wp2_with fail
        go_loopw [8] (fun qi wz => ∃ (q : Nat) (vf : Value), q ≤ fs.length ∧ qi = .int .i64 q ∧ Hid (vf = .slice none 0 0 ∨ ∃ b o c, vf = .slice (some ⟨b, o, none⟩) q c) ∧ Hid (FOwn wz (wo.heap.size + 1) 117 (id, vf, (fs.take q).foldl (fun acc f => putR acc (compF r f)) [])) ∧ Hid (Box wz wo.heap.size [.int .i64 id, vf]) ∧ Below wo.heap.size wo wz ∧ wo.heap.size + 1 ≤ wz.heap.size) (fun qi _ => fs.length - (intOf qi).toNat)
        case atStart => exact ⟨0, _, by omega, rfl, Lib.hid (.inl rfl), Lib.hid (by simpa using hF0), Lib.hid hX1, hbX, hzX⟩
        case round =>
          clear hX1 hbX hzX hF0
          obtain ⟨q, vf, hq, rfl, hvf, hfo, hbx, hbz, hzz⟩ := hrel
          have s0 := (hbz.cell (p := ⟨w.heap.size, 0, none⟩) hzB).trans c0
          have s1 := (hbz.cell (p := ⟨b, _, none⟩) hbw).trans d1
          obtain ⟨m0, m1, g0, g1⟩ := hbx.out.two
          have hzB2 : w.heap.size < wr.heap.size := by omega
          have hzX : wo.heap.size < wr.heap.size := by omega
          have hbz2 : b < wr.heap.size := by omega
          have hlenq : ((fs.take q).foldl (fun acc f => putR acc (compF r f)) []).length = q := by rw [foldPut_len, List.length_take]; simp; omega
          have Hlenq := Lib.hid hlenq
          clear hlenq
          by_cases hqn : q < fs.length
          · have hqi : (q : Int) < (fs.length : Int) := by omega
            obtain ⟨fb, fo, fc, fv, fbC, fcs⟩ := Hx.out.cells (by omega)
            obtain ⟨rfl, rfl⟩ : xa = some ⟨fb, fo, none⟩ ∧ xc = fc := by injection fv with e1 e2 e3; exact ⟨e1, e3⟩
            obtain ⟨x0', x1', x2', x3', x4'⟩ := fcs q hqn
            clear fcs fv
            have hfw : fb < wo.heap.size := Nat.lt_of_lt_of_le fbC hl.size
            rw [← hl.cell (p := ⟨fb, _, none⟩) fbC, ← hbz.cell (p := ⟨fb, _, none⟩) hfw] at x0' x1' x2' x3' x4'
            have hfz : fb < wr.heap.size := Nat.lt_of_lt_of_le hfw hbz.size
            have HF : Hid (∀ z : RF, compF r fs[q] = z → putR ((fs.take q).foldl (fun acc f => putR acc (compF r f)) []) z = (fs.take (q + 1)).foldl (fun acc f => putR acc (compF r f)) []) := Lib.hid fun z hz => by
              rw [fold_take _ _ _ _ hqn, hz]
            generalize fs[q] = f at x0' x1' x2' x3' x4' HF
            obtain ⟨A1, A2, A3, A4, A5⟩ := f
            simp only at x0' x1' x2' x3' x4' HF
            generalize hL : (fs.take q).foldl (fun acc f => putR acc (compF r f)) [] = L at hfo HF Hlenq
            have HL := Lib.hid hL
            clear hL
            obtain ⟨va, vc, hva⟩ : ∃ a c, vf = .slice a L.length c := ownsRow_form hfo.out
            subst hva
            have hVF : Hid (Value.slice va L.length vc = .slice none 0 0 ∨ ∃ b o c, Value.slice va L.length vc = .slice (some ⟨b, o, none⟩) L.length c) := Lib.hid (by
              rcases hvf.out with h | ⟨b', o', c', h⟩
              · exact .inl h
              · exact .inr ⟨b', o', c', by rw [h, Hlenq.out]⟩)
            clear hvf
            have hLl : L.length ≤ 1048576 := by have := Hlenq.out; omega
            have hbA : Below wr.heap.size wr ((wr.alloc (.cells #[.int .i64 A1, .int .i64 A2, .bool A3, .bool A4, .int .i64 A5] 189)).alloc (.cells #[.int .i64 A1, .int .i64 A2, .bool A3, .bool A4, .int .i64 (-1)] 117)) := ((Below.refl _ _).alloc (Nat.le_refl _) _).alloc (by simp) _
            have hxG : Box ((wr.alloc (.cells #[.int .i64 A1, .int .i64 A2, .bool A3, .bool A4, .int .i64 A5] 189)).alloc (.cells #[.int .i64 A1, .int .i64 A2, .bool A3, .bool A4, .int .i64 (-1)] 117)) (wr.heap.size + 1) [.int .i64 A1, .int .i64 A2, .bool A3, .bool A4, .int .i64 (-1)] := by
              have h := Box.fresh (wr.alloc (.cells #[.int .i64 A1, .int .i64 A2, .bool A3, .bool A4, .int .i64 A5] 189)) #[.int .i64 A1, .int .i64 A2, .bool A3, .bool A4, .int .i64 (-1)] 117
              rwa [show (wr.alloc (.cells #[.int .i64 A1, .int .i64 A2, .bool A3, .bool A4, .int .i64 A5] 189)).heap.size = wr.heap.size + 1 by simp] at h
            have Hend : Hid (∀ (wx w9 : World) (z : Int) (g' cap' : Nat), Below wr.heap.size wr wx → compF r (A1, A2, A3, A4, A5) = (A1, A2, A3, A4, z) → w9.ownsRow wx.heap.size 117 5 (.slice (some ⟨g', 0, none⟩) (L.length + 1) cap') (L.length + 1) ((putR L (A1, A2, A3, A4, z)).flatMap fieldC) → Below wx.heap.size wx w9 →
                FOwn (w9.setCell ⟨wo.heap.size, 1, none⟩ (.slice (some ⟨g', 0, none⟩) (L.length + 1) cap')) (wo.heap.size + 1) 117 (id, .slice (some ⟨g', 0, none⟩) (L.length + 1) cap', (fs.take (q + 1)).foldl (fun acc f => putR acc (compF r f)) []) ∧
                Box (w9.setCell ⟨wo.heap.size, 1, none⟩ (.slice (some ⟨g', 0, none⟩) (L.length + 1) cap')) wo.heap.size [.int .i64 id, .slice (some ⟨g', 0, none⟩) (L.length + 1) cap'] ∧
                Below wo.heap.size wo (w9.setCell ⟨wo.heap.size, 1, none⟩ (.slice (some ⟨g', 0, none⟩) (L.length + 1) cap')) ∧ wo.heap.size + 1 ≤ (w9.setCell ⟨wo.heap.size, 1, none⟩ (.slice (some ⟨g', 0, none⟩) (L.length + 1) cap')).heap.size) := Lib.hid fun wx w9 z g' cap' hbx' hz ho hb9 => by
              have h1 := hbx'.size
              have h2 := hb9.size
              have hg' := (ho.lt g' rfl).1
              have hB9 : Below wr.heap.size wr w9 := hbx'.trans (hb9.mono h1)
              refine ⟨?_, ?_, ?_, ?_⟩
              · unfold FOwn
                simp only
                rw [← HF.out _ hz, putR_len]
                exact ownsRow_setCell_other (a := ⟨wo.heap.size, 1, none⟩) (ownsRow_base ho (by omega)) (by simp [Value.ownBlock]; omega) _
              · have := (hbx.out.below hB9 (by omega)).set 1 (.slice (some ⟨g', 0, none⟩) (L.length + 1) cap')
                exact this
              · exact (hbz.trans (hB9.mono (by omega))).setCell (by simp) _
              · simp [World.setCell]; omega
            have Hfat : Hid (∀ wx : World, Below wr.heap.size wr wx → FieldsAt wx (· < wx.heap.size) (.slice va L.length vc) L) := Lib.hid fun wx hb => by
              have h1 := hb.size
              exact (show FieldsAt wr (· < wr.heap.size) _ L from rowAt_of_owns (f := fieldC) (fun _ => rfl) hfo.out (fun k hk => (World.ownsRow.lt hfo.out k hk).2) fun _ _ => rfl).keep (below_sees hb) fun b' hb' => Nat.lt_of_lt_of_le hb' h1
            have Hraw : Hid (∀ wx : World, Below wr.heap.size wr wx → RawAt wx (· < wx.heap.size) (.agg #[.slice (some ⟨b, o, none⟩) r.length cap]) r) := Lib.hid fun wx hb => by
              have h1 : Below w.heap.size w wx := hl.trans ((hbz.trans (hb.mono (by omega))).mono (by omega))
              exact (show RawAt w (· < w.heap.size) _ r from ⟨_, rfl, H.out⟩).keep (below_sees h1) fun _ h => Nat.lt_of_lt_of_le h h1.size
            clear Hx HF HL hfo
            by_cases h8 : A2 = 8
            · subst h8
              have hz8 : Hid (compF r (A1, 8, A3, A4, A5) = (A1, 8, A3, A4, (rankR r A5 : Int))) := Lib.hid rfl
              go_wp2_with fail
              refine (l8Rank_any _ r A5 _ (Hraw.out _ hbA) hr1).mono ?_
              rintro e w8 ⟨rfl, hb8⟩
              have hB8 : Below wr.heap.size wr w8 := hbA.trans (hb8.mono hbA.size)
              have hxG8 := hxG.below hb8 hxG.lt
              have hxX8 := hbx.out.below hB8 hbx.out.lt
              generalize (rankR r A5 : Int) = z at hz8 ⊢
              have hB8' : Below wr.heap.size wr (w8.setCell ⟨wr.heap.size + 1, 4, none⟩ (.int .i64 z)) := hB8.setCell (by simp) _
              obtain ⟨e0, e1, e2, e3, e4, _⟩ := hxG8.fiveT
              have k4 := (hxG8.2 4 (by simp)).2
              have hGlt := hxG8.lt
              clear m0 m1 g0 g1 hxG hbA hb8 s0 s1 x0' x1' x2' x3' x4' hxG8
              obtain ⟨m0, m1, g0, g1⟩ := hxX8.two
              go_wp2_with fail
              refine (l8Put_any _ L (A1, 8, A3, A4, z) _ (Hfat.out _ hB8') hLl hVF.out).mono ?_
              rintro e w9 ⟨g', cap', rfl, hown9, hb9⟩
              have hE := Hend.out _ w9 z g' cap' hB8' hz8.out hown9 hb9
              have hxX9 := hbx.out.below (hB8'.trans (hb9.mono hB8'.size)) hbx.out.lt
              clear m0 m1 g0 g1 e0 e1 e2 e3 e4 k4
              obtain ⟨m0, m1, g0, g1⟩ := hxX9.two
              have HE := Lib.hid hE
              clear hE hown9 hb9
              go_wp2_with fail
              go_roundw
              case rel => exact ⟨q + 1, _, by omega, by go_num, Lib.hid (.inr ⟨g', 0, cap', by rw [← Hlenq.out]⟩), Lib.hid HE.out.1, Lib.hid HE.out.2.1, HE.out.2.2.1, HE.out.2.2.2⟩
              case measure => simp [intOf]; omega
            · have b8 := neB2 h8
              have hz8 : Hid (compF r (A1, A2, A3, A4, A5) = (A1, A2, A3, A4, -1)) := Lib.hid (by unfold compF; simp only; rw [if_neg h8])
              clear h8
              go_wp2_with fail
              clear m0 m1 g0 g1 s0 s1 x0' x1' x2' x3' x4'
              refine (l8Put_any _ L (A1, A2, A3, A4, -1) _ (Hfat.out _ hbA) hLl hVF.out).mono ?_
              rintro e w9 ⟨g', cap', rfl, hown9, hb9⟩
              have hE := Hend.out _ w9 (-1) g' cap' hbA hz8.out hown9 hb9
              have hxX9 := hbx.out.below (hbA.trans (hb9.mono hbA.size)) hbx.out.lt
              obtain ⟨m0, m1, g0, g1⟩ := hxX9.two
              have HE := Lib.hid hE
              clear hE hown9 hb9 hbA hxG
              go_wp2_with fail
              go_roundw
              case rel => exact ⟨q + 1, _, by omega, by go_num, Lib.hid (.inr ⟨g', 0, cap', by rw [← Hlenq.out]⟩), Lib.hid HE.out.1, Lib.hid HE.out.2.1, HE.out.2.2.1, HE.out.2.2.2⟩
              case measure => simp [intOf]; omega
          · have hge : (fs.length : Int) ≤ (q : Int) := by omega
            have hend : decide (q < fs.length) = false := decide_eq_false hqn
            have hqe : fs.take q = fs := List.take_of_length_le (by omega)
            have hfo2 : FOwn wr (wo.heap.size + 1) 117 (id, vf, compFs r fs) := by
              have := hfo.out
              rw [hqe] at this
              exact this
            have Hfo := Lib.hid hfo2
            have HC9 := Lib.hid (HC.out.below hbz)
            have Hold : Hid (∀ j (hj : j < ms.length) b, ms[j].2.1.ownBlock = some b → b < wo.heap.size) := Lib.hid fun j hj b hb => (World.ownsRow.lt (HC.out.2.1.fields j hj) b hb).2
            have HNew : Hid (∀ b, vf.ownBlock = some b → wo.heap.size + 1 ≤ b) := Lib.hid fun b hb => (World.ownsRow.lt hfo2 b hb).1
            have Hvw : Hid (V + 1 < wo.heap.size) := Lib.hid (by have := HC.out.2.2.2; omega)
            have hl9 : Below w.heap.size w wr := hl.trans (hbz.mono hl.size)
            have Hraw9 : RawAt wr.drew (· < wr.drew.heap.size) (.agg #[.slice (some ⟨b, o, none⟩) r.length cap]) r :=
              (show RawAt w (· < w.heap.size) _ r from ⟨_, rfl, H.out⟩).keep (below_sees hl9.drew) fun _ h => Nat.lt_of_lt_of_le h hl9.size
            obtain ⟨q0, _⟩ := HC9.out.1.2.2.2.2.one
            have hOz := HC9.out.1.2.2.2.2.1
            have hmn := HC9.out.2.2.1
            have hrkm : rankR r id < ms.length := by omega
            have hv1 : V + 1 < O ∧ w.heap.size + 1 + 1 < V ∧ V + 1 < wo.heap.size := by have h1 := Hvw.out; have h2 := HC9.out.2.2.2; omega
            have hrki : (rankR r id : Int) < (r.length : Int) := by omega
            obtain ⟨va, vc, hva⟩ : ∃ a c, vf = .slice a (compFs r fs).length c := ownsRow_form hfo2
            subst hva
            clear hqe hfo hfo2 hvf HC Hlenq
            go_wp2_with fail
            go_region_held3 (fun w' => w'.cell? ⟨O, 0, none⟩ = some (.slice (some ⟨V + 1, 0, none⟩) r.length r.length) ∧ w'.cell? ⟨w.heap.size, 0, none⟩ = some (.slice (some ⟨b, o, none⟩) r.length cap) ∧ w'.cell? ⟨wo.heap.size, 0, none⟩ = some (.int .i64 id) ∧ w'.cell? ⟨wo.heap.size, 1, none⟩ = some (.slice va (compFs r fs).length vc))
              (first | exact ⟨q0, s0, m0, m1⟩ | exact ⟨q8, r8, n0, n1⟩ | (refine ⟨?_, ?_, ?_, ?_⟩ <;> (rw [World.cell?_setCell_other _ _ _ _ (by intro e; injection e with e _; omega), World.cell?_setCell_other _ _ _ _ (by intro e; injection e with e _; omega)]; assumption)))
              (first | (go_at_call 153; refine (l8Rank_any _ r id _ Hraw9 hr1).mono ?_; rintro e w8 ⟨rfl, hb8⟩; have HC8 := HC9.out.below (undrewB hb8); have hx8 := hbx.out.drew.below hb8 hbx.out.lt; obtain ⟨n0, n1, _⟩ := hx8.two; obtain ⟨p0, p1, p2, p3⟩ := HC8.2.1.cellsAt hmn (rankR r id) hrkm; have hl8 := hl9.trans ((undrewB hb8).mono hl9.size); have Hfo8 := Lib.hid (ownsRow_below Hfo.out (undrewB hb8) fun k hk => (World.ownsRow.lt Hfo.out k hk).2); have hz8 := hb8.size; obtain ⟨q8, _⟩ := HC8.1.2.2.2.2.one; obtain ⟨r8, _⟩ := HC8.1.1.one))
            all_goals
              have HE : Hid (CSt ((w8.setCell ⟨V + 1, rankR r id * 2, none⟩ (.int .i64 id)).setCell ⟨V + 1, rankR r id * 2 + 1, none⟩ (.slice va (compFs r fs).length vc)) w.heap.size V O r.length cap (some ⟨b, o, none⟩) F2 F3 113 117 (ms.set (rankR r id) (id, .slice va (compFs r fs).length vc, compFs r fs))) :=
                Lib.hid (HC8.put (N := wo.heap.size + 1) hrk (ownsRow_base Hfo8.out (by have := Hvw.out; omega)) HNew.out (fun j hj b hb => by have := Hold.out j hj b hb; omega) (by have := Hvw.out; omega))
              have HP : Hid (plain (ms.set (rankR r id) (id, .slice va (compFs r fs).length vc, compFs r fs)) = (r.take (k + 1)).foldl (compStep r) (List.replicate r.length (0, []))) := Lib.hid (Hnext.out _ (plain_set _ _ _))
              have hVw : w.heap.size ≤ V + 1 := by have := HC8.2.2.2; omega
              clear p0 p1 p2 p3 n0 n1 hx8 HC8 q8 r8
              go_wp2_with fail
              go_roundw
              case rel => exact ⟨k + 1, by omega, by go_num, Lib.hid ⟨_, HP.out, HE.out⟩, (hl8.setCell (by simpa using hVw) _).setCell (by simpa using hVw) _⟩
              case measure => simp [intOf]; omega
      · have hge : (r.length : Int) ≤ (k : Int) := by omega
        have hend : decide (k < r.length) = false := decide_eq_false hlt
        have Hpp : Hid (plain ms = compileR r) := Lib.hid (by rw [Hp.out, List.take_of_length_le (by omega)]; rfl)
        have hvv := HC.out.2.2.2
        obtain ⟨q0, _⟩ := HC.out.1.2.2.2.2.one
        obtain ⟨v0, v1, v2, _⟩ := HC.out.1.2.2.2.1.three
        obtain ⟨d0, k0⟩ := HC.out.1.2.1.one
        obtain ⟨o0, o1, o2, l0, l1, l2⟩ := HC.out.1.2.2.1.three
        have xA : Box ((((wo.setCell ⟨w.heap.size + 1, 0, none⟩ (.slice (some ⟨V + 1, 0, none⟩) r.length r.length)).setCell ⟨w.heap.size + 1 + 1, 0, none⟩ (.int .i64 0)).setCell ⟨w.heap.size + 1 + 1, 1, none⟩ (.int .i64 F2)).setCell ⟨w.heap.size + 1 + 1, 2, none⟩ (.int .i64 F3)).drew (w.heap.size + 1) [.slice (some ⟨V + 1, 0, none⟩) r.length r.length] := ((Box.other (Box.other (Box.other (Box.set HC.out.1.2.1 0 (.slice (some ⟨V + 1, 0, none⟩) r.length r.length)) (a := ⟨w.heap.size + 1 + 1, 0, none⟩) (by simp) (.int .i64 0)) (a := ⟨w.heap.size + 1 + 1, 1, none⟩) (by simp) (.int .i64 F2)) (a := ⟨w.heap.size + 1 + 1, 2, none⟩) (by simp) (.int .i64 F3)) : Box ((((wo.setCell ⟨w.heap.size + 1, 0, none⟩ (.slice (some ⟨V + 1, 0, none⟩) r.length r.length)).setCell ⟨w.heap.size + 1 + 1, 0, none⟩ (.int .i64 0)).setCell ⟨w.heap.size + 1 + 1, 1, none⟩ (.int .i64 F2)).setCell ⟨w.heap.size + 1 + 1, 2, none⟩ (.int .i64 F3)) _ _).drew
        have oA : Box ((((wo.setCell ⟨w.heap.size + 1, 0, none⟩ (.slice (some ⟨V + 1, 0, none⟩) r.length r.length)).setCell ⟨w.heap.size + 1 + 1, 0, none⟩ (.int .i64 0)).setCell ⟨w.heap.size + 1 + 1, 1, none⟩ (.int .i64 F2)).setCell ⟨w.heap.size + 1 + 1, 2, none⟩ (.int .i64 F3)).drew (w.heap.size + 1 + 1) [.int .i64 0, .int .i64 F2, .int .i64 F3] := ((Box.set (Box.set (Box.set (Box.other HC.out.1.2.2.1 (a := ⟨w.heap.size + 1, 0, none⟩) (by simp) (.slice (some ⟨V + 1, 0, none⟩) r.length r.length)) 0 (.int .i64 0)) 1 (.int .i64 F2)) 2 (.int .i64 F3)) : Box ((((wo.setCell ⟨w.heap.size + 1, 0, none⟩ (.slice (some ⟨V + 1, 0, none⟩) r.length r.length)).setCell ⟨w.heap.size + 1 + 1, 0, none⟩ (.int .i64 0)).setCell ⟨w.heap.size + 1 + 1, 1, none⟩ (.int .i64 F2)).setCell ⟨w.heap.size + 1 + 1, 2, none⟩ (.int .i64 F3)) _ _).drew
        obtain ⟨xA0, _⟩ := xA.one
        obtain ⟨oA0, oA1, oA2, _⟩ := Box.three oA
        clear xA oA
        have PA : Hid (CompiledO w ((((wo.setCell ⟨w.heap.size + 1, 0, none⟩ (.slice (some ⟨V + 1, 0, none⟩) r.length r.length)).setCell ⟨w.heap.size + 1 + 1, 0, none⟩ (.int .i64 0)).setCell ⟨w.heap.size + 1 + 1, 1, none⟩ (.int .i64 F2)).setCell ⟨w.heap.size + 1 + 1, 2, none⟩ (.int .i64 F3)).drew 113 117 r (0, F2, F3) (.slice (some ⟨V + 1, 0, none⟩) r.length r.length)) := Lib.hid ⟨Hf.out, .inr ⟨rfl, ms, Hpp.out, by
          have h := (OwnRaw.other (OwnRaw.other (OwnRaw.other (OwnRaw.other HC.out.2.1 (p := ⟨w.heap.size + 1, 0, none⟩) (.slice (some ⟨V + 1, 0, none⟩) r.length r.length) (HC.out.2.1.out (k := w.heap.size + 1) (by omega)).1 (HC.out.2.1.out (k := w.heap.size + 1) (by omega)).2) (p := ⟨w.heap.size + 1 + 1, 0, none⟩) (.int .i64 0) (HC.out.2.1.out (k := w.heap.size + 1 + 1) (by omega)).1 (HC.out.2.1.out (k := w.heap.size + 1 + 1) (by omega)).2) (p := ⟨w.heap.size + 1 + 1, 1, none⟩) (.int .i64 F2) (HC.out.2.1.out (k := w.heap.size + 1 + 1) (by omega)).1 (HC.out.2.1.out (k := w.heap.size + 1 + 1) (by omega)).2) (p := ⟨w.heap.size + 1 + 1, 2, none⟩) (.int .i64 F3) (HC.out.2.1.out (k := w.heap.size + 1 + 1) (by omega)).1 (HC.out.2.1.out (k := w.heap.size + 1 + 1) (by omega)).2)
          exact h.drew.base (by omega)⟩⟩
        have xB : Box ((((wo.setCell ⟨w.heap.size + 1 + 1, 0, none⟩ (.int .i64 0)).setCell ⟨w.heap.size + 1 + 1, 1, none⟩ (.int .i64 F2)).setCell ⟨w.heap.size + 1 + 1, 2, none⟩ (.int .i64 F3)).setCell ⟨w.heap.size + 1, 0, none⟩ (.slice (some ⟨V + 1, 0, none⟩) r.length r.length)).drew (w.heap.size + 1) [.slice (some ⟨V + 1, 0, none⟩) r.length r.length] := ((Box.set (Box.other (Box.other (Box.other HC.out.1.2.1 (a := ⟨w.heap.size + 1 + 1, 0, none⟩) (by simp) (.int .i64 0)) (a := ⟨w.heap.size + 1 + 1, 1, none⟩) (by simp) (.int .i64 F2)) (a := ⟨w.heap.size + 1 + 1, 2, none⟩) (by simp) (.int .i64 F3)) 0 (.slice (some ⟨V + 1, 0, none⟩) r.length r.length)) : Box ((((wo.setCell ⟨w.heap.size + 1 + 1, 0, none⟩ (.int .i64 0)).setCell ⟨w.heap.size + 1 + 1, 1, none⟩ (.int .i64 F2)).setCell ⟨w.heap.size + 1 + 1, 2, none⟩ (.int .i64 F3)).setCell ⟨w.heap.size + 1, 0, none⟩ (.slice (some ⟨V + 1, 0, none⟩) r.length r.length)) _ _).drew
        have oB : Box ((((wo.setCell ⟨w.heap.size + 1 + 1, 0, none⟩ (.int .i64 0)).setCell ⟨w.heap.size + 1 + 1, 1, none⟩ (.int .i64 F2)).setCell ⟨w.heap.size + 1 + 1, 2, none⟩ (.int .i64 F3)).setCell ⟨w.heap.size + 1, 0, none⟩ (.slice (some ⟨V + 1, 0, none⟩) r.length r.length)).drew (w.heap.size + 1 + 1) [.int .i64 0, .int .i64 F2, .int .i64 F3] := ((Box.other (Box.set (Box.set (Box.set HC.out.1.2.2.1 0 (.int .i64 0)) 1 (.int .i64 F2)) 2 (.int .i64 F3)) (a := ⟨w.heap.size + 1, 0, none⟩) (by simp) (.slice (some ⟨V + 1, 0, none⟩) r.length r.length)) : Box ((((wo.setCell ⟨w.heap.size + 1 + 1, 0, none⟩ (.int .i64 0)).setCell ⟨w.heap.size + 1 + 1, 1, none⟩ (.int .i64 F2)).setCell ⟨w.heap.size + 1 + 1, 2, none⟩ (.int .i64 F3)).setCell ⟨w.heap.size + 1, 0, none⟩ (.slice (some ⟨V + 1, 0, none⟩) r.length r.length)) _ _).drew
        obtain ⟨xB0, _⟩ := xB.one
        obtain ⟨oB0, oB1, oB2, _⟩ := Box.three oB
        clear xB oB
        have PB : Hid (CompiledO w ((((wo.setCell ⟨w.heap.size + 1 + 1, 0, none⟩ (.int .i64 0)).setCell ⟨w.heap.size + 1 + 1, 1, none⟩ (.int .i64 F2)).setCell ⟨w.heap.size + 1 + 1, 2, none⟩ (.int .i64 F3)).setCell ⟨w.heap.size + 1, 0, none⟩ (.slice (some ⟨V + 1, 0, none⟩) r.length r.length)).drew 113 117 r (0, F2, F3) (.slice (some ⟨V + 1, 0, none⟩) r.length r.length)) := Lib.hid ⟨Hf.out, .inr ⟨rfl, ms, Hpp.out, by
          have h := (OwnRaw.other (OwnRaw.other (OwnRaw.other (OwnRaw.other HC.out.2.1 (p := ⟨w.heap.size + 1 + 1, 0, none⟩) (.int .i64 0) (HC.out.2.1.out (k := w.heap.size + 1 + 1) (by omega)).1 (HC.out.2.1.out (k := w.heap.size + 1 + 1) (by omega)).2) (p := ⟨w.heap.size + 1 + 1, 1, none⟩) (.int .i64 F2) (HC.out.2.1.out (k := w.heap.size + 1 + 1) (by omega)).1 (HC.out.2.1.out (k := w.heap.size + 1 + 1) (by omega)).2) (p := ⟨w.heap.size + 1 + 1, 2, none⟩) (.int .i64 F3) (HC.out.2.1.out (k := w.heap.size + 1 + 1) (by omega)).1 (HC.out.2.1.out (k := w.heap.size + 1 + 1) (by omega)).2) (p := ⟨w.heap.size + 1, 0, none⟩) (.slice (some ⟨V + 1, 0, none⟩) r.length r.length) (HC.out.2.1.out (k := w.heap.size + 1) (by omega)).1 (HC.out.2.1.out (k := w.heap.size + 1) (by omega)).2)
          exact h.drew.base (by omega)⟩⟩
        go_wp2_with fail
        go_region_with fail
        all_goals
          go_wp2_with fail
          refine bodyPost_ret (v := .tuple #[.agg #[.slice (some ⟨V + 1, 0, none⟩) r.length r.length], .agg #[.int .i64 0, .int .i64 F2, .int .i64 F3]]) (by simp [results, Tryz.results120, go_sem, xA0, oA0, oA1, oA2, xB0, oB0, oB1, oB2]) rfl ⟨(0, F2, F3), _, (by first | exact PA.out | exact PB.out), rfl, ?_⟩
          refine Below.drew ?_
          repeat (first | exact hl | refine Below.setCell ?_ (by first | (show w.heap.size ≤ w.heap.size + 1 + 1; omega) | (show w.heap.size ≤ w.heap.size + 1; omega)) _)
  · have bF := neB2 hF
    have bF' : (F1 != 0) = true := by rw [bne, bF]; rfl
    have hne := Lib.hid hF
    clear hF
    have xA : Box (((((w4.setCell ⟨w.heap.size + 1, 0, none⟩ (.slice none 0 0)).setCell ⟨w.heap.size + 1 + 1, 0, none⟩ (.int .i64 F1)).setCell ⟨w.heap.size + 1 + 1, 1, none⟩ (.int .i64 F2)).setCell ⟨w.heap.size + 1 + 1, 2, none⟩ (.int .i64 F3)).alloc (.cells #[.int .i64 F1, .int .i64 F2, .int .i64 F3] 144)).drew (w.heap.size + 1) [.slice none 0 0] := (Box.alloc ((((HX4.out.set 0 (.slice none 0 0)).other (a := ⟨w.heap.size + 1 + 1, 0, none⟩) (by simp) (.int .i64 F1)).other (a := ⟨w.heap.size + 1 + 1, 1, none⟩) (by simp) (.int .i64 F2)).other (a := ⟨w.heap.size + 1 + 1, 2, none⟩) (by simp) (.int .i64 F3)) _).drew
    have oA : Box (((((w4.setCell ⟨w.heap.size + 1, 0, none⟩ (.slice none 0 0)).setCell ⟨w.heap.size + 1 + 1, 0, none⟩ (.int .i64 F1)).setCell ⟨w.heap.size + 1 + 1, 1, none⟩ (.int .i64 F2)).setCell ⟨w.heap.size + 1 + 1, 2, none⟩ (.int .i64 F3)).alloc (.cells #[.int .i64 F1, .int .i64 F2, .int .i64 F3] 144)).drew (w.heap.size + 1 + 1) [.int .i64 F1, .int .i64 F2, .int .i64 F3] := (Box.alloc (Box.set (Box.set (Box.set (HO4.out.other (a := ⟨w.heap.size + 1, 0, none⟩) (by simp) (.slice none 0 0)) 0 (.int .i64 F1)) 1 (.int .i64 F2)) 2 (.int .i64 F3)) _).drew
    obtain ⟨xA0, _⟩ := xA.one
    obtain ⟨oA0, oA1, oA2, _⟩ := Box.three oA
    clear xA oA
    have xB : Box (((((w4.setCell ⟨w.heap.size + 1 + 1, 0, none⟩ (.int .i64 F1)).setCell ⟨w.heap.size + 1 + 1, 1, none⟩ (.int .i64 F2)).setCell ⟨w.heap.size + 1 + 1, 2, none⟩ (.int .i64 F3)).setCell ⟨w.heap.size + 1, 0, none⟩ (.slice none 0 0)).alloc (.cells #[.int .i64 F1, .int .i64 F2, .int .i64 F3] 144)).drew (w.heap.size + 1) [.slice none 0 0] := (Box.alloc (Box.set (((HX4.out.other (a := ⟨w.heap.size + 1 + 1, 0, none⟩) (by simp) (.int .i64 F1)).other (a := ⟨w.heap.size + 1 + 1, 1, none⟩) (by simp) (.int .i64 F2)).other (a := ⟨w.heap.size + 1 + 1, 2, none⟩) (by simp) (.int .i64 F3)) 0 (.slice none 0 0)) _).drew
    have oB : Box (((((w4.setCell ⟨w.heap.size + 1 + 1, 0, none⟩ (.int .i64 F1)).setCell ⟨w.heap.size + 1 + 1, 1, none⟩ (.int .i64 F2)).setCell ⟨w.heap.size + 1 + 1, 2, none⟩ (.int .i64 F3)).setCell ⟨w.heap.size + 1, 0, none⟩ (.slice none 0 0)).alloc (.cells #[.int .i64 F1, .int .i64 F2, .int .i64 F3] 144)).drew (w.heap.size + 1 + 1) [.int .i64 F1, .int .i64 F2, .int .i64 F3] := (Box.alloc (Box.other (Box.set (Box.set (Box.set HO4.out 0 (.int .i64 F1)) 1 (.int .i64 F2)) 2 (.int .i64 F3)) (a := ⟨w.heap.size + 1, 0, none⟩) (by simp) (.slice none 0 0)) _).drew
    obtain ⟨xB0, _⟩ := xB.one
    obtain ⟨oB0, oB1, oB2, _⟩ := Box.three oB
    clear xB oB
    go_wp2_with fail
    go_region_with fail
    all_goals
      go_wp2_with fail
      refine bodyPost_ret (v := .tuple #[.agg #[.slice none 0 0], .agg #[.int .i64 F1, .int .i64 F2, .int .i64 F3]]) (by simp [results, Tryz.results120, go_sem, xA0, oA0, oA1, oA2, xB0, oB0, oB1, oB2]) rfl ⟨(F1, F2, F3), _, ⟨Hf.out, .inl ⟨hne.out, rfl⟩⟩, rfl, ?_⟩
      refine Below.drew (Below.alloc ?_ (by simp; omega) _)
      repeat (first | exact hl4 | refine Below.setCell ?_ (by first | (show w.heap.size ≤ w.heap.size + 1 + 1; omega) | (show w.heap.size ≤ w.heap.size + 1; omega)) _)
end Go.Proofs.YtpkofbdfnbpfpaaGreat.Num

