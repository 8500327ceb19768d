/-
  The walks of the reference's l8Rank and l8Put: how many messages have a lesser Id; a field put into its place in a new row; only new memory is written.
-/
import Derived.Test.YthjnpipincpkgaaCompMath
import Derived.Test.YthjnpipincpkgaaCodes
import Derived.Test.YthjnpipincpkgaaRound
import Derived.Test.YthjnpipincpkgaaAppend
import Derived.Deep.QuietTactic
import Derived.Deep.RegionLaw
import Derived.BigQuiet
import Derived.LoopTactic
import Derived.Deep.DeepCutAuto
import Derived.OwnWalk
namespace Go.Proofs.Ythjnpipincpkgaa.Num
open Go.RowKit Go.Proofs
set_option linter.unusedVariables false
set_option linter.unusedSimpArgs false


set_option maxHeartbeats 1000000 in
theorem l8Rank_any (v : Value) (r : List RM) (id : Int) (w : World) (h : RawAt w (· < w.heap.size) v r) (hr : r.length ≤ 1048576) :
    Calls Try.prog 82 #[v, .int .i64 id] w fun e w' => e = .returned (.int .i64 (rankR r id)) ∧ Below w.heap.size w w' := by
  obtain ⟨u, rfl, hu⟩ := h
  obtain ⟨a, cap, rfl⟩ := hu.len
  have H := Lib.hid hu
  clear hu
  go_enter Try.func82, Try.ntmps82
  go_wp2_with fail
  go_loopw [5, 6] (fun nn i wr => ∃ k c : Nat, k ≤ r.length ∧ Hid (c = ((r.take k).filter fun m => decide (m.1 < id)).length) ∧ nn = .int .i64 c ∧ i = .int .i64 k ∧ c ≤ k ∧ Hid (Box wr w.heap.size [.slice a r.length cap]) ∧ Below w.heap.size w wr) (fun _ i _ => r.length - (intOf i).toNat)
  case atStart => exact ⟨0, 0, by omega, Lib.hid (by simp), rfl, rfl, by omega, Lib.hid (Box.fresh _ _ _), (Below.refl _ _).alloc (Nat.le_refl _) _⟩
  case round =>
    obtain ⟨k, c, hk, hc, rfl, rfl, hck, hbx, hbr⟩ := hrel
    obtain ⟨c0, f0⟩ := hbx.out.one
    by_cases hlt : k < r.length
    · have hlti : (k : Int) < (r.length : Int) := by omega
      obtain ⟨b, o, cp, hv, hbC, hcs⟩ := H.out.cells (by omega)
      obtain ⟨rfl, rfl⟩ : a = some ⟨b, o, none⟩ ∧ cap = cp := by injection hv with e1 e2 e3; exact ⟨e1, e3⟩
      obtain ⟨x, d0, d1, hx⟩ := hcs k hlt
      clear hcs hv hx d1
      rw [← hbr.cell (p := ⟨b, _, none⟩) hbC] at d0
      have Hstep : Hid (∀ q : Nat, (if r[k].1 < id then 1 else 0) = q → c + q = ((r.take (k + 1)).filter fun m => decide (m.1 < id)).length) := Lib.hid fun q hq => by rw [rank_take r id k hlt, ← hc.out, hq]
      by_cases he : r[k].1 < id
      · have Hn := Lib.hid (Hstep.out 1 (if_pos he))
        generalize r[k].1 = y at d0 he
        clear hc Hstep
        go_wp2_with fail
        go_roundw
        case rel => exact ⟨k + 1, c + 1, by omega, Hn, by go_num, by go_num, by omega, hbx, hbr⟩
        case measure => simp [intOf]; omega
      · have hb : decide (r[k].1 < id) = false := decide_eq_false he
        have Hn := Lib.hid (Hstep.out 0 (if_neg he))
        generalize r[k].1 = y at d0 hb
        clear he hc Hstep
        go_wp2_with fail
        go_roundw
        case rel => exact ⟨k + 1, c, by omega, Hn, rfl, by go_num, by omega, hbx, hbr⟩
        case measure => simp [intOf]; omega
    · have hge : (r.length : Int) ≤ (k : Int) := by omega
      have hend : decide (k < r.length) = false := decide_eq_false hlt
      have hce : c = rankR r id := by rw [hc.out, List.take_of_length_le (by omega)]; rfl
      go_wp2_with fail
      go_ret
      exact ⟨by rw [hce]; rfl, hbr⟩
theorem ownsRow_drew {w : World} {B : Nat} {T : TypeId} {sz n : Nat} {v : Value} {xs : List Value} (h : w.ownsRow B T sz v n xs) : w.drew.ownsRow B T sz v n xs := h
theorem infoFld : (Try.prog.info? 34).map (fun i => (i.zero, i.size, i.bytes)) = some (some (.agg #[.int .i64 0, .int .i64 0, .bool false, .bool false, .int .i64 0]), 5, 32) := by kernel_rfl
theorem fieldC_one (l : List RF) : ∀ u ∈ l.flatMap fieldC, u.oneCell' = true := by
  intro u hu
  obtain ⟨f, _, hf⟩ := List.mem_flatMap.1 hu
  simp only [fieldC, List.mem_cons, List.not_mem_nil, or_false] at hf
  rcases hf with rfl | rfl | rfl | rfl | rfl <;> rfl
/-- The cells of a row of fields, counted from its address. -/
theorem FieldsAt.flat {w : World} {S : Nat → Prop} {ao : Option Addr} {n cap : Nat} {l : List RF} (h : FieldsAt w S (.slice ao n cap) l) : ∀ ad, ao = some ad → ∀ j u, (l.flatMap fieldC)[j]? = some u → w.cell? (ad.add j) = some u := by
  intro ad had j u hj
  subst had
  rcases h with ⟨rfl, _⟩ | ⟨b, o, c, hv, _, _, hc⟩
  · simp at hj
  · injection hv with e1 _ _
    injection e1 with e1
    subst e1
    have hlen : j < l.length * 5 := by
      rcases Nat.lt_or_ge j (l.length * 5) with h | h
      · exact h
      · rw [List.getElem?_eq_none (by rw [flat_len (f := fieldC) (sz := 5) (fun _ => rfl)]; exact h)] at hj; cases hj
    obtain ⟨i, q, hq, rfl⟩ : ∃ i q, q < 5 ∧ j = i * 5 + q := ⟨j / 5, j % 5, Nat.mod_lt _ (by omega), by omega⟩
    have hi : i < l.length := by omega
    rw [flat_get (f := fieldC) (sz := 5) (fun _ => rfl) l i hi q hq] at hj
    obtain ⟨cs, h1, h2, h3⟩ := hc i hi
    unfold fieldR at h2
    subst h2
    have := h3 q (by rw [h1]; exact hq)
    rw [List.getElem?_eq_getElem (by rw [h1]; exact hq)] at hj
    have hadd : (⟨b, o, none⟩ : Addr).add (i * 5 + q) = ⟨b, o + (i * 5 + q), none⟩ := by unfold Addr.add; split <;> simp_all
    rw [← Option.some.inj hj, ← this, hadd]
theorem FieldsAt.drop {w : World} {S : Nat → Prop} {b o cap : Nat} {l : List RF} (h : FieldsAt w S (.slice (some ⟨b, o, none⟩) l.length cap) l) (k : Nat) (hk : k < l.length) : FieldsAt w S (.slice (some ⟨b, o + k * 5, none⟩) (l.length - k) (cap - k)) (l.drop k) := by
  have hlen : (l.drop k).length = l.length - k := List.length_drop
  rcases h with ⟨rfl, _⟩ | ⟨b', o', c, hv, hp, hS, hc⟩
  · simp at hk
  · injection hv with e1 _ e3
    injection e1 with e1
    injection e1 with e1 e4
    subst e1; subst e4; subst e3
    refine .inr ⟨b, o + k * 5, cap - k, by rw [hlen], ⟨by omega, by omega⟩, hS, fun i hi => ?_⟩
    obtain ⟨cs, h1, h2, h3⟩ := hc (k + i) (by omega)
    refine ⟨cs, h1, by rw [List.getElem_drop]; exact h2, fun j hj => ?_⟩
    rw [show o + k * 5 + (i * 5 + j) = o + ((k + i) * 5 + j) by rw [Nat.add_mul]; omega]
    exact h3 j hj
set_option maxHeartbeats 4000000 in
set_option maxRecDepth 100000 in
theorem l8Put_any (v : Value) (l : List RF) (f : RF) (w : World) (hv : FieldsAt w (· < w.heap.size) v l) (hl : l.length ≤ 1048576) (hn : v = .slice none 0 0 ∨ ∃ b o c, v = .slice (some ⟨b, o, none⟩) l.length c) :
    Calls Try.prog 83 #[v, fieldV f] w fun e w' => ∃ g cap, e = .returned (.slice (some ⟨g, 0, none⟩) (l.length + 1) cap) ∧ w'.ownsRow w.heap.size 34 5 (.slice (some ⟨g, 0, none⟩) (l.length + 1) cap) (l.length + 1) ((putR l f).flatMap fieldC) ∧ Below w.heap.size w w' := by
  obtain ⟨j0, hj, hj0, hj1, hj2⟩ := info_parts infoFld
  obtain ⟨a, cap, rfl⟩ := hv.len
  have hcap := hv.cap
  obtain ⟨A1, A2, A3, A4, A5⟩ := f
  have hnil : (a = none ∧ cap = 0) ∨ ∃ b o, a = some ⟨b, o, none⟩ := by
    rcases hn with e | ⟨b, o, c, e⟩
    · injection e with e1 e2 e3; exact .inl ⟨e1, e3⟩
    · injection e with e1 e2 e3; exact .inr ⟨b, o, e1⟩
  have H := Lib.hid hv
  have Hput : Hid (∀ k, k ≤ l.length → (∀ j (hj : j < l.length), j < k → l[j].1 < A1) → (∀ h : k < l.length, ¬ l[k].1 < A1) → putR l (A1, A2, A3, A4, A5) = l.take k ++ (A1, A2, A3, A4, A5) :: l.drop k) := Lib.hid fun k h1 h2 h3 => putR_at l _ k h1 h2 h3
  have Ht : Hid (∀ (wx : World) (k : Nat), k ≤ l.length → Below w.heap.size w wx → FieldsAt wx (· < w.heap.size) (.slice a k cap) (l.take k)) := Lib.hid fun wx k hk hb => (H.out.take k hk cap (by omega)).keep (below_sees hb) fun _ h => h
  have Hlen : Hid (∀ k, k ≤ l.length → ((l.take k).flatMap fieldC).length = k * 5) := Lib.hid fun k hk => by rw [flat_len (f := fieldC) (sz := 5) (fun _ => rfl), List.length_take, Nat.min_eq_left hk]
  have hla : a = none → l.length = 0 := fun e => by
    rcases H.out with ⟨rfl, _⟩ | ⟨b, o, c, hv, _⟩
    · rfl
    · rw [e] at hv; cases hv
  generalize putR l (A1, A2, A3, A4, A5) = R at Hput ⊢
  clear hv hn
  unfold fieldV
  simp only
  have hl1 : Below w.heap.size w (w.alloc (.cells #[.int .i64 A1, .int .i64 A2, .bool A3, .bool A4, .int .i64 A5] 34)) := (Below.refl _ _).alloc (Nat.le_refl _) _
  go_enter Try.func83, Try.ntmps83
  go_wp2_with fail
  go_loopw [5] (fun i wr => ∃ k : Nat, k ≤ l.length ∧ i = .int .i64 k ∧ Hid (∀ j (hj : j < l.length), j < k → l[j].1 < A1) ∧ Hid (Box wr w.heap.size [.int .i64 A1, .int .i64 A2, .bool A3, .bool A4, .int .i64 A5]) ∧ Below w.heap.size w wr) (fun i _ => l.length - (intOf i).toNat)
  case atStart => exact ⟨0, by omega, rfl, Lib.hid fun j _ hj => by omega, Lib.hid (Box.fresh _ _ _), hl1⟩
  case round =>
    obtain ⟨k, hk, rfl, hno, hbx, hbr⟩ := hrel
    obtain ⟨c0, f0⟩ := hbx.out.2 0 (by simp)
    simp only [List.getElem_cons_zero] at c0
    have hzw := hbx.out.1
    by_cases hgo : ∃ h : k < l.length, l[k].1 < A1
    · obtain ⟨hlt, he⟩ := hgo
      have hlti : (k : Int) < (l.length : Int) := by omega
      obtain ⟨b, o, cp, hv, hbC, hcs⟩ := H.out.cells (by omega)
      obtain ⟨rfl, rfl⟩ : a = some ⟨b, o, none⟩ ∧ cap = cp := by injection hv with e1 e2 e3; exact ⟨e1, e3⟩
      obtain ⟨d0, _, _, _, _⟩ := hcs k hlt
      clear hcs hv
      rw [← hbr.cell (p := ⟨b, _, none⟩) hbC] at d0
      have Hn : Hid (∀ j (hj : j < l.length), j < k + 1 → l[j].1 < A1) := Lib.hid fun j hj hjk => by
        by_cases e : j = k
        · subst e; exact he
        · exact hno.out j hj (by omega)
      generalize l[k].1 = y at d0 he
      clear hno
      go_wp2_with fail
      go_quiet (fail)
      go_wp2_with fail
      go_roundw
      case rel => exact ⟨k + 1, by omega, by go_num, Hn, Lib.hid (hbx.out.drewN _), below_drewN hbr _⟩
      case measure => simp [intOf]; omega
    · have HR := Lib.hid (Hput.out k hk hno.out fun h => Int.not_lt.1 fun hh => hgo ⟨h, hh⟩)
      have hkc : (k : Int) ≤ (cap : Int) := by omega
      have hki : (k : Int) ≤ (l.length : Int) := by omega
      obtain ⟨e0, e1, e2, e3, e4, _⟩ := hbx.out.fiveT
      by_cases hlt : k < l.length
      · have hlti : (k : Int) < (l.length : Int) := by omega
        obtain ⟨b, o, cp, hv, hbC, hcs⟩ := H.out.cells (by omega)
        obtain ⟨rfl, rfl⟩ : a = some ⟨b, o, none⟩ ∧ cap = cp := by injection hv with e1 e2 e3; exact ⟨e1, e3⟩
        obtain ⟨d0, _, _, _, _⟩ := hcs k hlt
        clear hcs hv
        rw [← hbr.cell (p := ⟨b, _, none⟩) hbC] at d0
        have hb : decide (l[k].1 < A1) = false := decide_eq_false fun h => hgo ⟨hlt, h⟩
        generalize l[k].1 = y at d0 hb
        clear hno hgo
        go_wp2_with fail
        go_quiet (fail)
        go_upto_region 5 with (at_builtin; refine wpList_append_onto _ (by rfl) (.tmp 23) (.tmp 26) 30 (by rfl) w.heap.size 34 j0 _ 5 32 Try.underlying30 hj hj0 hj1 hj2 (by rfl) (by omega) wr.heap.size 0 0 [] (by rfl) (World.ownsRow_lit _ #[] 0 (by show w.heap.size ≤ wr.heap.size; omega) (by unfold maxLen; omega) (by rfl)) (some ⟨b, o, none⟩) k cap (by rfl) (fun h => by cases h) ((l.take k).flatMap fieldC) (Hlen.out k hk) (FieldsAt.flat (Ht.out _ k hk ((below_drewN hbr _).alloc (by show w.heap.size ≤ wr.heap.size; omega) _))) (fieldC_one _) (by unfold maxLen; omega) (by omega) (by simp; omega) (wr.heap.size + 1) (by simp) ?_; intro g1 cap1 w1 hown1 hg1 hor1 hlt1; simp only [Nat.zero_add] at hown1 ⊢)
        have hB1 : Hid (Below w.heap.size w w1) := Lib.hid (((below_drewN hbr _).alloc (by show w.heap.size ≤ wr.heap.size; omega) _).grown hg1 (by show w.heap.size ≤ _; simp; omega) (fun q hq => by have := Option.some.inj hq; omega))
        have hx1 := Lib.hid (Box.grown hg1 ((hbx.out.drewN _).alloc _) (fun q hq => by have := Option.some.inj hq; omega))
        have hz1 : wr.heap.size + 1 ≤ w1.heap.size := by have := hg1.size; simpa using this
        have hg1b : w.heap.size ≤ g1 := (hown1.lt g1 rfl).1
        clear e0 e1 e2 e3 e4 c0 f0 hbx hbr d0 hg1 hor1
        obtain ⟨e0, e1, e2, e3, e4, _⟩ := hx1.out.fiveT
        have hw1 := hx1.out.1
        have hnew : (w1.alloc (.cells #[.int .i64 A1, .int .i64 A2, .bool A3, .bool A4, .int .i64 A5] 34)).heap[w1.heap.size]? = some (.cells #[.int .i64 A1, .int .i64 A2, .bool A3, .bool A4, .int .i64 A5] 34 (0, 0)) := heap_alloc_new _ _
        have hkne : (cap == k) = false := by rw [beq_eq_false_iff_ne]; omega
        have hkne2 : ¬ cap = k := by omega
        have hwk : w1.heap.size ≤ 0 + w1.heap.size := by omega
        go_region_law (first
          | (refine step_append_onto _ (by rfl) _ _ 30 (by rfl) w.heap.size 34 j0 _ 5 32 Try.underlying30 hj hj0 hj1 hj2 (by rfl) (by omega) g2 (k + 1) cap2 _ (by rfl) hown2 (some ⟨b, o + k * 5, none⟩) (l.length - k) (cap - k) (by rfl) (by intro h; cases h) ((l.drop k).flatMap fieldC) (by rw [flat_len (f := fieldC) (sz := 5) (fun _ => rfl), List.length_drop]) (FieldsAt.flat ((H.out.drop k hlt).keep (below_sees hB2) fun _ h => h)) (fieldC_one _) (by unfold maxLen; omega) (by omega) (by omega) w2.heap.size rfl ?_; intro g3 cap3 w3 hown3 hg3 hor3 hlt3)
          | (refine step_append_onto _ (by rfl) _ _ 30 (by rfl) w.heap.size 34 j0 _ 5 32 Try.underlying30 hj hj0 hj1 hj2 (by rfl) (by omega) g1 k cap1 _ (by rfl) (ownsRow_drew (World.ownsRow.alloc hown1 _)) (some ⟨w1.heap.size, 0, none⟩) 1 1 (by rfl) (by intro h; cases h) [.int .i64 A1, .int .i64 A2, .bool A3, .bool A4, .int .i64 A5] (by rfl) (fun ad had j u hj => by cases had; exact World.news_of_block hnew j u hj) (by intro u hu; simp at hu; rcases hu with rfl | rfl | rfl | rfl | rfl <;> rfl) (by unfold maxLen; omega) (by omega) (by simp; omega) (w1.heap.size + 1) (by simp) ?_; intro g2 cap2 w2 hown2 hg2 hor2 hlt2; have hB2 : Below w.heap.size w w2 := ((hB1.out.alloc (by omega) _).drew).grown hg2 (by simp; omega) (fun q hq => by have := Option.some.inj hq; omega); have hz2 : w1.heap.size + 1 ≤ w2.heap.size := (by have := hg2.size; simpa using this); have hg2b : w.heap.size ≤ g2 := (hown2.lt g2 rfl).1))
        all_goals
          go_wp2_with fail
          go_ret
          have hnn : k + 1 + (l.length - k) = l.length + 1 := by omega
          refine ⟨g3, cap3, by rw [← hnn]; rfl, ?_, hB2.grown hg3 (by omega) (fun q hq => by have := Option.some.inj hq; omega)⟩
          rw [hnn] at hown3
          rw [HR.out, show (l.take k ++ (A1, A2, A3, A4, A5) :: l.drop k).flatMap fieldC = ([] ++ (l.take k).flatMap fieldC ++ [.int .i64 A1, .int .i64 A2, .bool A3, .bool A4, .int .i64 A5]) ++ (l.drop k).flatMap fieldC by simp [fieldC]]
          exact hown3
      · have hend : decide (k < l.length) = false := decide_eq_false hlt
        have hendi : decide ((k : Int) < (l.length : Int)) = false := decide_eq_false (by omega)
        have hge : (l.length : Int) ≤ (k : Int) := by omega
        clear hno hgo
        have d0 : True := trivial
        rcases hnil with ⟨rfl, rfl⟩ | ⟨b, o, rfl⟩
        · obtain rfl : k = 0 := by omega
          obtain rfl : l = [] := List.length_eq_zero_iff.1 (by omega)
          go_wp2_with fail
          go_quiet (fail)
          go_upto_region 5 with fail
          have hB1 : Hid (Below w.heap.size w ((wr.drewN nq).alloc (.cells #[] 34))) := Lib.hid ((below_drewN hbr _).alloc (by show w.heap.size ≤ wr.heap.size; omega) _)
          have hx1 := Lib.hid ((hbx.out.drewN nq).alloc (.cells #[] 34))
          have hz1 : wr.heap.size + 1 ≤ ((wr.drewN nq).alloc (.cells #[] 34)).heap.size := by simp
          have hown1 : ((wr.drewN nq).alloc (.cells #[] 34)).ownsRow w.heap.size 34 5 (.slice (some ⟨wr.heap.size, 0, none⟩) 0 0) 0 [] := World.ownsRow_lit (wr.drewN nq) #[] 0 (by show w.heap.size ≤ wr.heap.size; omega) (by unfold maxLen; omega) (by rfl)
          have hg1b : w.heap.size ≤ wr.heap.size := by omega
          generalize (wr.drewN nq).alloc (.cells #[] 34) = w1 at hB1 hx1 hz1 hown1 ⊢
          clear e0 e1 e2 e3 e4 c0 f0 hbx hbr d0
          obtain ⟨e0, e1, e2, e3, e4, _⟩ := hx1.out.fiveT
          have hw1 := hx1.out.1
          have hnew : (w1.alloc (.cells #[.int .i64 A1, .int .i64 A2, .bool A3, .bool A4, .int .i64 A5] 34)).heap[w1.heap.size]? = some (.cells #[.int .i64 A1, .int .i64 A2, .bool A3, .bool A4, .int .i64 A5] 34 (0, 0)) := heap_alloc_new _ _
          go_region_law (first
            | (refine step_append_onto _ (by rfl) _ _ 30 (by rfl) w.heap.size 34 j0 _ 5 32 Try.underlying30 hj hj0 hj1 hj2 (by rfl) (by omega) g2 (0 + 1) cap2 _ (by rfl) hown2 none 0 0 (by rfl) (fun _ => ⟨rfl, rfl⟩) [] (by rfl) (fun ad had j u hj => by simp at hj) (by intro u hu; simp at hu) (by unfold maxLen; omega) (by omega) (by omega) w2.heap.size rfl ?_; intro g3 cap3 w3 hown3 hg3 hor3 hlt3)
            | (refine step_append_onto _ (by rfl) _ _ 30 (by rfl) w.heap.size 34 j0 _ 5 32 Try.underlying30 hj hj0 hj1 hj2 (by rfl) (by omega) wr.heap.size 0 0 _ (by rfl) (ownsRow_drew (World.ownsRow.alloc hown1 _)) (some ⟨w1.heap.size, 0, none⟩) 1 1 (by rfl) (by intro h; cases h) [.int .i64 A1, .int .i64 A2, .bool A3, .bool A4, .int .i64 A5] (by rfl) (fun ad had j u hj => by cases had; exact World.news_of_block hnew j u hj) (by intro u hu; simp at hu; rcases hu with rfl | rfl | rfl | rfl | rfl <;> rfl) (by unfold maxLen; omega) (by omega) (by simp; omega) (w1.heap.size + 1) (by simp) ?_; intro g2 cap2 w2 hown2 hg2 hor2 hlt2; have hB2 : Below w.heap.size w w2 := ((hB1.out.alloc (by omega) _).drew).grown hg2 (by simp; omega) (fun q hq => by have := Option.some.inj hq; omega); have hz2 : w1.heap.size + 1 ≤ w2.heap.size := (by have := hg2.size; simpa using this); have hg2b : w.heap.size ≤ g2 := (hown2.lt g2 rfl).1))
          all_goals
            go_wp2_with fail
            go_ret
            have hnn : 0 + 1 + 0 = ([] : List RF).length + 1 := by rfl
            refine ⟨g3, cap3, by rw [← hnn]; rfl, ?_, hB2.grown hg3 (by omega) (fun q hq => by have := Option.some.inj hq; omega)⟩
            rw [hnn] at hown3
            rw [HR.out, show (([] : List RF).take 0 ++ (A1, A2, A3, A4, A5) :: ([] : List RF).drop 0).flatMap fieldC = ([] ++ [.int .i64 A1, .int .i64 A2, .bool A3, .bool A4, .int .i64 A5]) ++ [] by simp [fieldC]]
            exact hown3
        · by_cases hcq : k = cap
          · subst hcq
            go_wp2_with fail
            go_quiet (fail)
            go_upto_region 5 with (at_builtin; refine wpList_append_onto _ (by rfl) (.tmp 23) (.tmp 26) 30 (by rfl) w.heap.size 34 j0 _ 5 32 Try.underlying30 hj hj0 hj1 hj2 (by rfl) (by omega) wr.heap.size 0 0 [] (by rfl) (World.ownsRow_lit _ #[] 0 (by show w.heap.size ≤ wr.heap.size; omega) (by unfold maxLen; omega) (by rfl)) (some ⟨b, o, none⟩) k k (by rfl) (fun h => by cases h) ((l.take k).flatMap fieldC) (Hlen.out k hk) (FieldsAt.flat (Ht.out _ k hk ((below_drewN hbr _).alloc (by show w.heap.size ≤ wr.heap.size; omega) _))) (fieldC_one _) (by unfold maxLen; omega) (by omega) (by simp; omega) (wr.heap.size + 1) (by simp) ?_; intro g1 cap1 w1 hown1 hg1 hor1 hlt1; simp only [Nat.zero_add] at hown1 ⊢)
            have hB1 : Hid (Below w.heap.size w w1) := Lib.hid (((below_drewN hbr _).alloc (by show w.heap.size ≤ wr.heap.size; omega) _).grown hg1 (by show w.heap.size ≤ _; simp; omega) (fun q hq => by have := Option.some.inj hq; omega))
            have hx1 := Lib.hid (Box.grown hg1 ((hbx.out.drewN _).alloc _) (fun q hq => by have := Option.some.inj hq; omega))
            have hz1 : wr.heap.size + 1 ≤ w1.heap.size := by have := hg1.size; simpa using this
            have hg1b : w.heap.size ≤ g1 := (hown1.lt g1 rfl).1
            clear e0 e1 e2 e3 e4 c0 f0 hbx hbr d0 hg1 hor1
            obtain ⟨e0, e1, e2, e3, e4, _⟩ := hx1.out.fiveT
            have hw1 := hx1.out.1
            have hnew : (w1.alloc (.cells #[.int .i64 A1, .int .i64 A2, .bool A3, .bool A4, .int .i64 A5] 34)).heap[w1.heap.size]? = some (.cells #[.int .i64 A1, .int .i64 A2, .bool A3, .bool A4, .int .i64 A5] 34 (0, 0)) := heap_alloc_new _ _
            go_region_law (first
              | (refine step_append_onto _ (by rfl) _ _ 30 (by rfl) w.heap.size 34 j0 _ 5 32 Try.underlying30 hj hj0 hj1 hj2 (by rfl) (by omega) g2 (k + 1) cap2 _ (by rfl) hown2 (some ⟨b, o, none⟩) 0 0 (by rfl) (by intro h; cases h) [] (by rfl) (fun ad had j u hj => by simp at hj) (by intro u hu; simp at hu) (by unfold maxLen; omega) (by omega) (by omega) w2.heap.size rfl ?_; intro g3 cap3 w3 hown3 hg3 hor3 hlt3)
              | (refine step_append_onto _ (by rfl) _ _ 30 (by rfl) w.heap.size 34 j0 _ 5 32 Try.underlying30 hj hj0 hj1 hj2 (by rfl) (by omega) g1 k cap1 _ (by rfl) (ownsRow_drew (World.ownsRow.alloc hown1 _)) (some ⟨w1.heap.size, 0, none⟩) 1 1 (by rfl) (by intro h; cases h) [.int .i64 A1, .int .i64 A2, .bool A3, .bool A4, .int .i64 A5] (by rfl) (fun ad had j u hj => by cases had; exact World.news_of_block hnew j u hj) (by intro u hu; simp at hu; rcases hu with rfl | rfl | rfl | rfl | rfl <;> rfl) (by unfold maxLen; omega) (by omega) (by simp; omega) (w1.heap.size + 1) (by simp) ?_; intro g2 cap2 w2 hown2 hg2 hor2 hlt2; have hB2 : Below w.heap.size w w2 := ((hB1.out.alloc (by omega) _).drew).grown hg2 (by simp; omega) (fun q hq => by have := Option.some.inj hq; omega); have hz2 : w1.heap.size + 1 ≤ w2.heap.size := (by have := hg2.size; simpa using this); have hg2b : w.heap.size ≤ g2 := (hown2.lt g2 rfl).1))
            all_goals
              go_wp2_with fail
              go_ret
              have hnn : k + 1 + 0 = l.length + 1 := by omega
              refine ⟨g3, cap3, by rw [← hnn]; rfl, ?_, hB2.grown hg3 (by omega) (fun q hq => by have := Option.some.inj hq; omega)⟩
              rw [hnn] at hown3
              rw [HR.out, show (l.take k ++ (A1, A2, A3, A4, A5) :: l.drop k).flatMap fieldC = ([] ++ (l.take k).flatMap fieldC ++ [.int .i64 A1, .int .i64 A2, .bool A3, .bool A4, .int .i64 A5]) ++ [] by rw [List.drop_of_length_le (by omega)]; simp [fieldC]]
              exact hown3
          · have hck : k < cap := by omega
            go_wp2_with fail
            go_quiet (fail)
            go_upto_region 5 with (at_builtin; refine wpList_append_onto _ (by rfl) (.tmp 23) (.tmp 26) 30 (by rfl) w.heap.size 34 j0 _ 5 32 Try.underlying30 hj hj0 hj1 hj2 (by rfl) (by omega) wr.heap.size 0 0 [] (by rfl) (World.ownsRow_lit _ #[] 0 (by show w.heap.size ≤ wr.heap.size; omega) (by unfold maxLen; omega) (by rfl)) (some ⟨b, o, none⟩) k cap (by rfl) (fun h => by cases h) ((l.take k).flatMap fieldC) (Hlen.out k hk) (FieldsAt.flat (Ht.out _ k hk ((below_drewN hbr _).alloc (by show w.heap.size ≤ wr.heap.size; omega) _))) (fieldC_one _) (by unfold maxLen; omega) (by omega) (by simp; omega) (wr.heap.size + 1) (by simp) ?_; intro g1 cap1 w1 hown1 hg1 hor1 hlt1; simp only [Nat.zero_add] at hown1 ⊢)
            have hB1 : Hid (Below w.heap.size w w1) := Lib.hid (((below_drewN hbr _).alloc (by show w.heap.size ≤ wr.heap.size; omega) _).grown hg1 (by show w.heap.size ≤ _; simp; omega) (fun q hq => by have := Option.some.inj hq; omega))
            have hx1 := Lib.hid (Box.grown hg1 ((hbx.out.drewN _).alloc _) (fun q hq => by have := Option.some.inj hq; omega))
            have hz1 : wr.heap.size + 1 ≤ w1.heap.size := by have := hg1.size; simpa using this
            have hg1b : w.heap.size ≤ g1 := (hown1.lt g1 rfl).1
            clear e0 e1 e2 e3 e4 c0 f0 hbx hbr d0 hg1 hor1
            obtain ⟨e0, e1, e2, e3, e4, _⟩ := hx1.out.fiveT
            have hw1 := hx1.out.1
            have hnew : (w1.alloc (.cells #[.int .i64 A1, .int .i64 A2, .bool A3, .bool A4, .int .i64 A5] 34)).heap[w1.heap.size]? = some (.cells #[.int .i64 A1, .int .i64 A2, .bool A3, .bool A4, .int .i64 A5] 34 (0, 0)) := heap_alloc_new _ _
            have hkne : (cap == k) = false := by rw [beq_eq_false_iff_ne]; omega
            have hkne2 : ¬ cap = k := by omega
            have hwk : w1.heap.size ≤ 0 + w1.heap.size := by omega
            go_region_law (first
              | (refine step_append_onto _ (by rfl) _ _ 30 (by rfl) w.heap.size 34 j0 _ 5 32 Try.underlying30 hj hj0 hj1 hj2 (by rfl) (by omega) g2 (k + 1) cap2 _ (by rfl) hown2 (some ⟨b, o + k * 5, none⟩) (l.length - k) (cap - k) (by rfl) (by intro h; cases h) [] (by rw [show l.length - k = 0 by omega]; rfl) (fun ad had j u hj => by simp at hj) (by intro u hu; simp at hu) (by unfold maxLen; omega) (by omega) (by omega) w2.heap.size rfl ?_; intro g3 cap3 w3 hown3 hg3 hor3 hlt3)
              | (refine step_append_onto _ (by rfl) _ _ 30 (by rfl) w.heap.size 34 j0 _ 5 32 Try.underlying30 hj hj0 hj1 hj2 (by rfl) (by omega) g1 k cap1 _ (by rfl) (ownsRow_drew (World.ownsRow.alloc hown1 _)) (some ⟨w1.heap.size, 0, none⟩) 1 1 (by rfl) (by intro h; cases h) [.int .i64 A1, .int .i64 A2, .bool A3, .bool A4, .int .i64 A5] (by rfl) (fun ad had j u hj => by cases had; exact World.news_of_block hnew j u hj) (by intro u hu; simp at hu; rcases hu with rfl | rfl | rfl | rfl | rfl <;> rfl) (by unfold maxLen; omega) (by omega) (by simp; omega) (w1.heap.size + 1) (by simp) ?_; intro g2 cap2 w2 hown2 hg2 hor2 hlt2; have hB2 : Below w.heap.size w w2 := ((hB1.out.alloc (by omega) _).drew).grown hg2 (by simp; omega) (fun q hq => by have := Option.some.inj hq; omega); have hz2 : w1.heap.size + 1 ≤ w2.heap.size := (by have := hg2.size; simpa using this); have hg2b : w.heap.size ≤ g2 := (hown2.lt g2 rfl).1))
            all_goals
              go_wp2_with fail
              go_ret
              have hnn : k + 1 + (l.length - k) = l.length + 1 := by omega
              refine ⟨g3, cap3, by rw [← hnn]; rfl, ?_, hB2.grown hg3 (by omega) (fun q hq => by have := Option.some.inj hq; omega)⟩
              rw [hnn] at hown3
              rw [HR.out, show (l.take k ++ (A1, A2, A3, A4, A5) :: l.drop k).flatMap fieldC = ([] ++ (l.take k).flatMap fieldC ++ [.int .i64 A1, .int .i64 A2, .bool A3, .bool A4, .int .i64 A5]) ++ [] by rw [List.drop_of_length_le (by omega)]; simp [fieldC]]
              exact hown3
end Go.Proofs.Ythjnpipincpkgaa.Num
