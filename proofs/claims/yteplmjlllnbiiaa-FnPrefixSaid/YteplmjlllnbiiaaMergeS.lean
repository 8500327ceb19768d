/-
  The walks of the reference's Merged, PartBytes and LongestPart; only new memory is written.
-/
import Derived.Test.YteplmjlllnbiiaaOwnEv
import Derived.Test.YteplmjlllnbiiaaMergeMath
import Derived.Test.YteplmjlllnbiiaaEvSame
import Derived.Laws.Concat
import Derived.Deep.AppendLies
import Derived.Deep.DeepCutAuto
import Derived.Deep.RegionHeld
namespace Go.Proofs.Yteplmjlllnbiiaa.Num
open Go.RowKit Go.Proofs
set_option linter.unusedVariables false
set_option linter.unusedSimpArgs false
attribute [local go_sem] Region.wanted yielded

theorem cat_run (a b : ByteArray) (h : a.size + b.size ≤ 1048576000) (w : World) : (Op.stringOp .add a b).run Try.prog w = .ok (.string (a ++ b)) w := run_string_add_sum _ _ _ (by omega)
/-- Texts of what is merged, bounded together. -/
theorem mergeStep_texts (out : List Ev) (e : Ev) : textsLen (mergeStep out e) ≤ textsLen out + e.text.size := by
  by_cases h : e.kind = 4 ∧ e.text.size = 0
  · rw [merge_skip h]; omega
  · rcases nil_or_last out with rfl | ⟨i, x, rfl⟩
    · rw [merge_nil h]; simp [textsLen]
    · by_cases hn : e.kind = 4 ∧ x.kind = 4
      · rw [merge_join (fun e0 => h ⟨hn.1, e0⟩) hn.1 hn.2, textsLen_append, textsLen_append]
        simp only [textsLen, List.map_cons, List.map_nil, List.sum_cons, List.sum_nil, ba_app_size]; omega
      · rw [merge_push h hn, textsLen_append]; simp [textsLen]
theorem merged_texts (l : List Ev) : textsLen (mergedE l) ≤ textsLen l := by
  have key : ∀ (l out : List Ev), textsLen (l.foldl mergeStep out) ≤ textsLen out + textsLen l := by
    intro l
    induction l with
    | nil => intro out; simp [textsLen]
    | cons e l ih => intro out; simp only [List.foldl_cons]; have := ih (mergeStep out e); have := mergeStep_texts out e; simp only [textsLen, List.map_cons, List.sum_cons] at *; omega
  have := key l []; simpa [mergedE, textsLen] using this
theorem texts_take (l : List Ev) (k : Nat) : textsLen (l.take k) ≤ textsLen l := by
  conv => rhs; rw [← List.take_append_drop k l]
  rw [textsLen_append]; omega
set_option maxHeartbeats 4000000 in
set_option maxRecDepth 100000 in
theorem specMerged_any (v : Value) (l : List Ev) (w : World) (h : EvsAt w (· < w.heap.size) v l) (hl : SmallE l) :
    Calls Try.prog 15 #[v] w fun e w' => ∃ g cap, e = .returned (.slice (some ⟨g, 0, none⟩) (mergedE l).length cap) ∧ OwnE w' w.heap.size 31 (.slice (some ⟨g, 0, none⟩) (mergedE l).length cap) (mergedE l) ∧ Below w.heap.size w w' := by
  obtain ⟨i0, hi, hz0, hz1, hz2⟩ := info_parts info_event
  obtain ⟨a, cap, rfl⟩ := h.len
  have H := Lib.hid h
  have hl1 := hl.1
  have Hl := Lib.hid hl.2
  clear h hl
  go_enter Try.func15, Try.ntmps15
  go_upto_region 3 with fail
  have HO0 := Lib.hid (OwnE.start w w.heap.size 31 (Nat.le_refl _))
  have hb0 : Below w.heap.size w (w.alloc (.cells #[] 31)) := (Below.refl _ _).alloc (Nat.le_refl _) _
  generalize w.alloc (.cells #[] 31) = w1 at HO0 hb0 ⊢
  go_loopw [3, 4] (fun o i wr => ∃ (k n g cp : Nat), k ≤ l.length ∧ i = .int .i64 k ∧ n ≤ k ∧ o = .slice (some ⟨g, 0, none⟩) n cp ∧ Hid ((mergedE (l.take k)).length = n) ∧ Hid (OwnE wr w.heap.size 31 (.slice (some ⟨g, 0, none⟩) n cp) (mergedE (l.take k))) ∧ Below w.heap.size w wr) (fun _ i _ => l.length - (intOf i).toNat)
  case atStart => exact ⟨0, 0, _, _, by omega, rfl, by omega, rfl, Lib.hid rfl, HO0, hb0⟩
  case round =>
    clear HO0 hb0
    obtain ⟨k, n, g, cp, hk, rfl, hnk, rfl, hlen, hown, hbr⟩ := hrel
    have hzr := hbr.size
    by_cases hlt : k < l.length
    · have hlti : (k : Int) < (l.length : Int) := by omega
      obtain ⟨b, o, rfl, hbC, c0, c1, c2, c3, c4, c5, c6⟩ := H.out.cellsAt k hlt
      rw [← hbr.cell (p := ⟨b, _, none⟩) hbC] at c0 c1 c2 c3 c4 c5 c6
      have Hnext := Lib.hid (merged_take l k hlt)
      have Htx : Hid (textsLen (mergedE (l.take k)) + l[k].text.size ≤ 1048576) := Lib.hid (by
        have h1 := merged_texts (l.take k)
        have h2 := textsLen_take l k hlt
        have h3 := texts_take l (k + 1)
        have := Hl.out; omega)
      generalize l[k] = e at c0 c1 c2 c3 c4 c5 c6 Hnext Htx
      generalize mergedE (l.take k) = out at hlen hown Hnext Htx
      obtain ⟨K, F, Bt, L, Tx, C, P⟩ := e
      simp only at c0 c1 c2 c3 c4 c5 c6
      have Hlen := Lib.hid hlen.out
      have Hrow0 := Lib.hid hown.out
      have hgl := (hown.out.lt g rfl).2
      clear hlen hown
      have hx1 := Box.fresh wr #[.int .i64 K, .int .i64 F, .int .u64 Bt, .int .i64 L, .string Tx, .int .i64 C, .int .i64 P] 31
      have hb1 : Below w.heap.size w (wr.alloc (.cells #[.int .i64 K, .int .i64 F, .int .u64 Bt, .int .i64 L, .string Tx, .int .i64 C, .int .i64 P] 31)) := hbr.alloc hzr _
      have Hr1 := Lib.hid (Hrow0.out.alloc (.cells #[.int .i64 K, .int .i64 F, .int .u64 Bt, .int .i64 L, .string Tx, .int .i64 C, .int .i64 P] 31))
      have hzx : (wr.alloc (.cells #[.int .i64 K, .int .i64 F, .int .u64 Bt, .int .i64 L, .string Tx, .int .i64 C, .int .i64 P] 31)).heap.size = wr.heap.size + 1 := by simp
      go_upto_region 6 with fail
      generalize wr.alloc (.cells #[.int .i64 K, .int .i64 F, .int .u64 Bt, .int .i64 L, .string Tx, .int .i64 C, .int .i64 P] 31) = wq at hx1 hb1 Hr1 hzx ⊢
      have hge : wr.heap.size < wq.heap.size := by omega
      have hzq : w.heap.size ≤ wq.heap.size := hb1.size
      have hgl2 : g < wq.heap.size := by omega
      have hne : ¬ g = wr.heap.size := by omega
      have hne2 : ¬ wr.heap.size = g := by omega
      clear hzx
      generalize wr.heap.size = ge at hx1 hge hne hne2 ⊢
      clear Hrow0 hgl c0 c1 c2 c3 c4 c5 c6 hbr hbC
      obtain ⟨⟨e0, e1, e2, e3, e4, e5, e6⟩, _⟩ := Box.seven hx1
      have HrN : Hid (wq.ownsRow w.heap.size 31 7 (.slice (some ⟨g, 0, none⟩) n cp) n (out.flatMap evC)) := Lib.hid (by have h := Hr1.out; unfold OwnE at h; rw [Hlen.out] at h; exact h)
      by_cases hskip : K = 4 ∧ Tx.size = 0
      · obtain ⟨rfl, ht⟩ := hskip
        obtain rfl := ba_zero ht
        have Hn : Hid (mergedE (l.take (k + 1)) = out) := Lib.hid (by rw [Hnext.out, merge_skip ⟨rfl, rfl⟩])
        go_wp2_with fail
        go_roundw
        case rel => exact ⟨k + 1, n, g, cp, by omega, by go_num, by omega, rfl, Lib.hid (by rw [Hn.out]; exact Hlen.out), by rw [Hn.out]; exact Hr1, hb1⟩
        case measure => simp [intOf]; omega
      · have Hsk := Lib.hid hskip
        have Hpush : Hid ((n = 0 ∨ ¬ (K = 4 ∧ ∃ x, out.getLast? = some x ∧ x.kind = 4)) → mergedE (l.take (k + 1)) = out ++ [⟨K, F, Bt, L, Tx, C, P⟩]) := Lib.hid fun h => by
          rw [Hnext.out]
          rcases nil_or_last out with rfl | ⟨i, x, rfl⟩
          · exact merge_nil Hsk.out
          · refine merge_push Hsk.out fun g => ?_
            rcases h with h | h
            · have := Hlen.out; simp at this; omega
            · exact h ⟨g.1, x, by simp, g.2⟩
        -- the append
        have Happ : Hid (∀ g2 cap2 w2, w2.ownsRow w.heap.size 31 7 (.slice (some ⟨g2, 0, none⟩) (n + 1) cap2) (n + 1) (out.flatMap evC ++ evC ⟨K, F, Bt, L, Tx, C, P⟩) → mergedE (l.take (k + 1)) = out ++ [⟨K, F, Bt, L, Tx, C, P⟩] → (mergedE (l.take (k + 1))).length = n + 1 ∧ OwnE w2 w.heap.size 31 (.slice (some ⟨g2, 0, none⟩) (n + 1) cap2) (mergedE (l.take (k + 1)))) := Lib.hid fun g2 cap2 w2 h he => by
          have hl : (out ++ [(⟨K, F, Bt, L, Tx, C, P⟩ : Ev)]).length = n + 1 := by rw [List.length_append, Hlen.out]; rfl
          rw [he]
          refine ⟨hl, ?_⟩
          unfold OwnE
          rw [hl, flat_snoc]; exact h
        have Hnew := Lib.hid (heap_alloc_new wq (.cells #[.int .i64 K, .int .i64 F, .int .u64 Bt, .int .i64 L, .string Tx, .int .i64 C, .int .i64 P] 31))
        by_cases hK : K = 4
        · have kK : (K == 4) = true := by rw [hK]; rfl
          have ht : Tx.toList.isEmpty = false := by
            cases hh : Tx.toList.isEmpty with
            | false => rfl
            | true => exact absurd (by rw [ba_inj (a := Tx) (b := .empty) (by rw [List.isEmpty_iff.1 hh, ByteArray.toList_eq]; rfl)]; rfl) (fun h => Hsk.out ⟨hK, h⟩)
          clear hK
          by_cases hn0 : n = 0
          · have Hp := Lib.hid (Hpush.out (.inl hn0))
            have d1 : decide ((0 : Int) < (n : Int)) = false := decide_eq_false (by omega)
            have d2 : decide (0 < n) = false := decide_eq_false (by omega)
            clear hn0
            go_wp2_with (at_builtin; refine wpList_append_lies _ (by rfl) (.tmp 58) (.tmp 60) 24 (by rfl) w.heap.size 31 i0 _ 7 64 Try.underlying24 hi hz0 hz1 hz2 (by rfl) (by omega) (.slice (some ⟨g, 0, none⟩) n cp) n _ (by rfl) (World.ownsRow.alloc HrN.out _) ⟨wq.heap.size, 0, none⟩ 1 1 (evC ⟨K, F, Bt, L, Tx, C, P⟩) (by rfl) (by rfl) (fun j u hj => World.news_of_block Hnew.out j u hj) (by intro u hu; simp [evC] at hu; rcases hu with rfl | rfl | rfl | rfl | rfl | rfl | rfl <;> rfl) (by omega) (by unfold maxLen; omega) (by omega) (by simp; omega) _ rfl ?_; intro g2 cap2 w2 hown2 hg2 hor2 hlt2)
            obtain ⟨hl2, ho2⟩ := Happ.out _ _ _ hown2 Hp.out
            have hb2 := (hb1.alloc hb1.size (.cells #[.int .i64 K, .int .i64 F, .int .u64 Bt, .int .i64 L, .string Tx, .int .i64 C, .int .i64 P] 31)).grown hg2 (by simp; have := hb1.size; omega) (fun q hq => (World.ownsRow.lt Hr1.out q hq).1)
            have HL := Lib.hid hl2
            have HO := Lib.hid ho2
            clear hown2 hg2 hor2 hl2 ho2
            go_roundw
            case rel => exact ⟨k + 1, n + 1, g2, cap2, by omega, by go_num, by omega, rfl, HL, HO, hb2⟩
            case measure => simp [intOf]; omega
          · have hn1 : (0 : Int) < (n : Int) := by omega
            obtain ⟨i, x, rfl⟩ : ∃ i x, out = i ++ [x] := by
              rcases nil_or_last out with rfl | h
              · exact absurd Hlen.out.symm hn0
              · exact h
            have hni : n = i.length + 1 := by have := Hlen.out; simp at this; omega
            have hw : IntKind.i64.wrap ((n : Int) - 1) = (i.length : Int) := by rw [IntWalk.i64_in _ (by omega)]; omega
            have hil : (i.length : Int) < (n : Int) := by omega
            have hil2 : i.length < n := by omega
            have Hni := Lib.hid hni
            clear hni
            obtain ⟨x0, x1, x2, x3, x4, x5, x6⟩ := Hr1.out.cellsAt i.length (by simp)
            rw [List.getElem_append_right (Nat.le_refl _)] at x0 x1 x2 x3 x4 x5 x6
            simp only [Nat.sub_self, List.getElem_cons_zero] at x0 x1 x2 x3 x4 x5 x6
            by_cases hx4 : x.kind = 4
            · have kx : (x.kind == 4) = true := by rw [hx4]; rfl
              have Hj : Hid (mergedE (l.take (k + 1)) = i ++ [{ x with text := x.text ++ Tx }]) := Lib.hid (by rw [Hnext.out]; exact merge_join (fun h => Hsk.out ⟨by have := ‹(K == 4) = true›; simpa using this, h⟩) (by have := ‹(K == 4) = true›; simpa using this) hx4)
              have hcat := cat_run x.text Tx (by have := Htx.out; rw [textsLen_append] at this; simp [textsLen] at this; omega)
              have hfr := World.ownsRow.frozenAt HrN.out (i.length * 7 + 4)
              have Hset : Hid (OwnE (wq.setCell ⟨g, i.length * 7 + 4, none⟩ (.string (x.text ++ Tx))) w.heap.size 31 (.slice (some ⟨g, 0, none⟩) n cp) (i ++ [{ x with text := x.text ++ Tx }])) := Lib.hid (by
                have h := Hr1.out
                rw [Hni.out] at h ⊢
                exact h.setText _)
              have Hlj : Hid ((i ++ [({ x with text := x.text ++ Tx } : Ev)]).length = n) := Lib.hid (by rw [Hni.out]; simp)
              have Hgw : Hid (w.heap.size ≤ g) := Lib.hid (World.ownsRow.lt Hr1.out g rfl).1
              generalize x.text ++ Tx = tx at hcat Hj Hset Hlj
              clear hx4 hn0
              go_wp2_with fail
              go_region
              all_goals
                go_wp2_with fail
                go_roundw
                case rel => exact ⟨k + 1, n, g, cp, by omega, by go_num, by omega, rfl, Lib.hid (by rw [Hj.out]; exact Hlj.out), by rw [Hj.out]; exact Hset, hb1.drew.setCell (by have := Hgw.out; simp only; omega) _⟩
                case measure => simp [intOf]; omega
            · have nx := neI hx4
              have Hp := Lib.hid (Hpush.out (.inr (fun h => by obtain ⟨_, y, h1, h2⟩ := h; simp at h1; subst h1; exact hx4 h2)))
              clear hx4 hn0
              go_wp2_with (at_builtin; refine wpList_append_lies _ (by rfl) (.tmp 58) (.tmp 60) 24 (by rfl) w.heap.size 31 i0 _ 7 64 Try.underlying24 hi hz0 hz1 hz2 (by rfl) (by omega) (.slice (some ⟨g, 0, none⟩) n cp) n _ (by rfl) (World.ownsRow.alloc HrN.out _) ⟨wq.heap.size, 0, none⟩ 1 1 (evC ⟨K, F, Bt, L, Tx, C, P⟩) (by rfl) (by rfl) (fun j u hj => World.news_of_block Hnew.out j u hj) (by intro u hu; simp [evC] at hu; rcases hu with rfl | rfl | rfl | rfl | rfl | rfl | rfl <;> rfl) (by omega) (by unfold maxLen; omega) (by omega) (by simp; omega) _ rfl ?_; intro g2 cap2 w2 hown2 hg2 hor2 hlt2)
              obtain ⟨hl2, ho2⟩ := Happ.out _ _ _ hown2 Hp.out
              have hb2 := (hb1.alloc hb1.size (.cells #[.int .i64 K, .int .i64 F, .int .u64 Bt, .int .i64 L, .string Tx, .int .i64 C, .int .i64 P] 31)).grown hg2 (by simp; have := hb1.size; omega) (fun q hq => (World.ownsRow.lt Hr1.out q hq).1)
              have HL := Lib.hid hl2
              have HO := Lib.hid ho2
              clear hown2 hg2 hor2 hl2 ho2
              go_roundw
              case rel => exact ⟨k + 1, n + 1, g2, cap2, by omega, by go_num, by omega, rfl, HL, HO, hb2⟩
              case measure => simp [intOf]; omega
        · have nK := neI hK
          have Hp := Lib.hid (Hpush.out (.inr fun h => hK h.1))
          clear hK
          go_wp2_with (at_builtin; refine wpList_append_lies _ (by rfl) (.tmp 58) (.tmp 60) 24 (by rfl) w.heap.size 31 i0 _ 7 64 Try.underlying24 hi hz0 hz1 hz2 (by rfl) (by omega) (.slice (some ⟨g, 0, none⟩) n cp) n _ (by rfl) (World.ownsRow.alloc HrN.out _) ⟨wq.heap.size, 0, none⟩ 1 1 (evC ⟨K, F, Bt, L, Tx, C, P⟩) (by rfl) (by rfl) (fun j u hj => World.news_of_block Hnew.out j u hj) (by intro u hu; simp [evC] at hu; rcases hu with rfl | rfl | rfl | rfl | rfl | rfl | rfl <;> rfl) (by omega) (by unfold maxLen; omega) (by omega) (by simp; omega) _ rfl ?_; intro g2 cap2 w2 hown2 hg2 hor2 hlt2)
          obtain ⟨hl2, ho2⟩ := Happ.out _ _ _ hown2 Hp.out
          have hb2 := (hb1.alloc hb1.size (.cells #[.int .i64 K, .int .i64 F, .int .u64 Bt, .int .i64 L, .string Tx, .int .i64 C, .int .i64 P] 31)).grown hg2 (by simp; have := hb1.size; omega) (fun q hq => (World.ownsRow.lt Hr1.out q hq).1)
          have HL := Lib.hid hl2
          have HO := Lib.hid ho2
          clear hown2 hg2 hor2 hl2 ho2
          go_roundw
          case rel => exact ⟨k + 1, n + 1, g2, cap2, by omega, by go_num, by omega, rfl, HL, HO, hb2⟩
          case measure => simp [intOf]; omega
    · have hge : (l.length : Int) ≤ (k : Int) := by omega
      have hend : decide (k < l.length) = false := decide_eq_false hlt
      obtain rfl : k = l.length := by omega
      have hm : mergedE (l.take l.length) = mergedE l := by rw [List.take_length]
      rw [hm] at hlen hown
      go_wp2_with fail
      go_ret
      exact ⟨g, cp, by rw [hlen.out]; rfl, by rw [hlen.out]; exact hown.out, hbr⟩
end Go.Proofs.Yteplmjlllnbiiaa.Num
