/-
  Several texts in one: MergeS PartS Append ShatterS MsgPay MsgFacts MsgLong MsgAll MsgRead.
-/
import Derived.Test.YtcnpdcmdnmfnaaaGreatOwnEv
import Derived.Test.YtcnpdcmdnmfnaaaGreatMergeMath
import Derived.Test.YtcnpdcmdnmfnaaaGreatEvSame
import Derived.Laws.Concat
import Derived.Deep.AppendLies
import Derived.Deep.DeepCutAuto
import Derived.Deep.RegionHeld
import Derived.Test.YtcnpdcmdnmfnaaaGreatProg
import Derived.Laws.OwnMore
import Derived.Deep.LoopGhost
import Derived.Test.YtcnpdcmdnmfnaaaGreatMsgModel
import Derived.Test.YtcnpdcmdnmfnaaaGreatUtfText
import Derived.Deep.RegionHeld3

/-
  The walks of the reference's Merged, PartBytes and LongestPart; only new memory is written.
-/
namespace Go.Proofs.YtcnpdcmdnmfnaaaGreat.Num
open Go.RowKit Go.Proofs
set_option linter.unusedVariables false
set_option linter.unusedSimpArgs false
attribute [local go_sem] Region.wanted yielded

theorem cat_run (a b : ByteArray) (h : a.size + b.size ≤ 1048576000) (w : World) : (Op.stringOp .add a b).run Tryz.prog w = .ok (.string (a ++ b)) w := run_string_add_sum _ _ _ (by omega)
/-- Texts of what is merged, bounded together. -/
theorem mergeStep_texts (out : List Ev) (e : Ev) : textsLen (mergeStep out e) ≤ textsLen out + e.text.size := by
  by_cases h : e.kind = 4 ∧ e.text.size = 0
  · rw [merge_skip h]; omega
  · rcases nil_or_last out with rfl | ⟨i, x, rfl⟩
    · rw [merge_nil h]; simp [textsLen]
    · by_cases hn : e.kind = 4 ∧ x.kind = 4
      · rw [merge_join (fun e0 => h ⟨hn.1, e0⟩) hn.1 hn.2, textsLen_append, textsLen_append]
        simp only [textsLen, List.map_cons, List.map_nil, List.sum_cons, List.sum_nil, ba_app_size]; omega
      · rw [merge_push h hn, textsLen_append]; simp [textsLen]
theorem merged_texts (l : List Ev) : textsLen (mergedE l) ≤ textsLen l := by
  have key : ∀ (l out : List Ev), textsLen (l.foldl mergeStep out) ≤ textsLen out + textsLen l := by
    intro l
    induction l with
    | nil => intro out; simp [textsLen]
    | cons e l ih => intro out; simp only [List.foldl_cons]; have := ih (mergeStep out e); have := mergeStep_texts out e; simp only [textsLen, List.map_cons, List.sum_cons] at *; omega
  have := key l []; simpa [mergedE, textsLen] using this
theorem texts_take (l : List Ev) (k : Nat) : textsLen (l.take k) ≤ textsLen l := by
  conv => rhs; rw [← List.take_append_drop k l]
  rw [textsLen_append]; omega
set_option maxHeartbeats 4000000 in
set_option maxRecDepth 100000 in
theorem specMerged_any (v : Value) (l : List Ev) (w : World) (h : EvsAt w (· < w.heap.size) v l) (hl : SmallE l) :
    Calls Tryz.prog 37 #[v] w fun e w' => ∃ g cap, e = .returned (.slice (some ⟨g, 0, none⟩) (mergedE l).length cap) ∧ OwnE w' w.heap.size 34 (.slice (some ⟨g, 0, none⟩) (mergedE l).length cap) (mergedE l) ∧ Below w.heap.size w w' := by
  obtain ⟨i0, hi, hz0, hz1, hz2⟩ := info_parts info_event
  obtain ⟨a, cap, rfl⟩ := h.len
  have H := Lib.hid h
  have hl1 := hl.1
  have Hl := Lib.hid hl.2
  clear h hl
  go_enter Tryz.func37, Tryz.ntmps37
  go_upto_region 3 with fail
  have HO0 := Lib.hid (OwnE.start w w.heap.size 34 (Nat.le_refl _))
  have hb0 : Below w.heap.size w (w.alloc (.cells #[] 34)) := (Below.refl _ _).alloc (Nat.le_refl _) _
  generalize w.alloc (.cells #[] 34) = w1 at HO0 hb0 ⊢
  go_loopw [3, 4] (fun o i wr => ∃ (k n g cp : Nat), k ≤ l.length ∧ i = .int .i64 k ∧ n ≤ k ∧ o = .slice (some ⟨g, 0, none⟩) n cp ∧ Hid ((mergedE (l.take k)).length = n) ∧ Hid (OwnE wr w.heap.size 34 (.slice (some ⟨g, 0, none⟩) n cp) (mergedE (l.take k))) ∧ Below w.heap.size w wr) (fun _ i _ => l.length - (intOf i).toNat)
  case atStart => exact ⟨0, 0, _, _, by omega, rfl, by omega, rfl, Lib.hid rfl, HO0, hb0⟩
  case round =>
    clear HO0 hb0
    obtain ⟨k, n, g, cp, hk, rfl, hnk, rfl, hlen, hown, hbr⟩ := hrel
    have hzr := hbr.size
    by_cases hlt : k < l.length
    · have hlti : (k : Int) < (l.length : Int) := by omega
      obtain ⟨b, o, rfl, hbC, c0, c1, c2, c3, c4, c5, c6⟩ := H.out.cellsAt k hlt
      rw [← hbr.cell (p := ⟨b, _, none⟩) hbC] at c0 c1 c2 c3 c4 c5 c6
      have Hnext := Lib.hid (merged_take l k hlt)
      have Htx : Hid (textsLen (mergedE (l.take k)) + l[k].text.size ≤ 1048576) := Lib.hid (by
        have h1 := merged_texts (l.take k)
        have h2 := textsLen_take l k hlt
        have h3 := texts_take l (k + 1)
        have := Hl.out; omega)
      generalize l[k] = e at c0 c1 c2 c3 c4 c5 c6 Hnext Htx
      generalize mergedE (l.take k) = out at hlen hown Hnext Htx
      obtain ⟨K, F, Bt, L, Tx, C, P⟩ := e
      simp only at c0 c1 c2 c3 c4 c5 c6
      have Hlen := Lib.hid hlen.out
      have Hrow0 := Lib.hid hown.out
      have hgl := (hown.out.lt g rfl).2
      clear hlen hown
      have hx1 := Box.fresh wr #[.int .i64 K, .int .i64 F, .int .u64 Bt, .int .i64 L, .string Tx, .int .i64 C, .int .i64 P] 34
      have hb1 : Below w.heap.size w (wr.alloc (.cells #[.int .i64 K, .int .i64 F, .int .u64 Bt, .int .i64 L, .string Tx, .int .i64 C, .int .i64 P] 34)) := hbr.alloc hzr _
      have Hr1 := Lib.hid (Hrow0.out.alloc (.cells #[.int .i64 K, .int .i64 F, .int .u64 Bt, .int .i64 L, .string Tx, .int .i64 C, .int .i64 P] 34))
      have hzx : (wr.alloc (.cells #[.int .i64 K, .int .i64 F, .int .u64 Bt, .int .i64 L, .string Tx, .int .i64 C, .int .i64 P] 34)).heap.size = wr.heap.size + 1 := by simp
      go_upto_region 6 with fail
      generalize wr.alloc (.cells #[.int .i64 K, .int .i64 F, .int .u64 Bt, .int .i64 L, .string Tx, .int .i64 C, .int .i64 P] 34) = wq at hx1 hb1 Hr1 hzx ⊢
      have hge : wr.heap.size < wq.heap.size := by omega
      have hzq : w.heap.size ≤ wq.heap.size := hb1.size
      have hgl2 : g < wq.heap.size := by omega
      have hne : ¬ g = wr.heap.size := by omega
      have hne2 : ¬ wr.heap.size = g := by omega
      clear hzx
      generalize wr.heap.size = ge at hx1 hge hne hne2 ⊢
      clear Hrow0 hgl c0 c1 c2 c3 c4 c5 c6 hbr hbC
      obtain ⟨⟨e0, e1, e2, e3, e4, e5, e6⟩, _⟩ := Box.seven hx1
      have HrN : Hid (wq.ownsRow w.heap.size 34 7 (.slice (some ⟨g, 0, none⟩) n cp) n (out.flatMap evC)) := Lib.hid (by have h := Hr1.out; unfold OwnE at h; rw [Hlen.out] at h; exact h)
      by_cases hskip : K = 4 ∧ Tx.size = 0
      · obtain ⟨rfl, ht⟩ := hskip
        obtain rfl := ba_zero ht
        have Hn : Hid (mergedE (l.take (k + 1)) = out) := Lib.hid (by rw [Hnext.out, merge_skip ⟨rfl, rfl⟩])
        go_wp2_with fail
        go_roundw
        case rel => exact ⟨k + 1, n, g, cp, by omega, by go_num, by omega, rfl, Lib.hid (by rw [Hn.out]; exact Hlen.out), by rw [Hn.out]; exact Hr1, hb1⟩
        case measure => simp [intOf]; omega
      · have Hsk := Lib.hid hskip
        have Hpush : Hid ((n = 0 ∨ ¬ (K = 4 ∧ ∃ x, out.getLast? = some x ∧ x.kind = 4)) → mergedE (l.take (k + 1)) = out ++ [⟨K, F, Bt, L, Tx, C, P⟩]) := Lib.hid fun h => by
          rw [Hnext.out]
          rcases nil_or_last out with rfl | ⟨i, x, rfl⟩
          · exact merge_nil Hsk.out
          · refine merge_push Hsk.out fun g => ?_
            rcases h with h | h
            · have := Hlen.out; simp at this; omega
            · exact h ⟨g.1, x, by simp, g.2⟩
        -- the append
        have Happ : Hid (∀ g2 cap2 w2, w2.ownsRow w.heap.size 34 7 (.slice (some ⟨g2, 0, none⟩) (n + 1) cap2) (n + 1) (out.flatMap evC ++ evC ⟨K, F, Bt, L, Tx, C, P⟩) → mergedE (l.take (k + 1)) = out ++ [⟨K, F, Bt, L, Tx, C, P⟩] → (mergedE (l.take (k + 1))).length = n + 1 ∧ OwnE w2 w.heap.size 34 (.slice (some ⟨g2, 0, none⟩) (n + 1) cap2) (mergedE (l.take (k + 1)))) := Lib.hid fun g2 cap2 w2 h he => by
          have hl : (out ++ [(⟨K, F, Bt, L, Tx, C, P⟩ : Ev)]).length = n + 1 := by rw [List.length_append, Hlen.out]; rfl
          rw [he]
          refine ⟨hl, ?_⟩
          unfold OwnE
          rw [hl, flat_snoc]; exact h
        have Hnew := Lib.hid (heap_alloc_new wq (.cells #[.int .i64 K, .int .i64 F, .int .u64 Bt, .int .i64 L, .string Tx, .int .i64 C, .int .i64 P] 34))
        by_cases hK : K = 4
        · have kK : (K == 4) = true := by rw [hK]; rfl
          have ht : Tx.toList.isEmpty = false := by
            cases hh : Tx.toList.isEmpty with
            | false => rfl
            | true => exact absurd (by rw [ba_inj (a := Tx) (b := .empty) (by rw [List.isEmpty_iff.1 hh, ByteArray.toList_eq]; rfl)]; rfl) (fun h => Hsk.out ⟨hK, h⟩)
          clear hK
          by_cases hn0 : n = 0
          · have Hp := Lib.hid (Hpush.out (.inl hn0))
            have d1 : decide ((0 : Int) < (n : Int)) = false := decide_eq_false (by omega)
            have d2 : decide (0 < n) = false := decide_eq_false (by omega)
            clear hn0
            go_wp2_with (at_builtin; refine wpList_append_lies _ (by rfl) (.tmp 58) (.tmp 60) 31 (by rfl) w.heap.size 34 i0 _ 7 64 Tryz.underlying31 hi hz0 hz1 hz2 (by rfl) (by omega) (.slice (some ⟨g, 0, none⟩) n cp) n _ (by rfl) (World.ownsRow.alloc HrN.out _) ⟨wq.heap.size, 0, none⟩ 1 1 (evC ⟨K, F, Bt, L, Tx, C, P⟩) (by rfl) (by rfl) (fun j u hj => World.news_of_block Hnew.out j u hj) (by intro u hu; simp [evC] at hu; rcases hu with rfl | rfl | rfl | rfl | rfl | rfl | rfl <;> rfl) (by omega) (by unfold maxLen; omega) (by omega) (by simp; omega) _ rfl ?_; intro g2 cap2 w2 hown2 hg2 hor2 hlt2)
            obtain ⟨hl2, ho2⟩ := Happ.out _ _ _ hown2 Hp.out
            have hb2 := (hb1.alloc hb1.size (.cells #[.int .i64 K, .int .i64 F, .int .u64 Bt, .int .i64 L, .string Tx, .int .i64 C, .int .i64 P] 34)).grown hg2 (by simp; have := hb1.size; omega) (fun q hq => (World.ownsRow.lt Hr1.out q hq).1)
            have HL := Lib.hid hl2
            have HO := Lib.hid ho2
            clear hown2 hg2 hor2 hl2 ho2
            go_roundw
            case rel => exact ⟨k + 1, n + 1, g2, cap2, by omega, by go_num, by omega, rfl, HL, HO, hb2⟩
            case measure => simp [intOf]; omega
          · have hn1 : (0 : Int) < (n : Int) := by omega
            obtain ⟨i, x, rfl⟩ : ∃ i x, out = i ++ [x] := by
              rcases nil_or_last out with rfl | h
              · exact absurd Hlen.out.symm hn0
              · exact h
            have hni : n = i.length + 1 := by have := Hlen.out; simp at this; omega
            have hw : IntKind.i64.wrap ((n : Int) - 1) = (i.length : Int) := by rw [IntWalk.i64_in _ (by omega)]; omega
            have hil : (i.length : Int) < (n : Int) := by omega
            have hil2 : i.length < n := by omega
            have Hni := Lib.hid hni
            clear hni
            obtain ⟨x0, x1, x2, x3, x4, x5, x6⟩ := Hr1.out.cellsAt i.length (by simp)
            rw [List.getElem_append_right (Nat.le_refl _)] at x0 x1 x2 x3 x4 x5 x6
            simp only [Nat.sub_self, List.getElem_cons_zero] at x0 x1 x2 x3 x4 x5 x6
            by_cases hx4 : x.kind = 4
            · have kx : (x.kind == 4) = true := by rw [hx4]; rfl
              have Hj : Hid (mergedE (l.take (k + 1)) = i ++ [{ x with text := x.text ++ Tx }]) := Lib.hid (by rw [Hnext.out]; exact merge_join (fun h => Hsk.out ⟨by have := ‹(K == 4) = true›; simpa using this, h⟩) (by have := ‹(K == 4) = true›; simpa using this) hx4)
              have hcat := cat_run x.text Tx (by have := Htx.out; rw [textsLen_append] at this; simp [textsLen] at this; omega)
              have hfr := World.ownsRow.frozenAt HrN.out (i.length * 7 + 4)
              have Hset : Hid (OwnE (wq.setCell ⟨g, i.length * 7 + 4, none⟩ (.string (x.text ++ Tx))) w.heap.size 34 (.slice (some ⟨g, 0, none⟩) n cp) (i ++ [{ x with text := x.text ++ Tx }])) := Lib.hid (by
                have h := Hr1.out
                rw [Hni.out] at h ⊢
                exact h.setText _)
              have Hlj : Hid ((i ++ [({ x with text := x.text ++ Tx } : Ev)]).length = n) := Lib.hid (by rw [Hni.out]; simp)
              have Hgw : Hid (w.heap.size ≤ g) := Lib.hid (World.ownsRow.lt Hr1.out g rfl).1
              generalize x.text ++ Tx = tx at hcat Hj Hset Hlj
              clear hx4 hn0
              go_wp2_with fail
              go_region
              all_goals
                go_wp2_with fail
                go_roundw
                case rel => exact ⟨k + 1, n, g, cp, by omega, by go_num, by omega, rfl, Lib.hid (by rw [Hj.out]; exact Hlj.out), by rw [Hj.out]; exact Hset, hb1.drew.setCell (by have := Hgw.out; simp only; omega) _⟩
                case measure => simp [intOf]; omega
            · have nx := neI hx4
              have Hp := Lib.hid (Hpush.out (.inr (fun h => by obtain ⟨_, y, h1, h2⟩ := h; simp at h1; subst h1; exact hx4 h2)))
              clear hx4 hn0
              go_wp2_with (at_builtin; refine wpList_append_lies _ (by rfl) (.tmp 58) (.tmp 60) 31 (by rfl) w.heap.size 34 i0 _ 7 64 Tryz.underlying31 hi hz0 hz1 hz2 (by rfl) (by omega) (.slice (some ⟨g, 0, none⟩) n cp) n _ (by rfl) (World.ownsRow.alloc HrN.out _) ⟨wq.heap.size, 0, none⟩ 1 1 (evC ⟨K, F, Bt, L, Tx, C, P⟩) (by rfl) (by rfl) (fun j u hj => World.news_of_block Hnew.out j u hj) (by intro u hu; simp [evC] at hu; rcases hu with rfl | rfl | rfl | rfl | rfl | rfl | rfl <;> rfl) (by omega) (by unfold maxLen; omega) (by omega) (by simp; omega) _ rfl ?_; intro g2 cap2 w2 hown2 hg2 hor2 hlt2)
              obtain ⟨hl2, ho2⟩ := Happ.out _ _ _ hown2 Hp.out
              have hb2 := (hb1.alloc hb1.size (.cells #[.int .i64 K, .int .i64 F, .int .u64 Bt, .int .i64 L, .string Tx, .int .i64 C, .int .i64 P] 34)).grown hg2 (by simp; have := hb1.size; omega) (fun q hq => (World.ownsRow.lt Hr1.out q hq).1)
              have HL := Lib.hid hl2
              have HO := Lib.hid ho2
              clear hown2 hg2 hor2 hl2 ho2
              go_roundw
              case rel => exact ⟨k + 1, n + 1, g2, cap2, by omega, by go_num, by omega, rfl, HL, HO, hb2⟩
              case measure => simp [intOf]; omega
        · have nK := neI hK
          have Hp := Lib.hid (Hpush.out (.inr fun h => hK h.1))
          clear hK
          go_wp2_with (at_builtin; refine wpList_append_lies _ (by rfl) (.tmp 58) (.tmp 60) 31 (by rfl) w.heap.size 34 i0 _ 7 64 Tryz.underlying31 hi hz0 hz1 hz2 (by rfl) (by omega) (.slice (some ⟨g, 0, none⟩) n cp) n _ (by rfl) (World.ownsRow.alloc HrN.out _) ⟨wq.heap.size, 0, none⟩ 1 1 (evC ⟨K, F, Bt, L, Tx, C, P⟩) (by rfl) (by rfl) (fun j u hj => World.news_of_block Hnew.out j u hj) (by intro u hu; simp [evC] at hu; rcases hu with rfl | rfl | rfl | rfl | rfl | rfl | rfl <;> rfl) (by omega) (by unfold maxLen; omega) (by omega) (by simp; omega) _ rfl ?_; intro g2 cap2 w2 hown2 hg2 hor2 hlt2)
          obtain ⟨hl2, ho2⟩ := Happ.out _ _ _ hown2 Hp.out
          have hb2 := (hb1.alloc hb1.size (.cells #[.int .i64 K, .int .i64 F, .int .u64 Bt, .int .i64 L, .string Tx, .int .i64 C, .int .i64 P] 34)).grown hg2 (by simp; have := hb1.size; omega) (fun q hq => (World.ownsRow.lt Hr1.out q hq).1)
          have HL := Lib.hid hl2
          have HO := Lib.hid ho2
          clear hown2 hg2 hor2 hl2 ho2
          go_roundw
          case rel => exact ⟨k + 1, n + 1, g2, cap2, by omega, by go_num, by omega, rfl, HL, HO, hb2⟩
          case measure => simp [intOf]; omega
    · have hge : (l.length : Int) ≤ (k : Int) := by omega
      have hend : decide (k < l.length) = false := decide_eq_false hlt
      obtain rfl : k = l.length := by omega
      have hm : mergedE (l.take l.length) = mergedE l := by rw [List.take_length]
      rw [hm] at hlen hown
      go_wp2_with fail
      go_ret
      exact ⟨g, cp, by rw [hlen.out]; rfl, by rw [hlen.out]; exact hown.out, hbr⟩
end Go.Proofs.YtcnpdcmdnmfnaaaGreat.Num

/-
  The walks of the reference's l1Min, l1Max, PartBytes, LongestPart and PrefixOf; only new memory is written.
-/
namespace Go.Proofs.YtcnpdcmdnmfnaaaGreat.Num
open Go.RowKit Go.Proofs
set_option linter.unusedVariables false
set_option linter.unusedSimpArgs false
attribute [local go_sem] Region.wanted yielded

theorem specMax_any (a b : Int) (w : World) : Calls Tryz.prog 83 #[.int .i64 a, .int .i64 b] w fun e w' => e = .returned (.int .i64 (max a b)) ∧ w = w' := by
  by_cases h : b < a
  · have hm : max a b = a := by omega
    rw [hm]
    go_enter Tryz.func83, Tryz.ntmps83
    go_wp2_with fail
    go_ret
    exact ⟨rfl, rfl⟩
  · have hm : max a b = b := by omega
    have hd : decide (b < a) = false := decide_eq_false h
    rw [hm]
    clear h hm
    go_enter Tryz.func83, Tryz.ntmps83
    go_wp2_with fail
    go_ret
    exact ⟨rfl, rfl⟩
theorem specMin_any (a b : Int) (w : World) : Calls Tryz.prog 126 #[.int .i64 a, .int .i64 b] w fun e w' => e = .returned (.int .i64 (min a b)) ∧ w = w' := by
  by_cases h : a < b
  · have hm : min a b = a := by omega
    rw [hm]
    go_enter Tryz.func126, Tryz.ntmps126
    go_wp2_with fail
    go_ret
    exact ⟨rfl, rfl⟩
  · have hm : min a b = b := by omega
    have hd : decide (a < b) = false := decide_eq_false h
    rw [hm]
    clear h hm
    go_enter Tryz.func126, Tryz.ntmps126
    go_wp2_with fail
    go_ret
    exact ⟨rfl, rfl⟩
end Go.Proofs.YtcnpdcmdnmfnaaaGreat.Num

/-
  append onto a slice that the call owns (not nil), of however many elements, none of them too, from a slice at any address or nil; at a plain region's operation and at a step of a region that draws. For any program.
-/
namespace Go.Proofs.YtcnpdcmdnmfnaaaGreat.Num
open Go
section
variable {P : Program} (w : World)
theorem run_append_onto (t ty : TypeId) (base : Nat) (e : TypeId) (i : TypeInfo) (z : Value) (size bytes : Nat) (ht : P.underlying t = some (.slice e)) (hi : P.info? e = some i) (hz : i.zero = some z)
    (hsize : i.size = size) (hby : i.bytes = bytes) (hzs : z.cells.size = size) (hsz : 0 < size)
    (g0 n cap0 : Nat) (xs : List Value) (hown : w.ownsRow base e size (.slice (some ⟨g0, 0, none⟩) n cap0) n xs)
    (ao : Option Addr) (m c : Nat) (hao : ao = none → m = 0 ∧ c = 0) (news : List Value) (hl : news.length = m * size) (hnews : ∀ ad, ao = some ad → ∀ j u, news[j]? = some u → w.cell? (ad.add j) = some u) (h1 : ∀ u ∈ news, u.oneCell' = true)
    (h63 : n + m ≤ maxLen) (hbytes : (n + m) * bytes ≤ 140737488355328) (hbase : base ≤ w.heap.size) (H : Nat) (hH : w.heap.size = H) :
    ∃ g cap w', (Builtin.append_ #[t, t] ty #[.slice (some ⟨g0, 0, none⟩) n cap0, .slice ao m c]).run P w = .ok (.slice (some ⟨g, 0, none⟩) (n + m) cap) w' ∧
      w'.ownsRow base e size (.slice (some ⟨g, 0, none⟩) (n + m) cap) (n + m) (xs ++ news) ∧ w.grownBy w' (some g0) ∧ (g = g0 ∨ g = H) ∧ g < w'.heap.size := by
  cases ao with
  | none =>
    obtain ⟨rfl, rfl⟩ := hao rfl
    obtain rfl : news = [] := List.eq_nil_of_length_eq_zero (by simpa using hl)
    refine ⟨g0, cap0, w, run_append_owned_none (P := P) (w := w) base t ty e i size ht hi _ n xs hown, by simpa using hown, ⟨rfl, rfl, rfl, Nat.le_refl _, fun _ _ _ => rfl⟩, .inl rfl, (hown.lt g0 rfl).2⟩
  | some ad =>
    obtain ⟨v', w', hr, h2, h3, h4, h5⟩ := run_append_own_at (P := P) w base t ty e i z size bytes ht hi hz hsize hby hzs hsz _ n xs hown ad m c news hl (hnews ad rfl) h1 h63 hbytes hbase
    have hne : v' ≠ .slice none 0 0 := fun e => by have := (h4.1 e).1; cases this
    rcases h2.2 with ⟨e, _⟩ | ⟨g, cap, cur, e, _, hblk, _⟩
    · exact absurd e hne
    · subst e
      refine ⟨g, cap, w', hr, h2, h3, ?_, (h2.lt g rfl).2⟩
      rcases h5 with h5 | h5
      · exact .inl (Option.some.inj h5)
      · exact .inr ((Option.some.inj h5).trans hH)
theorem wp_append_onto {o : Oper} {a : Act} {K : Act → World → Prop} {Q : Exit → Act → World → Prop} (s x : Operand) (t : TypeId)
    (ho : o.op = .call { callee := .builtin .append, args := #[s, x], argTypes := #[t, t] })
    (base : Nat) (e : TypeId) (i : TypeInfo) (z : Value) (size bytes : Nat) (ht : P.underlying t = some (.slice e)) (hi : P.info? e = some i) (hz : i.zero = some z)
    (hsize : i.size = size) (hby : i.bytes = bytes) (hzs : z.cells.size = size) (hsz : 0 < size)
    (g0 n cap0 : Nat) (xs : List Value) (hs : a.eval s = .slice (some ⟨g0, 0, none⟩) n cap0) (hown : w.ownsRow base e size (.slice (some ⟨g0, 0, none⟩) n cap0) n xs)
    (ao : Option Addr) (m c : Nat) (hx : a.eval x = .slice ao m c) (hao : ao = none → m = 0 ∧ c = 0) (news : List Value) (hl : news.length = m * size) (hnews : ∀ ad, ao = some ad → ∀ j u, news[j]? = some u → w.cell? (ad.add j) = some u) (h1 : ∀ u ∈ news, u.oneCell' = true)
    (h63 : n + m ≤ maxLen) (hbytes : (n + m) * bytes ≤ 140737488355328) (hbase : base ≤ w.heap.size) (H : Nat) (hH : w.heap.size = H)
    (h : ∀ g cap w', w'.ownsRow base e size (.slice (some ⟨g, 0, none⟩) (n + m) cap) (n + m) (xs ++ news) → w.grownBy w' (some g0) → (g = g0 ∨ g = H) → g < w'.heap.size → K (a.put o.dst (.slice (some ⟨g, 0, none⟩) (n + m) cap)) w') : o.wp P a w K Q := by
  obtain ⟨g, cap, w', hr, h2, h3, h4, h5⟩ := run_append_onto (P := P) w t o.type base e i z size bytes ht hi hz hsize hby hzs hsz g0 n cap0 xs hown ao m c hao news hl hnews h1 h63 hbytes hbase H hH
  unfold Oper.wp execOp
  simp only [ho, resolve, invoke, builtin, Sem.run_bind, Sem.run_pure, Result.andThen_ok, List.map_toArray, List.map_cons, List.map_nil, hs, hx, hr]
  exact h g cap w' h2 h3 h4 h5
theorem wpList_append_onto {ops : Array Oper} {rest : List Oper} {o : Oper} {a : Act} {Q : Exit → Act → World → Prop} (hgd : o.guard = none) (s x : Operand) (t : TypeId)
    (ho : o.op = .call { callee := .builtin .append, args := #[s, x], argTypes := #[t, t] })
    (base : Nat) (e : TypeId) (i : TypeInfo) (z : Value) (size bytes : Nat) (ht : P.underlying t = some (.slice e)) (hi : P.info? e = some i) (hz : i.zero = some z)
    (hsize : i.size = size) (hby : i.bytes = bytes) (hzs : z.cells.size = size) (hsz : 0 < size)
    (g0 n cap0 : Nat) (xs : List Value) (hs : a.eval s = .slice (some ⟨g0, 0, none⟩) n cap0) (hown : w.ownsRow base e size (.slice (some ⟨g0, 0, none⟩) n cap0) n xs)
    (ao : Option Addr) (m c : Nat) (hx : a.eval x = .slice ao m c) (hao : ao = none → m = 0 ∧ c = 0) (news : List Value) (hl : news.length = m * size) (hnews : ∀ ad, ao = some ad → ∀ j u, news[j]? = some u → w.cell? (ad.add j) = some u) (h1 : ∀ u ∈ news, u.oneCell' = true)
    (h63 : n + m ≤ maxLen) (hbytes : (n + m) * bytes ≤ 140737488355328) (hbase : base ≤ w.heap.size) (H : Nat) (hH : w.heap.size = H)
    (h : ∀ g cap w', w'.ownsRow base e size (.slice (some ⟨g, 0, none⟩) (n + m) cap) (n + m) (xs ++ news) → w.grownBy w' (some g0) → (g = g0 ∨ g = H) → g < w'.heap.size → wpList P ops Q rest (a.put o.dst (.slice (some ⟨g, 0, none⟩) (n + m) cap)) w') : wpList P ops Q (o :: rest) a w :=
  wpList_plain hgd fun _ hK => wp_append_onto w s x t ho base e i z size bytes ht hi hz hsize hby hzs hsz g0 n cap0 xs hs hown ao m c hx hao news hl hnews h1 h63 hbytes hbase H hH fun g cap w' h2 h3 h4 h5 => hK _ _ (h g cap w' h2 h3 h4 h5)
theorem step_append_onto {ops : Array Oper} {o : Oper} {a : Act} {K : Act → World → Prop} {Q : Exit → Act → World → Prop} {E : Prop} (hgd : o.guard = none) (s x : Operand) (t : TypeId)
    (ho : o.op = .call { callee := .builtin .append, args := #[s, x], argTypes := #[t, t] })
    (base : Nat) (e : TypeId) (i : TypeInfo) (z : Value) (size bytes : Nat) (ht : P.underlying t = some (.slice e)) (hi : P.info? e = some i) (hz : i.zero = some z)
    (hsize : i.size = size) (hby : i.bytes = bytes) (hzs : z.cells.size = size) (hsz : 0 < size)
    (g0 n cap0 : Nat) (xs : List Value) (hs : a.eval s = .slice (some ⟨g0, 0, none⟩) n cap0) (hown : w.ownsRow base e size (.slice (some ⟨g0, 0, none⟩) n cap0) n xs)
    (ao : Option Addr) (m c : Nat) (hx : a.eval x = .slice ao m c) (hao : ao = none → m = 0 ∧ c = 0) (news : List Value) (hl : news.length = m * size) (hnews : ∀ ad, ao = some ad → ∀ j u, news[j]? = some u → w.cell? (ad.add j) = some u) (h1 : ∀ u ∈ news, u.oneCell' = true)
    (h63 : n + m ≤ maxLen) (hbytes : (n + m) * bytes ≤ 140737488355328) (hbase : base ≤ w.heap.size) (H : Nat) (hH : w.heap.size = H)
    (h : ∀ g cap w', w'.ownsRow base e size (.slice (some ⟨g, 0, none⟩) (n + m) cap) (n + m) (xs ++ news) → w.grownBy w' (some g0) → (g = g0 ∨ g = H) → g < w'.heap.size → K (a.put o.dst (.slice (some ⟨g, 0, none⟩) (n + m) cap)) w') :
    if Region.wanted o (yielded ops a.tmps) = true then Oper.wp P o a w K Q else E := by
  have hw : Region.wanted o (yielded ops a.tmps) = true := by simp [Region.wanted, hgd]
  rw [if_pos hw]
  exact wp_append_onto w s x t ho base e i z size bytes ht hi hz hsize hby hzs hsz g0 n cap0 xs hs hown ao m c hx hao news hl hnews h1 h63 hbytes hbase H hH h
end
end Go.Proofs.YtcnpdcmdnmfnaaaGreat.Num

/-
  The walk of the reference's Shattered; only new memory is written.
-/
namespace Go.Proofs.YtcnpdcmdnmfnaaaGreat.Num
open Go.RowKit Go.Proofs
set_option linter.unusedVariables false
set_option linter.unusedSimpArgs false
attribute [local go_sem] Region.wanted yielded

theorem addNone (b o n : Nat) : (⟨b, o, none⟩ : Addr).add n = ⟨b, o + n, none⟩ := by
  unfold Addr.add
  split
  · next h => subst h; rfl
  · rfl
/-- The cells of a list that is read are those that its append takes. -/
theorem EvsAt.news {w : World} {S : Nat → Prop} {a : Option Addr} {n cap : Nat} {l : List Ev} (h : EvsAt w S (.slice a n cap) l) : ∀ ad, a = some ad → ∀ j u, (l.flatMap evC)[j]? = some u → w.cell? (ad.add j) = some u := by
  intro ad ha j u hj
  subst ha
  have hjl : j < (l.flatMap evC).length := (List.getElem?_eq_some_iff.1 hj).1
  rw [flat_len (sz := 7) (fun _ => rfl)] at hjl
  have hq : j = j / 7 * 7 + j % 7 := by omega
  obtain ⟨b, o, e1, _, c0, c1, c2, c3, c4, c5, c6⟩ := h.cellsAt (j / 7) (by omega)
  obtain rfl := Option.some.inj e1
  rw [hq, flat_get (sz := 7) (fun _ => rfl) l (j / 7) (by omega) (j % 7) (by omega)] at hj
  rw [addNone]
  have h7 : j % 7 < 7 := by omega
  rw [hq, ← Nat.add_assoc]
  generalize j % 7 = r at h7 hj ⊢
  match r, h7 with
  | 0, _ => exact c0.trans hj
  | 1, _ => exact c1.trans hj
  | 2, _ => exact c2.trans hj
  | 3, _ => exact c3.trans hj
  | 4, _ => exact c4.trans hj
  | 5, _ => exact c5.trans hj
  | 6, _ => exact c6.trans hj
theorem evs_len (l : List Ev) : (l.flatMap evC).length = l.length * 7 := flat_len (sz := 7) (fun _ => rfl) l
def strLenV : Value → Nat
  | .string s => s.size
  | _ => 0
theorem evC_one {l : List Ev} : ∀ u ∈ l.flatMap evC, u.oneCell' = true := by
  intro u hu
  obtain ⟨e, _, he⟩ := List.mem_flatMap.1 hu
  simp [evC] at he
  rcases he with rfl | rfl | rfl | rfl | rfl | rfl | rfl <;> rfl
end Go.Proofs.YtcnpdcmdnmfnaaaGreat.Num

/-
  The walk of the reference's l12Payload: a text or bytes are told, as far as they are there and right.
-/
namespace Go.Proofs.YtcnpdcmdnmfnaaaGreat.Num
open Go.RowKit Go.Proofs
set_option linter.unusedVariables false
set_option linter.unusedSimpArgs false

theorem utfOf_text {t : ByteArray} : utfOf 6 t = Utf.run Utf.z t.data.toList := if_pos rfl
theorem utfOf_other {k : Int} {t : ByteArray} (h : k ≠ 6) : utfOf k t = (Utf.z, none) := if_neg h
theorem isEmpty_of {t : ByteArray} (h : t.size = 0) : t.toList.isEmpty = true := by rw [ba_zero h]; exact (congrArg List.isEmpty (ByteArray.toList_eq (⟨#[]⟩ : ByteArray))).trans rfl
theorem notEmpty_of {t : ByteArray} (h : t.size ≠ 0) : t.toList.isEmpty = false := by
  cases hh : t.toList.isEmpty with
  | false => rfl
  | true => exact absurd (by rw [ba_inj (a := t) (b := .empty) (by rw [List.isEmpty_iff.1 hh, ByteArray.toList_eq]; rfl)]; rfl) h
set_option maxHeartbeats 4000000 in
set_option maxRecDepth 100000 in
theorem l12Payload_any (g : Nat) (u : Value) (sch : List RM) (A B C : Int) (f : RF) (n : Nat) (s : ByteArray) (o : Value) (r : RdM) (w : World) (h : RdAt w g u sch A B C s o r) (hs : s.size ≤ 281474976710656) (hn : (r.place + n : Nat) ≤ 9223372036854775807) (hr : r.fail.kind = 0) (hl : r.out.length ≤ 1048575990) :
    Calls Tryz.prog 96 #[.pointer (some ⟨g, 0, none⟩), fieldV f, .int .i64 n] w fun e w' => e = .returned (.tuple #[]) ∧ ∃ o', RdAt w' g u sch A B C s o' (rdPayload s f n r) ∧ Moved g o o' w w' := by
  obtain ⟨R, hR⟩ : ∃ R, rdPayload s f n r = R := ⟨_, rfl⟩
  rw [hR]
  obtain ⟨A1, A2, A3, A4, A5⟩ := f
  unfold rdPayload at hR
  simp only at hR
  unfold fieldV
  simp only
  have hg := h.lt
  have Hg := Lib.hid hg
  have hp := h.place
  have hob : ∀ k, o.ownBlock = some k → k < w.heap.size := fun k hk => (h.out.lt k hk).2
  have hbx : Box (w.alloc (.cells #[.int .i64 A1, .int .i64 A2, .bool A3, .bool A4, .int .i64 A5] 95)) w.heap.size [.int .i64 A1, .int .i64 A2, .bool A3, .bool A4, .int .i64 A5] := Box.fresh w #[.int .i64 A1, .int .i64 A2, .bool A3, .bool A4, .int .i64 A5] _
  have hl0 : Below w.heap.size w (w.alloc (.cells #[.int .i64 A1, .int .i64 A2, .bool A3, .bool A4, .int .i64 A5] 95)) := (Below.refl _ _).alloc (Nat.le_refl _) _
  have H0 := Lib.hid (h.below hl0)
  have hm0 : Moved g o o w (w.alloc (.cells #[.int .i64 A1, .int .i64 A2, .bool A3, .bool A4, .int .i64 A5] 95)) := .of_below hl0
  have hgx : w.heap.size ≠ g := by omega
  have hox : o.ownBlock ≠ some w.heap.size := fun e => Nat.lt_irrefl _ (hob _ e)
  obtain ⟨m, hm⟩ : ∃ m, min s.size (r.place + n) = m := ⟨_, rfl⟩
  have hm1 : r.place ≤ m := by omega
  have hm2 : m ≤ s.size := by omega
  have hth : thereB s r.place n = s.extract r.place m := by unfold thereB; rw [hm]
  rw [hth] at hR
  have hts : (s.extract r.place m).size = m - r.place := ba_extract_size _ _ _ hm2
  have HS : Hid ((s.extract r.place m).size ≤ n ∧ (s.extract r.place m).size ≤ 281474976710656) := Lib.hid (by omega)
  have hw1 : IntKind.i64.wrap ((r.place : Int) + (n : Int)) = ((r.place + n : Nat) : Int) := by rw [IntWalk.i64_in _ (by omega)]; omega
  have HV : Hid (∀ w, Calls Tryz.prog 126 #[.int .i64 s.size, .int .i64 ((r.place + n : Nat) : Int)] w fun e w' => e = .returned (.int .i64 m) ∧ w = w') := Lib.hid fun w => by
    have h := specMin_any (s.size : Int) ((r.place + n : Nat) : Int) w
    rw [show min (s.size : Int) ((r.place + n : Nat) : Int) = (m : Int) by omega] at h
    exact h
  have HM : Hid (∀ _ : (s.extract r.place m).size = n, r.place + n ≤ s.size) := Lib.hid fun e => by omega
  have Hl := Lib.hid hl
  have HR := Lib.hid hR
  have Hr := Lib.hid hr
  clear hm hth hts h hl0 hob hR hr hl
  go_enter Tryz.func96, Tryz.ntmps96
  go_wp2_with fail
  refine (l12Tell_any g u sch A B C s o r (openE A1 n) _ H0.out (by have := Hl.out; omega)).mono ?_
  generalize w.alloc (.cells #[.int .i64 A1, .int .i64 A2, .bool A3, .bool A4, .int .i64 A5] 95) = w1 at H0 hm0 hbx ⊢
  rintro e w2 ⟨rfl, o1, h2, hmv⟩
  have H2 := Lib.hid h2
  have hmo := hm0.trans hmv
  have hb2 := hmv.box hbx hgx hox
  clear hmv hm0 hbx h2 H0
  obtain ⟨⟨x0, x1, x2, x3, x4⟩, _⟩ := Box.five hb2
  obtain ⟨⟨c0, c1, c2, c3, c4, c5, c6, c7, c8, c9, c10, c11, c12, c13⟩, f5, f6, f7, f8, f9, f10, f11, f12, f13⟩ := H2.out.box.at7
  replace c5 : w2.cell? ⟨g, 5, none⟩ = some (.int .i64 r.place) := c5
  have hmi : (r.place : Int) ≤ (m : Int) := by omega
  have hmi2 : (m : Int) ≤ (s.size : Int) := by omega
  go_wp2_with fail
  go_quiet ((go_at_call 126; exact Calls.quiet_of_same (flip_same (HV.out _))))
  have HD : Hid (RdAt (w2.drewN nq) g u sch A B C s o1 (r.tell (openE A1 n))) := Lib.hid ⟨H2.out.box, H2.out.out, H2.out.msgs, H2.out.place⟩
  have hmd : Moved g o o1 w (w2.drewN nq) := hmo.trans (.drewN g o1 w2 nq)
  have hbd : Box (w2.drewN nq) w.heap.size [.int .i64 A1, .int .i64 A2, .bool A3, .bool A4, .int .i64 A5] := hb2.drewN nq
  generalize w2.drewN nq = wd at HD hmd hbd ⊢
  clear c0 c1 c2 c3 c4 c5 c6 c7 c8 c9 c10 c11 c12 c13 f5 f6 f7 f8 f9 f10 f11 f12 f13 x0 x1 x2 x3 x4 HV H2 hmo hb2 hmi hmi2 hm1 hm2 hw1
  generalize s.extract r.place m = t at HS HR HM ⊢
  obtain ⟨⟨x0, x1, x2, x3, x4⟩, _⟩ := Box.five hbd
  have hbl := hbd.lt
  have hu : Box (wd.alloc (.cells #[.int .i64 0, .int .i64 0, .int .i64 0] 178)) wd.heap.size [.int .i64 0, .int .i64 0, .int .i64 0] := Box.fresh wd #[.int .i64 0, .int .i64 0, .int .i64 0] _
  have hba : Below wd.heap.size wd (wd.alloc (.cells #[.int .i64 0, .int .i64 0, .int .i64 0] 178)) := (Below.refl _ _).alloc (Nat.le_refl _) _
  have hou : o1.ownBlock ≠ some wd.heap.size := fun e => Nat.lt_irrefl _ (HD.out.out.lt _ e).2
  have hgu : wd.heap.size ≠ g := by have := HD.out.lt; omega
  by_cases hk : A2 = 6
  · subst hk
    have HU : Hid (Calls Tryz.prog 127 #[.agg #[.int .i64 0, .int .i64 0, .int .i64 0], .string t] (wd.alloc (.cells #[.int .i64 0, .int .i64 0, .int .i64 0] 178)) fun e w' => e = .returned (textV (Utf.run Utf.z t.data.toList)) ∧ Below (wd.alloc (.cells #[.int .i64 0, .int .i64 0, .int .i64 0] 178)).heap.size (wd.alloc (.cells #[.int .i64 0, .int .i64 0, .int .i64 0] 178)) w') := Lib.hid (specUtfText_any 0 0 0 t _ HS.out.2)
    rw [utfOf_text] at HR
    have Hbd : Hid (∀ k, (Utf.run Utf.z t.data.toList).2 = some k → k < t.size) := Lib.hid fun k h => by have := Utf.run_bound _ _ _ h; rwa [← ba_size] at this
    generalize Utf.run Utf.z t.data.toList = q at HU HR Hbd
    obtain ⟨⟨W, L, H⟩, off⟩ := q
    unfold textV utV at HU
    simp only at HU
    go_wp2_with fail
    refine HU.out.mono ?_
    rintro e w4 ⟨rfl, hb4⟩
    have hu4 := hu.below hb4 hu.lt
    have hba4 := hba.trans (hb4.mono hba.size)
    have hgd : g < wd.heap.size := HD.out.lt
    have hz4 := hba4.size
    clear hu hb4 HU hba x0 x1 x2 x3 x4
    obtain ⟨z0, z1, z2, y0, y1, y2⟩ := hu4.three
    have hu7 : Box ((((w4.setCell ⟨wd.heap.size, 0, none⟩ (.int .i64 W)).setCell ⟨wd.heap.size, 1, none⟩ (.int .i64 L)).setCell ⟨wd.heap.size, 2, none⟩ (.int .i64 H)).alloc (.cells #[.int .i64 W, .int .i64 L, .int .i64 H] 178)) wd.heap.size [.int .i64 W, .int .i64 L, .int .i64 H] := (((hu4.set 0 (.int .i64 W)).set 1 (.int .i64 L)).set 2 (.int .i64 H)).alloc _
    have hb7 : Below wd.heap.size wd ((((w4.setCell ⟨wd.heap.size, 0, none⟩ (.int .i64 W)).setCell ⟨wd.heap.size, 1, none⟩ (.int .i64 L)).setCell ⟨wd.heap.size, 2, none⟩ (.int .i64 H)).alloc (.cells #[.int .i64 W, .int .i64 L, .int .i64 H] 178)) := (((hba4.setCell (Nat.le_refl _) _).setCell (Nat.le_refl _) _).setCell (Nat.le_refl _) _).alloc (by simpa [World.setCell] using hz4) _
    have HT := Lib.hid (HD.out.below hb7)
    have hmt := hmd.trans (Moved.of_below hb7)
    have hu4l := hu4.lt
    cases off with
    | none =>
      unfold offI
      have HRt : Hid (rdEnd s n t ((W, L, H), none) (rdPart t (r.tell (openE A1 n))) = R) := HR
      clear HR HD hmd hb7 Hbd
      go_upto_region 10 with fail
      generalize ((((w4.setCell ⟨wd.heap.size, 0, none⟩ (.int .i64 W)).setCell ⟨wd.heap.size, 1, none⟩ (.int .i64 L)).setCell ⟨wd.heap.size, 2, none⟩ (.int .i64 H)).alloc (.cells #[.int .i64 W, .int .i64 L, .int .i64 H] 178)) = wt at hu7 HT hmt ⊢
      have hu := hu7
      clear hu4 z0 z1 z2 y0 y1 y2 hba4 hu7 hu4l hz4 hgd hbl hbd
      generalize wd.heap.size = gu at hu hgu hou ⊢
      by_cases h0 : t.size = 0
      · have hE := isEmpty_of h0
        have hu2 := hu
        obtain ⟨⟨c0, c1, c2, c3, c4, c5, c6, c7, c8, c9, c10, c11, c12, c13⟩, f5, f6, f7, f8, f9, f10, f11, f12, f13⟩ := HT.out.box.at7
        replace c5 : wt.cell? ⟨g, 5, none⟩ = some (.int .i64 r.place) := c5
        replace c7 : wt.cell? ⟨g, 7, none⟩ = some (.int .i64 0) := by rw [← Hr.out]; exact c7
        have H0 := Lib.hid h0
        clear h0
        have hbw := hu2
        by_cases hlt : t.size < n
        · have hlti : (t.size : Int) < (n : Int) := by omega
          have HRf : Hid ((r.tell (openE A1 n)).bad 10 s.size = R) := Lib.hid (by rw [← HRt.out]; unfold rdEnd; simp only; rw [if_pos hlt]; unfold rdPart; rw [if_pos H0.out] <;> rfl)
          go_wp2_with fail
          refine (l12Fail_any 10 s.size _).mono ?_
          rintro e w6 ⟨rfl, hb6⟩
          have H6 := Lib.hid ((HT).out.below hb6)
          have hm6 := (hmt).trans (Moved.of_below hb6)
          clear c0 c1 c2 c3 c4 c5 c6 c7 c8 c9 c10 c11 c12 c13 f5 f6 f7 f8 f9 f10 f11 f12 f13 hb6
          obtain ⟨⟨c0, c1, c2, c3, c4, c5, c6, c7, c8, c9, c10, c11, c12, c13⟩, f5, f6, f7, f8, f9, f10, f11, f12, f13⟩ := H6.out.box.at7
          go_wp2_with fail
          go_end0
          refine ⟨rfl, o1, by rw [← HRf.out]; exact H6.out.bad 10 s.size, ?_⟩
          repeat (first | with_reducible exact hm6 | refine Moved.setCell ?_ Hg.out _ _)
        · have hltb : decide (t.size < n) = false := decide_eq_false hlt
          have hltb2 : decide ((t.size : Int) < (n : Int)) = false := decide_eq_false (by omega)
          have htn : t.size = n := by have := HS.out.1; omega
          obtain ⟨u0, u1, u2, v0, v1, v2⟩ := hbw.three
          have hple : Hid (r.place + n ≤ s.size) := Lib.hid (by have := HM.out; omega)
          by_cases hW : 0 < W
          · have HRf : Hid ((r.tell (openE A1 n)).bad 5 ((r.place + n : Nat) : Int) = R) := Lib.hid (by rw [← HRt.out]; unfold rdEnd; simp only; rw [if_neg hlt, if_pos hW]; unfold rdPart; rw [if_pos H0.out] <;> rfl)
            clear htn
            go_wp2_with fail
            refine (l12Fail_any 5 ((r.place + n : Nat) : Int) _).mono ?_
            rintro e w6 ⟨rfl, hb6⟩
            have H6 := Lib.hid ((HT).out.below hb6)
            have hm6 := (hmt).trans (Moved.of_below hb6)
            clear c0 c1 c2 c3 c4 c5 c6 c7 c8 c9 c10 c11 c12 c13 f5 f6 f7 f8 f9 f10 f11 f12 f13 hb6
            obtain ⟨⟨c0, c1, c2, c3, c4, c5, c6, c7, c8, c9, c10, c11, c12, c13⟩, f5, f6, f7, f8, f9, f10, f11, f12, f13⟩ := H6.out.box.at7
            go_wp2_with fail
            go_end0
            refine ⟨rfl, o1, by rw [← HRf.out]; exact H6.out.bad 5 ((r.place + n : Nat) : Int), ?_⟩
            repeat (first | with_reducible exact hm6 | refine Moved.setCell ?_ Hg.out _ _)
          · have hWb : decide (0 < W) = false := decide_eq_false hW
            have HRf : Hid (((r.tell (openE A1 n)).to (r.place + n)).tell shutE = R) := Lib.hid (by rw [← HRt.out]; unfold rdEnd; simp only; rw [if_neg hlt, if_neg hW]; unfold rdPart; rw [if_pos H0.out] <;> rfl)
            have H6 := Lib.hid ((HT).out.to (r.place + n) hple.out)
            have hm6 := (hmt).setCell Hg.out 5 (.int .i64 ((r.place + n : Nat) : Int))
            clear htn
            go_wp2_with fail
            refine (l12Tell_any g u sch A B C s o1 ((r.tell (openE A1 n)).to (r.place + n)) shutE _ H6.out (by have := Hl.out; simp only [RdM.to, RdM.tell, List.length_append, List.length_singleton]; omega)).mono ?_
            rintro e w7 ⟨rfl, o7, h7, hm7⟩
            have H7 := Lib.hid h7
            clear h7
            go_wp2_with fail
            go_end0
            exact ⟨rfl, o7, by rw [← HRf.out]; exact H7.out, hm6.trans hm7⟩
      · have hE := notEmpty_of h0
        have H0 := Lib.hid h0
        clear h0
        go_wp2_with fail
        refine (l12Tell_any g u sch A B C s o1 (r.tell (openE A1 n)) (partE t) _ HT.out (by have := Hl.out; simp only [RdM.tell, List.length_append, List.length_singleton]; omega)).mono ?_
        rintro e w5 ⟨rfl, o5, h5, hm5⟩
        have H5 := Lib.hid h5
        have hmt5 := hmt.trans hm5
        have hu2 := hm5.box hu hgu hou
        clear h5 hm5 hu
        obtain ⟨⟨c0, c1, c2, c3, c4, c5, c6, c7, c8, c9, c10, c11, c12, c13⟩, f5, f6, f7, f8, f9, f10, f11, f12, f13⟩ := H5.out.box.at7
        replace c5 : w5.cell? ⟨g, 5, none⟩ = some (.int .i64 r.place) := c5
        replace c7 : w5.cell? ⟨g, 7, none⟩ = some (.int .i64 0) := by rw [← Hr.out]; exact c7
        have hbw := hu2
        by_cases hlt : t.size < n
        · have hlti : (t.size : Int) < (n : Int) := by omega
          have HRf : Hid (((r.tell (openE A1 n)).tell (partE t)).bad 10 s.size = R) := Lib.hid (by rw [← HRt.out]; unfold rdEnd; simp only; rw [if_pos hlt]; unfold rdPart; rw [if_neg H0.out] <;> rfl)
          go_wp2_with fail
          refine (l12Fail_any 10 s.size _).mono ?_
          rintro e w6 ⟨rfl, hb6⟩
          have H6 := Lib.hid ((H5).out.below hb6)
          have hm6 := (hmt5).trans (Moved.of_below hb6)
          clear c0 c1 c2 c3 c4 c5 c6 c7 c8 c9 c10 c11 c12 c13 f5 f6 f7 f8 f9 f10 f11 f12 f13 hb6
          obtain ⟨⟨c0, c1, c2, c3, c4, c5, c6, c7, c8, c9, c10, c11, c12, c13⟩, f5, f6, f7, f8, f9, f10, f11, f12, f13⟩ := H6.out.box.at7
          go_wp2_with fail
          go_end0
          refine ⟨rfl, o5, by rw [← HRf.out]; exact H6.out.bad 10 s.size, ?_⟩
          repeat (first | with_reducible exact hm6 | refine Moved.setCell ?_ Hg.out _ _)
        · have hltb : decide (t.size < n) = false := decide_eq_false hlt
          have hltb2 : decide ((t.size : Int) < (n : Int)) = false := decide_eq_false (by omega)
          have htn : t.size = n := by have := HS.out.1; omega
          obtain ⟨u0, u1, u2, v0, v1, v2⟩ := hbw.three
          have hple : Hid (r.place + n ≤ s.size) := Lib.hid (by have := HM.out; omega)
          by_cases hW : 0 < W
          · have HRf : Hid (((r.tell (openE A1 n)).tell (partE t)).bad 5 ((r.place + n : Nat) : Int) = R) := Lib.hid (by rw [← HRt.out]; unfold rdEnd; simp only; rw [if_neg hlt, if_pos hW]; unfold rdPart; rw [if_neg H0.out] <;> rfl)
            clear htn
            go_wp2_with fail
            refine (l12Fail_any 5 ((r.place + n : Nat) : Int) _).mono ?_
            rintro e w6 ⟨rfl, hb6⟩
            have H6 := Lib.hid ((H5).out.below hb6)
            have hm6 := (hmt5).trans (Moved.of_below hb6)
            clear c0 c1 c2 c3 c4 c5 c6 c7 c8 c9 c10 c11 c12 c13 f5 f6 f7 f8 f9 f10 f11 f12 f13 hb6
            obtain ⟨⟨c0, c1, c2, c3, c4, c5, c6, c7, c8, c9, c10, c11, c12, c13⟩, f5, f6, f7, f8, f9, f10, f11, f12, f13⟩ := H6.out.box.at7
            go_wp2_with fail
            go_end0
            refine ⟨rfl, o5, by rw [← HRf.out]; exact H6.out.bad 5 ((r.place + n : Nat) : Int), ?_⟩
            repeat (first | with_reducible exact hm6 | refine Moved.setCell ?_ Hg.out _ _)
          · have hWb : decide (0 < W) = false := decide_eq_false hW
            have HRf : Hid ((((r.tell (openE A1 n)).tell (partE t)).to (r.place + n)).tell shutE = R) := Lib.hid (by rw [← HRt.out]; unfold rdEnd; simp only; rw [if_neg hlt, if_neg hW]; unfold rdPart; rw [if_neg H0.out] <;> rfl)
            have H6 := Lib.hid ((H5).out.to (r.place + n) hple.out)
            have hm6 := (hmt5).setCell Hg.out 5 (.int .i64 ((r.place + n : Nat) : Int))
            clear htn
            go_wp2_with fail
            refine (l12Tell_any g u sch A B C s o5 (((r.tell (openE A1 n)).tell (partE t)).to (r.place + n)) shutE _ H6.out (by have := Hl.out; simp only [RdM.to, RdM.tell, List.length_append, List.length_singleton]; omega)).mono ?_
            rintro e w7 ⟨rfl, o7, h7, hm7⟩
            have H7 := Lib.hid h7
            clear h7
            go_wp2_with fail
            go_end0
            exact ⟨rfl, o7, by rw [← HRf.out]; exact H7.out, hm6.trans hm7⟩
    | some b =>
      have hbt := Lib.hid (Hbd.out b rfl)
      have HRt : Hid ((rdPart (t.extract 0 b) (r.tell (openE A1 n))).bad 5 ((r.place : Int) + b) = R) := Lib.hid (by rw [← HR.out]; unfold rdEnd rdPart frontB; simp only; split <;> rfl)
      unfold offI
      simp only
      have hb0 : (0 : Int) ≤ (b : Int) := by omega
      have hwb : IntKind.i64.wrap ((r.place : Int) + (b : Int)) = (r.place : Int) + (b : Int) := IntWalk.i64_in _ (by have := hbt.out; have := HS.out; omega)
      have hbsz : (b : Int) ≤ (t.size : Int) := by have := hbt.out; omega
      obtain ⟨⟨c0, c1, c2, c3, c4, c5, c6, c7, c8, c9, c10, c11, c12, c13⟩, f5, f6, f7, f8, f9, f10, f11, f12, f13⟩ := HT.out.box.at7
      replace c5 : ((((w4.setCell ⟨wd.heap.size, 0, none⟩ (.int .i64 W)).setCell ⟨wd.heap.size, 1, none⟩ (.int .i64 L)).setCell ⟨wd.heap.size, 2, none⟩ (.int .i64 H)).alloc (.cells #[.int .i64 W, .int .i64 L, .int .i64 H] 178)).cell? ⟨g, 5, none⟩ = some (.int .i64 r.place) := c5
      clear HR HD hmd hb7 Hbd
      go_upto_region 8 with fail
      generalize ((((w4.setCell ⟨wd.heap.size, 0, none⟩ (.int .i64 W)).setCell ⟨wd.heap.size, 1, none⟩ (.int .i64 L)).setCell ⟨wd.heap.size, 2, none⟩ (.int .i64 H)).alloc (.cells #[.int .i64 W, .int .i64 L, .int .i64 H] 178)) = wt at hu7 HT hmt c0 c1 c2 c3 c4 c5 c6 c7 c8 c9 c10 c11 c12 c13 f5 f6 f7 f8 f9 f10 f11 f12 f13 ⊢
      clear hu4 z0 z1 z2 y0 y1 y2 hba4 hu7 hu4l hz4 hgd hbl hbd
      go_wp2_with fail
      refine (l12Fail_any 5 ((r.place : Int) + b) _).mono ?_
      rintro e w6 ⟨rfl, hb6⟩
      have H6 := Lib.hid (HT.out.below hb6)
      have hm6 := hmt.trans (Moved.of_below hb6)
      clear c0 c1 c2 c3 c4 c5 c6 c7 c8 c9 c10 c11 c12 c13 f5 f6 f7 f8 f9 f10 f11 f12 f13 hb6 HT hmt
      obtain ⟨⟨c0, c1, c2, c3, c4, c5, c6, c7, c8, c9, c10, c11, c12, c13⟩, f5, f6, f7, f8, f9, f10, f11, f12, f13⟩ := H6.out.box.at7
      have H7 := Lib.hid (H6.out.bad 5 ((r.place : Int) + b))
      have hm7 : Moved g o o1 w (((((((w6.setCell ⟨g, 7, none⟩ (.int .i64 10)).setCell ⟨g, 8, none⟩ (.int .i64 0)).setCell ⟨g, 9, none⟩ (.int .u64 0)).setCell ⟨g, 10, none⟩ (.int .i64 0)).setCell ⟨g, 11, none⟩ (.string ⟨#[]⟩)).setCell ⟨g, 12, none⟩ (.int .i64 5)).setCell ⟨g, 13, none⟩ (.int .i64 ((r.place : Int) + b))) := by
        repeat (first | with_reducible exact hm6 | refine Moved.setCell ?_ Hg.out _ _)
      go_upto_region 10 with fail
      generalize (((((((w6.setCell ⟨g, 7, none⟩ (.int .i64 10)).setCell ⟨g, 8, none⟩ (.int .i64 0)).setCell ⟨g, 9, none⟩ (.int .u64 0)).setCell ⟨g, 10, none⟩ (.int .i64 0)).setCell ⟨g, 11, none⟩ (.string ⟨#[]⟩)).setCell ⟨g, 12, none⟩ (.int .i64 5)).setCell ⟨g, 13, none⟩ (.int .i64 ((r.place : Int) + b))) = w7 at H7 hm7 ⊢
      clear H6 hm6 c0 c1 c2 c3 c4 c5 c6 c7 c8 c9 c10 c11 c12 c13 f5 f6 f7 f8 f9 f10 f11 f12 f13 hbsz hwb hb0
      have hxs : (t.extract 0 b).size = b := by rw [ba_extract_size _ _ _ (by have := hbt.out; omega)]; rfl
      generalize t.extract 0 b = tx at HRt hxs ⊢
      by_cases h0 : tx.size = 0
      · have hE := isEmpty_of h0
        have HRf : Hid ((r.tell (openE A1 n)).bad 5 ((r.place : Int) + b) = R) := Lib.hid (by rw [← HRt.out]; unfold rdPart; rw [if_pos h0])
        obtain ⟨⟨c0, c1, c2, c3, c4, c5, c6, c7, c8, c9, c10, c11, c12, c13⟩, f5, f6, f7, f8, f9, f10, f11, f12, f13⟩ := H7.out.box.at7
        replace c7 : w7.cell? ⟨g, 7, none⟩ = some (.int .i64 10) := c7
        clear h0 hxs
        go_wp2_with fail
        go_end0
        exact ⟨rfl, o1, by rw [← HRf.out]; exact H7.out, hm7⟩
      · have hE := notEmpty_of h0
        have HRf : Hid (((r.tell (openE A1 n)).bad 5 ((r.place : Int) + b)).tell (partE tx) = R) := Lib.hid (by rw [← HRt.out]; unfold rdPart; rw [if_neg h0]; rfl)
        clear h0 hxs
        go_wp2_with fail
        refine (l12Tell_any g u sch A B C s o1 ((r.tell (openE A1 n)).bad 5 ((r.place : Int) + b)) (partE tx) _ H7.out (by have := Hl.out; simp only [RdM.bad, RdM.tell, List.length_append, List.length_singleton]; omega)).mono ?_
        rintro e w8 ⟨rfl, o8, h8, hm8⟩
        have H8 := Lib.hid h8
        have hm9 := hm7.trans hm8
        clear h8 hm8
        obtain ⟨⟨c0, c1, c2, c3, c4, c5, c6, c7, c8, c9, c10, c11, c12, c13⟩, f5, f6, f7, f8, f9, f10, f11, f12, f13⟩ := H8.out.box.at7
        replace c7 : w8.cell? ⟨g, 7, none⟩ = some (.int .i64 10) := c7
        go_wp2_with fail
        go_end0
        exact ⟨rfl, o8, by rw [← HRf.out]; exact H8.out, hm9⟩
  · have hkb := neI hk
    have HRt : Hid (rdEnd s n t ((0, 0, 0), none) (rdPart t (r.tell (openE A1 n))) = R) := Lib.hid (by rw [← HR.out, utfOf_other hk]; rfl)
    have HT := Lib.hid (HD.out.below hba)
    have hmt := hmd.trans (Moved.of_below hba)
    clear hk HR HD hmd
    go_upto_region 10 with fail
    generalize wd.alloc (.cells #[.int .i64 0, .int .i64 0, .int .i64 0] 178) = wt at hu HT hmt ⊢
    generalize wd.heap.size = gu at hu hgu hou ⊢
    clear x0 x1 x2 x3 x4 hbd hbl hba
    obtain ⟨W, L, H, hu, HRt⟩ : ∃ W L H : Int, Box wt gu [.int .i64 W, .int .i64 L, .int .i64 H] ∧ Hid (rdEnd s n t ((W, L, H), none) (rdPart t (r.tell (openE A1 n))) = R) := ⟨0, 0, 0, hu, HRt⟩
    by_cases h0 : t.size = 0
    · have hE := isEmpty_of h0
      have hu2 := hu
      obtain ⟨⟨c0, c1, c2, c3, c4, c5, c6, c7, c8, c9, c10, c11, c12, c13⟩, f5, f6, f7, f8, f9, f10, f11, f12, f13⟩ := HT.out.box.at7
      replace c5 : wt.cell? ⟨g, 5, none⟩ = some (.int .i64 r.place) := c5
      replace c7 : wt.cell? ⟨g, 7, none⟩ = some (.int .i64 0) := by rw [← Hr.out]; exact c7
      have H0 := Lib.hid h0
      clear h0
      have hbw := hu2
      by_cases hlt : t.size < n
      · have hlti : (t.size : Int) < (n : Int) := by omega
        have HRf : Hid ((r.tell (openE A1 n)).bad 10 s.size = R) := Lib.hid (by rw [← HRt.out]; unfold rdEnd; simp only; rw [if_pos hlt]; unfold rdPart; rw [if_pos H0.out] <;> rfl)
        go_wp2_with fail
        refine (l12Fail_any 10 s.size _).mono ?_
        rintro e w6 ⟨rfl, hb6⟩
        have H6 := Lib.hid ((HT).out.below hb6)
        have hm6 := (hmt).trans (Moved.of_below hb6)
        clear c0 c1 c2 c3 c4 c5 c6 c7 c8 c9 c10 c11 c12 c13 f5 f6 f7 f8 f9 f10 f11 f12 f13 hb6
        obtain ⟨⟨c0, c1, c2, c3, c4, c5, c6, c7, c8, c9, c10, c11, c12, c13⟩, f5, f6, f7, f8, f9, f10, f11, f12, f13⟩ := H6.out.box.at7
        go_wp2_with fail
        go_end0
        refine ⟨rfl, o1, by rw [← HRf.out]; exact H6.out.bad 10 s.size, ?_⟩
        repeat (first | with_reducible exact hm6 | refine Moved.setCell ?_ Hg.out _ _)
      · have hltb : decide (t.size < n) = false := decide_eq_false hlt
        have hltb2 : decide ((t.size : Int) < (n : Int)) = false := decide_eq_false (by omega)
        have htn : t.size = n := by have := HS.out.1; omega
        obtain ⟨u0, u1, u2, v0, v1, v2⟩ := hbw.three
        have hple : Hid (r.place + n ≤ s.size) := Lib.hid (by have := HM.out; omega)
        by_cases hW : 0 < W
        · have HRf : Hid ((r.tell (openE A1 n)).bad 5 ((r.place + n : Nat) : Int) = R) := Lib.hid (by rw [← HRt.out]; unfold rdEnd; simp only; rw [if_neg hlt, if_pos hW]; unfold rdPart; rw [if_pos H0.out] <;> rfl)
          clear htn
          go_wp2_with fail
          refine (l12Fail_any 5 ((r.place + n : Nat) : Int) _).mono ?_
          rintro e w6 ⟨rfl, hb6⟩
          have H6 := Lib.hid ((HT).out.below hb6)
          have hm6 := (hmt).trans (Moved.of_below hb6)
          clear c0 c1 c2 c3 c4 c5 c6 c7 c8 c9 c10 c11 c12 c13 f5 f6 f7 f8 f9 f10 f11 f12 f13 hb6
          obtain ⟨⟨c0, c1, c2, c3, c4, c5, c6, c7, c8, c9, c10, c11, c12, c13⟩, f5, f6, f7, f8, f9, f10, f11, f12, f13⟩ := H6.out.box.at7
          go_wp2_with fail
          go_end0
          refine ⟨rfl, o1, by rw [← HRf.out]; exact H6.out.bad 5 ((r.place + n : Nat) : Int), ?_⟩
          repeat (first | with_reducible exact hm6 | refine Moved.setCell ?_ Hg.out _ _)
        · have hWb : decide (0 < W) = false := decide_eq_false hW
          have HRf : Hid (((r.tell (openE A1 n)).to (r.place + n)).tell shutE = R) := Lib.hid (by rw [← HRt.out]; unfold rdEnd; simp only; rw [if_neg hlt, if_neg hW]; unfold rdPart; rw [if_pos H0.out] <;> rfl)
          have H6 := Lib.hid ((HT).out.to (r.place + n) hple.out)
          have hm6 := (hmt).setCell Hg.out 5 (.int .i64 ((r.place + n : Nat) : Int))
          clear htn
          go_wp2_with fail
          refine (l12Tell_any g u sch A B C s o1 ((r.tell (openE A1 n)).to (r.place + n)) shutE _ H6.out (by have := Hl.out; simp only [RdM.to, RdM.tell, List.length_append, List.length_singleton]; omega)).mono ?_
          rintro e w7 ⟨rfl, o7, h7, hm7⟩
          have H7 := Lib.hid h7
          clear h7
          go_wp2_with fail
          go_end0
          exact ⟨rfl, o7, by rw [← HRf.out]; exact H7.out, hm6.trans hm7⟩
    · have hE := notEmpty_of h0
      have H0 := Lib.hid h0
      clear h0
      go_wp2_with fail
      refine (l12Tell_any g u sch A B C s o1 (r.tell (openE A1 n)) (partE t) _ HT.out (by have := Hl.out; simp only [RdM.tell, List.length_append, List.length_singleton]; omega)).mono ?_
      rintro e w5 ⟨rfl, o5, h5, hm5⟩
      have H5 := Lib.hid h5
      have hmt5 := hmt.trans hm5
      have hu2 := hm5.box hu hgu hou
      clear h5 hm5 hu
      obtain ⟨⟨c0, c1, c2, c3, c4, c5, c6, c7, c8, c9, c10, c11, c12, c13⟩, f5, f6, f7, f8, f9, f10, f11, f12, f13⟩ := H5.out.box.at7
      replace c5 : w5.cell? ⟨g, 5, none⟩ = some (.int .i64 r.place) := c5
      replace c7 : w5.cell? ⟨g, 7, none⟩ = some (.int .i64 0) := by rw [← Hr.out]; exact c7
      have hbw := hu2
      by_cases hlt : t.size < n
      · have hlti : (t.size : Int) < (n : Int) := by omega
        have HRf : Hid (((r.tell (openE A1 n)).tell (partE t)).bad 10 s.size = R) := Lib.hid (by rw [← HRt.out]; unfold rdEnd; simp only; rw [if_pos hlt]; unfold rdPart; rw [if_neg H0.out] <;> rfl)
        go_wp2_with fail
        refine (l12Fail_any 10 s.size _).mono ?_
        rintro e w6 ⟨rfl, hb6⟩
        have H6 := Lib.hid ((H5).out.below hb6)
        have hm6 := (hmt5).trans (Moved.of_below hb6)
        clear c0 c1 c2 c3 c4 c5 c6 c7 c8 c9 c10 c11 c12 c13 f5 f6 f7 f8 f9 f10 f11 f12 f13 hb6
        obtain ⟨⟨c0, c1, c2, c3, c4, c5, c6, c7, c8, c9, c10, c11, c12, c13⟩, f5, f6, f7, f8, f9, f10, f11, f12, f13⟩ := H6.out.box.at7
        go_wp2_with fail
        go_end0
        refine ⟨rfl, o5, by rw [← HRf.out]; exact H6.out.bad 10 s.size, ?_⟩
        repeat (first | with_reducible exact hm6 | refine Moved.setCell ?_ Hg.out _ _)
      · have hltb : decide (t.size < n) = false := decide_eq_false hlt
        have hltb2 : decide ((t.size : Int) < (n : Int)) = false := decide_eq_false (by omega)
        have htn : t.size = n := by have := HS.out.1; omega
        obtain ⟨u0, u1, u2, v0, v1, v2⟩ := hbw.three
        have hple : Hid (r.place + n ≤ s.size) := Lib.hid (by have := HM.out; omega)
        by_cases hW : 0 < W
        · have HRf : Hid (((r.tell (openE A1 n)).tell (partE t)).bad 5 ((r.place + n : Nat) : Int) = R) := Lib.hid (by rw [← HRt.out]; unfold rdEnd; simp only; rw [if_neg hlt, if_pos hW]; unfold rdPart; rw [if_neg H0.out] <;> rfl)
          clear htn
          go_wp2_with fail
          refine (l12Fail_any 5 ((r.place + n : Nat) : Int) _).mono ?_
          rintro e w6 ⟨rfl, hb6⟩
          have H6 := Lib.hid ((H5).out.below hb6)
          have hm6 := (hmt5).trans (Moved.of_below hb6)
          clear c0 c1 c2 c3 c4 c5 c6 c7 c8 c9 c10 c11 c12 c13 f5 f6 f7 f8 f9 f10 f11 f12 f13 hb6
          obtain ⟨⟨c0, c1, c2, c3, c4, c5, c6, c7, c8, c9, c10, c11, c12, c13⟩, f5, f6, f7, f8, f9, f10, f11, f12, f13⟩ := H6.out.box.at7
          go_wp2_with fail
          go_end0
          refine ⟨rfl, o5, by rw [← HRf.out]; exact H6.out.bad 5 ((r.place + n : Nat) : Int), ?_⟩
          repeat (first | with_reducible exact hm6 | refine Moved.setCell ?_ Hg.out _ _)
        · have hWb : decide (0 < W) = false := decide_eq_false hW
          have HRf : Hid ((((r.tell (openE A1 n)).tell (partE t)).to (r.place + n)).tell shutE = R) := Lib.hid (by rw [← HRt.out]; unfold rdEnd; simp only; rw [if_neg hlt, if_neg hW]; unfold rdPart; rw [if_neg H0.out] <;> rfl)
          have H6 := Lib.hid ((H5).out.to (r.place + n) hple.out)
          have hm6 := (hmt5).setCell Hg.out 5 (.int .i64 ((r.place + n : Nat) : Int))
          clear htn
          go_wp2_with fail
          refine (l12Tell_any g u sch A B C s o5 (((r.tell (openE A1 n)).tell (partE t)).to (r.place + n)) shutE _ H6.out (by have := Hl.out; simp only [RdM.to, RdM.tell, List.length_append, List.length_singleton]; omega)).mono ?_
          rintro e w7 ⟨rfl, o7, h7, hm7⟩
          have H7 := Lib.hid h7
          clear h7
          go_wp2_with fail
          go_end0
          exact ⟨rfl, o7, by rw [← HRf.out]; exact H7.out, hm6.trans hm7⟩
end Go.Proofs.YtcnpdcmdnmfnaaaGreat.Num

/-
  Plain facts on a message that is read: how far, how much is told, that what went wrong stays.
-/
namespace Go.Proofs.YtcnpdcmdnmfnaaaGreat.Num
open Go.RowKit Go.Proofs
set_option linter.unusedVariables false

theorem rdVar_cases {s : ByteArray} {E : Int} {r : RdM} (hp : r.place ≤ s.size) : (∃ c a, c ≠ 0 ∧ rdVar s E r = (0, r.bad c a)) ∨ ∃ P U : Nat, rdVar s E r = ((U : Int), r.to P) ∧ r.place < P ∧ P ≤ s.size ∧ (P : Int) ≤ E ∧ U < 18446744073709551616 := by
  unfold rdVar
  by_cases hb : (withinR s r.place E).2.2 = 0
  · rw [if_neg (fun h => h hb)]
    obtain ⟨P, h1, h2, h3, h4, U, h5, h6⟩ := within_range (v := (withinR s r.place E).1) (p := (withinR s r.place E).2.1) (b := (withinR s r.place E).2.2) hp rfl hb
    exact .inr ⟨P, U, by rw [h1, h5, Int.toNat_natCast], h2, h3, h4, h6⟩
  · rw [if_pos hb]; exact .inl ⟨_, _, hb, rfl⟩
theorem rdFix_cases {s : ByteArray} {W E : Int} {r : RdM} : (∃ c a, c ≠ 0 ∧ rdFix s W E r = (0, r.bad c a)) ∨ ∃ U N : Nat, rdFix s W E r = ((U : Int), r.to (r.place + N)) ∧ (N = 4 ∨ N = 8) ∧ r.place + N ≤ s.size ∧ ((r.place + N : Nat) : Int) ≤ E := by
  unfold rdFix
  split
  · exact .inl ⟨9, _, by omega, rfl⟩
  · next he =>
    split
    · exact .inl ⟨10, _, by omega, rfl⟩
    · next hf =>
      by_cases h : (W = 4 ∨ W = 8) ∧ 0 ≤ (r.place : Int) ∧ (r.place : Int) ≤ s.size - W
      · refine .inr ⟨_, W.toNat, rfl, by omega, by omega, by omega⟩
      · exact absurd (by rw [getFix_no h]) hf
/-- What a step does to a reader that did not fail: it fails and stands, or goes on; what is told is no more than the bytes allow. -/
structure Adv (s : ByteArray) (E : Int) (r r' : RdM) : Prop where
  le : r.place ≤ r'.place
  inn : r'.place ≤ s.size
  upto : (r'.place : Int) ≤ E
  len : r'.out.length + 4 * r.place ≤ r.out.length + 4 * r'.place
  ok : r'.fail.kind = 0 → r'.fail = r.fail
section
variable {s : ByteArray} {E : Int} {r r' r'' : RdM}
theorem Adv.refl (hp : r.place ≤ s.size) (hE : (r.place : Int) ≤ E) : Adv s E r r := ⟨Nat.le_refl _, hp, hE, Nat.le_refl _, fun _ => rfl⟩
theorem Adv.bad (hp : r.place ≤ s.size) (hE : (r.place : Int) ≤ E) (c a : Int) : Adv s E r (r.bad c a) := ⟨Nat.le_refl _, hp, hE, Nat.le_refl _, fun h => by have h' : (10 : Int) = 0 := h; omega⟩
theorem Adv.trans (h : Adv s E r r') (k : Adv s E r' r'') (hk : r''.fail.kind = 0 → r'.fail.kind = 0) : Adv s E r r'' := ⟨Nat.le_trans h.le k.le, k.inn, k.upto, by have := h.len; have := k.len; omega, fun e => (k.ok e).trans (h.ok (hk e))⟩
theorem Adv.wide {E' : Int} (h : Adv s E r r') (hE : E ≤ E') : Adv s E' r r' := ⟨h.le, h.inn, by have := h.upto; omega, h.len, h.ok⟩
end
theorem bad_kind (r : RdM) (c a : Int) : (r.bad c a).fail.kind = 10 := rfl
/-- A number: it fails, or goes on, and one event is told at most. -/
theorem rdNum_adv {s : ByteArray} {f : RF} {x E : Int} {r : RdM} (hp : r.place ≤ s.size) (hE : (r.place : Int) ≤ E) : Adv s E r (rdNum s f x E r) ∧ ((rdNum s f x E r).fail.kind = 0 → r.place < (rdNum s f x E r).place) := by
  have key : ∀ q : Int × RdM, ((∃ c a, c ≠ 0 ∧ q = (0, r.bad c a)) ∨ ∃ P U : Nat, q = ((U : Int), r.to P) ∧ r.place < P ∧ P ≤ s.size ∧ (P : Int) ≤ E) → Adv s E r (rdTold f q) ∧ ((rdTold f q).fail.kind = 0 → r.place < (rdTold f q).place) := by
    intro q hq
    rcases hq with ⟨c, a, _, rfl⟩ | ⟨P, U, rfl, h1, h2, h3⟩
    · unfold rdTold
      simp only
      rw [if_neg (fun h => by have h' := h.1; rw [bad_kind] at h'; omega)]
      exact ⟨.bad hp hE c a, fun h => by rw [bad_kind] at h; omega⟩
    · unfold rdTold
      simp only
      split
      · refine ⟨⟨by show r.place ≤ P; omega, h2, h3, ?_, fun _ => rfl⟩, fun _ => h1⟩
        show (r.out ++ [_]).length + 4 * r.place ≤ r.out.length + 4 * P
        rw [List.length_append, List.length_singleton]; omega
      · exact ⟨⟨by show r.place ≤ P; omega, h2, h3, by show r.out.length + _ ≤ r.out.length + 4 * P; omega, fun _ => rfl⟩, fun _ => h1⟩
  unfold rdNum rdRaw
  split
  · refine key _ ?_
    rcases rdVar_cases (E := E) hp with ⟨c, a, h0, h⟩ | ⟨P, U, h, h1, h2, h3, _⟩
    · exact .inl ⟨c, a, h0, h⟩
    · exact .inr ⟨P, U, h, h1, h2, h3⟩
  · refine key _ ?_
    rcases rdFix_cases (s := s) (W := widthR x) (E := E) (r := r) with ⟨c, a, h0, h⟩ | ⟨U, N, h, h1, h2, h3⟩
    · exact .inl ⟨c, a, h0, h⟩
    · exact .inr ⟨r.place + N, U, h, by omega, h2, h3⟩
theorem rdRun_adv {s : ByteArray} {f : RF} {E : Int} : ∀ (n : Nat) (r : RdM), r.place ≤ s.size → (r.place : Int) ≤ E → Adv s E r (rdRun s f E n r)
  | 0, r, hp, hE => .refl hp hE
  | n + 1, r, hp, hE => by
    by_cases h : (r.place : Int) < E ∧ r.fail.kind = 0
    · rw [rdRun_more h]
      obtain ⟨h1, h2⟩ := rdNum_adv (s := s) (f := f) (x := wireR f.2.1) (E := E) (r := r) hp hE
      refine h1.trans (rdRun_adv n _ h1.inn h1.upto) fun hk => ?_
      by_cases h3 : (rdNum s f (wireR f.2.1) E r).fail.kind = 0
      · exact h3
      · rw [rdRun_end (fun h => h3 h.2)] at hk; exact hk
    · rw [rdRun_end h]; exact .refl hp hE
theorem rdPart_place (t : ByteArray) (r : RdM) : (rdPart t r).place = r.place ∧ (rdPart t r).fail = r.fail ∧ (rdPart t r).out.length ≤ r.out.length + 1 := by
  unfold rdPart
  split
  · exact ⟨rfl, rfl, Nat.le_succ _⟩
  · refine ⟨rfl, rfl, ?_⟩
    show (r.out ++ [_]).length ≤ _
    rw [List.length_append, List.length_singleton]; exact Nat.le_refl _
theorem there_full {s : ByteArray} {p n : Nat} (h : ¬ (thereB s p n).size < n) (hn : 0 < n ∨ p ≤ s.size) : p + n ≤ s.size := by
  unfold thereB at h
  rw [ba_extract_size _ _ _ (by omega)] at h
  omega
/-- A text: it fails and stands, or stands behind it. -/
theorem rdPayload_adv {s : ByteArray} {f : RF} {m : Nat} {r : RdM} (hp : r.place ≤ s.size) : ((∃ c a X, (rdPayload s f m r) = ⟨r.place, r.out ++ X, failE c a⟩ ∧ X.length ≤ 2) ∨ ∃ X, rdPayload s f m r = ⟨r.place + m, r.out ++ X, r.fail⟩ ∧ r.place + m ≤ s.size ∧ X.length ≤ 3) := by
  unfold rdPayload
  generalize utfOf f.2.1 (thereB s r.place m) = q
  obtain ⟨st, off⟩ := q
  have hX : ∀ T, ∃ X : List Ev, rdPart T (r.tell (openE f.1 m)) = ⟨r.place, r.out ++ X, r.fail⟩ ∧ X.length ≤ 2 := by
    intro T
    unfold rdPart
    split
    · exact ⟨[openE f.1 m], rfl, by simp⟩
    · exact ⟨[openE f.1 m, partE T], by simp [RdM.tell], by simp⟩
  obtain ⟨X, h1, h2⟩ := hX (frontB (thereB s r.place m) off)
  simp only
  rw [h1]
  unfold rdEnd
  cases off with
  | some b => exact .inl ⟨5, _, X, rfl, h2⟩
  | none =>
    simp only
    split
    · exact .inl ⟨10, _, X, rfl, h2⟩
    · next hlt =>
      split
      · exact .inl ⟨5, _, X, rfl, h2⟩
      · refine .inr ⟨X ++ [shutE], by simp [RdM.tell, RdM.to], there_full hlt (.inr hp), by simp; omega⟩
/-- How a reader of messages advances. -/
def AdvM (s : ByteArray) (M : Int → Int → Int → RdM → RdM) : Prop := ∀ sh E d r, r.place ≤ s.size → (r.place : Int) ≤ E → Adv s E r (M sh E d r)
theorem rdBody_adv {M : Int → Int → Int → RdM → RdM} {n : Nat} {s : ByteArray} {D : Int} {f : RF} {start m : Nat} {E deep : Int} {r : RdM} (hM : AdvM s M) (hp : r.place ≤ s.size) (hE : ((r.place + m : Nat) : Int) ≤ E) (hs : start < r.place) :
    (rdBody M n s D f start m deep r).place ≤ s.size ∧ r.place ≤ (rdBody M n s D f start m deep r).place ∧ ((rdBody M n s D f start m deep r).place : Int) ≤ E ∧ (rdBody M n s D f start m deep r).out.length + 4 * r.place ≤ r.out.length + 4 * (rdBody M n s D f start m deep r).place + 4 ∧ ((rdBody M n s D f start m deep r).fail.kind = 0 → (rdBody M n s D f start m deep r).fail = r.fail) := by
  have hbad : ∀ c a, (r.bad c a).place ≤ s.size ∧ r.place ≤ (r.bad c a).place ∧ ((r.bad c a).place : Int) ≤ E ∧ (r.bad c a).out.length + 4 * r.place ≤ r.out.length + 4 * (r.bad c a).place + 4 ∧ ((r.bad c a).fail.kind = 0 → (r.bad c a).fail = r.fail) := fun c a => ⟨hp, Nat.le_refl _, by show (r.place : Int) ≤ E; omega, by show r.out.length + _ ≤ _ + 4 * r.place + 4; omega, fun h => by rw [bad_kind] at h; omega⟩
  unfold rdBody
  split
  · split
    · exact hbad 10 _
    · next h =>
      refine ⟨by show r.place + m ≤ s.size; omega, by show r.place ≤ r.place + m; omega, hE, by show r.out.length + _ ≤ _ + 4 * (r.place + m) + 4; omega, fun _ => rfl⟩
  · split
    · split
      · exact hbad 6 _
      · have h := hM f.2.2.2.2 ((r.place + m : Nat) : Int) (deep + 1) (r.tell (downE f.1 m)) hp (by show (r.place : Int) ≤ _; omega)
        have hl := h.len
        have hlo : (r.tell (downE f.1 m)).out.length = r.out.length + 1 := by show (r.out ++ [_]).length = _; rw [List.length_append]; rfl
        have hpl : (r.tell (downE f.1 m)).place = r.place := rfl
        have hfl : (r.tell (downE f.1 m)).fail = r.fail := rfl
        have h1 := h.le
        have h2 := h.inn
        have h3 := h.upto
        have h4 := h.ok
        rw [hpl] at h1 hl
        rw [hlo] at hl
        rw [hfl] at h4
        have h3' : ((M f.2.2.2.2 ((r.place + m : Nat) : Int) (deep + 1) (r.tell (downE f.1 m))).place : Int) ≤ E := by omega
        split
        · refine ⟨h2, h1, h3', ?_, h4⟩
          show (_ ++ [upE]).length + _ ≤ _
          rw [List.length_append, List.length_singleton]
          show _ ≤ r.out.length + 4 * (M f.2.2.2.2 ((r.place + m : Nat) : Int) (deep + 1) (r.tell (downE f.1 m))).place + 4
          omega
        · exact ⟨h2, h1, by omega, by omega, h4⟩
    · split
      · rcases rdPayload_adv (s := s) (f := f) (m := m) hp with ⟨c, a, X, h, hx⟩ | ⟨X, h, h1, hx⟩
        · rw [h]
          refine ⟨hp, Nat.le_refl _, by show (r.place : Int) ≤ E; omega, ?_, fun hk => ?_⟩
          · show (r.out ++ X).length + _ ≤ _ + 4 * r.place + 4; rw [List.length_append]; omega
          · have hk' : (10 : Int) = 0 := hk; omega
        · rw [h]
          refine ⟨h1, Nat.le_add_right _ _, hE, ?_, fun _ => rfl⟩
          show (r.out ++ X).length + _ ≤ _ + 4 * (r.place + m) + 4; rw [List.length_append]; omega
      · have h := rdRun_adv (s := s) (f := f) (E := ((r.place + m : Nat) : Int)) n r hp (by omega)
        exact ⟨h.inn, h.le, by have := h.upto; omega, by have := h.len; omega, h.ok⟩
theorem rdLong_adv {M : Int → Int → Int → RdM → RdM} {n : Nat} {s : ByteArray} {D : Int} {f : RF} {E deep : Int} {r : RdM} (hM : AdvM s M) (hp : r.place ≤ s.size) (hE : (r.place : Int) ≤ E) (hr : r.fail.kind = 0) : Adv s E r (rdLong M n s D f E deep r) := by
  unfold rdLong rdLong2
  rcases rdVar_cases (E := E) hp with ⟨c, a, h0, h⟩ | ⟨P, U, h, h1, h2, h3, _⟩
  · rw [h]; simp only
    rw [if_pos (by rw [bad_kind]; omega)]; exact .bad hp hE c a
  · rw [h]; simp only
    rw [if_neg (by intro h; exact h hr)]
    split
    · exact ⟨by show r.place ≤ P; omega, h2, h3, by show r.out.length + _ ≤ r.out.length + 4 * P; omega, fun hk => by have hk' : (10 : Int) = 0 := hk; omega⟩
    · next hlt =>
      have hlt' : (U : Int) ≤ E - (P : Int) := by have h5 : ¬ E - (P : Int) < (U : Int) := hlt; omega
      have hPm : ((P + U : Nat) : Int) ≤ E := by omega
      obtain ⟨k1, k2, k3, k4, k5⟩ := rdBody_adv (n := n) (D := D) (f := f) (m := U) (deep := deep) (start := r.place) (r := r.to P) hM h2 hPm h1
      rw [Int.toNat_natCast]
      have hpl : (r.to P).place = P := rfl
      have hol : (r.to P).out = r.out := rfl
      rw [hpl] at k2 k4
      rw [hol] at k4
      exact ⟨by omega, k1, k3, by omega, k5⟩
theorem rdStep_adv {M : Int → Int → Int → RdM → RdM} {n : Nat} {s : ByteArray} {sch : List RM} {D shape E deep : Int} {r : RdM} (hM : AdvM s M) (hp : r.place ≤ s.size) (hE : (r.place : Int) ≤ E) (hr : r.fail.kind = 0) : Adv s E r (rdStep M n s sch D shape E deep r) ∧ ((rdStep M n s sch D shape E deep r).fail.kind = 0 → r.place < (rdStep M n s sch D shape E deep r).place) := by
  unfold rdStep
  rcases rdVar_cases (E := E) hp with ⟨c, a, h0, h⟩ | ⟨P, U, h, h1, h2, h3, _⟩
  · rw [h]; simp only
    rw [if_pos (by rw [bad_kind]; omega)]
    exact ⟨.bad hp hE c a, fun h => by rw [bad_kind] at h; omega⟩
  · rw [h]; simp only
    rw [if_neg (by intro h; exact h hr)]
    have hto : Adv s E r (r.to P) := ⟨by show r.place ≤ P; omega, h2, h3, by show r.out.length + _ ≤ r.out.length + 4 * P; omega, fun _ => rfl⟩
    have hb : ∀ c a, Adv s E r ((r.to P).bad c a) ∧ (((r.to P).bad c a).fail.kind = 0 → r.place < ((r.to P).bad c a).place) := fun c a => ⟨⟨by show r.place ≤ P; omega, h2, h3, by show r.out.length + _ ≤ r.out.length + 4 * P; omega, fun hk => by rw [bad_kind] at hk; omega⟩, fun hk => by rw [bad_kind] at hk; omega⟩
    unfold rdTag2
    split
    · exact hb 2 _
    · split
      · exact hb 3 _
      · split
        · exact hb 4 _
        · split
          · have k := rdLong_adv (n := n) (D := D) (f := (fieldAtR sch shape (tagInR (U : Int).toNat).1).1) (deep := deep) (r := r.to P) hM h2 h3 hr
            exact ⟨hto.trans k fun _ => hr, fun _ => by have := k.le; have e : (r.to P).place = P := rfl; omega⟩
          · obtain ⟨k, _⟩ := rdNum_adv (s := s) (f := (fieldAtR sch shape (tagInR (U : Int).toNat).1).1) (x := (tagInR (U : Int).toNat).2.1) (E := E) (r := r.to P) h2 h3
            exact ⟨hto.trans k fun _ => hr, fun _ => by have := k.le; have e : (r.to P).place = P := rfl; omega⟩
theorem msgRd_adv {s : ByteArray} {sch : List RM} {D : Int} : ∀ (n : Nat), AdvM s (msgRd s sch D n)
  | 0 => fun sh E d r hp hE => .refl hp hE
  | n + 1 => fun sh E d r hp hE => by
    by_cases h : (r.place : Int) < E ∧ r.fail.kind = 0
    · rw [msgRd_more h]
      obtain ⟨h1, h2⟩ := rdStep_adv (n := n) (sch := sch) (D := D) (shape := sh) (deep := d) (msgRd_adv n) hp hE h.2
      refine h1.trans (msgRd_adv n _ _ _ _ h1.inn h1.upto) fun hk => ?_
      by_cases h3 : (rdStep (msgRd s sch D n) n s sch D sh E d r).fail.kind = 0
      · exact h3
      · rw [msgRd_end (fun h => h3 h.2)] at hk; exact hk
    · rw [msgRd_end h]; exact .refl hp hE
end Go.Proofs.YtcnpdcmdnmfnaaaGreat.Num

/-
  The walk of the reference's l12Long: a length is read, and what it tells of; a message within by the walk that is given.
-/
namespace Go.Proofs.YtcnpdcmdnmfnaaaGreat.Num
open Go.RowKit Go.Proofs
set_option linter.unusedVariables false
set_option linter.unusedSimpArgs false

/-- The reader of messages, as long as fewer than n bytes are left. -/
def MsgCall (g : Nat) (u : Value) (sch : List RM) (A B C : Int) (s : ByteArray) (n : Nat) : Prop :=
  ∀ (sh E d : Int) (o : Value) (r : RdM) (w : World), RdAt w g u sch A B C s o r → r.out.length ≤ 4 * r.place → (r.place : Int) ≤ E → E ≤ 9223372036854775807 → s.size - r.place < n → 1 ≤ d ∧ d ≤ 8 →
    Calls Tryz.prog 36 #[.pointer (some ⟨g, 0, none⟩), .int .i64 sh, .int .i64 E, .int .i64 d] w fun e w' => e = .returned (.tuple #[]) ∧ ∃ o', RdAt w' g u sch A B C s o' (msgRd s sch B n sh E d r) ∧ Moved g o o' w w'
set_option maxHeartbeats 8000000 in
set_option maxRecDepth 100000 in
theorem l12Long_any (n : Nat) (g : Nat) (u : Value) (sch : List RM) (A B C : Int) (f : RF) (s : ByteArray) (IH : MsgCall g u sch A B C s n) (E deep : Int) (o : Value) (r : RdM) (w : World) (h : RdAt w g u sch A B C s o r) (hl : r.out.length ≤ 4 * r.place) (hr : r.fail.kind = 0) (hE : (r.place : Int) ≤ E ∧ E ≤ 9223372036854775807) (hfu : s.size - r.place < n) (hd : 1 ≤ deep ∧ deep ≤ 8) (hB : B ≤ 8) (hs : s.size ≤ 200000000) :
    Calls Tryz.prog 65 #[.pointer (some ⟨g, 0, none⟩), fieldV f, .int .i64 E, .int .i64 deep] w fun e w' => e = .returned (.tuple #[]) ∧ ∃ o', RdAt w' g u sch A B C s o' (rdLong (msgRd s sch B n) n s B f E deep r) ∧ Moved g o o' w w' := by
  obtain ⟨R, hR⟩ : ∃ R, rdLong (msgRd s sch B n) n s B f E deep r = R := ⟨_, rfl⟩
  rw [hR]
  have HP : Hid (∀ (n : Nat) (o : Value) (r : RdM) (w : World), RdAt w g u sch A B C s o r → (r.place + n : Nat) ≤ 9223372036854775807 → r.fail.kind = 0 → r.out.length ≤ 1048575990 → Calls Tryz.prog 96 #[.pointer (some ⟨g, 0, none⟩), fieldV f, .int .i64 n] w fun e w' => e = .returned (.tuple #[]) ∧ ∃ o', RdAt w' g u sch A B C s o' (rdPayload s f n r) ∧ Moved g o o' w w') := Lib.hid fun n o r w h1 h2 h3 h4 => l12Payload_any g u sch A B C f n s o r w h1 (by omega) h2 h3 h4
  have HNm : Hid (∀ (x E : Int) (o : Value) (r : RdM) (w : World), RdAt w g u sch A B C s o r → ((r.place : Int) ≤ E ∧ E ≤ 9223372036854775807) → r.out.length ≤ 1048576000 → Calls Tryz.prog 66 #[.pointer (some ⟨g, 0, none⟩), fieldV f, .int .i64 x, .int .i64 E] w fun e w' => e = .returned (.tuple #[]) ∧ ∃ o', RdAt w' g u sch A B C s o' (rdNum s f x E r) ∧ Moved g o o' w w') := Lib.hid fun x E o r w h1 h2 h3 => l12Num_any g u sch A B C x E f s o r w h1 (by omega) h2 h3
  obtain ⟨A1, A2, A3, A4, A5⟩ := f
  unfold rdLong at hR
  unfold fieldV at HP HNm ⊢
  simp only at HP HNm ⊢
  have hg := h.lt
  have Hg := Lib.hid hg
  have hp := h.place
  have hob : ∀ k, o.ownBlock = some k → k < w.heap.size := fun k hk => (h.out.lt k hk).2
  have hbx : Box (w.alloc (.cells #[.int .i64 A1, .int .i64 A2, .bool A3, .bool A4, .int .i64 A5] 95)) w.heap.size [.int .i64 A1, .int .i64 A2, .bool A3, .bool A4, .int .i64 A5] := Box.fresh w #[.int .i64 A1, .int .i64 A2, .bool A3, .bool A4, .int .i64 A5] _
  have hl0 : Below w.heap.size w (w.alloc (.cells #[.int .i64 A1, .int .i64 A2, .bool A3, .bool A4, .int .i64 A5] 95)) := (Below.refl _ _).alloc (Nat.le_refl _) _
  have H0 := Lib.hid (h.below hl0)
  have hm0 : Moved g o o w (w.alloc (.cells #[.int .i64 A1, .int .i64 A2, .bool A3, .bool A4, .int .i64 A5] 95)) := .of_below hl0
  have hgx : w.heap.size ≠ g := by omega
  have hox : o.ownBlock ≠ some w.heap.size := fun e => Nat.lt_irrefl _ (hob _ e)
  have HV := Lib.hid (rdVar_cases (E := E) hp)
  have Hl := Lib.hid hl
  have HR := Lib.hid hR
  have Hr := Lib.hid hr
  have HIH := Lib.hid IH
  have Hfu := Lib.hid hfu
  have Hp := Lib.hid hp
  have HE := Lib.hid hE
  obtain ⟨⟨c0, c1, c2, c3, c4, c5, c6, c7, c8, c9, c10, c11, c12, c13⟩, f5, f6, f7, f8, f9, f10, f11, f12, f13⟩ := H0.out.box.at7
  clear h hl0 hob hR hr hl IH hfu hp hE
  go_enter Tryz.func65, Tryz.ntmps65
  go_wp2_with fail
  refine (l12Var_any g u sch A B C E s o r _ H0.out (by omega)).mono ?_
  generalize w.alloc (.cells #[.int .i64 A1, .int .i64 A2, .bool A3, .bool A4, .int .i64 A5] 95) = w1 at H0 hm0 hbx ⊢
  generalize rdVar s E r = Q at HV HR ⊢
  rintro e w2 ⟨rfl, h2, hm2⟩
  have hm := hm0.trans hm2
  have hb2 := hm2.box hbx hgx hox
  generalize w.heap.size = gx at hb2 hgx hox ⊢
  clear H0 hm0 hm2 hbx c0 c1 c2 c3 c4 c5 c6 c7 c8 c9 c10 c11 c12 c13 f5 f6 f7 f8 f9 f10 f11 f12 f13
  rcases HV.out with ⟨c, a, hc, rfl⟩ | ⟨P, U, rfl, hP1, hP2, hP3, hU⟩
  · simp only at h2 HR ⊢
    have H2 := Lib.hid h2
    have HRf : Hid (r.bad c a = R) := Lib.hid (by rw [← HR.out]; unfold rdLong2; simp only; rw [if_pos (by rw [bad_kind]; omega)])
    obtain ⟨⟨c0, c1, c2, c3, c4, c5, c6, c7, c8, c9, c10, c11, c12, c13⟩, f5, f6, f7, f8, f9, f10, f11, f12, f13⟩ := H2.out.box.at7
    replace c7 : w2.cell? ⟨g, 7, none⟩ = some (.int .i64 10) := c7
    clear h2 HR HV hc
    go_wp2_with fail
    refine bodyPost_ret (results_none rfl _ _ _) rfl ?_
    exact ⟨rfl, o, by rw [← HRf.out]; exact H2.out, hm⟩
  · simp only at h2 HR ⊢
    have H2 := Lib.hid h2
    have HR1 : Hid ((if E - (P : Int) < (U : Int) then (r.to P).bad 8 r.place else rdBody (msgRd s sch B n) n s B (A1, A2, A3, A4, A5) r.place U deep (r.to P)) = R) := Lib.hid (by
      have hz : ¬ ((r.to P).fail.kind ≠ 0) := fun h => h Hr.out
      rw [← HR.out]; unfold rdLong2; simp only; rw [if_neg hz, Int.toNat_natCast]; rfl)
    obtain ⟨⟨c0, c1, c2, c3, c4, c5, c6, c7, c8, c9, c10, c11, c12, c13⟩, f5, f6, f7, f8, f9, f10, f11, f12, f13⟩ := H2.out.box.at7
    obtain ⟨⟨x0, x1, x2, x3, x4⟩, _⟩ := Box.five hb2
    replace c5 : w2.cell? ⟨g, 5, none⟩ = some (.int .i64 P) := c5
    replace c7 : w2.cell? ⟨g, 7, none⟩ = some (.int .i64 0) := by rw [← Hr.out]; exact c7
    obtain ⟨Dn, hDn⟩ : ∃ Dn : Nat, E - (P : Int) = (Dn : Int) := ⟨(E - (P : Int)).toNat, by omega⟩
    have hDnE : (Dn : Int) ≤ 9223372036854775807 := by have := HE.out; omega
    have HDE : Hid (E = ((P + Dn : Nat) : Int)) := Lib.hid (by omega)
    rw [hDn] at HR1
    have hw1 : IntKind.i64.wrap (E - (P : Int)) = (Dn : Int) := by rw [hDn]; exact IntWalk.i64_in _ (by omega)
    have hw2 : IntKind.u64.wrap (Dn : Int) = (Dn : Int) := IntWalk.u64_in _ (by omega)
    have Hlt := Lib.hid hP1
    clear h2 HR HV hDn hP3
    by_cases hlen : Dn < U
    · have hleni : (Dn : Int) < (U : Int) := by omega
      have HRf : Hid ((r.to P).bad 8 r.place = R) := Lib.hid (by rw [← HR1.out, if_pos hleni])
      go_wp2_with fail
      refine (l12Fail_any 8 r.place _).mono ?_
      rintro e w9 ⟨rfl, hb9⟩
      have H9 := Lib.hid (H2.out.below hb9)
      have hm9 := hm.trans (Moved.of_below hb9)
      clear c0 c1 c2 c3 c4 c5 c6 c7 c8 c9 c10 c11 c12 c13 f5 f6 f7 f8 f9 f10 f11 f12 f13 hb9
      obtain ⟨⟨c0, c1, c2, c3, c4, c5, c6, c7, c8, c9, c10, c11, c12, c13⟩, f5, f6, f7, f8, f9, f10, f11, f12, f13⟩ := H9.out.box.at7
      go_wp2_with fail
      refine bodyPost_ret (results_none rfl _ _ _) rfl ?_
      refine ⟨rfl, o, by rw [← HRf.out]; exact H9.out.bad 8 r.place, ?_⟩
      repeat (first | with_reducible exact hm9 | refine Moved.setCell ?_ Hg.out _ _)
    · have hle : U ≤ Dn := by omega
      have hlenb : decide (Dn < U) = false := decide_eq_false hlen
      have hlenb2 : decide ((Dn : Int) < (U : Int)) = false := decide_eq_false (by omega)
      have HR2 : Hid (rdBody (msgRd s sch B n) n s B (A1, A2, A3, A4, A5) r.place U deep (r.to P) = R) := Lib.hid (by rw [← HR1.out, if_neg (by omega)])
      have hw3 : IntKind.i64.wrap (U : Int) = (U : Int) := IntWalk.i64_in _ (by omega)
      have hw4 : IntKind.i64.wrap ((P : Int) + (U : Int)) = ((P + U : Nat) : Int) := by rw [IntWalk.i64_in _ (by have := HDE.out; have := HE.out; omega)]; omega
      have Hbn : Hid (((P + U : Nat) : Int) ≤ E ∧ E ≤ 9223372036854775807) := Lib.hid ⟨by have := HDE.out; omega, HE.out.2⟩
      clear HR1 hlen hle hw2
      by_cases hA1 : A1 = 0
      · have hA1b : (A1 == 0) = true := by simp [hA1]
        have HR3 : Hid ((if s.size - P < U then (r.to P).bad 10 s.size else (r.to P).to (P + U)) = R) := Lib.hid (by rw [← HR2.out]; unfold rdBody; simp only; rw [if_pos hA1]; rfl)
        have hw5 : IntKind.i64.wrap ((s.size : Int) - (P : Int)) = ((s.size - P : Nat) : Int) := by rw [IntWalk.i64_in _ (by omega)]; omega
        clear hA1 HR2
        by_cases hcut : s.size - P < U
        · have hcuti : ((s.size - P : Nat) : Int) < (U : Int) := by omega
          have HRf : Hid ((r.to P).bad 10 s.size = R) := Lib.hid (by rw [← HR3.out, if_pos hcut])
          go_upto_region 11 with fail
          go_quiet (fail)
          have H3 : Hid (RdAt (w2.drewN nq) g u sch A B C s o (r.to P)) := Lib.hid ⟨H2.out.box, H2.out.out, H2.out.msgs, H2.out.place⟩
          have hm3 := hm.trans (Moved.drewN g o w2 nq)
          generalize w2.drewN nq = w3 at H3 hm3 ⊢
          clear c0 c1 c2 c3 c4 c5 c6 c7 c8 c9 c10 c11 c12 c13 f5 f6 f7 f8 f9 f10 f11 f12 f13
          obtain ⟨⟨c0, c1, c2, c3, c4, c5, c6, c7, c8, c9, c10, c11, c12, c13⟩, f5, f6, f7, f8, f9, f10, f11, f12, f13⟩ := H3.out.box.at7
          go_wp2_with fail
          refine (l12Fail_any 10 s.size _).mono ?_
          rintro e w9 ⟨rfl, hb9⟩
          have H9 := Lib.hid (H3.out.below hb9)
          have hm9 := hm3.trans (Moved.of_below hb9)
          clear c0 c1 c2 c3 c4 c5 c6 c7 c8 c9 c10 c11 c12 c13 f5 f6 f7 f8 f9 f10 f11 f12 f13 hb9
          obtain ⟨⟨c0, c1, c2, c3, c4, c5, c6, c7, c8, c9, c10, c11, c12, c13⟩, f5, f6, f7, f8, f9, f10, f11, f12, f13⟩ := H9.out.box.at7
          go_wp2_with fail
          refine bodyPost_ret (results_none rfl _ _ _) rfl ?_
          refine ⟨rfl, o, by rw [← HRf.out]; exact H9.out.bad 10 s.size, ?_⟩
          repeat (first | with_reducible exact hm9 | refine Moved.setCell ?_ Hg.out _ _)
        · have hcutb : decide (s.size - P < U) = false := decide_eq_false hcut
          have hcutb2 : decide (((s.size - P : Nat) : Int) < (U : Int)) = false := decide_eq_false (by omega)
          have hPU : P + U ≤ s.size := by omega
          have HRf : Hid ((r.to P).to (P + U) = R) := Lib.hid (by rw [← HR3.out, if_neg hcut])
          go_upto_region 11 with fail
          go_quiet (fail)
          have H3 : Hid (RdAt (w2.drewN nq) g u sch A B C s o (r.to P)) := Lib.hid ⟨H2.out.box, H2.out.out, H2.out.msgs, H2.out.place⟩
          have hm3 := hm.trans (Moved.drewN g o w2 nq)
          generalize w2.drewN nq = w3 at H3 hm3 ⊢
          clear c0 c1 c2 c3 c4 c5 c6 c7 c8 c9 c10 c11 c12 c13 f5 f6 f7 f8 f9 f10 f11 f12 f13
          obtain ⟨⟨c0, c1, c2, c3, c4, c5, c6, c7, c8, c9, c10, c11, c12, c13⟩, f5, f6, f7, f8, f9, f10, f11, f12, f13⟩ := H3.out.box.at7
          replace c5 : w3.cell? ⟨g, 5, none⟩ = some (.int .i64 P) := c5
          go_wp2_with fail
          go_end0
          exact ⟨rfl, o, by rw [← HRf.out]; exact H3.out.to (P + U) hPU, hm3.setCell Hg.out _ _⟩
      · have hA1b := neI hA1
        by_cases hA2 : A2 = 8
        · have hA2b : (A2 == 8) = true := by simp [hA2]
          by_cases hdp : B ≤ deep
          · have hdpi : B ≤ deep := hdp
            have HRf : Hid ((r.to P).bad 6 r.place = R) := Lib.hid (by rw [← HR2.out]; unfold rdBody; simp only; rw [if_neg hA1, if_pos hA2, if_pos hdp])
            clear hA1 hA2 HR2
            go_wp2_with fail
            refine (l12Fail_any 6 r.place _).mono ?_
            rintro e w9 ⟨rfl, hb9⟩
            have H9 := Lib.hid (H2.out.below hb9)
            have hm9 := hm.trans (Moved.of_below hb9)
            clear c0 c1 c2 c3 c4 c5 c6 c7 c8 c9 c10 c11 c12 c13 f5 f6 f7 f8 f9 f10 f11 f12 f13 hb9
            obtain ⟨⟨c0, c1, c2, c3, c4, c5, c6, c7, c8, c9, c10, c11, c12, c13⟩, f5, f6, f7, f8, f9, f10, f11, f12, f13⟩ := H9.out.box.at7
            go_wp2_with fail
            refine bodyPost_ret (results_none rfl _ _ _) rfl ?_
            refine ⟨rfl, o, by rw [← HRf.out]; exact H9.out.bad 6 r.place, ?_⟩
            repeat (first | with_reducible exact hm9 | refine Moved.setCell ?_ Hg.out _ _)
          · have hdpb : decide (B ≤ deep) = false := decide_eq_false hdp
            obtain ⟨Q, hQ⟩ : ∃ Q, msgRd s sch B n A5 ((P + U : Nat) : Int) (deep + 1) ((r.to P).tell (downE A1 U)) = Q := ⟨_, rfl⟩
            have HR3 : Hid ((if Q.fail.kind = 0 then Q.tell upE else Q) = R) := Lib.hid (by rw [← HR2.out, ← hQ]; unfold rdBody; simp only; rw [if_neg hA1, if_pos hA2, if_neg hdp]; rfl)
            have HQl : Hid (Q.out.length ≤ 1048576000) := Lib.hid (by
              have hrp : ((r.to P).tell (downE A1 U)).place = P := rfl
              have hro : ((r.to P).tell (downE A1 U)).out.length = r.out.length + 1 := by show (r.out ++ [_]).length = _; rw [List.length_append]; rfl
              have hadv := msgRd_adv (s := s) (sch := sch) (D := B) n A5 ((P + U : Nat) : Int) (deep + 1) ((r.to P).tell (downE A1 U)) (by rw [hrp]; exact hP2) (by rw [hrp]; omega)
              rw [hQ] at hadv
              have h1 := hadv.len
              have h2 := hadv.inn
              rw [hrp, hro] at h1
              have := Hl.out
              have := Hp.out
              omega)
            have HCt : Hid (∀ o3 w3, RdAt w3 g u sch A B C s o3 ((r.to P).tell (downE A1 U)) → Calls Tryz.prog 36 #[.pointer (some ⟨g, 0, none⟩), .int .i64 A5, .int .i64 ((P + U : Nat) : Int), .int .i64 (deep + 1)] w3 fun e w' => e = .returned (.tuple #[]) ∧ ∃ o', RdAt w' g u sch A B C s o' Q ∧ Moved g o3 o' w3 w') := Lib.hid fun o3 w3 h3 => by
              have := HIH.out A5 ((P + U : Nat) : Int) (deep + 1) o3 ((r.to P).tell (downE A1 U)) w3 h3 (by
                show (r.out ++ [_]).length ≤ 4 * P
                rw [List.length_append, List.length_singleton]; have := Hl.out; have := Hlt.out; omega) (by show (P : Int) ≤ _; omega) (by have := Hbn.out; omega) (by show s.size - P < n; have := Hfu.out; have := Hlt.out; omega) (by omega)
              rw [hQ] at this
              exact this
            have hw6 : IntKind.i64.wrap (deep + 1) = deep + 1 := IntWalk.i64_in _ (by omega)
            clear hA1 hA2 HR2 hQ
            go_wp2_with fail
            refine (l12Tell_any g u sch A B C s o (r.to P) (downE A1 U) _ H2.out (by have := Hl.out; have := Hp.out; show r.out.length ≤ _; omega)).mono ?_
            rintro e w3 ⟨rfl, o3, h3, hm3⟩
            have H3 := Lib.hid h3.drew
            have hb3 := (hm3.box hb2 hgx hox)
            have hmd : Moved g o o3 w w3.drew := (hm.trans hm3).trans (.of_below (Below.refl _ _).drew)
            clear c0 c1 c2 c3 c4 c5 c6 c7 c8 c9 c10 c11 c12 c13 f5 f6 f7 f8 f9 f10 f11 f12 f13 x0 x1 x2 x3 x4 hm3 h3
            have HC3 := Lib.hid (HCt.out o3 w3.drew H3.out)
            obtain ⟨⟨c0, c1, c2, c3, c4, c5, c6, c7, c8, c9, c10, c11, c12, c13⟩, f5, f6, f7, f8, f9, f10, f11, f12, f13⟩ := H3.out.box.at7
            obtain ⟨⟨x0, x1, x2, x3, x4⟩, _⟩ := Box.five hb3
            replace c5 : w3.drew.cell? ⟨g, 5, none⟩ = some (.int .i64 P) := c5
            go_upto_region 18 with fail
            go_region_with (go_at_call 36; refine HC3.out.mono ?_; rintro e w4 ⟨rfl, o4, h4, hm4⟩)
            all_goals
              have H4 := Lib.hid h4
              have hm5 := hmd.trans hm4
              clear h4 hm4 c0 c1 c2 c3 c4 c5 c6 c7 c8 c9 c10 c11 c12 c13 f5 f6 f7 f8 f9 f10 f11 f12 f13 x0 x1 x2 x3 x4
              obtain ⟨⟨c0, c1, c2, c3, c4, c5, c6, c7, c8, c9, c10, c11, c12, c13⟩, f5, f6, f7, f8, f9, f10, f11, f12, f13⟩ := H4.out.box.at7
              by_cases hk : Q.fail.kind = 0
              · have hkb : (Q.fail.kind == 0) = true := by simp [hk]
                have HRf : Hid (Q.tell upE = R) := Lib.hid (by rw [← HR3.out, if_pos hk])
                clear hk
                go_wp2_with fail
                refine (l12Tell_any g u sch A B C s o4 Q upE _ H4.out HQl.out).mono ?_
                rintro e w6 ⟨rfl, o6, h6, hm6⟩
                have H6 := Lib.hid h6
                clear h6
                go_wp2_with fail
                go_end0
                exact ⟨rfl, o6, by rw [← HRf.out]; exact H6.out, hm5.trans hm6⟩
              · have hkb := neI hk
                have HRf : Hid (Q = R) := Lib.hid (by rw [← HR3.out, if_neg hk])
                clear hk
                go_wp2_with fail
                go_end0
                exact ⟨rfl, o4, by rw [← HRf.out]; exact H4.out, hm5⟩
        · have hA2b := neI hA2
          by_cases hA67 : A2 = 6 ∨ A2 = 7
          · have HR3 : Hid (rdPayload s (A1, A2, A3, A4, A5) U (r.to P) = R) := Lib.hid (by rw [← HR2.out]; unfold rdBody; simp only; rw [if_neg hA1, if_neg hA2, if_pos hA67])
            have h67 : (A2 == 6) = true ∨ ((A2 == 6) = false ∧ (A2 == 7) = true) := by rcases hA67 with h | h <;> simp [h]
            have HPc := Lib.hid (HP.out U o (r.to P) w2 H2.out (by show P + U ≤ _; have := Hbn.out; omega) Hr.out (by have := Hl.out; have := Hp.out; show r.out.length ≤ _; omega))
            clear hA1 hA2 hA67 HR2
            rcases h67 with h6 | ⟨h6, h7⟩
            all_goals
              go_wp2_with fail
              refine HPc.out.mono ?_
              rintro e w3 ⟨rfl, o3, h3, hm3⟩
              have H3 := Lib.hid h3
              clear h3
              go_wp2_with fail
              go_end0
              exact ⟨rfl, o3, by rw [← HR3.out]; exact H3.out, hm.trans hm3⟩
          · have h6 := neI (x := A2) (c := 6) (fun h => hA67 (.inl h))
            have h7 := neI (x := A2) (c := 7) (fun h => hA67 (.inr h))
            have HR3 : Hid (rdRun s (A1, A2, A3, A4, A5) ((P + U : Nat) : Int) n (r.to P) = R) := Lib.hid (by rw [← HR2.out]; unfold rdBody; simp only; rw [if_neg hA1, if_neg hA2, if_neg hA67]; rfl)
            have Hb2 := Lib.hid hb2
            clear hA1 hA2 hA67 HR2
            obtain ⟨S, hS⟩ : ∃ S, P + U = S := ⟨_, rfl⟩
            rw [hS] at HR3 Hbn hw4
            have hPS : P ≤ S := by omega
            go_upto_region 8 with fail
            go_loopg [] n (fun gm wr => ∃ (rk : RdM) (ok : Value), Hid (RdAt wr g u sch A B C s ok rk) ∧ Hid (rdRun s (A1, A2, A3, A4, A5) (S : Int) gm rk = R) ∧ Hid (rk.fail.kind = 0 → s.size - rk.place < gm) ∧ rk.place ≤ S ∧ rk.place ≤ s.size ∧ rk.out.length ≤ 4 * rk.place ∧ Hid (Box wr gx [.int .i64 A1, .int .i64 A2, .bool A3, .bool A4, .int .i64 A5]) ∧ Hid (ok.ownBlock ≠ some gx) ∧ Moved g o ok w wr ∧ gx < wr.heap.size)
            case atStart => exact ⟨r.to P, o, H2, HR3, Lib.hid fun _ => by show s.size - P < n; have := Hfu.out; have := Hlt.out; omega, hPS, hP2, by show r.out.length ≤ 4 * P; have := Hl.out; have := Hlt.out; omega, Hb2, Lib.hid hox, hm, hb2.lt⟩
            case round =>
              clear c0 c1 c2 c3 c4 c5 c6 c7 c8 c9 c10 c11 c12 c13 f5 f6 f7 f8 f9 f10 f11 f12 f13 x0 x1 x2 x3 x4 hb2 hm H2 hox
              obtain ⟨rk, ok, HK, HRk, Hgm, hkS, hks, hko, HBk, Hok, hmk, hgxk⟩ := hrel
              obtain ⟨⟨c0, c1, c2, c3, c4, c5, c6, c7, c8, c9, c10, c11, c12, c13⟩, f5, f6, f7, f8, f9, f10, f11, f12, f13⟩ := HK.out.box.at7
              by_cases hlt : rk.place < S
              · have hlti : (rk.place : Int) < (S : Int) := by omega
                by_cases hk : rk.fail.kind = 0
                · have hkb : (rk.fail.kind == 0) = true := by simp [hk]
                  have hgp : s.size - rk.place < gk := Hgm.out hk
                  obtain ⟨G, rfl⟩ : ∃ G, gk = G + 1 := ⟨gk - 1, by omega⟩
                  have HRn : Hid (rdRun s (A1, A2, A3, A4, A5) (S : Int) G (rdNum s (A1, A2, A3, A4, A5) (wireR A2) (S : Int) rk) = R) := Lib.hid (by rw [← HRk.out, rdRun_more ⟨hlti, hk⟩])
                  obtain ⟨hadv, hst⟩ := rdNum_adv (s := s) (f := (A1, A2, A3, A4, A5)) (x := wireR A2) (E := (S : Int)) (r := rk) hks (by omega)
                  have HNx := Lib.hid (HNm.out (wireR A2) (S : Int) ok rk wr.drew HK.out.drew ⟨by omega, by have := Hbn.out; omega⟩ (by omega))
                  have hmk2 : Moved g o ok w wr.drew := hmk.trans (.of_below (Below.refl _ _).drew)
                  have hgg : gx < wr.drew.heap.size := hgxk
                  have HBd : Hid (Box wr.drew gx [.int .i64 A1, .int .i64 A2, .bool A3, .bool A4, .int .i64 A5]) := HBk
                  obtain ⟨r2, hr2⟩ : ∃ r2, rdNum s (A1, A2, A3, A4, A5) (wireR A2) (S : Int) rk = r2 := ⟨_, rfl⟩
                  rw [hr2] at HRn HNx hadv hst
                  have Hadv := Lib.hid hadv
                  have Hst := Lib.hid hst
                  have Hgp := Lib.hid hgp
                  obtain ⟨⟨x0, x1, x2, x3, x4⟩, _⟩ := Box.five HBk.out
                  clear hk HRk hadv hst hr2 hgp
                  go_wp2_with fail
                  go_region_with (first | (go_at_call 78; refine (specWireOf_any A2 _).mono ?_; rintro _ _ ⟨rfl, rfl⟩) | (go_at_call 66; refine HNx.out.mono ?_; rintro e w4 ⟨rfl, o4, h4, hm4⟩))
                  all_goals
                    have H4 := Lib.hid h4
                    have hb4 := Lib.hid (hm4.box HBd.out hgx Hok.out)
                    have hm5 := hmk2.trans hm4
                    have hok4 : Hid (o4.ownBlock ≠ some gx) := Lib.hid fun e => by
                      rcases hm4.own gx e with h1 | h1
                      · exact Hok.out h1
                      · omega
                    have hg4 : gx < w4.heap.size := Nat.lt_of_lt_of_le hgg hm4.size
                    clear h4 hm4 c0 c1 c2 c3 c4 c5 c6 c7 c8 c9 c10 c11 c12 c13 f5 f6 f7 f8 f9 f10 f11 f12 f13 x0 x1 x2 x3 x4
                    go_wp2_with fail
                    go_roundg G
                    case measure => omega
                    case rel => exact ⟨r2, o4, H4, HRn, Lib.hid fun h => by have := Hst.out h; have := Hgp.out; have := Hadv.out.inn; omega, by have := Hadv.out.upto; omega, Hadv.out.inn, by have := Hadv.out.len; omega, hb4, hok4, hm5, hg4⟩
                · have hkb := neI hk
                  have HRf : Hid (rk = R) := Lib.hid (by rw [← HRk.out, rdRun_end (fun h => hk h.2)])
                  clear hk
                  go_wp2_with fail
                  go_end0
                  exact ⟨rfl, ok, by rw [← HRf.out]; exact HK.out, hmk⟩
              · have hge : decide (rk.place < S) = false := decide_eq_false hlt
                have hge2 : decide ((rk.place : Int) < (S : Int)) = false := decide_eq_false (by omega)
                have HRf : Hid (rk = R) := Lib.hid (by rw [← HRk.out, rdRun_end (fun h => by have := h.1; omega)])
                clear hlt
                go_wp2_with fail
                go_end0
                exact ⟨rfl, ok, by rw [← HRf.out]; exact HK.out, hmk⟩
end Go.Proofs.YtcnpdcmdnmfnaaaGreat.Num

/-
  The walk of the reference's l12Msg: all fields up to a place, by how many bytes are left.
-/
namespace Go.Proofs.YtcnpdcmdnmfnaaaGreat.Num
open Go.RowKit Go.Proofs
set_option linter.unusedVariables false
set_option linter.unusedSimpArgs false

theorem numLen {r : RdM} {s : ByteArray} (h : r.out.length ≤ 4 * r.place) (hp : r.place ≤ s.size) (hs : s.size ≤ 200000000) : r.out.length ≤ 1048576000 := by omega
set_option maxHeartbeats 8000000 in
set_option maxRecDepth 100000 in
theorem l12Msg_step (n : Nat) (g : Nat) (u : Value) (sch : List RM) (A B C : Int) (s : ByteArray) (hsch : Small sch) (hB : B ≤ 8) (hs : s.size ≤ 200000000) (IH : ∀ m, m < n → MsgCall g u sch A B C s m) : MsgCall g u sch A B C s n := by
  intro sh E deep o r w h hl hE hE63 hfu hd
  obtain ⟨R, hR⟩ : ∃ R, msgRd s sch B n sh E deep r = R := ⟨_, rfl⟩
  rw [hR]
  have HR := Lib.hid hR
  have H := Lib.hid h
  have Hg := Lib.hid h.lt
  have hp := h.place
  have HIH := Lib.hid IH
  have Hsch := Lib.hid hsch
  have Hfu := Lib.hid hfu
  have HE := Lib.hid hE63
  clear hR h IH hsch hfu
  go_enter Tryz.func36, Tryz.ntmps36
  go_wp2_with fail
  go_loopg [] n (fun gm wr => ∃ (rk : RdM) (ok : Value), gm ≤ n ∧ Hid (RdAt wr g u sch A B C s ok rk) ∧ Hid (msgRd s sch B gm sh E deep rk = R) ∧ Hid (rk.fail.kind = 0 → s.size - rk.place < gm) ∧ (rk.place : Int) ≤ E ∧ rk.place ≤ s.size ∧ rk.out.length ≤ 4 * rk.place ∧ Moved g o ok w wr)
  case atStart => exact ⟨r, o, Nat.le_refl _, H, HR, Lib.hid fun _ => Hfu.out, hE, hp, hl, Moved.refl _ _ _⟩
  case round =>
    clear H HR hE hp hl Hfu
    obtain ⟨rk, ok, hgn, HK, HRk, Hgm, hkE, hks, hko, hmk⟩ := hrel
    obtain ⟨⟨c0, c1, c2, c3, c4, c5, c6, c7, c8, c9, c10, c11, c12, c13⟩, f5, f6, f7, f8, f9, f10, f11, f12, f13⟩ := HK.out.box.at7
    by_cases hlt : (rk.place : Int) < E
    · by_cases hk : rk.fail.kind = 0
      · have hkb : (rk.fail.kind == 0) = true := by simp [hk]
        have hgp : s.size - rk.place < gk := Hgm.out hk
        obtain ⟨G, rfl⟩ : ∃ G, gk = G + 1 := ⟨gk - 1, by omega⟩
        have HRn : Hid (msgRd s sch B G sh E deep (rdStep (msgRd s sch B G) G s sch B sh E deep rk) = R) := Lib.hid (by rw [← HRk.out, msgRd_more ⟨hlt, hk⟩])
        obtain ⟨hadv, hst⟩ := rdStep_adv (n := G) (sch := sch) (D := B) (shape := sh) (deep := deep) (msgRd_adv (s := s) (sch := sch) (D := B) G) hks hkE hk
        obtain ⟨r2, hr2⟩ : ∃ r2, rdStep (msgRd s sch B G) G s sch B sh E deep rk = r2 := ⟨_, rfl⟩
        rw [hr2] at HRn hadv hst
        have Hadv := Lib.hid hadv
        have Hst := Lib.hid hst
        have Hgp := Lib.hid hgp
        have Hr2 := Lib.hid hr2
        have Hrk := Lib.hid hk
        have HV := Lib.hid (rdVar_cases (E := E) hks)
        clear hk HRk hadv hst hr2 hgp Hgm
        go_wp2_with fail
        refine (l12Var_any g u sch A B C E s ok rk _ HK.out (by omega)).mono ?_
        have hr3 := Hr2.out
        unfold rdStep at hr3
        have Hr3 := Lib.hid hr3
        clear hr3 Hr2
        generalize rdVar s E rk = Q at HV Hr3 ⊢
        rintro e w2 ⟨rfl, h2, hm2⟩
        have hm := hmk.trans hm2
        clear hm2 hmk c0 c1 c2 c3 c4 c5 c6 c7 c8 c9 c10 c11 c12 c13 f5 f6 f7 f8 f9 f10 f11 f12 f13
        rcases HV.out with ⟨c, a, hc, rfl⟩ | ⟨P, U, rfl, hP1, hP2, hP3, hU⟩
        · simp only at h2 Hr3 ⊢
          have H2 := Lib.hid h2
          have HRf : Hid (rk.bad c a = R) := Lib.hid (by
            have hr3 := Hr3.out
            rw [if_pos (by rw [bad_kind]; omega)] at hr3
            rw [← HRn.out, ← hr3, msgRd_end (fun h => by have h' := h.2; rw [bad_kind] at h'; omega)])
          obtain ⟨⟨c0, c1, c2, c3, c4, c5, c6, c7, c8, c9, c10, c11, c12, c13⟩, f5, f6, f7, f8, f9, f10, f11, f12, f13⟩ := H2.out.box.at7
          replace c7 : w2.cell? ⟨g, 7, none⟩ = some (.int .i64 10) := c7
          clear h2 HV hc
          go_wp2_with fail
          refine bodyPost_ret (results_none rfl _ _ _) rfl ?_
          exact ⟨rfl, ok, by rw [← HRf.out]; exact H2.out, hm⟩
        · simp only at h2 Hr3 ⊢
          have H2 := Lib.hid h2
          have Hr4 : Hid (rdTag2 (msgRd s sch B G) G s B E deep rk.place (tagInR U) (fieldAtR sch sh (tagInR U).1) (rk.to P) = r2) := Lib.hid (by
            have hz : ¬ ((rk.to P).fail.kind ≠ 0) := fun h => h Hrk.out
            have hr3 := Hr3.out
            rw [if_neg hz, Int.toNat_natCast] at hr3
            exact hr3)
          obtain ⟨⟨c0, c1, c2, c3, c4, c5, c6, c7, c8, c9, c10, c11, c12, c13⟩, f5, f6, f7, f8, f9, f10, f11, f12, f13⟩ := H2.out.box.at7
          replace c5 : w2.cell? ⟨g, 5, none⟩ = some (.int .i64 P) := c5
          replace c7 : w2.cell? ⟨g, 7, none⟩ = some (.int .i64 0) := by rw [← Hrk.out]; exact c7
          have HT := Lib.hid (fun w => specTagIn_any U w (by omega))
          have HU := Lib.hid hU
          clear h2 HV Hr3 hU
          generalize tagInR U = T at HT Hr4
          obtain ⟨N, X, K⟩ := T
          unfold tagV at HT
          simp only at HT Hr4
          go_wp2_with fail
          refine (HT.out _).mono ?_
          rintro _ _ ⟨rfl, rfl⟩
          have HF : Hid (Calls Tryz.prog 61 #[.agg #[u], .int .i64 sh, .int .i64 N] w2 fun e w' => e = .returned (.tuple #[fieldV (fieldAtR sch sh N).1, .bool (fieldAtR sch sh N).2]) ∧ Below w2.heap.size w2 w') := Lib.hid (specFieldAt_any (.agg #[u]) sch sh N w2 ⟨u, rfl, H2.out.msgs.keep (fun _ _ _ => rfl) fun b hb => Nat.lt_trans hb H2.out.lt⟩ Hsch.out)
          generalize fieldAtR sch sh N = FK at HF Hr4
          obtain ⟨⟨A1, A2, A3, A4, A5⟩, kn⟩ := FK
          unfold fieldV at HF
          simp only at HF
          go_wp2_with fail
          refine HF.out.mono ?_
          rintro e w3 ⟨rfl, hb3⟩
          have hob : ∀ k, ok.ownBlock = some k → k < w2.heap.size := fun k hk => (H2.out.out.lt k hk).2
          have hz3 := hb3.size
          have hg2 := H2.out.lt
          have hbx : Box (w3.alloc (.cells #[.int .i64 A1, .int .i64 A2, .bool A3, .bool A4, .int .i64 A5] 95)) w3.heap.size [.int .i64 A1, .int .i64 A2, .bool A3, .bool A4, .int .i64 A5] := Box.fresh w3 #[.int .i64 A1, .int .i64 A2, .bool A3, .bool A4, .int .i64 A5] _
          have hba : Below w2.heap.size w2 (w3.alloc (.cells #[.int .i64 A1, .int .i64 A2, .bool A3, .bool A4, .int .i64 A5] 95)) := hb3.alloc hz3 _
          have H4 := Lib.hid (H2.out.below hba)
          have hm4 := hm.trans (Moved.of_below hba)
          have hgx : w3.heap.size ≠ g := by omega
          have hox : ok.ownBlock ≠ some w3.heap.size := fun e => by have := hob _ e; omega
          have HLr : Hid ((rk.to P).out.length ≤ 4 * (rk.to P).place ∧ s.size - (rk.to P).place < G ∧ ((rk.to P).place : Int) ≤ E) := Lib.hid ⟨by show rk.out.length ≤ 4 * P; omega, by show s.size - P < G; have := Hgp.out; omega, hP3⟩
          clear c0 c1 c2 c3 c4 c5 c6 c7 c8 c9 c10 c11 c12 c13 f5 f6 f7 f8 f9 f10 f11 f12 f13 H2 hb3 hba hm hob hz3 hg2 hP1 hP2 hP3 HF HT
          go_upto_region 7 with fail
          generalize w3.alloc (.cells #[.int .i64 A1, .int .i64 A2, .bool A3, .bool A4, .int .i64 A5] 95) = w4 at H4 hm4 hbx ⊢
          have hgl := hbx.lt
          generalize w3.heap.size = gb at hbx hgx hox hgl ⊢
          obtain ⟨⟨c0, c1, c2, c3, c4, c5, c6, c7, c8, c9, c10, c11, c12, c13⟩, f5, f6, f7, f8, f9, f10, f11, f12, f13⟩ := H4.out.box.at7
          obtain ⟨⟨x0, x1, x2, x3, x4⟩, _⟩ := Box.five hbx
          cases K with
          | false =>
            have He : Hid ((rk.to P).bad 2 rk.place = r2) := Lib.hid (by rw [← Hr4.out]; rfl)
            go_wp2_with fail
            refine (l12Fail_any 2 rk.place _).mono ?_
            rintro e w9 ⟨rfl, hb9⟩
            have H9 := Lib.hid (H4.out.below hb9)
            have hm9 := hm4.trans (Moved.of_below hb9)
            clear c0 c1 c2 c3 c4 c5 c6 c7 c8 c9 c10 c11 c12 c13 f5 f6 f7 f8 f9 f10 f11 f12 f13 x0 x1 x2 x3 x4 hb9
            obtain ⟨⟨c0, c1, c2, c3, c4, c5, c6, c7, c8, c9, c10, c11, c12, c13⟩, f5, f6, f7, f8, f9, f10, f11, f12, f13⟩ := H9.out.box.at7
            have H10 := Lib.hid (H9.out.bad 2 rk.place)
            rw [He.out] at H10
            go_wp2_with fail
            go_roundg G
            case measure => omega
            case rel =>
              refine ⟨r2, ok, by omega, H10, HRn, Lib.hid fun h => by have := Hst.out h; have := Hgp.out; have := Hadv.out.inn; omega, by have := Hadv.out.upto; omega, Hadv.out.inn, by have := Hadv.out.len; omega, ?_⟩
              repeat (first | with_reducible exact hm9 | refine Moved.setCell ?_ Hg.out _ _)
          | true =>
            have HW := Lib.hid (fun w => specWireOk_any X w)
            have Hr5 : Hid ((if wireOkB X = false then (rk.to P).bad 3 rk.place else if (kn && !allowedB (A1, A2, A3, A4, A5) X) = true then (rk.to P).bad 4 rk.place else if X = 2 then rdLong (msgRd s sch B G) G s B (A1, A2, A3, A4, A5) E deep (rk.to P) else rdNum s (A1, A2, A3, A4, A5) X E (rk.to P)) = r2) := Lib.hid (by rw [← Hr4.out]; rfl)
            clear Hr4
            generalize wireOkB X = Q1 at HW Hr5
            go_wp2_with fail
            refine (HW.out _).mono ?_
            rintro _ _ ⟨rfl, rfl⟩
            cases Q1 with
            | false =>
              have He : Hid ((rk.to P).bad 3 rk.place = r2) := Lib.hid (by rw [← Hr5.out]; rfl)
              go_wp2_with fail
              refine (l12Fail_any 3 rk.place _).mono ?_
              rintro e w9 ⟨rfl, hb9⟩
              have H9 := Lib.hid (H4.out.below hb9)
              have hm9 := hm4.trans (Moved.of_below hb9)
              clear c0 c1 c2 c3 c4 c5 c6 c7 c8 c9 c10 c11 c12 c13 f5 f6 f7 f8 f9 f10 f11 f12 f13 x0 x1 x2 x3 x4 hb9
              obtain ⟨⟨c0, c1, c2, c3, c4, c5, c6, c7, c8, c9, c10, c11, c12, c13⟩, f5, f6, f7, f8, f9, f10, f11, f12, f13⟩ := H9.out.box.at7
              have H10 := Lib.hid (H9.out.bad 3 rk.place)
              rw [He.out] at H10
              go_wp2_with fail
              go_roundg G
              case measure => omega
              case rel =>
                refine ⟨r2, ok, by omega, H10, HRn, Lib.hid fun h => by have := Hst.out h; have := Hgp.out; have := Hadv.out.inn; omega, by have := Hadv.out.upto; omega, Hadv.out.inn, by have := Hadv.out.len; omega, ?_⟩
                repeat (first | with_reducible exact hm9 | refine Moved.setCell ?_ Hg.out _ _)
            | true =>
              have HA : Hid (∀ w, Calls Tryz.prog 64 #[.agg #[.int .i64 A1, .int .i64 A2, .bool A3, .bool A4, .int .i64 A5], .int .i64 X] w fun e w' => e = .returned (.bool (allowedB (A1, A2, A3, A4, A5) X)) ∧ Below w.heap.size w w') := Lib.hid fun w => specAllowed_any (A1, A2, A3, A4, A5) X w
              generalize allowedB (A1, A2, A3, A4, A5) X = Q2 at HA Hr5
              have HLC : Hid (∀ w, RdAt w g u sch A B C s ok (rk.to P) → Calls Tryz.prog 65 #[.pointer (some ⟨g, 0, none⟩), .agg #[.int .i64 A1, .int .i64 A2, .bool A3, .bool A4, .int .i64 A5], .int .i64 E, .int .i64 deep] w fun e w' => e = .returned (.tuple #[]) ∧ ∃ o', RdAt w' g u sch A B C s o' (rdLong (msgRd s sch B G) G s B (A1, A2, A3, A4, A5) E deep (rk.to P)) ∧ Moved g ok o' w w') := Lib.hid fun w h => l12Long_any G g u sch A B C (A1, A2, A3, A4, A5) s (HIH.out G (by omega)) E deep ok (rk.to P) w h HLr.out.1 Hrk.out ⟨HLr.out.2.2, HE.out⟩ HLr.out.2.1 hd hB hs
              have HNC : Hid (∀ w, RdAt w g u sch A B C s ok (rk.to P) → Calls Tryz.prog 66 #[.pointer (some ⟨g, 0, none⟩), .agg #[.int .i64 A1, .int .i64 A2, .bool A3, .bool A4, .int .i64 A5], .int .i64 X, .int .i64 E] w fun e w' => e = .returned (.tuple #[]) ∧ ∃ o', RdAt w' g u sch A B C s o' (rdNum s (A1, A2, A3, A4, A5) X E (rk.to P)) ∧ Moved g ok o' w w') := Lib.hid fun w h => l12Num_any g u sch A B C X E (A1, A2, A3, A4, A5) s ok (rk.to P) w h (by omega) ⟨HLr.out.2.2, HE.out⟩ (numLen HLr.out.1 h.place hs)
              have key : kn = false ∨ (kn = true ∧ (Q2 = false ∨ Q2 = true)) := by cases kn <;> cases Q2 <;> simp
              rcases key with rfl | ⟨rfl, rfl | rfl⟩
              · have Hr6 : Hid ((if X = 2 then rdLong (msgRd s sch B G) G s B (A1, A2, A3, A4, A5) E deep (rk.to P) else rdNum s (A1, A2, A3, A4, A5) X E (rk.to P)) = r2) := Lib.hid (by rw [← Hr5.out]; rfl)
                have H8 := H4
                have hm8 := hm4
                by_cases hX : X = 2
                · have hXb : (X == 2) = true := by simp [hX]
                  have He : Hid (rdLong (msgRd s sch B G) G s B (A1, A2, A3, A4, A5) E deep (rk.to P) = r2) := Lib.hid (by rw [← Hr6.out, if_pos hX])
                  clear hX
                  go_wp2_with fail
                  refine (HLC.out _ H8.out).mono ?_
                  rintro e w9 ⟨rfl, o9, h9, hm9⟩
                  have H9 := Lib.hid h9
                  rw [He.out] at H9
                  have hm10 := hm8.trans hm9
                  clear h9 hm9 c0 c1 c2 c3 c4 c5 c6 c7 c8 c9 c10 c11 c12 c13 f5 f6 f7 f8 f9 f10 f11 f12 f13 x0 x1 x2 x3 x4
                  go_wp2_with fail
                  go_roundg G
                  case measure => omega
                  case rel => exact ⟨r2, o9, by omega, H9, HRn, Lib.hid fun h => by have := Hst.out h; have := Hgp.out; have := Hadv.out.inn; omega, by have := Hadv.out.upto; omega, Hadv.out.inn, by have := Hadv.out.len; omega, hm10⟩
                · have hXb := neI hX
                  have He : Hid (rdNum s (A1, A2, A3, A4, A5) X E (rk.to P) = r2) := Lib.hid (by rw [← Hr6.out, if_neg hX])
                  clear hX
                  go_wp2_with fail
                  refine (HNC.out _ H8.out).mono ?_
                  rintro e w9 ⟨rfl, o9, h9, hm9⟩
                  have H9 := Lib.hid h9
                  rw [He.out] at H9
                  have hm10 := hm8.trans hm9
                  clear h9 hm9 c0 c1 c2 c3 c4 c5 c6 c7 c8 c9 c10 c11 c12 c13 f5 f6 f7 f8 f9 f10 f11 f12 f13 x0 x1 x2 x3 x4
                  go_wp2_with fail
                  go_roundg G
                  case measure => omega
                  case rel => exact ⟨r2, o9, by omega, H9, HRn, Lib.hid fun h => by have := Hst.out h; have := Hgp.out; have := Hadv.out.inn; omega, by have := Hadv.out.upto; omega, Hadv.out.inn, by have := Hadv.out.len; omega, hm10⟩
              · have He : Hid ((rk.to P).bad 4 rk.place = r2) := Lib.hid (by rw [← Hr5.out]; rfl)
                go_wp2_with fail
                refine (HA.out _).mono ?_
                rintro e w5 ⟨rfl, hb5⟩
                have H8 := Lib.hid (H4.out.below hb5)
                have hm8 := hm4.trans (Moved.of_below hb5)
                clear c0 c1 c2 c3 c4 c5 c6 c7 c8 c9 c10 c11 c12 c13 f5 f6 f7 f8 f9 f10 f11 f12 f13 x0 x1 x2 x3 x4 H4 hm4 hb5
                obtain ⟨⟨c0, c1, c2, c3, c4, c5, c6, c7, c8, c9, c10, c11, c12, c13⟩, f5, f6, f7, f8, f9, f10, f11, f12, f13⟩ := H8.out.box.at7
                go_wp2_with fail
                refine (l12Fail_any 4 rk.place _).mono ?_
                rintro e w9 ⟨rfl, hb9⟩
                have H9 := Lib.hid (H8.out.below hb9)
                have hm9 := hm8.trans (Moved.of_below hb9)
                clear c0 c1 c2 c3 c4 c5 c6 c7 c8 c9 c10 c11 c12 c13 f5 f6 f7 f8 f9 f10 f11 f12 f13 hbx hb9
                obtain ⟨⟨c0, c1, c2, c3, c4, c5, c6, c7, c8, c9, c10, c11, c12, c13⟩, f5, f6, f7, f8, f9, f10, f11, f12, f13⟩ := H9.out.box.at7
                have H10 := Lib.hid (H9.out.bad 4 rk.place)
                rw [He.out] at H10
                go_wp2_with fail
                go_roundg G
                case measure => omega
                case rel =>
                  refine ⟨r2, ok, by omega, H10, HRn, Lib.hid fun h => by have := Hst.out h; have := Hgp.out; have := Hadv.out.inn; omega, by have := Hadv.out.upto; omega, Hadv.out.inn, by have := Hadv.out.len; omega, ?_⟩
                  repeat (first | with_reducible exact hm9 | refine Moved.setCell ?_ Hg.out _ _)
              · have Hr6 : Hid ((if X = 2 then rdLong (msgRd s sch B G) G s B (A1, A2, A3, A4, A5) E deep (rk.to P) else rdNum s (A1, A2, A3, A4, A5) X E (rk.to P)) = r2) := Lib.hid (by rw [← Hr5.out]; rfl)
                go_wp2_with fail
                refine (HA.out _).mono ?_
                rintro e w5 ⟨rfl, hb5⟩
                have H8 := Lib.hid (H4.out.below hb5)
                have hm8 := hm4.trans (Moved.of_below hb5)
                have hbx8 := hbx.below hb5 hbx.lt
                clear c0 c1 c2 c3 c4 c5 c6 c7 c8 c9 c10 c11 c12 c13 f5 f6 f7 f8 f9 f10 f11 f12 f13 x0 x1 x2 x3 x4 H4 hm4 hb5
                obtain ⟨⟨c0, c1, c2, c3, c4, c5, c6, c7, c8, c9, c10, c11, c12, c13⟩, f5, f6, f7, f8, f9, f10, f11, f12, f13⟩ := H8.out.box.at7
                obtain ⟨⟨x0, x1, x2, x3, x4⟩, _⟩ := Box.five hbx8
                by_cases hX : X = 2
                · have hXb : (X == 2) = true := by simp [hX]
                  have He : Hid (rdLong (msgRd s sch B G) G s B (A1, A2, A3, A4, A5) E deep (rk.to P) = r2) := Lib.hid (by rw [← Hr6.out, if_pos hX])
                  clear hX
                  go_wp2_with fail
                  refine (HLC.out _ H8.out).mono ?_
                  rintro e w9 ⟨rfl, o9, h9, hm9⟩
                  have H9 := Lib.hid h9
                  rw [He.out] at H9
                  have hm10 := hm8.trans hm9
                  clear h9 hm9 c0 c1 c2 c3 c4 c5 c6 c7 c8 c9 c10 c11 c12 c13 f5 f6 f7 f8 f9 f10 f11 f12 f13 x0 x1 x2 x3 x4
                  go_wp2_with fail
                  go_roundg G
                  case measure => omega
                  case rel => exact ⟨r2, o9, by omega, H9, HRn, Lib.hid fun h => by have := Hst.out h; have := Hgp.out; have := Hadv.out.inn; omega, by have := Hadv.out.upto; omega, Hadv.out.inn, by have := Hadv.out.len; omega, hm10⟩
                · have hXb := neI hX
                  have He : Hid (rdNum s (A1, A2, A3, A4, A5) X E (rk.to P) = r2) := Lib.hid (by rw [← Hr6.out, if_neg hX])
                  clear hX
                  go_wp2_with fail
                  refine (HNC.out _ H8.out).mono ?_
                  rintro e w9 ⟨rfl, o9, h9, hm9⟩
                  have H9 := Lib.hid h9
                  rw [He.out] at H9
                  have hm10 := hm8.trans hm9
                  clear h9 hm9 c0 c1 c2 c3 c4 c5 c6 c7 c8 c9 c10 c11 c12 c13 f5 f6 f7 f8 f9 f10 f11 f12 f13 x0 x1 x2 x3 x4
                  go_wp2_with fail
                  go_roundg G
                  case measure => omega
                  case rel => exact ⟨r2, o9, by omega, H9, HRn, Lib.hid fun h => by have := Hst.out h; have := Hgp.out; have := Hadv.out.inn; omega, by have := Hadv.out.upto; omega, Hadv.out.inn, by have := Hadv.out.len; omega, hm10⟩
      · have hkb := neI hk
        have HRf : Hid (rk = R) := Lib.hid (by rw [← HRk.out, msgRd_end (fun h => hk h.2)])
        clear hk
        go_wp2_with fail
        go_end0
        exact ⟨rfl, ok, by rw [← HRf.out]; exact HK.out, hmk⟩
    · have hge : decide ((rk.place : Int) < E) = false := decide_eq_false hlt
      have HRf : Hid (rk = R) := Lib.hid (by rw [← HRk.out, msgRd_end (fun h => hlt h.1)])
      clear hlt
      go_wp2_with fail
      go_end0
      exact ⟨rfl, ok, by rw [← HRf.out]; exact HK.out, hmk⟩
end Go.Proofs.YtcnpdcmdnmfnaaaGreat.Num

/-
  The walk of the reference's ReadMsg: what is told of a message, and what went wrong.
-/
namespace Go.Proofs.YtcnpdcmdnmfnaaaGreat.Num
open Go.RowKit Go.Proofs
set_option linter.unusedVariables false
set_option linter.unusedSimpArgs false

theorem Box.grownB {w w' : World} {b : Nat} {vs : List Value} {row : Option Nat} (h : Box w b vs) (hg : w.grownBy w' row) (hne : row ≠ some b) : Box w' b vs := by
  have hb := hg.block b h.1 (fun e => hne e.symm)
  exact ⟨Nat.lt_of_lt_of_le h.1 hg.size, fun j hj => ⟨(World.cell?_of_block (a := ⟨b, j, none⟩) hb).trans (h.2 j hj).1, (World.frozen?_of_block (a := ⟨b, j, none⟩) hb).trans (h.2 j hj).2⟩⟩
theorem OwnE.apart {w : World} {B : Nat} {T : TypeId} {v : Value} {l : List Ev} (h : OwnE w B T v l) {p : Addr} (hp : ∀ q, v.ownBlock = some q → q ≠ p.block) (u : Value) : OwnE (w.setCell p u) B T v l := by
  refine h.kept (row := some p.block) ⟨rfl, rfl, rfl, by simp [World.setCell], fun k _ hk => Below.heap_setCell _ _ _ _ (fun e => hk (by rw [e]))⟩ ?_
  cases hv : v.ownBlock with
  | none => exact .inl rfl
  | some k => exact .inr fun e => hp k hv (Option.some.inj e)
theorem l12Msg_any (g : Nat) (u : Value) (sch : List RM) (A B C : Int) (s : ByteArray) (hsch : Small sch) (hB : B ≤ 8) (hs : s.size ≤ 200000000) : ∀ n, MsgCall g u sch A B C s n :=
  fun n => Nat.strongRecOn n fun n ih => l12Msg_step n g u sch A B C s hsch hB hs ih
theorem planB_deep {r : List RM} {A B C : Int} (h : planB r A B C = true) : 1 ≤ B ∧ B ≤ 8 := by
  unfold planB at h
  simp only [Bool.and_eq_true, decide_eq_true_eq] at h
  exact h.2.2.1
set_option maxHeartbeats 8000000 in
set_option maxRecDepth 100000 in
theorem specReadMsg_any (u : Value) (sch : List RM) (A B C shape a E deep : Int) (s : ByteArray) (w : World) (hu : MsgsAt w (· < w.heap.size) u sch) (hsch : Small sch) (hs : s.size ≤ 200000000) (hE : E ≤ 9223372036854775807) :
    Calls Tryz.prog 10 #[planV u A B C, .int .i64 shape, .string s, .int .i64 a, .int .i64 E, .int .i64 deep] w fun e w' => ∃ v cap, e = .returned (.tuple #[.slice v (readR sch A B C shape s a E deep).1.length cap, evV (readR sch A B C shape s a E deep).2]) ∧ OwnE w' w.heap.size 34 (.slice v (readR sch A B C shape s a E deep).1.length cap) (readR sch A B C shape s a E deep).1 ∧ Below w.heap.size w w' := by
  obtain ⟨i0, hi, hz0, hz1', hzb⟩ := info_parts info_event
  obtain ⟨Z, hZ⟩ : ∃ Z, readR sch A B C shape s a E deep = Z := ⟨_, rfl⟩
  rw [hZ]
  have HZ := Lib.hid hZ
  have Hu := Lib.hid hu
  have Hsch := Lib.hid hsch
  have HE := Lib.hid hE
  obtain ⟨ua, uc, rfl⟩ := MsgsAt.len hu
  unfold planV
  have hsl := hsch.1
  have hbx := (Box.fresh w #[.slice ua sch.length uc, .int .i64 A, .int .i64 B, .int .i64 C] 28).alloc (.cells #[.int .i64 0, .int .i64 0, .int .u64 0, .int .i64 0, .string ⟨#[]⟩, .int .i64 0, .int .i64 0] 34)
  have hbr : Box ((w.alloc (.cells #[.slice ua sch.length uc, .int .i64 A, .int .i64 B, .int .i64 C] 28)).alloc (.cells #[.int .i64 0, .int .i64 0, .int .u64 0, .int .i64 0, .string ⟨#[]⟩, .int .i64 0, .int .i64 0] 34)) (w.heap.size + 1) [.int .i64 0, .int .i64 0, .int .u64 0, .int .i64 0, .string ⟨#[]⟩, .int .i64 0, .int .i64 0] := by
    have h := Box.fresh (w.alloc (.cells #[.slice ua sch.length uc, .int .i64 A, .int .i64 B, .int .i64 C] 28)) #[.int .i64 0, .int .i64 0, .int .u64 0, .int .i64 0, .string ⟨#[]⟩, .int .i64 0, .int .i64 0] 34
    rwa [show (w.alloc (.cells #[.slice ua sch.length uc, .int .i64 A, .int .i64 B, .int .i64 C] 28)).heap.size = w.heap.size + 1 by simp] at h
  have hb0 : Below w.heap.size w ((w.alloc (.cells #[.slice ua sch.length uc, .int .i64 A, .int .i64 B, .int .i64 C] 28)).alloc (.cells #[.int .i64 0, .int .i64 0, .int .u64 0, .int .i64 0, .string ⟨#[]⟩, .int .i64 0, .int .i64 0] 34)) := ((Below.refl _ _).alloc (Nat.le_refl _) _).alloc (by simp) _
  have hz0' : ((w.alloc (.cells #[.slice ua sch.length uc, .int .i64 A, .int .i64 B, .int .i64 C] 28)).alloc (.cells #[.int .i64 0, .int .i64 0, .int .u64 0, .int .i64 0, .string ⟨#[]⟩, .int .i64 0, .int .i64 0] 34)).heap.size = w.heap.size + 2 := by simp
  have HPl := Lib.hid (specPlanOk_any (.slice ua sch.length uc) sch A B C ((w.alloc (.cells #[.slice ua sch.length uc, .int .i64 A, .int .i64 B, .int .i64 C] 28)).alloc (.cells #[.int .i64 0, .int .i64 0, .int .u64 0, .int .i64 0, .string ⟨#[]⟩, .int .i64 0, .int .i64 0] 34)) (Hu.out.keep (.of_below hb0 fun _ h => h) fun b hb => by show b < ((w.alloc (.cells #[.slice ua sch.length uc, .int .i64 A, .int .i64 B, .int .i64 C] 28)).alloc (.cells #[.int .i64 0, .int .i64 0, .int .u64 0, .int .i64 0, .string ⟨#[]⟩, .int .i64 0, .int .i64 0] 34)).heap.size; omega) Hsch.out)
  unfold planV at HPl
  clear hu hsch hE hZ
  go_enter Tryz.func10, Tryz.ntmps10
  go_wp2_with fail
  refine HPl.out.mono ?_
  rintro e w1 ⟨rfl, hb1⟩
  have hbx1 := hbx.below hb1 (by omega)
  have hbr1 := hbr.below hb1 (by omega)
  have hbw := hb0.trans (hb1.mono hb0.size)
  have hz1 : w.heap.size + 2 ≤ w1.heap.size := by have := hb1.size; omega
  clear hbx hbr hb0 hb1 hz0' HPl
  have hbB : w.heap.size ≤ w.heap.size + 1 := Nat.le_succ _
  have hbl : w.heap.size + 1 < w1.heap.size := hz1
  have hbl0 : w.heap.size < w1.heap.size := by omega
  have hne1 : ¬ w.heap.size = w.heap.size + 1 := by omega
  have hne2 : ¬ w.heap.size + 1 = w.heap.size := by omega
  generalize w.heap.size + 1 = br at hbr1 hbB hbl hne1 hne2 ⊢
  obtain ⟨c0, c1, c2, c3⟩ := hbx1.fourC
  obtain ⟨⟨r0, r1, r2, r3, r4, r5, r6⟩, s0, s1, s2, s3, s4, s5, s6⟩ := hbr1.seven
  have hwr : IntKind.i64.wrap ((sch.length : Int) - 1) = (sch.length : Int) - 1 := IntWalk.i64_in _ (by omega)
  have HNo : Hid (rdOkB sch A B C shape s a E deep = false → Z = ([], zeroE)) := Lib.hid fun h => by rw [← HZ.out]; unfold readR; rw [if_neg (by rw [h]; simp)]
  have Hok : Hid (∀ q0 q1 q2 q3 q4 : Bool, planB sch A B C = q0 → decide (0 ≤ shape ∧ shape ≤ (sch.length : Int) - 1) = q1 → decide (0 ≤ a ∧ a ≤ (s.size : Int)) = q2 → decide (a ≤ E) = q3 → decide (1 ≤ deep ∧ deep ≤ B) = q4 → rdOkB sch A B C shape s a E deep = (q0 && q1 && q2 && q3 && q4)) := Lib.hid fun q0 q1 q2 q3 q4 h0 h1 h2 h3 h4 => by unfold rdOkB; rw [h0, h1, h2, h3, h4]
  have HYes : Hid (rdOkB sch A B C shape s a E deep = true → Z = ((msgRd s sch B (s.size + 1) shape E deep ⟨a.toNat, [], zeroE⟩).out, (msgRd s sch B (s.size + 1) shape E deep ⟨a.toNat, [], zeroE⟩).fail)) := Lib.hid fun h => by rw [← HZ.out]; unfold readR; rw [if_pos h]
  have hS := OwnE.start (((((((w1.setCell ⟨br, 0, none⟩ (.int .i64 0)).setCell ⟨br, 1, none⟩ (.int .i64 0)).setCell ⟨br, 2, none⟩ (.int .u64 0)).setCell ⟨br, 3, none⟩ (.int .i64 0)).setCell ⟨br, 4, none⟩ (.string ⟨#[]⟩)).setCell ⟨br, 5, none⟩ (.int .i64 0)).setCell ⟨br, 6, none⟩ (.int .i64 0)) w.heap.size 34 (by simp [World.setCell]; omega)
  rw [show (((((((w1.setCell ⟨br, 0, none⟩ (.int .i64 0)).setCell ⟨br, 1, none⟩ (.int .i64 0)).setCell ⟨br, 2, none⟩ (.int .u64 0)).setCell ⟨br, 3, none⟩ (.int .i64 0)).setCell ⟨br, 4, none⟩ (.string ⟨#[]⟩)).setCell ⟨br, 5, none⟩ (.int .i64 0)).setCell ⟨br, 6, none⟩ (.int .i64 0)).heap.size = w1.heap.size by simp [World.setCell]] at hS
  have hbz : Below w.heap.size w ((((((((w1.setCell ⟨br, 0, none⟩ (.int .i64 0)).setCell ⟨br, 1, none⟩ (.int .i64 0)).setCell ⟨br, 2, none⟩ (.int .u64 0)).setCell ⟨br, 3, none⟩ (.int .i64 0)).setCell ⟨br, 4, none⟩ (.string ⟨#[]⟩)).setCell ⟨br, 5, none⟩ (.int .i64 0)).setCell ⟨br, 6, none⟩ (.int .i64 0)).alloc (.cells #[] 34)) := (((((((hbw.setCell (p := ⟨br, 0, none⟩) hbB _).setCell (p := ⟨br, 1, none⟩) hbB _).setCell (p := ⟨br, 2, none⟩) hbB _).setCell (p := ⟨br, 3, none⟩) hbB _).setCell (p := ⟨br, 4, none⟩) hbB _).setCell (p := ⟨br, 5, none⟩) hbB _).setCell (p := ⟨br, 6, none⟩) hbB _).alloc (by simp [World.setCell]; omega) _
  have HS := Lib.hid (And.intro hS hbz)
  clear hS hbz
  obtain ⟨q0, hq0⟩ : ∃ q0, planB sch A B C = q0 := ⟨_, rfl⟩
  obtain ⟨q1, hq1⟩ : ∃ q1, decide (0 ≤ shape ∧ shape ≤ (sch.length : Int) - 1) = q1 := ⟨_, rfl⟩
  obtain ⟨q2, hq2⟩ : ∃ q2, decide (0 ≤ a ∧ a ≤ (s.size : Int)) = q2 := ⟨_, rfl⟩
  obtain ⟨q3, hq3⟩ : ∃ q3, decide (a ≤ E) = q3 := ⟨_, rfl⟩
  obtain ⟨q4, hq4⟩ : ∃ q4, decide (1 ≤ deep ∧ deep ≤ B) = q4 := ⟨_, rfl⟩
  have HQ := Lib.hid (Hok.out q0 q1 q2 q3 q4 hq0 hq1 hq2 hq3 hq4)
  have Hq := Lib.hid (And.intro hq0 (And.intro hq1 (And.intro hq2 (And.intro hq3 hq4))))
  have HI1 : Hid (∀ w, Calls Tryz.prog 35 #[.int .i64 shape, .int .i64 0, .int .i64 ((sch.length : Int) - 1)] w fun e w' => e = .returned (.bool q1) ∧ w = w') := Lib.hid fun w => by rw [← hq1]; exact specIn_any _ _ _ _
  have HI2 : Hid (∀ w, Calls Tryz.prog 35 #[.int .i64 a, .int .i64 0, .int .i64 s.size] w fun e w' => e = .returned (.bool q2) ∧ w = w') := Lib.hid fun w => by rw [← hq2]; exact specIn_any _ _ _ _
  have HI4 : Hid (∀ w, Calls Tryz.prog 35 #[.int .i64 deep, .int .i64 1, .int .i64 B] w fun e w' => e = .returned (.bool q4) ∧ w = w') := Lib.hid fun w => by rw [← hq4]; exact specIn_any _ _ _ _
  have h3 : Hid ((q3 = false → decide (E < a) = true) ∧ (q3 = true → decide (E < a) = false)) := Lib.hid ⟨fun h => by rw [h] at hq3; have := of_decide_eq_false hq3; exact decide_eq_true (by omega), fun h => by rw [h] at hq3; have := of_decide_eq_true hq3; exact decide_eq_false (by omega)⟩
  rw [hq0]
  clear hq0 hq1 hq2 hq3 hq4 Hok HZ
  cases q0 with
  | false =>
    have HZ0 := Lib.hid (HNo.out HQ.out)
    go_wp2_with fail
    refine bodyPost_ret (v := .tuple #[.slice (some ⟨w1.heap.size, 0, none⟩) 0 0, .agg #[.int .i64 0, .int .i64 0, .int .u64 0, .int .i64 0, .string ⟨#[]⟩, .int .i64 0, .int .i64 0]]) (by simp [results, Tryz.results10, go_sem, r0, r1, r2, r3, r4, r5, r6, hbl]) rfl ?_
    rw [HZ0.out]
    exact ⟨some ⟨w1.heap.size, 0, none⟩, 0, rfl, HS.out.1, HS.out.2⟩
  | true =>
    go_wp2_with fail
    refine (HI1.out _).mono ?_
    rintro _ _ ⟨rfl, rfl⟩
    cases q1 with
    | false =>
      have HZ0 := Lib.hid (HNo.out HQ.out)
      go_wp2_with fail
      refine bodyPost_ret (v := .tuple #[.slice (some ⟨w1.heap.size, 0, none⟩) 0 0, .agg #[.int .i64 0, .int .i64 0, .int .u64 0, .int .i64 0, .string ⟨#[]⟩, .int .i64 0, .int .i64 0]]) (by simp [results, Tryz.results10, go_sem, r0, r1, r2, r3, r4, r5, r6, hbl]) rfl ?_
      rw [HZ0.out]
      exact ⟨some ⟨w1.heap.size, 0, none⟩, 0, rfl, HS.out.1, HS.out.2⟩
    | true =>
      go_wp2_with fail
      refine (HI2.out _).mono ?_
      rintro _ _ ⟨rfl, rfl⟩
      cases q2 with
      | false =>
        have HZ0 := Lib.hid (HNo.out HQ.out)
        go_wp2_with fail
        refine bodyPost_ret (v := .tuple #[.slice (some ⟨w1.heap.size, 0, none⟩) 0 0, .agg #[.int .i64 0, .int .i64 0, .int .u64 0, .int .i64 0, .string ⟨#[]⟩, .int .i64 0, .int .i64 0]]) (by simp [results, Tryz.results10, go_sem, r0, r1, r2, r3, r4, r5, r6, hbl]) rfl ?_
        rw [HZ0.out]
        exact ⟨some ⟨w1.heap.size, 0, none⟩, 0, rfl, HS.out.1, HS.out.2⟩
      | true =>
        cases q3 with
        | false =>
          have h3' := h3.out.1 rfl
          have HZ0 := Lib.hid (HNo.out HQ.out)
          go_wp2_with fail
          refine bodyPost_ret (v := .tuple #[.slice (some ⟨w1.heap.size, 0, none⟩) 0 0, .agg #[.int .i64 0, .int .i64 0, .int .u64 0, .int .i64 0, .string ⟨#[]⟩, .int .i64 0, .int .i64 0]]) (by simp [results, Tryz.results10, go_sem, r0, r1, r2, r3, r4, r5, r6, hbl]) rfl ?_
          rw [HZ0.out]
          exact ⟨some ⟨w1.heap.size, 0, none⟩, 0, rfl, HS.out.1, HS.out.2⟩
        | true =>
          have h3' := h3.out.2 rfl
          go_wp2_with fail
          refine (HI4.out _).mono ?_
          rintro _ _ ⟨rfl, rfl⟩
          cases q4 with
          | false =>
            have HZ0 := Lib.hid (HNo.out HQ.out)
            go_wp2_with fail
            refine bodyPost_ret (v := .tuple #[.slice (some ⟨w1.heap.size, 0, none⟩) 0 0, .agg #[.int .i64 0, .int .i64 0, .int .u64 0, .int .i64 0, .string ⟨#[]⟩, .int .i64 0, .int .i64 0]]) (by simp [results, Tryz.results10, go_sem, r0, r1, r2, r3, r4, r5, r6, hbl]) rfl ?_
            rw [HZ0.out]
            exact ⟨some ⟨w1.heap.size, 0, none⟩, 0, rfl, HS.out.1, HS.out.2⟩
          | true =>
            clear h3' h3 HI1 HI2 HI4 HS HNo
            obtain ⟨e0, e1, e2, e3, e4⟩ := Hq.out
            have ha := of_decide_eq_true e2
            have haE := of_decide_eq_true e3
            have hdd := of_decide_eq_true e4
            have hBB := planB_deep e0
            have HZ0 := Lib.hid (HYes.out HQ.out)
            clear e0 e1 e2 e3 e4 Hq HQ HYes
            obtain ⟨N, rfl⟩ := Int.eq_ofNat_of_zero_le ha.1
            rw [Int.toNat_natCast] at HZ0
            obtain ⟨Q, hQ⟩ : ∃ Q, msgRd s sch B (s.size + 1) shape E deep ⟨N, [], zeroE⟩ = Q := ⟨_, rfl⟩
            rw [hQ] at HZ0
            have hadv := msgRd_adv (s := s) (sch := sch) (D := B) (s.size + 1) shape E deep ⟨N, [], zeroE⟩ (by show N ≤ s.size; omega) haE
            have HQlen : Hid (Q.out.length ≤ 1048576000) := Lib.hid (by rw [hQ] at hadv; have h1 := hadv.len; have h2 := hadv.inn; have h3 : (⟨N, [], zeroE⟩ : RdM).out.length = 0 := rfl; rw [h3] at h1; omega)
            clear hadv
            have hrd : RdAt (w1.alloc (.cells #[.slice ua sch.length uc, .int .i64 A, .int .i64 B, .int .i64 C, .string s, .int .i64 N, .slice none 0 0, .int .i64 0, .int .i64 0, .int .u64 0, .int .i64 0, .string ⟨#[]⟩, .int .i64 0, .int .i64 0] 76)) w1.heap.size (.slice ua sch.length uc) sch A B C s (.slice none 0 0) ⟨N, [], zeroE⟩ := ⟨Box.fresh w1 #[.slice ua sch.length uc, .int .i64 A, .int .i64 B, .int .i64 C, .string s, .int .i64 N, .slice none 0 0, .int .i64 0, .int .i64 0, .int .u64 0, .int .i64 0, .string ⟨#[]⟩, .int .i64 0, .int .i64 0] _, OwnE.nil _ _ _, Hu.out.keep (.of_below (hbw.alloc hbw.size _) fun _ h => h) fun b hb => by show b < w1.heap.size; omega, by show N ≤ s.size; omega⟩
            have HMc := l12Msg_any w1.heap.size (.slice ua sch.length uc) sch A B C s Hsch.out hBB.2 hs (s.size + 1) shape E deep (.slice none 0 0) ⟨N, [], zeroE⟩ _ hrd (Nat.zero_le _) haE HE.out (by show s.size - N < s.size + 1; omega) (by omega)
            rw [hQ] at HMc
            have HM := Lib.hid HMc
            clear HMc hrd hQ ha haE hdd hBB
            have hbn : Below w.heap.size w (w1.alloc (.cells #[.slice ua sch.length uc, .int .i64 A, .int .i64 B, .int .i64 C, .string s, .int .i64 N, .slice none 0 0, .int .i64 0, .int .i64 0, .int .u64 0, .int .i64 0, .string ⟨#[]⟩, .int .i64 0, .int .i64 0] 76)) := hbw.alloc hbw.size _
            have hbr2 := hbr1.alloc (.cells #[.slice ua sch.length uc, .int .i64 A, .int .i64 B, .int .i64 C, .string s, .int .i64 N, .slice none 0 0, .int .i64 0, .int .i64 0, .int .u64 0, .int .i64 0, .string ⟨#[]⟩, .int .i64 0, .int .i64 0] 76)
            go_wp2_with fail
            refine HM.out.mono ?_
            rintro e w3 ⟨rfl, o3, h3, hm3⟩
            have hbg := hm3.below (by simp) (fun k hk => by cases hk)
            have hbr3 := hbr2.below hbg hbl
            have hbw3 := hbn.trans (hbg.mono hbw.size)
            have H3 := Lib.hid h3
            clear hbg hm3 h3 hbr2 hbr1 hbn hbw HM r0 r1 r2 r3 r4 r5 r6 s0 s1 s2 s3 s4 s5 s6
            obtain ⟨ao, co, rfl⟩ := H3.out.out.slice
            have Hao : Hid (ao = none → Q.out.length = 0 ∧ co = 0) := Lib.hid fun h => by
              rcases H3.out.out.form with ⟨h1, _⟩ | ⟨g, c, h1, _⟩
              · injection h1 with h1 h2 h3; exact ⟨h2, h3⟩
              · injection h1 with h1; rw [h] at h1; cases h1
            obtain ⟨⟨c0, c1, c2, c3, c4, c5, c6, c7, c8, c9, c10, c11, c12, c13⟩, f5, f6, f7, f8, f9, f10, f11, f12, f13⟩ := H3.out.box.at7
            obtain ⟨⟨r0, r1, r2, r3, r4, r5, r6⟩, s0, s1, s2, s3, s4, s5, s6⟩ := hbr3.seven
            have hgl := H3.out.lt
            have hneg : ¬ w1.heap.size = br := by omega
            have hneg2 : ¬ br = w1.heap.size := by omega
            generalize w1.heap.size = g at H3 hgl hneg hneg2 hbl hbl0 c0 c1 c2 c3 c4 c5 c6 c7 c8 c9 c10 c11 c12 c13 f5 f6 f7 f8 f9 f10 f11 f12 f13 ⊢
            have hszc : (((((((w3.setCell ⟨br, 0, none⟩ (.int .i64 Q.fail.kind)).setCell ⟨br, 1, none⟩ (.int .i64 Q.fail.field)).setCell ⟨br, 2, none⟩ (.int .u64 Q.fail.bits)).setCell ⟨br, 3, none⟩ (.int .i64 Q.fail.len)).setCell ⟨br, 4, none⟩ (.string Q.fail.text)).setCell ⟨br, 5, none⟩ (.int .i64 Q.fail.code)).setCell ⟨br, 6, none⟩ (.int .i64 Q.fail.pos)).heap.size = w3.heap.size := by simp [World.setCell]
            have HbrC : Box (((((((w3.setCell ⟨br, 0, none⟩ (.int .i64 Q.fail.kind)).setCell ⟨br, 1, none⟩ (.int .i64 Q.fail.field)).setCell ⟨br, 2, none⟩ (.int .u64 Q.fail.bits)).setCell ⟨br, 3, none⟩ (.int .i64 Q.fail.len)).setCell ⟨br, 4, none⟩ (.string Q.fail.text)).setCell ⟨br, 5, none⟩ (.int .i64 Q.fail.code)).setCell ⟨br, 6, none⟩ (.int .i64 Q.fail.pos)) br [.int .i64 Q.fail.kind, .int .i64 Q.fail.field, .int .u64 Q.fail.bits, .int .i64 Q.fail.len, .string Q.fail.text, .int .i64 Q.fail.code, .int .i64 Q.fail.pos] := by
              have h := ((((((hbr3.set 0 (.int .i64 Q.fail.kind)).set 1 (.int .i64 Q.fail.field)).set 2 (.int .u64 Q.fail.bits)).set 3 (.int .i64 Q.fail.len)).set 4 (.string Q.fail.text)).set 5 (.int .i64 Q.fail.code)).set 6 (.int .i64 Q.fail.pos)
              exact h
            have hbwC : Below w.heap.size w (((((((w3.setCell ⟨br, 0, none⟩ (.int .i64 Q.fail.kind)).setCell ⟨br, 1, none⟩ (.int .i64 Q.fail.field)).setCell ⟨br, 2, none⟩ (.int .u64 Q.fail.bits)).setCell ⟨br, 3, none⟩ (.int .i64 Q.fail.len)).setCell ⟨br, 4, none⟩ (.string Q.fail.text)).setCell ⟨br, 5, none⟩ (.int .i64 Q.fail.code)).setCell ⟨br, 6, none⟩ (.int .i64 Q.fail.pos)) := ((((((hbw3.setCell (p := ⟨br, 0, none⟩) hbB _).setCell (p := ⟨br, 1, none⟩) hbB _).setCell (p := ⟨br, 2, none⟩) hbB _).setCell (p := ⟨br, 3, none⟩) hbB _).setCell (p := ⟨br, 4, none⟩) hbB _).setCell (p := ⟨br, 5, none⟩) hbB _).setCell (p := ⟨br, 6, none⟩) hbB _
            have HOC : OwnE (((((((w3.setCell ⟨br, 0, none⟩ (.int .i64 Q.fail.kind)).setCell ⟨br, 1, none⟩ (.int .i64 Q.fail.field)).setCell ⟨br, 2, none⟩ (.int .u64 Q.fail.bits)).setCell ⟨br, 3, none⟩ (.int .i64 Q.fail.len)).setCell ⟨br, 4, none⟩ (.string Q.fail.text)).setCell ⟨br, 5, none⟩ (.int .i64 Q.fail.code)).setCell ⟨br, 6, none⟩ (.int .i64 Q.fail.pos)) (g + 1) 34 (.slice ao Q.out.length co) Q.out := by
              have hg1 : br < g + 1 := by omega
              exact ((((((H3.out.out.other (p := ⟨br, 0, none⟩) hg1 _).other (p := ⟨br, 1, none⟩) hg1 _).other (p := ⟨br, 2, none⟩) hg1 _).other (p := ⟨br, 3, none⟩) hg1 _).other (p := ⟨br, 4, none⟩) hg1 _).other (p := ⟨br, 5, none⟩) hg1 _).other (p := ⟨br, 6, none⟩) hg1 _
            have hz3 := hbw3.size
            have HA1 : Hid ((w3.alloc (.cells #[] 34)).ownsRow w.heap.size 34 7 (.slice (some ⟨w3.heap.size, 0, none⟩) 0 0) 0 []) := Lib.hid (OwnE.start w3 w.heap.size 34 hz3)
            have HA2 : Hid (((((((((w3.setCell ⟨br, 0, none⟩ (.int .i64 Q.fail.kind)).setCell ⟨br, 1, none⟩ (.int .i64 Q.fail.field)).setCell ⟨br, 2, none⟩ (.int .u64 Q.fail.bits)).setCell ⟨br, 3, none⟩ (.int .i64 Q.fail.len)).setCell ⟨br, 4, none⟩ (.string Q.fail.text)).setCell ⟨br, 5, none⟩ (.int .i64 Q.fail.code)).setCell ⟨br, 6, none⟩ (.int .i64 Q.fail.pos)).alloc (.cells #[] 34)).ownsRow w.heap.size 34 7 (.slice (some ⟨w3.heap.size, 0, none⟩) 0 0) 0 []) := Lib.hid (by have h := OwnE.start (((((((w3.setCell ⟨br, 0, none⟩ (.int .i64 Q.fail.kind)).setCell ⟨br, 1, none⟩ (.int .i64 Q.fail.field)).setCell ⟨br, 2, none⟩ (.int .u64 Q.fail.bits)).setCell ⟨br, 3, none⟩ (.int .i64 Q.fail.len)).setCell ⟨br, 4, none⟩ (.string Q.fail.text)).setCell ⟨br, 5, none⟩ (.int .i64 Q.fail.code)).setCell ⟨br, 6, none⟩ (.int .i64 Q.fail.pos)) w.heap.size 34 (by rw [hszc]; exact hz3); rw [hszc] at h; exact h)
            have HN1 : Hid (EvsAt (w3.alloc (.cells #[] 34)) (· < w3.heap.size) (.slice ao Q.out.length co) Q.out) := Lib.hid (H3.out.out.evsAll.keep (.of_below ((Below.refl w3.heap.size w3).alloc (Nat.le_refl _) _) fun _ h => h) fun _ h => h)
            have HN2 : Hid (EvsAt ((((((((w3.setCell ⟨br, 0, none⟩ (.int .i64 Q.fail.kind)).setCell ⟨br, 1, none⟩ (.int .i64 Q.fail.field)).setCell ⟨br, 2, none⟩ (.int .u64 Q.fail.bits)).setCell ⟨br, 3, none⟩ (.int .i64 Q.fail.len)).setCell ⟨br, 4, none⟩ (.string Q.fail.text)).setCell ⟨br, 5, none⟩ (.int .i64 Q.fail.code)).setCell ⟨br, 6, none⟩ (.int .i64 Q.fail.pos)).alloc (.cells #[] 34)) (· < w3.heap.size) (.slice ao Q.out.length co) Q.out) := Lib.hid (HOC.evsAll.keep (.of_below ((Below.refl (((((((w3.setCell ⟨br, 0, none⟩ (.int .i64 Q.fail.kind)).setCell ⟨br, 1, none⟩ (.int .i64 Q.fail.field)).setCell ⟨br, 2, none⟩ (.int .u64 Q.fail.bits)).setCell ⟨br, 3, none⟩ (.int .i64 Q.fail.len)).setCell ⟨br, 4, none⟩ (.string Q.fail.text)).setCell ⟨br, 5, none⟩ (.int .i64 Q.fail.code)).setCell ⟨br, 6, none⟩ (.int .i64 Q.fail.pos)).heap.size (((((((w3.setCell ⟨br, 0, none⟩ (.int .i64 Q.fail.kind)).setCell ⟨br, 1, none⟩ (.int .i64 Q.fail.field)).setCell ⟨br, 2, none⟩ (.int .u64 Q.fail.bits)).setCell ⟨br, 3, none⟩ (.int .i64 Q.fail.len)).setCell ⟨br, 4, none⟩ (.string Q.fail.text)).setCell ⟨br, 5, none⟩ (.int .i64 Q.fail.code)).setCell ⟨br, 6, none⟩ (.int .i64 Q.fail.pos))).alloc (Nat.le_refl _) _) fun _ h => h) fun _ h => by rw [← hszc]; exact h)
            have HQl : Hid (Q.out.length ≤ 1048576000) := Lib.hid HQlen.out
            have HB1 : Hid (Box (w3.alloc (.cells #[] 34)) br [.int .i64 0, .int .i64 0, .int .u64 0, .int .i64 0, .string ⟨#[]⟩, .int .i64 0, .int .i64 0] ∧ Below w.heap.size w (w3.alloc (.cells #[] 34))) := Lib.hid ⟨hbr3.alloc _, hbw3.alloc hz3 _⟩
            have HB2 : Hid (Box ((((((((w3.setCell ⟨br, 0, none⟩ (.int .i64 Q.fail.kind)).setCell ⟨br, 1, none⟩ (.int .i64 Q.fail.field)).setCell ⟨br, 2, none⟩ (.int .u64 Q.fail.bits)).setCell ⟨br, 3, none⟩ (.int .i64 Q.fail.len)).setCell ⟨br, 4, none⟩ (.string Q.fail.text)).setCell ⟨br, 5, none⟩ (.int .i64 Q.fail.code)).setCell ⟨br, 6, none⟩ (.int .i64 Q.fail.pos)).alloc (.cells #[] 34)) br [.int .i64 Q.fail.kind, .int .i64 Q.fail.field, .int .u64 Q.fail.bits, .int .i64 Q.fail.len, .string Q.fail.text, .int .i64 Q.fail.code, .int .i64 Q.fail.pos] ∧ Below w.heap.size w ((((((((w3.setCell ⟨br, 0, none⟩ (.int .i64 Q.fail.kind)).setCell ⟨br, 1, none⟩ (.int .i64 Q.fail.field)).setCell ⟨br, 2, none⟩ (.int .u64 Q.fail.bits)).setCell ⟨br, 3, none⟩ (.int .i64 Q.fail.len)).setCell ⟨br, 4, none⟩ (.string Q.fail.text)).setCell ⟨br, 5, none⟩ (.int .i64 Q.fail.code)).setCell ⟨br, 6, none⟩ (.int .i64 Q.fail.pos)).alloc (.cells #[] 34))) := Lib.hid ⟨HbrC.alloc _, hbwC.alloc (by rw [hszc]; exact hz3) _⟩
            have HK1 : Hid (Box (w3.alloc (.cells #[] 34)) g ([.slice ua sch.length uc, .int .i64 A, .int .i64 B, .int .i64 C, .string s, .int .i64 Q.place, .slice ao Q.out.length co] ++ evC Q.fail)) := Lib.hid (H3.out.box.alloc _)
            clear HbrC hbwC HOC hszc
            go_upto_region 5 with fail
            go_region_law (first | (refine step_append_onto _ (by rfl) _ _ 31 (by rfl) w.heap.size 34 i0 _ 7 64 Tryz.underlying31 hi hz0 hz1' hzb (by rfl) (by omega) w3.heap.size 0 0 [] (by rfl) HA1.out ao Q.out.length co (by rfl) Hao.out (Q.out.flatMap evC) (evs_len _) (EvsAt.news HN1.out) evC_one (by unfold maxLen; have := HQl.out; omega) (by have := HQl.out; omega) (by simp [World.setCell]; omega) _ rfl ?_; intro g2 cap2 w5 hown2 hg2 hor2 hlt2; have hb5 : Below w.heap.size w w5 := HB1.out.2.drew.grown hg2 (by simp [World.setCell]; omega) (fun q hq => by cases hq; exact hz3); have hx5 := (HB1.out.1.drew).grownB hg2 (by intro e; cases e; omega); have hk5 := (HK1.out.drew).grownB hg2 (by intro e; cases e; omega); obtain ⟨⟨n0, n1, n2, n3, n4, n5, n6, n7, n8, n9, n10, n11, n12, n13⟩, _⟩ := hk5.at7; obtain ⟨⟨p0, p1, p2, p3, p4, p5, p6⟩, t0, t1, t2, t3, t4, t5, t6⟩ := hx5.seven) | (refine step_append_onto _ (by rfl) _ _ 31 (by rfl) w.heap.size 34 i0 _ 7 64 Tryz.underlying31 hi hz0 hz1' hzb (by rfl) (by omega) w3.heap.size 0 0 [] (by rfl) HA2.out ao Q.out.length co (by rfl) Hao.out (Q.out.flatMap evC) (evs_len _) (EvsAt.news HN2.out) evC_one (by unfold maxLen; have := HQl.out; omega) (by have := HQl.out; omega) (by simp [World.setCell]; omega) _ rfl ?_; intro g2 cap2 w5 hown2 hg2 hor2 hlt2; have hb5 : Below w.heap.size w w5 := HB2.out.2.drew.grown hg2 (by simp [World.setCell]; omega) (fun q hq => by cases hq; exact hz3); have hx5 := (HB2.out.1.drew).grownB hg2 (by intro e; cases e; omega); obtain ⟨⟨p0, p1, p2, p3, p4, p5, p6⟩, t0, t1, t2, t3, t4, t5, t6⟩ := hx5.seven))
            all_goals
              have ho5 : OwnE w5 w.heap.size 34 (.slice (some ⟨g2, 0, none⟩) Q.out.length cap2) Q.out := by unfold OwnE; have h := hown2; simp only [Nat.zero_add, List.nil_append] at h; exact h
              have hg2b : g2 ≠ br := by
                rcases hor2 with h | h
                · omega
                · rw [h]; simp [World.setCell]; omega
              have HO5 := Lib.hid ho5
              have HB5 := Lib.hid hb5
              have HG := Lib.hid hg2b
              clear hown2 hor2 ho5 hg2b hb5 hg2 hlt2
              go_wp2_with fail
              refine bodyPost_ret (v := .tuple #[.slice (some ⟨g2, 0, none⟩) Q.out.length cap2, evV Q.fail]) (by simp [results, Tryz.results10, go_sem, evV, p0, p1, p2, p3, p4, p5, p6]) rfl ?_
              rw [HZ0.out]
              refine ⟨some ⟨g2, 0, none⟩, cap2, rfl, ?_, ?_⟩
              · repeat (first | with_reducible exact HO5.out | refine OwnE.apart ?_ (fun q hq => by cases hq; exact HG.out) _)
              · repeat (first | with_reducible exact HB5.out | refine Below.setCell ?_ hbB _)
end Go.Proofs.YtcnpdcmdnmfnaaaGreat.Num
