/-
  The walk of the reference's DrawPrefixOf: two short lists of events with small texts; of what was there nothing is written.
-/
import Derived.Test.YteplmjlllnbiiaaDrawMerge
import Derived.Test.YteplmjlllnbiiaaShatterS
import Derived.Deep.CutBlock
namespace Go.Proofs.Yteplmjlllnbiiaa.Num
open Go.RowKit Go.Proofs
set_option linter.unusedVariables false
set_option linter.unusedSimpArgs false
attribute [local go_sem] Region.wanted yielded

/-- While the two lists are drawn: the cursor, the second list, the first one in a block of its own above it. -/
structure DP (B g : Nat) (a : Option Addr) (len cap : Nat) (w wx : World) (Bx : Nat) (T : TypeId) (vb : Value) (lb : List Ev) (va : Value) (la : List Ev) : Prop where
  cur : Cur wx B g a len cap
  off : Below w.heap.size w wx
  lo : w.heap.size ≤ g ∧ g < Bx ∧ Bx ≤ wx.heap.size
  snd : EvsAt wx (fun b => g < b ∧ b < Bx) vb lb
  fst : OwnE wx Bx T va la
  ok : DrawnL 9 la
theorem DP.step {B g len cap Bx : Nat} {a : Option Addr} {w wx wy : World} {T : TypeId} {vb va : Value} {lb la : List Ev} (h : DP B g a len cap w wx Bx T vb lb va la) (hc : Cur wy B g a len cap) (ho : Off wx.heap.size g wx wy) : DP B g a len cap w wy Bx T vb lb va la := by
  obtain ⟨h1, h2, h3⟩ := h.lo
  exact ⟨hc, h.off.trans (ho.below h1 h.off.size), ⟨h1, h2, Nat.le_trans h3 ho.size⟩, h.snd.keep (fun b o hb => World.cell?_of_block (a := ⟨b, o, none⟩) (ho.block b (by omega) (by omega))) fun _ h => h, h.fst.off ho h2, h.ok⟩
set_option maxHeartbeats 8000000 in
set_option maxRecDepth 100000 in
theorem drawPrefixOf_any (B : Nat) (a : Option Addr) (len cap : Nat) (w : World) (hB : B ≤ w.heap.size) (h : CodeAt w B a len) :
    Calls Try.prog 21 #[.slice a len cap] w fun x w' => ∃ (la lb : List Ev) (ga ca gb cb : Nat), DrawnL 9 la ∧ DrawnL 8 lb ∧ x = .returned (.tuple #[.slice (some ⟨ga, 0, none⟩) la.length ca, .slice (some ⟨gb, 0, none⟩) lb.length cb]) ∧ EvsAt w' (· < w'.heap.size) (.slice (some ⟨ga, 0, none⟩) la.length ca) la ∧ EvsAt w' (· < w'.heap.size) (.slice (some ⟨gb, 0, none⟩) lb.length cb) lb ∧ la.length ≤ ca ∧ Below w.heap.size w w' := by
  obtain ⟨i0, hi, hz0, hz1, hz2⟩ := info_parts info_event
  have H := Lib.hid h; clear h
  go_enter Try.func21, Try.ntmps21
  go_wp2_with fail
  refine (l1New_any B a len cap _ hB H.out).mono ?_
  rintro e w1 ⟨g, rfl, hc1, hb1, hg1, hg1'⟩
  have Hc1 := Lib.hid hc1; clear hc1
  have hz1' := hb1.size
  go_wp2_with fail
  refine (l11List_any B g a len cap _ Hc1.out (by omega) (by omega)).mono ?_
  rintro e w2 ⟨lb, gb, cb, hd, rfl, ho, hc2, hf2⟩
  have HO2 := Lib.hid ho
  have Hd := Lib.hid hd
  have Hc2 := Lib.hid hc2
  have hb2 : Below w.heap.size w w2 := hb1.trans (hf2.below (by omega) hz1')
  have hz2' := hf2.size
  have hgb := HO2.out.lt gb rfl
  have hcb : lb.length ≤ cb := RowAt.cap HO2.out.evsAt
  have hl8 := hd.1
  clear hd ho hc2 hf2 hb1
  have HE2 : Hid (OwnE (w2.alloc (.cells #[] 31)) w2.heap.size 31 (.slice (some ⟨w2.heap.size, 0, none⟩) 0 0) []) := Lib.hid (OwnE.start _ _ _ (Nat.le_refl _))
  have HB2 : Hid (EvsAt (w2.alloc (.cells #[] 31)) (fun b => g < b ∧ b < w2.heap.size) (.slice (some ⟨gb, 0, none⟩) lb.length cb) lb) := Lib.hid ((HO2.out.evsAt.below ((Below.refl w2.heap.size _).alloc (Nat.le_refl _) _) fun b hb => hb.2).wide fun b hb => ⟨by omega, hb.2⟩)
  have hwl : IntKind.i64.wrap ((lb.length : Int) + 1) = ((lb.length + 1 : Nat) : Int) := IntWalk.i64_in _ (by omega)
  go_wp2_with fail
  refine (l1Below_any B g a len cap _ _ (Hc2.out.other ((Below.refl w2.heap.size _).alloc (Nat.le_refl _) _) (by omega) (by omega)) (by omega)).mono ?_
  rintro e w3 ⟨r, r0, r1, rfl, hc3, ho3⟩
  have hr : r < ((lb.length + 1 : Nat) : Int) := r1 (by omega)
  obtain ⟨k, rfl⟩ := Int.eq_ofNat_of_zero_le r0
  have hk : k ≤ lb.length := by omega
  have hki : (k : Int) ≤ (cb : Int) := by omega
  have hkc : k ≤ cb := by omega
  have h0k : (0 : Int) ≤ (k : Int) := by omega
  have hz3 : w2.heap.size < w3.heap.size := by have := ho3.size; simp at this; omega
  have HE3 := Lib.hid (HE2.out.off (Only.off ho3 (Nat.le_refl _)) (by omega))
  have HB3 : Hid (EvsAt w3 (fun b => g < b ∧ b < w2.heap.size) (.slice (some ⟨gb, 0, none⟩) lb.length cb) lb) := Lib.hid (HB2.out.keep (fun b o hb => World.cell?_of_block (a := ⟨b, o, none⟩) (ho3.block b (by simp; omega) (by intro e; have := Option.some.inj e; omega))) fun _ h => h)
  have Hc3 := Lib.hid hc3
  have hb3 : Below w.heap.size w w3 := (hb2.alloc hb2.size _).trans (Only.below ho3 (by omega) (by have := hb2.size; simp; omega))
  have HP3 : Hid (EvsAt w3 (fun b => g < b ∧ b < w2.heap.size) (.slice (some ⟨gb, 0, none⟩) k cb) (lb.take k)) := Lib.hid (HB3.out.pre k hk)
  have Hlt : Hid ((lb.take k).length = k) := Lib.hid (by simp; omega)
  have hbw2 := hb2.size
  clear hc3 ho3 r0 r1 hr HE2 HB2 Hc2 hb2 hwl
  go_wp2_with (at_builtin; refine wpList_append_onto _ (by rfl) (.tmp 12) (.tmp 19) 24 (by rfl) w2.heap.size 31 i0 _ 7 64 Try.underlying24 hi hz0 hz1 hz2 (by rfl) (by omega) w2.heap.size 0 0 _ (by rfl) HE3.out (some ⟨gb, 0, none⟩) k cb (by rfl) (fun h => by cases h) ((lb.take k).flatMap evC) (by rw [evs_len, Hlt.out]) (EvsAt.news HP3.out) evC_one (by unfold maxLen; omega) (by omega) (by omega) _ rfl ?_; intro ga ca w4 hown4 hg4 hor4 hlt4)
  have hb4 : Below w.heap.size w w4 := hb3.grown hg4 (by omega) (fun q hq => by have : some w2.heap.size = some q := hq; have := Option.some.inj this; omega)
  have HD4 : Hid (DP B g a len cap w w4 w2.heap.size 31 (.slice (some ⟨gb, 0, none⟩) lb.length cb) lb (.slice (some ⟨ga, 0, none⟩) k ca) (lb.take k)) := Lib.hid (by
    have hb34 : Below w2.heap.size w3 w4 := (Below.refl _ _).grown hg4 (by omega) (fun q hq => by have : some w2.heap.size = some q := hq; have := Option.some.inj this; omega)
    refine ⟨Hc3.out.other hb34 (by omega) (by omega), hb4, ⟨by omega, by omega, by have := hb34.size; omega⟩, HB3.out.keep (.of_below hb34 fun b hb => hb.2) fun _ h => h, ?_, (Hd.out.take k).more (by omega)⟩
    unfold OwnE
    have h := hown4
    simp only [Nat.zero_add, List.flatMap_nil, List.nil_append] at h
    rw [Hlt.out]; exact h)
  have Hl4 : Hid ((lb.take k).length = k) := Hlt
  have hk9 : k ≤ 8 := by omega
  generalize lb.take k = la at HD4 Hl4
  clear hb3 hb4 HE3 HB3 HP3 Hlt Hc3 hown4 hg4 hor4 hlt4 hz3 hki hkc h0k hk HO2 hcb hl8 hgb
  go_wp2_with fail
  refine (l1Below_any B g a len cap _ _ HD4.out.cur (by omega)).mono ?_
  rintro e w5 ⟨r, r0, r1, rfl, hc5, ho5⟩
  have HD5 := Lib.hid (HD4.out.step hc5 (Only.off ho5 (Nat.le_refl _)))
  have hrr : r = 0 ∨ r = 1 ∨ r = 2 ∨ (r ≠ 0 ∧ r ≠ 1 ∧ r ≠ 2) := by omega
  clear hc5 ho5 r0 r1 HD4
  simp only [Nat.zero_add]
  go_upto_block 0 with fail
  go_cut [6] from 23 to 68 (fun s6 wx => ∃ (la : List Ev) (ga ca : Nat), s6 = .slice (some ⟨ga, 0, none⟩) la.length ca ∧ Hid (DP B g a len cap w wx w2.heap.size 31 (.slice (some ⟨gb, 0, none⟩) lb.length cb) lb (.slice (some ⟨ga, 0, none⟩) la.length ca) la))
  case first =>
    obtain ⟨hgw, hgx, hx5⟩ := HD5.out.lo
    rcases hrr with rfl | rfl | rfl | ⟨k0, k1, k2⟩
    · go_wp2_with fail
      refine (l11List_any B g a len cap _ HD5.out.cur (by omega) (by omega)).mono ?_
      rintro e w6 ⟨l2, g2, c2, hd2, rfl, ho2, hc6, hf6⟩
      have HD6 := Lib.hid (HD5.out.step hc6 hf6)
      have HO6 := Lib.hid (ho2.wide hx5)
      have Hd2 := Lib.hid hd2
      clear hd2 ho2 hc6 hf6
      go_wp2_with fail
      go_meet
      exact ⟨l2, g2, c2, rfl, Lib.hid { HD6.out with fst := HO6.out, ok := Hd2.out.more (by omega) }⟩
    · have Hsame : Hid (∃ (la' : List Ev) (ga' ca' : Nat), Value.slice (some ⟨ga, 0, none⟩) k ca = .slice (some ⟨ga', 0, none⟩) la'.length ca' ∧ Hid (DP B g a len cap w w5 w2.heap.size 31 (.slice (some ⟨gb, 0, none⟩) lb.length cb) lb (.slice (some ⟨ga', 0, none⟩) la'.length ca') la')) := Lib.hid ⟨la, ga, ca, by rw [Hl4.out], by rw [Hl4.out]; exact HD5⟩
      by_cases hk0 : k = 0
      · have d1 : decide ((0 : Int) < (k : Int)) = false := decide_eq_false (by omega)
        have d2 : decide (0 < k) = false := decide_eq_false (by omega)
        clear hk0
        go_wp2_with fail
        go_meet
        exact Hsame.out
      · have hk1 : (0 : Int) < (k : Int) := by omega
        obtain ⟨i, x, rfl⟩ : ∃ i x, la = i ++ [x] := by
          rcases nil_or_last la with rfl | h
          · exact absurd Hl4.out.symm hk0
          · exact h
        have hik : i.length + 1 = k := by have := Hl4.out; simpa using this
        have Hik := Lib.hid hik
        have hw : IntKind.i64.wrap ((k : Int) - 1) = (i.length : Int) := by rw [IntWalk.i64_in _ (by omega)]; omega
        have hil : (i.length : Int) < (k : Int) := by omega
        have hil2 : i.length < k := by omega
        obtain ⟨x0, x1, x2, x3, x4, x5, x6⟩ := HD5.out.fst.cellsAt i.length (by simp)
        rw [List.getElem_append_right (Nat.le_refl _)] at x0 x1 x2 x3 x4 x5 x6
        simp only [Nat.sub_self, List.getElem_cons_zero] at x0 x1 x2 x3 x4 x5 x6
        clear hik
        by_cases hx4 : x.kind = 4
        · have kx : (x.kind == 4) = true := by rw [hx4]; rfl
          clear hx4
          have hxs : x.text.size ≤ 8 := (HD5.out.ok.2 x (by simp)).2
          have hwl : IntKind.i64.wrap ((x.text.size : Int) + 1) = ((x.text.size + 1 : Nat) : Int) := IntWalk.i64_in _ (by omega)
          go_wp2_with fail
          refine (l1Below_any B g a len cap _ _ HD5.out.cur (by omega)).mono ?_
          rintro e w6 ⟨r, r0, r1, rfl, hc6, ho6⟩
          have hr : r < ((x.text.size + 1 : Nat) : Int) := r1 (by omega)
          obtain ⟨q, rfl⟩ := Int.eq_ofNat_of_zero_le r0
          have hq : q ≤ x.text.size := by omega
          have hqi : (q : Int) ≤ (x.text.size : Int) := by omega
          have h0q : (0 : Int) ≤ (q : Int) := by omega
          have HD6 := Lib.hid (HD5.out.step hc6 (Only.off ho6 (Nat.le_refl _)))
          clear hc6 ho6 r0 r1 hr x0 x1 x2 x3 x4 x5 x6 Hsame
          have HrN : Hid (w6.ownsRow w2.heap.size 31 7 (.slice (some ⟨ga, 0, none⟩) k ca) k ((i ++ [x]).flatMap evC)) := Lib.hid (by have h := HD6.out.fst; unfold OwnE at h; rw [Hl4.out] at h; exact h)
          obtain ⟨x0, x1, x2, x3, x4, x5, x6⟩ := HD6.out.fst.cellsAt i.length (by simp)
          rw [List.getElem_append_right (Nat.le_refl _)] at x0 x1 x2 x3 x4 x5 x6
          simp only [Nat.sub_self, List.getElem_cons_zero] at x0 x1 x2 x3 x4 x5 x6
          have hfr := World.ownsRow.frozenAt HrN.out (i.length * 7 + 4)
          have Hsz : Hid ((x.text.extract 0 q).size = q) := Lib.hid (by rw [ba_extract_size _ _ _ hq]; omega)
          have Hga : Hid (w2.heap.size ≤ ga) := Lib.hid (World.ownsRow.lt HrN.out ga rfl).1
          have Hset : Hid (OwnE (w6.setCell ⟨ga, i.length * 7 + 4, none⟩ (.string (x.text.extract 0 q))) w2.heap.size 31 (.slice (some ⟨ga, 0, none⟩) k ca) (i ++ [{ x with text := x.text.extract 0 q }])) := Lib.hid (by
            have h := HD6.out.fst
            rw [← Hik.out] at h ⊢
            exact h.setText _)
          have Hdx : Hid (DrawnE { x with text := x.text.extract 0 q }) := Lib.hid (by
            have h := HD6.out.ok.2 x (by simp)
            have h2 := Hsz.out
            exact ⟨{ h.1 with text := by simp only; omega }, by simp only; omega⟩)

          go_wp2_with fail
          go_meet
          have h6 := HD6.out
          have hbs : Below w2.heap.size w6 (w6.setCell ⟨ga, i.length * 7 + 4, none⟩ (.string (x.text.extract 0 q))) := (Below.refl _ _).setCell (by have := Hga.out; simp only; omega) _
          have hl : (i ++ [({ x with text := x.text.extract 0 q } : Ev)]).length = k := by rw [← Hik.out]; simp
          refine ⟨i ++ [{ x with text := x.text.extract 0 q }], ga, ca, by rw [hl], Lib.hid ⟨h6.cur.other hbs hgx (by omega), h6.off.trans (hbs.mono (by omega)), ⟨hgw, hgx, Nat.le_trans h6.lo.2.2 hbs.size⟩, h6.snd.keep (.of_below hbs fun b hb => hb.2) fun _ h => h, by rw [hl]; exact Hset.out, ⟨by rw [hl]; omega, fun e he => ?_⟩⟩⟩
          rcases List.mem_append.1 he with he | he
          · exact h6.ok.2 e (by simp [he])
          · obtain rfl : e = { x with text := x.text.extract 0 q } := by simpa using he
            exact Hdx.out
        · have nx := neI hx4
          clear hx4
          go_wp2_with fail
          go_meet
          exact Hsame.out
    · go_wp2_with fail
      refine (l10Right_any B g a len cap _ HD5.out.cur (by omega) (by omega)).mono ?_
      rintro e w6 ⟨⟨K, F, Bt, L, Tx, C, P⟩, hd6, rfl, hc6, ho6⟩
      unfold evV
      have HD6 := Lib.hid (HD5.out.step hc6 ho6)
      have Hd6 := Lib.hid hd6
      have hx6 : w2.heap.size ≤ w6.heap.size := HD6.out.lo.2.2
      clear hc6 ho6 hd6
      have HrN : Hid (w6.ownsRow w2.heap.size 31 7 (.slice (some ⟨ga, 0, none⟩) k ca) k (la.flatMap evC)) := Lib.hid (by have h := HD6.out.fst; unfold OwnE at h; rw [Hl4.out] at h; exact h)
      have Hnew := Lib.hid (heap_alloc_new w6 (.cells #[.int .i64 K, .int .i64 F, .int .u64 Bt, .int .i64 L, .string Tx, .int .i64 C, .int .i64 P] 31))
      go_wp2_with (at_builtin; refine wpList_append_lies _ (by rfl) (.tmp 64) (.tmp 67) 24 (by rfl) w2.heap.size 31 i0 _ 7 64 Try.underlying24 hi hz0 hz1 hz2 (by rfl) (by omega) (.slice (some ⟨ga, 0, none⟩) k ca) k _ (by rfl) (World.ownsRow.alloc HrN.out _) ⟨w6.heap.size, 0, none⟩ 1 1 (evC ⟨K, F, Bt, L, Tx, C, P⟩) (by rfl) (by rfl) (fun j u hj => World.news_of_block Hnew.out j u hj) (by intro u hu; simp [evC] at hu; rcases hu with rfl | rfl | rfl | rfl | rfl | rfl | rfl <;> rfl) (by omega) (by unfold maxLen; omega) (by omega) (by simp; omega) _ rfl ?_; intro g2 cap2 w7 hown7 hg7 hor7 hlt7)
      have Hb7 : Hid (Below w2.heap.size w6 w7) := Lib.hid (((Below.refl _ _).alloc hx6 _).grown hg7 (by simp; omega) (fun q hq => (World.ownsRow.lt HrN.out q hq).1))
      have HO7 : Hid (OwnE w7 w2.heap.size 31 (.slice (some ⟨g2, 0, none⟩) (k + 1) cap2) (la ++ [⟨K, F, Bt, L, Tx, C, P⟩])) := Lib.hid (by unfold OwnE; rw [List.length_append, Hl4.out, flat_snoc]; exact hown7)
      have hs7 : (la ++ [(⟨K, F, Bt, L, Tx, C, P⟩ : Ev)]).length = k + 1 := by rw [List.length_append, Hl4.out]; rfl
      have Hs7 := Lib.hid hs7
      clear hown7 hg7 hor7 hs7
      go_wp2_with fail
      go_meet
      refine ⟨la ++ [⟨K, F, Bt, L, Tx, C, P⟩], g2, cap2, by rw [Hs7.out], Lib.hid ?_⟩
      have h6 := HD6.out
      exact ⟨h6.cur.other Hb7.out hgx (by omega), h6.off.trans (Hb7.out.mono (by omega)), ⟨hgw, hgx, Nat.le_trans hx6 Hb7.out.size⟩, h6.snd.keep (.of_below Hb7.out fun b hb => hb.2) fun _ h => h, by rw [Hs7.out]; exact HO7.out, ⟨by rw [Hs7.out]; omega, (DrawnL.snoc (n := k) (l := la) ⟨by rw [Hl4.out]; omega, h6.ok.2⟩ Hd6.out).2⟩⟩
    · have n0 := neI k0
      have n1 := neI k1
      have n2 := neI k2
      clear k0 k1 k2
      go_wp2_with fail
      go_meet
      exact ⟨la, ga, ca, by rw [Hl4.out], by rw [Hl4.out]; exact HD5⟩
  case rest =>
    obtain ⟨la', ga', ca', rfl, HD⟩ := hcut
    go_wp2_with fail
    go_ret2
    have h := HD.out
    obtain ⟨hgw, hgx, hx5⟩ := h.lo
    exact ⟨la', lb, ga', ca', gb, cb, h.ok, Hd.out, rfl, h.fst.evsAll, h.snd.wide fun b hb => Nat.lt_of_lt_of_le hb.2 hx5, RowAt.cap h.fst.evsAt, h.off⟩
end Go.Proofs.Yteplmjlllnbiiaa.Num
