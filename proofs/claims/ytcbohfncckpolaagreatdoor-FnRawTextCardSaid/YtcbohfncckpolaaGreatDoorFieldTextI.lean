/-
  The walks of the program's hasText and FieldText: the text of a field that has one, else the empty string; only new memory is written.
-/
import Derived.Test.YtcbohfncckpolaaGreatDoorFieldTextS
import Derived.Test.YtcbohfncckpolaaGreatDoorWords
import Derived.Test.YtcbohfncckpolaaGreatDoorTag
import Derived.Test.YtcbohfncckpolaaGreatDoorSmallI
import Derived.Test.YtcbohfncckpolaaGreatDoorKindMap
import Derived.Test.YtcbohfncckpolaaGreatDoorDigits
namespace Go.Proofs.YtcbohfncckpolaaGreatDoor.Num
open Go.RowKit Go.Proofs
set_option linter.unusedVariables false
set_option linter.unusedSimpArgs false

def refText (k x : Int) : Prop := (k = 8 → 1 ≤ x ∧ x ≤ 99) ∧ (k ≠ 8 → x = 0)
theorem refHas_yes (f : RF) (w : World) (h : refText f.2.1 f.2.2.2.2) :
    Calls Tryz.prog 82 #[fieldV f] w fun e w' => e = .returned (.bool true) ∧ Below w.heap.size w w' := by
  obtain ⟨n, k, a, p, x⟩ := f
  unfold fieldV
  simp only at h ⊢
  have hb : Below w.heap.size w (w.alloc (.cells #[.int .i64 n, .int .i64 k, .bool a, .bool p, .int .i64 x] 58)) := (Below.refl _ _).alloc (Nat.le_refl _) _
  by_cases h8 : k = 8
  · obtain ⟨h1, h2⟩ := h.1 h8
    subst h8
    clear h
    go_enter Tryz.func82, Tryz.ntmps82
    go_wp2_with fail
    go_ret
    exact ⟨rfl, hb⟩
  · obtain rfl := h.2 h8
    have b8 : (k == 8) = false := eqF h8
    clear h h8
    go_enter Tryz.func82, Tryz.ntmps82
    go_wp2_with fail
    go_ret
    exact ⟨rfl, hb⟩
theorem refHas_no (f : RF) (w : World) (h : ¬ refText f.2.1 f.2.2.2.2) :
    Calls Tryz.prog 82 #[fieldV f] w fun e w' => e = .returned (.bool false) ∧ Below w.heap.size w w' := by
  obtain ⟨n, k, a, p, x⟩ := f
  unfold fieldV
  simp only at h ⊢
  have hb : Below w.heap.size w (w.alloc (.cells #[.int .i64 n, .int .i64 k, .bool a, .bool p, .int .i64 x] 58)) := (Below.refl _ _).alloc (Nat.le_refl _) _
  by_cases h8 : k = 8
  · have hx : ¬ (1 ≤ x ∧ x ≤ 99) := fun e => h ⟨fun _ => e, fun e' => absurd h8 e'⟩
    subst h8
    clear h
    by_cases h1 : 1 ≤ x
    · have h2 : ¬ x ≤ 99 := by omega
      clear hx
      go_enter Tryz.func82, Tryz.ntmps82
      go_wp2_with fail
      go_ret
      exact ⟨rfl, hb⟩
    · clear hx
      go_enter Tryz.func82, Tryz.ntmps82
      go_wp2_with fail
      go_ret
      exact ⟨rfl, hb⟩
  · have hx : x ≠ 0 := fun e => h ⟨fun e' => absurd e' h8, fun _ => e⟩
    have b8 : (k == 8) = false := eqF h8
    have b0 : (x == 0) = false := eqF hx
    clear h h8 hx
    go_enter Tryz.func82, Tryz.ntmps82
    go_wp2_with fail
    go_ret
    exact ⟨rfl, hb⟩
theorem implHasText_any (f : RF) (w : World) :
    Calls Tryz.prog 63 #[fieldV f] w fun e w' => e = .returned (.bool (decide (hasText f))) ∧ Below w.heap.size w w' := by
  have hS : hasText f ↔ Fits f.1 ∧ (1 ≤ f.2.1 ∧ f.2.1 ≤ 8) ∧ refText f.2.1 f.2.2.2.2 := Iff.rfl
  have HRy := Lib.hid (refHas_yes f)
  have HRn := Lib.hid (refHas_no f)
  obtain ⟨n, k, a, p, x⟩ := f
  unfold fieldV at HRy HRn ⊢
  simp only at HRy HRn hS ⊢
  have hb : Below w.heap.size w (w.alloc (.cells #[.int .i64 n, .int .i64 k, .bool a, .bool p, .int .i64 x] 58)) := (Below.refl _ _).alloc (Nat.le_refl _) _
  by_cases h1 : Fits n
  · have H1 := Lib.hid h1
    by_cases h2 : 1 ≤ k ∧ k ≤ 8
    · have H2 := Lib.hid h2
      by_cases h3 : refText k x
      · rw [decide_eq_true (hS.2 ⟨h1, h2, h3⟩)]
        have H3 := Lib.hid h3
        clear h1 h2 h3 hS
        go_enter Tryz.func63, Tryz.ntmps63
        go_wp2_with fail
        refine (implFits_yes _ _ H1.out).mono ?_
        rintro e w1 ⟨rfl, rfl⟩
        go_wp2_with fail
        refine (kindOk_yes _ _ H2.out).mono ?_
        rintro e w1 ⟨rfl, rfl⟩
        go_wp2_with fail
        refine (HRy.out _ H3.out).mono ?_
        rintro e w2 ⟨rfl, hb2⟩
        have hl2 := hb.trans (hb2.mono (by simp))
        clear hb2
        go_wp2_with fail
        go_ret
        exact ⟨rfl, hl2⟩
      · rw [decide_eq_false fun h => h3 (hS.1 h).2.2]
        have H3 := Lib.hid h3
        clear h1 h2 h3 hS
        go_enter Tryz.func63, Tryz.ntmps63
        go_wp2_with fail
        refine (implFits_yes _ _ H1.out).mono ?_
        rintro e w1 ⟨rfl, rfl⟩
        go_wp2_with fail
        refine (kindOk_yes _ _ H2.out).mono ?_
        rintro e w1 ⟨rfl, rfl⟩
        go_wp2_with fail
        refine (HRn.out _ H3.out).mono ?_
        rintro e w2 ⟨rfl, hb2⟩
        have hl2 := hb.trans (hb2.mono (by simp))
        clear hb2
        go_wp2_with fail
        go_ret
        exact ⟨rfl, hl2⟩
    · rw [decide_eq_false fun h => h2 (hS.1 h).2.1]
      have H2 := Lib.hid h2
      clear h1 h2 hS
      go_enter Tryz.func63, Tryz.ntmps63
      go_wp2_with fail
      refine (implFits_yes _ _ H1.out).mono ?_
      rintro e w1 ⟨rfl, rfl⟩
      go_wp2_with fail
      refine (kindOk_no _ _ H2.out).mono ?_
      rintro e w1 ⟨rfl, rfl⟩
      go_wp2_with fail
      go_ret
      exact ⟨rfl, hb⟩
  · rw [decide_eq_false fun h => h1 (hS.1 h).1]
    have H1 := Lib.hid h1
    clear h1 hS
    go_enter Tryz.func63, Tryz.ntmps63
    go_wp2_with fail
    refine (implFits_no _ _ H1.out).mono ?_
    rintro e w1 ⟨rfl, rfl⟩
    go_wp2_with fail
    go_ret
    exact ⟨rfl, hb⟩
theorem implFieldText_no (f : RF) (w : World) (h : ¬ hasText f) :
    Calls Tryz.prog 39 #[fieldV f] w fun e w' => e = .returned (.string ⟨(textF f).toArray⟩) ∧ Below w.heap.size w w' := by
  rw [textF_no h]
  have HC := implHasText_any f
  rw [decide_eq_false h] at HC
  have HC := Lib.hid HC
  clear h
  obtain ⟨n, k, a, p, x⟩ := f
  unfold fieldV at HC ⊢
  simp only at HC ⊢
  have hb : Below w.heap.size w (w.alloc (.cells #[.int .i64 n, .int .i64 k, .bool a, .bool p, .int .i64 x] 58)) := (Below.refl _ _).alloc (Nat.le_refl _) _
  go_enter Tryz.func39, Tryz.ntmps39
  go_wp2_with fail
  refine (HC.out _).mono ?_
  rintro e w2 ⟨rfl, hb2⟩
  have hl2 := hb.trans (hb2.mono (by simp))
  clear hb2
  go_wp2_with fail
  go_ret
  exact ⟨rfl, hl2⟩
/-- The words of a field's text, as strings. -/
def bs (l : List UInt8) : ByteArray := ⟨l.toArray⟩
theorem bs_data (l : List UInt8) : (bs l).data.toList = l := by simp [bs]
theorem bs_map (ls : List (List UInt8)) : (ls.map bs).map (·.data.toList) = ls := by
  rw [List.map_map]
  exact (List.map_congr_left fun l _ => bs_data l).trans (List.map_id _)
theorem textF_words' {f : RF} (h : hasText f) : textF f = joinF 32 (bs (dec f.1.toNat)).data.toList (((moreW f).map bs).map (·.data.toList)) := by
  rw [bs_map, bs_data]; unfold textF; rw [if_pos h]
set_option maxHeartbeats 2000000 in
set_option maxRecDepth 100000 in
theorem implFieldText_yes (f : RF) (w : World) (h : hasText f) (hT : Go.Lib.TabIs Tryz.prog w "internal/strconv.uint64pow10" .u64 Go.Lib.pow10Tab) :
    Calls Tryz.prog 39 #[fieldV f] w fun e w' => e = .returned (.string ⟨(textF f).toArray⟩) ∧ Below w.heap.size w w' := by
  have HJ : Hid (∀ (wx : World) (v : Value), wx.ownsRow (w.heap.size + 1) 9 1 v (bs (dec f.1.toNat) :: (moreW f).map bs).length ((bs (dec f.1.toNat) :: (moreW f).map bs).map Value.string) → Calls Tryz.prog 20 #[v, .string ⟨#[32]⟩] wx fun e w' => e = .returned (.string ⟨(textF f).toArray⟩) ∧ Below wx.heap.size wx w') := Lib.hid fun wx v hw => by
    rw [textF_words' h]
    refine joinRow_any 32 hw ?_ ?_
    · rw [← textF_words' h]
      rw [textF_sum h]
      have := text_lens h
      unfold text4
      split
      · simp [packW]; omega
      · omega
    · unfold moreW
      obtain ⟨n, k, a, p, x⟩ := f
      simp only
      by_cases h8 : k = 8 <;> cases a <;> cases p <;> simp [h8]
  have HC := implHasText_any f
  rw [decide_eq_true h] at HC
  have HC := Lib.hid HC
  obtain ⟨n, k, a, p, x⟩ := f
  obtain ⟨h1, h2, h3, h4⟩ := h
  unfold moreW at HJ
  simp only at h1 h2 h3 h4 HJ
  unfold fieldV at HC ⊢
  simp only at HC ⊢
  generalize textF (n, k, a, p, x) = T at HJ ⊢
  have HT : Hid (∀ wx, Below w.heap.size w wx → Go.Lib.TabIs Tryz.prog wx "internal/strconv.uint64pow10" .u64 Go.Lib.pow10Tab) := Lib.hid fun wx hb => tabIs_below hT hb
  have D1 : Hid (∀ wx : World, Below w.heap.size w wx → Calls Tryz.prog 40 #[.int .i64 n] wx fun e w' => e = .returned (.string (bs (dec n.toNat))) ∧ Below wx.heap.size wx w') := Lib.hid fun wx hb => by
    have := implDigits_any n wx (by omega) (by omega) (HT.out _ hb)
    rw [show n = (n.toNat : Int) by omega, intDec_nat] at this
    rwa [show n = (n.toNat : Int) by omega]
  have D2 : Hid (k = 8 → ∀ wx : World, Below w.heap.size w wx → Calls Tryz.prog 40 #[.int .i64 x] wx fun e w' => e = .returned (.string (bs (dec x.toNat))) ∧ Below wx.heap.size wx w') := Lib.hid fun e wx hb => by
    have h3 := h3 e
    have := implDigits_any x wx (by omega) (by omega) (HT.out _ hb)
    rw [show x = (x.toNat : Int) by omega, intDec_nat] at this
    rwa [show x = (x.toNat : Int) by omega]
  have DK : Hid (∀ w : World, Calls Tryz.prog 64 #[.int .i64 k] w fun e w' => e = .returned (.string (bs (wordL k))) ∧ Below w.heap.size w w') := Lib.hid fun w => implKindWord_any k w
  obtain ⟨sn, esn⟩ : ∃ s, bs (dec n.toNat) = s := ⟨_, rfl⟩
  obtain ⟨sk, esk⟩ : ∃ s, bs (wordL k) = s := ⟨_, rfl⟩
  have HJ2 : Hid ((k = 8 → ∀ (wx : World) (v : Value) (ws : List ByteArray), wx.ownsRow (w.heap.size + 1) 9 1 v ws.length (ws.map Value.string) → ws = [sn, sk] ++ [bs (dec x.toNat)] ++ (if a = true then [bs repW] else []) ++ (if p = true then [bs packW] else []) → Calls Tryz.prog 20 #[v, .string ⟨#[32]⟩] wx fun e w' => e = .returned (.string ⟨T.toArray⟩) ∧ Below wx.heap.size wx w') ∧
      (k ≠ 8 → ∀ (wx : World) (v : Value) (ws : List ByteArray), wx.ownsRow (w.heap.size + 1) 9 1 v ws.length (ws.map Value.string) → ws = [sn, sk] ++ (if a = true then [bs repW] else []) ++ (if p = true then [bs packW] else []) → Calls Tryz.prog 20 #[v, .string ⟨#[32]⟩] wx fun e w' => e = .returned (.string ⟨T.toArray⟩) ∧ Below wx.heap.size wx w')) := Lib.hid (by
    rw [← esn, ← esk]
    refine ⟨fun e wx v ws hw he => HJ.out wx v ?_, fun e wx v ws hw he => HJ.out wx v ?_⟩
    · subst he
      rw [if_pos e]
      cases a <;> cases p <;> simpa using hw
    · subst he
      rw [if_neg e]
      cases a <;> cases p <;> simpa using hw)
  rw [esn] at D1
  rw [esk] at DK
  have hb : Below w.heap.size w (w.alloc (.cells #[.int .i64 n, .int .i64 k, .bool a, .bool p, .int .i64 x] 58)) := (Below.refl _ _).alloc (Nat.le_refl _) _
  have hx := Box.fresh w #[.int .i64 n, .int .i64 k, .bool a, .bool p, .int .i64 x] 58
  have hz : w.heap.size + 1 ≤ (w.alloc (.cells #[.int .i64 n, .int .i64 k, .bool a, .bool p, .int .i64 x] 58)).heap.size := by simp
  clear h1 h2 h3 h4 esn esk HJ HT hT
  go_enter Tryz.func39, Tryz.ntmps39
  go_wp2_with fail
  generalize w.alloc (.cells #[.int .i64 n, .int .i64 k, .bool a, .bool p, .int .i64 x] 58) = w1 at hb hx hz ⊢
  refine (HC.out _).mono ?_
  rintro e w2 ⟨rfl, hb2⟩
  have hl2 := hb.trans (hb2.mono hb.size)
  have Hx := Lib.hid (hx.below hb2 hx.lt)
  have hz2 : w.heap.size + 1 ≤ w2.heap.size := Nat.le_trans hz hb2.size
  clear hb hx hz hb2
  obtain ⟨c0, c1, c2, c3, c4⟩ := Box.five' Hx.out
  go_upto_region 3 with fail
  go_cut [3] (fun s3 wx => Hid (Words w wx [.int .i64 n, .int .i64 k, .bool a, .bool p, .int .i64 x] s3 [sn, sk]))
  case first =>
    have hz0 := Hx.out.lt
    go_region_with (first
      | (go_at_call 40; refine (D1.out _ hl2.drew).mono ?_; rintro e w4 ⟨rfl, hb4⟩; have hx4 := Hx.out.drew.below hb4 hz0; obtain ⟨d0, d1, d2, d3, d4⟩ := Box.five' hx4; have hl4 := hl2.drew.trans (hb4.mono hl2.size); have hz4 : w.heap.size + 1 ≤ w4.heap.size := Nat.le_trans hz2 hb4.size)
      | (go_at_call 64; refine (DK.out _).mono ?_; rintro e w5 ⟨rfl, hb5⟩; have hx5 := hx4.below hb5 hx4.lt; have hl5 := hl4.trans (hb5.mono hl4.size); have hz5 : w.heap.size + 1 ≤ w5.heap.size := Nat.le_trans hz4 hb5.size))
    all_goals
      have hW := Lib.hid (Words.two (a := sn) (b := sk) hx5 hl5 hz5)
      clear hx4 hx5 hb4 hb5 hl4 hl5 d0 d1 d2 d3 d4 c0 c1 c2 c3 c4 hz4 hz5
      go_wp2_with fail
      go_meet
      exact hW
  case rest =>
    have hW := hcut
    clear hcut Hx c0 c1 c2 c3 c4 hl2 hz2
    obtain ⟨c0, c1, c2, c3, c4⟩ := Box.five' hW.out.1
    by_cases h8 : k = 8
    · subst h8
      have D2x := D2.out rfl
      have HJx := Lib.hid (HJ2.out.1 rfl)
      clear D2 HJ2
      go_wp2_with fail
      refine (D2x _ hW.out.2.1).mono ?_
      rintro e w4 ⟨rfl, hb4⟩
      have hW4 := Lib.hid (hW.out.all hb4)
      clear hW hb4
      have hW := hW4
      clear hW4
      obtain ⟨c0, c1, c2, c3, c4⟩ := Box.five' hW.out.1
      cases a with
      | true =>
        cases p with
        | true =>
          go_wp2_with (at_builtin; refine wpList_word rfl _ _ rfl hW.out rfl _ rfl (by simp) ?_; intro v' w' hW'; obtain ⟨c0, c1, c2, c3, c4⟩ := Box.five' hW'.1; have hW := Lib.hid hW'; clear hW')
          refine (HJx.out _ _ _ hW.out.2.2.2 (by simp [bs, repW, packW])).mono ?_
          rintro e w6 ⟨rfl, hb6⟩
          have hl6 := hW.out.2.1.trans (hb6.mono hW.out.2.1.size)
          clear hb6
          go_wp2_with fail
          go_ret
          exact ⟨rfl, hl6⟩
        | false =>
          go_wp2_with (at_builtin; refine wpList_word rfl _ _ rfl hW.out rfl _ rfl (by simp) ?_; intro v' w' hW'; obtain ⟨c0, c1, c2, c3, c4⟩ := Box.five' hW'.1; have hW := Lib.hid hW'; clear hW')
          refine (HJx.out _ _ _ hW.out.2.2.2 (by simp [bs, repW, packW])).mono ?_
          rintro e w6 ⟨rfl, hb6⟩
          have hl6 := hW.out.2.1.trans (hb6.mono hW.out.2.1.size)
          clear hb6
          go_wp2_with fail
          go_ret
          exact ⟨rfl, hl6⟩
      | false =>
        cases p with
        | true =>
          go_wp2_with (at_builtin; refine wpList_word rfl _ _ rfl hW.out rfl _ rfl (by simp) ?_; intro v' w' hW'; obtain ⟨c0, c1, c2, c3, c4⟩ := Box.five' hW'.1; have hW := Lib.hid hW'; clear hW')
          refine (HJx.out _ _ _ hW.out.2.2.2 (by simp [bs, repW, packW])).mono ?_
          rintro e w6 ⟨rfl, hb6⟩
          have hl6 := hW.out.2.1.trans (hb6.mono hW.out.2.1.size)
          clear hb6
          go_wp2_with fail
          go_ret
          exact ⟨rfl, hl6⟩
        | false =>
          go_wp2_with (at_builtin; refine wpList_word rfl _ _ rfl hW.out rfl _ rfl (by simp) ?_; intro v' w' hW'; obtain ⟨c0, c1, c2, c3, c4⟩ := Box.five' hW'.1; have hW := Lib.hid hW'; clear hW')
          refine (HJx.out _ _ _ hW.out.2.2.2 (by simp [bs, repW, packW])).mono ?_
          rintro e w6 ⟨rfl, hb6⟩
          have hl6 := hW.out.2.1.trans (hb6.mono hW.out.2.1.size)
          clear hb6
          go_wp2_with fail
          go_ret
          exact ⟨rfl, hl6⟩
    · have b8 : (k == 8) = false := eqF h8
      have HJx := Lib.hid (HJ2.out.2 h8)
      clear D2 HJ2 h8
      cases a with
      | true =>
        cases p with
        | true =>
          go_wp2_with (at_builtin; refine wpList_word rfl _ _ rfl hW.out rfl _ rfl (by simp) ?_; intro v' w' hW'; obtain ⟨c0, c1, c2, c3, c4⟩ := Box.five' hW'.1; have hW := Lib.hid hW'; clear hW')
          refine (HJx.out _ _ _ hW.out.2.2.2 (by simp [bs, repW, packW])).mono ?_
          rintro e w6 ⟨rfl, hb6⟩
          have hl6 := hW.out.2.1.trans (hb6.mono hW.out.2.1.size)
          clear hb6
          go_wp2_with fail
          go_ret
          exact ⟨rfl, hl6⟩
        | false =>
          go_wp2_with (at_builtin; refine wpList_word rfl _ _ rfl hW.out rfl _ rfl (by simp) ?_; intro v' w' hW'; obtain ⟨c0, c1, c2, c3, c4⟩ := Box.five' hW'.1; have hW := Lib.hid hW'; clear hW')
          refine (HJx.out _ _ _ hW.out.2.2.2 (by simp [bs, repW, packW])).mono ?_
          rintro e w6 ⟨rfl, hb6⟩
          have hl6 := hW.out.2.1.trans (hb6.mono hW.out.2.1.size)
          clear hb6
          go_wp2_with fail
          go_ret
          exact ⟨rfl, hl6⟩
      | false =>
        cases p with
        | true =>
          go_wp2_with (at_builtin; refine wpList_word rfl _ _ rfl hW.out rfl _ rfl (by simp) ?_; intro v' w' hW'; obtain ⟨c0, c1, c2, c3, c4⟩ := Box.five' hW'.1; have hW := Lib.hid hW'; clear hW')
          refine (HJx.out _ _ _ hW.out.2.2.2 (by simp [bs, repW, packW])).mono ?_
          rintro e w6 ⟨rfl, hb6⟩
          have hl6 := hW.out.2.1.trans (hb6.mono hW.out.2.1.size)
          clear hb6
          go_wp2_with fail
          go_ret
          exact ⟨rfl, hl6⟩
        | false =>
          go_wp2_with (at_builtin; refine wpList_word rfl _ _ rfl hW.out rfl _ rfl (by simp) ?_; intro v' w' hW'; obtain ⟨c0, c1, c2, c3, c4⟩ := Box.five' hW'.1; have hW := Lib.hid hW'; clear hW')
          refine (HJx.out _ _ _ hW.out.2.2.2 (by simp [bs, repW, packW])).mono ?_
          rintro e w6 ⟨rfl, hb6⟩
          have hl6 := hW.out.2.1.trans (hb6.mono hW.out.2.1.size)
          clear hb6
          go_wp2_with fail
          go_ret
          exact ⟨rfl, hl6⟩
theorem implFieldText_any (f : RF) (w : World) (hT : Go.Lib.TabIs Tryz.prog w "internal/strconv.uint64pow10" .u64 Go.Lib.pow10Tab) :
    Calls Tryz.prog 39 #[fieldV f] w fun e w' => e = .returned (.string ⟨(textF f).toArray⟩) ∧ Below w.heap.size w w' := by
  by_cases h : hasText f
  · exact implFieldText_yes f w h hT
  · exact implFieldText_no f w h
theorem specFieldText_any (f : RF) (w : World) :
    Calls Tryz.prog 52 #[fieldV f] w fun e w' => e = .returned (.string ⟨(textF f).toArray⟩) ∧ Below w.heap.size w w' := by
  by_cases h : hasText f
  · exact specFieldText_yes f w h
  · exact specFieldText_no f w h
end Go.Proofs.YtcbohfncckpolaaGreatDoor.Num
