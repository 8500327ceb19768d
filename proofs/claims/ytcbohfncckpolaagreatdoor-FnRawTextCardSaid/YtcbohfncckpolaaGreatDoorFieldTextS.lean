/-
  The walk of the reference's FieldText: the text of a field that has one, else the empty string; only new memory is written.
-/
import Derived.Test.YtcbohfncckpolaaGreatDoorI64
import Derived.Test.YtcbohfncckpolaaGreatDoorRawBase
import Derived.Test.YtcbohfncckpolaaGreatDoorTextMath
import Derived.Deep.RegionWith
import Derived.Deep.DeepCutAuto
namespace Go.Proofs.YtcbohfncckpolaaGreatDoor.Num
open Go.RowKit Go.Proofs
set_option linter.unusedVariables false
set_option linter.unusedSimpArgs false

theorem Box.five' {w : World} {g : Nat} {a b c d e : Value} (h : Box w g [a, b, c, d, e]) : w.cell? ⟨g, 0, none⟩ = some a ∧ w.cell? ⟨g, 1, none⟩ = some b ∧ w.cell? ⟨g, 2, none⟩ = some c ∧ w.cell? ⟨g, 3, none⟩ = some d ∧ w.cell? ⟨g, 4, none⟩ = some e :=
  ⟨(h.2 0 (by simp)).1, (h.2 1 (by simp)).1, (h.2 2 (by simp)).1, (h.2 3 (by simp)).1, (h.2 4 (by simp)).1⟩
theorem textF_no {f : RF} (h : ¬ hasText f) : textF f = [] := by unfold textF; rw [if_neg h]
/-- The text in the order in which it is put together. -/
def text1 (f : RF) : List UInt8 := dec f.1.toNat ++ [32] ++ wordL f.2.1
def text2 (f : RF) : List UInt8 := if f.2.1 = 8 then text1 f ++ [32] ++ dec f.2.2.2.2.toNat else text1 f
def text3 (f : RF) : List UInt8 := if f.2.2.1 = true then text2 f ++ (32 :: repW) else text2 f
def text4 (f : RF) : List UInt8 := if f.2.2.2.1 = true then text3 f ++ (32 :: packW) else text3 f
theorem textF_sum {f : RF} (h : hasText f) : textF f = text4 f := by
  obtain ⟨n, k, a, p, x⟩ := f
  unfold textF text4 text3 text2 text1 joinF moreW
  rw [if_pos h]
  simp only
  by_cases h8 : k = 8 <;> cases a <;> cases p <;> simp [h8]
theorem text_lens {f : RF} (h : hasText f) : (dec f.1.toNat).length ≤ 20 ∧ (wordL f.2.1).length ≤ 20 ∧ (text1 f).length ≤ 60 ∧ (text2 f).length ≤ 90 ∧ (text3 f).length ≤ 100 := by
  have h1 : (dec f.1.toNat).length ≤ 20 := dec_len64 (by have := h.1; omega)
  have h2 : (wordL f.2.1).length ≤ 20 := by rcases wordL_cases h.2.1 with ⟨_, e⟩ | ⟨_, e⟩ | ⟨_, e⟩ | ⟨_, e⟩ | ⟨_, e⟩ | ⟨_, e⟩ | ⟨_, e⟩ | ⟨_, e⟩ <;> rw [e] <;> decide
  have h3 : (text1 f).length ≤ 60 := by unfold text1; simp; omega
  have h4 : (text2 f).length ≤ 90 := by
    unfold text2
    split
    · have h5 : (dec f.2.2.2.2.toNat).length ≤ 20 := dec_len64 (by have := h.2.2.1 ‹_›; omega)
      simp; omega
    · omega
  refine ⟨h1, h2, h3, h4, ?_⟩
  unfold text3
  split
  · simp [repW]; omega
  · omega
set_option maxHeartbeats 1000000 in
theorem specFieldText_no (f : RF) (w : World) (h : ¬ hasText f) :
    Calls Tryz.prog 52 #[fieldV f] w fun e w' => e = .returned (.string ⟨(textF f).toArray⟩) ∧ Below w.heap.size w w' := by
  rw [textF_no h]
  obtain ⟨n, k, a, p, x⟩ := f
  unfold fieldV
  simp only
  have hb : Below w.heap.size w (w.alloc (.cells #[.int .i64 n, .int .i64 k, .bool a, .bool p, .int .i64 x] 58)) := (Below.refl _ _).alloc (Nat.le_refl _) _
  have hx := Box.fresh w #[.int .i64 n, .int .i64 k, .bool a, .bool p, .int .i64 x] 58
  by_cases h1 : 1 ≤ n ∧ n ≤ 536870911
  · have H1 := Lib.hid h1
    by_cases h2 : 1 ≤ k ∧ k ≤ 8
    · have H2 := Lib.hid h2
      by_cases h8 : k = 8
      · subst h8
        have h3 : ¬ (1 ≤ x ∧ x ≤ 99) := fun h3 => h ⟨h1, h2, fun _ => h3, fun e => absurd rfl e⟩
        have H3 := Lib.hid h3
        clear h1 h2 h3 h
        go_enter Tryz.func52, Tryz.ntmps52
        go_wp2_with fail
        refine (sIn_yes _ _ _ _ H1.out).mono ?_
        rintro e w1 ⟨rfl, rfl⟩
        go_wp2_with fail
        refine (specKind_yes _ _ H2.out).mono ?_
        rintro e w1 ⟨rfl, rfl⟩
        go_wp2_with fail
        refine (sIn_no _ _ _ _ H3.out).mono ?_
        rintro e w1 ⟨rfl, rfl⟩
        go_wp2_with fail
        go_ret
        exact ⟨rfl, hb⟩
      · have h3 : x ≠ 0 := fun e => h ⟨h1, h2, fun e => absurd e h8, fun _ => e⟩
        have b8 : (k == 8) = false := eqF h8
        have b8' : (k != 8) = true := by simp [bne, b8]
        have b0 : (x != 0) = true := by simp [bne, eqF h3]
        clear h1 h2 h3 h8 h
        go_enter Tryz.func52, Tryz.ntmps52
        go_wp2_with fail
        refine (sIn_yes _ _ _ _ H1.out).mono ?_
        rintro e w1 ⟨rfl, rfl⟩
        go_wp2_with fail
        refine (specKind_yes _ _ H2.out).mono ?_
        rintro e w1 ⟨rfl, rfl⟩
        go_wp2_with fail
        go_ret
        exact ⟨rfl, hb⟩
    · have H2 := Lib.hid h2
      clear h1 h2 h
      go_enter Tryz.func52, Tryz.ntmps52
      go_wp2_with fail
      refine (sIn_yes _ _ _ _ H1.out).mono ?_
      rintro e w1 ⟨rfl, rfl⟩
      go_wp2_with fail
      refine (specKind_no _ _ H2.out).mono ?_
      rintro e w1 ⟨rfl, rfl⟩
      go_wp2_with fail
      go_ret
      exact ⟨rfl, hb⟩
  · have H1 := Lib.hid h1
    clear h1 h
    go_enter Tryz.func52, Tryz.ntmps52
    go_wp2_with fail
    refine (sIn_no _ _ _ _ H1.out).mono ?_
    rintro e w1 ⟨rfl, rfl⟩
    go_wp2_with fail
    go_ret
    exact ⟨rfl, hb⟩
set_option maxHeartbeats 2000000 in
set_option maxRecDepth 100000 in
theorem specFieldText_yes (f : RF) (w : World) (h : hasText f) :
    Calls Tryz.prog 52 #[fieldV f] w fun e w' => e = .returned (.string ⟨(textF f).toArray⟩) ∧ Below w.heap.size w w' := by
  rw [textF_sum h]
  obtain ⟨hl1, hl2, hl3, hl4, hl5⟩ := text_lens h
  obtain ⟨n, k, a, p, x⟩ := f
  have h := h
  obtain ⟨h1, h2, h3, h4⟩ := h
  simp only at h1 h2 h3 h4
  have D1 : Hid (∀ w : World, Calls Tryz.prog 51 #[.int .i64 n] w fun e w' => e = .returned (.string ⟨(dec n.toNat).toArray⟩) ∧ Below w.heap.size w w') := Lib.hid fun w => by
    have := specDigits_any n w (by omega) (by omega)
    rw [show n = (n.toNat : Int) by omega, intDec_nat] at this
    rwa [show n = (n.toNat : Int) by omega]
  have D2 : Hid (k = 8 → ∀ w : World, Calls Tryz.prog 51 #[.int .i64 x] w fun e w' => e = .returned (.string ⟨(dec x.toNat).toArray⟩) ∧ Below w.heap.size w w') := Lib.hid fun e w => by
    have h3 := h3 e
    have := specDigits_any x w (by omega) (by omega)
    rw [show x = (x.toNat : Int) by omega, intDec_nat] at this
    rwa [show x = (x.toNat : Int) by omega]
  have DK : Hid (∀ w : World, Calls Tryz.prog 54 #[.int .i64 k] w fun e w' => e = .returned (.string ⟨(wordL k).toArray⟩) ∧ Below w.heap.size w w') := Lib.hid fun w => specKindWord_any k w
  have hlx : Hid (k = 8 → (dec x.toNat).length ≤ 20) := Lib.hid fun e => dec_len64 (by have := h3 e; omega)
  unfold fieldV
  simp only at hl1 hl2 hl3 hl4 hl5 ⊢
  obtain ⟨T1, eT1⟩ : ∃ t, text1 (n, k, a, p, x) = t := ⟨_, rfl⟩
  obtain ⟨T2, eT2⟩ : ∃ t, text2 (n, k, a, p, x) = t := ⟨_, rfl⟩
  obtain ⟨T3, eT3⟩ : ∃ t, text3 (n, k, a, p, x) = t := ⟨_, rfl⟩
  obtain ⟨T4, eT4⟩ : ∃ t, text4 (n, k, a, p, x) = t := ⟨_, rfl⟩
  have E1 : Hid (dec n.toNat ++ [32] ++ wordL k = T1) := Lib.hid (by rw [← eT1]; rfl)
  have E2 : Hid ((k = 8 → T1 ++ [32] ++ dec x.toNat = T2) ∧ (k ≠ 8 → T1 = T2)) := Lib.hid (by rw [← eT1, ← eT2]; unfold text2; simp only; exact ⟨fun e => by rw [if_pos e], fun e => by rw [if_neg e]⟩)
  have E3 : Hid ((a = true → T2 ++ (32 :: repW) = T3) ∧ (a = false → T2 = T3)) := Lib.hid (by rw [← eT2, ← eT3]; unfold text3; simp only; exact ⟨fun e => by rw [if_pos e], fun e => by rw [if_neg (by simp [e])]⟩)
  have E4 : Hid ((p = true → T3 ++ (32 :: packW) = T4) ∧ (p = false → T3 = T4)) := Lib.hid (by rw [← eT3, ← eT4]; unfold text4; simp only; exact ⟨fun e => by rw [if_pos e], fun e => by rw [if_neg (by simp [e])]⟩)
  rw [eT1] at hl3
  rw [eT2] at hl4
  rw [eT3] at hl5
  rw [eT4]
  have H1 := Lib.hid h1
  have H2 := Lib.hid h2
  have H3 := Lib.hid h3
  have H4 := Lib.hid h4
  obtain ⟨sn, esn⟩ : ∃ s : ByteArray, s = ⟨(dec n.toNat).toArray⟩ := ⟨_, rfl⟩
  obtain ⟨sk, esk⟩ : ∃ s : ByteArray, s = ⟨(wordL k).toArray⟩ := ⟨_, rfl⟩
  obtain ⟨p1, ep1⟩ : ∃ s : ByteArray, s = ⟨(dec n.toNat ++ [32]).toArray⟩ := ⟨_, rfl⟩
  obtain ⟨t1, et1⟩ : ∃ s : ByteArray, s = ⟨T1.toArray⟩ := ⟨_, rfl⟩
  obtain ⟨t2, et2⟩ : ∃ s : ByteArray, s = ⟨T2.toArray⟩ := ⟨_, rfl⟩
  obtain ⟨t3, et3⟩ : ∃ s : ByteArray, s = ⟨T3.toArray⟩ := ⟨_, rfl⟩
  obtain ⟨t4, et4⟩ : ∃ s : ByteArray, s = ⟨T4.toArray⟩ := ⟨_, rfl⟩
  have a1 := sum_run (a := dec n.toNat) (b := [32]) (A := sn) (B := ⟨#[32]⟩) (C := p1) esn rfl ep1 (by simp; omega)
  have a2 := sum_run (a := dec n.toNat ++ [32]) (b := wordL k) (A := p1) (B := sk) (C := t1) ep1 esk (by rw [E1.out]; exact et1) (by simp; omega)
  have HS : Hid ((k = 8 → ∃ (sx q1 : ByteArray), sx = ⟨(dec x.toNat).toArray⟩ ∧ (∀ w, (Op.stringOp .add t1 ⟨#[32]⟩).run Tryz.prog w = .ok (.string q1) w) ∧ (∀ w, (Op.stringOp .add q1 sx).run Tryz.prog w = .ok (.string t2) w)) ∧ (k ≠ 8 → t1 = t2)
      ∧ (a = true → ∀ w, (Op.stringOp .add t2 ⟨#[32, 114, 101, 112, 101, 97, 116, 101, 100]⟩).run Tryz.prog w = .ok (.string t3) w) ∧ (a = false → t2 = t3)
      ∧ (p = true → ∀ w, (Op.stringOp .add t3 ⟨#[32, 112, 97, 99, 107, 101, 100]⟩).run Tryz.prog w = .ok (.string t4) w) ∧ (p = false → t3 = t4)) := Lib.hid (by
    refine ⟨fun e => ⟨_, ⟨(T1 ++ [32]).toArray⟩, rfl, sum_run (a := T1) (b := [32]) et1 rfl rfl (by simp; omega), sum_run (a := T1 ++ [32]) (b := dec x.toNat) rfl rfl (by rw [E2.out.1 e]; exact et2) (by have := hlx.out e; simp; omega)⟩,
      fun e => by rw [et1, et2, E2.out.2 e], fun e => sum_run (a := T2) (b := 32 :: repW) et2 rfl (by rw [E3.out.1 e]; exact et3) (by simp [repW]; omega), fun e => by rw [et2, et3, E3.out.2 e],
      fun e => sum_run (a := T3) (b := 32 :: packW) et3 rfl (by rw [E4.out.1 e]; exact et4) (by simp [packW]; omega), fun e => by rw [et3, et4, E4.out.2 e]⟩)
  rw [← esn] at D1
  rw [← esk] at DK
  rw [← et4]
  have hb : Below w.heap.size w (w.alloc (.cells #[.int .i64 n, .int .i64 k, .bool a, .bool p, .int .i64 x] 58)) := (Below.refl _ _).alloc (Nat.le_refl _) _
  have hx := Box.fresh w #[.int .i64 n, .int .i64 k, .bool a, .bool p, .int .i64 x] 58
  clear h1 h2 h3 h4 hl1 hl2 hl3 hl4 hl5 hlx E1 E2 E3 E4 eT1 eT2 eT3 eT4 esn esk ep1 et1 et2 et3 et4
  have Hpre : Hid (Calls Tryz.prog 52 #[.agg #[.int .i64 n, .int .i64 k, .bool a, .bool p, .int .i64 x]] w fun e w' => e = .returned (.string t4) ∧ Below w.heap.size w w') := Lib.hid (by
    go_enter Tryz.func52, Tryz.ntmps52
    go_wp2_with fail
    generalize w.alloc (.cells #[.int .i64 n, .int .i64 k, .bool a, .bool p, .int .i64 x] 58) = w1 at hb hx ⊢
    have Hx := Lib.hid hx
    obtain ⟨c0, c1, c2, c3, c4⟩ := Box.five' hx
    clear hx
    refine (sIn_yes _ _ _ _ H1.out).mono ?_
    rintro e w1 ⟨rfl, rfl⟩
    go_wp2_with fail
    refine (specKind_yes _ _ H2.out).mono ?_
    rintro e w1 ⟨rfl, rfl⟩
    by_cases h8 : k = 8
    · subst h8
      obtain ⟨sx, q1, esx, s1, s2⟩ := HS.out.1 rfl
      have hsx := D2.out rfl
      have H33 := Lib.hid (H3.out rfl)
      clear D2 H3 H4
      rw [← esx] at hsx; clear esx
      go_wp2_with fail
      refine (sIn_yes _ _ _ _ H33.out).mono ?_
      rintro e w1 ⟨rfl, rfl⟩
      go_upto_region 3 with fail
      go_cut [3] (fun s3 wx => s3 = .string t1 ∧ Hid (Box wx w.heap.size [.int .i64 n, .int .i64 8, .bool a, .bool p, .int .i64 x]) ∧ Below w.heap.size w wx)
      case first =>
        have hz0 := Hx.out.lt
        go_region_with (first
          | (go_at_call 51; refine (D1.out _).mono ?_; rintro e w4 ⟨rfl, hb4⟩; have hx4 := Hx.out.drew.below hb4 hz0; obtain ⟨d0, d1, d2, d3, d4⟩ := Box.five' hx4; have hl4 := hb.drew.trans (hb4.mono hb.size))
          | (go_at_call 54; refine (DK.out _).mono ?_; rintro e w5 ⟨rfl, hb5⟩; have hx5 := hx4.below hb5 hx4.lt; have hl5 := hl4.trans (hb5.mono hl4.size)))
        all_goals
          have hx6 := Lib.hid hx5
          clear hx4 hx5 hb4 hb5 hl4 d0 d1 d2 d3 d4 c0 c1 c2 c3 c4
          go_wp2_with fail
          go_meet
          exact ⟨rfl, hx6, hl5⟩
      case rest =>
        obtain ⟨rfl, HX, hl⟩ := hcut
        clear Hx hb c0 c1 c2 c3 c4
        obtain ⟨c0, c1, c2, c3, c4⟩ := Box.five' HX.out
        have hzx := HX.out.lt
        go_wp2_with fail
        refine (hsx _).mono ?_
        rintro e w4 ⟨rfl, hb4⟩
        have hl4 := hl.trans (hb4.mono hl.size)
        obtain ⟨c0, c1, c2, c3, c4⟩ := Box.five' (HX.out.below hb4 hzx)
        clear hb4
        cases a with
        | true =>
          have r3 := HS.out.2.2.1 rfl
          cases p with
          | true =>
            have r4 := HS.out.2.2.2.2.1 rfl
            go_wp2_with fail
            go_ret
            exact ⟨rfl, hl4⟩
          | false =>
            obtain rfl := HS.out.2.2.2.2.2 rfl
            go_wp2_with fail
            go_ret
            exact ⟨rfl, hl4⟩
        | false =>
          obtain rfl := HS.out.2.2.2.1 rfl
          cases p with
          | true =>
            have r4 := HS.out.2.2.2.2.1 rfl
            go_wp2_with fail
            go_ret
            exact ⟨rfl, hl4⟩
          | false =>
            obtain rfl := HS.out.2.2.2.2.2 rfl
            go_wp2_with fail
            go_ret
            exact ⟨rfl, hl4⟩
    · have b8 : (k == 8) = false := eqF h8
      have b8' : (k != 8) = true := by simp [bne, b8]
      have b0 : (x != 0) = false := by simp [bne, H4.out h8]
      go_upto_region 3 with fail
      go_cut [3] (fun s3 wx => s3 = .string t1 ∧ Hid (Box wx w.heap.size [.int .i64 n, .int .i64 k, .bool a, .bool p, .int .i64 x]) ∧ Below w.heap.size w wx)
      case first =>
        have hz0 := Hx.out.lt
        go_region_with (first
          | (go_at_call 51; refine (D1.out _).mono ?_; rintro e w4 ⟨rfl, hb4⟩; have hx4 := Hx.out.drew.below hb4 hz0; obtain ⟨d0, d1, d2, d3, d4⟩ := Box.five' hx4; have hl4 := hb.drew.trans (hb4.mono hb.size))
          | (go_at_call 54; refine (DK.out _).mono ?_; rintro e w5 ⟨rfl, hb5⟩; have hx5 := hx4.below hb5 hx4.lt; have hl5 := hl4.trans (hb5.mono hl4.size)))
        all_goals
          have hx6 := Lib.hid hx5
          clear hx4 hx5 hb4 hb5 hl4 d0 d1 d2 d3 d4 c0 c1 c2 c3 c4
          go_wp2_with fail
          go_meet
          exact ⟨rfl, hx6, hl5⟩
      case rest =>
        obtain ⟨rfl, HX, hl⟩ := hcut
        clear Hx hb c0 c1 c2 c3 c4
        obtain ⟨c0, c1, c2, c3, c4⟩ := Box.five' HX.out
        have hzx := HX.out.lt
        have hl4 := hl
        obtain rfl := HS.out.2.1 h8
        clear h8
        cases a with
        | true =>
          have r3 := HS.out.2.2.1 rfl
          cases p with
          | true =>
            have r4 := HS.out.2.2.2.2.1 rfl
            go_wp2_with fail
            go_ret
            exact ⟨rfl, hl4⟩
          | false =>
            obtain rfl := HS.out.2.2.2.2.2 rfl
            go_wp2_with fail
            go_ret
            exact ⟨rfl, hl4⟩
        | false =>
          obtain rfl := HS.out.2.2.2.1 rfl
          cases p with
          | true =>
            have r4 := HS.out.2.2.2.2.1 rfl
            go_wp2_with fail
            go_ret
            exact ⟨rfl, hl4⟩
          | false =>
            obtain rfl := HS.out.2.2.2.2.2 rfl
            go_wp2_with fail
            go_ret
            exact ⟨rfl, hl4⟩)
  exact Hpre.out
end Go.Proofs.YtcbohfncckpolaaGreatDoor.Num
