/-
  The walks of the program's UtfByte, UtfText and UtfState: they give what the plain validator gives; only new memory is written.
-/
import Derived.Test.YtoohcepobbbejaaUtfIs
import Derived.Test.YtoohcepobbbejaaUtfText
namespace Go.Proofs.Ytoohcepobbbejaa.Num
open Go.RowKit Go.Proofs
set_option linter.unusedVariables false

set_option maxHeartbeats 1000000 in
theorem implUtfByte_any (W L H b : Int) (w : World) :
    Calls Try.prog 24 #[utV (W, L, H), .int .i64 b] w fun e w' => e = .returned (stepV (W, L, H) (Utf.next (W, L, H) b)) ∧ Below w.heap.size w w' := by
  unfold utV
  simp only
  by_cases hok : Utf.Ok (W, L, H)
  · by_cases h0 : W = 0
    · have hz : (W, L, H) = Utf.z := Utf.ok_zero hok h0
      obtain ⟨rfl, rfl, rfl⟩ : W = 0 ∧ L = 0 ∧ H = 0 := by unfold Utf.z at hz; injection hz with e1 e2; injection e2 with e2 e3; exact ⟨e1, e2, e3⟩
      have He := Lib.hid (Utf.next_z b)
      have Hok := Lib.hid hok
      have Hf := Lib.hid (implFirst_any b)
      clear hok h0 hz
      rw [show ((0 : Int), (0 : Int), (0 : Int)) = Utf.z from rfl, He.out]
      generalize Utf.first b = R at Hf
      go_enter Try.func24, Try.ntmps24
      go_wp2_with fail
      refine (implUtfOk_yes Hok.out _).mono ?_
      rintro e w1 ⟨rfl, hb1⟩
      obtain ⟨hc, hf⟩ := bcellU hb1
      have hbw : Below w.heap.size w w1 := (two_new _ _).trans (hb1.mono (by simp; omega))
      go_wp2_with fail
      refine (Hf.out _).mono ?_
      rcases R with _ | ⟨a, c, d⟩
      · simp only [stepV, utV, Utf.z]
        rintro e w2 ⟨rfl, hb2⟩
        have hbw2 := hbw.trans (hb2.mono hbw.size)
        obtain ⟨hc2, hf2⟩ := bcellU hb2
        have hz : w.heap.size + 1 < w1.heap.size := by have := hb1.size; simp at this; omega
        go_wp2_with fail
        refine bodyPost_ret (v := .tuple #[.agg #[.int .i64 0, .int .i64 0, .int .i64 0], .bool false]) (by simp [results, Try.results24, go_sem, hc, hc2, hz]) rfl ⟨rfl, ?_⟩
        repeat (first | exact hbw2 | refine Below.setCell ?_ (by simp) _)
      · simp only [stepV, utV]
        rintro e w2 ⟨rfl, hb2⟩
        have hbw2 := hbw.trans (hb2.mono hbw.size)
        obtain ⟨hc2, hf2⟩ := bcellU hb2
        have hz : w.heap.size + 1 < w1.heap.size := by have := hb1.size; simp at this; omega
        go_wp2_with fail
        refine bodyPost_ret (v := .tuple #[.agg #[.int .i64 a, .int .i64 c, .int .i64 d], .bool true]) (by simp [results, Try.results24, go_sem, hc, hc2, hz]) rfl ⟨rfl, ?_⟩
        repeat (first | exact hbw2 | refine Below.setCell ?_ (by simp) _)
    · by_cases hin : L ≤ b ∧ b ≤ H
      · have b0 := neB h0
        by_cases h1 : W = 1
        · subst h1
          have He := Lib.hid (show Utf.next (1, L, H) b = some Utf.z by rw [Utf.next_on b hok h0, if_pos hin, if_pos rfl])
          have Hok := Lib.hid hok
          obtain ⟨hlo, hhi⟩ := hin
          clear hok h0
          go_enter Try.func24, Try.ntmps24
          go_wp2_with fail
          refine (implUtfOk_yes Hok.out _).mono ?_
          rintro e w1 ⟨rfl, hb1⟩
          obtain ⟨hc, hf⟩ := bcellU hb1
          have hbw : Below w.heap.size w w1 := (two_new _ _).trans (hb1.mono (by simp; omega))
          go_wp2_with fail
          refine (implExpect_0 _).mono ?_
          rintro e w2 ⟨rfl, hb2⟩
          have hbw2 := hbw.trans (hb2.mono hbw.size)
          obtain ⟨hc2, hf2⟩ := bcellU hb2
          have hz : w.heap.size + 1 < w1.heap.size := by have := hb1.size; simp at this; omega
          go_wp2_with fail
          refine bodyPost_ret (v := .tuple #[.agg #[.int .i64 0, .int .i64 0, .int .i64 0], .bool true]) (by simp [results, Try.results24, go_sem, hc, hc2, hz]) rfl ⟨by rw [He.out]; rfl, ?_⟩
          repeat (first | exact hbw2 | refine Below.setCell ?_ (by simp) _)
        · have b1 := neB h1
          have hs : 0 ≤ W ∧ W ≤ 3 := ⟨(Utf.ok_small hok).1, (Utf.ok_small hok).2.1⟩
          have hw : IntKind.i64.wrap (W - 1) = W - 1 := IntWalk.i64_in _ (by omega)
          have Hne := Lib.hid (show W - 1 ≠ 0 by omega)
          have He := Lib.hid (show Utf.next (W, L, H) b = some (W - 1, 128, 191) by rw [Utf.next_on b hok h0, if_pos hin, if_neg h1])
          have Hok := Lib.hid hok
          obtain ⟨hlo, hhi⟩ := hin
          clear hok h0 h1 hs
          go_enter Try.func24, Try.ntmps24
          go_wp2_with fail
          refine (implUtfOk_yes Hok.out _).mono ?_
          rintro e w1 ⟨rfl, hb1⟩
          obtain ⟨hc, hf⟩ := bcellU hb1
          have hbw : Below w.heap.size w w1 := (two_new _ _).trans (hb1.mono (by simp; omega))
          go_wp2_with fail
          refine (implExpect_n _ Hne.out _).mono ?_
          rintro e w2 ⟨rfl, hb2⟩
          have hbw2 := hbw.trans (hb2.mono hbw.size)
          obtain ⟨hc2, hf2⟩ := bcellU hb2
          have hz : w.heap.size + 1 < w1.heap.size := by have := hb1.size; simp at this; omega
          go_wp2_with fail
          refine bodyPost_ret (v := .tuple #[.agg #[.int .i64 (W - 1), .int .i64 128, .int .i64 191], .bool true]) (by simp [results, Try.results24, go_sem, hc, hc2, hz]) rfl ⟨by rw [He.out]; rfl, ?_⟩
          repeat (first | exact hbw2 | refine Below.setCell ?_ (by simp) _)
      · have b0 := neB h0
        have He := Lib.hid (show Utf.next (W, L, H) b = none by rw [Utf.next_on b hok h0, if_neg hin])
        by_cases hlo : b < L
        · have Hok := Lib.hid hok
          clear hok hin h0
          go_enter Try.func24, Try.ntmps24
          go_wp2_with fail
          refine (implUtfOk_yes Hok.out _).mono ?_
          rintro e w1 ⟨rfl, hb1⟩
          obtain ⟨hc, hf⟩ := bcellU hb1
          have hbw : Below w.heap.size w w1 := (two_new _ _).trans (hb1.mono (by simp; omega))
          go_wp2_with fail
          refine bodyPost_ret (v := .tuple #[.agg #[.int .i64 W, .int .i64 L, .int .i64 H], .bool false]) (by simp [results, Try.results24, go_sem, hc]) rfl ⟨by rw [He.out]; rfl, ?_⟩
          repeat (first | exact hbw | refine Below.setCell ?_ (by simp) _)
        · have hlo2 : L ≤ b := by omega
          have hhi : H < b := by omega
          clear hlo
          have Hok := Lib.hid hok
          clear hok hin h0
          go_enter Try.func24, Try.ntmps24
          go_wp2_with fail
          refine (implUtfOk_yes Hok.out _).mono ?_
          rintro e w1 ⟨rfl, hb1⟩
          obtain ⟨hc, hf⟩ := bcellU hb1
          have hbw : Below w.heap.size w w1 := (two_new _ _).trans (hb1.mono (by simp; omega))
          go_wp2_with fail
          refine bodyPost_ret (v := .tuple #[.agg #[.int .i64 W, .int .i64 L, .int .i64 H], .bool false]) (by simp [results, Try.results24, go_sem, hc]) rfl ⟨by rw [He.out]; rfl, ?_⟩
          repeat (first | exact hbw | refine Below.setCell ?_ (by simp) _)
  · have He := Lib.hid (next_bad (b := b) hok)
    have Hok := Lib.hid hok
    clear hok
    go_enter Try.func24, Try.ntmps24
    go_wp2_with fail
    refine (implUtfOk_no Hok.out _).mono ?_
    rintro e w1 ⟨rfl, hb1⟩
    obtain ⟨hc, hf⟩ := bcellU hb1
    have hbw : Below w.heap.size w w1 := (two_new _ _).trans (hb1.mono (by simp; omega))
    go_wp2_with fail
    refine bodyPost_ret (v := .tuple #[.agg #[.int .i64 W, .int .i64 L, .int .i64 H], .bool false]) (by simp [results, Try.results24, go_sem, hc]) rfl ⟨by rw [He.out]; rfl, ?_⟩
    repeat (first | exact hbw | refine Below.setCell ?_ (by simp) _)
theorem implByte_as (W L H b : Int) (r : Option Utf.St) (h : Utf.next (W, L, H) b = r) (w : World) : Calls Try.prog 24 #[.agg #[.int .i64 W, .int .i64 L, .int .i64 H], .int .i64 b] w fun e w' => e = .returned (stepV (W, L, H) r) ∧ Below w.heap.size w w' := h ▸ implUtfByte_any W L H b w
set_option maxHeartbeats 2000000 in
set_option maxRecDepth 100000 in
theorem implUtfText_any (W L H : Int) (s : ByteArray) (w : World) (hs : s.size ≤ 281474976710656) :
    Calls Try.prog 19 #[utV (W, L, H), .string s] w fun e w' => e = .returned (textV (Utf.run (W, L, H) s.data.toList)) ∧ Below w.heap.size w w' := by
  unfold utV
  simp only
  generalize hR : Utf.run (W, L, H) s.data.toList = R
  have HR := Lib.hid hR; clear hR
  go_enter Try.func19, Try.ntmps19
  go_wp2_with fail
  go_loopw [11] (fun i wr => ∃ (k : Nat) (A B C : Int), k ≤ s.size ∧ i = .int .i64 k ∧ Hid (R = lat k (Utf.run (A, B, C) (s.data.toList.drop k))) ∧ Hid (Box wr w.heap.size [.int .i64 A, .int .i64 B, .int .i64 C]) ∧ Hid (Box wr (w.heap.size + 1) [.int .i64 0, .int .i64 0, .int .i64 0]) ∧ Below w.heap.size w wr) (fun i _ => s.size - (intOf i).toNat)
  case atStart => exact ⟨0, W, L, H, by omega, rfl, Lib.hid (by rw [← HR.out, lat_zero]; rfl), Lib.hid ((Box.fresh _ _ _).alloc _), Lib.hid (freshTwo _ _ _ _), ((Below.refl _ _).alloc (Nat.le_refl _) _).alloc (by simp) _⟩
  case round =>
    obtain ⟨k, A, B, C, hk, rfl, Hst, hbx, hby, hbl⟩ := hrel
    obtain ⟨c0, c1, c2, f0, f1, f2⟩ := hbx.out.three
    obtain ⟨d0, d1, d2, g0, g1, g2⟩ := hby.out.three
    have hz0 := hbx.out.lt
    have hz1 := hby.out.lt
    by_cases hlt : k < s.size
    · have Hdr := Lib.hid (drop_byte s k hlt)
      have hch : s[k].toNat < 256 := s[k].toNat_lt
      generalize hS : Utf.next (A, B, C) (s[k].toNat : Int) = S
      have HS := Lib.hid hS; clear hS
      have hltb : (k : Int) < (s.size : Int) := by omega
      have hw8 : IntKind.i64.wrap (s[k].toNat : Int) = (s[k].toNat : Int) := IntWalk.i64_in _ (by omega)
      rcases S with _ | ⟨A', B', C'⟩
      · go_wp2_with fail
        go_region_with (go_at_call 24; refine (implByte_as A B C s[k].toNat _ HS.out _).mono ?_; simp only [stepV, utV]; rintro e w1 ⟨rfl, hb1⟩; first | (obtain ⟨e0, e1, e2, p0, p1, p2⟩ := (hbx.out.drew.below hb1 hz0).three; have hq := drewLt hb1) | (obtain ⟨e0, e1, e2, p0, p1, p2⟩ := ((Box.fresh wr _ _).drew.below hb1 (freshLt _ _)).three; have hq := drewAllocLt hb1))
        all_goals
          first
          | (have KK := endA3 hbx.out hby.out hbl hb1 A B C
             obtain ⟨K0, K1, K2, hB, hg⟩ := KK
             generalize w1.alloc (.cells #[.int .i64 A, .int .i64 B, .int .i64 C] 29) = w2 at K0 K1 K2 hB ⊢
             generalize w1.heap.size = g at K2 hg ⊢)
          | (have KK := endB3 hbx.out hby.out hbl hb1 A B C
             obtain ⟨K0, K1, K2, hB, hg⟩ := KK
             generalize ((w1.setCell ⟨wr.heap.size, 0, none⟩ (.int .i64 A)).setCell ⟨wr.heap.size, 1, none⟩ (.int .i64 B)).setCell ⟨wr.heap.size, 2, none⟩ (.int .i64 C) = w2 at K0 K1 K2 hB ⊢
             generalize wr.heap.size = g at K2 hg ⊢)
        all_goals
          obtain ⟨e0, e1, e2, p0, p1, p2⟩ := K0.three
          obtain ⟨e3, e4, e5, p3, p4, p5⟩ := K1.three
          obtain ⟨e6, e7, e8, p6, p7, p8⟩ := K2.three
          have HK0 := Lib.hid K0
          have HK1 := Lib.hid K1
          clear K0 K1 K2
          go_wp2_with fail
          refine bodyPost_ret (v := .tuple #[.agg #[.int .i64 A, .int .i64 B, .int .i64 C], .int .i64 k]) (by simp [results, Try.results19, go_sem, e3, e4, e5]) rfl ⟨?_, ?_⟩
          · rw [Hst.out, Hdr.out, Utf.run_none HS.out]; simp [lat, textV, utV, offI]
          · repeat (first | exact hB | refine Below.setCell ?_ (by simp) _)
      · go_wp2_with fail
        go_region_with (go_at_call 24; refine (implByte_as A B C s[k].toNat _ HS.out _).mono ?_; simp only [stepV, utV]; rintro e w1 ⟨rfl, hb1⟩; first | (obtain ⟨e0, e1, e2, p0, p1, p2⟩ := (hbx.out.drew.below hb1 hz0).three; have hq := drewLt hb1) | (obtain ⟨e0, e1, e2, p0, p1, p2⟩ := ((Box.fresh wr _ _).drew.below hb1 (freshLt _ _)).three; have hq := drewAllocLt hb1))
        all_goals
          first
          | (have KK := endA3 hbx.out hby.out hbl hb1 A' B' C'
             obtain ⟨K0, K1, K2, hB, hg⟩ := KK
             generalize w1.alloc (.cells #[.int .i64 A', .int .i64 B', .int .i64 C'] 29) = w2 at K0 K1 K2 hB ⊢
             generalize w1.heap.size = g at K2 hg ⊢)
          | (have KK := endB3 hbx.out hby.out hbl hb1 A' B' C'
             obtain ⟨K0, K1, K2, hB, hg⟩ := KK
             generalize ((w1.setCell ⟨wr.heap.size, 0, none⟩ (.int .i64 A')).setCell ⟨wr.heap.size, 1, none⟩ (.int .i64 B')).setCell ⟨wr.heap.size, 2, none⟩ (.int .i64 C') = w2 at K0 K1 K2 hB ⊢
             generalize wr.heap.size = g at K2 hg ⊢)
        all_goals
          obtain ⟨e0, e1, e2, p0, p1, p2⟩ := K0.three
          obtain ⟨e3, e4, e5, p3, p4, p5⟩ := K1.three
          obtain ⟨e6, e7, e8, p6, p7, p8⟩ := K2.three
          have HK0 := Lib.hid K0
          have HK1 := Lib.hid K1
          clear K0 K1 K2
          go_wp2_with fail
          refine ⟨⟨k + 1, A', B', C', by omega, by go_num, Lib.hid ?_, Lib.hid (((HK0.out.set 0 _).set 1 _).set 2 _), Lib.hid (((HK1.out.other (by simp) _).other (by simp) _).other (by simp) _), ?_⟩, by simp [intOf] <;> omega⟩
          · rw [Hst.out, Hdr.out, run_more HS.out, lat_lat, Nat.add_comm]
          · repeat (first | exact hB | refine Below.setCell ?_ (by simp) _)
    · have hks : k = s.size := by omega
      have hend : decide (k < s.size) = false := decide_eq_false hlt
      have Hall := Lib.hid (drop_end s k (by omega))
      have hge : (s.size : Int) ≤ (k : Int) := by omega
      clear hks
      go_wp2_with fail
      refine bodyPost_ret (v := .tuple #[.agg #[.int .i64 A, .int .i64 B, .int .i64 C], .int .i64 (-1)]) (by simp [results, Try.results19, go_sem, d0, d1, d2]) rfl ⟨?_, ?_⟩
      · rw [Hst.out, Hall.out, Utf.run_nil]; rfl
      · repeat (first | exact hbl | refine Below.drew ?_ | refine Below.setCell ?_ (by simp) _ | refine Below.alloc ?_ (by simp <;> omega) _)
theorem implText_as (s : ByteArray) (W L H k : Int) (w : World) (hs : s.size ≤ 281474976710656) (h : textV (Utf.run Utf.z s.data.toList) = .tuple #[.agg #[.int .i64 W, .int .i64 L, .int .i64 H], .int .i64 k]) :
    Calls Try.prog 19 #[.agg #[.int .i64 0, .int .i64 0, .int .i64 0], .string s] w fun e w' => e = .returned (.tuple #[.agg #[.int .i64 W, .int .i64 L, .int .i64 H], .int .i64 k]) ∧ Below w.heap.size w w' := by
  have := implUtfText_any 0 0 0 s w hs
  rw [show ((0 : Int), (0 : Int), (0 : Int)) = Utf.z from rfl, h] at this
  exact this
theorem implUtfState_any (s : ByteArray) (w : World) (hs : s.size ≤ 281474976710656) :
    Calls Try.prog 22 #[.string s] w fun e w' => e = .returned (utV (Utf.run Utf.z s.data.toList).1) ∧ Below w.heap.size w w' := by
  obtain ⟨⟨W, L, H⟩, r, hr⟩ : ∃ (u : Utf.St) (r : Option Nat), Utf.run Utf.z s.data.toList = (u, r) := ⟨(Utf.run Utf.z s.data.toList).1, (Utf.run Utf.z s.data.toList).2, rfl⟩
  have Ht := Lib.hid (implText_as s W L H (offI r) · hs (by rw [hr]; rfl))
  rw [hr]
  generalize offI r = k at Ht
  unfold utV
  simp only
  clear hr
  go_enter Try.func22, Try.ntmps22
  go_wp2_with fail
  refine (Ht.out _).mono ?_
  rintro e w1 ⟨rfl, hb1⟩
  have hz := alloc_lt hb1
  have hbw := from_alloc hb1
  obtain ⟨hc, hf⟩ := bcellU hb1
  go_wp2_with fail
  refine bodyPost_ret (v := .agg #[.int .i64 W, .int .i64 L, .int .i64 H]) (by simp [results, Try.results22, go_sem, hc, hz]) rfl ⟨rfl, ?_⟩
  repeat (first | exact hbw | refine Below.setCell ?_ (by simp) _ | refine Below.alloc ?_ (by simp <;> omega) _)
end Go.Proofs.Ytoohcepobbbejaa.Num
