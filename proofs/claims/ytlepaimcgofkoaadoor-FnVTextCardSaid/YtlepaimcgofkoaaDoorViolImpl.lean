/-
  The walk of the program's ViolationText: the code's word out of the program's table, then, where the code is not 0, both indices, each behind a space; only new memory is written.
-/
import Derived.Test.YtlepaimcgofkoaaDoorWordTab
import Derived.Test.YtlepaimcgofkoaaDoorDigits
import Derived.Test.YtlepaimcgofkoaaDoorCodesI
namespace Go.Proofs.YtlepaimcgofkoaaDoor.Num
open Go.RowKit Go.Proofs
set_option linter.unusedVariables false
set_option linter.unusedSimpArgs false

/-- The listed tables: the powers of ten and the words. -/
def Tabs (w : World) : Prop := Go.Lib.TabIs Tryd.prog w "internal/strconv.uint64pow10" .u64 Go.Lib.pow10Tab ∧ WordsIs w
theorem tabs_below {w w' : World} (h : Tabs w) (hb : Below w.heap.size w w') : Tabs w' := ⟨tabIs_below h.1 hb, h.2.all hb⟩
theorem tabs_of {W : World} {d e : DataW Unit} (h : laidMet Tryd.prog [("internal/strconv.uint64pow10", d), ("loop.example/g00498/impl.violationWords", e)] W) (hd : d = Go.Lib.tabData .u64 Go.Lib.pow10Tab := by rfl) (he : e = wordsData wordTab := by rfl) : Tabs W :=
  ⟨pow10_of h hd, words_of h.tail he⟩
set_option maxHeartbeats 4000000 in
set_option maxRecDepth 100000 in
theorem implViolText_any (c m f : Int) (w : World) (hm : I64 m) (hf : I64 f) (hT : Tabs w) :
    Calls Tryd.prog 16 #[.agg #[.int .i64 c, .int .i64 m, .int .i64 f]] w fun e w' => e = .returned (.string ⟨(violText c m f).toArray⟩) ∧ Below w.heap.size w w' := by
  have hlm := intDec_len20 hm
  have hlf := intDec_len20 hf
  obtain ⟨lm, hlm'⟩ : ∃ l, intDec m = l := ⟨_, rfl⟩
  obtain ⟨lf, hlf'⟩ : ∃ l, intDec f = l := ⟨_, rfl⟩
  obtain ⟨lw, hlw⟩ : ∃ l, wordV c = l := ⟨_, rfl⟩
  have D1 : Hid (∀ wx, Below w.heap.size w wx → Calls Tryd.prog 37 #[.int .i64 m] wx fun e w' => e = .returned (.string ⟨(intDec m).toArray⟩) ∧ Below wx.heap.size wx w') :=
    Lib.hid fun wx hb => implDigits_any m wx hm.1 hm.2 (tabs_below hT hb).1
  have D2 : Hid (∀ wx, Below w.heap.size w wx → Calls Tryd.prog 37 #[.int .i64 f] wx fun e w' => e = .returned (.string ⟨(intDec f).toArray⟩) ∧ Below wx.heap.size wx w') :=
    Lib.hid fun wx hb => implDigits_any f wx hf.1 hf.2 (tabs_below hT hb).1
  have Hz : Hid (c = 0 → violText c m f = lw) := Lib.hid fun e => by rw [← hlw, e]; rfl
  have Hn : Hid (c ≠ 0 → violText c m f = lw ++ [32] ++ lm ++ [32] ++ lf) := Lib.hid fun e => by rw [← hlm', ← hlf', ← hlw]; unfold violText; rw [if_neg e]
  have hll : lw.length ≤ 6 := by rw [← hlw]; exact wordV_len c
  have Hw := Lib.hid hlw
  have HT := Lib.hid hT
  have hgl : 0 < w.heap.size := hT.2.lt
  rw [hlm'] at hlm D1
  rw [hlf'] at hlf D2
  generalize violText c m f = R at Hz Hn ⊢
  clear hlm' hlf' hm hf hlw hT
  have hx := Box.fresh w #[.int .i64 c, .int .i64 m, .int .i64 f] 29
  have hb : Below w.heap.size w (w.alloc (.cells #[.int .i64 c, .int .i64 m, .int .i64 f] 29)) := (Below.refl _ _).alloc (Nat.le_refl _) _
  have hz0 : w.heap.size < (w.alloc (.cells #[.int .i64 c, .int .i64 m, .int .i64 f] 29)).heap.size := by simp
  go_enter Tryd.func16, Tryd.ntmps16
  go_wp2_with fail
  generalize w.alloc (.cells #[.int .i64 c, .int .i64 m, .int .i64 f] 29) = w1 at hx hb hz0 ⊢
  have Hx := Lib.hid hx
  clear hx
  obtain ⟨c0, c1, c2, _⟩ := Hx.out.three
  have Hend : Hid (Calls Tryd.prog 29 #[.int .i64 c, .int .i64 10] w1 fun e w' => (∃ q, ((q = true ∧ 0 ≤ c ∧ c < 10) ∨ (q = false ∧ lw = [63])) ∧ e = .returned (.bool q)) ∧ w1 = w') := Lib.hid (by
    by_cases h : 0 ≤ c ∧ c < 10
    · exact (isIndex_yes c 10 w1 h).mono fun e w' ⟨he, hw⟩ => ⟨⟨true, .inl ⟨rfl, h⟩, he⟩, hw⟩
    · exact (isIndex_no c 10 w1 h).mono fun e w' ⟨he, hw⟩ => ⟨⟨false, .inr ⟨rfl, by rw [← Hw.out]; exact wordV_no (by omega)⟩, he⟩, hw⟩)
  refine Hend.out.mono ?_
  rintro e w2 ⟨⟨q, hq, rfl⟩, rfl⟩
  go_upto_if 6 with fail
  go_cut [3] from 3 to 10 (fun s3 wx => s3 = .string ⟨lw.toArray⟩ ∧ Hid (Box wx w.heap.size [.int .i64 c, .int .i64 m, .int .i64 f]) ∧ Below w.heap.size w wx)
  case first =>
    rcases hq with ⟨rfl, h0, h9⟩ | ⟨rfl, rfl⟩
    · obtain ⟨k, rfl⟩ := Int.eq_ofNat_of_zero_le h0
      have hk : k < 10 := by omega
      have hwk : w1.cell? ⟨0, k, none⟩ = some (.string ⟨lw.toArray⟩) := by
        rw [← Hw.out, wordV_tab h0 h9]
        exact (HT.out.2.all hb) k hk
      clear hgl
      go_wp2_with fail
      go_meet
      exact ⟨rfl, Hx, hb⟩
    · go_wp2_with fail
      go_meet
      exact ⟨rfl, Hx, hb⟩
  case rest =>
    obtain ⟨rfl, HX, hl⟩ := hcut
    clear Hx hb c0 c1 c2 hz0 hq
    obtain ⟨c0, c1, c2, _⟩ := HX.out.three
    have hzx := HX.out.lt
    by_cases hc : c = 0
    · obtain rfl := Hz.out hc
      subst hc
      go_wp2_with fail
      go_ret
      exact ⟨rfl, hl⟩
    · obtain rfl := Hn.out hc
      have hcb : (c == 0) = false := by rw [beq_eq_false_iff_ne]; exact hc
      clear hc Hz Hn
      obtain ⟨sw, esw⟩ : ∃ s : ByteArray, s = ⟨lw.toArray⟩ := ⟨_, rfl⟩
      obtain ⟨sm, esm⟩ : ∃ s : ByteArray, s = ⟨lm.toArray⟩ := ⟨_, rfl⟩
      obtain ⟨sf, esf⟩ : ∃ s : ByteArray, s = ⟨lf.toArray⟩ := ⟨_, rfl⟩
      have zw : sw.size ≤ 6 := by rw [esw]; simpa [ByteArray.size] using hll
      have zm : sm.size ≤ 21 := by rw [esm]; simpa [ByteArray.size] using hlm
      have zf : sf.size ≤ 21 := by rw [esf]; simpa [ByteArray.size] using hlf
      obtain ⟨p1, e1⟩ : ∃ p, p = sw ++ (⟨#[32]⟩ : ByteArray) := ⟨_, rfl⟩
      obtain ⟨p2, e2⟩ : ∃ p, p = p1 ++ sm := ⟨_, rfl⟩
      obtain ⟨p3, e3⟩ : ∃ p, p = p2 ++ (⟨#[32]⟩ : ByteArray) := ⟨_, rfl⟩
      obtain ⟨p4, e4⟩ : ∃ p, p = p3 ++ sf := ⟨_, rfl⟩
      have z1 : p1.size ≤ 7 := by rw [e1, ByteArray.size_append]; show sw.size + 1 ≤ 7; omega
      have z2 : p2.size ≤ 28 := by rw [e2, ByteArray.size_append]; omega
      have z3 : p3.size ≤ 29 := by rw [e3, ByteArray.size_append]; show p2.size + 1 ≤ 29; omega
      have a1 : ∀ w, (Op.stringOp .add sw ⟨#[32]⟩).run Tryd.prog w = .ok (.string p1) w := fun w => by rw [e1]; exact run_string_add_sum _ sw _ (by show sw.size + 1 ≤ _; omega)
      have a2 : ∀ w, (Op.stringOp .add p1 sm).run Tryd.prog w = .ok (.string p2) w := fun w => by rw [e2]; exact run_string_add_sum _ p1 sm (by omega)
      have a3 : ∀ w, (Op.stringOp .add p2 ⟨#[32]⟩).run Tryd.prog w = .ok (.string p3) w := fun w => by rw [e3]; exact run_string_add_sum _ p2 _ (by show p2.size + 1 ≤ _; omega)
      have a4 : ∀ w, (Op.stringOp .add p3 sf).run Tryd.prog w = .ok (.string p4) w := fun w => by rw [e4]; exact run_string_add_sum _ p3 sf (by omega)
      have He : Hid ((⟨(lw ++ [32] ++ lm ++ [32] ++ lf).toArray⟩ : ByteArray) = p4) := Lib.hid (by
        rw [e4, e3, e2, e1, esw, esm, esf, show (⟨#[32]⟩ : ByteArray) = ⟨[32].toArray⟩ from rfl, bytesApp, bytesApp, bytesApp, bytesApp])
      rw [← esm] at D1
      rw [← esf] at D2
      rw [← esw]
      clear e1 e2 e3 e4 z1 z2 z3 zw zm zf esw esm esf hll hlm hlf
      go_wp2_with fail
      go_region_with (first
        | (go_at_call_of 37 (Value.int IntKind.i64 m); refine (D1.out _ hl.drew).mono ?_; rintro e w4 ⟨rfl, hb4⟩; have hx4 := HX.out.drew.below hb4 hzx; obtain ⟨_, d1, d2, _⟩ := Box.three hx4; have hl4 := hl.drew.trans (hb4.mono hl.size); clear hb4)
        | (go_at_call_of 37 (Value.int IntKind.i64 f); refine (D2.out _ hl4).mono ?_; rintro e w5 ⟨rfl, hb5⟩; have hl5 := hl4.trans (hb5.mono hl4.size); clear hb5))
      all_goals
        go_wp2_with fail
        go_ret
        exact ⟨by rw [He.out]; rfl, hl5⟩
end Go.Proofs.YtlepaimcgofkoaaDoor.Num
