/-
  For every code of bytes, laws.FnUtfRight returns true: UtfByte and UtfOk answer as the reference's; a byte that is taken leads to a state that is right and wants at most three bytes; one that is refused leaves the state. No condition.
-/
import Derived.Test.YtoohcepobbbejaaRows
import Derived.WalkKit
import Derived.ProofKit
import Derived.OpenShut
import Derived.ShutString
import Derived.ChangeOld
import Derived.Below
import Derived.Test.YtoohcepobbbejaaUtfImpl
import Derived.Test.YtoohcepobbbejaaDrawUtf2
namespace Go.Proofs.Ytoohcepobbbejaa.fnUtfRight
open Go.ChangeShapes Go.WideShapes Go.ChangeAt Go.RowKit
open Go.ChangeMaps (open_string shut_string)
set_option linter.unusedVariables false

theorem own : ownKnob Try.prog.godebug = none := by kernel_rfl
theorem laidOut : laidOutB Try.prog = true := by kernel_rfl

/-- WHAT THE WALK IS TOLD OF A SLICE OF INTEGERS THAT CAME IN: it is nil; or it leads to a row of 'cap' cells, the numbers 'zs' (the first 'len' are its elements, the rest its spare room), each fitting its kind. -/
def IsRow (k : IntKind) (w : World) (a : Option Addr) (len cap : Nat) (zs : List Int) : Prop :=
  (a = none ∧ len = 0 ∧ cap = 0 ∧ zs = []) ∨
  ∃ x, a = some x ∧ len ≤ cap ∧ cap ≤ maxLen ∧ zs.length = cap ∧ (∀ i, i < zs.length → w.cell? (x.add i) = some (.int k (zs.getD i 0))) ∧ ∀ n ∈ zs, (Lit.int k n).wf = true

/-! ### STEP 1: THE WALK: the Go text returns true, AND WRITES NOTHING THAT WAS THERE: 'Below w.heap.size w w'' (Derived/Below.lean: '.refl', '.alloc', '.drew', '.setCell' at a new block, '.trans'). Open each 'IsRow' by 'rcases' AHEAD of 'go_enter'; part every test ahead of the walk. -/
attribute [local go_sem] Region.wanted yielded
open Num in
set_option maxHeartbeats 4000000 in
set_option maxRecDepth 100000 in
theorem walk (a0 : Option Addr) (len0 cap0 : Nat) (z0 : List Int) (w : World) (w0 : IsRow .u8 w a0 len0 cap0 z0) :
    Calls Try.prog 5 #[.slice a0 len0 cap0] w fun e w' => e = .returned (.bool true) ∧ Below w.heap.size w w' := by
  by_cases hb : 1048576 < len0
  · clear w0
    go_enter Try.func5, Try.ntmps5
    go_wp2
    go_ret
    exact ⟨rfl, Below.refl _ _⟩
  · have hcode := codeOf w0 (by omega)
    have Hcode := Lib.hid hcode
    clear w0 hcode
    go_enter Try.func5, Try.ntmps5
    go_wp2_with (go_at_call 13; go_in)
    refine (drawUtfByte_any a0 len0 cap0 _ Hcode.out).mono ?_
    rintro e w1 ⟨W, L, H, b, hW, hL, hH, hbB, rfl, hb1⟩
    have HW := Lib.hid hW
    have HL := Lib.hid hL
    have HH := Lib.hid hH
    have Hi := Lib.hid (implUtfByte_any W L H b)
    have Hs := Lib.hid (specUtfByte_any W L H b)
    have Hi2 := Lib.hid (implUtfOk_any W L H)
    have Hs2 := Lib.hid (specUtfOk_any W L H)
    unfold utV at Hi Hs Hi2 Hs2
    simp only at Hi Hs Hi2 Hs2
    clear hW hL hH hbB
    have hnx : ∀ v, Utf.next (W, L, H) b = some v → Utf.Ok v := fun v h => Utf.next_ok h
    generalize decide (Utf.Ok (W, L, H)) = R at Hi2 Hs2
    generalize Utf.next (W, L, H) b = S at Hi Hs hnx
    have Hnx := Lib.hid hnx
    clear hnx
    rcases S with _ | ⟨A, B, C⟩
    · simp only [stepV, utV] at Hi Hs
      go_wp2_with fail
      have hx1 := Box.fresh w1 #[.int .i64 W, .int .i64 L, .int .i64 H] 29
      have hl1 : Below w.heap.size w (w1.alloc (.cells #[.int .i64 W, .int .i64 L, .int .i64 H] 29)) := hb1.alloc hb1.size _
      refine (Hi.out _).mono ?_
      rintro e w3 ⟨rfl, hb3⟩
      have hx3 := hx1.below hb3 (by simp)
      have hl3 := hl1.trans (hb3.mono hl1.size)
      have hz3 := hx3.lt
      clear hx1 hl1 hb3
      obtain ⟨c0, c1, c2, f0, f1, f2⟩ := hx3.three
      go_wp2_with fail
      have hx4 := hx3.alloc (.cells #[.int .i64 W, .int .i64 L, .int .i64 H] 29)
      have hy4 := Box.fresh w3 #[.int .i64 W, .int .i64 L, .int .i64 H] 29
      have hl4 : Below w.heap.size w (w3.alloc (.cells #[.int .i64 W, .int .i64 L, .int .i64 H] 29)) := hl3.alloc hl3.size _
      generalize w3.alloc (.cells #[.int .i64 W, .int .i64 L, .int .i64 H] 29) = w4 at hx4 hy4 hl4 ⊢
      clear c0 c1 c2 f0 f1 f2 hx3 hl3
      have hz4 := hx4.lt
      have hz4' := hy4.lt
      refine (Hs.out _).mono ?_
      rintro e w5 ⟨rfl, hb5⟩
      have hx5 := hx4.below hb5 (by omega)
      have hy5 := hy4.below hb5 (by omega)
      have hl5 := hl4.trans (hb5.mono hl4.size)
      clear hx4 hy4 hl4 hb5
      go_wp2_with fail
      have hx6 := hx5.alloc (.cells #[.int .i64 W, .int .i64 L, .int .i64 H] 29)
      have hy6 := hy5.alloc (.cells #[.int .i64 W, .int .i64 L, .int .i64 H] 29)
      have hl6 : Below w.heap.size w (w5.alloc (.cells #[.int .i64 W, .int .i64 L, .int .i64 H] 29)) := hl5.alloc hl5.size _
      generalize w5.alloc (.cells #[.int .i64 W, .int .i64 L, .int .i64 H] 29) = w6 at hx6 hy6 hl6 ⊢
      obtain ⟨c0, c1, c2, f0, f1, f2⟩ := hx6.three
      have hzx := hx6.lt
      have hzy := hy6.lt
      clear hx5 hy5 hl5
      go_region_with (first
        | (go_at_call 26; refine (Hi2.out _).mono ?_; rintro e w7 ⟨rfl, hb7⟩; have hx7 := hx6.drew.below hb7 hzx; have hy7 := hy6.drew.below hb7 hzy; have hl7 := hl6.drew.trans (hb7.mono hl6.size); obtain ⟨e0, e1, e2, p0, p1, p2⟩ := hx7.three)
        | (go_at_call 27; refine (Hs2.out _).mono ?_; rintro e w8 ⟨rfl, hb8⟩; have hx8 := hx7.below hb8 hx7.lt; have hy8 := hy7.below hb8 hy7.lt; have hl8 := hl7.trans (hb8.mono hl7.size)))
      all_goals
        have hx9 := Lib.hid hx8
        have hy9 := Lib.hid hy8
        have hl9 := Lib.hid hl8
        clear c0 c1 c2 f0 f1 f2 e0 e1 e2 p0 p1 p2 hx8 hy8 hl8 hx7 hy7 hl7 hb7 hb8 hx6 hy6 hl6
        obtain ⟨c0, c1, c2, f0, f1, f2⟩ := hx9.out.three
        obtain ⟨d0, d1, d2, g0, g1, g2⟩ := hy9.out.three
        go_wp2_with fail
        go_ret
        exact ⟨rfl, hl9.out⟩
    · simp only [stepV, utV] at Hi Hs
      have hok : Utf.Ok (A, B, C) := Hnx.out _ rfl
      have h3 : A ≤ 3 := (Utf.ok_small hok).2.1
      have Hok := Lib.hid (implUtfOk_yes hok)
      clear hok
      go_wp2_with fail
      have hx1 := Box.fresh w1 #[.int .i64 W, .int .i64 L, .int .i64 H] 29
      have hl1 : Below w.heap.size w (w1.alloc (.cells #[.int .i64 W, .int .i64 L, .int .i64 H] 29)) := hb1.alloc hb1.size _
      refine (Hi.out _).mono ?_
      rintro e w3 ⟨rfl, hb3⟩
      have hx3 := hx1.below hb3 (by simp)
      have hl3 := hl1.trans (hb3.mono hl1.size)
      have hz3 := hx3.lt
      clear hx1 hl1 hb3
      obtain ⟨c0, c1, c2, f0, f1, f2⟩ := hx3.three
      go_wp2_with fail
      have hx4 := hx3.alloc (.cells #[.int .i64 A, .int .i64 B, .int .i64 C] 29)
      have hy4 := Box.fresh w3 #[.int .i64 A, .int .i64 B, .int .i64 C] 29
      have hl4 : Below w.heap.size w (w3.alloc (.cells #[.int .i64 A, .int .i64 B, .int .i64 C] 29)) := hl3.alloc hl3.size _
      generalize w3.alloc (.cells #[.int .i64 A, .int .i64 B, .int .i64 C] 29) = w4 at hx4 hy4 hl4 ⊢
      clear c0 c1 c2 f0 f1 f2 hx3 hl3
      have hz4 := hx4.lt
      have hz4' := hy4.lt
      refine (Hs.out _).mono ?_
      rintro e w5 ⟨rfl, hb5⟩
      have hx5 := hx4.below hb5 (by omega)
      have hy5 := hy4.below hb5 (by omega)
      have hl5 := hl4.trans (hb5.mono hl4.size)
      clear hx4 hy4 hl4 hb5
      go_wp2_with fail
      have hx6 := hx5.alloc (.cells #[.int .i64 A, .int .i64 B, .int .i64 C] 29)
      have hy6 := hy5.alloc (.cells #[.int .i64 A, .int .i64 B, .int .i64 C] 29)
      have hl6 : Below w.heap.size w (w5.alloc (.cells #[.int .i64 A, .int .i64 B, .int .i64 C] 29)) := hl5.alloc hl5.size _
      generalize w5.alloc (.cells #[.int .i64 A, .int .i64 B, .int .i64 C] 29) = w6 at hx6 hy6 hl6 ⊢
      obtain ⟨c0, c1, c2, f0, f1, f2⟩ := hx6.three
      have hzx := hx6.lt
      have hzy := hy6.lt
      clear hx5 hy5 hl5
      go_region_with (first
        | (go_at_call 26; refine (Hi2.out _).mono ?_; rintro e w7 ⟨rfl, hb7⟩; have hx7 := hx6.drew.below hb7 hzx; have hy7 := hy6.drew.below hb7 hzy; have hl7 := hl6.drew.trans (hb7.mono hl6.size); obtain ⟨e0, e1, e2, p0, p1, p2⟩ := hx7.three)
        | (go_at_call 27; refine (Hs2.out _).mono ?_; rintro e w8 ⟨rfl, hb8⟩; have hx8 := hx7.below hb8 hx7.lt; have hy8 := hy7.below hb8 hy7.lt; have hl8 := hl7.trans (hb8.mono hl7.size)))
      all_goals
        have hx9 := Lib.hid hx8
        have hy9 := Lib.hid hy8
        have hl9 := Lib.hid hl8
        clear c0 c1 c2 f0 f1 f2 e0 e1 e2 p0 p1 p2 hx8 hy8 hl8 hx7 hy7 hl7 hb7 hb8 hx6 hy6 hl6
        obtain ⟨c0, c1, c2, f0, f1, f2⟩ := hx9.out.three
        obtain ⟨d0, d1, d2, g0, g1, g2⟩ := hy9.out.three
        go_wp2_with fail
        refine (Hok.out _).mono ?_
        rintro e w10 ⟨rfl, hb10⟩
        have hy10 := hy9.out.below hb10 hy9.out.lt
        have hl10 := hl9.out.trans (hb10.mono hl9.out.size)
        clear c0 c1 c2 f0 f1 f2 d0 d1 d2 g0 g1 g2
        obtain ⟨d0, d1, d2, g0, g1, g2⟩ := hy10.three
        go_wp2_with fail
        go_ret
        exact ⟨rfl, hl10⟩

/-! ### THE ROW's STEP: WRITTEN OUT: LEAVE IT -/
set_option maxRecDepth 100000 in
theorem lifted (os : Os) (started : os.Started) (H : Type) (enc : TypeId × Value → H) :
    ReturnsInHanded {} Try.checked os 5 .any (Rows.fnUtfRightSpec.pre6 enc Try.prog Try.f5 Rows.fnUtfRightRow.domain false) (Rows.fnUtfRightSpec.post enc Try.prog Try.f5 false true false false) := by
  refine returnsInHanded_of_change (C := Try.checked) own started (by kernel_rfl) Try.func5
    (ChangeSpec.witness6 (enc := enc) (C := Try.checked) false ⟨#[], #[.slice none 0 0], []⟩ 8 (by kernel_rfl) (by kernel_rfl) (by kernel_rfl) (by kernel_rfl)) ?_
  intro W base args ds gs before hval0 hW hcnd _
  have hval : ∀ (j : Nat) t v, Try.f5.params[j]? = some t → args[j]? = some v → Value.okWide Try.prog W .any base t v := hval0
  have hW' := hW
  obtain ⟨p, q, hA0, hV, rfl, hfz, hnd⟩ := hW
  have hA : DataW.TrodAll enc Try.prog W 0 (fun _ => true) true Try.f5.params.toList args.toList ds p := hA0
  rw [Try.params5] at hA hval
  obtain ⟨v0, vs0, d0, ds0, p0, q0, hargs, rfl, rfl, h0, r0⟩ := trodAll_cons hA
  obtain ⟨rfl, rfl, rfl⟩ := trodAll_nil r0
  obtain rfl : args = #[v0] := by cases args; simp_all
  obtain ⟨rfl, rfl⟩ := trodVars_none hV
  obtain ⟨a0, len0, cap0, rfl⟩ := okWide_slice Try.underlying22 (hval 0 22 v0 rfl rfl)
  have k0 := h0
  have lt0 : ∀ x ∈ p0, x.block < W.heap.size := by obtain ⟨m, hm⟩ := k0; exact DataW.trod_lt m _ _ _ hm
  obtain ⟨z0, w0⟩ : ∃ zs, IsRow .u8 W a0 len0 cap0 zs := by
    obtain ⟨fuel, hf⟩ := h0
    rcases open_ints Try.underlying22 Try.underlying5 (by kernel_rfl) hf with ⟨hcs, _⟩ | ⟨x, l, c, zs, hcs, _, hl, hm, hz, _, hcell, hwz⟩
    · simp [Value.cells] at hcs
      obtain ⟨rfl, rfl, rfl⟩ := hcs
      exact ⟨[], .inl ⟨rfl, rfl, rfl, rfl⟩⟩
    · simp [Value.cells] at hcs
      obtain ⟨rfl, rfl, rfl⟩ := hcs
      exact ⟨zs, .inr ⟨_, rfl, hl, hm, by simpa using hz, hcell, hwz⟩⟩
  clear hA0 hval0
  refine (walk a0 len0 cap0 z0 W w0).mono fun e W' ⟨he, bel⟩ => ?_
  subst he
  exact ⟨_, rfl, _, _, _, [], _, [], hW', trodAll_mk1 (shut_bool Try.underlying4 _), (trodAll_cons_mk (Below.trod laidOut (by kernel_rfl) (of_decide_eq_true (by kernel_rfl)) k0 bel lt0) trodAll_mk0), rfl, bel.frame _, fun h => by cases h⟩

theorem over : Rows.fnUtfRightRow.holds Try.pinned (OpenSpec.ofChange Rows.fnUtfRightSpec) :=
  OpenClaim.holds_of_wide 5 Try.f5 rfl rfl rfl rfl rfl rfl rfl ⟨rfl, rfl, rfl, rfl, rfl⟩ rfl rfl rfl rfl rfl (by kernel_rfl) Try.func5 (by kernel_rfl)
    (of_decide_eq_true (by kernel_rfl)) (by unfold Func.isWrapper; first | (rw [if_pos (by decide +kernel)]; kernel_rfl) | (rw [if_neg (by decide +kernel)]; exact ⟨rfl, rfl⟩))
    (fun os started H enc _ => lifted os started H enc)

/-- ████ THE STATEMENT ████ -/
theorem proved : Rows.FnUtfRightSaid := over
end Go.Proofs.Ytoohcepobbbejaa.fnUtfRight
