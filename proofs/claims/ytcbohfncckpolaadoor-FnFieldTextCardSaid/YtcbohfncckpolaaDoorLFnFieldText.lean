/-
  For every code of bytes, laws.FnFieldText returns true: a field's text is the reference's and is read back as the field, and every string that is read as a field is that field's text. The card ties the listed tables and the program's sentinel to the program's text. No other condition.
-/
import Derived.Test.YtcbohfncckpolaaDoorRows
import Derived.WalkKit
import Derived.ProofKit
import Derived.OpenShut
import Derived.ShutString
import Derived.ChangeOld
import Derived.Below
import Derived.Test.YtcbohfncckpolaaDoorCards
import Derived.Test.YtcbohfncckpolaaDoorTie
import Derived.Deep.DeepHandedRow
import Derived.Lib.LaidTab
import Derived.LaidMore
import Derived.LaidHandle
import Derived.Stop.LaidErr
import Derived.Test.YtcbohfncckpolaaDoorReadAllT
import Derived.Test.YtcbohfncckpolaaDoorVars
import Derived.Deep.DeepCutAuto
namespace Go.Proofs.YtcbohfncckpolaaDoor.fnFieldText
open Go.ChangeShapes Go.WideShapes Go.ChangeAt Go.RowKit
open Go.ChangeMaps (open_string shut_string)
set_option linter.unusedVariables false

theorem own : ownKnob Tryd.prog.godebug = none := by kernel_rfl
theorem laidOut : laidOutB Tryd.prog = true := by kernel_rfl
def IsRow (k : IntKind) (w : World) (a : Option Addr) (len cap : Nat) (zs : List Int) : Prop :=
  (a = none ∧ len = 0 ∧ cap = 0 ∧ zs = []) ∨
  ∃ x, a = some x ∧ len ≤ cap ∧ cap ≤ maxLen ∧ zs.length = cap ∧ (∀ i, i < zs.length → w.cell? (x.add i) = some (.int k (zs.getD i 0))) ∧ ∀ n ∈ zs, (Lit.int k n).wf = true
attribute [local go_sem] Region.wanted yielded
theorem len_le_cap {w : World} {a : Option Addr} {len cap : Nat} {z : List Int} (h : IsRow .u8 w a len cap z) : len ≤ cap := by
  rcases h with ⟨_, rfl, rfl, _⟩ | ⟨_, _, h, _⟩
  · exact Nat.le_refl _
  · exact h
theorem fldEq (A1 A2 : Int) (A3 A4 : Bool) (A5 : Int) (w : World) : (Op.equalIn 10000 25 (.agg #[.int .i64 A1, .int .i64 A2, .bool A3, .bool A4, .int .i64 A5]) (.agg #[.int .i64 A1, .int .i64 A2, .bool A3, .bool A4, .int .i64 A5])).run Tryd.prog w = .ok true w := by
  go_simp
open Num in
set_option maxHeartbeats 4000000 in
set_option maxRecDepth 100000 in
theorem walk (a0 : Option Addr) (len0 cap0 : Nat) (z0 : List Int) (w : World) (w0 : IsRow .u8 w a0 len0 cap0 z0) (htab : Go.Lib.TabIs Tryd.prog w "internal/strconv.uint64pow10" .u64 Go.Lib.pow10Tab) (hE0 : ∃ a, Num.ErrText w a) (hsh : w.ShapedOpen Tryd.prog) :
    Calls Tryd.prog 3 #[.slice a0 len0 cap0] w fun e w' => e = .returned (.bool true) ∧ Below w.heap.size w w' := by
  obtain ⟨ae, hE⟩ := hE0
  have HT : Hid (∀ wx, Below w.heap.size w wx → Go.Lib.TabIs Tryd.prog wx "internal/strconv.uint64pow10" .u64 Go.Lib.pow10Tab) := Lib.hid fun wx hb => tabIs_below htab hb
  have HR : Hid (∀ (s : ByteArray) (wx : World), s.size ≤ 1048576 → Below w.heap.size w wx → Calls Tryd.prog 11 #[.string s] wx fun e w' => e = .returned (.tuple #[fieldV ((readF s.data.toList).getD zeroF), .bool (readF s.data.toList).isSome]) ∧ Below wx.heap.size wx w') := Lib.hid fun s wx hs hb => implReadField_any s ae wx hs (shaped_below hsh hb) (hE.below hb)
  clear htab hE hsh
  by_cases hb : 1048576 < len0
  · clear w0
    go_enter Tryd.func3, Tryd.ntmps3
    go_wp2
    go_ret
    exact ⟨rfl, Below.refl _ _⟩
  · have hcode := codeOf w0 (by omega)
    have Hcode := Lib.hid hcode
    clear w0 hcode
    go_enter Tryd.func3, Tryd.ntmps3
    go_wp2_with (go_at_call 7; go_in)
    refine (drawFieldText_any a0 len0 cap0 w w.heap.size (Nat.le_refl _) Hcode.out).mono ?_
    rintro e w1 ⟨f, rfl, hb1⟩
    have HI1 : Hid (∀ wx, Below w.heap.size w wx → Calls Tryd.prog 9 #[fieldV f] wx fun e w' => e = .returned (.string ⟨(textF f).toArray⟩) ∧ Below wx.heap.size wx w') := Lib.hid fun wx hb => implFieldText_any f wx (HT.out _ hb)
    have HS1 := Lib.hid (specFieldText_any f)
    have hle := textF_len0 f
    have hcase : (readF (textF f) = some f ∧ textF f ≠ []) ∨ (readF (textF f) = none ∧ textF f = []) := by
      by_cases ht : hasText f
      · exact .inl ⟨readF_text ht, textF_ne ht⟩
      · have := textF_no ht
        exact .inr ⟨by rw [this]; unfold readF; rw [if_neg (by simp)], this⟩
    obtain ⟨sT, hsT⟩ : ∃ s : ByteArray, s = ⟨(textF f).toArray⟩ := ⟨_, rfl⟩
    have hsz : sT.size ≤ 60 := by rw [hsT]; simpa [ByteArray.size] using hle
    have HR1 : Hid (∀ wx, Below w.heap.size w wx → Calls Tryd.prog 11 #[.string sT] wx fun e w' => e = .returned (.tuple #[fieldV ((readF (textF f)).getD zeroF), .bool (readF (textF f)).isSome]) ∧ Below wx.heap.size wx w') := Lib.hid fun wx hb => by
      have h := HR.out sT wx (by omega) hb
      rw [show sT.data.toList = textF f by rw [hsT]] at h
      exact h
    have hem : (textF f ≠ [] → sT.toList.isEmpty = false) ∧ (textF f = [] → sT = ⟨#[]⟩) := by
      refine ⟨fun h => ?_, fun h => by rw [hsT, h]⟩
      rw [ByteArray.toList_eq, hsT]
      simpa using h
    rw [← hsT] at HI1 HS1
    have Hem := Lib.hid hem
    have hX : ∃ (x : RF) (ok : Bool), (readF (textF f)).getD zeroF = x ∧ (readF (textF f)).isSome = ok ∧ ((ok = true ∧ x = f ∧ sT.toList.isEmpty = false) ∨ (ok = false ∧ sT = ⟨#[]⟩)) := by
      rcases hcase with ⟨h1, h2⟩ | ⟨h1, h2⟩
      · exact ⟨f, true, by rw [h1]; rfl, by rw [h1]; rfl, .inl ⟨rfl, rfl, hem.1 h2⟩⟩
      · exact ⟨zeroF, false, by rw [h1]; rfl, by rw [h1]; rfl, .inr ⟨rfl, hem.2 h2⟩⟩
    obtain ⟨x, ok, hx, hok, hcs⟩ := hX
    rw [hx, hok] at HR1
    have Hcs := Lib.hid hcs
    clear hle hcase hem Hem hsT hx hok hcs
    obtain ⟨A1, A2, A3, A4, A5⟩ := f
    obtain ⟨X1, X2, X3, X4, X5⟩ := x
    unfold fieldV at HI1 HS1 HR1 ⊢
    simp only at HI1 HS1 HR1 ⊢
    have hx2 := Box.fresh w1 #[.int .i64 A1, .int .i64 A2, .bool A3, .bool A4, .int .i64 A5] 25
    have hl2 : Below w.heap.size w (w1.alloc (.cells #[.int .i64 A1, .int .i64 A2, .bool A3, .bool A4, .int .i64 A5] 25)) := hb1.alloc hb1.size _
    clear hb1
    go_upto_region 4 with fail
    generalize w1.alloc (.cells #[.int .i64 A1, .int .i64 A2, .bool A3, .bool A4, .int .i64 A5] 25) = w2 at hx2 hl2 ⊢
    generalize w1.heap.size = gf at hx2 ⊢
    obtain ⟨v0, v1, v2, v3, v4⟩ := Box.five' hx2
    go_wp2_with fail
    refine (HI1.out _ hl2).mono ?_
    rintro e w3 ⟨rfl, hb3⟩
    have hx3 := hx2.below hb3 hx2.lt
    have hl3 := hl2.trans (hb3.mono hl2.size)
    clear hx2 hl2 hb3 v0 v1 v2 v3 v4 HI1
    obtain ⟨v0, v1, v2, v3, v4⟩ := Box.five' hx3
    go_wp2_with fail
    refine (HS1.out _).mono ?_
    rintro e w4 ⟨rfl, hb4⟩
    have hx4 := hx3.below hb4 hx3.lt
    have hl4 := hl3.trans (hb4.mono hl3.size)
    have hbn : (sT.toList != sT.toList) = false := by simp
    clear hx3 hl3 hb4 v0 v1 v2 v3 v4 HS1
    go_wp2_with fail
    refine (HR1.out _ hl4).mono ?_
    rintro e w5 ⟨rfl, hb5⟩
    have hl5 := hl4.trans (hb5.mono hl4.size)
    have hx5 := (hx4.below hb5 hx4.lt).alloc (.cells #[.int .i64 X1, .int .i64 X2, .bool X3, .bool X4, .int .i64 X5] 25)
    have hy5 := Box.fresh w5 #[.int .i64 X1, .int .i64 X2, .bool X3, .bool X4, .int .i64 X5] 25
    have hl6 : Below w.heap.size w (w5.alloc (.cells #[.int .i64 X1, .int .i64 X2, .bool X3, .bool X4, .int .i64 X5] 25)) := hl5.alloc hl5.size _
    clear hx4 hl4 hb5 hl5 HR1 hbn
    go_upto_region 8 with fail
    generalize w5.alloc (.cells #[.int .i64 X1, .int .i64 X2, .bool X3, .bool X4, .int .i64 X5] 25) = w6 at hx5 hy5 hl6 ⊢
    generalize w5.heap.size = gx at hy5 ⊢
    have Hc6 := Lib.hid (Hcode.out.below hl6)
    go_wp2_with fail
    refine (drawReadField_any a0 len0 cap0 _ w.heap.size hl6.size Hc6.out).mono ?_
    rintro e w7 ⟨t, ht, rfl, hb7⟩
    have hx7 := hx5.below hb7 hx5.lt
    have hy7 := hy5.below hb7 hy5.lt
    have hl7 := hl6.trans (hb7.mono hl6.size)
    have HR2 := Lib.hid (HR.out t w7 (by omega) hl7)
    have hY : ∃ (y : RF) (rt : Bool), (readF t.data.toList).getD zeroF = y ∧ (readF t.data.toList).isSome = rt ∧ (rt = true → textF y = t.data.toList) := by
      cases hr : readF t.data.toList with
      | some y => exact ⟨y, true, rfl, rfl, fun _ => (readF_some hr).2⟩
      | none => exact ⟨zeroF, false, rfl, rfl, fun h => by cases h⟩
    obtain ⟨y, rt, hy, hrt, hyt⟩ := hY
    rw [hy, hrt] at HR2
    have HI2 : Hid (rt = true → ∀ wx, Below w.heap.size w wx → Calls Tryd.prog 9 #[fieldV y] wx fun e w' => e = .returned (.string t) ∧ Below wx.heap.size wx w') := Lib.hid fun h wx hb => by
      have h' := implFieldText_any y wx (HT.out _ hb)
      rw [hyt h] at h'
      exact h'
    clear hx5 hy5 hl6 hb7 hy hrt hyt ht Hc6 Hcode HR
    obtain ⟨Y1, Y2, Y3, Y4, Y5⟩ := y
    unfold fieldV at HR2 HI2
    simp only at HR2 HI2
    go_wp2_with fail
    refine HR2.out.mono ?_
    rintro e w8 ⟨rfl, hb8⟩
    have hl8 := hl7.trans (hb8.mono hl7.size)
    have hx8 := (hx7.below hb8 hx7.lt).alloc (.cells #[.int .i64 Y1, .int .i64 Y2, .bool Y3, .bool Y4, .int .i64 Y5] 25)
    have hy8 := (hy7.below hb8 hy7.lt).alloc (.cells #[.int .i64 Y1, .int .i64 Y2, .bool Y3, .bool Y4, .int .i64 Y5] 25)
    have hz8 := Box.fresh w8 #[.int .i64 Y1, .int .i64 Y2, .bool Y3, .bool Y4, .int .i64 Y5] 25
    have hl9 : Below w.heap.size w (w8.alloc (.cells #[.int .i64 Y1, .int .i64 Y2, .bool Y3, .bool Y4, .int .i64 Y5] 25)) := hl8.alloc hl8.size _
    clear hx7 hy7 hl7 hb8 hl8 HR2
    go_upto_region 10 with fail
    generalize w8.alloc (.cells #[.int .i64 Y1, .int .i64 Y2, .bool Y3, .bool Y4, .int .i64 Y5] 25) = w9 at hx8 hy8 hz8 hl9 ⊢
    generalize w8.heap.size = gy at hz8 ⊢
    obtain ⟨v0, v1, v2, v3, v4⟩ := Box.five' hx8
    obtain ⟨u0, u1, u2, u3, u4⟩ := Box.five' hy8
    obtain ⟨z0, z1, z2, z3, z4⟩ := Box.five' hz8
    clear hx8 hy8 hz8
    have hcs := Hcs.out
    have hfe := fldEq A1 A2 A3 A4 A5
    have hbt : (t.toList == t.toList) = true := by simp
    rcases hcs with ⟨rfl, hxf, hse⟩ | ⟨rfl, rfl⟩
    · injection hxf with e1 hxf
      injection hxf with e2 hxf
      injection hxf with e3 hxf
      injection hxf with e4 e5
      subst e1 e2 e3 e4 e5
      cases rt with
      | true =>
        have HI3 := Lib.hid (HI2.out rfl)
        clear HI2 Hcs
        go_wp2_with fail
        refine (HI3.out _ hl9).mono ?_
        rintro e w10 ⟨rfl, hb10⟩
        have hl10 := hl9.trans (hb10.mono hl9.size)
        clear hl9 hb10 v0 v1 v2 v3 v4 u0 u1 u2 u3 u4 z0 z1 z2 z3 z4
        go_wp2_with fail
        go_ret
        exact ⟨rfl, hl10⟩
      | false =>
        clear HI2 Hcs
        go_wp2_with fail
        go_ret
        exact ⟨rfl, hl9⟩
    · cases rt with
      | true =>
        have HI3 := Lib.hid (HI2.out rfl)
        clear HI2 Hcs
        go_wp2_with fail
        refine (HI3.out _ hl9).mono ?_
        rintro e w10 ⟨rfl, hb10⟩
        have hl10 := hl9.trans (hb10.mono hl9.size)
        clear hl9 hb10 v0 v1 v2 v3 v4 u0 u1 u2 u3 u4 z0 z1 z2 z3 z4
        go_wp2_with fail
        go_ret
        exact ⟨rfl, hl10⟩
      | false =>
        clear HI2 Hcs
        go_wp2_with fail
        go_ret
        exact ⟨rfl, hl9⟩

/-- The cells of a pinned table of numbers, for the witness. -/
def pinCells : DataW Unit → Array Value
  | .agg ds => (ds.map fun d => match d with | .lit (.int k n) => Value.int k n | _ => Value.int .u8 0).toArray
  | _ => #[]
noncomputable def witWorld0 (os : Os) : World :=
  { (World.doorLaid Tryd.prog 53 os) with heap := (World.doorLaid Tryd.prog 53 os).heap.modify 5 fun o => match o with | .cells _ t fr => .cells (pinCells Go.Pinned.utf8First) t fr | o => o }
set_option maxRecDepth 100000 in
theorem contract (H : Type) (enc : TypeId × Value → H) (W : World) (base : Nat) (args : Array Value) (ds gs : List (DataW H)) (before : List MemPlace)
    (hval : ∀ (j : Nat) t v, Tryd.f3.params[j]? = some t → args[j]? = some v → Value.okWide Tryd.prog W .any base t v)
    (hW : DataW.Whole enc Tryd.prog Tryd.f3.params.toList Rows.fnFieldTextSpec.vars false W args.toList ds gs before) (hL : laidMetH Tryd.prog Rows.fnFieldTextRow.laid W) (hsh : W.ShapedOpen Tryd.prog) :
    Calls Tryd.prog 3 args W fun e W' => ∃ v, e = .returned v ∧ Rows.fnFieldTextSpec.post enc Tryd.prog Tryd.f3 false true false false W args v W' := by
  have hW' := hW
  obtain ⟨p, q, hA0, hV, rfl, hfz, hnd⟩ := hW
  have hA : DataW.TrodAll enc Tryd.prog W 0 (fun _ => true) true Tryd.f3.params.toList args.toList ds p := hA0
  rw [Tryd.params3] at hA hval
  obtain ⟨v0, vs0, d0, ds0, p0, q0, hargs, rfl, rfl, h0, r0⟩ := trodAll_cons hA
  obtain ⟨rfl, rfl, rfl⟩ := trodAll_nil r0
  obtain rfl : args = #[v0] := by cases args; simp_all
  have hVk := hV
  obtain ⟨_, _, _, _, _, _, rfl, _, _, _, _, _⟩ := trodVars_one hV
  obtain ⟨a0, len0, cap0, rfl⟩ := okWide_slice Tryd.underlying22 (hval 0 22 v0 rfl rfl)
  have k0 := h0
  have lt0 : ∀ x ∈ p0, x.block < W.heap.size := by obtain ⟨m, hm⟩ := k0; exact DataW.trod_lt m _ _ _ hm
  obtain ⟨z0, w0⟩ : ∃ zs, IsRow .u8 W a0 len0 cap0 zs := by
    obtain ⟨fuel, hf⟩ := h0
    rcases open_ints Tryd.underlying22 Tryd.underlying5 (by kernel_rfl) hf with ⟨hcs, _⟩ | ⟨x, l, c, zs, hcs, _, hl, hm, hz, _, hcell, hwz⟩
    · simp [Value.cells] at hcs
      obtain ⟨rfl, rfl, rfl⟩ := hcs
      exact ⟨[], .inl ⟨rfl, rfl, rfl, rfl⟩⟩
    · simp [Value.cells] at hcs
      obtain ⟨rfl, rfl, rfl⟩ := hcs
      exact ⟨zs, .inr ⟨_, rfl, hl, hm, by simpa using hz, hcell, hwz⟩⟩
  clear hA0
  refine (walk a0 len0 cap0 z0 W w0 (Num.pow10_of hL.tail.tail) (Num.errText_of hL.tail.tail.tail.tail) (hsh)).mono fun e W' ⟨he, bel⟩ => ?_
  subst he
  exact ⟨_, rfl, _, _, _, [], _, _, hW', trodAll_mk1 (shut_bool Tryd.underlying4 _), (trodAll_cons_mk (Below.trod laidOut (by kernel_rfl) (of_decide_eq_true (by kernel_rfl)) k0 bel lt0) trodAll_mk0), Num.vars_again bel hVk, bel.frame _, fun h => by cases h⟩

set_option maxRecDepth 100000 in
theorem laid_met (os : Os) : laidMet Tryd.prog Rows.fnFieldTextRow.laid ((witWorld0 os).forCall (fun _ _ => 0) ⟨#[], #[.slice none 0 0], []⟩).memory :=
  laidMet_of_run' 8 (by kernel_rfl) (by kernel_rfl)
set_option maxRecDepth 100000 in
theorem reads (os : Os) {H : Type} (enc : TypeId × Value → H) : ∃ gs places, DataW.whole enc Tryd.prog ((witWorld0 os).forCall (fun _ _ => 0) ⟨#[], #[.slice none 0 0], []⟩).memory Tryd.f3.params.toList Rows.fnFieldTextSpec.vars false (#[.slice none 0 0] : Array Value).toList 8 = some ([.nil], gs, places) := by
  have h : (DataW.whole enc Tryd.prog ((witWorld0 os).forCall (fun _ _ => 0) ⟨#[], #[.slice none 0 0], []⟩).memory Tryd.f3.params.toList Rows.fnFieldTextSpec.vars false (#[.slice none 0 0] : Array Value).toList 8).map (fun x => x.1) = some ([.nil] ) := by kernel_rfl
  obtain ⟨⟨a, b, p⟩, hx, e⟩ := Option.map_eq_some_iff.1 h
  simp only at e
  subst e
  exact ⟨b, p, hx⟩

set_option maxRecDepth 100000 in
theorem lifted (os : Os) (started : os.Started) (H : Type) (enc : TypeId × Value → H) (F : Stop.Interp) :
    ReturnsInHanded {} Tryd.checked os 3 .any ((OpenSpec.ofChange Rows.fnFieldTextSpec).preRow enc Tryd.prog Tryd.f3 Rows.fnFieldTextRow.domain false Rows.fnFieldTextRow.laid) (((OpenSpec.ofChange Rows.fnFieldTextSpec).at F).post enc Tryd.prog Tryd.f3 false true false false) := by
  obtain ⟨gs0, places, hx⟩ := reads os enc
  refine returnsInHanded_of_row (C := Tryd.checked) (s := OpenSpec.ofChange Rows.fnFieldTextSpec) own started (by kernel_rfl) Tryd.func3
    (witness_row_at (enc := enc) (C := Tryd.checked) false (witWorld0 os) #[.slice none 0 0] rfl (by kernel_rfl) (by kernel_rfl) (by kernel_rfl)
      (OpenSpec.preRow_of_cond 8 hx (by kernel_rfl) (fun k hk => by cases hk) (by kernel_rfl) (laid_met os))) ?_
  intro W base args ds gs before hval hW _ _ _ hL hsh _
  exact contract H enc W base args ds gs before hval hW hL hsh
theorem said : Rows.fnFieldTextRow.holds Tryd.pinned (OpenSpec.ofChange Rows.fnFieldTextSpec) :=
  OpenClaim.holds_of_cond 3 Tryd.f3 rfl rfl rfl rfl rfl rfl rfl ⟨rfl, rfl, rfl, rfl, rfl⟩ rfl rfl rfl rfl rfl (by kernel_rfl) Tryd.func3 (by kernel_rfl)
    (of_decide_eq_true (by kernel_rfl)) (by unfold Func.isWrapper; first | (rw [if_pos (by decide +kernel)]; kernel_rfl) | (rw [if_neg (by decide +kernel)]; exact ⟨rfl, rfl⟩))
    (fun os started H enc _ F => by rw [OpenClaim.pre_eq_preRow]; exact lifted os started H enc F)
theorem plain (f : FuncId) (fn : Func) (hf : Tryd.pinned.checked.prog.funcNamed "loop.example/g00498/laws.FnFieldText" = some f) (hfn : Tryd.pinned.checked.prog.funcs[f]? = some fn) :
    true = Tryd.pinned.checked.prog.looks [] ∧ ∀ (j : Nat) t, fn.params[j]? = some t → Tryd.pinned.checked.prog.wantsStandIn t = false := by
  obtain rfl : f = 3 := Option.some.inj ((show Tryd.prog.funcNamed "loop.example/g00498/laws.FnFieldText" = some 3 by kernel_rfl).symm.trans hf) |>.symm
  obtain rfl : fn = Tryd.f3 := (Option.some.inj (Tryd.func3.symm.trans hfn)).symm
  refine ⟨by kernel_rfl, fun j t ht => ?_⟩
  rw [Tryd.params3] at ht
  obtain rfl : t = 22 := by simpa using Array.mem_of_getElem? ht
  exact (show Tryd.prog.wantsStandIn 22 = false by kernel_rfl)
theorem proved : Rows.FnFieldTextCardSaid :=
  Claim7.holds_tied_plain_at .later [] _ _ _ _ said (fun _ h => by cases h) (by kernel_rfl) (fun _ h => by cases h) fnFieldText_row_tie rfl ⟨rfl, rfl⟩ (by kernel_rfl) rfl plain (by kernel_rfl)
end Go.Proofs.YtcbohfncckpolaaDoor.fnFieldText
