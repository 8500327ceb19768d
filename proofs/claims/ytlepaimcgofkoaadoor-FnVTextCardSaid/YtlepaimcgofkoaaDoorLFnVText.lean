/-
  For every code of bytes, laws.FnVText returns true: ViolationText answers as the reference's, and two violations with codes from 1 to 9 have one text just if they are one. The card ties the listed tables to the program's text. No other condition.
-/
import Derived.Test.YtlepaimcgofkoaaDoorRows
import Derived.WalkKit
import Derived.ProofKit
import Derived.OpenShut
import Derived.ShutString
import Derived.ChangeOld
import Derived.Below
import Derived.Test.YtlepaimcgofkoaaDoorCards
import Derived.Test.YtlepaimcgofkoaaDoorTie
import Derived.Deep.DeepHandedRow
import Derived.Lib.LaidTab
import Derived.LaidMore
import Derived.LaidHandle
import Derived.Stop.LaidErr
import Derived.Test.YtlepaimcgofkoaaDoorViolImpl
import Derived.Test.YtlepaimcgofkoaaDoorVars
import Derived.Test.YtlepaimcgofkoaaDoorViolOne
import Derived.Test.YtlepaimcgofkoaaDoorTail
import Derived.Test.YtlepaimcgofkoaaDoorCheck
namespace Go.Proofs.YtlepaimcgofkoaaDoor.fnVText
open Go.ChangeShapes Go.WideShapes Go.ChangeAt Go.RowKit
open Go.ChangeMaps (open_string shut_string)
set_option linter.unusedVariables false

theorem own : ownKnob Tryd.prog.godebug = none := by kernel_rfl
theorem laidOut : laidOutB Tryd.prog = true := by kernel_rfl
def IsRow (k : IntKind) (w : World) (a : Option Addr) (len cap : Nat) (zs : List Int) : Prop :=
  (a = none ∧ len = 0 ∧ cap = 0 ∧ zs = []) ∨
  ∃ x, a = some x ∧ len ≤ cap ∧ cap ≤ maxLen ∧ zs.length = cap ∧ (∀ i, i < zs.length → w.cell? (x.add i) = some (.int k (zs.getD i 0))) ∧ ∀ n ∈ zs, (Lit.int k n).wf = true
attribute [local go_sem] Region.wanted yielded
theorem len_le_cap {w : World} {a : Option Addr} {len cap : Nat} {z : List Int} (h : IsRow .u8 w a len cap z) : len ≤ cap := by
  rcases h with ⟨_, rfl, rfl, _⟩ | ⟨_, _, h, _⟩
  · exact Nat.le_refl _
  · exact h
theorem violEq (c m f d n h : Int) (w : World) : (Op.equalIn 10000 29 (.agg #[.int .i64 c, .int .i64 m, .int .i64 f]) (.agg #[.int .i64 d, .int .i64 n, .int .i64 h])).run Tryd.prog w = .ok ((c == d) && ((m == n) && (f == h))) w := by
  cases h1 : (c == d)
  · go_simp
  · cases h2 : (m == n)
    · go_simp
    · cases h3 : (f == h)
      · go_simp
      · go_simp
open Num in
theorem small64 {x : Int} (h : -1 ≤ x) (h' : x ≤ 20) : I64 x := ⟨by omega, by omega⟩
open Num in
set_option maxHeartbeats 4000000 in
set_option maxRecDepth 100000 in
theorem walk (a0 : Option Addr) (len0 cap0 : Nat) (z0 : List Int) (w : World) (w0 : IsRow .u8 w a0 len0 cap0 z0) (htab : Num.Tabs w) :
    Calls Tryd.prog 4 #[.slice a0 len0 cap0] w fun e w' => e = .returned (.bool true) ∧ Below w.heap.size w w' := by
  have HT := Lib.hid htab
  clear htab
  by_cases hb : 1048576 < len0
  · clear w0
    go_enter Tryd.func4, Tryd.ntmps4
    go_wp2
    go_ret
    exact ⟨rfl, Below.refl _ _⟩
  · have hcap := len_le_cap w0
    have hcode := codeOf w0 (by omega)
    have Hcode := Lib.hid hcode
    clear w0 hcode
    go_enter Tryd.func4, Tryd.ntmps4
    go_wp2_with (go_at_call 7; go_in)
    refine (drawViol_any w.heap.size a0 len0 cap0 _ (Nat.le_refl _) Hcode.out).mono ?_
    rintro e w1 ⟨c, m, f, hc, hm, hf, rfl, hb1⟩
    have hx1 := Box.fresh w1 #[.int .i64 c, .int .i64 m, .int .i64 f] 29
    have hl1 : Below w.heap.size w (w1.alloc (.cells #[.int .i64 c, .int .i64 m, .int .i64 f] 29)) := hb1.alloc hb1.size _
    clear hb1
    go_wp2_with fail
    generalize w1.alloc (.cells #[.int .i64 c, .int .i64 m, .int .i64 f] 29) = w2 at hx1 hl1 ⊢
    generalize w1.heap.size = g3 at hx1 ⊢
    have Hc2 := Lib.hid (Hcode.out.below hl1)
    refine (tail_any w.heap.size a0 len0 cap0 _ Hc2.out hcap).mono ?_
    rintro e w2' ⟨a1, len1, cap1, rfl, hc3, rfl⟩
    have Hc3 := Lib.hid hc3
    clear hc3 Hc2 Hcode hcap
    go_wp2_with fail
    refine (drawViol_any w.heap.size a1 len1 cap1 _ hl1.size Hc3.out).mono ?_
    rintro e w3 ⟨d, n, h, hd, hn, hh, rfl, hb3⟩
    have hx3 := hx1.below hb3 hx1.lt
    have hl3 := hl1.trans (hb3.mono hl1.size)
    clear hx1 hl1 hb3 Hc3
    have hy4 := Box.fresh w3 #[.int .i64 d, .int .i64 n, .int .i64 h] 29
    have hx4 := hx3.alloc (.cells #[.int .i64 d, .int .i64 n, .int .i64 h] 29)
    have hl4 : Below w.heap.size w (w3.alloc (.cells #[.int .i64 d, .int .i64 n, .int .i64 h] 29)) := hl3.alloc hl3.size _
    obtain ⟨v0, v1, v2, _⟩ := hx3.three
    have hq3 := hx3.lt
    go_wp2_with fail
    clear v0 v1 v2 hq3 hx3 hl3
    generalize w3.alloc (.cells #[.int .i64 d, .int .i64 n, .int .i64 h] 29) = w4 at hx4 hy4 hl4 ⊢
    generalize w3.heap.size = g4 at hy4 ⊢
    have HC := Lib.hid (show (-1 ≤ c ∧ c ≤ 10) ∧ I64 m ∧ I64 f from ⟨hc, small64 (by omega) (by omega), small64 (by omega) (by omega)⟩)
    have HD := Lib.hid (show (-1 ≤ d ∧ d ≤ 10) ∧ I64 n ∧ I64 h from ⟨hd, small64 (by omega) (by omega), small64 (by omega) (by omega)⟩)
    clear hc hm hf hd hn hh
    obtain ⟨sv, hsv⟩ : ∃ s : ByteArray, s = ⟨(violText c m f).toArray⟩ := ⟨_, rfl⟩
    obtain ⟨sd, hsd⟩ : ∃ s : ByteArray, s = ⟨(violText d n h).toArray⟩ := ⟨_, rfl⟩
    refine (implViolText_any c m f _ HC.out.2.1 HC.out.2.2 (tabs_below HT.out hl4)).mono ?_
    rw [← hsv]
    rintro e w5 ⟨rfl, hb5⟩
    have HX5 := Lib.hid (hx4.below hb5 hx4.lt)
    have HY5 := Lib.hid (hy4.below hb5 hy4.lt)
    have hl5 := hl4.trans (hb5.mono hl4.size)
    clear hx4 hy4 hl4 hb5
    obtain ⟨v0, v1, v2, _⟩ := HX5.out.three
    obtain ⟨y0, y1, y2, _⟩ := HY5.out.three
    go_wp2_with fail
    refine (specViolText_any c m f _ HC.out.2.1 HC.out.2.2).mono ?_
    rw [← hsv]
    rintro e w6 ⟨rfl, hb6⟩
    have HX6 := Lib.hid (HX5.out.below hb6 HX5.out.lt)
    have HY6 := Lib.hid (HY5.out.below hb6 HY5.out.lt)
    have hl6 := hl5.trans (hb6.mono hl5.size)
    clear HX5 HY5 hl5 hb6 v0 v1 v2 y0 y1 y2
    obtain ⟨v0, v1, v2, _⟩ := HX6.out.three
    obtain ⟨y0, y1, y2, _⟩ := HY6.out.three
    have hbn : (sv.toList != sv.toList) = false := by simp
    have Hv := Lib.hid hsv
    have Hd := Lib.hid hsd
    clear hsv hsd
    by_cases c1 : 1 ≤ c
    · by_cases c2 : c ≤ 9
      · by_cases d1 : 1 ≤ d
        · by_cases d2 : d ≤ 9
          · have q1 : decide (c < 1) = false := decide_eq_false (by omega)
            have q2 : decide (9 < c) = false := decide_eq_false (by omega)
            have q3 : decide (d < 1) = false := decide_eq_false (by omega)
            have q4 : decide (9 < d) = false := decide_eq_false (by omega)
            have Hone := Lib.hid (fun e => viol_one (m := m) (f := f) (n := n) (g := h) ⟨c1, c2⟩ ⟨d1, d2⟩ e)
            clear c1 c2 d1 d2
            have IV : Hid (∀ wx : World, Below w.heap.size w wx → Calls Tryd.prog 16 #[.agg #[.int .i64 d, .int .i64 n, .int .i64 h]] wx fun e w' => e = .returned (.string sd) ∧ Below wx.heap.size wx w') := Lib.hid (by
              rw [Hd.out]; exact fun wx hbx => implViolText_any d n h wx HD.out.2.1 HD.out.2.2 (tabs_below HT.out hbx))
            have hS : (sv.toList == sd.toList) = ((c == d) && ((m == n) && (f == h))) := by
              by_cases hall : c = d ∧ m = n ∧ f = h
              · obtain ⟨rfl, rfl, rfl⟩ := hall
                obtain rfl : sd = sv := by rw [Hd.out, Hv.out]
                simp
              · have e1 : (sv.toList == sd.toList) = false := by
                  rw [beq_eq_false_iff_ne]
                  intro e
                  rw [ByteArray.toList_eq, ByteArray.toList_eq, Hv.out, Hd.out] at e
                  exact hall (Hone.out (by simpa using e))
                rw [e1]
                have : ¬ ((c == d) && ((m == n) && (f == h))) = true := by simpa using hall
                simpa using this
            have hQ := violEq c m f d n h
            obtain ⟨S, hS2⟩ : ∃ S, (sv.toList == sd.toList) = S := ⟨_, rfl⟩
            rw [← hS, hS2] at hQ
            clear hS
            clear Hone
            go_wp2_with fail
            go_region_with (go_at_call 16; refine (IV.out _ hl6.drew).mono ?_; rintro e w7 ⟨rfl, hb7⟩; have hx7 := HX6.out.drew.below hb7 HX6.out.lt; have hy7 := HY6.out.drew.below hb7 HY6.out.lt; obtain ⟨a0, a1, a2, _⟩ := Box.three hx7; obtain ⟨b0, b1, b2, _⟩ := Box.three hy7; have hl7 := hl6.drew.trans (hb7.mono hl6.size); clear hb7)
            all_goals
              go_wp2_with fail
              go_ret
              exact ⟨rfl, hl7⟩
          · have q1 : decide (c < 1) = false := decide_eq_false (by omega)
            have q2 : decide (9 < c) = false := decide_eq_false (by omega)
            have q3 : decide (d < 1) = false := decide_eq_false (by omega)
            have q4 : decide (9 < d) = true := decide_eq_true (by omega)
            clear c1 c2 d1 d2
            go_wp2_with fail
            go_ret
            exact ⟨rfl, hl6⟩
        · have q1 : decide (c < 1) = false := decide_eq_false (by omega)
          have q2 : decide (9 < c) = false := decide_eq_false (by omega)
          have q3 : decide (d < 1) = true := decide_eq_true (by omega)
          clear c1 c2 d1
          go_wp2_with fail
          go_ret
          exact ⟨rfl, hl6⟩
      · have q1 : decide (c < 1) = false := decide_eq_false (by omega)
        have q2 : decide (9 < c) = true := decide_eq_true (by omega)
        clear c1 c2
        go_wp2_with fail
        go_ret
        exact ⟨rfl, hl6⟩
    · have q1 : decide (c < 1) = true := decide_eq_true (by omega)
      clear c1
      go_wp2_with fail
      go_ret
      exact ⟨rfl, hl6⟩

set_option maxRecDepth 100000 in
theorem contract (H : Type) (enc : TypeId × Value → H) (W : World) (base : Nat) (args : Array Value) (ds gs : List (DataW H)) (before : List MemPlace)
    (hval : ∀ (j : Nat) t v, Tryd.f4.params[j]? = some t → args[j]? = some v → Value.okWide Tryd.prog W .any base t v)
    (hW : DataW.Whole enc Tryd.prog Tryd.f4.params.toList Rows.fnVTextSpec.vars false W args.toList ds gs before) (hL : laidMetH Tryd.prog Rows.fnVTextRow.laid W) (hsh : W.ShapedOpen Tryd.prog) :
    Calls Tryd.prog 4 args W fun e W' => ∃ v, e = .returned v ∧ Rows.fnVTextSpec.post enc Tryd.prog Tryd.f4 false true false false W args v W' := by
  have hW' := hW
  obtain ⟨p, q, hA0, hV, rfl, hfz, hnd⟩ := hW
  have hA : DataW.TrodAll enc Tryd.prog W 0 (fun _ => true) true Tryd.f4.params.toList args.toList ds p := hA0
  rw [Tryd.params4] at hA hval
  obtain ⟨v0, vs0, d0, ds0, p0, q0, hargs, rfl, rfl, h0, r0⟩ := trodAll_cons hA
  obtain ⟨rfl, rfl, rfl⟩ := trodAll_nil r0
  obtain rfl : args = #[v0] := by cases args; simp_all
  have hVk := hV
  obtain ⟨_, _, _, _, _, _, rfl, _, _, _, _, _⟩ := trodVars_one hV
  obtain ⟨a0, len0, cap0, rfl⟩ := okWide_slice Tryd.underlying22 (hval 0 22 v0 rfl rfl)
  have k0 := h0
  have lt0 : ∀ x ∈ p0, x.block < W.heap.size := by obtain ⟨m, hm⟩ := k0; exact DataW.trod_lt m _ _ _ hm
  obtain ⟨z0, w0⟩ : ∃ zs, IsRow .u8 W a0 len0 cap0 zs := by
    obtain ⟨fuel, hf⟩ := h0
    rcases open_ints Tryd.underlying22 Tryd.underlying5 (by kernel_rfl) hf with ⟨hcs, _⟩ | ⟨x, l, c, zs, hcs, _, hl, hm, hz, _, hcell, hwz⟩
    · simp [Value.cells] at hcs
      obtain ⟨rfl, rfl, rfl⟩ := hcs
      exact ⟨[], .inl ⟨rfl, rfl, rfl, rfl⟩⟩
    · simp [Value.cells] at hcs
      obtain ⟨rfl, rfl, rfl⟩ := hcs
      exact ⟨zs, .inr ⟨_, rfl, hl, hm, by simpa using hz, hcell, hwz⟩⟩
  clear hA0
  refine (walk a0 len0 cap0 z0 W w0 (Num.tabs_of hL.tail.tail)).mono fun e W' ⟨he, bel⟩ => ?_
  subst he
  exact ⟨_, rfl, _, _, _, [], _, _, hW', trodAll_mk1 (shut_bool Tryd.underlying4 _), (trodAll_cons_mk (Below.trod laidOut (by kernel_rfl) (of_decide_eq_true (by kernel_rfl)) k0 bel lt0) trodAll_mk0), Num.vars_again bel hVk, bel.frame _, fun h => by cases h⟩

set_option maxRecDepth 100000 in
theorem laid_met (os : Os) : laidMet Tryd.prog Rows.fnVTextRow.laid ((World.doorLaid Tryd.prog 36 os).forCall (fun _ _ => 0) ⟨#[], #[.slice none 0 0], []⟩).memory :=
  laidMet_of_run' 8 (by kernel_rfl) (by kernel_rfl)
theorem reads (os : Os) {H : Type} (enc : TypeId × Value → H) : ∃ places, DataW.whole enc Tryd.prog ((World.doorLaid Tryd.prog 36 os).forCall (fun _ _ => 0) ⟨#[], #[.slice none 0 0], []⟩).memory Tryd.f4.params.toList Rows.fnVTextSpec.vars false (#[.slice none 0 0] : Array Value).toList 8 = some ([.nil], [Rows.laid_loop_example_g00498_impl_violationWords], places) :=
  ⟨(MemPlace.row ⟨0, 0, none⟩ ((Tryd.prog.globals[0]?).map fun (x : Go.Global) => Tryd.prog.cellsOf x.type).get! ++ []), by kernel_rfl⟩
set_option maxRecDepth 100000 in
theorem lifted (os : Os) (started : os.Started) (H : Type) (enc : TypeId × Value → H) (F : Stop.Interp) :
    ReturnsInHanded {} Tryd.checked os 4 .any ((OpenSpec.ofChange Rows.fnVTextSpec).preRow enc Tryd.prog Tryd.f4 Rows.fnVTextRow.domain false Rows.fnVTextRow.laid) (((OpenSpec.ofChange Rows.fnVTextSpec).at F).post enc Tryd.prog Tryd.f4 false true false false) := by
  obtain ⟨places, hx⟩ := reads os enc
  refine returnsInHanded_of_row (C := Tryd.checked) (s := OpenSpec.ofChange Rows.fnVTextSpec) own started (by kernel_rfl) Tryd.func4
    (witness_row_at (enc := enc) (C := Tryd.checked) false (World.doorLaid Tryd.prog 36 os) #[.slice none 0 0] rfl (by kernel_rfl) (by kernel_rfl) (by kernel_rfl)
      (OpenSpec.preRow_of_cond 8 hx (by kernel_rfl) (fun k hk => by cases hk) (by kernel_rfl) (laid_met os))) ?_
  intro W base args ds gs before hval hW _ _ _ hL hsh _
  exact contract H enc W base args ds gs before hval hW hL hsh
theorem said : Rows.fnVTextRow.holds Tryd.pinned (OpenSpec.ofChange Rows.fnVTextSpec) :=
  OpenClaim.holds_of_cond 4 Tryd.f4 rfl rfl rfl rfl rfl rfl rfl ⟨rfl, rfl, rfl, rfl, rfl⟩ rfl rfl rfl rfl rfl (by kernel_rfl) Tryd.func4 (by kernel_rfl)
    (of_decide_eq_true (by kernel_rfl)) (by unfold Func.isWrapper; first | (rw [if_pos (by decide +kernel)]; kernel_rfl) | (rw [if_neg (by decide +kernel)]; exact ⟨rfl, rfl⟩))
    (fun os started H enc _ F => by rw [OpenClaim.pre_eq_preRow]; exact lifted os started H enc F)
theorem plain (f : FuncId) (fn : Func) (hf : Tryd.pinned.checked.prog.funcNamed "loop.example/g00498/laws.FnVText" = some f) (hfn : Tryd.pinned.checked.prog.funcs[f]? = some fn) :
    true = Tryd.pinned.checked.prog.looks [] ∧ ∀ (j : Nat) t, fn.params[j]? = some t → Tryd.pinned.checked.prog.wantsStandIn t = false := by
  obtain rfl : f = 4 := Option.some.inj ((show Tryd.prog.funcNamed "loop.example/g00498/laws.FnVText" = some 4 by kernel_rfl).symm.trans hf) |>.symm
  obtain rfl : fn = Tryd.f4 := (Option.some.inj (Tryd.func4.symm.trans hfn)).symm
  refine ⟨by kernel_rfl, fun j t ht => ?_⟩
  rw [Tryd.params4] at ht
  obtain rfl : t = 22 := by simpa using Array.mem_of_getElem? ht
  exact (show Tryd.prog.wantsStandIn 22 = false by kernel_rfl)
theorem proved : Rows.FnVTextCardSaid :=
  Claim7.holds_tied_plain_at .later [] _ _ _ _ said (fun _ h => by cases h) (by kernel_rfl) (fun _ h => by cases h) fnVText_row_tie rfl ⟨rfl, rfl⟩ (by kernel_rfl) rfl plain (by kernel_rfl)
end Go.Proofs.YtlepaimcgofkoaaDoor.fnVText
