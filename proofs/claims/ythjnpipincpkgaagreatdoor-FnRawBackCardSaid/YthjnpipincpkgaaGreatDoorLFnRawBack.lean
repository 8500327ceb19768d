/-
  For every code of bytes, laws.FnRawBack returns true: the description of a drawn schema has no violation and compiles back to it; an invalid schema gives an empty description. No condition.
-/
import Derived.Test.YthjnpipincpkgaaGreatDoorRows
import Derived.WalkKit
import Derived.ProofKit
import Derived.OpenShut
import Derived.ShutString
import Derived.ChangeOld
import Derived.Below
import Derived.Test.YthjnpipincpkgaaGreatDoorCards
import Derived.Test.YthjnpipincpkgaaGreatDoorTie
import Derived.Deep.DeepHandedRow
import Derived.Lib.LaidTab
import Derived.LaidMore
import Derived.LaidHandle
import Derived.Stop.LaidErr
import Derived.Test.YthjnpipincpkgaaGreatDoorDrawSchB
import Derived.Test.YthjnpipincpkgaaGreatDoorCompAllB
import Derived.Test.YthjnpipincpkgaaGreatDoorCompOwn
import Derived.Test.YthjnpipincpkgaaGreatDoorRawAll
import Derived.Test.YthjnpipincpkgaaGreatDoorSameAll
import Derived.Test.YthjnpipincpkgaaGreatDoorCheckImpl
import Derived.Test.YthjnpipincpkgaaGreatDoorErrType
import Derived.Deep.DeepCutAuto
namespace Go.Proofs.YthjnpipincpkgaaGreatDoor.fnRawBack
open Go.ChangeShapes Go.WideShapes Go.ChangeAt Go.RowKit
open Go.ChangeMaps (open_string shut_string)
set_option linter.unusedVariables false

theorem own : ownKnob Tryz.prog.godebug = none := by kernel_rfl
theorem laidOut : laidOutB Tryz.prog = true := by kernel_rfl
def IsRow (k : IntKind) (w : World) (a : Option Addr) (len cap : Nat) (zs : List Int) : Prop :=
  (a = none ∧ len = 0 ∧ cap = 0 ∧ zs = []) ∨
  ∃ x, a = some x ∧ len ≤ cap ∧ cap ≤ maxLen ∧ zs.length = cap ∧ (∀ i, i < zs.length → w.cell? (x.add i) = some (.int k (zs.getD i 0))) ∧ ∀ n ∈ zs, (Lit.int k n).wf = true
attribute [local go_sem] Region.wanted yielded
open Num in
theorem drawRawFrom_any (a : Option Addr) (len cap : Nat) (w : World) (h : CodeAt w w.heap.size a len) :
    Calls Tryz.prog 16 #[.slice a len cap] w fun e w' => ∃ (v : Value) (r : List RM), (0 < r.length ∧ r.length ≤ 7 ∧ ∀ m ∈ r, m.2.length ≤ 6) ∧ e = .returned (.agg #[v]) ∧ RawAt w' (· < w'.heap.size) (.agg #[v]) r ∧ Below w.heap.size w w' := by
  have H := Lib.hid h; clear h
  go_enter Tryz.func16, Tryz.ntmps16
  go_wp2_with fail
  have hx0 := Box.fresh w #[.slice none 0 0] 30
  have hb0 : Below w.heap.size w (w.alloc (.cells #[.slice none 0 0] 30)) := (Below.refl _ _).alloc (Nat.le_refl _) _
  have hz0 : w.heap.size < (w.alloc (.cells #[.slice none 0 0] 30)).heap.size := by simp
  generalize w.alloc (.cells #[.slice none 0 0] 30) = w0 at hx0 hb0 hz0 ⊢
  refine (l1New_any w.heap.size a len cap _ (by omega) (H.out.below hb0)).mono ?_
  rintro e w1 ⟨g, rfl, hc1, hb1, hg1, hg1'⟩
  have Hc1 := Lib.hid hc1
  have hx1 := hx0.below hb1 hz0
  have hb01 := hb0.trans (hb1.mono (by omega))
  have hz1 := hb1.size
  clear hc1 hx0 hb0 hb1
  go_wp2_with fail
  refine (l8Bent_any _ g a len cap _ Hc1.out (by omega) hg1').mono ?_
  rintro e w2 ⟨v, ms, ⟨h0, h7, h14⟩, rfl, hown, hc2, hf2⟩
  obtain ⟨gm, capm, hv, _, _⟩ := World.ownsRow.form hown.row h0
  subst hv
  have hx2 := Box.offAt hf2 hx1 (by omega) (by omega)
  have hb02 : Below w.heap.size w w2 := hb01.trans (hf2.below (by omega) (by omega))
  have hO := hown.out (k := w.heap.size) (by omega)
  have Hown := Lib.hid (hown.other (p := ⟨w.heap.size, 0, none⟩) (.slice (some ⟨gm, 0, none⟩) ms.length capm) hO.1 hO.2)
  obtain ⟨x0, x1⟩ := hx2.2 0 (by simp)
  have hxs := hx2.set 0 (.slice (some ⟨gm, 0, none⟩) ms.length capm)
  have y0 : (w2.setCell ⟨w.heap.size, 0, none⟩ (.slice (some ⟨gm, 0, none⟩) ms.length capm)).cell? ⟨w.heap.size, 0, none⟩ = some (.slice (some ⟨gm, 0, none⟩) ms.length capm) := (hxs.2 0 (by simp)).1
  have hxl := hx2.1
  clear hc2 hf2 hown hO hx1 hb01 hx2 hxs
  go_wp2_with fail
  refine bodyPost_ret (v := .agg #[.slice (some ⟨gm, 0, none⟩) ms.length capm]) (by simp [results, Tryz.results16, go_sem, y0]) rfl ?_
  refine ⟨_, plain ms, ⟨by simpa [plain] using h0, by simpa [plain] using h7, fun m hm => ?_⟩, rfl, Hown.out.rawAtAll, hb02.setCell (by simp) _⟩
  obtain ⟨x, hx, rfl⟩ := List.mem_map.1 hm
  obtain ⟨j, hj, rfl⟩ := List.getElem_of_mem hx
  exact h14 j hj
open Num in
theorem first_raw {r : List RM} {w : World} {v : Value} (h : RawAt w (· < w.heap.size) (.agg #[v]) r) (h0 : 0 < r.length) : ∃ b o cap, v = .slice (some ⟨b, o, none⟩) r.length cap := by
  obtain ⟨y, hy, hm⟩ := h
  injection hy with hy; injection hy with hy; injection hy with hy
  subst hy
  obtain ⟨b, o, cap, hv, _⟩ := hm.cells h0
  exact ⟨b, o, cap, hv⟩
open Num in
theorem same_yes (r : List RM) : sameB r r = true := by unfold sameB; exact @decide_eq_true _ (Classical.propDecidable _) rfl
open Num in
set_option maxHeartbeats 8000000 in
set_option maxRecDepth 100000 in
theorem walk (a0 : Option Addr) (len0 cap0 : Nat) (z0 : List Int) (w : World) (w0 : IsRow .u8 w a0 len0 cap0 z0) (hE : Num.ErrType w) :
    Calls Tryz.prog 4 #[.slice a0 len0 cap0] w fun e w' => e = .returned (.bool true) ∧ Below w.heap.size w w' := by
  have HE := Lib.hid hE
  clear hE
  by_cases hb : 1048576 < len0
  · clear w0
    go_enter Tryz.func4, Tryz.ntmps4
    go_wp2
    go_ret
    exact ⟨rfl, Below.refl _ _⟩
  · have hcode := codeOf w0 (by omega)
    have Hcode := Lib.hid hcode
    clear w0 hcode
    go_enter Tryz.func4, Tryz.ntmps4
    go_wp2_with (go_at_call 6; go_in)
    refine (drawRawFrom_any a0 len0 cap0 _ Hcode.out).mono ?_
    rintro e w1 ⟨v, r, ⟨hn0, hn7, hf6⟩, rfl, hraw, hb1⟩
    have S0 : Hid (Small r) := Lib.hid ⟨by omega, fun m hm => Nat.le_trans (hf6 m hm) (by omega)⟩
    obtain ⟨b, o, cp, rfl⟩ := first_raw hraw hn0
    have hA := Holds.fresh 30 hraw
    have hlA : Below w.heap.size w (w1.alloc (.cells #[.slice (some ⟨b, o, none⟩) r.length cp] 30)) := hb1.trans ((Below.refl w1.heap.size _).alloc (Nat.le_refl _) _ |>.mono hb1.size)
    clear hraw hb1 hf6
    go_wp2_with fail
    generalize w1.alloc (.cells #[.slice (some ⟨b, o, none⟩) r.length cp] 30) = w2 at hA hlA ⊢
    generalize w1.heap.size = g3 at hA ⊢
    refine (implRawFrom_any _ r _ hA.raw S0.out).mono ?_
    rintro e w3 ⟨u, ms, hp, rfl, ho, hb3⟩
    obtain ⟨ua, uc, rfl⟩ := ho.at_.len
    have hr3 : RawAt w3 (· < w3.heap.size) (.agg #[.slice ua (rawFromR r).length uc]) (rawFromR r) := by
      have h := ho.raw; rw [hp] at h; exact h.keep (fun _ _ _ => rfl) fun b hb => hb.2
    rw [hp]
    have hA3 := hA.all hb3
    have hl3 := hlA.trans (hb3.mono hlA.size)
    have hb4 : Below w3.heap.size w3 (w3.alloc (.cells #[.slice ua (rawFromR r).length uc] 26)) := (Below.refl _ _).alloc (Nat.le_refl _) _
    have hQ := Holds.fresh 26 hr3
    have hA4 := hA3.all hb4
    have hl4 := hl3.trans (hb4.mono hl3.size)
    obtain ⟨c0, _⟩ := hA3.one
    have hg3 := hA3.2.2.1
    have S1 := Lib.hid (small_rawFrom S0.out)
    obtain ⟨q, hq⟩ : ∃ q, rawFromR r = q := ⟨_, rfl⟩
    have Hq := Lib.hid hq
    rw [hq] at hQ hA4 hl4 S1 ⊢
    clear hA hlA hp ho hb3 hr3 hA3 hl3 hb4 hq
    go_wp2_with fail
    clear c0 hg3
    generalize w3.alloc (.cells #[.slice ua q.length uc] 26) = w4 at hQ hA4 hl4 ⊢
    generalize w3.heap.size = g4 at hQ ⊢
    have HQ4 := Lib.hid hQ
    have HA4 := Lib.hid hA4
    clear hQ hA4
    refine (specSchemaOk_any _ r _ HA4.out.raw S0.out).mono ?_
    rintro e w5 ⟨rfl, hb5⟩
    have HQ5 := Lib.hid (HQ4.out.all hb5)
    have HA5 := Lib.hid (HA4.out.all hb5)
    have hl5 := hl4.trans (hb5.mono hl4.size)
    clear HQ4 HA4 hl4 hb5
    obtain ⟨c0, _⟩ := HA5.out.one
    obtain ⟨d0, _⟩ := HQ5.out.one
    obtain ⟨B, hB⟩ : ∃ B, schemaB r = B := ⟨_, rfl⟩
    rw [hB]
    cases B
    · obtain rfl : q = [] := by rw [← Hq.out]; unfold rawFromR; rw [hB]; rfl
      simp only [List.length_nil] at d0
      have HB := Lib.hid hB
      clear hB
      go_wp2_with fail
      refine (implSchemaOk_any _ r _ HA5.out.raw S0.out).mono ?_
      rw [HB.out]
      rintro e w6 ⟨rfl, hb6⟩
      have hl6 := hl5.trans (hb6.mono hl5.size)
      go_wp2_with fail
      go_ret
      exact ⟨rfl, hl6⟩
    · have HP := Lib.hid (schemaB_of hB)
      clear hB
      go_wp2_with fail
      refine (implCompile_any _ q _ HQ5.out.raw S1.out (HE.out.all hl5)).mono ?_
      rintro e w6 ⟨f6, u6, hcomp, rfl, hb6⟩
      obtain ⟨hf6, mt, hpt, hot⟩ := hcomp.own
      rw [← Hq.out] at hf6
      obtain rfl := back_first HP.out hf6
      obtain ⟨ya, yc, rfl⟩ := hot.at_.len
      have hpr : plain mt = r := by rw [hpt, ← Hq.out]; exact compile_back HP.out
      rw [show (plain mt).length = r.length by rw [hpr]] at hot ⊢
      unfold violV
      have hA6 := HA5.out.all hb6
      have hQ6 := HQ5.out.all hb6
      have hl6 := hl5.trans (hb6.mono hl5.size)
      have hu6 : RawAt w6 (· < w6.heap.size) (.agg #[.slice ya r.length yc]) r := by
        have h := hot.raw; rw [hpr] at h; exact h.keep (fun _ _ _ => rfl) fun b hb => hb.2
      have hb7 : Below w6.heap.size w6 ((w6.alloc (.cells #[.slice ya r.length yc] 30)).alloc (.cells #[.int .i64 0, .int .i64 0, .int .i64 0] 32)) := ((Below.refl _ _).alloc (Nat.le_refl _) _).alloc (by simp) _
      have HT7 : Hid (Holds ((w6.alloc (.cells #[.slice ya r.length yc] 30)).alloc (.cells #[.int .i64 0, .int .i64 0, .int .i64 0] 32)) w6.heap.size w6.heap.size (.slice ya r.length yc) r) := Lib.hid
        ((Holds.fresh 30 hu6).all ((Below.refl _ _).alloc (Nat.le_refl _) _))
      have HV7 : Hid (Box ((w6.alloc (.cells #[.slice ya r.length yc] 30)).alloc (.cells #[.int .i64 0, .int .i64 0, .int .i64 0] 32)) (w6.heap.size + 1) [.int .i64 0, .int .i64 0, .int .i64 0]) := Lib.hid (by
        have h := Box.fresh (w6.alloc (.cells #[.slice ya r.length yc] 30)) #[.int .i64 0, .int .i64 0, .int .i64 0] 32
        rwa [show (w6.alloc (.cells #[.slice ya r.length yc] 30)).heap.size = w6.heap.size + 1 by simp] at h)
      have HA7 := Lib.hid (hA6.all hb7)
      have HQ7 := Lib.hid (hQ6.all hb7)
      have hl7 := hl6.trans (hb7.mono hl6.size)
      have hz7 : ((w6.alloc (.cells #[.slice ya r.length yc] 30)).alloc (.cells #[.int .i64 0, .int .i64 0, .int .i64 0] 32)).heap.size = w6.heap.size + 2 := by simp
      clear c0 d0
      obtain ⟨c0, _⟩ := hA6.one
      obtain ⟨d0, _⟩ := hQ6.one
      have hgA := hA6.2.2.1
      have hgQ := hQ6.2.2.1
      clear HA5 HQ5 hl5 hcomp hf6 hpt hot hb6 hpr hA6 hQ6 hl6 hu6 hb7
      go_wp2_with fail
      clear c0 d0 hgA hgQ
      generalize (w6.alloc (.cells #[.slice ya r.length yc] 30)).alloc (.cells #[.int .i64 0, .int .i64 0, .int .i64 0] 32) = w7 at HA7 HQ7 HT7 HV7 hl7 hz7 ⊢
      generalize w6.heap.size = gT at HT7 HV7 hz7 ⊢
      refine (Sch.implSameRaw_any _ _ r r _ HA7.out.raw HT7.out.raw S0.out S0.out).mono ?_
      rw [same_yes]
      rintro e w8 ⟨rfl, hb8⟩
      have HA8 := Lib.hid (HA7.out.all hb8)
      have HQ8 := Lib.hid (HQ7.out.all hb8)
      have HT8 := Lib.hid (HT7.out.all hb8)
      have hl8 := hl7.trans (hb8.mono hl7.size)
      clear HA7 HQ7 HT7 hl7 hb8
      obtain ⟨c0, _⟩ := HA8.out.one
      obtain ⟨d0, _⟩ := HT8.out.one
      go_wp2_with fail
      refine (Sch.specSameRaw_any _ _ r r _ HA8.out.raw HT8.out.raw S0.out S0.out).mono ?_
      rw [same_yes]
      rintro e w9 ⟨rfl, hb9⟩
      have HQ9 := Lib.hid (HQ8.out.all hb9)
      have hl9 := hl8.trans (hb9.mono hl8.size)
      clear HA8 HQ8 HT8 hl8 hb9 c0 d0
      obtain ⟨c0, _⟩ := HQ9.out.one
      go_wp2_with fail
      refine (implRawOk_any _ q _ HQ9.out.raw S1.out).mono ?_
      rintro e w10 ⟨f10, hf10, rfl, hb10⟩
      rw [← Hq.out] at hf10
      obtain rfl := back_first HP.out hf10
      have hl10 := hl9.trans (hb10.mono hl9.size)
      go_wp2_with fail
      go_ret
      exact ⟨rfl, hl10⟩

set_option maxRecDepth 100000 in
theorem contract (H : Type) (enc : TypeId × Value → H) (W : World) (base : Nat) (args : Array Value) (ds gs : List (DataW H)) (before : List MemPlace)
    (hval : ∀ (j : Nat) t v, Tryz.f4.params[j]? = some t → args[j]? = some v → Value.okWide Tryz.prog W .any base t v)
    (hW : DataW.Whole enc Tryz.prog Tryz.f4.params.toList Rows.fnRawBackSpec.vars false W args.toList ds gs before) (hL : laidMetH Tryz.prog Rows.fnRawBackRow.laid W) (hsh : W.ShapedOpen Tryz.prog) :
    Calls Tryz.prog 4 args W fun e W' => ∃ v, e = .returned v ∧ Rows.fnRawBackSpec.post enc Tryz.prog Tryz.f4 false true false false W args v W' := by
  have hW' := hW
  obtain ⟨p, q, hA0, hV, rfl, hfz, hnd⟩ := hW
  have hA : DataW.TrodAll enc Tryz.prog W 0 (fun _ => true) true Tryz.f4.params.toList args.toList ds p := hA0
  rw [Tryz.params4] at hA hval
  obtain ⟨v0, vs0, d0, ds0, p0, q0, hargs, rfl, rfl, h0, r0⟩ := trodAll_cons hA
  obtain ⟨rfl, rfl, rfl⟩ := trodAll_nil r0
  obtain rfl : args = #[v0] := by cases args; simp_all
  obtain ⟨rfl, rfl⟩ := trodVars_none hV
  obtain ⟨a0, len0, cap0, rfl⟩ := okWide_slice Tryz.underlying22 (hval 0 22 v0 rfl rfl)
  have k0 := h0
  have lt0 : ∀ x ∈ p0, x.block < W.heap.size := by obtain ⟨m, hm⟩ := k0; exact DataW.trod_lt m _ _ _ hm
  obtain ⟨z0, w0⟩ : ∃ zs, IsRow .u8 W a0 len0 cap0 zs := by
    obtain ⟨fuel, hf⟩ := h0
    rcases open_ints Tryz.underlying22 Tryz.underlying5 (by kernel_rfl) hf with ⟨hcs, _⟩ | ⟨x, l, c, zs, hcs, _, hl, hm, hz, _, hcell, hwz⟩
    · simp [Value.cells] at hcs
      obtain ⟨rfl, rfl, rfl⟩ := hcs
      exact ⟨[], .inl ⟨rfl, rfl, rfl, rfl⟩⟩
    · simp [Value.cells] at hcs
      obtain ⟨rfl, rfl, rfl⟩ := hcs
      exact ⟨zs, .inr ⟨_, rfl, hl, hm, by simpa using hz, hcell, hwz⟩⟩
  clear hA0
  refine (walk a0 len0 cap0 z0 W w0 (Num.errType_of hL)).mono fun e W' ⟨he, bel⟩ => ?_
  subst he
  exact ⟨_, rfl, _, _, _, [], _, [], hW', trodAll_mk1 (shut_bool Tryz.underlying4 _), (trodAll_cons_mk (Below.trod laidOut (by kernel_rfl) (of_decide_eq_true (by kernel_rfl)) k0 bel lt0) trodAll_mk0), rfl, bel.frame _, fun h => by cases h⟩

set_option maxRecDepth 100000 in
theorem laid_met (os : Os) : laidMetH Tryz.prog Rows.fnRawBackRow.laid ((World.doorLaid Tryz.prog 16 os).forCall (fun _ _ => 0) ⟨#[], #[.slice none 0 0], []⟩).memory :=
  laidMetH_of_parts (laidMet_of_run' 8 (by kernel_rfl) (by kernel_rfl)) (by kernel_rfl)
theorem reads (os : Os) {H : Type} (enc : TypeId × Value → H) : ∃ places, DataW.whole enc Tryz.prog ((World.doorLaid Tryz.prog 16 os).forCall (fun _ _ => 0) ⟨#[], #[.slice none 0 0], []⟩).memory Tryz.f4.params.toList Rows.fnRawBackSpec.vars false (#[.slice none 0 0] : Array Value).toList 8 = some ([.nil], [], places) :=
  ⟨[], by kernel_rfl⟩
set_option maxRecDepth 100000 in
theorem lifted (os : Os) (started : os.Started) (H : Type) (enc : TypeId × Value → H) (F : Stop.Interp) :
    ReturnsInHanded {} Tryz.checked os 4 .any ((OpenSpec.ofChange Rows.fnRawBackSpec).preRow enc Tryz.prog Tryz.f4 Rows.fnRawBackRow.domain false Rows.fnRawBackRow.laid) (((OpenSpec.ofChange Rows.fnRawBackSpec).at F).post enc Tryz.prog Tryz.f4 false true false false) := by
  obtain ⟨places, hx⟩ := reads os enc
  refine returnsInHanded_of_row (C := Tryz.checked) (s := OpenSpec.ofChange Rows.fnRawBackSpec) own started (by kernel_rfl) Tryz.func4
    (witness_row_at (enc := enc) (C := Tryz.checked) false (World.doorLaid Tryz.prog 16 os) #[.slice none 0 0] rfl (by kernel_rfl) (by kernel_rfl) (by kernel_rfl)
      (OpenSpec.preRow_of_cond 8 hx (by kernel_rfl) (fun k hk => by cases hk) (by kernel_rfl) (laid_met os))) ?_
  intro W base args ds gs before hval hW _ _ _ hL hsh _
  exact contract H enc W base args ds gs before hval hW hL hsh
theorem said : Rows.fnRawBackRow.holds Tryz.pinned (OpenSpec.ofChange Rows.fnRawBackSpec) :=
  OpenClaim.holds_of_cond 4 Tryz.f4 rfl rfl rfl rfl rfl rfl rfl ⟨rfl, rfl, rfl, rfl, rfl⟩ rfl rfl rfl rfl rfl (by kernel_rfl) Tryz.func4 (by kernel_rfl)
    (of_decide_eq_true (by kernel_rfl)) (by unfold Func.isWrapper; first | (rw [if_pos (by decide +kernel)]; kernel_rfl) | (rw [if_neg (by decide +kernel)]; exact ⟨rfl, rfl⟩))
    (fun os started H enc _ F => by rw [OpenClaim.pre_eq_preRow]; exact lifted os started H enc F)
theorem plain (f : FuncId) (fn : Func) (hf : Tryz.pinned.checked.prog.funcNamed "loop.example/g00498/laws.FnRawBack" = some f) (hfn : Tryz.pinned.checked.prog.funcs[f]? = some fn) :
    true = Tryz.pinned.checked.prog.looks [] ∧ ∀ (j : Nat) t, fn.params[j]? = some t → Tryz.pinned.checked.prog.wantsStandIn t = false := by
  obtain rfl : f = 4 := Option.some.inj ((show Tryz.prog.funcNamed "loop.example/g00498/laws.FnRawBack" = some 4 by kernel_rfl).symm.trans hf) |>.symm
  obtain rfl : fn = Tryz.f4 := (Option.some.inj (Tryz.func4.symm.trans hfn)).symm
  refine ⟨by kernel_rfl, fun j t ht => ?_⟩
  rw [Tryz.params4] at ht
  obtain rfl : t = 22 := by simpa using Array.mem_of_getElem? ht
  exact (show Tryz.prog.wantsStandIn 22 = false by kernel_rfl)
theorem proved : Rows.FnRawBackCardSaid :=
  Claim7.holds_tied_plain_at .later [] _ _ _ _ said (fun _ h => by cases h) (by kernel_rfl) (fun _ h => by cases h) fnRawBack_row_tie rfl ⟨rfl, rfl⟩ (by kernel_rfl) rfl plain (by kernel_rfl)
end Go.Proofs.YthjnpipincpkgaaGreatDoor.fnRawBack
