/-
  For every code of bytes, laws.FnEvents returns true: EventOk answers as the reference's, and a valid event is terminal just if its kind is the last or the last but one, has a code, bits or a text only where its kind has them, and its kind has a word. The card ties the listed table to the program's text. No other condition.
-/
import Derived.Test.YtbjndnpdmohjiaaDoorRows
import Derived.WalkKit
import Derived.ProofKit
import Derived.OpenShut
import Derived.ShutString
import Derived.ChangeOld
import Derived.Below
import Derived.Test.YtbjndnpdmohjiaaDoorCards
import Derived.Test.YtbjndnpdmohjiaaDoorTie
import Derived.Deep.DeepHandedRow
import Derived.Lib.LaidTab
import Derived.LaidMore
import Derived.LaidHandle
import Derived.Stop.LaidErr
import Derived.Test.YtbjndnpdmohjiaaDoorEvWords
import Derived.Test.YtbjndnpdmohjiaaDoorVars
import Derived.Test.YtbjndnpdmohjiaaDoorDrawEvB
import Derived.Test.YtbjndnpdmohjiaaDoorEvOkI
import Derived.Test.YtbjndnpdmohjiaaDoorEvSameI
namespace Go.Proofs.YtbjndnpdmohjiaaDoor.fnEvents
open Go.ChangeShapes Go.WideShapes Go.ChangeAt Go.RowKit
open Go.ChangeMaps (open_string shut_string)
set_option linter.unusedVariables false

theorem own : ownKnob Tryd.prog.godebug = none := by kernel_rfl
theorem laidOut : laidOutB Tryd.prog = true := by kernel_rfl
def IsRow (k : IntKind) (w : World) (a : Option Addr) (len cap : Nat) (zs : List Int) : Prop :=
  (a = none ∧ len = 0 ∧ cap = 0 ∧ zs = []) ∨
  ∃ x, a = some x ∧ len ≤ cap ∧ cap ≤ maxLen ∧ zs.length = cap ∧ (∀ i, i < zs.length → w.cell? (x.add i) = some (.int k (zs.getD i 0))) ∧ ∀ n ∈ zs, (Lit.int k n).wf = true
attribute [local go_sem] Region.wanted yielded
set_option linter.unusedSimpArgs false
open Num in
theorem ok_told {e : Ev} (h : evOkB e = true) : (1 ≤ e.kind ∧ e.kind ≤ 10) ∧ (e.code = 0 ∨ e.kind = 10) ∧ (e.bits = 0 ∨ e.kind = 2) ∧ ((e.kind = 4 ∧ e.text.toList.isEmpty = false) ∨ (e.kind ≠ 4 ∧ e.text = ⟨#[]⟩)) := by
  obtain ⟨h1, h2, h3, h4, h5, h6, h7⟩ : EvOk e := of_decide_eq_true h
  obtain ⟨k, f, b, l, t, c, p⟩ := e
  simp only at h2 h3 h4 h5 h6 h7 ⊢
  have e2 := congrArg Ev.bits h1
  have e4 := congrArg Ev.text h1
  have e5 := congrArg Ev.code h1
  clear h1
  rcases ev_kinds k with rfl | rfl | rfl | rfl | rfl | rfl | rfl | rfl | rfl | rfl | hk
  case inr.inr.inr.inl =>
    refine ⟨h2, .inl e5, .inl e2, .inl ⟨rfl, ?_⟩⟩
    cases hh : t.toList.isEmpty with
    | false => rfl
    | true => exact absurd (ba_inj (a := t) (b := .empty) (by rw [List.isEmpty_iff.1 hh, ByteArray.toList_eq]; rfl)) (h6 rfl)
  case inr.inr.inr.inr.inr.inr.inr.inr.inr.inr => omega
  all_goals
    refine ⟨h2, ?_, ?_, .inr ⟨by omega, e4⟩⟩
    · first | exact .inl e5 | exact .inr rfl
    · first | exact .inl e2 | exact .inr rfl
open Num in
set_option maxHeartbeats 8000000 in
set_option maxRecDepth 100000 in
theorem walk (a0 : Option Addr) (len0 cap0 : Nat) (z0 : List Int) (w : World) (w0 : IsRow .u8 w a0 len0 cap0 z0) (htab : Num.EventTabIs w) :
    Calls Tryd.prog 3 #[.slice a0 len0 cap0] w fun e w' => e = .returned (.bool true) ∧ Below w.heap.size w w' := by
  have HT := Lib.hid htab
  clear htab
  by_cases hb : 1048576 < len0
  · clear w0
    go_enter Tryd.func3, Tryd.ntmps3
    go_wp2
    go_ret
    exact ⟨rfl, Below.refl _ _⟩
  · have hcode := codeOf w0 (by omega)
    have Hcode := Lib.hid hcode
    clear w0 hcode
    go_enter Tryd.func3, Tryd.ntmps3
    go_wp2_with (go_at_call 7; go_in)
    refine (drawEventOk_any a0 len0 cap0 _ Hcode.out).mono ?_
    rintro e w1 ⟨ev, hev, rfl, hb1⟩
    have HO := Lib.hid (implEventOk_any ev)
    have HP := Lib.hid (specEventOk_any ev)
    have HM := Lib.hid (implTerminal_any ev)
    have Ht := Lib.hid (ok_told (e := ev))
    obtain ⟨k, f, b, l, t, c, p⟩ := ev
    have hTm : termB ⟨k, f, b, l, t, c, p⟩ = decide (k = 9 ∨ k = 10) := rfl
    rw [hTm] at HM
    simp only at Ht
    generalize evOkB ⟨k, f, b, l, t, c, p⟩ = Q at HO HP Ht
    unfold evV at HO HP HM ⊢
    simp only at HO HP HM ⊢
    have hx1 := Box.fresh w1 #[.int .i64 k, .int .i64 f, .int .u64 b, .int .i64 l, .string t, .int .i64 c, .int .i64 p] 26
    have hl1 : Below w.heap.size w (w1.alloc (.cells #[.int .i64 k, .int .i64 f, .int .u64 b, .int .i64 l, .string t, .int .i64 c, .int .i64 p] 26)) := hb1.alloc hb1.size _
    clear hev hTm Hcode hb1
    go_upto_region 4 with fail
    generalize w1.alloc (.cells #[.int .i64 k, .int .i64 f, .int .u64 b, .int .i64 l, .string t, .int .i64 c, .int .i64 p] 26) = w2 at hx1 hl1 ⊢
    generalize w1.heap.size = g at hx1 ⊢
    have HB := Lib.hid hx1
    clear hx1
    obtain ⟨⟨x0, x1, x2, x3, x4, x5, x6⟩, _⟩ := HB.out.seven
    refine wp_region_held_drew (S := SS g k f b l t c p) (by kernel_rfl) ⟨x0, x1, x2, x3, x4, x5, x6⟩ ?_
    intro hH
    refine wpAnyH_take (i := 0) (v := .agg #[.int .i64 k, .int .i64 f, .int .u64 b, .int .i64 l, .string t, .int .i64 c, .int .i64 p]) rfl (by kernel_rfl) (by kernel_rfl) (by kernel_rfl) (fun _ _ _ h => h) (Or.inl ⟨by kernel_rfl, ?_⟩) hH ?_
    · (intro wv hSw; (try simp only [FS, FS2] at hSw); (try unfold SS at hSw); (try unfold SR at hSw); go_split_ands; go_simp)
    try simp only [List.getElem_toArray, List.getElem_cons_succ, List.getElem_cons_zero, Act.put, List.setIfInBounds_toArray, List.set_cons_zero, List.set_cons_succ]
    refine wpAnyH_take (i := 2) (v := .agg #[.int .i64 k, .int .i64 f, .int .u64 b, .int .i64 l, .string t, .int .i64 c, .int .i64 p]) rfl (by kernel_rfl) (by kernel_rfl) (by kernel_rfl) (fun _ _ _ h => h) (Or.inl ⟨by kernel_rfl, ?_⟩) hH ?_
    · (intro wv hSw; (try simp only [FS, FS2] at hSw); (try unfold SS at hSw); (try unfold SR at hSw); go_split_ands; go_simp)
    try simp only [List.getElem_toArray, List.getElem_cons_succ, List.getElem_cons_zero, Act.put, List.setIfInBounds_toArray, List.set_cons_zero, List.set_cons_succ]
    refine wpAnyH_ready (rs := [1]) (by kernel_rfl) (by simp) ?_
    refine AllReadyH.cons rfl (fun K hK => ?_) AllReadyH.nil
    go_simp
    go_wp2_with (go_at_call 9; refine (HO.out _).mono ?_; rintro _ w3 ⟨rfl, hb3⟩)
    refine hK.out _ _ (hH.below hb3 HB.out.lt) (fun hH1 => ?_)
    clear hK K hH
    have hH := hH1
    clear hH1
    have hl3 := hl1.drew.trans (hb3.mono hl1.size)
    have hz3 : g < w3.heap.size := Nat.lt_of_lt_of_le HB.out.lt hb3.size
    try simp only [Act.put, List.setIfInBounds_toArray, List.set_cons_zero, List.set_cons_succ]
    refine wpAnyH_ready (rs := [3]) (by kernel_rfl) (by simp) ?_
    refine AllReadyH.cons rfl (fun K hK => ?_) AllReadyH.nil
    go_simp
    go_wp2_with (go_at_call 10; refine (HP.out _).mono ?_; rintro _ w4 ⟨rfl, hb4⟩)
    refine hK.out _ _ (hH.below hb4 hz3) (fun hH1 => ?_)
    clear hK K hH
    have hl4 := hl3.trans (hb4.mono hl3.size)
    have hz4 : g < w4.heap.size := Nat.lt_of_lt_of_le hz3 hb4.size
    have HS4 := Lib.hid hH1
    have hH := hH1
    clear hH1
    try simp only [Act.put, List.setIfInBounds_toArray, List.set_cons_zero, List.set_cons_succ]
    refine wpAnyH_take (i := 4) (v := .bool false) rfl (by kernel_rfl) (by kernel_rfl) (by kernel_rfl) (fun _ _ _ h => h) (Or.inl ⟨by kernel_rfl, ?_⟩) hH ?_
    · (intro wv hSw; (try simp only [FS, FS2] at hSw); (try unfold SS at hSw); (try unfold SR at hSw); go_split_ands; go_simp)
    try simp only [List.getElem_toArray, List.getElem_cons_succ, List.getElem_cons_zero, Act.put, List.setIfInBounds_toArray, List.set_cons_zero, List.set_cons_succ]
    refine wpAnyH_done (by kernel_rfl) ?_ _
    clear hH hl1 hl3 hz3 hb3 hb4 x0 x1 x2 x3 x4 x5 x6
    obtain ⟨x0, x1, x2, x3, x4, x5, x6⟩ := HS4.out
    go_wp2_with fail
    refine (HO.out _).mono ?_
    rintro e w5 ⟨rfl, hb5⟩
    have HS5 := Lib.hid (HS4.out.below hb5 hz4)
    have hz5 : g < w5.heap.size := Nat.lt_of_lt_of_le hz4 hb5.size
    have hl5 := hl4.trans (hb5.mono hl4.size)
    clear x0 x1 x2 x3 x4 x5 x6 HS4 hl4 hz4 hb5
    cases Q with
    | false =>
      go_wp2_with fail
      go_ret
      exact ⟨rfl, hl5⟩
    | true =>
      obtain ⟨hk, hc, hbb, ht⟩ := Ht.out rfl
      obtain ⟨x0, x1, x2, x3, x4, x5, x6⟩ := HS5.out
      have Hk := Lib.hid hk
      have Hc := Lib.hid hc
      have Hbb := Lib.hid hbb
      have HTT := Lib.hid ht
      clear hk hc hbb ht
      go_wp2_with fail
      refine (HM.out _).mono ?_
      rintro e w6 ⟨rfl, hb6⟩
      have HS6 := Lib.hid (HS5.out.below hb6 hz5)
      have hl6 := hl5.trans (hb6.mono hl5.size)
      clear x0 x1 x2 x3 x4 x5 x6 HS5 hl5 hz5 hb6
      obtain ⟨x0, x1, x2, x3, x4, x5, x6⟩ := HS6.out
      have HW := Lib.hid (implEventWord_any k w6 (HT.out.all hl6))
      have Hs := Lib.hid (event_some Hk.out)
      generalize tabWord eventTab k = s at HW Hs
      have hs := Hs.out
      obtain ⟨T, hT⟩ : ∃ T : Bool, decide (k = 9 ∨ k = 10) = T := ⟨_, rfl⟩
      have hge : decide (9 ≤ k) = T := by rw [← hT]; have := Hk.out; exact decide_eq_decide.2 (by omega)
      rw [hT]
      clear hT HT
      have finish : True := trivial
      rcases HTT.out with ⟨rfl, ht⟩ | ⟨hk4, rfl⟩
      · obtain rfl : b = 0 := by have := Hbb.out; omega
        obtain rfl : c = 0 := by have := Hc.out; omega
        obtain rfl : T = false := by rw [← hge]; rfl
        go_wp2_with fail
        refine HW.out.mono ?_
        rintro e w7 ⟨rfl, rfl⟩
        go_wp2_with fail
        go_ret
        exact ⟨rfl, hl6⟩
      · have n4 := neI hk4
        rcases Hbb.out with rfl | rfl
        · rcases Hc.out with rfl | rfl
          · go_wp2_with fail
            refine HW.out.mono ?_
            rintro e w7 ⟨rfl, rfl⟩
            go_wp2_with fail
            go_ret
            exact ⟨rfl, hl6⟩
          · obtain rfl : T = true := by rw [← hge]; rfl
            by_cases hc0 : c = 0
            · subst hc0
              go_wp2_with fail
              refine HW.out.mono ?_
              rintro e w7 ⟨rfl, rfl⟩
              go_wp2_with fail
              go_ret
              exact ⟨rfl, hl6⟩
            · have nc := neI hc0
              clear hc0
              go_wp2_with fail
              refine HW.out.mono ?_
              rintro e w7 ⟨rfl, rfl⟩
              go_wp2_with fail
              go_ret
              exact ⟨rfl, hl6⟩
        · obtain rfl : c = 0 := by have := Hc.out; omega
          obtain rfl : T = false := by rw [← hge]; rfl
          by_cases hb0 : b = 0
          · subst hb0
            go_wp2_with fail
            refine HW.out.mono ?_
            rintro e w7 ⟨rfl, rfl⟩
            go_wp2_with fail
            go_ret
            exact ⟨rfl, hl6⟩
          · have nb := neI hb0
            clear hb0
            go_wp2_with fail
            refine HW.out.mono ?_
            rintro e w7 ⟨rfl, rfl⟩
            go_wp2_with fail
            go_ret
            exact ⟨rfl, hl6⟩

set_option maxRecDepth 100000 in
theorem contract (H : Type) (enc : TypeId × Value → H) (W : World) (base : Nat) (args : Array Value) (ds gs : List (DataW H)) (before : List MemPlace)
    (hval : ∀ (j : Nat) t v, Tryd.f3.params[j]? = some t → args[j]? = some v → Value.okWide Tryd.prog W .any base t v)
    (hW : DataW.Whole enc Tryd.prog Tryd.f3.params.toList Rows.fnEventsSpec.vars false W args.toList ds gs before) (hL : laidMetH Tryd.prog Rows.fnEventsRow.laid W) (hsh : W.ShapedOpen Tryd.prog) :
    Calls Tryd.prog 3 args W fun e W' => ∃ v, e = .returned v ∧ Rows.fnEventsSpec.post enc Tryd.prog Tryd.f3 false true false false W args v W' := by
  have hW' := hW
  obtain ⟨p, q, hA0, hV, rfl, hfz, hnd⟩ := hW
  have hA : DataW.TrodAll enc Tryd.prog W 0 (fun _ => true) true Tryd.f3.params.toList args.toList ds p := hA0
  rw [Tryd.params3] at hA hval
  obtain ⟨v0, vs0, d0, ds0, p0, q0, hargs, rfl, rfl, h0, r0⟩ := trodAll_cons hA
  obtain ⟨rfl, rfl, rfl⟩ := trodAll_nil r0
  obtain rfl : args = #[v0] := by cases args; simp_all
  have hVk := hV
  obtain ⟨_, _, _, _, _, _, rfl, _, _, _, _, _⟩ := trodVars_one hV
  obtain ⟨a0, len0, cap0, rfl⟩ := okWide_slice Tryd.underlying22 (hval 0 22 v0 rfl rfl)
  have k0 := h0
  have lt0 : ∀ x ∈ p0, x.block < W.heap.size := by obtain ⟨m, hm⟩ := k0; exact DataW.trod_lt m _ _ _ hm
  obtain ⟨z0, w0⟩ : ∃ zs, IsRow .u8 W a0 len0 cap0 zs := by
    obtain ⟨fuel, hf⟩ := h0
    rcases open_ints Tryd.underlying22 Tryd.underlying5 (by kernel_rfl) hf with ⟨hcs, _⟩ | ⟨x, l, c, zs, hcs, _, hl, hm, hz, _, hcell, hwz⟩
    · simp [Value.cells] at hcs
      obtain ⟨rfl, rfl, rfl⟩ := hcs
      exact ⟨[], .inl ⟨rfl, rfl, rfl, rfl⟩⟩
    · simp [Value.cells] at hcs
      obtain ⟨rfl, rfl, rfl⟩ := hcs
      exact ⟨zs, .inr ⟨_, rfl, hl, hm, by simpa using hz, hcell, hwz⟩⟩
  clear hA0
  refine (walk a0 len0 cap0 z0 W w0 (Num.eventTab_of hL)).mono fun e W' ⟨he, bel⟩ => ?_
  subst he
  exact ⟨_, rfl, _, _, _, [], _, _, hW', trodAll_mk1 (shut_bool Tryd.underlying4 _), (trodAll_cons_mk (Below.trod laidOut (by kernel_rfl) (of_decide_eq_true (by kernel_rfl)) k0 bel lt0) trodAll_mk0), Num.vars_again bel hVk, bel.frame _, fun h => by cases h⟩

set_option maxRecDepth 100000 in
theorem laid_met (os : Os) : laidMet Tryd.prog Rows.fnEventsRow.laid ((World.doorLaid Tryd.prog 19 os).forCall (fun _ _ => 0) ⟨#[], #[.slice none 0 0], []⟩).memory :=
  laidMet_of_run' 8 (by kernel_rfl) (by kernel_rfl)
set_option maxRecDepth 100000 in
theorem reads (os : Os) {H : Type} (enc : TypeId × Value → H) : ∃ gs places, DataW.whole enc Tryd.prog ((World.doorLaid Tryd.prog 19 os).forCall (fun _ _ => 0) ⟨#[], #[.slice none 0 0], []⟩).memory Tryd.f3.params.toList Rows.fnEventsSpec.vars false (#[.slice none 0 0] : Array Value).toList 8 = some ([.nil], gs, places) := by
  have h : (DataW.whole enc Tryd.prog ((World.doorLaid Tryd.prog 19 os).forCall (fun _ _ => 0) ⟨#[], #[.slice none 0 0], []⟩).memory Tryd.f3.params.toList Rows.fnEventsSpec.vars false (#[.slice none 0 0] : Array Value).toList 8).map (fun x => x.1) = some ([.nil] ) := by kernel_rfl
  obtain ⟨⟨a, b, p⟩, hx, e⟩ := Option.map_eq_some_iff.1 h
  simp only at e
  subst e
  exact ⟨b, p, hx⟩

set_option maxRecDepth 100000 in
theorem lifted (os : Os) (started : os.Started) (H : Type) (enc : TypeId × Value → H) (F : Stop.Interp) :
    ReturnsInHanded {} Tryd.checked os 3 .any ((OpenSpec.ofChange Rows.fnEventsSpec).preRow enc Tryd.prog Tryd.f3 Rows.fnEventsRow.domain false Rows.fnEventsRow.laid) (((OpenSpec.ofChange Rows.fnEventsSpec).at F).post enc Tryd.prog Tryd.f3 false true false false) := by
  obtain ⟨gs0, places, hx⟩ := reads os enc
  refine returnsInHanded_of_row (C := Tryd.checked) (s := OpenSpec.ofChange Rows.fnEventsSpec) own started (by kernel_rfl) Tryd.func3
    (witness_row_at (enc := enc) (C := Tryd.checked) false (World.doorLaid Tryd.prog 19 os) #[.slice none 0 0] rfl (by kernel_rfl) (by kernel_rfl) (by kernel_rfl)
      (OpenSpec.preRow_of_cond 8 hx (by kernel_rfl) (fun k hk => by cases hk) (by kernel_rfl) (laid_met os))) ?_
  intro W base args ds gs before hval hW _ _ _ hL hsh _
  exact contract H enc W base args ds gs before hval hW hL hsh
theorem said : Rows.fnEventsRow.holds Tryd.pinned (OpenSpec.ofChange Rows.fnEventsSpec) :=
  OpenClaim.holds_of_cond 3 Tryd.f3 rfl rfl rfl rfl rfl rfl rfl ⟨rfl, rfl, rfl, rfl, rfl⟩ rfl rfl rfl rfl rfl (by kernel_rfl) Tryd.func3 (by kernel_rfl)
    (of_decide_eq_true (by kernel_rfl)) (by unfold Func.isWrapper; first | (rw [if_pos (by decide +kernel)]; kernel_rfl) | (rw [if_neg (by decide +kernel)]; exact ⟨rfl, rfl⟩))
    (fun os started H enc _ F => by rw [OpenClaim.pre_eq_preRow]; exact lifted os started H enc F)
theorem plain (f : FuncId) (fn : Func) (hf : Tryd.pinned.checked.prog.funcNamed "loop.example/g00498/laws.FnEvents" = some f) (hfn : Tryd.pinned.checked.prog.funcs[f]? = some fn) :
    true = Tryd.pinned.checked.prog.looks [] ∧ ∀ (j : Nat) t, fn.params[j]? = some t → Tryd.pinned.checked.prog.wantsStandIn t = false := by
  obtain rfl : f = 3 := Option.some.inj ((show Tryd.prog.funcNamed "loop.example/g00498/laws.FnEvents" = some 3 by kernel_rfl).symm.trans hf) |>.symm
  obtain rfl : fn = Tryd.f3 := (Option.some.inj (Tryd.func3.symm.trans hfn)).symm
  refine ⟨by kernel_rfl, fun j t ht => ?_⟩
  rw [Tryd.params3] at ht
  obtain rfl : t = 22 := by simpa using Array.mem_of_getElem? ht
  exact (show Tryd.prog.wantsStandIn 22 = false by kernel_rfl)
theorem proved : Rows.FnEventsCardSaid :=
  Claim7.holds_tied_plain_at .later [] _ _ _ _ said (fun _ h => by cases h) (by kernel_rfl) (fun _ h => by cases h) fnEvents_row_tie rfl ⟨rfl, rfl⟩ (by kernel_rfl) rfl plain (by kernel_rfl)
end Go.Proofs.YtbjndnpdmohjiaaDoor.fnEvents
