/-
  For every code of bytes, laws.FnRawText returns true: a plan is read as it was written, and nothing else is. The card ties the listed tables and the program's sentinel to the program's text. No other condition.
-/
import Derived.Test.YtcbohfncckpolaaGreatDoorRows
import Derived.WalkKit
import Derived.ProofKit
import Derived.OpenShut
import Derived.ShutString
import Derived.ChangeOld
import Derived.Below
import Derived.Test.YtcbohfncckpolaaGreatDoorCards
import Derived.Test.YtcbohfncckpolaaGreatDoorTie
import Derived.Deep.DeepHandedRow
import Derived.Lib.LaidTab
import Derived.LaidMore
import Derived.LaidHandle
import Derived.Stop.LaidErr
import Derived.Test.YtcbohfncckpolaaGreatDoorPlanF
import Derived.Test.YtcbohfncckpolaaGreatDoorPlanE
import Derived.Test.YtcbohfncckpolaaGreatDoorPlanG
import Derived.Deep.DeepCutAuto
namespace Go.Proofs.YtcbohfncckpolaaGreatDoor.fnRawText
open Go.ChangeShapes Go.WideShapes Go.ChangeAt Go.RowKit
open Go.ChangeMaps (open_string shut_string)
set_option linter.unusedVariables false

theorem own : ownKnob Tryz.prog.godebug = none := by kernel_rfl
theorem laidOut : laidOutB Tryz.prog = true := by kernel_rfl
def IsRow (k : IntKind) (w : World) (a : Option Addr) (len cap : Nat) (zs : List Int) : Prop :=
  (a = none ∧ len = 0 ∧ cap = 0 ∧ zs = []) ∨
  ∃ x, a = some x ∧ len ≤ cap ∧ cap ≤ maxLen ∧ zs.length = cap ∧ (∀ i, i < zs.length → w.cell? (x.add i) = some (.int k (zs.getD i 0))) ∧ ∀ n ∈ zs, (Lit.int k n).wf = true
attribute [local go_sem] Region.wanted yielded
theorem len_le_cap {w : World} {a : Option Addr} {len cap : Nat} {z : List Int} (h : IsRow .u8 w a len cap z) : len ≤ cap := by
  rcases h with ⟨_, rfl, rfl, _⟩ | ⟨_, _, h, _⟩
  · exact Nat.le_refl _
  · exact h
open Num in
set_option maxHeartbeats 8000000 in
set_option maxRecDepth 100000 in
theorem walk (a0 : Option Addr) (len0 cap0 : Nat) (z0 : List Int) (w : World) (w0 : IsRow .u8 w a0 len0 cap0 z0) (htab : Go.Lib.TabIs Tryz.prog w "internal/strconv.uint64pow10" .u64 Go.Lib.pow10Tab) (hE0 : ∃ a, Num.ErrText w a) (hsh : w.ShapedOpen Tryz.prog) :
    Calls Tryz.prog 3 #[.slice a0 len0 cap0] w fun e w' => e = .returned (.bool true) ∧ Below w.heap.size w w' := by
  obtain ⟨ae, hE⟩ := hE0
  have HT : Hid (∀ wx, Below w.heap.size w wx → Go.Lib.TabIs Tryz.prog wx "internal/strconv.uint64pow10" .u64 Go.Lib.pow10Tab) := Lib.hid fun wx hb => tabIs_below htab hb
  have HR : Hid (∀ (s : ByteArray) (wx : World), s.size ≤ 1048576 → Below w.heap.size w wx → Calls Tryz.prog 8 #[.string s] wx fun e w' => RRaw wx s.data.toList e w' ∧ Below wx.heap.size wx w') := Lib.hid fun s wx hs hb => implReadRaw_any s ae wx hs (shaped_below hsh hb) (hE.below hb)
  clear htab hE hsh
  by_cases hb : 1048576 < len0
  · clear w0
    go_enter Tryz.func3, Tryz.ntmps3
    go_wp2
    go_ret
    exact ⟨rfl, Below.refl _ _⟩
  · have hcode := codeOf w0 (by omega)
    have Hcode := Lib.hid hcode
    clear w0 hcode
    go_enter Tryz.func3, Tryz.ntmps3
    go_wp2_with (go_at_call 5; go_in)
    refine (drawRawText_any a0 len0 cap0 w w.heap.size (Nat.le_refl _) Hcode.out).mono ?_
    rintro e w1 ⟨v, r, hfew, rfl, hraw, hb1⟩
    obtain ⟨y1, hy1, hm1⟩ := hraw
    injection hy1 with hy1; injection hy1 with hy1; injection hy1 with hy1
    subst hy1
    obtain ⟨ra, rc, rfl⟩ := hm1.len
    have hSm : Small r := ⟨by have := hfew.1; omega, fun m hm => by have := hfew.2.1 m hm; omega⟩
    have HSm := Lib.hid hSm
    have hW2 := Holds.fresh 26 (show RawAt w1 (· < w1.heap.size) (.agg #[.slice ra r.length rc]) r from ⟨_, rfl, hm1⟩)
    have hl2 : Below w.heap.size w (w1.alloc (.cells #[.slice ra r.length rc] 26)) := hb1.alloc hb1.size _
    have HW2 := Lib.hid hW2
    clear hb1 hm1 hW2 hSm hfew
    go_upto_region 4 with fail
    generalize w1.alloc (.cells #[.slice ra r.length rc] 26) = w2 at HW2 hl2 ⊢
    generalize w1.heap.size = gr at HW2 ⊢
    obtain ⟨c0, _⟩ := HW2.out.one
    go_wp2_with fail
    refine (implRawText_any _ r w2 HW2.out.raw HSm.out (HT.out _ hl2)).mono ?_
    rintro e w3 ⟨f, hf, rfl, hb3⟩
    have HF := Lib.hid hf
    have HW3 := Lib.hid (HW2.out.all hb3)
    have hl3 := hl2.trans (hb3.mono hl2.size)
    have hcase : ∃ r1, Num.Good (rawT r f) r1 ∧ ((f.1 = 0 ∧ r1 = r) ∨ (f.1 ≠ 0 ∧ r1 = [] ∧ rawT r f = [])) := by
      by_cases h0 : f.1 = 0
      · obtain ⟨h6, hA⟩ := first_ok hf h0
        exact ⟨r, ⟨h6, hA, by unfold rawT; rw [if_pos h0]⟩, .inl ⟨h0, rfl⟩⟩
      · have he : rawT r f = [] := by unfold rawT; rw [if_neg h0]
        exact ⟨[], by rw [he]; exact good_nil, .inr ⟨h0, rfl, he⟩⟩
    obtain ⟨r1, hg1, hc1⟩ := hcase
    have hlen := hg1.len
    have HG1 := Lib.hid hg1
    have Hc1 := Lib.hid hc1
    have hf1 := hg1.few
    have HS1 : Hid (Small r1) := Lib.hid ⟨by have := hf1.1; omega, fun m hm => by have := hf1.2.1 m hm; omega⟩
    obtain ⟨sT, hsT⟩ : ∃ s : ByteArray, s = ⟨(rawT r f).toArray⟩ := ⟨_, rfl⟩
    have hsz : sT.size ≤ 4000 := by rw [hsT]; simpa [ByteArray.size] using hlen
    have HsT : Hid (sT.data.toList = rawT r f) := Lib.hid (by rw [hsT])
    rw [← hsT]
    clear hl2 HW2 hb3 c0 hf hg1 hc1 hlen hf1 hsT
    go_wp2_with fail
    refine (HR.out sT _ (by omega) hl3).mono ?_
    rintro e w4 ⟨hx, hb4⟩
    rw [HsT.out] at hx
    obtain ⟨u, ms, hp, rfl, hox⟩ := hx.told (r := r1) (b := true) (.inl ⟨HG1.out, rfl⟩)
    obtain ⟨xa, xc, rfl⟩ := hox.at_.len
    rw [show (plain ms).length = r1.length by rw [hp]] at hox ⊢
    have hrx : RawAt w4 (· < w4.heap.size) (.agg #[.slice xa r1.length xc]) r1 := by
      have := hox.raw; rw [hp] at this; exact this.keep (fun _ _ _ => rfl) fun b hb => hb.2
    have hX5 := Holds.fresh 26 hrx
    have hW4 := HW3.out.all hb4
    have hl4 := hl3.trans (hb4.mono hl3.size)
    have hb5 : Below w4.heap.size w4 (w4.alloc (.cells #[.slice xa r1.length xc] 26)) := (Below.refl _ _).alloc (Nat.le_refl _) _
    have HW5 := Lib.hid (hW4.all hb5)
    have HX5 := Lib.hid hX5
    have hl5 := hl4.trans (hb5.mono hl4.size)
    clear hX5 hW4 hl4 hb5 hrx hox hb4 hx hp hl3 HW3
    go_upto_region 6 with fail
    generalize w4.alloc (.cells #[.slice xa r1.length xc] 26) = w5 at HW5 HX5 hl5 ⊢
    generalize w4.heap.size = gx at HX5 ⊢
    obtain ⟨c0, _⟩ := HW5.out.one
    obtain ⟨d0, _⟩ := HX5.out.one
    go_wp2_with fail
    refine (specRawOk_any _ r w5 HW5.out.raw HSm.out).mono ?_
    rintro e w6 ⟨f', hf', rfl, hb6⟩
    obtain rfl := hf'.one HF.out
    have HW6 := Lib.hid (HW5.out.all hb6)
    have HX6 := Lib.hid (HX5.out.all hb6)
    have hl6 := hl5.trans (hb6.mono hl5.size)
    clear HW5 HX5 hl5 hb6 c0 d0 hf'
    obtain ⟨c0, _⟩ := HW6.out.one
    obtain ⟨d0, _⟩ := HX6.out.one
    rcases Hc1.out with ⟨h0, rfl⟩ | ⟨h0, rfl, he⟩
    · rw [show (f'.1 == 0) = true from beq_iff_eq.2 h0]
      have Hc6 := Lib.hid (Hcode.out.below hl6)
      go_wp2_with fail
      refine (drawReadRaw_any a0 len0 cap0 _ w.heap.size hl6.size Hc6.out).mono ?_
      rintro e w7 ⟨t, ht, rfl, hb7⟩
      have HW7 := Lib.hid (HW6.out.all hb7)
      have HX7 := Lib.hid (HX6.out.all hb7)
      have hl7 := hl6.trans (hb7.mono hl6.size)
      obtain ⟨r2, b2, hrb, hS2⟩ := readRaw_case t.data.toList
      have Hrb := Lib.hid hrb
      have HS2 := Lib.hid hS2
      have HRt := Lib.hid (HR.out t w7 (by omega) hl7)
      have HSt := Lib.hid (fun wx => specReadRaw_any t wx (by omega))
      clear HW6 HX6 hl6 hb7 c0 d0 Hc6 hrb hS2 HR
      go_wp2_with fail
      refine HRt.out.mono ?_
      rintro e w8 ⟨hy, hb8⟩
      obtain ⟨uy, my, hpy, rfl, hoy⟩ := hy.told Hrb.out
      obtain ⟨ya, yc, rfl⟩ := hoy.at_.len
      rw [show (plain my).length = r2.length by rw [hpy]] at hoy ⊢
      have hry : RawAt w8 (· < w8.heap.size) (.agg #[.slice ya r2.length yc]) r2 := by
        have := hoy.raw; rw [hpy] at this; exact this.keep (fun _ _ _ => rfl) fun b hb => hb.2
      have hY9 := Holds.fresh 26 hry
      have hb9 : Below w8.heap.size w8 (w8.alloc (.cells #[.slice ya r2.length yc] 26)) := (Below.refl _ _).alloc (Nat.le_refl _) _
      have HW9 := Lib.hid ((HW7.out.all hb8).all hb9)
      have HX9 := Lib.hid ((HX7.out.all hb8).all hb9)
      have HY9 := Lib.hid hY9
      have hl9 := (hl7.trans (hb8.mono hl7.size)).trans (hb9.mono (hl7.trans (hb8.mono hl7.size)).size)
      clear hY9 hb9 hry hoy hb8 hy hpy hl7 HW7 HX7 HRt
      go_upto_region 11 with fail
      generalize w8.alloc (.cells #[.slice ya r2.length yc] 26) = w9 at HW9 HX9 HY9 hl9 ⊢
      generalize w8.heap.size = gy at HY9 ⊢
      refine (HSt.out _).mono ?_
      rintro e w10 ⟨hz, hb10⟩
      obtain ⟨vz, rfl, hvz⟩ := hz.told Hrb.out
      obtain ⟨yz, rfl, hyz⟩ := hvz
      obtain ⟨za, zc, rfl⟩ := hyz.len
      clear hyz
      have hb10' : Below w10.heap.size w10 (w10.alloc (.cells #[.slice za r2.length zc] 26)) := (Below.refl _ _).alloc (Nat.le_refl _) _
      have HW10 := Lib.hid ((HW9.out.all hb10).all hb10')
      have HX10 := Lib.hid ((HX9.out.all hb10).all hb10')
      have HY10 := Lib.hid ((HY9.out.all hb10).all hb10')
      have hl10 := (hl9.trans (hb10.mono hl9.size)).trans (hb10'.mono (hl9.trans (hb10.mono hl9.size)).size)
      have hG2 : b2 = true → Num.Good t.data.toList r2 := fun e => by
        rcases Hrb.out with ⟨h, _⟩ | ⟨_, _, h⟩
        · exact h
        · rw [e] at h; cases h
      have HG2 := Lib.hid hG2
      have hbb : (b2 == b2) = true := by simp
      have htt : (t.toList == t.toList) = true := by simp
      clear hz hb10 hb10' HW9 HX9 HY9 hl9 HSt hG2
      go_upto_region 11 with fail
      generalize w10.alloc (.cells #[.slice za r2.length zc] 26) = w10' at HW10 HX10 HY10 hl10 ⊢
      obtain ⟨c0, _⟩ := HW10.out.one
      obtain ⟨d0, _⟩ := HX10.out.one
      obtain ⟨y0, _⟩ := HY10.out.one
      go_wp2_with fail
      refine (specSameRaw_any _ _ r1 r1 _ HX10.out.raw HW10.out.raw HSm.out HSm.out).mono ?_
      rw [same_yes rfl]
      rintro e w11 ⟨rfl, hb11⟩
      have HY11 := Lib.hid (HY10.out.all hb11)
      have hl11 := hl10.trans (hb11.mono hl10.size)
      clear hb11 HW10 HX10 HY10 hl10 c0 d0 y0
      obtain ⟨y0, _⟩ := HY11.out.one
      cases b2 with
      | false =>
        go_wp2_with fail
        go_ret
        exact ⟨rfl, hl11⟩
      | true =>
        have HG := Lib.hid (HG2.out rfl)
        clear HG2 Hrb
        go_wp2_with fail
        refine (implRawText_any _ r2 _ HY11.out.raw HS2.out (HT.out _ hl11)).mono ?_
        rintro e w12 ⟨f2, hf2, rfl, hb12⟩
        have hst : (⟨(rawT r2 f2).toArray⟩ : ByteArray) = t := by rw [good_text hf2 HG.out]
        rw [hst]
        have HY12 := Lib.hid (HY11.out.all hb12)
        have hl12 := hl11.trans (hb12.mono hl11.size)
        clear hb12 HY11 hl11 y0 hst hf2
        obtain ⟨y0, _⟩ := HY12.out.one
        go_wp2_with fail
        refine (specRawOk_any _ r2 _ HY12.out.raw HS2.out).mono ?_
        rintro e w13 ⟨f3, hf3, rfl, hb13⟩
        rw [show (f3.1 == 0) = true from beq_iff_eq.2 (good_zero hf3 HG.out)]
        have hl13 := hl12.trans (hb13.mono hl12.size)
        clear hb13 HY12 hl12 y0 hf3
        go_wp2_with fail
        go_ret
        exact ⟨rfl, hl13⟩
    · rw [show (f'.1 == 0) = false from beq_eq_false_iff_ne.2 h0]
      have hse : sT.toList.isEmpty = true := by rw [ByteArray.toList_eq, HsT.out, he]; rfl
      go_wp2_with fail
      go_ret
      exact ⟨rfl, hl6⟩

/-- The cells of a pinned table of numbers, for the witness. -/
def pinCells : DataW Unit → Array Value
  | .agg ds => (ds.map fun d => match d with | .lit (.int k n) => Value.int k n | _ => Value.int .u8 0).toArray
  | _ => #[]
noncomputable def witWorld0 (os : Os) : World :=
  { (World.doorLaid Tryz.prog 53 os) with heap := (World.doorLaid Tryz.prog 53 os).heap.modify 3 fun o => match o with | .cells _ t fr => .cells (pinCells Go.Pinned.utf8First) t fr | o => o }
set_option maxRecDepth 100000 in
theorem contract (H : Type) (enc : TypeId × Value → H) (W : World) (base : Nat) (args : Array Value) (ds gs : List (DataW H)) (before : List MemPlace)
    (hval : ∀ (j : Nat) t v, Tryz.f3.params[j]? = some t → args[j]? = some v → Value.okWide Tryz.prog W .any base t v)
    (hW : DataW.Whole enc Tryz.prog Tryz.f3.params.toList Rows.fnRawTextSpec.vars false W args.toList ds gs before) (hL : laidMetH Tryz.prog Rows.fnRawTextRow.laid W) (hsh : W.ShapedOpen Tryz.prog) :
    Calls Tryz.prog 3 args W fun e W' => ∃ v, e = .returned v ∧ Rows.fnRawTextSpec.post enc Tryz.prog Tryz.f3 false true false false W args v W' := by
  have hW' := hW
  obtain ⟨p, q, hA0, hV, rfl, hfz, hnd⟩ := hW
  have hA : DataW.TrodAll enc Tryz.prog W 0 (fun _ => true) true Tryz.f3.params.toList args.toList ds p := hA0
  rw [Tryz.params3] at hA hval
  obtain ⟨v0, vs0, d0, ds0, p0, q0, hargs, rfl, rfl, h0, r0⟩ := trodAll_cons hA
  obtain ⟨rfl, rfl, rfl⟩ := trodAll_nil r0
  obtain rfl : args = #[v0] := by cases args; simp_all
  have hVk := hV
  obtain ⟨_, _, _, _, _, _, rfl, _, _, _, _, _⟩ := trodVars_one hV
  obtain ⟨a0, len0, cap0, rfl⟩ := okWide_slice Tryz.underlying22 (hval 0 22 v0 rfl rfl)
  have k0 := h0
  have lt0 : ∀ x ∈ p0, x.block < W.heap.size := by obtain ⟨m, hm⟩ := k0; exact DataW.trod_lt m _ _ _ hm
  obtain ⟨z0, w0⟩ : ∃ zs, IsRow .u8 W a0 len0 cap0 zs := by
    obtain ⟨fuel, hf⟩ := h0
    rcases open_ints Tryz.underlying22 Tryz.underlying5 (by kernel_rfl) hf with ⟨hcs, _⟩ | ⟨x, l, c, zs, hcs, _, hl, hm, hz, _, hcell, hwz⟩
    · simp [Value.cells] at hcs
      obtain ⟨rfl, rfl, rfl⟩ := hcs
      exact ⟨[], .inl ⟨rfl, rfl, rfl, rfl⟩⟩
    · simp [Value.cells] at hcs
      obtain ⟨rfl, rfl, rfl⟩ := hcs
      exact ⟨zs, .inr ⟨_, rfl, hl, hm, by simpa using hz, hcell, hwz⟩⟩
  clear hA0
  refine (walk a0 len0 cap0 z0 W w0 (Num.pow10_of hL.tail.tail) (Num.errText_of hL.tail.tail.tail.tail) (hsh)).mono fun e W' ⟨he, bel⟩ => ?_
  subst he
  exact ⟨_, rfl, _, _, _, [], _, _, hW', trodAll_mk1 (shut_bool Tryz.underlying4 _), (trodAll_cons_mk (Below.trod laidOut (by kernel_rfl) (of_decide_eq_true (by kernel_rfl)) k0 bel lt0) trodAll_mk0), Num.vars_again bel hVk, bel.frame _, fun h => by cases h⟩

set_option maxRecDepth 100000 in
theorem laid_met (os : Os) : laidMet Tryz.prog Rows.fnRawTextRow.laid ((witWorld0 os).forCall (fun _ _ => 0) ⟨#[], #[.slice none 0 0], []⟩).memory :=
  laidMet_of_run' 8 (by kernel_rfl) (by kernel_rfl)
set_option maxRecDepth 100000 in
theorem reads (os : Os) {H : Type} (enc : TypeId × Value → H) : ∃ gs places, DataW.whole enc Tryz.prog ((witWorld0 os).forCall (fun _ _ => 0) ⟨#[], #[.slice none 0 0], []⟩).memory Tryz.f3.params.toList Rows.fnRawTextSpec.vars false (#[.slice none 0 0] : Array Value).toList 8 = some ([.nil], gs, places) := by
  have h : (DataW.whole enc Tryz.prog ((witWorld0 os).forCall (fun _ _ => 0) ⟨#[], #[.slice none 0 0], []⟩).memory Tryz.f3.params.toList Rows.fnRawTextSpec.vars false (#[.slice none 0 0] : Array Value).toList 8).map (fun x => x.1) = some ([.nil] ) := by kernel_rfl
  obtain ⟨⟨a, b, p⟩, hx, e⟩ := Option.map_eq_some_iff.1 h
  simp only at e
  subst e
  exact ⟨b, p, hx⟩

set_option maxRecDepth 100000 in
theorem lifted (os : Os) (started : os.Started) (H : Type) (enc : TypeId × Value → H) (F : Stop.Interp) :
    ReturnsInHanded {} Tryz.checked os 3 .any ((OpenSpec.ofChange Rows.fnRawTextSpec).preRow enc Tryz.prog Tryz.f3 Rows.fnRawTextRow.domain false Rows.fnRawTextRow.laid) (((OpenSpec.ofChange Rows.fnRawTextSpec).at F).post enc Tryz.prog Tryz.f3 false true false false) := by
  obtain ⟨gs0, places, hx⟩ := reads os enc
  refine returnsInHanded_of_row (C := Tryz.checked) (s := OpenSpec.ofChange Rows.fnRawTextSpec) own started (by kernel_rfl) Tryz.func3
    (witness_row_at (enc := enc) (C := Tryz.checked) false (witWorld0 os) #[.slice none 0 0] rfl (by kernel_rfl) (by kernel_rfl) (by kernel_rfl)
      (OpenSpec.preRow_of_cond 8 hx (by kernel_rfl) (fun k hk => by cases hk) (by kernel_rfl) (laid_met os))) ?_
  intro W base args ds gs before hval hW _ _ _ hL hsh _
  exact contract H enc W base args ds gs before hval hW hL hsh
theorem said : Rows.fnRawTextRow.holds Tryz.pinned (OpenSpec.ofChange Rows.fnRawTextSpec) :=
  OpenClaim.holds_of_cond 3 Tryz.f3 rfl rfl rfl rfl rfl rfl rfl ⟨rfl, rfl, rfl, rfl, rfl⟩ rfl rfl rfl rfl rfl (by kernel_rfl) Tryz.func3 (by kernel_rfl)
    (of_decide_eq_true (by kernel_rfl)) (by unfold Func.isWrapper; first | (rw [if_pos (by decide +kernel)]; kernel_rfl) | (rw [if_neg (by decide +kernel)]; exact ⟨rfl, rfl⟩))
    (fun os started H enc _ F => by rw [OpenClaim.pre_eq_preRow]; exact lifted os started H enc F)
theorem plain (f : FuncId) (fn : Func) (hf : Tryz.pinned.checked.prog.funcNamed "loop.example/g00498/laws.FnRawText" = some f) (hfn : Tryz.pinned.checked.prog.funcs[f]? = some fn) :
    true = Tryz.pinned.checked.prog.looks [] ∧ ∀ (j : Nat) t, fn.params[j]? = some t → Tryz.pinned.checked.prog.wantsStandIn t = false := by
  obtain rfl : f = 3 := Option.some.inj ((show Tryz.prog.funcNamed "loop.example/g00498/laws.FnRawText" = some 3 by kernel_rfl).symm.trans hf) |>.symm
  obtain rfl : fn = Tryz.f3 := (Option.some.inj (Tryz.func3.symm.trans hfn)).symm
  refine ⟨by kernel_rfl, fun j t ht => ?_⟩
  rw [Tryz.params3] at ht
  obtain rfl : t = 22 := by simpa using Array.mem_of_getElem? ht
  exact (show Tryz.prog.wantsStandIn 22 = false by kernel_rfl)
theorem proved : Rows.FnRawTextCardSaid :=
  Claim7.holds_tied_plain_at .later [] _ _ _ _ said (fun _ h => by cases h) (by kernel_rfl) (fun _ h => by cases h) fnRawText_row_tie rfl ⟨rfl, rfl⟩ (by kernel_rfl) rfl plain (by kernel_rfl)
end Go.Proofs.YtcbohfncckpolaaGreatDoor.fnRawText
