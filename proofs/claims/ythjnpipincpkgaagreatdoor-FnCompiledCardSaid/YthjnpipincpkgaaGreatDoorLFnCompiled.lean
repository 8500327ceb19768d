/-
  For every code of bytes, laws.FnCompiled returns true: Compile's violation is FirstViolation's; with one, the schema is empty; with none, it is valid and has exactly the description's messages and fields. No condition.
-/
import Derived.Test.YthjnpipincpkgaaGreatDoorRows
import Derived.WalkKit
import Derived.ProofKit
import Derived.OpenShut
import Derived.ShutString
import Derived.ChangeOld
import Derived.Below
import Derived.Test.YthjnpipincpkgaaGreatDoorCards
import Derived.Test.YthjnpipincpkgaaGreatDoorTie
import Derived.Deep.DeepHandedRow
import Derived.Lib.LaidTab
import Derived.LaidMore
import Derived.LaidHandle
import Derived.Stop.LaidErr
import Derived.Test.YthjnpipincpkgaaGreatDoorDrawBent
import Derived.Test.YthjnpipincpkgaaGreatDoorCompAllC
import Derived.Test.YthjnpipincpkgaaGreatDoorCompOwn
import Derived.Test.YthjnpipincpkgaaGreatDoorSchemaImpl
import Derived.Test.YthjnpipincpkgaaGreatDoorErrType
import Derived.Deep.DeepCutAuto
namespace Go.Proofs.YthjnpipincpkgaaGreatDoor.fnCompiled
open Go.ChangeShapes Go.WideShapes Go.ChangeAt Go.RowKit
open Go.ChangeMaps (open_string shut_string)
set_option linter.unusedVariables false

theorem own : ownKnob Tryz.prog.godebug = none := by kernel_rfl
theorem laidOut : laidOutB Tryz.prog = true := by kernel_rfl
def IsRow (k : IntKind) (w : World) (a : Option Addr) (len cap : Nat) (zs : List Int) : Prop :=
  (a = none ∧ len = 0 ∧ cap = 0 ∧ zs = []) ∨
  ∃ x, a = some x ∧ len ≤ cap ∧ cap ≤ maxLen ∧ zs.length = cap ∧ (∀ i, i < zs.length → w.cell? (x.add i) = some (.int k (zs.getD i 0))) ∧ ∀ n ∈ zs, (Lit.int k n).wf = true
set_option linter.unusedSimpArgs false
attribute [local go_sem] Region.wanted yielded
open Num in
theorem drawCompile_any (a : Option Addr) (len cap : Nat) (w : World) (h : CodeAt w w.heap.size a len) :
    Calls Tryz.prog 7 #[.slice a len cap] w fun e w' => ∃ (v : Value) (r : List RM), (0 < r.length ∧ r.length ≤ 7 ∧ ∀ m ∈ r, m.2.length ≤ 14) ∧ e = .returned (.agg #[v]) ∧ RawAt w' (· < w'.heap.size) (.agg #[v]) r ∧ Below w.heap.size w w' := by
  have H := Lib.hid h; clear h
  go_enter Tryz.func7, Tryz.ntmps7
  go_wp2_with fail
  have hx0 := Box.fresh w #[.slice none 0 0] 26
  have hb0 : Below w.heap.size w (w.alloc (.cells #[.slice none 0 0] 26)) := (Below.refl _ _).alloc (Nat.le_refl _) _
  have hz0 : w.heap.size < (w.alloc (.cells #[.slice none 0 0] 26)).heap.size := by simp
  generalize w.alloc (.cells #[.slice none 0 0] 26) = w0 at hx0 hb0 hz0 ⊢
  refine (l1New_any w.heap.size a len cap _ (by omega) (H.out.below hb0)).mono ?_
  rintro e w1 ⟨g, rfl, hc1, hb1, hg1, hg1'⟩
  have Hc1 := Lib.hid hc1
  have hx1 := hx0.below hb1 hz0
  have hb01 := hb0.trans (hb1.mono (by omega))
  have hz1 := hb1.size
  clear hc1 hx0 hb0 hb1
  go_wp2_with fail
  refine (l6Bent_any _ g a len cap _ Hc1.out (by omega) hg1').mono ?_
  rintro e w2 ⟨v, ms, ⟨h0, h7, h14⟩, rfl, hown, hc2, hf2⟩
  obtain ⟨gm, capm, hv, _, _⟩ := World.ownsRow.form hown.row h0
  subst hv
  have hx2 := Box.offAt hf2 hx1 (by omega) (by omega)
  have hb02 : Below w.heap.size w w2 := hb01.trans (hf2.below (by omega) (by omega))
  have hO := hown.out (k := w.heap.size) (by omega)
  have Hown := Lib.hid (hown.other (p := ⟨w.heap.size, 0, none⟩) (.slice (some ⟨gm, 0, none⟩) ms.length capm) hO.1 hO.2)
  obtain ⟨x0, x1⟩ := hx2.2 0 (by simp)
  have hxs := hx2.set 0 (.slice (some ⟨gm, 0, none⟩) ms.length capm)
  have y0 : (w2.setCell ⟨w.heap.size, 0, none⟩ (.slice (some ⟨gm, 0, none⟩) ms.length capm)).cell? ⟨w.heap.size, 0, none⟩ = some (.slice (some ⟨gm, 0, none⟩) ms.length capm) := (hxs.2 0 (by simp)).1
  have hxl := hx2.1
  clear hc2 hf2 hown hO hx1 hb01 hx2 hxs
  go_wp2_with fail
  refine bodyPost_ret (v := .agg #[.slice (some ⟨gm, 0, none⟩) ms.length capm]) (by simp [results, Tryz.results7, go_sem, y0]) rfl ?_
  refine ⟨_, plain ms, ⟨by simpa [plain] using h0, by simpa [plain] using h7, fun m hm => ?_⟩, rfl, Hown.out.rawAtAll, hb02.setCell (by simp) _⟩
  obtain ⟨x, hx, rfl⟩ := List.mem_map.1 hm
  obtain ⟨j, hj, rfl⟩ := List.getElem_of_mem hx
  exact h14 j hj
open Num in
theorem first_raw {r : List RM} {w : World} {v : Value} (h : RawAt w (· < w.heap.size) (.agg #[v]) r) (h0 : 0 < r.length) : ∃ b o cap, v = .slice (some ⟨b, o, none⟩) r.length cap := by
  obtain ⟨y, hy, hm⟩ := h
  injection hy with hy; injection hy with hy; injection hy with hy
  subst hy
  obtain ⟨b, o, cap, hv, _⟩ := hm.cells h0
  exact ⟨b, o, cap, hv⟩
open Num in
theorem drawNumberOk_any (a : Option Addr) (len cap : Nat) (w : World) (h : CodeAt w w.heap.size a len) :
    Calls Tryz.prog 15 #[.slice a len cap] w fun e w' => ∃ z : Int, i64R z ∧ e = .returned (.int .i64 z) ∧ Below w.heap.size w w' := by
  have H := Lib.hid h; clear h
  go_enter Tryz.func15, Tryz.ntmps15
  go_wp2_with fail
  refine (l1New_any _ a len cap _ (Nat.le_refl _) H.out).mono ?_
  rintro e w1 ⟨g, rfl, hc1, hb1, hg1, hg1'⟩
  have Hc1 := Lib.hid hc1; clear hc1
  have hz1 := hb1.size
  go_wp2_with fail
  refine (l4Number_any _ g a len cap _ Hc1.out hz1 hg1').mono ?_
  rintro e w2 ⟨z, hz, rfl, hc2, hf2⟩
  have hb2 : Below w.heap.size w1 w2 := hf2.below hg1 hz1
  have Hz := Lib.hid hz
  clear hz hc2 hf2
  go_wp2_with fail
  go_ret
  exact ⟨z, Hz.out, rfl, hb1.trans hb2⟩
open Num in
/-- What the variable holds of message k. -/
theorem held_cells {w : World} {g C b o n cp : Nat} {r : List RM} (h : Holds w g C (.slice (some ⟨b, o, none⟩) n cp) r) (k : Nat) (hk : k < r.length) : ∃ xa xc, w.cell? ⟨b, o + k * 2, none⟩ = some (.int .i64 r[k].1) ∧ w.cell? ⟨b, o + k * 2 + 1, none⟩ = some (.slice xa r[k].2.length xc) ∧ b < C ∧
    ∀ (c : Nat) (hc : c < r[k].2.length), ∃ fb fo, xa = some ⟨fb, fo, none⟩ ∧ fb < C ∧ w.cell? ⟨fb, fo + c * 5, none⟩ = some (.int .i64 r[k].2[c].1) ∧ w.cell? ⟨fb, fo + c * 5 + 1, none⟩ = some (.int .i64 r[k].2[c].2.1) ∧ w.cell? ⟨fb, fo + c * 5 + 2, none⟩ = some (.bool r[k].2[c].2.2.1) ∧ w.cell? ⟨fb, fo + c * 5 + 3, none⟩ = some (.bool r[k].2[c].2.2.2.1) ∧ w.cell? ⟨fb, fo + c * 5 + 4, none⟩ = some (.int .i64 r[k].2[c].2.2.2.2) := by
  obtain ⟨y, hy, hm⟩ := h.2.1
  injection hy with hy; injection hy with hy; injection hy with hy
  subst hy
  obtain ⟨b', o', cap', hv, hb, hcs⟩ := hm.cells (by omega)
  injection hv with e1 e2 e3
  injection e1 with e1
  injection e1 with e1 e4
  subst e1; subst e4
  obtain ⟨u, d0, d1, hx⟩ := hcs k hk
  obtain ⟨xa, xc, rfl⟩ := hx.len
  refine ⟨xa, xc, d0, d1, hb, fun c hc => ?_⟩
  obtain ⟨fb, fo, fc, fv, fbC, fcs⟩ := hx.cells (by omega)
  injection fv with e1 e2 e3
  obtain ⟨x0, x1, x2, x3, x4⟩ := fcs c hc
  exact ⟨fb, fo, e1, fbC, x0, x1, x2, x3, x4⟩
open Num in
theorem holds_drewN {w : World} {g C : Nat} {a : Value} {r : List RM} (h : Holds w g C a r) (n : Nat) : Holds (w.drewN n) g C a r := h
open Num in
theorem held_len {w : World} {g C b o n cp : Nat} {r : List RM} (h : Holds w g C (.slice (some ⟨b, o, none⟩) n cp) r) {k l : Nat} (hk : ∃ hk : k < r.length, r[k].2.length = l) : ∃ fa fc, w.cell? ⟨b, o + k * 2 + 1, none⟩ = some (.slice fa l fc) := by
  obtain ⟨hk, rfl⟩ := hk
  obtain ⟨xa, xc, _, m1, _⟩ := held_cells h k hk
  exact ⟨xa, xc, m1⟩
open Num in
theorem held_id {w : World} {g C b o n cp : Nat} {r : List RM} (h : Holds w g C (.slice (some ⟨b, o, none⟩) n cp) r) {k : Nat} {id : Int} (hk : ∃ hk : k < r.length, r[k].1 = id) : w.cell? ⟨b, o + k * 2, none⟩ = some (.int .i64 id) := by
  obtain ⟨hk, rfl⟩ := hk
  obtain ⟨xa, xc, m0, _⟩ := held_cells h k hk
  exact m0
open Num in
theorem first_zero {r : List RM} {f : Int × Int × Int} (h : First r f) (h0 : f.1 = 0) : f = (0, 0, 0) := by
  rcases h with ⟨_, h⟩ | ⟨_, ⟨_, h⟩ | ⟨_, _, _, hn, h⟩ | ⟨_, _, _, _, _, _, _, hn, h⟩⟩
  · rw [h] at h0; cases h0
  · exact h
  · rw [h] at h0; exact absurd h0 hn
  · rw [h] at h0; exact absurd h0 hn
open Num in
set_option maxHeartbeats 8000000 in
set_option maxRecDepth 100000 in
theorem walk (a0 : Option Addr) (len0 cap0 : Nat) (z0 : List Int) (w : World) (w0 : IsRow .u8 w a0 len0 cap0 z0) (hE : Num.ErrType w) :
    Calls Tryz.prog 3 #[.slice a0 len0 cap0] w fun e w' => e = .returned (.bool true) ∧ Below w.heap.size w w' := by
  have HE := Lib.hid hE
  clear hE
  by_cases hb : 1048576 < len0
  · clear w0
    go_enter Tryz.func3, Tryz.ntmps3
    go_wp2
    go_ret
    exact ⟨rfl, Below.refl _ _⟩
  · have hcode := codeOf w0 (by omega)
    have Hcode := Lib.hid hcode
    clear w0 hcode
    go_enter Tryz.func3, Tryz.ntmps3
    go_wp2_with (go_at_call 6; go_in)
    refine (drawCompile_any a0 len0 cap0 _ Hcode.out).mono ?_
    rintro e w1 ⟨v, r, ⟨hn0, hn7, hf14⟩, rfl, hraw, hb1⟩
    have S0 : Hid (Small r) := Lib.hid ⟨by omega, fun m hm => Nat.le_trans (hf14 m hm) (by omega)⟩
    have F14 := Lib.hid hf14
    obtain ⟨b, o, cp, rfl⟩ := first_raw hraw hn0
    have hA := Holds.fresh 26 hraw
    have hlA : Below w.heap.size w (w1.alloc (.cells #[.slice (some ⟨b, o, none⟩) r.length cp] 26)) := hb1.trans ((Below.refl w1.heap.size _).alloc (Nat.le_refl _) _ |>.mono hb1.size)
    clear hraw hb1 hf14
    go_wp2_with fail
    generalize w1.alloc (.cells #[.slice (some ⟨b, o, none⟩) r.length cp] 26) = w2 at hA hlA ⊢
    generalize w1.heap.size = g3 at hA ⊢
    refine (implCompile_any _ r _ hA.raw S0.out (HE.out.all hlA)).mono ?_
    rintro e w3 ⟨⟨F1, F2, F3⟩, u3, hcomp, rfl, hb3⟩
    obtain ⟨hf, mt, hpt, hot⟩ := hcomp.own
    have Hf := Lib.hid hf
    obtain ⟨ya, yc, rfl⟩ := hot.at_.len
    have S1 := Lib.hid (small_res (f := (F1, F2, F3)) S0.out)
    obtain ⟨R, hR⟩ : ∃ R, resS r (F1, F2, F3) = R := ⟨_, rfl⟩
    have HR := Lib.hid hR
    rw [hR] at hpt S1
    rw [show (plain mt).length = R.length by rw [hpt]] at hot ⊢
    unfold violV
    have hl3 := hlA.trans (hb3.mono hlA.size)
    have hA3 := hA.all hb3
    have hu3 : RawAt w3 (· < w3.heap.size) (.agg #[.slice ya R.length yc]) R := by
      have h := hot.raw; rw [hpt] at h; exact h.keep (fun _ _ _ => rfl) fun b hb => hb.2
    have hb4 : Below w3.heap.size w3 ((w3.alloc (.cells #[.slice ya R.length yc] 30)).alloc (.cells #[.int .i64 F1, .int .i64 F2, .int .i64 F3] 32)) := ((Below.refl _ _).alloc (Nat.le_refl _) _).alloc (by simp) _
    have HW4 : Hid (Holds ((w3.alloc (.cells #[.slice ya R.length yc] 30)).alloc (.cells #[.int .i64 F1, .int .i64 F2, .int .i64 F3] 32)) w3.heap.size w3.heap.size (.slice ya R.length yc) R) := Lib.hid
      ((Holds.fresh 30 hu3).all ((Below.refl _ _).alloc (Nat.le_refl _) _))
    have HV4 : Hid (Box ((w3.alloc (.cells #[.slice ya R.length yc] 30)).alloc (.cells #[.int .i64 F1, .int .i64 F2, .int .i64 F3] 32)) (w3.heap.size + 1) [.int .i64 F1, .int .i64 F2, .int .i64 F3]) := Lib.hid (by
      have h := Box.fresh (w3.alloc (.cells #[.slice ya R.length yc] 30)) #[.int .i64 F1, .int .i64 F2, .int .i64 F3] 32
      rwa [show (w3.alloc (.cells #[.slice ya R.length yc] 30)).heap.size = w3.heap.size + 1 by simp] at h)
    have HA4 := Lib.hid (hA3.all hb4)
    have hl4 := hl3.trans (hb4.mono hl3.size)
    obtain ⟨c0, _⟩ := hA3.one
    have hgA := hA3.2.2.1
    clear hcomp hf hot hb3 hlA hA hl3 hA3 hu3 hb4 hpt hR
    go_upto_region 5 with fail
    clear c0 hgA
    generalize (w3.alloc (.cells #[.slice ya R.length yc] 30)).alloc (.cells #[.int .i64 F1, .int .i64 F2, .int .i64 F3] 32) = w4 at HA4 HW4 HV4 hl4 ⊢
    generalize w3.heap.size = gS at HW4 HV4 ⊢
    go_cut [31] from 28 to 31 (fun s wx => s = .bool false ∧ Hid (Holds wx g3 g3 (.slice (some ⟨b, o, none⟩) r.length cp) r) ∧ Hid (Holds wx gS gS (.slice ya R.length yc) R) ∧ Hid (Box wx (gS + 1) [.int .i64 F1, .int .i64 F2, .int .i64 F3]) ∧ Below w.heap.size w wx)
    case first =>
      have c0 := HA4.out.one.1
      obtain ⟨v0, v1, v2, _, _, _⟩ := HV4.out.three
      go_region_with (go_at_call 9; refine (specFirst_any _ r _ HA4.out.drew.raw S0.out).mono ?_; rintro e w5 ⟨f5, hf5, rfl, hb5⟩; obtain rfl := hf5.one Hf.out; unfold violV; have hA5 := Lib.hid (HA4.out.drew.all hb5); have hW5 := Lib.hid (HW4.out.drew.all hb5); have hV5 := Lib.hid (HV4.out.drew.below hb5 HV4.out.lt); have hl5 := hl4.drew.trans (hb5.mono hl4.size); have d1 := hV5.out.three.1; have d2 := hV5.out.three.2.1; have d3 := hV5.out.three.2.2.1; clear hb5 hf5)
      all_goals
        go_wp2_with fail
        go_meet
        exact ⟨by simp, hA5, hW5, hV5, hl5⟩
    case rest =>
      obtain ⟨rfl, HA, HW, HV, hl⟩ := hcut
      clear HA4 HW4 HV4 hl4
      have c0 := HA.out.one.1
      have s0 := HW.out.one.1
      obtain ⟨v0, v1, v2, _, _, _⟩ := HV.out.three
      by_cases hF : F1 = 0
      · obtain ⟨rfl, rfl, rfl⟩ : F1 = 0 ∧ F2 = 0 ∧ F3 = 0 := by
          have := first_zero Hf.out hF
          injection this with e1 e2; injection e2 with e2 e3; exact ⟨e1, e2, e3⟩
        have hRc : compileR r = R := by have := HR.out; simpa [resS] using this
        subst hRc
        obtain ⟨h6, hall⟩ := first_all Hf.out
        have HB := Lib.hid hall
        have HP := Lib.hid (AllB.schema hall h6)
        have hsb := Lib.hid (schema_yes HP.out)
        have HLn := Lib.hid (compileR_len r)
        obtain ⟨sb, so, rfl⟩ : ∃ sb so, ya = some ⟨sb, so, none⟩ := by
          obtain ⟨b', o', c', e⟩ := first_raw HW.out.raw (by rw [HLn.out]; exact hn0)
          injection e with e1 e2 e3
          exact ⟨b', o', e1⟩
        obtain ⟨R, hRR⟩ : ∃ R, compileR r = R := ⟨_, rfl⟩
        have HRR := Lib.hid hRR
        rw [HLn.out] at HW s0
        rw [hRR] at HW S1 HP hsb HLn
        clear hF hall hRR HR
        go_wp2_with fail
        refine (implSchemaOk_any _ R _ HW.out.raw S1.out).mono ?_
        rw [hsb.out]
        rintro e w6 ⟨rfl, hb6⟩
        have HA6 := Lib.hid (HA.out.all hb6)
        have HW6 := Lib.hid (HW.out.all hb6)
        have hl6 := hl.trans (hb6.mono hl.size)
        clear HA HW hl hb6 c0 s0
        have c0 := HA6.out.one.1
        have s0 := HW6.out.one.1
        go_wp2_with fail
        refine (specSchemaOk_any _ R _ HW6.out.raw S1.out).mono ?_
        rw [hsb.out]
        rintro e w7 ⟨rfl, hb7⟩
        have HA7 := Lib.hid (HA6.out.all hb7)
        have HW7 := Lib.hid (HW6.out.all hb7)
        have hl7 := hl6.trans (hb7.mono hl6.size)
        clear HA6 HW6 hl6 hb7 c0 s0
        have c0 := HA7.out.one.1
        have s0 := HW7.out.one.1
        go_wp2_with fail
        go_loopw [6] (fun i wx => ∃ k : Nat, k ≤ r.length ∧ i = .int .i64 k ∧ Hid (Holds wx g3 g3 (.slice (some ⟨b, o, none⟩) r.length cp) r) ∧ Hid (Holds wx gS gS (.slice (some ⟨sb, so, none⟩) r.length yc) R) ∧ Below w.heap.size w wx) (fun i _ => r.length - (intOf i).toNat)
        case atStart => exact ⟨0, by omega, rfl, HA7, HW7, hl7⟩
        case round =>
          clear c0 s0 HA7 HW7 hl7
          obtain ⟨k, hk, rfl, HA, HW, hl⟩ := hrel
          have c0 := HA.out.one.1
          have s0 := HW.out.one.1
          by_cases hlt : k < r.length
          · have hlti : (k : Int) < (r.length : Int) := by omega
            have hm : r[k] ∈ r := List.getElem_mem hlt
            obtain ⟨p, hp⟩ : ∃ p, rankR r r[k].1 = p := ⟨_, rfl⟩
            obtain ⟨X, hX⟩ : ∃ X, r[k].1 = X := ⟨_, rfl⟩
            obtain ⟨n, hn⟩ : ∃ n, r[k].2.length = n := ⟨_, rfl⟩
            have hpR : p < r.length := by rw [← hp]; exact rank_lt hlt
            have hn14 : n ≤ 14 := by rw [← hn]; exact F14.out _ hm
            have Hat : Hid (shapeAtR R X = (p : Int)) := Lib.hid (by rw [← hX, ← hp, ← HRR.out]; exact shape_seen HB.out h6 hm)
            have HnR : Hid (∃ hk : p < R.length, R[p].2.length = n) := Lib.hid (by
              obtain ⟨q1, q2⟩ := msg_at HB.out hm
              have e := HRR.out
              subst hp e
              exact ⟨q1, by rw [q2]; simp only [compFs_len]; exact hn⟩)
            have Hfd : Hid (∀ c (hc : c < r[k].2.length), fieldAtR R (p : Int) r[k].2[c].1 = (compF r r[k].2[c], true)) := Lib.hid (by
              intro c hc
              rw [← HRR.out, ← hp]
              exact field_seen HB.out hm (List.getElem_mem hc))
            have Hfn : Hid (∀ z, (fieldAtR R (p : Int) z).2 = hasNum r[k].2 z) := Lib.hid (by
              intro z
              rw [← HRR.out, ← hp]
              exact field_found HB.out hm z)
            have Href : Hid (∀ c (hc : c < r[k].2.length), r[k].2[c].2.1 = 8 → ∃ q : Nat, (compF r r[k].2[c]).2.2.2.2 = (q : Int) ∧ q < r.length ∧ ∃ hk : q < R.length, R[q].1 = r[k].2[c].2.2.2.2) := Lib.hid (by
              intro c hc h8
              obtain ⟨q1, q2, q3⟩ := ref_seen HB.out hm (List.getElem_mem hc) h8
              have e := HRR.out
              subst e
              exact ⟨_, q1, by rwa [compileR_len] at q2, q2, q3⟩)
            have HcA : Hid (∀ wx : World, Holds wx g3 g3 (.slice (some ⟨b, o, none⟩) r.length cp) r → _) := Lib.hid fun wx h => held_cells h k hlt
            obtain ⟨xa, xc, m0, m1, hbC, mf⟩ := HcA.out _ HA.out
            obtain ⟨fa, fc, s1⟩ := held_len HW.out HnR.out
            have hbl := Nat.lt_of_lt_of_le hbC HA.out.2.2.2.1
            rw [hX] at m0
            have HX := Lib.hid hX
            have HN := Lib.hid hn
            have Hp := Lib.hid hp
            have Hm := Lib.hid hm
            clear hX hn hp hm mf
            go_upto_region 14 with fail
            go_cut [7] (fun s7 wx => s7 = .int .i64 (p : Nat) ∧ Hid (Holds wx g3 g3 (.slice (some ⟨b, o, none⟩) r.length cp) r) ∧ Hid (Holds wx gS gS (.slice (some ⟨sb, so, none⟩) r.length yc) R) ∧ Below w.heap.size w wx)
            case first =>
              go_region_with (go_at_call 12; refine (implShapeAt_any _ R X _ HW.out.drew.raw S1.out).mono ?_; rw [Hat.out]; rintro e w9 ⟨rfl, hb9⟩; have HA9 := Lib.hid (HA.out.drew.all hb9); have HW9 := Lib.hid (HW.out.drew.all hb9); have hl9 := hl.drew.trans (hb9.mono hl.size); clear hb9)
              all_goals
                go_wp2_with fail
                go_meet
                exact ⟨rfl, HA9, HW9, hl9⟩
            case rest =>
              obtain ⟨rfl, HA9, HW9, hl9⟩ := hcut
              clear HA HW hl c0 s0 m0 m1 s1 hbl hbC fa fc xa xc
              obtain ⟨xa, xc, m0, m1, hbC, mf⟩ := HcA.out _ HA9.out
              obtain ⟨fa, fc, s1⟩ := held_len HW9.out HnR.out
              rw [HN.out] at m1
              have c0 := HA9.out.one.1
              have s0 := HW9.out.one.1
              have hpi : (p : Int) < (r.length : Int) := by omega
              have hp0 : decide ((p : Int) < 0) = false := decide_eq_false (by omega)
              have hp1 : decide ((r.length : Int) ≤ (p : Int)) = false := decide_eq_false (by omega)
              clear mf
              go_upto_region 15 with fail
              go_cut [96] from 71 to 96 (fun s wx => s = .bool false ∧ Hid (Holds wx g3 g3 (.slice (some ⟨b, o, none⟩) r.length cp) r) ∧ Hid (Holds wx gS gS (.slice (some ⟨sb, so, none⟩) r.length yc) R) ∧ Below w.heap.size w wx)
              case first =>
                go_quiet (fail)
                go_wp2_with fail
                go_meet
                exact ⟨congrArg Value.bool (decide_eq_false (by omega)), Lib.hid (holds_drewN HA9.out _), Lib.hid (holds_drewN HW9.out _), below_drewN hl9 _⟩
              case rest =>
                obtain ⟨rfl, HA10, HW10, hl10⟩ := hcut
                clear HA9 HW9 hl9 c0 s0 m0 m1 s1
                go_wp2_with fail
                go_loopw [8] (fun i wx => ∃ c : Nat, c ≤ n ∧ i = .int .i64 c ∧ Hid (Holds wx g3 g3 (.slice (some ⟨b, o, none⟩) r.length cp) r) ∧ Hid (Holds wx gS gS (.slice (some ⟨sb, so, none⟩) r.length yc) R) ∧ Below w.heap.size w wx) (fun i _ => n - (intOf i).toNat)
                case atStart => exact ⟨0, by omega, rfl, HA10, HW10, hl10⟩
                case round =>
                  clear HA10 HW10 hl10
                  obtain ⟨c, hc, rfl, HA, HW, hl⟩ := hrel
                  obtain ⟨xa, xc, m0, m1, hbC, mf⟩ := HcA.out _ HA.out
                  rw [HN.out] at m1
                  have c0 := HA.out.one.1
                  have s0 := HW.out.one.1
                  by_cases hcn : c < n
                  · have hcni : (c : Int) < (n : Int) := by omega
                    have hcr : c < r[k].2.length := by rw [HN.out]; exact hcn
                    obtain ⟨fb, fo, rfl, fbC, x0, x1, x2, x3, x4⟩ := mf c hcr
                    have Hf := Lib.hid (Hfd.out c hcr)
                    have Hr := Lib.hid (Href.out c hcr)
                    obtain ⟨f, hf⟩ : ∃ f, r[k].2[c] = f := ⟨_, rfl⟩
                    rw [hf] at x0 x1 x2 x3 x4 Hf Hr
                    clear hf
                    obtain ⟨A1, A2, A3, A4, A5⟩ := f
                    obtain ⟨C, hC⟩ : ∃ C, (compF r (A1, A2, A3, A4, A5)).2.2.2.2 = C := ⟨_, rfl⟩
                    have hcf : compF r (A1, A2, A3, A4, A5) = (A1, A2, A3, A4, C) := by rw [← hC]; rfl
                    rw [hcf] at Hf Hr
                    simp only at x0 x1 x2 x3 x4 Hf Hr
                    have hbl := Nat.lt_of_lt_of_le hbC HA.out.2.2.2.1
                    have hfl := Nat.lt_of_lt_of_le fbC HA.out.2.2.2.1
                    have hgl := HA.out.2.2.1
                    have hsl := HW.out.2.2.1
                    clear hC hcf mf
                    have hbN : Below wr.heap.size wr (wr.alloc (.cells #[.int .i64 A1, .int .i64 A2, .bool A3, .bool A4, .int .i64 A5] 45)) := (Below.refl _ _).alloc (Nat.le_refl _) _
                    have HA11 := Lib.hid (HA.out.all hbN)
                    have HW11 := Lib.hid (HW.out.all hbN)
                    have hl11 := hl.trans (hbN.mono hl.size)
                    have X11 := Lib.hid (Box.fresh wr #[.int .i64 A1, .int .i64 A2, .bool A3, .bool A4, .int .i64 A5] 45)
                    go_wp2_with fail
                    clear hbN
                    clear x0 x1 x2 x3 x4 hbl hfl hgl hsl c0 s0 m0 m1
                    generalize (wr.alloc (.cells #[.int .i64 A1, .int .i64 A2, .bool A3, .bool A4, .int .i64 A5] 45)) = w11 at HA11 HW11 hl11 X11 ⊢
                    generalize wr.heap.size = qf at X11 ⊢
                    refine (specFieldAt_any _ R (p : Int) A1 _ HW11.out.raw S1.out).mono ?_
                    rw [Hf.out]
                    unfold fieldV
                    rintro e w12 ⟨rfl, hb12⟩
                    have HA12 := Lib.hid (HA11.out.all hb12)
                    have HW12 := Lib.hid (HW11.out.all hb12)
                    have hl12 := hl11.trans (hb12.mono hl11.size)
                    have X12 := Lib.hid (X11.out.below hb12 X11.out.1)
                    have hgl := HA12.out.2.2.1
                    have hsl := HW12.out.2.2.1
                    have hql := X12.out.1
                    have s0 := HW12.out.one.1
                    obtain ⟨⟨y0, y1, y2, y3, y4⟩, _⟩ := Box.five X12.out
                    clear HA11 HW11 hl11 X11 hb12
                    have hbN : Below w12.heap.size w12 (w12.alloc (.cells #[.int .i64 A1, .int .i64 A2, .bool A3, .bool A4, .int .i64 C] 47)) := (Below.refl _ _).alloc (Nat.le_refl _) _
                    have HA13 := Lib.hid (HA12.out.all hbN)
                    have HW13 := Lib.hid (HW12.out.all hbN)
                    have hl13 := hl12.trans (hbN.mono hl12.size)
                    have X13 := Lib.hid (Box.fresh w12 #[.int .i64 A1, .int .i64 A2, .bool A3, .bool A4, .int .i64 C] 47)
                    have X13f := Lib.hid (X12.out.below hbN X12.out.1)
                    go_wp2_with fail
                    clear hbN y0 y1 y2 y3 y4 s0 hgl hsl hql
                    generalize (w12.alloc (.cells #[.int .i64 A1, .int .i64 A2, .bool A3, .bool A4, .int .i64 C] 47)) = w13 at HA13 HW13 hl13 X13 X13f ⊢
                    generalize w12.heap.size = qg at X13 ⊢
                    refine (implFieldAt_any _ R (p : Int) A1 _ HW13.out.raw S1.out).mono ?_
                    rw [Hf.out]
                    unfold fieldV
                    rintro e w14 ⟨rfl, hb14⟩
                    have HA14 := Lib.hid (HA13.out.all hb14)
                    have HW14 := Lib.hid (HW13.out.all hb14)
                    have hl14 := hl13.trans (hb14.mono hl13.size)
                    have X14f := Lib.hid (X13f.out.below hb14 X13f.out.1)
                    have X14g := Lib.hid (X13.out.below hb14 X13.out.1)
                    clear HA13 HW13 hl13 X13 X13f hb14
                    have hbN : Below w14.heap.size w14 (w14.alloc (.cells #[.int .i64 A1, .int .i64 A2, .bool A3, .bool A4, .int .i64 C] 47)) := (Below.refl _ _).alloc (Nat.le_refl _) _
                    have HA15 := Lib.hid (HA14.out.all hbN)
                    have HW15 := Lib.hid (HW14.out.all hbN)
                    have hl15 := hl14.trans (hbN.mono hl14.size)
                    have X15 := Lib.hid (Box.fresh w14 #[.int .i64 A1, .int .i64 A2, .bool A3, .bool A4, .int .i64 C] 47)
                    have X15f := Lib.hid (X14f.out.below hbN X14f.out.1)
                    have X15g := Lib.hid (X14g.out.below hbN X14g.out.1)
                    go_upto_region 23 with fail
                    clear hbN
                    generalize (w14.alloc (.cells #[.int .i64 A1, .int .i64 A2, .bool A3, .bool A4, .int .i64 C] 47)) = w15 at HA15 HW15 hl15 X15 X15f X15g ⊢
                    generalize w14.heap.size = qh at X15 ⊢
                    go_cut [181] from 133 to 181 (fun s wx => s = .bool false ∧ Hid (Holds wx g3 g3 (.slice (some ⟨b, o, none⟩) r.length cp) r) ∧ Hid (Holds wx gS gS (.slice (some ⟨sb, so, none⟩) r.length yc) R) ∧ Below w.heap.size w wx)
                    case first =>
                      obtain ⟨⟨y0, y1, y2, y3, y4⟩, _⟩ := Box.five X15f.out
                      obtain ⟨⟨z0, z1, z2, z3, z4⟩, _⟩ := Box.five X15g.out
                      obtain ⟨⟨v0, v1, v2, v3, v4⟩, _⟩ := Box.five X15.out
                      have s0 := HW15.out.one.1
                      by_cases h8 : A2 = 8
                      · obtain ⟨q, rfl, hqr, hqs⟩ := Hr.out h8
                        subst h8
                        have s1 := held_id HW15.out hqs
                        have hqi : (q : Int) < (r.length : Int) := by omega
                        clear hqs
                        go_quiet (fail)
                        go_wp2_with fail
                        go_meet
                        exact ⟨by simp, Lib.hid (holds_drewN HA15.out _), Lib.hid (holds_drewN HW15.out _), below_drewN hl15 _⟩
                      · have b8 : (A2 == 8) = false := neS h8
                        go_quiet (fail)
                        go_wp2_with fail
                        go_meet
                        exact ⟨by simp, Lib.hid (holds_drewN HA15.out _), Lib.hid (holds_drewN HW15.out _), below_drewN hl15 _⟩
                    case rest =>
                      obtain ⟨rfl, HA16, HW16, hl16⟩ := hcut
                      clear HA14 HW14 hl14 X14f X14g HA15 HW15 hl15 X15 X15f X15g
                      go_wp2_with fail
                      go_roundw
                      case rel => exact ⟨c + 1, by omega, by go_num, HA16, HW16, hl16⟩
                      case measure => simp [intOf]; omega
                  · have hge : (n : Int) ≤ (c : Int) := by omega
                    have hend : decide ((c : Int) < (n : Int)) = false := decide_eq_false (by omega)
                    clear mf
                    go_wp2_with fail
                    refine (drawNumberOk_any a0 len0 cap0 _ (Hcode.out.grow hl hl.size)).mono ?_
                    rintro e w11 ⟨z, _, rfl, hb11⟩
                    have HA11 := Lib.hid (HA.out.all hb11)
                    have HW11 := Lib.hid (HW.out.all hb11)
                    have hl11 := hl.trans (hb11.mono hl.size)
                    clear HA HW hl hb11 c0 s0 m0 m1 hend hge
                    have s0 := HW11.out.one.1
                    go_wp2_with fail
                    refine (implFieldAt_any _ R (p : Int) z _ HW11.out.raw S1.out).mono ?_
                    have Hz := Lib.hid (Hfn.out z)
                    obtain ⟨G, hG⟩ : ∃ G, fieldAtR R (p : Int) z = G := ⟨_, rfl⟩
                    obtain ⟨⟨G1, G2, G3, G4, G5⟩, known⟩ := G
                    rw [hG] at Hz ⊢
                    unfold fieldV
                    rintro e w12 ⟨rfl, hb12⟩
                    have HA12 := Lib.hid (HA11.out.all hb12)
                    have HW12 := Lib.hid (HW11.out.all hb12)
                    have hl12 := hl11.trans (hb12.mono hl11.size)
                    have HK : Hid (known = hasNum r[k].2 z) := Hz
                    clear HA11 HW11 hl11 hb12 s0 hG Hz
                    have hbN : Below w12.heap.size w12 (w12.alloc (.cells #[.int .i64 G1, .int .i64 G2, .bool G3, .bool G4, .int .i64 G5] 47)) := (Below.refl _ _).alloc (Nat.le_refl _) _
                    have HA13 := Lib.hid (HA12.out.all hbN)
                    have HW13 := Lib.hid (HW12.out.all hbN)
                    have hl13 := hl12.trans (hbN.mono hl12.size)
                    have X13 := Lib.hid (Box.fresh w12 #[.int .i64 G1, .int .i64 G2, .bool G3, .bool G4, .int .i64 G5] 47)
                    go_wp2_with fail
                    clear hbN
                    generalize (w12.alloc (.cells #[.int .i64 G1, .int .i64 G2, .bool G3, .bool G4, .int .i64 G5] 47)) = w13 at HA13 HW13 hl13 X13 ⊢
                    clear X13 HA12 HW12 hl12
                    have hkk : (known != known) = false := by simp
                    go_loopw [17, 18] (fun i17 i18 wx => ∃ c : Nat, c ≤ n ∧ i17 = .bool (hasNum (r[k].2.take c) z) ∧ i18 = .int .i64 c ∧ Hid (Holds wx g3 g3 (.slice (some ⟨b, o, none⟩) r.length cp) r) ∧ Hid (Holds wx gS gS (.slice (some ⟨sb, so, none⟩) r.length yc) R) ∧ Below w.heap.size w wx) (fun _ i _ => n - (intOf i).toNat)
                    case atStart => exact ⟨0, by omega, rfl, rfl, HA13, HW13, hl13⟩
                    case round =>
                      clear HA13 HW13 hl13
                      obtain ⟨c2, hc2, rfl, rfl, HA, HW, hl⟩ := hrel
                      obtain ⟨xa, xc, m0, m1, hbC, mf⟩ := HcA.out _ HA.out
                      rw [HN.out] at m1
                      have c0 := HA.out.one.1
                      by_cases hcn2 : c2 < n
                      · have hcni : (c2 : Int) < (n : Int) := by omega
                        have hcr : c2 < r[k].2.length := by rw [HN.out]; exact hcn2
                        obtain ⟨fb, fo, rfl, fbC, x0, _⟩ := mf c2 hcr
                        have Hst := Lib.hid (hasNum_step (x := z) hcr)
                        obtain ⟨N1, hN1⟩ : ∃ N1, r[k].2[c2].1 = N1 := ⟨_, rfl⟩
                        obtain ⟨Q, hQ⟩ : ∃ Q, hasNum (r[k].2.take c2) z = Q := ⟨_, rfl⟩
                        rw [hN1] at x0 Hst
                        rw [hQ] at Hst ⊢
                        clear hN1 hQ mf
                        cases Q
                        · go_wp2_with fail
                          go_roundw
                          case rel => exact ⟨c2 + 1, by omega, by rw [Hst.out]; simp, by go_num, HA, HW, hl⟩
                          case measure => simp [intOf]; omega
                        · go_wp2_with fail
                          go_roundw
                          case rel => exact ⟨c2 + 1, by omega, by rw [Hst.out]; simp, by go_num, HA, HW, hl⟩
                          case measure => simp [intOf]; omega
                      · have hQ : hasNum (r[k].2.take c2) z = known := by
                          rw [List.take_of_length_le (by rw [HN.out]; omega)]
                          exact HK.out.symm
                        rw [hQ]
                        have hge : (n : Int) ≤ (c2 : Int) := by omega
                        have hend : decide ((c2 : Int) < (n : Int)) = false := decide_eq_false (by omega)
                        clear hQ mf
                        go_wp2_with fail
                        go_roundw
                        case rel => exact ⟨k + 1, by omega, by go_num, HA, HW, hl⟩
                        case measure => simp [intOf]; omega
          · have hge : (r.length : Int) ≤ (k : Int) := by omega
            have hend : decide (k < r.length) = false := decide_eq_false hlt
            go_wp2_with fail
            go_ret
            exact ⟨rfl, hl⟩
      · have bF := neB2 hF
        have bF' : (F1 != 0) = true := by rw [bne, bF]; rfl
        have hRn : R = [] := by
          have := HR.out
          unfold resS at this
          rw [if_neg hF] at this
          exact this.symm
        subst hRn
        clear hF
        go_wp2_with fail
        go_ret
        exact ⟨by simp, hl⟩

set_option maxRecDepth 100000 in
theorem contract (H : Type) (enc : TypeId × Value → H) (W : World) (base : Nat) (args : Array Value) (ds gs : List (DataW H)) (before : List MemPlace)
    (hval : ∀ (j : Nat) t v, Tryz.f3.params[j]? = some t → args[j]? = some v → Value.okWide Tryz.prog W .any base t v)
    (hW : DataW.Whole enc Tryz.prog Tryz.f3.params.toList Rows.fnCompiledSpec.vars false W args.toList ds gs before) (hL : laidMetH Tryz.prog Rows.fnCompiledRow.laid W) (hsh : W.ShapedOpen Tryz.prog) :
    Calls Tryz.prog 3 args W fun e W' => ∃ v, e = .returned v ∧ Rows.fnCompiledSpec.post enc Tryz.prog Tryz.f3 false true false false W args v W' := by
  have hW' := hW
  obtain ⟨p, q, hA0, hV, rfl, hfz, hnd⟩ := hW
  have hA : DataW.TrodAll enc Tryz.prog W 0 (fun _ => true) true Tryz.f3.params.toList args.toList ds p := hA0
  rw [Tryz.params3] at hA hval
  obtain ⟨v0, vs0, d0, ds0, p0, q0, hargs, rfl, rfl, h0, r0⟩ := trodAll_cons hA
  obtain ⟨rfl, rfl, rfl⟩ := trodAll_nil r0
  obtain rfl : args = #[v0] := by cases args; simp_all
  obtain ⟨rfl, rfl⟩ := trodVars_none hV
  obtain ⟨a0, len0, cap0, rfl⟩ := okWide_slice Tryz.underlying22 (hval 0 22 v0 rfl rfl)
  have k0 := h0
  have lt0 : ∀ x ∈ p0, x.block < W.heap.size := by obtain ⟨m, hm⟩ := k0; exact DataW.trod_lt m _ _ _ hm
  obtain ⟨z0, w0⟩ : ∃ zs, IsRow .u8 W a0 len0 cap0 zs := by
    obtain ⟨fuel, hf⟩ := h0
    rcases open_ints Tryz.underlying22 Tryz.underlying5 (by kernel_rfl) hf with ⟨hcs, _⟩ | ⟨x, l, c, zs, hcs, _, hl, hm, hz, _, hcell, hwz⟩
    · simp [Value.cells] at hcs
      obtain ⟨rfl, rfl, rfl⟩ := hcs
      exact ⟨[], .inl ⟨rfl, rfl, rfl, rfl⟩⟩
    · simp [Value.cells] at hcs
      obtain ⟨rfl, rfl, rfl⟩ := hcs
      exact ⟨zs, .inr ⟨_, rfl, hl, hm, by simpa using hz, hcell, hwz⟩⟩
  clear hA0
  refine (walk a0 len0 cap0 z0 W w0 (Num.errType_of hL)).mono fun e W' ⟨he, bel⟩ => ?_
  subst he
  exact ⟨_, rfl, _, _, _, [], _, [], hW', trodAll_mk1 (shut_bool Tryz.underlying4 _), (trodAll_cons_mk (Below.trod laidOut (by kernel_rfl) (of_decide_eq_true (by kernel_rfl)) k0 bel lt0) trodAll_mk0), rfl, bel.frame _, fun h => by cases h⟩

set_option maxRecDepth 100000 in
theorem laid_met (os : Os) : laidMetH Tryz.prog Rows.fnCompiledRow.laid ((World.doorLaid Tryz.prog 16 os).forCall (fun _ _ => 0) ⟨#[], #[.slice none 0 0], []⟩).memory :=
  laidMetH_of_parts (laidMet_of_run' 8 (by kernel_rfl) (by kernel_rfl)) (by kernel_rfl)
theorem reads (os : Os) {H : Type} (enc : TypeId × Value → H) : ∃ places, DataW.whole enc Tryz.prog ((World.doorLaid Tryz.prog 16 os).forCall (fun _ _ => 0) ⟨#[], #[.slice none 0 0], []⟩).memory Tryz.f3.params.toList Rows.fnCompiledSpec.vars false (#[.slice none 0 0] : Array Value).toList 8 = some ([.nil], [], places) :=
  ⟨[], by kernel_rfl⟩
set_option maxRecDepth 100000 in
theorem lifted (os : Os) (started : os.Started) (H : Type) (enc : TypeId × Value → H) (F : Stop.Interp) :
    ReturnsInHanded {} Tryz.checked os 3 .any ((OpenSpec.ofChange Rows.fnCompiledSpec).preRow enc Tryz.prog Tryz.f3 Rows.fnCompiledRow.domain false Rows.fnCompiledRow.laid) (((OpenSpec.ofChange Rows.fnCompiledSpec).at F).post enc Tryz.prog Tryz.f3 false true false false) := by
  obtain ⟨places, hx⟩ := reads os enc
  refine returnsInHanded_of_row (C := Tryz.checked) (s := OpenSpec.ofChange Rows.fnCompiledSpec) own started (by kernel_rfl) Tryz.func3
    (witness_row_at (enc := enc) (C := Tryz.checked) false (World.doorLaid Tryz.prog 16 os) #[.slice none 0 0] rfl (by kernel_rfl) (by kernel_rfl) (by kernel_rfl)
      (OpenSpec.preRow_of_cond 8 hx (by kernel_rfl) (fun k hk => by cases hk) (by kernel_rfl) (laid_met os))) ?_
  intro W base args ds gs before hval hW _ _ _ hL hsh _
  exact contract H enc W base args ds gs before hval hW hL hsh
theorem said : Rows.fnCompiledRow.holds Tryz.pinned (OpenSpec.ofChange Rows.fnCompiledSpec) :=
  OpenClaim.holds_of_cond 3 Tryz.f3 rfl rfl rfl rfl rfl rfl rfl ⟨rfl, rfl, rfl, rfl, rfl⟩ rfl rfl rfl rfl rfl (by kernel_rfl) Tryz.func3 (by kernel_rfl)
    (of_decide_eq_true (by kernel_rfl)) (by unfold Func.isWrapper; first | (rw [if_pos (by decide +kernel)]; kernel_rfl) | (rw [if_neg (by decide +kernel)]; exact ⟨rfl, rfl⟩))
    (fun os started H enc _ F => by rw [OpenClaim.pre_eq_preRow]; exact lifted os started H enc F)
theorem plain (f : FuncId) (fn : Func) (hf : Tryz.pinned.checked.prog.funcNamed "loop.example/g00498/laws.FnCompiled" = some f) (hfn : Tryz.pinned.checked.prog.funcs[f]? = some fn) :
    true = Tryz.pinned.checked.prog.looks [] ∧ ∀ (j : Nat) t, fn.params[j]? = some t → Tryz.pinned.checked.prog.wantsStandIn t = false := by
  obtain rfl : f = 3 := Option.some.inj ((show Tryz.prog.funcNamed "loop.example/g00498/laws.FnCompiled" = some 3 by kernel_rfl).symm.trans hf) |>.symm
  obtain rfl : fn = Tryz.f3 := (Option.some.inj (Tryz.func3.symm.trans hfn)).symm
  refine ⟨by kernel_rfl, fun j t ht => ?_⟩
  rw [Tryz.params3] at ht
  obtain rfl : t = 22 := by simpa using Array.mem_of_getElem? ht
  exact (show Tryz.prog.wantsStandIn 22 = false by kernel_rfl)
theorem proved : Rows.FnCompiledCardSaid :=
  Claim7.holds_tied_plain_at .later [] _ _ _ _ said (fun _ h => by cases h) (by kernel_rfl) (fun _ h => by cases h) fnCompiled_row_tie rfl ⟨rfl, rfl⟩ (by kernel_rfl) rfl plain (by kernel_rfl)
end Go.Proofs.YthjnpipincpkgaaGreatDoor.fnCompiled
