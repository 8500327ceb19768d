/-
  For every code of bytes, laws.FnFirst returns true: FirstViolation and RawOk answer as the reference's, and the violation is the first of those that MsgCode and FieldCode tell. No condition.
-/
import Derived.Test.YtlepaimcgofkoaaDoorRows
import Derived.WalkKit
import Derived.ProofKit
import Derived.OpenShut
import Derived.ShutString
import Derived.ChangeOld
import Derived.Below
import Derived.Test.YtlepaimcgofkoaaDoorCards
import Derived.Test.YtlepaimcgofkoaaDoorTie
import Derived.Deep.DeepHandedRow
import Derived.Lib.LaidTab
import Derived.LaidMore
import Derived.LaidHandle
import Derived.Stop.LaidErr
import Derived.Test.YtlepaimcgofkoaaDoorFirstImpl
import Derived.Test.YtlepaimcgofkoaaDoorTwoRaw
import Derived.Test.YtlepaimcgofkoaaDoorErrType
import Derived.Test.YtlepaimcgofkoaaDoorDrawBent
import Derived.Deep.DeepCutAuto
namespace Go.Proofs.YtlepaimcgofkoaaDoor.fnFirst
open Go.ChangeShapes Go.WideShapes Go.ChangeAt Go.RowKit
open Go.ChangeMaps (open_string shut_string)
set_option linter.unusedVariables false

theorem own : ownKnob Tryd.prog.godebug = none := by kernel_rfl
theorem laidOut : laidOutB Tryd.prog = true := by kernel_rfl
def IsRow (k : IntKind) (w : World) (a : Option Addr) (len cap : Nat) (zs : List Int) : Prop :=
  (a = none ∧ len = 0 ∧ cap = 0 ∧ zs = []) ∨
  ∃ x, a = some x ∧ len ≤ cap ∧ cap ≤ maxLen ∧ zs.length = cap ∧ (∀ i, i < zs.length → w.cell? (x.add i) = some (.int k (zs.getD i 0))) ∧ ∀ n ∈ zs, (Lit.int k n).wf = true
attribute [local go_sem] Region.wanted yielded
open Num in
theorem drawFirst_any (a : Option Addr) (len cap : Nat) (w : World) (h : CodeAt w w.heap.size a len) :
    Calls Tryd.prog 8 #[.slice a len cap] w fun e w' => ∃ (v : Value) (r : List RM), (0 < r.length ∧ r.length ≤ 7 ∧ ∀ m ∈ r, m.2.length ≤ 14) ∧ e = .returned (.agg #[v]) ∧ RawAt w' (· < w'.heap.size) (.agg #[v]) r ∧ Below w.heap.size w w' := by
  have H := Lib.hid h; clear h
  go_enter Tryd.func8, Tryd.ntmps8
  go_wp2_with fail
  have hx0 := Box.fresh w #[.slice none 0 0] 26
  have hb0 : Below w.heap.size w (w.alloc (.cells #[.slice none 0 0] 26)) := (Below.refl _ _).alloc (Nat.le_refl _) _
  have hz0 : w.heap.size < (w.alloc (.cells #[.slice none 0 0] 26)).heap.size := by simp
  generalize w.alloc (.cells #[.slice none 0 0] 26) = w0 at hx0 hb0 hz0 ⊢
  refine (l1New_any w.heap.size a len cap _ (by omega) (H.out.below hb0)).mono ?_
  rintro e w1 ⟨g, rfl, hc1, hb1, hg1, hg1'⟩
  have Hc1 := Lib.hid hc1
  have hx1 := hx0.below hb1 hz0
  have hb01 := hb0.trans (hb1.mono (by omega))
  have hz1 := hb1.size
  clear hc1 hx0 hb0 hb1
  go_wp2_with fail
  refine (l6Bent_any _ g a len cap _ Hc1.out (by omega) hg1').mono ?_
  rintro e w2 ⟨v, ms, ⟨h0, h7, h14⟩, rfl, hown, hc2, hf2⟩
  obtain ⟨gm, capm, hv, _, _⟩ := World.ownsRow.form hown.row h0
  subst hv
  have hx2 := Box.offAt hf2 hx1 (by omega) (by omega)
  have hb02 : Below w.heap.size w w2 := hb01.trans (hf2.below (by omega) (by omega))
  have hO := hown.out (k := w.heap.size) (by omega)
  have Hown := Lib.hid (hown.other (p := ⟨w.heap.size, 0, none⟩) (.slice (some ⟨gm, 0, none⟩) ms.length capm) hO.1 hO.2)
  obtain ⟨x0, x1⟩ := hx2.2 0 (by simp)
  have hxs := hx2.set 0 (.slice (some ⟨gm, 0, none⟩) ms.length capm)
  have y0 : (w2.setCell ⟨w.heap.size, 0, none⟩ (.slice (some ⟨gm, 0, none⟩) ms.length capm)).cell? ⟨w.heap.size, 0, none⟩ = some (.slice (some ⟨gm, 0, none⟩) ms.length capm) := (hxs.2 0 (by simp)).1
  have hxl := hx2.1
  clear hc2 hf2 hown hO hx1 hb01 hx2 hxs
  go_wp2_with fail
  refine bodyPost_ret (v := .agg #[.slice (some ⟨gm, 0, none⟩) ms.length capm]) (by simp [results, Tryd.results8, go_sem, y0]) rfl ?_
  refine ⟨_, plain ms, ⟨by simpa [plain] using h0, by simpa [plain] using h7, fun m hm => ?_⟩, rfl, Hown.out.rawAtAll, hb02.setCell (by simp) _⟩
  obtain ⟨x, hx, rfl⟩ := List.mem_map.1 hm
  obtain ⟨j, hj, rfl⟩ := List.getElem_of_mem hx
  exact h14 j hj
open Num in
theorem first_many {r : List RM} {v : Int × Int × Int} (h : First r v) (h6 : 6 < r.length) : v = (1, 6, -1) := by
  rcases h with ⟨_, h⟩ | ⟨h, _⟩
  · exact h
  · omega
open Num in
theorem first_raw {r : List RM} {w : World} {v : Value} (h : RawAt w (· < w.heap.size) (.agg #[v]) r) (h0 : 0 < r.length) : ∃ b o cap, v = .slice (some ⟨b, o, none⟩) r.length cap := by
  obtain ⟨y, hy, hm⟩ := h
  injection hy with hy; injection hy with hy; injection hy with hy
  subst hy
  obtain ⟨b, o, cap, hv, _⟩ := hm.cells h0
  exact ⟨b, o, cap, hv⟩
open Num in
/-- What the variable's message k has for fields. -/
theorem held_fields {w : World} {g C b o n cp : Nat} {r : List RM} (h : Holds w g C (.slice (some ⟨b, o, none⟩) n cp) r) (k : Nat) (hk : k < r.length) : ∃ xa xc, w.cell? ⟨b, o + k * 2 + 1, none⟩ = some (.slice xa r[k].2.length xc) := by
  obtain ⟨y, hy, hm⟩ := h.raw
  injection hy with hy; injection hy with hy; injection hy with hy
  subst hy
  obtain ⟨b', o', cap', hv, _, hcs⟩ := hm.cells (by omega)
  injection hv with e1 e2 e3
  injection e1 with e1
  injection e1 with e1 e4
  subst e1; subst e4
  obtain ⟨u, _, d1, hx⟩ := hcs k hk
  obtain ⟨xa, xc, rfl⟩ := hx.len
  exact ⟨xa, xc, d1⟩
open Num in
set_option maxHeartbeats 8000000 in
set_option maxRecDepth 100000 in
theorem walk (a0 : Option Addr) (len0 cap0 : Nat) (z0 : List Int) (w : World) (w0 : IsRow .u8 w a0 len0 cap0 z0) (hE : Num.ErrType w) :
    Calls Tryd.prog 3 #[.slice a0 len0 cap0] w fun e w' => e = .returned (.bool true) ∧ Below w.heap.size w w' := by
  have HE := Lib.hid hE
  clear hE
  by_cases hb : 1048576 < len0
  · clear w0
    go_enter Tryd.func3, Tryd.ntmps3
    go_wp2
    go_ret
    exact ⟨rfl, Below.refl _ _⟩
  · have hcode := codeOf w0 (by omega)
    have Hcode := Lib.hid hcode
    clear w0 hcode
    go_enter Tryd.func3, Tryd.ntmps3
    go_wp2_with (go_at_call 7; go_in)
    refine (drawFirst_any a0 len0 cap0 _ Hcode.out).mono ?_
    rintro e w1 ⟨v, r, ⟨hn0, hn7, hf14⟩, rfl, hraw, hb1⟩
    have S0 : Hid (Small r) := Lib.hid ⟨by omega, fun m hm => Nat.le_trans (hf14 m hm) (by omega)⟩
    have F14 := Lib.hid hf14
    obtain ⟨b, o, cp, rfl⟩ := first_raw hraw hn0
    have hA := Holds.fresh 26 hraw
    have hlA : Below w.heap.size w (w1.alloc (.cells #[.slice (some ⟨b, o, none⟩) r.length cp] 26)) := hb1.trans ((Below.refl w1.heap.size _).alloc (Nat.le_refl _) _ |>.mono hb1.size)
    clear hraw hb1 hf14
    go_wp2_with fail
    generalize w1.alloc (.cells #[.slice (some ⟨b, o, none⟩) r.length cp] 26) = w2 at hA hlA ⊢
    generalize w1.heap.size = g3 at hA ⊢
    refine (implFirst_any _ r _ hA.raw S0.out (HE.out.all hlA)).mono ?_
    rintro e w3 ⟨⟨F1, F2, F3⟩, hf, rfl, hb3⟩
    have Hf := Lib.hid hf
    clear hf
    unfold violV
    have hA3 := hA.all hb3
    have hl3 := hlA.trans (hb3.mono hlA.size)
    clear hA hlA hb3
    have hb4 : Below w3.heap.size w3 (w3.alloc (.cells #[.int .i64 F1, .int .i64 F2, .int .i64 F3] 29)) := (Below.refl _ _).alloc (Nat.le_refl _) _
    have hx4 := Box.fresh w3 #[.int .i64 F1, .int .i64 F2, .int .i64 F3] 29
    have hA4 := hA3.all hb4
    have hl4 := hl3.trans (hb4.mono hl3.size)
    clear hA3 hl3 hb4
    go_upto_region 5 with fail
    generalize w3.alloc (.cells #[.int .i64 F1, .int .i64 F2, .int .i64 F3] 29) = w4 at hx4 hA4 hl4 ⊢
    generalize w3.heap.size = g4 at hx4 ⊢
    have HA4 := Lib.hid hA4
    have HX4 := Lib.hid hx4
    clear hA4 hx4
    go_cut [25] from 14 to 25 (fun s25 wx => s25 = .bool false ∧ Hid (Holds wx g3 g3 (.slice (some ⟨b, o, none⟩) r.length cp) r) ∧ Hid (Box wx g4 [.int .i64 F1, .int .i64 F2, .int .i64 F3]) ∧ Below w.heap.size w wx)
    case first =>
      have c0 := HA4.out.one.1
      obtain ⟨v0, v1, v2, _, _, _⟩ := HX4.out.three
      obtain ⟨q, hq⟩ : ∃ q, (F1 == 0) = q := ⟨_, rfl⟩
      have Hq := Lib.hid hq
      go_region_with (first
        | (go_at_call 10; refine (specFirst_any _ r _ HA4.out.drew.raw S0.out).mono ?_; rintro e w5 ⟨f5, hf5, rfl, hb5⟩; obtain rfl := hf5.one Hf.out; have hA5 := Lib.hid (HA4.out.drew.all hb5); have hx5 := Lib.hid (HX4.out.drew.below hb5 HX4.out.lt); have hl5 := hl4.drew.trans (hb5.mono hl4.size); unfold violV; have d0 := hA5.out.one.1; have d1 := hx5.out.three.1; have d2 := hx5.out.three.2.1; have d3 := hx5.out.three.2.2.1; clear hb5 hf5)
        | (go_at_call 11; refine (implRawOk_any _ r _ hA5.out.raw S0.out).mono ?_; rintro e w6 ⟨f6, hf6, rfl, hb6⟩; obtain rfl := hf6.one Hf.out; rw [Hq.out]; have hA6 := Lib.hid (hA5.out.all hb6); have hx6 := Lib.hid (hx5.out.below hb6 hx5.out.lt); have hl6 := hl5.trans (hb6.mono hl5.size); have k0 := hA6.out.one.1; have k1 := hx6.out.three.1; have k2 := hx6.out.three.2.1; have k3 := hx6.out.three.2.2.1; clear hb6 hf6))
      all_goals
        go_wp2_with fail
        go_meet
        exact ⟨by simp, hA6, hx6, hl6⟩
    case rest =>
      obtain ⟨rfl, HA, HX, hl⟩ := hcut
      clear HA4 HX4 hl4
      have c0 := HA.out.one.1
      obtain ⟨v0, v1, v2, _, _, _⟩ := HX.out.three
      by_cases h6 : 6 < r.length
      · obtain ⟨rfl, rfl, rfl⟩ : F1 = 1 ∧ F2 = 6 ∧ F3 = -1 := by
          have := first_many Hf.out h6
          injection this with e1 e2; injection e2 with e2 e3; exact ⟨e1, e2, e3⟩
        have h6i : (6 : Int) < (r.length : Int) := by omega
        go_wp2_with fail
        go_ret
        exact ⟨rfl, hl⟩
      · have h6i : decide ((6 : Int) < (r.length : Int)) = false := decide_eq_false (by omega)
        have h6n : decide (6 < r.length) = false := decide_eq_false h6
        have h66 : r.length ≤ 6 := by omega
        clear h6
        go_wp2_with fail
        go_loopw [5] (fun i wr => ∃ k : Nat, k ≤ r.length ∧ i = .int .i64 k ∧ Hid (AllB r k) ∧ Hid (Holds wr g3 g3 (.slice (some ⟨b, o, none⟩) r.length cp) r) ∧ Hid (Box wr g4 [.int .i64 F1, .int .i64 F2, .int .i64 F3]) ∧ Below w.heap.size w wr) (fun i _ => r.length - (intOf i).toNat)
        case atStart => exact ⟨0, by omega, rfl, Lib.hid fun j _ hj => by omega, HA, HX, hl⟩
        case round =>
          clear c0 v0 v1 v2 HA HX hl
          obtain ⟨k, hk, rfl, hall, HA, HX, hl⟩ := hrel
          have c0 := HA.out.one.1
          obtain ⟨v0, v1, v2, _, _, _⟩ := HX.out.three
          by_cases hlt : k < r.length
          · have hlti : (k : Int) < (r.length : Int) := by omega
            have hfl : r[k].2.length ≤ 14 := F14.out _ (List.getElem_mem hlt)
            have Hcell : Hid (∀ wx : World, Holds wx g3 g3 (.slice (some ⟨b, o, none⟩) r.length cp) r → ∃ xa xc, wx.cell? ⟨b, o + k * 2 + 1, none⟩ = some (.slice xa r[k].2.length xc)) := Lib.hid fun wx h => held_fields h k hlt
            have Hnext : Hid (msgCodeR r (k : Int) = 0 → (∀ p : Nat, p < r[k].2.length → fieldCodeR r (k : Int) (p : Int) = 0) → AllB r (k + 1)) := Lib.hid fun hm hf => hall.out.next hlt hm hf
            have Hmsg : Hid (msgCodeR r (k : Int) ≠ 0 → (F1, F2, F3) = (msgCodeR r (k : Int), (k : Int), -1)) := Lib.hid fun hn =>
              Hf.out.one (.inr ⟨h66, .inr (.inl ⟨k, hlt, hall.out, hn, rfl⟩)⟩)
            have Hbad : Hid (∀ q : Nat, msgCodeR r (k : Int) = 0 → (∀ p : Nat, p < q → fieldCodeR r (k : Int) (p : Int) = 0) → q < r[k].2.length → fieldCodeR r (k : Int) (q : Int) ≠ 0 → (F1, F2, F3) = (fieldCodeR r (k : Int) (q : Int), (k : Int), (q : Int))) := Lib.hid fun q hm hf hq hn =>
              Hf.out.one (.inr ⟨h66, .inr (.inr ⟨k, q, hlt, hall.out, hm, hf, hq, hn, rfl⟩)⟩)
            generalize r[k].2.length = n at hfl Hcell Hnext Hbad
            go_wp2_with fail
            go_loopw [6] (fun i wz => ∃ c : Nat, c ≤ n + 1 ∧ i = .int .i64 ((c : Int) - 1) ∧ Hid ((0 < c → msgCodeR r (k : Int) = 0) ∧ ∀ s : Nat, s + 1 < c → fieldCodeR r (k : Int) (s : Int) = 0) ∧ Hid (Holds wz g3 g3 (.slice (some ⟨b, o, none⟩) r.length cp) r) ∧ Hid (Box wz g4 [.int .i64 F1, .int .i64 F2, .int .i64 F3]) ∧ Below w.heap.size w wz) (fun i _ => n + 1 - (intOf i + 1).toNat)
            case atStart => exact ⟨0, by omega, rfl, Lib.hid ⟨fun h => by omega, fun s hs => by omega⟩, HA, HX, hl⟩
            case round =>
              clear c0 v0 v1 v2 HA HX hl
              obtain ⟨c, hc, rfl, hzero, HA, HX, hl⟩ := hrel
              have c0 := HA.out.one.1
              obtain ⟨v0, v1, v2, _, _, _⟩ := HX.out.three
              obtain ⟨xa, xc, d1⟩ := Hcell.out _ HA.out
              by_cases hcn : c < n + 1
              · have hci : (c : Int) - 1 < (n : Int) := by omega
                obtain ⟨C, hC⟩ : ∃ C, msgCodeR r (k : Int) = C := ⟨_, rfl⟩
                have HC := Lib.hid hC
                clear hC
                go_wp2_with fail
                refine (implMsgCode_any _ r (k : Int) _ HA.out.raw S0.out).mono ?_
                rw [HC.out]
                rintro e w5 ⟨rfl, hb5⟩
                have HA5 := Lib.hid (HA.out.all hb5)
                have HX5 := Lib.hid (HX.out.below hb5 HX.out.lt)
                have hl5 := hl.trans (hb5.mono hl.size)
                clear HA HX hl hb5 c0 v0 v1 v2 d1
                have c0 := HA5.out.one.1
                obtain ⟨v0, v1, v2, _, _, _⟩ := HX5.out.three
                by_cases hc0 : c = 0
                · subst hc0
                  by_cases hC0 : C = 0
                  · subst hC0
                    have Hz : Hid ((0 < 0 + 1 → msgCodeR r (k : Int) = 0) ∧ ∀ s : Nat, s + 1 < 0 + 1 → fieldCodeR r (k : Int) (s : Int) = 0) := Lib.hid ⟨fun _ => HC.out, fun s hs => by omega⟩
                    go_wp2_with fail
                    go_roundw
                    case rel => exact ⟨0 + 1, by omega, by go_num, Hz, HA5, HX5, hl5⟩
                    case measure => simp [intOf]
                  · have bC := neB2 hC0
                    have bC' : (C != 0) = true := by rw [bne, bC]; rfl
                    obtain ⟨rfl, rfl, rfl⟩ : F1 = C ∧ F2 = (k : Int) ∧ F3 = -1 := by
                      have := Hmsg.out (by rw [HC.out]; exact hC0)
                      rw [HC.out] at this
                      injection this with e1 e2; injection e2 with e2 e3; exact ⟨e1, e2, e3⟩
                    clear hC0
                    go_wp2_with fail
                    go_ret
                    exact ⟨by simp, hl5⟩
                · obtain ⟨p, rfl⟩ : ∃ p, c = p + 1 := ⟨c - 1, by omega⟩
                  have hm0 : C = 0 := by rw [← HC.out]; exact hzero.out.1 (by omega)
                  subst hm0
                  have hpn : p < n := by omega
                  have hcp : ((p + 1 : Nat) : Int) - 1 = (p : Int) := by omega
                  obtain ⟨F, hF⟩ : ∃ F, fieldCodeR r (k : Int) (p : Int) = F := ⟨_, rfl⟩
                  have HF := Lib.hid hF
                  have hp0 : (0 : Int) ≤ (p : Int) := by omega
                  clear hF hc0 hci
                  go_wp2_with fail
                  refine (implFieldCode_any _ r (k : Int) (p : Int) _ HA5.out.raw S0.out).mono ?_
                  rw [HF.out]
                  rintro e w6 ⟨rfl, hb6⟩
                  have HA6 := Lib.hid (HA5.out.all hb6)
                  have HX6 := Lib.hid (HX5.out.below hb6 HX5.out.lt)
                  have hl6 := hl5.trans (hb6.mono hl5.size)
                  clear HA5 HX5 hl5 hb6 c0 v0 v1 v2
                  have c0 := HA6.out.one.1
                  obtain ⟨v0, v1, v2, _, _, _⟩ := HX6.out.three
                  by_cases hF0 : F = 0
                  · subst hF0
                    have Hz : Hid ((0 < p + 1 + 1 → msgCodeR r (k : Int) = 0) ∧ ∀ s : Nat, s + 1 < p + 1 + 1 → fieldCodeR r (k : Int) (s : Int) = 0) := Lib.hid ⟨fun _ => HC.out, fun s hs => by
                      by_cases e : s = p
                      · subst e; exact HF.out
                      · exact hzero.out.2 s (by omega)⟩
                    go_wp2_with fail
                    go_roundw
                    case rel => exact ⟨p + 1 + 1, by omega, by go_num, Hz, HA6, HX6, hl6⟩
                    case measure => simp [intOf]; omega
                  · have bF := neB2 hF0
                    have bF' : (F != 0) = true := by rw [bne, bF]; rfl
                    obtain ⟨rfl, rfl, rfl⟩ : F1 = F ∧ F2 = (k : Int) ∧ F3 = (p : Int) := by
                      have := Hbad.out p HC.out (fun s hs => hzero.out.2 s (by omega)) hpn (by rw [HF.out]; exact hF0)
                      rw [HF.out] at this
                      injection this with e1 e2; injection e2 with e2 e3; exact ⟨e1, e2, e3⟩
                    clear hF0
                    go_wp2_with fail
                    go_ret
                    exact ⟨by simp, hl6⟩
              · have hge : (n : Int) ≤ (c : Int) - 1 := by omega
                have Hn : Hid (AllB r (k + 1)) := Lib.hid (Hnext.out (hzero.out.1 (by omega)) fun s hs => hzero.out.2 s (by omega))
                have hend : decide ((c : Int) - 1 < (n : Int)) = false := decide_eq_false (by omega)
                go_wp2_with fail
                go_roundw
                case rel => exact ⟨k + 1, by omega, by go_num, Hn, HA, HX, hl⟩
                case measure => simp [intOf]; omega
          · have hge : (r.length : Int) ≤ (k : Int) := by omega
            have hend : decide (k < r.length) = false := decide_eq_false hlt
            obtain rfl : k = r.length := by omega
            obtain ⟨rfl, rfl, rfl⟩ : F1 = 0 ∧ F2 = 0 ∧ F3 = 0 := by
              have := Hf.out.one (show First r (0, 0, 0) from .inr ⟨h66, .inl ⟨hall.out, rfl⟩⟩)
              injection this with e1 e2; injection e2 with e2 e3; exact ⟨e1, e2, e3⟩
            go_wp2_with fail
            go_ret
            exact ⟨rfl, hl⟩

set_option maxRecDepth 100000 in
theorem contract (H : Type) (enc : TypeId × Value → H) (W : World) (base : Nat) (args : Array Value) (ds gs : List (DataW H)) (before : List MemPlace)
    (hval : ∀ (j : Nat) t v, Tryd.f3.params[j]? = some t → args[j]? = some v → Value.okWide Tryd.prog W .any base t v)
    (hW : DataW.Whole enc Tryd.prog Tryd.f3.params.toList Rows.fnFirstSpec.vars false W args.toList ds gs before) (hL : laidMetH Tryd.prog Rows.fnFirstRow.laid W) (hsh : W.ShapedOpen Tryd.prog) :
    Calls Tryd.prog 3 args W fun e W' => ∃ v, e = .returned v ∧ Rows.fnFirstSpec.post enc Tryd.prog Tryd.f3 false true false false W args v W' := by
  have hW' := hW
  obtain ⟨p, q, hA0, hV, rfl, hfz, hnd⟩ := hW
  have hA : DataW.TrodAll enc Tryd.prog W 0 (fun _ => true) true Tryd.f3.params.toList args.toList ds p := hA0
  rw [Tryd.params3] at hA hval
  obtain ⟨v0, vs0, d0, ds0, p0, q0, hargs, rfl, rfl, h0, r0⟩ := trodAll_cons hA
  obtain ⟨rfl, rfl, rfl⟩ := trodAll_nil r0
  obtain rfl : args = #[v0] := by cases args; simp_all
  obtain ⟨rfl, rfl⟩ := trodVars_none hV
  obtain ⟨a0, len0, cap0, rfl⟩ := okWide_slice Tryd.underlying22 (hval 0 22 v0 rfl rfl)
  have k0 := h0
  have lt0 : ∀ x ∈ p0, x.block < W.heap.size := by obtain ⟨m, hm⟩ := k0; exact DataW.trod_lt m _ _ _ hm
  obtain ⟨z0, w0⟩ : ∃ zs, IsRow .u8 W a0 len0 cap0 zs := by
    obtain ⟨fuel, hf⟩ := h0
    rcases open_ints Tryd.underlying22 Tryd.underlying5 (by kernel_rfl) hf with ⟨hcs, _⟩ | ⟨x, l, c, zs, hcs, _, hl, hm, hz, _, hcell, hwz⟩
    · simp [Value.cells] at hcs
      obtain ⟨rfl, rfl, rfl⟩ := hcs
      exact ⟨[], .inl ⟨rfl, rfl, rfl, rfl⟩⟩
    · simp [Value.cells] at hcs
      obtain ⟨rfl, rfl, rfl⟩ := hcs
      exact ⟨zs, .inr ⟨_, rfl, hl, hm, by simpa using hz, hcell, hwz⟩⟩
  clear hA0
  refine (walk a0 len0 cap0 z0 W w0 (Num.errType_of hL)).mono fun e W' ⟨he, bel⟩ => ?_
  subst he
  exact ⟨_, rfl, _, _, _, [], _, [], hW', trodAll_mk1 (shut_bool Tryd.underlying4 _), (trodAll_cons_mk (Below.trod laidOut (by kernel_rfl) (of_decide_eq_true (by kernel_rfl)) k0 bel lt0) trodAll_mk0), rfl, bel.frame _, fun h => by cases h⟩

set_option maxRecDepth 100000 in
theorem laid_met (os : Os) : laidMetH Tryd.prog Rows.fnFirstRow.laid ((World.doorLaid Tryd.prog 36 os).forCall (fun _ _ => 0) ⟨#[], #[.slice none 0 0], []⟩).memory :=
  laidMetH_of_parts (laidMet_of_run' 8 (by kernel_rfl) (by kernel_rfl)) (by kernel_rfl)
theorem reads (os : Os) {H : Type} (enc : TypeId × Value → H) : ∃ places, DataW.whole enc Tryd.prog ((World.doorLaid Tryd.prog 36 os).forCall (fun _ _ => 0) ⟨#[], #[.slice none 0 0], []⟩).memory Tryd.f3.params.toList Rows.fnFirstSpec.vars false (#[.slice none 0 0] : Array Value).toList 8 = some ([.nil], [], places) :=
  ⟨[], by kernel_rfl⟩
set_option maxRecDepth 100000 in
theorem lifted (os : Os) (started : os.Started) (H : Type) (enc : TypeId × Value → H) (F : Stop.Interp) :
    ReturnsInHanded {} Tryd.checked os 3 .any ((OpenSpec.ofChange Rows.fnFirstSpec).preRow enc Tryd.prog Tryd.f3 Rows.fnFirstRow.domain false Rows.fnFirstRow.laid) (((OpenSpec.ofChange Rows.fnFirstSpec).at F).post enc Tryd.prog Tryd.f3 false true false false) := by
  obtain ⟨places, hx⟩ := reads os enc
  refine returnsInHanded_of_row (C := Tryd.checked) (s := OpenSpec.ofChange Rows.fnFirstSpec) own started (by kernel_rfl) Tryd.func3
    (witness_row_at (enc := enc) (C := Tryd.checked) false (World.doorLaid Tryd.prog 36 os) #[.slice none 0 0] rfl (by kernel_rfl) (by kernel_rfl) (by kernel_rfl)
      (OpenSpec.preRow_of_cond 8 hx (by kernel_rfl) (fun k hk => by cases hk) (by kernel_rfl) (laid_met os))) ?_
  intro W base args ds gs before hval hW _ _ _ hL hsh _
  exact contract H enc W base args ds gs before hval hW hL hsh
theorem said : Rows.fnFirstRow.holds Tryd.pinned (OpenSpec.ofChange Rows.fnFirstSpec) :=
  OpenClaim.holds_of_cond 3 Tryd.f3 rfl rfl rfl rfl rfl rfl rfl ⟨rfl, rfl, rfl, rfl, rfl⟩ rfl rfl rfl rfl rfl (by kernel_rfl) Tryd.func3 (by kernel_rfl)
    (of_decide_eq_true (by kernel_rfl)) (by unfold Func.isWrapper; first | (rw [if_pos (by decide +kernel)]; kernel_rfl) | (rw [if_neg (by decide +kernel)]; exact ⟨rfl, rfl⟩))
    (fun os started H enc _ F => by rw [OpenClaim.pre_eq_preRow]; exact lifted os started H enc F)
theorem plain (f : FuncId) (fn : Func) (hf : Tryd.pinned.checked.prog.funcNamed "loop.example/g00498/laws.FnFirst" = some f) (hfn : Tryd.pinned.checked.prog.funcs[f]? = some fn) :
    true = Tryd.pinned.checked.prog.looks [] ∧ ∀ (j : Nat) t, fn.params[j]? = some t → Tryd.pinned.checked.prog.wantsStandIn t = false := by
  obtain rfl : f = 3 := Option.some.inj ((show Tryd.prog.funcNamed "loop.example/g00498/laws.FnFirst" = some 3 by kernel_rfl).symm.trans hf) |>.symm
  obtain rfl : fn = Tryd.f3 := (Option.some.inj (Tryd.func3.symm.trans hfn)).symm
  refine ⟨by kernel_rfl, fun j t ht => ?_⟩
  rw [Tryd.params3] at ht
  obtain rfl : t = 22 := by simpa using Array.mem_of_getElem? ht
  exact (show Tryd.prog.wantsStandIn 22 = false by kernel_rfl)
theorem proved : Rows.FnFirstCardSaid :=
  Claim7.holds_tied_plain_at .later [] _ _ _ _ said (fun _ h => by cases h) (by kernel_rfl) (fun _ h => by cases h) fnFirst_row_tie rfl ⟨rfl, rfl⟩ (by kernel_rfl) rfl plain (by kernel_rfl)
end Go.Proofs.YtlepaimcgofkoaaDoor.fnFirst
