/-
  For every code of bytes, laws.FnShapes returns true: SchemaOk answers as the reference's, and in a valid schema ShapeAt finds each message, FieldAt finds each field and Runs tells what it tells. No condition.
-/
import Derived.Test.YthjnpipincpkgaaRows
import Derived.WalkKit
import Derived.ProofKit
import Derived.OpenShut
import Derived.ShutString
import Derived.ChangeOld
import Derived.Below
import Derived.Test.YthjnpipincpkgaaDrawSchB
import Derived.Test.YthjnpipincpkgaaSchemaImpl
import Derived.Test.YthjnpipincpkgaaShapeImpl
import Derived.Test.YthjnpipincpkgaaCompBack
import Derived.Deep.DeepCutAuto
namespace Go.Proofs.Ythjnpipincpkgaa.fnShapes
open Go.ChangeShapes Go.WideShapes Go.ChangeAt Go.RowKit
open Go.ChangeMaps (open_string shut_string)
set_option linter.unusedVariables false

theorem own : ownKnob Try.prog.godebug = none := by kernel_rfl
theorem laidOut : laidOutB Try.prog = true := by kernel_rfl

/-- WHAT THE WALK IS TOLD OF A SLICE OF INTEGERS THAT CAME IN: it is nil; or it leads to a row of 'cap' cells, the numbers 'zs' (the first 'len' are its elements, the rest its spare room), each fitting its kind. -/
def IsRow (k : IntKind) (w : World) (a : Option Addr) (len cap : Nat) (zs : List Int) : Prop :=
  (a = none ∧ len = 0 ∧ cap = 0 ∧ zs = []) ∨
  ∃ x, a = some x ∧ len ≤ cap ∧ cap ≤ maxLen ∧ zs.length = cap ∧ (∀ i, i < zs.length → w.cell? (x.add i) = some (.int k (zs.getD i 0))) ∧ ∀ n ∈ zs, (Lit.int k n).wf = true

/-! ### STEP 1: THE WALK: the Go text returns true, AND WRITES NOTHING THAT WAS THERE: 'Below w.heap.size w w'' (Derived/Below.lean: '.refl', '.alloc', '.drew', '.setCell' at a new block, '.trans'). Open each 'IsRow' by 'rcases' AHEAD of 'go_enter'; part every test ahead of the walk. -/
set_option linter.unusedSimpArgs false
attribute [local go_sem] Region.wanted yielded
open Num in
theorem drawSchemaOk_any (a : Option Addr) (len cap : Nat) (w : World) (h : CodeAt w w.heap.size a len) :
    Calls Try.prog 11 #[.slice a len cap] w fun e w' => ∃ (v : Value) (r : List RM), (0 < r.length ∧ r.length ≤ 7 ∧ ∀ m ∈ r, m.2.length ≤ 6) ∧ e = .returned (.agg #[v]) ∧ RawAt w' (· < w'.heap.size) (.agg #[v]) r ∧ Below w.heap.size w w' := by
  have H := Lib.hid h; clear h
  go_enter Try.func11, Try.ntmps11
  go_wp2_with fail
  have hx0 := Box.fresh w #[.slice none 0 0] 26
  have hb0 : Below w.heap.size w (w.alloc (.cells #[.slice none 0 0] 26)) := (Below.refl _ _).alloc (Nat.le_refl _) _
  have hz0 : w.heap.size < (w.alloc (.cells #[.slice none 0 0] 26)).heap.size := by simp
  generalize w.alloc (.cells #[.slice none 0 0] 26) = w0 at hx0 hb0 hz0 ⊢
  refine (l1New_any w.heap.size a len cap _ (by omega) (H.out.below hb0)).mono ?_
  rintro e w1 ⟨g, rfl, hc1, hb1, hg1, hg1'⟩
  have Hc1 := Lib.hid hc1
  have hx1 := hx0.below hb1 hz0
  have hb01 := hb0.trans (hb1.mono (by omega))
  have hz1 := hb1.size
  clear hc1 hx0 hb0 hb1
  go_wp2_with fail
  refine (l8Bent_any _ g a len cap _ Hc1.out (by omega) hg1').mono ?_
  rintro e w2 ⟨v, ms, ⟨h0, h7, h14⟩, rfl, hown, hc2, hf2⟩
  obtain ⟨gm, capm, hv, _, _⟩ := World.ownsRow.form hown.row h0
  subst hv
  have hx2 := Box.offAt hf2 hx1 (by omega) (by omega)
  have hb02 : Below w.heap.size w w2 := hb01.trans (hf2.below (by omega) (by omega))
  have hO := hown.out (k := w.heap.size) (by omega)
  have Hown := Lib.hid (hown.other (p := ⟨w.heap.size, 0, none⟩) (.slice (some ⟨gm, 0, none⟩) ms.length capm) hO.1 hO.2)
  obtain ⟨x0, x1⟩ := hx2.2 0 (by simp)
  have hxs := hx2.set 0 (.slice (some ⟨gm, 0, none⟩) ms.length capm)
  have y0 : (w2.setCell ⟨w.heap.size, 0, none⟩ (.slice (some ⟨gm, 0, none⟩) ms.length capm)).cell? ⟨w.heap.size, 0, none⟩ = some (.slice (some ⟨gm, 0, none⟩) ms.length capm) := (hxs.2 0 (by simp)).1
  have hxl := hx2.1
  clear hc2 hf2 hown hO hx1 hb01 hx2 hxs
  go_wp2_with fail
  refine bodyPost_ret (v := .agg #[.slice (some ⟨gm, 0, none⟩) ms.length capm]) (by simp [results, Try.results11, go_sem, y0]) rfl ?_
  refine ⟨_, plain ms, ⟨by simpa [plain] using h0, by simpa [plain] using h7, fun m hm => ?_⟩, rfl, Hown.out.rawAtAll, hb02.setCell (by simp) _⟩
  obtain ⟨x, hx, rfl⟩ := List.mem_map.1 hm
  obtain ⟨j, hj, rfl⟩ := List.getElem_of_mem hx
  exact h14 j hj
open Num in
theorem first_raw {r : List RM} {w : World} {v : Value} (h : RawAt w (· < w.heap.size) (.agg #[v]) r) (h0 : 0 < r.length) : ∃ b o cap, v = .slice (some ⟨b, o, none⟩) r.length cap := by
  obtain ⟨y, hy, hm⟩ := h
  injection hy with hy; injection hy with hy; injection hy with hy
  subst hy
  obtain ⟨b, o, cap, hv, _⟩ := hm.cells h0
  exact ⟨b, o, cap, hv⟩
open Num in
theorem SchB {s : List RM} (h : schemaB s = true) : SchemaP s := Classical.byContradiction fun h' => by rw [schema_no h'] at h; cases h
open Num in
theorem asc_ne {α : Type} {g : α → Int} {l : List α} (h : l.Pairwise fun a b => g a < g b) {i j : Nat} (hj : j < l.length) (hij : i < j) : g l[i] ≠ g l[j] := by
  have := List.pairwise_iff_getElem.1 h i j (by omega) hj hij
  omega
open Num in
/-- What the variable holds of message k. -/
theorem held_cells {w : World} {g C b o n cp : Nat} {r : List RM} (h : Holds w g C (.slice (some ⟨b, o, none⟩) n cp) r) (k : Nat) (hk : k < r.length) : ∃ xa xc, w.cell? ⟨b, o + k * 2, none⟩ = some (.int .i64 r[k].1) ∧ w.cell? ⟨b, o + k * 2 + 1, none⟩ = some (.slice xa r[k].2.length xc) ∧ b < C ∧
    ∀ (c : Nat) (hc : c < r[k].2.length), ∃ fb fo, xa = some ⟨fb, fo, none⟩ ∧ fb < C ∧ w.cell? ⟨fb, fo + c * 5, none⟩ = some (.int .i64 r[k].2[c].1) ∧ w.cell? ⟨fb, fo + c * 5 + 1, none⟩ = some (.int .i64 r[k].2[c].2.1) ∧ w.cell? ⟨fb, fo + c * 5 + 2, none⟩ = some (.bool r[k].2[c].2.2.1) ∧ w.cell? ⟨fb, fo + c * 5 + 3, none⟩ = some (.bool r[k].2[c].2.2.2.1) ∧ w.cell? ⟨fb, fo + c * 5 + 4, none⟩ = some (.int .i64 r[k].2[c].2.2.2.2) := by
  obtain ⟨y, hy, hm⟩ := h.2.1
  injection hy with hy; injection hy with hy; injection hy with hy
  subst hy
  obtain ⟨b', o', cap', hv, hb, hcs⟩ := hm.cells (by omega)
  injection hv with e1 e2 e3
  injection e1 with e1
  injection e1 with e1 e4
  subst e1; subst e4
  obtain ⟨u, d0, d1, hx⟩ := hcs k hk
  obtain ⟨xa, xc, rfl⟩ := hx.len
  refine ⟨xa, xc, d0, d1, hb, fun c hc => ?_⟩
  obtain ⟨fb, fo, fc, fv, fbC, fcs⟩ := hx.cells (by omega)
  injection fv with e1 e2 e3
  obtain ⟨x0, x1, x2, x3, x4⟩ := fcs c hc
  exact ⟨fb, fo, e1, fbC, x0, x1, x2, x3, x4⟩
open Num in
/-- What the law's last comparison reads. -/
def SS (g q b om fb off : Nat) (ss xs : Value) (f : RF) (w' : World) : Prop := w'.cell? ⟨g, 0, none⟩ = some ss ∧ w'.cell? ⟨b, om, none⟩ = some xs ∧
  (w'.cell? ⟨fb, off, none⟩ = some (.int .i64 f.1) ∧ w'.cell? ⟨fb, off + 1, none⟩ = some (.int .i64 f.2.1) ∧ w'.cell? ⟨fb, off + 2, none⟩ = some (.bool f.2.2.1) ∧ w'.cell? ⟨fb, off + 3, none⟩ = some (.bool f.2.2.2.1) ∧ w'.cell? ⟨fb, off + 4, none⟩ = some (.int .i64 f.2.2.2.2)) ∧
  (w'.cell? ⟨q, 0, none⟩ = some (.int .i64 f.1) ∧ w'.cell? ⟨q, 1, none⟩ = some (.int .i64 f.2.1) ∧ w'.cell? ⟨q, 2, none⟩ = some (.bool f.2.2.1) ∧ w'.cell? ⟨q, 3, none⟩ = some (.bool f.2.2.2.1) ∧ w'.cell? ⟨q, 4, none⟩ = some (.int .i64 f.2.2.2.2))
open Num in
theorem SS.below {g q b om fb off B : Nat} {ss xs : Value} {f : RF} {w w' : World} (h : SS g q b om fb off ss xs f w) (hb : Below B w w') (h1 : g < B) (h2 : q < B) (h3 : b < B) (h4 : fb < B) : SS g q b om fb off ss xs f w' := by
  unfold SS at *
  rw [hb.cell (p := ⟨g, _, none⟩) h1, hb.cell (p := ⟨b, _, none⟩) h3]
  simp only [hb.cell (p := ⟨q, _, none⟩) h2, hb.cell (p := ⟨fb, _, none⟩) h4]
  exact h
open Num in
/-- What the reading of a field reads. -/
def SR (g b om fb off : Nat) (ss xs : Value) (x : Int) (w' : World) : Prop := w'.cell? ⟨g, 0, none⟩ = some ss ∧ w'.cell? ⟨b, om, none⟩ = some xs ∧ w'.cell? ⟨fb, off, none⟩ = some (.int .i64 x)
open Num in
theorem SR.below {g b om fb off B : Nat} {ss xs : Value} {x : Int} {w w' : World} (h : SR g b om fb off ss xs x w) (hb : Below B w w') (h1 : g < B) (h3 : b < B) (h4 : fb < B) : SR g b om fb off ss xs x w' := by
  unfold SR at *
  rw [hb.cell (p := ⟨g, _, none⟩) h1, hb.cell (p := ⟨b, _, none⟩) h3, hb.cell (p := ⟨fb, _, none⟩) h4]
  exact h
open Num in
set_option maxHeartbeats 8000000 in
set_option maxRecDepth 100000 in
theorem walk (a0 : Option Addr) (len0 cap0 : Nat) (z0 : List Int) (w : World) (w0 : IsRow .u8 w a0 len0 cap0 z0) :
    Calls Try.prog 3 #[.slice a0 len0 cap0] w fun e w' => e = .returned (.bool true) ∧ Below w.heap.size w w' := by
  by_cases hb : 1048576 < len0
  · clear w0
    go_enter Try.func3, Try.ntmps3
    go_wp2
    go_ret
    exact ⟨rfl, Below.refl _ _⟩
  · have hcode := codeOf w0 (by omega)
    have Hcode := Lib.hid hcode
    clear w0 hcode
    go_enter Try.func3, Try.ntmps3
    go_wp2_with (go_at_call 10; go_in)
    refine (drawSchemaOk_any a0 len0 cap0 _ Hcode.out).mono ?_
    rintro e w1 ⟨v, r, ⟨hn0, hn7, hf6⟩, rfl, hraw, hb1⟩
    have S0 : Hid (Small r) := Lib.hid ⟨by omega, fun m hm => Nat.le_trans (hf6 m hm) (by omega)⟩
    have F6 := Lib.hid hf6
    obtain ⟨b, o, cp, rfl⟩ := first_raw hraw hn0
    have hA := Holds.fresh 26 hraw
    have hlA : Below w.heap.size w (w1.alloc (.cells #[.slice (some ⟨b, o, none⟩) r.length cp] 26)) := hb1.trans ((Below.refl w1.heap.size _).alloc (Nat.le_refl _) _ |>.mono hb1.size)
    obtain ⟨B, hB⟩ : ∃ B, schemaB r = B := ⟨_, rfl⟩
    have HB := Lib.hid hB
    clear hraw hb1 hf6 hB
    go_upto_region 4 with fail
    generalize w1.alloc (.cells #[.slice (some ⟨b, o, none⟩) r.length cp] 26) = w2 at hA hlA ⊢
    generalize w1.heap.size = g3 at hA ⊢
    have HA2 := Lib.hid hA
    clear hA
    go_cut [16] from 12 to 16 (fun s wx => s = .bool false ∧ Hid (Holds wx g3 g3 (.slice (some ⟨b, o, none⟩) r.length cp) r) ∧ Below w.heap.size w wx)
    case first =>
      have c0 := HA2.out.one.1
      go_region_with (first
        | (go_at_call 12; refine (implSchemaOk_any _ r _ HA2.out.drew.raw S0.out).mono ?_; rw [HB.out]; rintro e w3 ⟨rfl, hb3⟩; have hA3 := Lib.hid (HA2.out.drew.all hb3); have hl3 := hlA.drew.trans (hb3.mono hlA.size); have d0 := hA3.out.one.1; clear hb3)
        | (go_at_call 13; refine (specSchemaOk_any _ r _ hA3.out.raw S0.out).mono ?_; rw [HB.out]; rintro e w4 ⟨rfl, hb4⟩; have hA4 := Lib.hid (hA3.out.all hb4); have hl4 := hl3.trans (hb4.mono hl3.size); have e0 := hA4.out.one.1; clear hb4))
      all_goals
        go_wp2_with fail
        go_meet
        exact ⟨by simp, hA4, hl4⟩
    case rest =>
      obtain ⟨rfl, HA, hl⟩ := hcut
      clear HA2 hlA
      have c0 := HA.out.one.1
      go_wp2_with fail
      go_loopw [4] (fun i wr => ∃ k : Nat, k ≤ r.length ∧ i = .int .i64 k ∧ Hid (Holds wr g3 g3 (.slice (some ⟨b, o, none⟩) r.length cp) r) ∧ Below w.heap.size w wr) (fun i _ => r.length - (intOf i).toNat)
      case atStart => exact ⟨0, by omega, rfl, HA, hl⟩
      case round =>
        clear c0 HA hl
        obtain ⟨k, hk, rfl, HA, hl⟩ := hrel
        have c0 := HA.out.one.1
        by_cases hlt : k < r.length
        · have hlti : (k : Int) < (r.length : Int) := by omega
          go_wp2_with fail
          refine (specSchemaOk_any _ r _ HA.out.raw S0.out).mono ?_
          rw [HB.out]
          rintro e w5 ⟨rfl, hb5⟩
          have HA5 := Lib.hid (HA.out.all hb5)
          have hl5 := hl.trans (hb5.mono hl.size)
          clear HA hl hb5 c0
          have c0 := HA5.out.one.1
          cases B with
          | false =>
            go_wp2_with fail
            go_ret
            exact ⟨rfl, hl5⟩
          | true =>
            have HP := Lib.hid (SchB HB.out)
            have Hat : Hid (shapeAtR r r[k].1 = (k : Int)) := Lib.hid (shapeAt_yes hlt rfl fun j hj hjk => asc_ne (g := fun m : RM => m.1) HP.out.ids hlt hjk)
            have Hfd : Hid (∀ (c : Nat) (hc : c < r[k].2.length), fieldAtR r (k : Int) r[k].2[c].1 = (r[k].2[c], true)) := Lib.hid fun c hc => by
              rw [fieldAt_in hlt]
              exact fieldIn_yes hc rfl fun j hj hjc => asc_ne (g := fun f : RF => f.1) (HP.out.fields (List.getElem_mem hlt)) hc hjc
            have Hcells : Hid (∀ wx : World, Holds wx g3 g3 (.slice (some ⟨b, o, none⟩) r.length cp) r → _) := Lib.hid fun wx h => held_cells h k hlt
            obtain ⟨xa, xc, m0, m1, hbC, mf⟩ := Hcells.out _ HA5.out
            have hbl : b < w5.heap.size := Nat.lt_of_lt_of_le hbC HA5.out.2.2.2.1
            clear HP mf
            obtain ⟨X, hX⟩ : ∃ X, r[k].1 = X := ⟨_, rfl⟩
            have HX := Lib.hid hX
            rw [hX] at m0
            clear hX
            go_upto_region 9 with fail
            go_cut [37] from 28 to 37 (fun s wx => s = .bool false ∧ Hid (Holds wx g3 g3 (.slice (some ⟨b, o, none⟩) r.length cp) r) ∧ Below w.heap.size w wx)
            case first =>
              go_region_with (go_at_call 14; refine (implShapeAt_any _ r _ _ HA5.out.drew.raw S0.out).mono ?_; rw [← HX.out, Hat.out]; rintro e w6 ⟨rfl, hb6⟩; have HA6 := Lib.hid (HA5.out.drew.all hb6); have hl6 := hl5.drew.trans (hb6.mono hl5.size); have d0 := HA6.out.one.1; clear hb6)
              all_goals
                go_wp2_with fail
                go_meet
                exact ⟨by simp, HA6, hl6⟩
            case rest =>
              obtain ⟨rfl, HA6, hl6⟩ := hcut
              clear HA5 hl5 c0 m0 m1 hbl
              have c0 := HA6.out.one.1
              obtain ⟨n, hn⟩ : ∃ n, r[k].2.length = n := ⟨_, rfl⟩
              have hn6 : n ≤ 6 := by rw [← hn]; exact F6.out _ (List.getElem_mem hlt)
              have HN := Lib.hid hn
              clear hn
              go_wp2_with fail
              go_loopw [5] (fun i wz => ∃ c : Nat, c ≤ n ∧ i = .int .i64 c ∧ Hid (Holds wz g3 g3 (.slice (some ⟨b, o, none⟩) r.length cp) r) ∧ Below w.heap.size w wz) (fun i _ => n - (intOf i).toNat)
              case atStart => exact ⟨0, by omega, rfl, HA6, hl6⟩
              case round =>
                clear c0 HA6 hl6
                obtain ⟨c, hc, rfl, HA7, hl7⟩ := hrel
                have c0 := HA7.out.one.1
                obtain ⟨ya, yc, m0, m1, hbC2, mf⟩ := Hcells.out _ HA7.out
                rw [HX.out] at m0
                rw [HN.out] at m1
                have hbl := Nat.lt_of_lt_of_le hbC2 HA7.out.2.2.2.1
                by_cases hcn : c < n
                · have hcni : (c : Int) < (n : Int) := by omega
                  have hcr : c < r[k].2.length := by rw [HN.out]; exact hcn
                  obtain ⟨fb, fo, rfl, fbC, x0, x1, x2, x3, x4⟩ := mf c hcr
                  have Hf := Lib.hid (Hfd.out c hcr)
                  have hfl := Nat.lt_of_lt_of_le fbC HA7.out.2.2.2.1
                  obtain ⟨f, hf⟩ : ∃ f, r[k].2[c] = f := ⟨_, rfl⟩
                  rw [hf] at x0 x1 x2 x3 x4 Hf
                  have HF := Lib.hid hf
                  clear hf
                  obtain ⟨A1, A2, A3, A4, A5⟩ := f
                  simp only at x0 x1 x2 x3 x4 Hf
                  go_upto_region 14 with fail
                  go_cut [6, 7] (fun s6 s7 wx => ∃ q : Nat, s6 = .pointer (some ⟨q, 0, none⟩) ∧ s7 = .bool true ∧ Hid (Holds wx g3 g3 (.slice (some ⟨b, o, none⟩) r.length cp) r) ∧ Hid (Box wx q [.int .i64 A1, .int .i64 A2, .bool A3, .bool A4, .int .i64 A5]) ∧ Below w.heap.size w wx)
                  case first =>
                    have hgw := HA7.out.2.2.1
                    have hCw := HA7.out.2.2.2.1
                    refine wp_region_held_drew (S := SR g3 b (o + k * 2 + 1) fb (fo + c * 5) (.slice (some ⟨b, o, none⟩) r.length cp) (.slice (some ⟨fb, fo, none⟩) n yc) A1) (by kernel_rfl) ⟨c0, m1, x0⟩ ?_
                    intro hH
                    have HAd := Lib.hid HA7.out.drew
                    have hld := hl7.drew
                    have hgd : g3 < wr.drew.heap.size := hgw
                    have hCd : g3 ≤ wr.drew.heap.size := hCw
                    have hbd : b < wr.drew.heap.size := hbl
                    have hfd : fb < wr.drew.heap.size := hfl
                    clear HA7 hl7 hgw hCw hbl hfl c0 m0 m1 x0 x1 x2 x3 x4
                    generalize wr.drew = wd at HAd hld hgd hCd hbd hfd hH ⊢
                    refine wpAnyH_take (i := 0) (v := .agg #[.slice (some ⟨b, o, none⟩) r.length cp]) rfl (by kernel_rfl) (by kernel_rfl) (by kernel_rfl) (fun _ _ _ h => h) (Or.inl ⟨by kernel_rfl, ?_⟩) hH ?_
                    · (intro wv hSw; (try simp only [FS, FS2] at hSw); (try unfold SS at hSw); (try unfold SR at hSw); go_split_ands; go_simp)
                    try simp only [List.getElem_toArray, List.getElem_cons_succ, List.getElem_cons_zero, Act.put, List.setIfInBounds_toArray, List.set_cons_zero, List.set_cons_succ]
                    refine wpAnyH_take (i := 1) (v := .int .i64 (k : Nat)) rfl (by kernel_rfl) (by kernel_rfl) (by kernel_rfl) (fun _ _ _ h => h) (Or.inl ⟨by kernel_rfl, ?_⟩) hH ?_
                    · (intro wv hSw; (try simp only [FS, FS2] at hSw); (try unfold SS at hSw); (try unfold SR at hSw); go_split_ands; go_simp)
                    try simp only [List.getElem_toArray, List.getElem_cons_succ, List.getElem_cons_zero, Act.put, List.setIfInBounds_toArray, List.set_cons_zero, List.set_cons_succ]
                    refine wpAnyH_take (i := 2) (v := .pointer (some ⟨g3, 0, none⟩)) rfl (by kernel_rfl) (by kernel_rfl) (by kernel_rfl) (fun _ _ _ h => h) (Or.inl ⟨by kernel_rfl, ?_⟩) hH ?_
                    · (intro wv hSw; (try simp only [FS, FS2] at hSw); (try unfold SS at hSw); (try unfold SR at hSw); go_split_ands; go_simp)
                    try simp only [List.getElem_toArray, List.getElem_cons_succ, List.getElem_cons_zero, Act.put, List.setIfInBounds_toArray, List.set_cons_zero, List.set_cons_succ]
                    refine wpAnyH_take (i := 3) (v := .slice (some ⟨b, o, none⟩) r.length cp) rfl (by kernel_rfl) (by kernel_rfl) (by kernel_rfl) (fun _ _ _ h => h) (Or.inl ⟨by kernel_rfl, ?_⟩) hH ?_
                    · (intro wv hSw; (try simp only [FS, FS2] at hSw); (try unfold SS at hSw); (try unfold SR at hSw); go_split_ands; go_simp)
                    try simp only [List.getElem_toArray, List.getElem_cons_succ, List.getElem_cons_zero, Act.put, List.setIfInBounds_toArray, List.set_cons_zero, List.set_cons_succ]
                    refine wpAnyH_take (i := 4) (v := .int .i64 (k : Nat)) rfl (by kernel_rfl) (by kernel_rfl) (by kernel_rfl) (fun _ _ _ h => h) (Or.inl ⟨by kernel_rfl, ?_⟩) hH ?_
                    · (intro wv hSw; (try simp only [FS, FS2] at hSw); (try unfold SS at hSw); (try unfold SR at hSw); go_split_ands; go_simp)
                    try simp only [List.getElem_toArray, List.getElem_cons_succ, List.getElem_cons_zero, Act.put, List.setIfInBounds_toArray, List.set_cons_zero, List.set_cons_succ]
                    refine wpAnyH_take (i := 5) (v := .pointer (some ⟨b, o + k * 2, none⟩)) rfl (by kernel_rfl) (by kernel_rfl) (by kernel_rfl) (fun _ _ _ h => h) (Or.inl ⟨by kernel_rfl, ?_⟩) hH ?_
                    · (intro wv hSw; (try simp only [FS, FS2] at hSw); (try unfold SS at hSw); (try unfold SR at hSw); go_split_ands; go_simp)
                    try simp only [List.getElem_toArray, List.getElem_cons_succ, List.getElem_cons_zero, Act.put, List.setIfInBounds_toArray, List.set_cons_zero, List.set_cons_succ]
                    refine wpAnyH_take (i := 6) (v := .pointer (some ⟨b, o + k * 2 + 1, none⟩)) rfl (by kernel_rfl) (by kernel_rfl) (by kernel_rfl) (fun _ _ _ h => h) (Or.inl ⟨by kernel_rfl, ?_⟩) hH ?_
                    · (intro wv hSw; (try simp only [FS, FS2] at hSw); (try unfold SS at hSw); (try unfold SR at hSw); go_split_ands; go_simp)
                    try simp only [List.getElem_toArray, List.getElem_cons_succ, List.getElem_cons_zero, Act.put, List.setIfInBounds_toArray, List.set_cons_zero, List.set_cons_succ]
                    refine wpAnyH_take (i := 7) (v := .slice (some ⟨fb, fo, none⟩) n yc) rfl (by kernel_rfl) (by kernel_rfl) (by kernel_rfl) (fun _ _ _ h => h) (Or.inl ⟨by kernel_rfl, ?_⟩) hH ?_
                    · (intro wv hSw; (try simp only [FS, FS2] at hSw); (try unfold SS at hSw); (try unfold SR at hSw); go_split_ands; go_simp)
                    try simp only [List.getElem_toArray, List.getElem_cons_succ, List.getElem_cons_zero, Act.put, List.setIfInBounds_toArray, List.set_cons_zero, List.set_cons_succ]
                    refine wpAnyH_take (i := 8) (v := .int .i64 (c : Nat)) rfl (by kernel_rfl) (by kernel_rfl) (by kernel_rfl) (fun _ _ _ h => h) (Or.inl ⟨by kernel_rfl, ?_⟩) hH ?_
                    · (intro wv hSw; (try simp only [FS, FS2] at hSw); (try unfold SS at hSw); (try unfold SR at hSw); go_split_ands; go_simp)
                    try simp only [List.getElem_toArray, List.getElem_cons_succ, List.getElem_cons_zero, Act.put, List.setIfInBounds_toArray, List.set_cons_zero, List.set_cons_succ]
                    refine wpAnyH_take (i := 9) (v := .pointer (some ⟨fb, fo + c * 5, none⟩)) rfl (by kernel_rfl) (by kernel_rfl) (by kernel_rfl) (fun _ _ _ h => h) (Or.inl ⟨by kernel_rfl, ?_⟩) hH ?_
                    · (intro wv hSw; (try simp only [FS, FS2] at hSw); (try unfold SS at hSw); (try unfold SR at hSw); go_split_ands; go_simp)
                    try simp only [List.getElem_toArray, List.getElem_cons_succ, List.getElem_cons_zero, Act.put, List.setIfInBounds_toArray, List.set_cons_zero, List.set_cons_succ]
                    refine wpAnyH_take (i := 10) (v := .pointer (some ⟨fb, fo + c * 5, none⟩)) rfl (by kernel_rfl) (by kernel_rfl) (by kernel_rfl) (fun _ _ _ h => h) (Or.inl ⟨by kernel_rfl, ?_⟩) hH ?_
                    · (intro wv hSw; (try simp only [FS, FS2] at hSw); (try unfold SS at hSw); (try unfold SR at hSw); go_split_ands; go_simp)
                    try simp only [List.getElem_toArray, List.getElem_cons_succ, List.getElem_cons_zero, Act.put, List.setIfInBounds_toArray, List.set_cons_zero, List.set_cons_succ]
                    refine wpAnyH_take (i := 11) (v := .int .i64 A1) rfl (by kernel_rfl) (by kernel_rfl) (by kernel_rfl) (fun _ _ _ h => h) (Or.inl ⟨by kernel_rfl, ?_⟩) hH ?_
                    · (intro wv hSw; (try simp only [FS, FS2] at hSw); (try unfold SS at hSw); (try unfold SR at hSw); go_split_ands; go_simp)
                    try simp only [List.getElem_toArray, List.getElem_cons_succ, List.getElem_cons_zero, Act.put, List.setIfInBounds_toArray, List.set_cons_zero, List.set_cons_succ]
                    refine wpAnyH_ready (rs := [12, 16]) (by kernel_rfl) (by simp) ?_
                    refine AllReadyH.cons rfl (fun K hK => ?_) (AllReadyH.cons rfl (fun K hK => ?_) AllReadyH.nil)
                    · go_simp
                      go_wp2_with (go_at_call 15; refine (implFieldAt_any _ r (k : Int) A1 _ HAd.out.raw S0.out).mono ?_; rw [Hf.out]; unfold fieldV; rintro e w8 ⟨rfl, hb8⟩)
                      have HA8 := Lib.hid (HAd.out.all hb8)
                      have hl8 := hld.trans (hb8.mono hld.size)
                      refine hK.out _ _ (hH.below hb8 hgd hbd hfd) (fun hH1 => ?_)
                      clear hK K hH
                      have hH := hH1
                      clear hH1
                      try simp only [Act.put, List.setIfInBounds_toArray, List.set_cons_zero, List.set_cons_succ]
                      refine wpAnyH_take (i := 13) (v := .tuple #[.agg #[.int .i64 A1, .int .i64 A2, .bool A3, .bool A4, .int .i64 A5], .bool true]) rfl (by kernel_rfl) (by kernel_rfl) (by kernel_rfl) (fun _ _ _ h => h) (Or.inl ⟨by kernel_rfl, ?_⟩) hH ?_
                      · (intro wv hSw; (try simp only [FS, FS2] at hSw); (try unfold SS at hSw); (try unfold SR at hSw); go_split_ands; go_simp)
                      try simp only [List.getElem_toArray, List.getElem_cons_succ, List.getElem_cons_zero, Act.put, List.setIfInBounds_toArray, List.set_cons_zero, List.set_cons_succ]
                      refine wpAnyH_take (i := 14) (v := .agg #[.int .i64 A1, .int .i64 A2, .bool A3, .bool A4, .int .i64 A5]) rfl (by kernel_rfl) (by kernel_rfl) (by kernel_rfl) (fun _ _ _ h => h) (Or.inl ⟨by kernel_rfl, ?_⟩) hH ?_
                      · (intro wv hSw; (try simp only [FS, FS2] at hSw); (try unfold SS at hSw); (try unfold SR at hSw); go_split_ands; go_simp)
                      try simp only [List.getElem_toArray, List.getElem_cons_succ, List.getElem_cons_zero, Act.put, List.setIfInBounds_toArray, List.set_cons_zero, List.set_cons_succ]
                      refine wpAnyH_take (i := 15) (v := .bool true) rfl (by kernel_rfl) (by kernel_rfl) (by kernel_rfl) (fun _ _ _ h => h) (Or.inl ⟨by kernel_rfl, ?_⟩) hH ?_
                      · (intro wv hSw; (try simp only [FS, FS2] at hSw); (try unfold SS at hSw); (try unfold SR at hSw); go_split_ands; go_simp)
                      try simp only [List.getElem_toArray, List.getElem_cons_succ, List.getElem_cons_zero, Act.put, List.setIfInBounds_toArray, List.set_cons_zero, List.set_cons_succ]
                      refine wpAnyH_ready (rs := [16]) (by kernel_rfl) (by simp) ?_
                      refine AllReadyH.cons rfl (fun K hK => ?_) AllReadyH.nil
                      go_simp
                      have hb9 : Below w8.heap.size w8 (w8.alloc (.cells #[.int .i64 0, .int .i64 0, .bool false, .bool false, .int .i64 0] 34)) := (Below.refl _ _).alloc (Nat.le_refl _) _
                      have hx9 := Lib.hid (Box.fresh w8 #[.int .i64 0, .int .i64 0, .bool false, .bool false, .int .i64 0] 34)
                      have HA9 := Lib.hid (HA8.out.all hb9)
                      have hl9 := hl8.trans (hb9.mono hl8.size)
                      have hgq : g3 < w8.heap.size := HA8.out.2.2.1
                      have hCq : g3 ≤ w8.heap.size := HA8.out.2.2.2.1
                      have hbq : b < w8.heap.size := Nat.lt_of_lt_of_le hbd hb8.size
                      have hfq : fb < w8.heap.size := Nat.lt_of_lt_of_le hfd hb8.size
                      have hlq : w.heap.size ≤ w8.heap.size := hl8.size
                      have hH9 := hH.below hb9 hgq hbq hfq
                      have hzq : w8.heap.size < (w8.alloc (.cells #[.int .i64 0, .int .i64 0, .bool false, .bool false, .int .i64 0] 34)).heap.size := by simp
                      clear hb9 hH
                      generalize w8.alloc (.cells #[.int .i64 0, .int .i64 0, .bool false, .bool false, .int .i64 0] 34) = w9 at hx9 HA9 hl9 hH9 hzq ⊢
                      generalize w8.heap.size = q at hx9 hgq hCq hbq hfq hlq hzq ⊢
                      have hH := hH9
                      refine hK.out _ _ hH9 (fun hH1 => ?_)
                      clear hK K hH hH9
                      have hH := hH1
                      clear hH1
                      try simp only [Act.put, List.setIfInBounds_toArray, List.set_cons_zero, List.set_cons_succ]
                      obtain ⟨⟨z0, z1, z2, z3, z4⟩, v0, v1, v2, v3, v4⟩ := Box.five hx9.out
                      refine wpAnyH_ready (rs := [17]) (by kernel_rfl) (by simp) ?_
                      refine AllReadyH.cons rfl (fun K hK => ?_) AllReadyH.nil
                      go_simp
                      refine hK.out _ _ (hH.below (B := q) (by repeat (first | exact Below.refl _ _ | refine Below.setCell ?_ (by first | omega | simp) _)) hgq hbq hfq) (fun hH1 => ?_)
                      clear hK K hH
                      have hH := hH1
                      clear hH1
                      try simp only [Act.put, List.setIfInBounds_toArray, List.set_cons_zero, List.set_cons_succ]
                      refine wpAnyH_take (i := 18) (v := .bool true) rfl (by kernel_rfl) (by kernel_rfl) (by kernel_rfl) (fun _ _ _ h => h) (Or.inl ⟨by kernel_rfl, ?_⟩) hH ?_
                      · (intro wv hSw; (try simp only [FS, FS2] at hSw); (try unfold SS at hSw); (try unfold SR at hSw); go_split_ands; go_simp)
                      try simp only [List.getElem_toArray, List.getElem_cons_succ, List.getElem_cons_zero, Act.put, List.setIfInBounds_toArray, List.set_cons_zero, List.set_cons_succ]
                      refine wpAnyH_done (by kernel_rfl) ?_ _
                      go_wp2_with fail
                      go_meet
                      refine ⟨q, rfl, rfl, Lib.hid (HA9.out.below (D := q) ?_ hgq hCq), Lib.hid (hx9.out.set 0 (.int .i64 A1) |>.set 1 (.int .i64 A2) |>.set 2 (.bool A3) |>.set 3 (.bool A4) |>.set 4 (.int .i64 A5)), ?_⟩ <;> repeat (first | exact hl9 | exact Below.refl _ _ | refine Below.setCell ?_ (by first | omega | (simp <;> omega)) _)
                    · go_simp
                      have hb9 : Below wd.heap.size wd (wd.alloc (.cells #[.int .i64 0, .int .i64 0, .bool false, .bool false, .int .i64 0] 34)) := (Below.refl _ _).alloc (Nat.le_refl _) _
                      have hx9 := Lib.hid (Box.fresh wd #[.int .i64 0, .int .i64 0, .bool false, .bool false, .int .i64 0] 34)
                      have HA9 := Lib.hid (HAd.out.all hb9)
                      have hl9 := hld.trans (hb9.mono hld.size)
                      have hgq : g3 < wd.heap.size := HAd.out.2.2.1
                      have hCq : g3 ≤ wd.heap.size := HAd.out.2.2.2.1
                      have hbq : b < wd.heap.size := Nat.lt_of_lt_of_le hbd (Nat.le_refl _)
                      have hfq : fb < wd.heap.size := Nat.lt_of_lt_of_le hfd (Nat.le_refl _)
                      have hlq : w.heap.size ≤ wd.heap.size := hld.size
                      have hH9 := hH.below hb9 hgq hbq hfq
                      have hzq : wd.heap.size < (wd.alloc (.cells #[.int .i64 0, .int .i64 0, .bool false, .bool false, .int .i64 0] 34)).heap.size := by simp
                      clear hb9 hH
                      generalize wd.alloc (.cells #[.int .i64 0, .int .i64 0, .bool false, .bool false, .int .i64 0] 34) = w9 at hx9 HA9 hl9 hH9 hzq ⊢
                      generalize wd.heap.size = q at hx9 hgq hCq hbq hfq hlq hzq ⊢
                      have hH := hH9
                      refine hK.out _ _ hH9 (fun hH1 => ?_)
                      clear hK K hH hH9
                      have hH := hH1
                      clear hH1
                      try simp only [Act.put, List.setIfInBounds_toArray, List.set_cons_zero, List.set_cons_succ]
                      refine wpAnyH_ready (rs := [12]) (by kernel_rfl) (by simp) ?_
                      refine AllReadyH.cons rfl (fun K hK => ?_) AllReadyH.nil
                      go_simp
                      go_wp2_with (go_at_call 15; refine (implFieldAt_any _ r (k : Int) A1 _ HA9.out.raw S0.out).mono ?_; rw [Hf.out]; unfold fieldV; rintro e w8 ⟨rfl, hb8⟩)
                      refine hK.out _ _ (hH.below hb8 (by omega) (by omega) (by omega)) (fun hH1 => ?_)
                      clear hK K hH
                      have hH := hH1
                      clear hH1
                      try simp only [Act.put, List.setIfInBounds_toArray, List.set_cons_zero, List.set_cons_succ]
                      have hx9 := Lib.hid (hx9.out.below hb8 hzq)
                      have HA9 := Lib.hid (HA9.out.all hb8)
                      have hl9 := hl9.trans (hb8.mono hl9.size)
                      refine wpAnyH_take (i := 13) (v := .tuple #[.agg #[.int .i64 A1, .int .i64 A2, .bool A3, .bool A4, .int .i64 A5], .bool true]) rfl (by kernel_rfl) (by kernel_rfl) (by kernel_rfl) (fun _ _ _ h => h) (Or.inl ⟨by kernel_rfl, ?_⟩) hH ?_
                      · (intro wv hSw; (try simp only [FS, FS2] at hSw); (try unfold SS at hSw); (try unfold SR at hSw); go_split_ands; go_simp)
                      try simp only [List.getElem_toArray, List.getElem_cons_succ, List.getElem_cons_zero, Act.put, List.setIfInBounds_toArray, List.set_cons_zero, List.set_cons_succ]
                      refine wpAnyH_take (i := 14) (v := .agg #[.int .i64 A1, .int .i64 A2, .bool A3, .bool A4, .int .i64 A5]) rfl (by kernel_rfl) (by kernel_rfl) (by kernel_rfl) (fun _ _ _ h => h) (Or.inl ⟨by kernel_rfl, ?_⟩) hH ?_
                      · (intro wv hSw; (try simp only [FS, FS2] at hSw); (try unfold SS at hSw); (try unfold SR at hSw); go_split_ands; go_simp)
                      try simp only [List.getElem_toArray, List.getElem_cons_succ, List.getElem_cons_zero, Act.put, List.setIfInBounds_toArray, List.set_cons_zero, List.set_cons_succ]
                      refine wpAnyH_take (i := 15) (v := .bool true) rfl (by kernel_rfl) (by kernel_rfl) (by kernel_rfl) (fun _ _ _ h => h) (Or.inl ⟨by kernel_rfl, ?_⟩) hH ?_
                      · (intro wv hSw; (try simp only [FS, FS2] at hSw); (try unfold SS at hSw); (try unfold SR at hSw); go_split_ands; go_simp)
                      try simp only [List.getElem_toArray, List.getElem_cons_succ, List.getElem_cons_zero, Act.put, List.setIfInBounds_toArray, List.set_cons_zero, List.set_cons_succ]
                      obtain ⟨⟨z0, z1, z2, z3, z4⟩, v0, v1, v2, v3, v4⟩ := Box.five hx9.out
                      refine wpAnyH_ready (rs := [17]) (by kernel_rfl) (by simp) ?_
                      refine AllReadyH.cons rfl (fun K hK => ?_) AllReadyH.nil
                      go_simp
                      refine hK.out _ _ (hH.below (B := q) (by repeat (first | exact Below.refl _ _ | refine Below.setCell ?_ (by first | omega | simp) _)) hgq hbq hfq) (fun hH1 => ?_)
                      clear hK K hH
                      have hH := hH1
                      clear hH1
                      try simp only [Act.put, List.setIfInBounds_toArray, List.set_cons_zero, List.set_cons_succ]
                      refine wpAnyH_take (i := 18) (v := .bool true) rfl (by kernel_rfl) (by kernel_rfl) (by kernel_rfl) (fun _ _ _ h => h) (Or.inl ⟨by kernel_rfl, ?_⟩) hH ?_
                      · (intro wv hSw; (try simp only [FS, FS2] at hSw); (try unfold SS at hSw); (try unfold SR at hSw); go_split_ands; go_simp)
                      try simp only [List.getElem_toArray, List.getElem_cons_succ, List.getElem_cons_zero, Act.put, List.setIfInBounds_toArray, List.set_cons_zero, List.set_cons_succ]
                      refine wpAnyH_done (by kernel_rfl) ?_ _
                      go_wp2_with fail
                      go_meet
                      refine ⟨q, rfl, rfl, Lib.hid (HA9.out.below (D := q) ?_ hgq hCq), Lib.hid (hx9.out.set 0 (.int .i64 A1) |>.set 1 (.int .i64 A2) |>.set 2 (.bool A3) |>.set 3 (.bool A4) |>.set 4 (.int .i64 A5)), ?_⟩ <;> repeat (first | exact hl9 | exact Below.refl _ _ | refine Below.setCell ?_ (by first | omega | (simp <;> omega)) _)
                  case rest =>
                    obtain ⟨q, rfl, rfl, HA9, HX9, hl9⟩ := hcut
                    clear HA7 hl7 c0 m0 m1 x0 x1 x2 x3 x4 hbl hfl
                    obtain ⟨za, zc, m0, m1, hbC3, mf⟩ := Hcells.out _ HA9.out
                    rw [HX.out] at m0
                    rw [HN.out] at m1
                    obtain ⟨fb, fo, rfl, fbC, x0, x1, x2, x3, x4⟩ := mf c hcr
                    rw [HF.out] at x0 x1 x2 x3 x4
                    simp only at x0 x1 x2 x3 x4
                    have hbl := Nat.lt_of_lt_of_le hbC3 HA9.out.2.2.2.1
                    have hfl := Nat.lt_of_lt_of_le fbC HA9.out.2.2.2.1
                    have hgl := HA9.out.2.2.1
                    have hql := HX9.out.1
                    have c0 := HA9.out.one.1
                    obtain ⟨⟨y0, y1, y2, y3, y4⟩, _⟩ := Box.five HX9.out
                    go_upto_region 15 with fail
                    go_cut [91] from 65 to 91 (fun s wx => s = .bool false ∧ Hid (Holds wx g3 g3 (.slice (some ⟨b, o, none⟩) r.length cp) r) ∧ Below w.heap.size w wx)
                    case first =>
                      cases A3 with
                      | true =>
                        have Hrun : Hid (∀ wx : World, Calls Try.prog 16 #[.agg #[.int .i64 A1, .int .i64 A2, .bool true, .bool A4, .int .i64 A5]] wx fun e w' => e = .returned (.bool (numericB A2)) ∧ Below wx.heap.size wx w') := Lib.hid fun wx => (implRuns_any (A1, A2, true, A4, A5) wx).mono fun e w' h => by simpa [runsB] using h
                        refine wp_region_held_drew (S := SS g3 q b (o + k * 2 + 1) fb (fo + c * 5) (.slice (some ⟨b, o, none⟩) r.length cp) (.slice (some ⟨fb, fo, none⟩) n zc) (A1, A2, true, A4, A5)) (by kernel_rfl) ⟨c0, m1, ⟨x0, x1, x2, x3, x4⟩, ⟨y0, y1, y2, y3, y4⟩⟩ ?_
                        intro hH
                        refine wpAnyH_take (i := 0) (v := .bool true) rfl (by kernel_rfl) (by kernel_rfl) (by kernel_rfl) (fun _ _ _ h => h) (Or.inl ⟨by kernel_rfl, ?_⟩) hH ?_
                        · (intro wv hSw; (try simp only [FS, FS2] at hSw); (try unfold SS at hSw); (try unfold SR at hSw); go_split_ands; go_simp)
                        try simp only [List.getElem_toArray, List.getElem_cons_succ, List.getElem_cons_zero, Act.put, List.setIfInBounds_toArray, List.set_cons_zero, List.set_cons_succ]
                        refine wpAnyH_take (i := 1) (v := .bool false) rfl (by kernel_rfl) (by kernel_rfl) (by kernel_rfl) (fun _ _ _ h => h) (Or.inl ⟨by kernel_rfl, ?_⟩) hH ?_
                        · (intro wv hSw; (try simp only [FS, FS2] at hSw); (try unfold SS at hSw); (try unfold SR at hSw); go_split_ands; go_simp)
                        try simp only [List.getElem_toArray, List.getElem_cons_succ, List.getElem_cons_zero, Act.put, List.setIfInBounds_toArray, List.set_cons_zero, List.set_cons_succ]
                        refine wpAnyH_take (i := 2) (v := .bool false) rfl (by kernel_rfl) (by kernel_rfl) (by kernel_rfl) (fun _ _ _ h => h) (Or.inl ⟨by kernel_rfl, ?_⟩) hH ?_
                        · (intro wv hSw; (try simp only [FS, FS2] at hSw); (try unfold SS at hSw); (try unfold SR at hSw); go_split_ands; go_simp)
                        try simp only [List.getElem_toArray, List.getElem_cons_succ, List.getElem_cons_zero, Act.put, List.setIfInBounds_toArray, List.set_cons_zero, List.set_cons_succ]
                        refine wpAnyH_take (i := 3) (v := .agg #[.int .i64 A1, .int .i64 A2, .bool true, .bool A4, .int .i64 A5]) rfl (by kernel_rfl) (by kernel_rfl) (by kernel_rfl) (fun _ _ _ h => h) (Or.inl ⟨by kernel_rfl, ?_⟩) hH ?_
                        · (intro wv hSw; (try simp only [FS, FS2] at hSw); (try unfold SS at hSw); (try unfold SR at hSw); go_split_ands; go_simp)
                        try simp only [List.getElem_toArray, List.getElem_cons_succ, List.getElem_cons_zero, Act.put, List.setIfInBounds_toArray, List.set_cons_zero, List.set_cons_succ]
                        refine wpAnyH_take (i := 4) (v := .pointer (some ⟨g3, 0, none⟩)) rfl (by kernel_rfl) (by kernel_rfl) (by kernel_rfl) (fun _ _ _ h => h) (Or.inl ⟨by kernel_rfl, ?_⟩) hH ?_
                        · (intro wv hSw; (try simp only [FS, FS2] at hSw); (try unfold SS at hSw); (try unfold SR at hSw); go_split_ands; go_simp)
                        try simp only [List.getElem_toArray, List.getElem_cons_succ, List.getElem_cons_zero, Act.put, List.setIfInBounds_toArray, List.set_cons_zero, List.set_cons_succ]
                        refine wpAnyH_take (i := 5) (v := .slice (some ⟨b, o, none⟩) r.length cp) rfl (by kernel_rfl) (by kernel_rfl) (by kernel_rfl) (fun _ _ _ h => h) (Or.inl ⟨by kernel_rfl, ?_⟩) hH ?_
                        · (intro wv hSw; (try simp only [FS, FS2] at hSw); (try unfold SS at hSw); (try unfold SR at hSw); go_split_ands; go_simp)
                        try simp only [List.getElem_toArray, List.getElem_cons_succ, List.getElem_cons_zero, Act.put, List.setIfInBounds_toArray, List.set_cons_zero, List.set_cons_succ]
                        refine wpAnyH_take (i := 6) (v := .int .i64 (k : Nat)) rfl (by kernel_rfl) (by kernel_rfl) (by kernel_rfl) (fun _ _ _ h => h) (Or.inl ⟨by kernel_rfl, ?_⟩) hH ?_
                        · (intro wv hSw; (try simp only [FS, FS2] at hSw); (try unfold SS at hSw); (try unfold SR at hSw); go_split_ands; go_simp)
                        try simp only [List.getElem_toArray, List.getElem_cons_succ, List.getElem_cons_zero, Act.put, List.setIfInBounds_toArray, List.set_cons_zero, List.set_cons_succ]
                        refine wpAnyH_take (i := 7) (v := .pointer (some ⟨b, o + k * 2, none⟩)) rfl (by kernel_rfl) (by kernel_rfl) (by kernel_rfl) (fun _ _ _ h => h) (Or.inl ⟨by kernel_rfl, ?_⟩) hH ?_
                        · (intro wv hSw; (try simp only [FS, FS2] at hSw); (try unfold SS at hSw); (try unfold SR at hSw); go_split_ands; go_simp)
                        try simp only [List.getElem_toArray, List.getElem_cons_succ, List.getElem_cons_zero, Act.put, List.setIfInBounds_toArray, List.set_cons_zero, List.set_cons_succ]
                        refine wpAnyH_take (i := 8) (v := .pointer (some ⟨b, o + k * 2 + 1, none⟩)) rfl (by kernel_rfl) (by kernel_rfl) (by kernel_rfl) (fun _ _ _ h => h) (Or.inl ⟨by kernel_rfl, ?_⟩) hH ?_
                        · (intro wv hSw; (try simp only [FS, FS2] at hSw); (try unfold SS at hSw); (try unfold SR at hSw); go_split_ands; go_simp)
                        try simp only [List.getElem_toArray, List.getElem_cons_succ, List.getElem_cons_zero, Act.put, List.setIfInBounds_toArray, List.set_cons_zero, List.set_cons_succ]
                        refine wpAnyH_take (i := 9) (v := .slice (some ⟨fb, fo, none⟩) n zc) rfl (by kernel_rfl) (by kernel_rfl) (by kernel_rfl) (fun _ _ _ h => h) (Or.inl ⟨by kernel_rfl, ?_⟩) hH ?_
                        · (intro wv hSw; (try simp only [FS, FS2] at hSw); (try unfold SS at hSw); (try unfold SR at hSw); go_split_ands; go_simp)
                        try simp only [List.getElem_toArray, List.getElem_cons_succ, List.getElem_cons_zero, Act.put, List.setIfInBounds_toArray, List.set_cons_zero, List.set_cons_succ]
                        refine wpAnyH_take (i := 10) (v := .int .i64 (c : Nat)) rfl (by kernel_rfl) (by kernel_rfl) (by kernel_rfl) (fun _ _ _ h => h) (Or.inl ⟨by kernel_rfl, ?_⟩) hH ?_
                        · (intro wv hSw; (try simp only [FS, FS2] at hSw); (try unfold SS at hSw); (try unfold SR at hSw); go_split_ands; go_simp)
                        try simp only [List.getElem_toArray, List.getElem_cons_succ, List.getElem_cons_zero, Act.put, List.setIfInBounds_toArray, List.set_cons_zero, List.set_cons_succ]
                        refine wpAnyH_take (i := 11) (v := .pointer (some ⟨fb, fo + c * 5, none⟩)) rfl (by kernel_rfl) (by kernel_rfl) (by kernel_rfl) (fun _ _ _ h => h) (Or.inl ⟨by kernel_rfl, ?_⟩) hH ?_
                        · (intro wv hSw; (try simp only [FS, FS2] at hSw); (try unfold SS at hSw); (try unfold SR at hSw); go_split_ands; go_simp)
                        try simp only [List.getElem_toArray, List.getElem_cons_succ, List.getElem_cons_zero, Act.put, List.setIfInBounds_toArray, List.set_cons_zero, List.set_cons_succ]
                        refine wpAnyH_take (i := 12) (v := .agg #[.int .i64 A1, .int .i64 A2, .bool true, .bool A4, .int .i64 A5]) rfl (by kernel_rfl) (by kernel_rfl) (by kernel_rfl) (fun _ _ _ h => h) (Or.inl ⟨by kernel_rfl, ?_⟩) hH ?_
                        · (intro wv hSw; (try simp only [FS, FS2] at hSw); (try unfold SS at hSw); (try unfold SR at hSw); go_split_ands; go_simp)
                        try simp only [List.getElem_toArray, List.getElem_cons_succ, List.getElem_cons_zero, Act.put, List.setIfInBounds_toArray, List.set_cons_zero, List.set_cons_succ]
                        refine wpAnyH_take (i := 13) (v := .bool false) rfl (by kernel_rfl) (by kernel_rfl) (by kernel_rfl) (fun _ _ _ h => h) (Or.inl ⟨by kernel_rfl, ?_⟩) hH ?_
                        · (intro wv hSw; (try simp only [FS, FS2] at hSw); (try unfold SS at hSw); (try unfold SR at hSw); go_split_ands; go_simp)
                        try simp only [List.getElem_toArray, List.getElem_cons_succ, List.getElem_cons_zero, Act.put, List.setIfInBounds_toArray, List.set_cons_zero, List.set_cons_succ]
                        refine wpAnyH_take (i := 14) (v := .bool false) rfl (by kernel_rfl) (by kernel_rfl) (by kernel_rfl) (fun _ _ _ h => h) (Or.inl ⟨by kernel_rfl, ?_⟩) hH ?_
                        · (intro wv hSw; (try simp only [FS, FS2] at hSw); (try unfold SS at hSw); (try unfold SR at hSw); go_split_ands; go_simp)
                        try simp only [List.getElem_toArray, List.getElem_cons_succ, List.getElem_cons_zero, Act.put, List.setIfInBounds_toArray, List.set_cons_zero, List.set_cons_succ]
                        refine wpAnyH_take (i := 15) (v := .bool false) rfl (by kernel_rfl) (by kernel_rfl) (by kernel_rfl) (fun _ _ _ h => h) (Or.inl ⟨by kernel_rfl, ?_⟩) hH ?_
                        · (intro wv hSw; (try simp only [FS, FS2] at hSw); (try unfold SS at hSw); (try unfold SR at hSw); go_split_ands; go_simp)
                        try simp only [List.getElem_toArray, List.getElem_cons_succ, List.getElem_cons_zero, Act.put, List.setIfInBounds_toArray, List.set_cons_zero, List.set_cons_succ]
                        refine wpAnyH_take (i := 16) (v := .agg #[.int .i64 A1, .int .i64 A2, .bool true, .bool A4, .int .i64 A5]) rfl (by kernel_rfl) (by kernel_rfl) (by kernel_rfl) (fun _ _ _ h => h) (Or.inl ⟨by kernel_rfl, ?_⟩) hH ?_
                        · (intro wv hSw; (try simp only [FS, FS2] at hSw); (try unfold SS at hSw); (try unfold SR at hSw); go_split_ands; go_simp)
                        try simp only [List.getElem_toArray, List.getElem_cons_succ, List.getElem_cons_zero, Act.put, List.setIfInBounds_toArray, List.set_cons_zero, List.set_cons_succ]
                        refine wpAnyH_take (i := 18) (v := .pointer (some ⟨q, 2, none⟩)) rfl (by kernel_rfl) (by kernel_rfl) (by kernel_rfl) (fun _ _ _ h => h) (Or.inl ⟨by kernel_rfl, ?_⟩) hH ?_
                        · (intro wv hSw; (try simp only [FS, FS2] at hSw); (try unfold SS at hSw); (try unfold SR at hSw); go_split_ands; go_simp)
                        try simp only [List.getElem_toArray, List.getElem_cons_succ, List.getElem_cons_zero, Act.put, List.setIfInBounds_toArray, List.set_cons_zero, List.set_cons_succ]
                        refine wpAnyH_take (i := 19) (v := .bool true) rfl (by kernel_rfl) (by kernel_rfl) (by kernel_rfl) (fun _ _ _ h => h) (Or.inl ⟨by kernel_rfl, ?_⟩) hH ?_
                        · (intro wv hSw; (try simp only [FS, FS2] at hSw); (try unfold SS at hSw); (try unfold SR at hSw); go_split_ands; go_simp)
                        try simp only [List.getElem_toArray, List.getElem_cons_succ, List.getElem_cons_zero, Act.put, List.setIfInBounds_toArray, List.set_cons_zero, List.set_cons_succ]
                        refine wpAnyH_ready (rs := [17]) (by kernel_rfl) (by simp) ?_
                        refine AllReadyH.cons rfl (fun K hK => ?_) AllReadyH.nil
                        go_simp
                        go_wp2_with (go_at_call 16; refine (Hrun.out _).mono ?_; rintro e w9 ⟨rfl, hb9⟩)
                        refine hK.out _ _ (hH.below hb9 hgl hql hbl hfl) (fun hH1 => ?_)
                        clear hK K hH
                        have hH := hH1
                        clear hH1
                        try simp only [Act.put, List.setIfInBounds_toArray, List.set_cons_zero, List.set_cons_succ]
                        refine wpAnyH_take (i := 20) (v := .bool true) rfl (by kernel_rfl) (by kernel_rfl) (by kernel_rfl) (fun _ _ _ h => h) (Or.inl ⟨by kernel_rfl, ?_⟩) hH ?_
                        · (intro wv hSw; (try simp only [FS, FS2] at hSw); (try unfold SS at hSw); (try unfold SR at hSw); go_split_ands; go_simp)
                        try simp only [List.getElem_toArray, List.getElem_cons_succ, List.getElem_cons_zero, Act.put, List.setIfInBounds_toArray, List.set_cons_zero, List.set_cons_succ]
                        refine wpAnyH_take (i := 21) (v := .pointer (some ⟨q, 1, none⟩)) rfl (by kernel_rfl) (by kernel_rfl) (by kernel_rfl) (fun _ _ _ h => h) (Or.inl ⟨by kernel_rfl, ?_⟩) hH ?_
                        · (intro wv hSw; (try simp only [FS, FS2] at hSw); (try unfold SS at hSw); (try unfold SR at hSw); go_split_ands; go_simp)
                        try simp only [List.getElem_toArray, List.getElem_cons_succ, List.getElem_cons_zero, Act.put, List.setIfInBounds_toArray, List.set_cons_zero, List.set_cons_succ]
                        refine wpAnyH_take (i := 22) (v := .int .i64 A2) rfl (by kernel_rfl) (by kernel_rfl) (by kernel_rfl) (fun _ _ _ h => h) (Or.inl ⟨by kernel_rfl, ?_⟩) hH ?_
                        · (intro wv hSw; (try simp only [FS, FS2] at hSw); (try unfold SS at hSw); (try unfold SR at hSw); go_split_ands; go_simp)
                        try simp only [List.getElem_toArray, List.getElem_cons_succ, List.getElem_cons_zero, Act.put, List.setIfInBounds_toArray, List.set_cons_zero, List.set_cons_succ]
                        refine wpAnyH_ready (rs := [23]) (by kernel_rfl) (by simp) ?_
                        refine AllReadyH.cons rfl (fun K hK => ?_) AllReadyH.nil
                        go_simp
                        go_wp2_with (go_at_call 17; refine (specNumeric_any _ _).mono ?_; rintro e w10 ⟨rfl, rfl⟩)
                        refine hK.out _ _ hH (fun hH1 => ?_)
                        clear hK K hH
                        have hH := hH1
                        clear hH1
                        try simp only [Act.put, List.setIfInBounds_toArray, List.set_cons_zero, List.set_cons_succ]
                        refine wpAnyH_take (i := 24) (v := .bool (numericB A2)) rfl (by kernel_rfl) (by kernel_rfl) (by kernel_rfl) (fun _ _ _ h => h) (Or.inl ⟨by kernel_rfl, ?_⟩) hH ?_
                        · (intro wv hSw; (try simp only [FS, FS2] at hSw); (try unfold SS at hSw); (try unfold SR at hSw); go_split_ands; go_simp)
                        try simp only [List.getElem_toArray, List.getElem_cons_succ, List.getElem_cons_zero, Act.put, List.setIfInBounds_toArray, List.set_cons_zero, List.set_cons_succ]
                        refine wpAnyH_take (i := 25) (v := .bool false) rfl (by kernel_rfl) (by kernel_rfl) (by kernel_rfl) (fun _ _ _ h => h) (Or.inl ⟨by kernel_rfl, ?_⟩) hH ?_
                        · (intro wv hSw; (try simp only [FS, FS2] at hSw); (try unfold SS at hSw); (try unfold SR at hSw); go_split_ands; go_simp)
                        try simp only [List.getElem_toArray, List.getElem_cons_succ, List.getElem_cons_zero, Act.put, List.setIfInBounds_toArray, List.set_cons_zero, List.set_cons_succ]
                        refine wpAnyH_take (i := 26) (v := .bool false) rfl (by kernel_rfl) (by kernel_rfl) (by kernel_rfl) (fun _ _ _ h => h) (Or.inl ⟨by kernel_rfl, ?_⟩) hH ?_
                        · (intro wv hSw; (try simp only [FS, FS2] at hSw); (try unfold SS at hSw); (try unfold SR at hSw); go_split_ands; go_simp)
                        try simp only [List.getElem_toArray, List.getElem_cons_succ, List.getElem_cons_zero, Act.put, List.setIfInBounds_toArray, List.set_cons_zero, List.set_cons_succ]
                        refine wpAnyH_done (by kernel_rfl) ?_ _
                        go_wp2_with fail
                        go_meet
                        exact ⟨rfl, Lib.hid (HA9.out.drew.all hb9), hl9.drew.trans (hb9.mono hl9.size)⟩
                      | false =>
                        have Hrun : Hid (∀ wx : World, Calls Try.prog 16 #[.agg #[.int .i64 A1, .int .i64 A2, .bool false, .bool A4, .int .i64 A5]] wx fun e w' => e = .returned (.bool false) ∧ Below wx.heap.size wx w') := Lib.hid fun wx => (implRuns_any (A1, A2, false, A4, A5) wx).mono fun e w' h => by simpa [runsB] using h
                        refine wp_region_held_drew (S := SS g3 q b (o + k * 2 + 1) fb (fo + c * 5) (.slice (some ⟨b, o, none⟩) r.length cp) (.slice (some ⟨fb, fo, none⟩) n zc) (A1, A2, false, A4, A5)) (by kernel_rfl) ⟨c0, m1, ⟨x0, x1, x2, x3, x4⟩, ⟨y0, y1, y2, y3, y4⟩⟩ ?_
                        intro hH
                        refine wpAnyH_take (i := 0) (v := .bool true) rfl (by kernel_rfl) (by kernel_rfl) (by kernel_rfl) (fun _ _ _ h => h) (Or.inl ⟨by kernel_rfl, ?_⟩) hH ?_
                        · (intro wv hSw; (try simp only [FS, FS2] at hSw); (try unfold SS at hSw); (try unfold SR at hSw); go_split_ands; go_simp)
                        try simp only [List.getElem_toArray, List.getElem_cons_succ, List.getElem_cons_zero, Act.put, List.setIfInBounds_toArray, List.set_cons_zero, List.set_cons_succ]
                        refine wpAnyH_take (i := 1) (v := .bool false) rfl (by kernel_rfl) (by kernel_rfl) (by kernel_rfl) (fun _ _ _ h => h) (Or.inl ⟨by kernel_rfl, ?_⟩) hH ?_
                        · (intro wv hSw; (try simp only [FS, FS2] at hSw); (try unfold SS at hSw); (try unfold SR at hSw); go_split_ands; go_simp)
                        try simp only [List.getElem_toArray, List.getElem_cons_succ, List.getElem_cons_zero, Act.put, List.setIfInBounds_toArray, List.set_cons_zero, List.set_cons_succ]
                        refine wpAnyH_take (i := 2) (v := .bool false) rfl (by kernel_rfl) (by kernel_rfl) (by kernel_rfl) (fun _ _ _ h => h) (Or.inl ⟨by kernel_rfl, ?_⟩) hH ?_
                        · (intro wv hSw; (try simp only [FS, FS2] at hSw); (try unfold SS at hSw); (try unfold SR at hSw); go_split_ands; go_simp)
                        try simp only [List.getElem_toArray, List.getElem_cons_succ, List.getElem_cons_zero, Act.put, List.setIfInBounds_toArray, List.set_cons_zero, List.set_cons_succ]
                        refine wpAnyH_take (i := 3) (v := .agg #[.int .i64 A1, .int .i64 A2, .bool false, .bool A4, .int .i64 A5]) rfl (by kernel_rfl) (by kernel_rfl) (by kernel_rfl) (fun _ _ _ h => h) (Or.inl ⟨by kernel_rfl, ?_⟩) hH ?_
                        · (intro wv hSw; (try simp only [FS, FS2] at hSw); (try unfold SS at hSw); (try unfold SR at hSw); go_split_ands; go_simp)
                        try simp only [List.getElem_toArray, List.getElem_cons_succ, List.getElem_cons_zero, Act.put, List.setIfInBounds_toArray, List.set_cons_zero, List.set_cons_succ]
                        refine wpAnyH_take (i := 4) (v := .pointer (some ⟨g3, 0, none⟩)) rfl (by kernel_rfl) (by kernel_rfl) (by kernel_rfl) (fun _ _ _ h => h) (Or.inl ⟨by kernel_rfl, ?_⟩) hH ?_
                        · (intro wv hSw; (try simp only [FS, FS2] at hSw); (try unfold SS at hSw); (try unfold SR at hSw); go_split_ands; go_simp)
                        try simp only [List.getElem_toArray, List.getElem_cons_succ, List.getElem_cons_zero, Act.put, List.setIfInBounds_toArray, List.set_cons_zero, List.set_cons_succ]
                        refine wpAnyH_take (i := 5) (v := .slice (some ⟨b, o, none⟩) r.length cp) rfl (by kernel_rfl) (by kernel_rfl) (by kernel_rfl) (fun _ _ _ h => h) (Or.inl ⟨by kernel_rfl, ?_⟩) hH ?_
                        · (intro wv hSw; (try simp only [FS, FS2] at hSw); (try unfold SS at hSw); (try unfold SR at hSw); go_split_ands; go_simp)
                        try simp only [List.getElem_toArray, List.getElem_cons_succ, List.getElem_cons_zero, Act.put, List.setIfInBounds_toArray, List.set_cons_zero, List.set_cons_succ]
                        refine wpAnyH_take (i := 6) (v := .int .i64 (k : Nat)) rfl (by kernel_rfl) (by kernel_rfl) (by kernel_rfl) (fun _ _ _ h => h) (Or.inl ⟨by kernel_rfl, ?_⟩) hH ?_
                        · (intro wv hSw; (try simp only [FS, FS2] at hSw); (try unfold SS at hSw); (try unfold SR at hSw); go_split_ands; go_simp)
                        try simp only [List.getElem_toArray, List.getElem_cons_succ, List.getElem_cons_zero, Act.put, List.setIfInBounds_toArray, List.set_cons_zero, List.set_cons_succ]
                        refine wpAnyH_take (i := 7) (v := .pointer (some ⟨b, o + k * 2, none⟩)) rfl (by kernel_rfl) (by kernel_rfl) (by kernel_rfl) (fun _ _ _ h => h) (Or.inl ⟨by kernel_rfl, ?_⟩) hH ?_
                        · (intro wv hSw; (try simp only [FS, FS2] at hSw); (try unfold SS at hSw); (try unfold SR at hSw); go_split_ands; go_simp)
                        try simp only [List.getElem_toArray, List.getElem_cons_succ, List.getElem_cons_zero, Act.put, List.setIfInBounds_toArray, List.set_cons_zero, List.set_cons_succ]
                        refine wpAnyH_take (i := 8) (v := .pointer (some ⟨b, o + k * 2 + 1, none⟩)) rfl (by kernel_rfl) (by kernel_rfl) (by kernel_rfl) (fun _ _ _ h => h) (Or.inl ⟨by kernel_rfl, ?_⟩) hH ?_
                        · (intro wv hSw; (try simp only [FS, FS2] at hSw); (try unfold SS at hSw); (try unfold SR at hSw); go_split_ands; go_simp)
                        try simp only [List.getElem_toArray, List.getElem_cons_succ, List.getElem_cons_zero, Act.put, List.setIfInBounds_toArray, List.set_cons_zero, List.set_cons_succ]
                        refine wpAnyH_take (i := 9) (v := .slice (some ⟨fb, fo, none⟩) n zc) rfl (by kernel_rfl) (by kernel_rfl) (by kernel_rfl) (fun _ _ _ h => h) (Or.inl ⟨by kernel_rfl, ?_⟩) hH ?_
                        · (intro wv hSw; (try simp only [FS, FS2] at hSw); (try unfold SS at hSw); (try unfold SR at hSw); go_split_ands; go_simp)
                        try simp only [List.getElem_toArray, List.getElem_cons_succ, List.getElem_cons_zero, Act.put, List.setIfInBounds_toArray, List.set_cons_zero, List.set_cons_succ]
                        refine wpAnyH_take (i := 10) (v := .int .i64 (c : Nat)) rfl (by kernel_rfl) (by kernel_rfl) (by kernel_rfl) (fun _ _ _ h => h) (Or.inl ⟨by kernel_rfl, ?_⟩) hH ?_
                        · (intro wv hSw; (try simp only [FS, FS2] at hSw); (try unfold SS at hSw); (try unfold SR at hSw); go_split_ands; go_simp)
                        try simp only [List.getElem_toArray, List.getElem_cons_succ, List.getElem_cons_zero, Act.put, List.setIfInBounds_toArray, List.set_cons_zero, List.set_cons_succ]
                        refine wpAnyH_take (i := 11) (v := .pointer (some ⟨fb, fo + c * 5, none⟩)) rfl (by kernel_rfl) (by kernel_rfl) (by kernel_rfl) (fun _ _ _ h => h) (Or.inl ⟨by kernel_rfl, ?_⟩) hH ?_
                        · (intro wv hSw; (try simp only [FS, FS2] at hSw); (try unfold SS at hSw); (try unfold SR at hSw); go_split_ands; go_simp)
                        try simp only [List.getElem_toArray, List.getElem_cons_succ, List.getElem_cons_zero, Act.put, List.setIfInBounds_toArray, List.set_cons_zero, List.set_cons_succ]
                        refine wpAnyH_take (i := 12) (v := .agg #[.int .i64 A1, .int .i64 A2, .bool false, .bool A4, .int .i64 A5]) rfl (by kernel_rfl) (by kernel_rfl) (by kernel_rfl) (fun _ _ _ h => h) (Or.inl ⟨by kernel_rfl, ?_⟩) hH ?_
                        · (intro wv hSw; (try simp only [FS, FS2] at hSw); (try unfold SS at hSw); (try unfold SR at hSw); go_split_ands; go_simp)
                        try simp only [List.getElem_toArray, List.getElem_cons_succ, List.getElem_cons_zero, Act.put, List.setIfInBounds_toArray, List.set_cons_zero, List.set_cons_succ]
                        refine wpAnyH_take (i := 13) (v := .bool false) rfl (by kernel_rfl) (by kernel_rfl) (by kernel_rfl) (fun _ _ _ h => h) (Or.inl ⟨by kernel_rfl, ?_⟩) hH ?_
                        · (intro wv hSw; (try simp only [FS, FS2] at hSw); (try unfold SS at hSw); (try unfold SR at hSw); go_split_ands; go_simp)
                        try simp only [List.getElem_toArray, List.getElem_cons_succ, List.getElem_cons_zero, Act.put, List.setIfInBounds_toArray, List.set_cons_zero, List.set_cons_succ]
                        refine wpAnyH_take (i := 14) (v := .bool false) rfl (by kernel_rfl) (by kernel_rfl) (by kernel_rfl) (fun _ _ _ h => h) (Or.inl ⟨by kernel_rfl, ?_⟩) hH ?_
                        · (intro wv hSw; (try simp only [FS, FS2] at hSw); (try unfold SS at hSw); (try unfold SR at hSw); go_split_ands; go_simp)
                        try simp only [List.getElem_toArray, List.getElem_cons_succ, List.getElem_cons_zero, Act.put, List.setIfInBounds_toArray, List.set_cons_zero, List.set_cons_succ]
                        refine wpAnyH_take (i := 15) (v := .bool false) rfl (by kernel_rfl) (by kernel_rfl) (by kernel_rfl) (fun _ _ _ h => h) (Or.inl ⟨by kernel_rfl, ?_⟩) hH ?_
                        · (intro wv hSw; (try simp only [FS, FS2] at hSw); (try unfold SS at hSw); (try unfold SR at hSw); go_split_ands; go_simp)
                        try simp only [List.getElem_toArray, List.getElem_cons_succ, List.getElem_cons_zero, Act.put, List.setIfInBounds_toArray, List.set_cons_zero, List.set_cons_succ]
                        refine wpAnyH_take (i := 16) (v := .agg #[.int .i64 A1, .int .i64 A2, .bool false, .bool A4, .int .i64 A5]) rfl (by kernel_rfl) (by kernel_rfl) (by kernel_rfl) (fun _ _ _ h => h) (Or.inl ⟨by kernel_rfl, ?_⟩) hH ?_
                        · (intro wv hSw; (try simp only [FS, FS2] at hSw); (try unfold SS at hSw); (try unfold SR at hSw); go_split_ands; go_simp)
                        try simp only [List.getElem_toArray, List.getElem_cons_succ, List.getElem_cons_zero, Act.put, List.setIfInBounds_toArray, List.set_cons_zero, List.set_cons_succ]
                        refine wpAnyH_take (i := 18) (v := .pointer (some ⟨q, 2, none⟩)) rfl (by kernel_rfl) (by kernel_rfl) (by kernel_rfl) (fun _ _ _ h => h) (Or.inl ⟨by kernel_rfl, ?_⟩) hH ?_
                        · (intro wv hSw; (try simp only [FS, FS2] at hSw); (try unfold SS at hSw); (try unfold SR at hSw); go_split_ands; go_simp)
                        try simp only [List.getElem_toArray, List.getElem_cons_succ, List.getElem_cons_zero, Act.put, List.setIfInBounds_toArray, List.set_cons_zero, List.set_cons_succ]
                        refine wpAnyH_take (i := 19) (v := .bool false) rfl (by kernel_rfl) (by kernel_rfl) (by kernel_rfl) (fun _ _ _ h => h) (Or.inl ⟨by kernel_rfl, ?_⟩) hH ?_
                        · (intro wv hSw; (try simp only [FS, FS2] at hSw); (try unfold SS at hSw); (try unfold SR at hSw); go_split_ands; go_simp)
                        try simp only [List.getElem_toArray, List.getElem_cons_succ, List.getElem_cons_zero, Act.put, List.setIfInBounds_toArray, List.set_cons_zero, List.set_cons_succ]
                        refine wpAnyH_ready (rs := [17]) (by kernel_rfl) (by simp) ?_
                        refine AllReadyH.cons rfl (fun K hK => ?_) AllReadyH.nil
                        go_simp
                        go_wp2_with (go_at_call 16; refine (Hrun.out _).mono ?_; rintro e w9 ⟨rfl, hb9⟩)
                        refine hK.out _ _ (hH.below hb9 hgl hql hbl hfl) (fun hH1 => ?_)
                        clear hK K hH
                        have hH := hH1
                        clear hH1
                        try simp only [Act.put, List.setIfInBounds_toArray, List.set_cons_zero, List.set_cons_succ]
                        refine wpAnyH_take (i := 20) (v := .bool false) rfl (by kernel_rfl) (by kernel_rfl) (by kernel_rfl) (fun _ _ _ h => h) (Or.inl ⟨by kernel_rfl, ?_⟩) hH ?_
                        · (intro wv hSw; (try simp only [FS, FS2] at hSw); (try unfold SS at hSw); (try unfold SR at hSw); go_split_ands; go_simp)
                        try simp only [List.getElem_toArray, List.getElem_cons_succ, List.getElem_cons_zero, Act.put, List.setIfInBounds_toArray, List.set_cons_zero, List.set_cons_succ]
                        refine wpAnyH_take (i := 21) (v := undef) rfl (by kernel_rfl) (by kernel_rfl) (by kernel_rfl) (fun _ _ _ h => h) (Or.inr ⟨by kernel_rfl, rfl⟩) hH ?_
                        try simp only [List.getElem_toArray, List.getElem_cons_succ, List.getElem_cons_zero, Act.put, List.setIfInBounds_toArray, List.set_cons_zero, List.set_cons_succ]
                        refine wpAnyH_take (i := 22) (v := undef) rfl (by kernel_rfl) (by kernel_rfl) (by kernel_rfl) (fun _ _ _ h => h) (Or.inr ⟨by kernel_rfl, rfl⟩) hH ?_
                        try simp only [List.getElem_toArray, List.getElem_cons_succ, List.getElem_cons_zero, Act.put, List.setIfInBounds_toArray, List.set_cons_zero, List.set_cons_succ]
                        refine wpAnyH_take (i := 23) (v := undef) rfl (by kernel_rfl) (by kernel_rfl) (by kernel_rfl) (fun _ _ _ h => h) (Or.inr ⟨by kernel_rfl, rfl⟩) hH ?_
                        try simp only [List.getElem_toArray, List.getElem_cons_succ, List.getElem_cons_zero, Act.put, List.setIfInBounds_toArray, List.set_cons_zero, List.set_cons_succ]
                        refine wpAnyH_take (i := 24) (v := .bool false) rfl (by kernel_rfl) (by kernel_rfl) (by kernel_rfl) (fun _ _ _ h => h) (Or.inl ⟨by kernel_rfl, ?_⟩) hH ?_
                        · (intro wv hSw; (try simp only [FS, FS2] at hSw); (try unfold SS at hSw); (try unfold SR at hSw); go_split_ands; go_simp)
                        try simp only [List.getElem_toArray, List.getElem_cons_succ, List.getElem_cons_zero, Act.put, List.setIfInBounds_toArray, List.set_cons_zero, List.set_cons_succ]
                        refine wpAnyH_take (i := 25) (v := .bool false) rfl (by kernel_rfl) (by kernel_rfl) (by kernel_rfl) (fun _ _ _ h => h) (Or.inl ⟨by kernel_rfl, ?_⟩) hH ?_
                        · (intro wv hSw; (try simp only [FS, FS2] at hSw); (try unfold SS at hSw); (try unfold SR at hSw); go_split_ands; go_simp)
                        try simp only [List.getElem_toArray, List.getElem_cons_succ, List.getElem_cons_zero, Act.put, List.setIfInBounds_toArray, List.set_cons_zero, List.set_cons_succ]
                        refine wpAnyH_take (i := 26) (v := .bool false) rfl (by kernel_rfl) (by kernel_rfl) (by kernel_rfl) (fun _ _ _ h => h) (Or.inl ⟨by kernel_rfl, ?_⟩) hH ?_
                        · (intro wv hSw; (try simp only [FS, FS2] at hSw); (try unfold SS at hSw); (try unfold SR at hSw); go_split_ands; go_simp)
                        try simp only [List.getElem_toArray, List.getElem_cons_succ, List.getElem_cons_zero, Act.put, List.setIfInBounds_toArray, List.set_cons_zero, List.set_cons_succ]
                        refine wpAnyH_done (by kernel_rfl) ?_ _
                        go_wp2_with fail
                        go_meet
                        exact ⟨rfl, Lib.hid (HA9.out.drew.all hb9), hl9.drew.trans (hb9.mono hl9.size)⟩
                    case rest =>
                      obtain ⟨rfl, HA10, hl10⟩ := hcut
                      clear HA9 HX9 hl9 c0 m0 m1 x0 x1 x2 x3 x4 y0 y1 y2 y3 y4
                      go_wp2_with fail
                      go_roundw
                      case rel => exact ⟨c + 1, by omega, by go_num, HA10, hl10⟩
                      case measure => simp [intOf]; omega
                · have hge : (n : Int) ≤ (c : Int) := by omega
                  have hend : decide ((c : Int) < (n : Int)) = false := decide_eq_false (by omega)
                  go_wp2_with fail
                  go_roundw
                  case rel => exact ⟨k + 1, by omega, by go_num, HA7, hl7⟩
                  case measure => simp [intOf]; omega
        · have hge : (r.length : Int) ≤ (k : Int) := by omega
          have hend : decide (k < r.length) = false := decide_eq_false hlt
          go_wp2_with fail
          go_ret
          exact ⟨rfl, hl⟩

/-! ### THE ROW's STEP: WRITTEN OUT: LEAVE IT -/
set_option maxRecDepth 100000 in
theorem lifted (os : Os) (started : os.Started) (H : Type) (enc : TypeId × Value → H) :
    ReturnsInHanded {} Try.checked os 3 .any (Rows.fnShapesSpec.pre6 enc Try.prog Try.f3 Rows.fnShapesRow.domain false) (Rows.fnShapesSpec.post enc Try.prog Try.f3 false true false false) := by
  refine returnsInHanded_of_change (C := Try.checked) own started (by kernel_rfl) Try.func3
    (ChangeSpec.witness6 (enc := enc) (C := Try.checked) false ⟨#[], #[.slice none 0 0], []⟩ 8 (by kernel_rfl) (by kernel_rfl) (by kernel_rfl) (by kernel_rfl)) ?_
  intro W base args ds gs before hval0 hW hcnd _
  have hval : ∀ (j : Nat) t v, Try.f3.params[j]? = some t → args[j]? = some v → Value.okWide Try.prog W .any base t v := hval0
  have hW' := hW
  obtain ⟨p, q, hA0, hV, rfl, hfz, hnd⟩ := hW
  have hA : DataW.TrodAll enc Try.prog W 0 (fun _ => true) true Try.f3.params.toList args.toList ds p := hA0
  rw [Try.params3] at hA hval
  obtain ⟨v0, vs0, d0, ds0, p0, q0, hargs, rfl, rfl, h0, r0⟩ := trodAll_cons hA
  obtain ⟨rfl, rfl, rfl⟩ := trodAll_nil r0
  obtain rfl : args = #[v0] := by cases args; simp_all
  obtain ⟨rfl, rfl⟩ := trodVars_none hV
  obtain ⟨a0, len0, cap0, rfl⟩ := okWide_slice Try.underlying22 (hval 0 22 v0 rfl rfl)
  have k0 := h0
  have lt0 : ∀ x ∈ p0, x.block < W.heap.size := by obtain ⟨m, hm⟩ := k0; exact DataW.trod_lt m _ _ _ hm
  obtain ⟨z0, w0⟩ : ∃ zs, IsRow .u8 W a0 len0 cap0 zs := by
    obtain ⟨fuel, hf⟩ := h0
    rcases open_ints Try.underlying22 Try.underlying5 (by kernel_rfl) hf with ⟨hcs, _⟩ | ⟨x, l, c, zs, hcs, _, hl, hm, hz, _, hcell, hwz⟩
    · simp [Value.cells] at hcs
      obtain ⟨rfl, rfl, rfl⟩ := hcs
      exact ⟨[], .inl ⟨rfl, rfl, rfl, rfl⟩⟩
    · simp [Value.cells] at hcs
      obtain ⟨rfl, rfl, rfl⟩ := hcs
      exact ⟨zs, .inr ⟨_, rfl, hl, hm, by simpa using hz, hcell, hwz⟩⟩
  clear hA0 hval0
  refine (walk a0 len0 cap0 z0 W w0).mono fun e W' ⟨he, bel⟩ => ?_
  subst he
  exact ⟨_, rfl, _, _, _, [], _, [], hW', trodAll_mk1 (shut_bool Try.underlying4 _), (trodAll_cons_mk (Below.trod laidOut (by kernel_rfl) (of_decide_eq_true (by kernel_rfl)) k0 bel lt0) trodAll_mk0), rfl, bel.frame _, fun h => by cases h⟩

theorem over : Rows.fnShapesRow.holds Try.pinned (OpenSpec.ofChange Rows.fnShapesSpec) :=
  OpenClaim.holds_of_wide 3 Try.f3 rfl rfl rfl rfl rfl rfl rfl ⟨rfl, rfl, rfl, rfl, rfl⟩ rfl rfl rfl rfl rfl (by kernel_rfl) Try.func3 (by kernel_rfl)
    (of_decide_eq_true (by kernel_rfl)) (by unfold Func.isWrapper; first | (rw [if_pos (by decide +kernel)]; kernel_rfl) | (rw [if_neg (by decide +kernel)]; exact ⟨rfl, rfl⟩))
    (fun os started H enc _ => lifted os started H enc)

/-- ████ THE STATEMENT ████ -/
theorem proved : Rows.FnShapesSaid := over
end Go.Proofs.Ythjnpipincpkgaa.fnShapes
