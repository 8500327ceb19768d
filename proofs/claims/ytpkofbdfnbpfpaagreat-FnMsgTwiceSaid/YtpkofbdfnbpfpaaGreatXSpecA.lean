/-
  Several texts in one: ZeroF Shape SchemaOk Ev PlanS OwnM VarMath Var VarGet Within OwnEv Msg FixMath GetFixS MsgVar ToEv MsgTell TagWalk MsgNum.
-/
import Derived.Test.YtpkofbdfnbpfpaaGreatRaw
import Derived.Test.YtpkofbdfnbpfpaaGreatRawBase
import Derived.Test.YtpkofbdfnbpfpaaGreatKind
import Derived.Test.YtpkofbdfnbpfpaaGreatTag
import Derived.Deep.RegionWith
import Derived.Deep.DeepCutAuto
import Derived.Deep.QuietTactic
import Derived.Deep.RegionHeld3
import Derived.BigQuiet
import Derived.Test.YtpkofbdfnbpfpaaGreatBytes
import Derived.ArgAppend
import Derived.Laws.IdiomCopy
import Derived.Lib.Hide
import Derived.Test.YtpkofbdfnbpfpaaGreatIn
import Derived.Test.YtpkofbdfnbpfpaaGreatProg
import Derived.WalkLawsBesides
import Derived.WalkSpells
import Derived.LoopTactic
import Derived.Test.YtpkofbdfnbpfpaaGreatOwnRead
import Derived.Laws.OwnMore
import Derived.OwnWalk
import Derived.Test.YtpkofbdfnbpfpaaGreatDraw
import Derived.Test.YtpkofbdfnbpfpaaGreatZone
import Derived.Deep.AppendLies
import Derived.Deep.RegionLaw

/-
  The field that is all zero.
-/
namespace Go.Proofs.YtpkofbdfnbpfpaaGreat.Num
def zeroF : RF := (0, 0, false, false, 0)
end Go.Proofs.YtpkofbdfnbpfpaaGreat.Num


/-
  The walks of the reference's ShapeAt, FieldAt and Runs: they give what the plain definitions here say; only new memory is written.
-/
namespace Go.Proofs.YtpkofbdfnbpfpaaGreat.Num
open Go.RowKit Go.Proofs
set_option linter.unusedVariables false
set_option linter.unusedSimpArgs false
def fieldIn (l : List RF) (x : Int) : RF × Bool := match l.find? (fun f => f.1 == x) with | some f => (f, true) | none => (zeroF, false)
def fieldAtR (s : List RM) (shape x : Int) : RF × Bool := if h : 0 ≤ shape ∧ shape.toNat < s.length then fieldIn (s[shape.toNat]'h.2).2 x else (zeroF, false)
theorem fieldIn_yes {l : List RF} {x : Int} {k : Nat} (hk : k < l.length) (h : l[k].1 = x) (hno : ∀ j (hj : j < l.length), j < k → l[j].1 ≠ x) : fieldIn l x = (l[k], true) := by
  unfold fieldIn
  rw [List.find?_eq_some_iff_getElem.2 ⟨by simpa using h, k, hk, rfl, fun j hj => by simpa using hno j (by omega) hj⟩]
theorem fieldIn_no {l : List RF} {x : Int} (hno : ∀ j (hj : j < l.length), l[j].1 ≠ x) : fieldIn l x = (zeroF, false) := by
  unfold fieldIn
  rw [List.find?_eq_none.2 (fun m hm => by obtain ⟨j, hj, rfl⟩ := List.getElem_of_mem hm; simpa using hno j hj)]
theorem fieldAt_in {s : List RM} {k : Nat} {x : Int} (h : k < s.length) : fieldAtR s (k : Int) x = fieldIn s[k].2 x := by
  unfold fieldAtR
  rw [dif_pos ⟨by omega, by simpa using h⟩]
  simp
theorem fieldAt_out {s : List RM} {shape x : Int} (h : ¬ (0 ≤ shape ∧ shape ≤ (s.length : Int) - 1)) : fieldAtR s shape x = (zeroF, false) := by
  unfold fieldAtR
  rw [dif_neg (by omega)]
def runsB (f : RF) : Bool := f.2.2.1 && numericB f.2.1
theorem Box.five {w : World} {g : Nat} {a b c d e : Value} (h : Box w g [a, b, c, d, e]) : (w.cell? ⟨g, 0, none⟩ = some a ∧ w.cell? ⟨g, 1, none⟩ = some b ∧ w.cell? ⟨g, 2, none⟩ = some c ∧ w.cell? ⟨g, 3, none⟩ = some d ∧ w.cell? ⟨g, 4, none⟩ = some e) ∧
    w.frozen? ⟨g, 0, none⟩ = false ∧ w.frozen? ⟨g, 1, none⟩ = false ∧ w.frozen? ⟨g, 2, none⟩ = false ∧ w.frozen? ⟨g, 3, none⟩ = false ∧ w.frozen? ⟨g, 4, none⟩ = false :=
  ⟨⟨(h.2 0 (by simp)).1, (h.2 1 (by simp)).1, (h.2 2 (by simp)).1, (h.2 3 (by simp)).1, (h.2 4 (by simp)).1⟩, (h.2 0 (by simp)).2, (h.2 1 (by simp)).2, (h.2 2 (by simp)).2, (h.2 3 (by simp)).2, (h.2 4 (by simp)).2⟩
theorem neS {x c : Int} (h : x ≠ c) : (x == c) = false := by rw [beq_eq_false_iff_ne]; exact h
theorem specRuns_any (f : RF) (w : World) : Calls Tryz.prog 129 #[fieldV f] w fun e w' => e = .returned (.bool (runsB f)) ∧ Below w.heap.size w w' := by
  obtain ⟨A1, A2, A3, A4, A5⟩ := f
  unfold fieldV runsB
  simp only
  have hl : Below w.heap.size w (w.alloc (.cells #[.int .i64 A1, .int .i64 A2, .bool A3, .bool A4, .int .i64 A5] 117)) := (Below.refl _ _).alloc (Nat.le_refl _) _
  cases A3
  · go_enter Tryz.func129, Tryz.ntmps129
    go_wp2_with fail
    go_ret
    exact ⟨rfl, hl⟩
  · obtain ⟨q, hq⟩ : ∃ q, numericB A2 = q := ⟨_, rfl⟩
    go_enter Tryz.func129, Tryz.ntmps129
    go_wp2_with fail
    refine (specNumeric_any A2 _).mono ?_
    rw [hq]
    rintro e w1 ⟨rfl, rfl⟩
    go_wp2_with fail
    go_ret
    exact ⟨by rw [hq]; rfl, hl⟩
set_option maxHeartbeats 2000000 in
theorem specFieldAt_any (v : Value) (r : List RM) (shape x : Int) (w : World) (h : RawAt w (· < w.heap.size) v r) (hr : Small r) :
    Calls Tryz.prog 102 #[v, .int .i64 shape, .int .i64 x] w fun e w' => e = .returned (.tuple #[fieldV (fieldAtR r shape x).1, .bool (fieldAtR r shape x).2]) ∧ Below w.heap.size w w' := by
  have hr1 := hr.1
  have Hr := Lib.hid hr.2
  clear hr
  obtain ⟨u, rfl, hu⟩ := h
  obtain ⟨a, cap, rfl⟩ := hu.len
  have H := Lib.hid hu
  have hw1 : IntKind.i64.wrap ((r.length : Int) - 1) = (r.length : Int) - 1 := IntWalk.i64_in _ (by omega)
  clear hu
  by_cases hin : 0 ≤ shape ∧ shape ≤ (r.length : Int) - 1
  · obtain ⟨k, rfl⟩ := Int.eq_ofNat_of_zero_le hin.1
    have hk : k < r.length := by omega
    have hki : (k : Int) < (r.length : Int) := by omega
    have Hin := Lib.hid hin
    have He := Lib.hid (fieldAt_in (x := x) hk)
    rw [He.out]
    obtain ⟨b, o, c, hv, hbC, hcs⟩ := H.out.cells (by omega)
    obtain ⟨rfl, rfl⟩ : a = some ⟨b, o, none⟩ ∧ cap = c := by injection hv with e1 e2 e3; exact ⟨e1, e3⟩
    obtain ⟨y, d0, d1, hy⟩ := hcs k hk
    obtain ⟨xa, xc, rfl⟩ := hy.len
    have hfl := Hr.out _ (List.getElem_mem hk)
    have Hy := Lib.hid hy
    clear hcs hv hy hin He
    generalize r[k] = m at d0 d1 hfl Hy
    obtain ⟨id, fs⟩ := m
    simp only at d0 d1 hfl Hy
    go_enter Tryz.func102, Tryz.ntmps102
    go_wp2_with fail
    refine (sIn_yes _ 0 _ _ Hin.out).mono ?_
    rintro e w1 ⟨rfl, rfl⟩
    go_wp2_with fail
    obtain ⟨R, hR⟩ : ∃ R, fieldIn fs x = R := ⟨_, rfl⟩
    have HR := Lib.hid hR
    have hl2 : Below w.heap.size w ((w.alloc (.cells #[.slice (some ⟨b, o, none⟩) r.length cap] 26)).alloc (.cells #[.int .i64 0, .int .i64 0, .bool false, .bool false, .int .i64 0] 117)) := ((Below.refl _ _).alloc (Nat.le_refl _) _).alloc (by simp) _
    have hx2 : Box ((w.alloc (.cells #[.slice (some ⟨b, o, none⟩) r.length cap] 26)).alloc (.cells #[.int .i64 0, .int .i64 0, .bool false, .bool false, .int .i64 0] 117)) (w.heap.size + 1) (fieldC zeroF) := by
      have h := Box.fresh (w.alloc (.cells #[.slice (some ⟨b, o, none⟩) r.length cap] 26)) #[.int .i64 0, .int .i64 0, .bool false, .bool false, .int .i64 0] 117
      rwa [show (w.alloc (.cells #[.slice (some ⟨b, o, none⟩) r.length cap] 26)).heap.size = w.heap.size + 1 by simp] at h
    generalize (w.alloc (.cells #[.slice (some ⟨b, o, none⟩) r.length cap] 26)).alloc (.cells #[.int .i64 0, .int .i64 0, .bool false, .bool false, .int .i64 0] 117) = w2 at hl2 hx2 ⊢
    clear d0 d1 hR
    go_loopw [9] (fun i wr => ∃ k : Nat, k ≤ fs.length ∧ i = .int .i64 k ∧ Hid (∀ j (hj : j < fs.length), j < k → fs[j].1 ≠ x) ∧ Hid (Box wr (w.heap.size + 1) (fieldC zeroF)) ∧ Below w.heap.size w wr) (fun i _ => fs.length - (intOf i).toNat)
    case atStart => exact ⟨0, by omega, rfl, Lib.hid fun j _ hj => by omega, Lib.hid hx2, hl2⟩
    case round =>
      clear hl2 hx2
      obtain ⟨q, hq, rfl, hno, hbx, hbr⟩ := hrel
      obtain ⟨⟨f0, f1, f2, f3, f4⟩, g0, g1, g2, g3, g4⟩ := Box.five hbx.out
      by_cases hlt : q < fs.length
      · have hlti : (q : Int) < (fs.length : Int) := by omega
        obtain ⟨fb, fo, fc, fv, fbC, fcs⟩ := Hy.out.cells (by omega)
        obtain ⟨rfl, rfl⟩ : xa = some ⟨fb, fo, none⟩ ∧ xc = fc := by injection fv with e1 e2 e3; exact ⟨e1, e3⟩
        obtain ⟨x0, x1, x2, x3, x4⟩ := fcs q hlt
        clear fcs fv
        rw [← hbr.cell (p := ⟨fb, _, none⟩) fbC] at x0 x1 x2 x3 x4
        by_cases he : fs[q].1 = x
        · have Hy := Lib.hid (fieldIn_yes hlt he hno.out)
          have He := Lib.hid he
          clear hno he
          generalize fs[q] = g at x0 x1 x2 x3 x4 Hy He
          obtain ⟨A1, A2, A3, A4, A5⟩ := g
          simp only at x0 x1 x2 x3 x4 He
          have e1 : A1 = x := He.out
          have hx6 := hbx.out.set 0 (.int .i64 A1) |>.set 1 (.int .i64 A2) |>.set 2 (.bool A3) |>.set 3 (.bool A4) |>.set 4 (.int .i64 A5)
          obtain ⟨⟨y0, y1, y2, y3, y4⟩, _⟩ := Box.five (a := .int .i64 A1) (b := .int .i64 A2) (c := .bool A3) (d := .bool A4) (e := .int .i64 A5) hx6
          subst e1
          go_wp2_with fail
          refine bodyPost_ret (v := .tuple #[.agg #[.int .i64 A1, .int .i64 A2, .bool A3, .bool A4, .int .i64 A5], .bool true]) (by simp [results, Tryz.results102, go_sem, y0, y1, y2, y3, y4]) rfl ?_
          refine ⟨by rw [Hy.out]; rfl, ?_⟩
          repeat (first | exact hbr | refine Below.setCell ?_ (by simp) _)
        · have hb := neS he
          have Hn : Hid (∀ j (hj : j < fs.length), j < q + 1 → fs[j].1 ≠ x) := Lib.hid fun j hj hjk => by
            by_cases e : j = q
            · subst e; exact he
            · exact hno.out j hj (by omega)
          generalize fs[q].1 = y at x0 hb
          clear he hno x1 x2 x3 x4
          go_wp2_with fail
          go_roundw
          case rel => exact ⟨q + 1, by omega, by go_num, Hn, hbx, hbr⟩
          case measure => simp [intOf]; omega
      · have hge : (fs.length : Int) ≤ (q : Int) := by omega
        have hend : decide (q < fs.length) = false := decide_eq_false hlt
        have Hf := Lib.hid (fieldIn_no fun j hj => hno.out j hj (by omega))
        have hx6 := hbx.out.set 0 (.int .i64 0) |>.set 1 (.int .i64 0) |>.set 2 (.bool false) |>.set 3 (.bool false) |>.set 4 (.int .i64 0)
        obtain ⟨⟨y0, y1, y2, y3, y4⟩, _⟩ := Box.five (a := .int .i64 0) (b := .int .i64 0) (c := .bool false) (d := .bool false) (e := .int .i64 0) hx6
        go_wp2_with fail
        refine bodyPost_ret (v := .tuple #[.agg #[.int .i64 0, .int .i64 0, .bool false, .bool false, .int .i64 0], .bool false]) (by simp [results, Tryz.results102, go_sem, y0, y1, y2, y3, y4]) rfl ?_
        refine ⟨by rw [Hf.out]; rfl, ?_⟩
        repeat (first | exact hbr | refine Below.setCell ?_ (by simp) _)
  · rw [fieldAt_out hin]
    have H1 := Lib.hid hin
    clear hin
    go_enter Tryz.func102, Tryz.ntmps102
    go_wp2_with fail
    refine (sIn_no _ 0 _ _ H1.out).mono ?_
    rintro e w1 ⟨rfl, rfl⟩
    go_wp2_with fail
    refine bodyPost_ret (v := .tuple #[.agg #[.int .i64 0, .int .i64 0, .bool false, .bool false, .int .i64 0], .bool false]) (by simp [results, Tryz.results102, go_sem]) rfl ?_
    refine ⟨rfl, ?_⟩
    repeat (first | exact Below.refl _ _ | refine Below.setCell ?_ (by simp) _ | refine Below.alloc ?_ (by first | omega | (simp <;> omega)) _)
end Go.Proofs.YtpkofbdfnbpfpaaGreat.Num


/-
  The walks of the reference's l8FieldOk and SchemaOk: they give what the plain definitions here say; only new memory is written.
-/
namespace Go.Proofs.YtpkofbdfnbpfpaaGreat.Num
open Go.RowKit Go.Proofs
set_option linter.unusedVariables false
set_option linter.unusedSimpArgs false

def fieldOkB (n : Nat) (f : RF) : Bool :=
  if numOkB f.1 = false then false else if ¬ (1 ≤ f.2.1 ∧ f.2.1 ≤ 8) then false
  else if f.2.2.2.1 = true ∧ (f.2.2.1 = false ∨ numericB f.2.1 = false) then false
  else if f.2.1 = 8 then decide (0 ≤ f.2.2.2.2 ∧ f.2.2.2.2 ≤ (n : Int) - 1) else f.2.2.2.2 == -1
def fieldGood (n : Nat) (l : List RF) (k : Nat) (f : RF) : Prop := fieldOkB n f = true ∧ ∀ p (hp : p < l.length), p + 1 = k → l[p].1 < f.1
def shapeGood (s : List RM) (i : Nat) (m : RM) : Prop := (1 ≤ m.1 ∧ m.1 ≤ 99) ∧ (∀ p (hp : p < s.length), p + 1 = i → s[p].1 < m.1) ∧ m.2.length ≤ 8 ∧ ∀ k (hk : k < m.2.length), fieldGood s.length m.2 k m.2[k]
def SchemaP (s : List RM) : Prop := s.length ≤ 6 ∧ ∀ i (hi : i < s.length), shapeGood s i s[i]
noncomputable def schemaB (s : List RM) : Bool := @decide (SchemaP s) (Classical.propDecidable _)
theorem schema_yes {s : List RM} (h : SchemaP s) : schemaB s = true := by unfold schemaB; exact @decide_eq_true _ (Classical.propDecidable _) h
theorem schema_no {s : List RM} (h : ¬ SchemaP s) : schemaB s = false := by unfold schemaB; exact @decide_eq_false _ (Classical.propDecidable _) h
set_option maxHeartbeats 2000000 in
theorem specFieldOk_any (a : Option Addr) (n cap : Nat) (f : RF) (w : World) (hn : n ≤ 1048576) :
    Calls Tryz.prog 108 #[.agg #[.slice a n cap], fieldV f] w fun e w' => e = .returned (.bool (fieldOkB n f)) ∧ Below w.heap.size w w' := by
  obtain ⟨A1, A2, A3, A4, A5⟩ := f
  unfold fieldV fieldOkB
  simp only
  have hw1 : IntKind.i64.wrap ((n : Int) - 1) = (n : Int) - 1 := IntWalk.i64_in _ (by omega)
  have hl : Below w.heap.size w ((w.alloc (.cells #[.slice a n cap] 26)).alloc (.cells #[.int .i64 A1, .int .i64 A2, .bool A3, .bool A4, .int .i64 A5] 117)) := ((Below.refl _ _).alloc (Nat.le_refl _) _).alloc (by simp) _
  obtain ⟨R, hR⟩ : ∃ R, numOkB A1 = R := ⟨_, rfl⟩
  have Hnum := Lib.hid (specNumberOk_any A1)
  rw [hR] at Hnum ⊢
  clear hR
  cases R with
  | false =>
    rw [if_pos rfl]
    go_enter Tryz.func108, Tryz.ntmps108
    go_wp2_with fail
    refine (Hnum.out _).mono ?_
    rintro e w1 ⟨rfl, rfl⟩
    go_wp2_with fail
    go_ret
    exact ⟨rfl, hl⟩
  | true =>
    rw [if_neg (by decide)]
    by_cases hkind : 1 ≤ A2 ∧ A2 ≤ 8
    · rw [if_neg (by simpa using hkind)]
      have Hkind := Lib.hid hkind
      clear hkind
      obtain ⟨Nm, hNm⟩ : ∃ Nm, numericB A2 = Nm := ⟨_, rfl⟩
      have Hnm := Lib.hid (specNumeric_any A2)
      rw [hNm] at Hnm ⊢
      clear hNm
      by_cases h8 : A2 = 8
      · rw [if_pos h8]
        have HIn := Lib.hid (specIn_any A5 0 ((n : Int) - 1))
        obtain ⟨Q, hQ⟩ : ∃ Q, decide (0 ≤ A5 ∧ A5 ≤ (n : Int) - 1) = Q := ⟨_, rfl⟩
        rw [hQ] at HIn ⊢
        have h8b : (A2 == 8) = true := by rw [beq_iff_eq]; exact h8
        clear hQ h8
        cases A4 <;> cases A3 <;> cases Nm <;> simp only [reduceCtorEq, or_true, true_or, or_self, and_self, and_true, and_false, if_true, if_false, reduceIte]
        all_goals
          go_enter Tryz.func108, Tryz.ntmps108
          go_wp2_with (first
            | (go_at_call 144; refine (Hnum.out _).mono ?_; rintro e w1 ⟨rfl, rfl⟩)
            | (go_at_call 139; refine (specKind_yes A2 _ Hkind.out).mono ?_; rintro e w1 ⟨rfl, rfl⟩)
            | (go_at_call 145; refine (Hnm.out _).mono ?_; rintro e w1 ⟨rfl, rfl⟩)
            | (go_at_call 65; refine (HIn.out _).mono ?_; rintro e w1 ⟨rfl, rfl⟩)
            | go_in)
          go_ret
          exact ⟨rfl, hl⟩
      · rw [if_neg h8]
        have h8b := neS h8
        obtain ⟨Q, hQ⟩ : ∃ Q, (A5 == -1) = Q := ⟨_, rfl⟩
        rw [hQ]
        clear h8
        cases A4 <;> cases A3 <;> cases Nm <;> simp only [reduceCtorEq, or_true, true_or, or_self, and_self, and_true, and_false, if_true, if_false, reduceIte]
        all_goals
          go_enter Tryz.func108, Tryz.ntmps108
          go_wp2_with (first
            | (go_at_call 144; refine (Hnum.out _).mono ?_; rintro e w1 ⟨rfl, rfl⟩)
            | (go_at_call 139; refine (specKind_yes A2 _ Hkind.out).mono ?_; rintro e w1 ⟨rfl, rfl⟩)
            | (go_at_call 145; refine (Hnm.out _).mono ?_; rintro e w1 ⟨rfl, rfl⟩)
            | go_in)
          go_ret
          exact ⟨rfl, hl⟩
    · rw [if_pos hkind]
      have Hkind := Lib.hid hkind
      clear hkind
      go_enter Tryz.func108, Tryz.ntmps108
      go_wp2_with fail
      refine (Hnum.out _).mono ?_
      rintro e w1 ⟨rfl, rfl⟩
      go_wp2_with fail
      refine (specKind_no A2 _ Hkind.out).mono ?_
      rintro e w1 ⟨rfl, rfl⟩
      go_wp2_with fail
      go_ret
      exact ⟨rfl, hl⟩
/-- What region 7 tells: the shape's own part is bad. -/
def headBad (r : List RM) (k : Nat) (id : Int) (n : Nat) : Prop := ¬ ((1 ≤ id ∧ id ≤ 99) ∧ (∀ p (hp : p < r.length), p + 1 = k → r[p].1 < id) ∧ n ≤ 8)
noncomputable def headB (r : List RM) (k : Nat) (id : Int) (n : Nat) : Bool := @decide (headBad r k id n) (Classical.propDecidable _)
theorem headB_yes {r : List RM} {k : Nat} {id : Int} {n : Nat} (h : headBad r k id n) : headB r k id n = true := by unfold headB; exact @decide_eq_true _ (Classical.propDecidable _) h
theorem headB_no {r : List RM} {k : Nat} {id : Int} {n : Nat} (h : ¬ headBad r k id n) : headB r k id n = false := by unfold headB; exact @decide_eq_false _ (Classical.propDecidable _) h
theorem headB_of {r : List RM} {k : Nat} {id : Int} {n : Nat} (h : headB r k id n = false) : ¬ headBad r k id n := fun h' => by rw [headB_yes h'] at h; cases h
theorem flip_same {P : Program} {f : FuncId} {args : Array Value} {w : World} {v : Value} (h : Calls P f args w fun e w' => e = .returned v ∧ w = w') : Calls P f args w fun e w' => e = .returned v ∧ w' = w := h.mono fun _ _ ⟨he, hw⟩ => ⟨he, hw.symm⟩
/-- The cells that region 12 reads: the shape's list, the schema, the field. -/
def FS (g z fb off : Nat) (xs ss : Value) (f : RF) (w' : World) : Prop := w'.cell? ⟨g, 1, none⟩ = some xs ∧ w'.cell? ⟨z, 0, none⟩ = some ss ∧ w'.cell? ⟨fb, off, none⟩ = some (.int .i64 f.1) ∧ w'.cell? ⟨fb, off + 1, none⟩ = some (.int .i64 f.2.1) ∧ w'.cell? ⟨fb, off + 2, none⟩ = some (.bool f.2.2.1) ∧ w'.cell? ⟨fb, off + 3, none⟩ = some (.bool f.2.2.2.1) ∧ w'.cell? ⟨fb, off + 4, none⟩ = some (.int .i64 f.2.2.2.2)
theorem FS.below {g z fb off B : Nat} {xs ss : Value} {f : RF} {w w' : World} (h : FS g z fb off xs ss f w) (hb : Below B w w') (h1 : g < B) (h2 : z < B) (h3 : fb < B) : FS g z fb off xs ss f w' := by
  obtain ⟨a, b, c, d, e, i, j⟩ := h
  exact ⟨(hb.cell (p := ⟨g, 1, none⟩) h1).trans a, (hb.cell (p := ⟨z, 0, none⟩) h2).trans b, (hb.cell (p := ⟨fb, _, none⟩) h3).trans c, (hb.cell (p := ⟨fb, _, none⟩) h3).trans d, (hb.cell (p := ⟨fb, _, none⟩) h3).trans e, (hb.cell (p := ⟨fb, _, none⟩) h3).trans i, (hb.cell (p := ⟨fb, _, none⟩) h3).trans j⟩
def FS2 (g z fb off o2 : Nat) (xs ss : Value) (f : RF) (n : Int) (w' : World) : Prop := w'.cell? ⟨fb, o2, none⟩ = some (.int .i64 n) ∧ FS g z fb off xs ss f w'
theorem FS2.below {g z fb off o2 B : Nat} {xs ss : Value} {f : RF} {n : Int} {w w' : World} (h : FS2 g z fb off o2 xs ss f n w) (hb : Below B w w') (h1 : g < B) (h2 : z < B) (h3 : fb < B) : FS2 g z fb off o2 xs ss f n w' :=
  ⟨(hb.cell (p := ⟨fb, _, none⟩) h3).trans h.1, h.2.below hb h1 h2 h3⟩
noncomputable def fgB (n : Nat) (l : List RF) (k : Nat) (f : RF) : Bool := @decide (¬ fieldGood n l k f) (Classical.propDecidable _)
theorem fgB_yes {n : Nat} {l : List RF} {k : Nat} {f : RF} (h : ¬ fieldGood n l k f) : fgB n l k f = true := by unfold fgB; exact @decide_eq_true _ (Classical.propDecidable _) h
theorem fgB_no {n : Nat} {l : List RF} {k : Nat} {f : RF} (h : fieldGood n l k f) : fgB n l k f = false := by unfold fgB; exact @decide_eq_false _ (Classical.propDecidable _) (fun h' => h' h)
theorem fgB_of {n : Nat} {l : List RF} {k : Nat} {f : RF} (h : fgB n l k f = false) : fieldGood n l k f := Classical.not_not.1 fun h' => by rw [fgB_yes h'] at h; cases h
attribute [local go_sem] Region.wanted yielded
set_option maxHeartbeats 8000000 in
set_option maxRecDepth 100000 in
theorem specSchemaOk_any (v : Value) (r : List RM) (w : World) (h : RawAt w (· < w.heap.size) v r) (hr : Small r) :
    Calls Tryz.prog 68 #[v] w fun e w' => e = .returned (.bool (schemaB r)) ∧ Below w.heap.size w w' := by
  obtain ⟨R, hR⟩ : ∃ R, schemaB r = R := ⟨_, rfl⟩
  rw [hR]
  have tell : Hid ((SchemaP r → R = true) ∧ (¬ SchemaP r → R = false)) := Lib.hid ⟨fun h => by rw [← hR]; exact schema_yes h, fun h => by rw [← hR]; exact schema_no h⟩
  clear hR
  obtain ⟨u, rfl, hu⟩ := h
  obtain ⟨a, cap, rfl⟩ := hu.len
  have H := Lib.hid hu
  have Hr := Lib.hid hr.2
  have hr1 := hr.1
  clear hu hr
  by_cases h6 : 6 < r.length
  · obtain rfl : R = false := tell.out.2 fun h => by have := h.1; omega
    have h6i : (6 : Int) < (r.length : Int) := by omega
    go_enter Tryz.func68, Tryz.ntmps68
    go_wp2_with fail
    go_ret
    exact ⟨rfl, (Below.refl _ _).alloc (Nat.le_refl _) _⟩
  · have h6i : decide ((6 : Int) < (r.length : Int)) = false := decide_eq_false (by omega)
    have h6n : decide (6 < r.length) = false := decide_eq_false h6
    have h66 : r.length ≤ 6 := by omega
    clear h6
    go_enter Tryz.func68, Tryz.ntmps68
    go_wp2_with fail
    go_loopw [3] (fun i wr => ∃ k : Nat, k ≤ r.length ∧ i = .int .i64 k ∧ Hid (∀ j (hj : j < r.length), j < k → shapeGood r j r[j]) ∧ Hid (Box wr w.heap.size [.slice a r.length cap]) ∧ Below w.heap.size w wr) (fun i _ => r.length - (intOf i).toNat)
    case atStart => exact ⟨0, by omega, rfl, Lib.hid fun j _ hj => by omega, Lib.hid (Box.fresh _ _ _), (Below.refl _ _).alloc (Nat.le_refl _) _⟩
    case round =>
      obtain ⟨k, hk, rfl, hgood, hbx, hbr⟩ := hrel
      obtain ⟨c0, f0⟩ := hbx.out.one
      by_cases hlt : k < r.length
      · have hlti : (k : Int) < (r.length : Int) := by omega
        obtain ⟨b, o, c, hv, hbC, hcs⟩ := H.out.cells (by omega)
        obtain ⟨rfl, rfl⟩ : a = some ⟨b, o, none⟩ ∧ cap = c := by injection hv with e1 e2 e3; exact ⟨e1, e3⟩
        have Hcs := Lib.hid hcs
        obtain ⟨x, d0, d1, hx⟩ := hcs k hlt
        obtain ⟨xa, xc, rfl⟩ := hx.len
        have hfl := Hr.out _ (List.getElem_mem hlt)
        have Hx := Lib.hid hx
        have Hbad : Hid (¬ shapeGood r k r[k] → R = false) := Lib.hid fun h => tell.out.2 fun hs => h (hs.2 k hlt)
        have Hnext : Hid (shapeGood r k r[k] → ∀ j (hj : j < r.length), j < k + 1 → shapeGood r j r[j]) := Lib.hid fun h j hj hjk => by
          by_cases e : j = k
          · subst e; exact h
          · exact hgood.out j hj (by omega)
        clear hcs hv hx hgood
        rw [← hbr.cell (p := ⟨b, _, none⟩) hbC] at d0 d1
        have hbw : b < wr.heap.size := Nat.lt_of_lt_of_le hbC hbr.size
        generalize r[k] = m at d0 d1 hfl Hx Hbad Hnext
        obtain ⟨id, fs⟩ := m
        simp only at d0 d1 hfl Hx Hbad Hnext
        go_upto_region 7 with fail
        have hyq := Box.fresh wr #[.int .i64 id, .slice xa fs.length xc] 113
        have hbq : Below w.heap.size w (wr.alloc (.cells #[.int .i64 id, .slice xa fs.length xc] 113)) := hbr.alloc hbr.size _
        have hsq := hbx.out.alloc (.cells #[.int .i64 id, .slice xa fs.length xc] 113)
        clear d0 d1 c0 f0 hbx hbr hbw
        generalize wr.alloc (.cells #[.int .i64 id, .slice xa fs.length xc] 113) = wq at hyq hbq hsq ⊢
        generalize wr.heap.size = g at hyq ⊢
        have HYq := Lib.hid hyq
        have HSq := Lib.hid hsq
        clear hyq hsq
        obtain ⟨B, hB⟩ : ∃ B, headB r k id fs.length = B := ⟨_, rfl⟩
        have HB := Lib.hid hB
        clear hB
        go_cut [47] from 22 to 47 (fun s47 wx => s47 = .bool B ∧ Hid (Box wx g [.int .i64 id, .slice xa fs.length xc]) ∧ Hid (Box wx w.heap.size [.slice (some ⟨b, o, none⟩) r.length cap]) ∧ Below w.heap.size w wx)
        case first =>
          obtain ⟨y0, y1, _⟩ := HYq.out.two
          obtain ⟨c0, _⟩ := HSq.out.one
          by_cases hid : 1 ≤ id ∧ id ≤ 99
          · have HIn := Lib.hid hid
            obtain ⟨Q, hQ⟩ : ∃ Q, decide (8 < fs.length) = Q := ⟨_, rfl⟩
            have hQi : decide ((8 : Int) < (fs.length : Int)) = Q := by rw [← hQ]; exact decide_eq_decide.2 (by omega)
            by_cases hk0 : k = 0
            · subst hk0
              have HQ : Hid (Q = B) := Lib.hid (by
                rw [← HB.out, ← hQ]
                by_cases h : 8 < fs.length
                · rw [decide_eq_true h, headB_yes (fun h' => by have := h'.2.2; omega)]
                · rw [decide_eq_false h, headB_no (fun h' => h' ⟨hid, fun p _ hp => by omega, by omega⟩)])
              clear hQ hid
              go_quiet ((go_at_call 65; exact Calls.quiet_of_same (flip_same (sIn_yes id 1 99 _ HIn.out))))
              go_wp2_with fail
              go_meet
              exact ⟨by rw [HQ.out], Lib.hid (HYq.out.drewN _), Lib.hid (HSq.out.drewN _), below_drewN hbq _⟩
            · obtain ⟨p, rfl⟩ : ∃ p, k = p + 1 := ⟨k - 1, by omega⟩
              have hpr : p < r.length := by omega
              obtain ⟨px, e0, _, _⟩ := Hcs.out p hpr
              rw [← hbq.cell (p := ⟨b, _, none⟩) hbC] at e0
              have hpi : (p : Int) < (r.length : Int) := by omega
              have hw1 : IntKind.i64.wrap ((p : Int) + 1 - 1) = (p : Int) := by rw [show (p : Int) + 1 - 1 = (p : Int) by omega]; exact IntWalk.i64_in _ (by omega)
              have hw2 : IntKind.i64.wrap (p : Int) = (p : Int) := IntWalk.i64_in _ (by omega)
              have hw3 : ((p + 1 : Nat) : Int) - 1 = (p : Int) := by omega
              have hp0 : (0 : Int) < (p : Int) + 1 := by omega
              have Hp : Hid (headBad r (p + 1) id fs.length ↔ (id ≤ r[p].1 ∨ 8 < fs.length)) := Lib.hid ⟨fun h => by
                rcases Nat.lt_or_ge 8 fs.length with h8 | h8
                · exact .inr h8
                · rcases Int.lt_or_le r[p].1 id with h9 | h9
                  · exact absurd ⟨hid, fun p' hp' e => by (obtain rfl : p' = p := by omega); exact h9, h8⟩ h
                  · exact .inl h9, fun h h' => by
                rcases h with h | h
                · have := h'.2.1 p hpr rfl; omega
                · have := h'.2.2; omega⟩
              generalize r[p].1 = pid at e0 Hp
              by_cases hle : id ≤ pid
              · have hd : decide (id ≤ pid) = true := decide_eq_true hle
                have HQ : Hid (true = B) := Lib.hid (by rw [← HB.out, headB_yes (Hp.out.2 (.inl hle))])
                clear hQ hid hle hk0
                go_quiet ((go_at_call 65; exact Calls.quiet_of_same (flip_same (sIn_yes id 1 99 _ HIn.out))))
                go_wp2_with fail
                go_meet
                exact ⟨by rw [HQ.out], Lib.hid (HYq.out.drewN _), Lib.hid (HSq.out.drewN _), below_drewN hbq _⟩
              · have hd : decide (id ≤ pid) = false := decide_eq_false hle
                have HQ : Hid (Q = B) := Lib.hid (by
                  rw [← HB.out, ← hQ]
                  by_cases h : 8 < fs.length
                  · rw [decide_eq_true h, headB_yes (Hp.out.2 (.inr h))]
                  · rw [decide_eq_false h, headB_no (fun h' => by rcases Hp.out.1 h' with h1 | h1; exact hle h1; exact h h1)])
                clear hQ hid hle hk0
                go_quiet ((go_at_call 65; exact Calls.quiet_of_same (flip_same (sIn_yes id 1 99 _ HIn.out))))
                go_wp2_with fail
                go_meet
                exact ⟨by rw [HQ.out], Lib.hid (HYq.out.drewN _), Lib.hid (HSq.out.drewN _), below_drewN hbq _⟩
          · have HIn := Lib.hid hid
            have HQ : Hid (true = B) := Lib.hid (by rw [← HB.out, headB_yes (fun h => hid h.1)])
            clear hid
            go_quiet ((go_at_call 65; exact Calls.quiet_of_same (flip_same (sIn_no id 1 99 _ HIn.out))))
            go_wp2_with fail
            go_meet
            exact ⟨by rw [HQ.out], Lib.hid (HYq.out.drewN _), Lib.hid (HSq.out.drewN _), below_drewN hbq _⟩
        case rest =>
          obtain ⟨rfl, HY, HS, hl⟩ := hcut
          clear HYq HSq hbq
          obtain ⟨y0, y1, _⟩ := HY.out.two
          obtain ⟨c0, _⟩ := HS.out.one
          cases B with
          | true =>
            obtain rfl : R = false := Hbad.out fun hg => by
              have hb : ¬ headBad r k id fs.length := fun h => h ⟨hg.1, hg.2.1, hg.2.2.1⟩
              have := HB.out
              rw [headB_no hb] at this; cases this
            go_wp2_with fail
            go_ret
            exact ⟨rfl, hl⟩
          | false =>
            have Hhead : Hid ((1 ≤ id ∧ id ≤ 99) ∧ (∀ p (hp : p < r.length), p + 1 = k → r[p].1 < id) ∧ fs.length ≤ 8) := Lib.hid (by
              have h := headB_of HB.out
              unfold headBad at h
              exact Classical.not_not.1 h)
            go_wp2_with fail
            go_loopw [5] (fun i wz => ∃ q : Nat, q ≤ fs.length ∧ i = .int .i64 q ∧ Hid (∀ t (ht : t < fs.length), t < q → fieldGood r.length fs t fs[t]) ∧ Hid (Box wz g [.int .i64 id, .slice xa fs.length xc]) ∧ Hid (Box wz w.heap.size [.slice (some ⟨b, o, none⟩) r.length cap]) ∧ Below w.heap.size w wz) (fun i _ => fs.length - (intOf i).toNat)
            case atStart => exact ⟨0, by omega, rfl, Lib.hid fun t _ ht => by omega, HY, HS, hl⟩
            case round =>
              clear HY HS hl y0 y1 c0
              obtain ⟨q, hq, rfl, hgoodf, HY, HS, hl⟩ := hrel
              obtain ⟨y0, y1, _⟩ := HY.out.two
              obtain ⟨c0, _⟩ := HS.out.one
              by_cases hqn : q < fs.length
              · have hqi : (q : Int) < (fs.length : Int) := by omega
                obtain ⟨fb, fo, fc, fv, fbC, fcs⟩ := Hx.out.cells (by omega)
                obtain ⟨rfl, rfl⟩ : xa = some ⟨fb, fo, none⟩ ∧ xc = fc := by injection fv with e1 e2 e3; exact ⟨e1, e3⟩
                have Hfcs := Lib.hid fcs
                obtain ⟨x0, x1, x2, x3, x4⟩ := fcs q hqn
                clear fcs fv
                rw [← hl.cell (p := ⟨fb, _, none⟩) fbC] at x0 x1 x2 x3 x4
                have Hbadf : Hid (¬ fieldGood r.length fs q fs[q] → R = false) := Lib.hid fun h => Hbad.out fun hg => h (hg.2.2.2 q hqn)
                have Hnextf : Hid (fieldGood r.length fs q fs[q] → ∀ t (ht : t < fs.length), t < q + 1 → fieldGood r.length fs t fs[t]) := Lib.hid fun h t ht htq => by
                  by_cases e : t = q
                  · subst e; exact h
                  · exact hgoodf.out t ht (by omega)
                clear hgoodf
                generalize fs[q] = f at x0 x1 x2 x3 x4 Hbadf Hnextf
                obtain ⟨A1, A2, A3, A4, A5⟩ := f
                simp only at x0 x1 x2 x3 x4
                go_upto_region 12 with fail
                obtain ⟨F, hF⟩ : ∃ F, fieldOkB r.length (A1, A2, A3, A4, A5) = F := ⟨_, rfl⟩
                obtain ⟨G, hG⟩ : ∃ G, fgB r.length fs q (A1, A2, A3, A4, A5) = G := ⟨_, rfl⟩
                have HF := Lib.hid hF
                have HG := Lib.hid hG
                have HC := Lib.hid (specFieldOk_any (some ⟨b, o, none⟩) r.length cap (A1, A2, A3, A4, A5))
                unfold fieldV at HC
                rw [hF] at HC
                simp only at HC
                clear hF hG
                have hzw : w.heap.size < wr.heap.size := HS.out.lt
                have hgw : g < wr.heap.size := HY.out.lt
                have hfw : fb < wr.heap.size := Nat.lt_of_lt_of_le fbC hl.size
                go_cut [82] from 55 to 82 (fun s82 wx => s82 = .bool G ∧ Hid (Box wx g [.int .i64 id, .slice (some ⟨fb, fo, none⟩) fs.length xc]) ∧ Hid (Box wx w.heap.size [.slice (some ⟨b, o, none⟩) r.length cap]) ∧ Below w.heap.size w wx)
                case first =>
                  cases F with
                  | false =>
                    have HQ : Hid (true = G) := Lib.hid (by rw [← HG.out, fgB_yes (fun h => by rw [h.1] at HF; exact absurd HF.out (by decide))])
                    refine wp_region_held_drew (S := FS g w.heap.size fb (fo + q * 5) (.slice (some ⟨fb, fo, none⟩) fs.length xc) (.slice (some ⟨b, o, none⟩) r.length cap) (A1, A2, A3, A4, A5)) (by kernel_rfl) ⟨y1, c0, x0, x1, x2, x3, x4⟩ ?_
                    intro hH
                    refine wpAnyH_take (i := 0) (v := .agg #[.slice (some ⟨b, o, none⟩) r.length cap]) rfl (by kernel_rfl) (by kernel_rfl) (by kernel_rfl) (fun _ _ _ h => h) (Or.inl ⟨by kernel_rfl, ?_⟩) hH ?_
                    · (intro wv hSw; (try simp only [FS, FS2] at hSw); (try unfold SS at hSw); (try unfold SR at hSw); go_split_ands; go_simp)
                    try simp only [List.getElem_toArray, List.getElem_cons_succ, List.getElem_cons_zero, Act.put, List.setIfInBounds_toArray, List.set_cons_zero, List.set_cons_succ]
                    refine wpAnyH_take (i := 1) (v := .pointer (some ⟨g, 1, none⟩)) rfl (by kernel_rfl) (by kernel_rfl) (by kernel_rfl) (fun _ _ _ h => h) (Or.inl ⟨by kernel_rfl, ?_⟩) hH ?_
                    · (intro wv hSw; (try simp only [FS, FS2] at hSw); (try unfold SS at hSw); (try unfold SR at hSw); go_split_ands; go_simp)
                    try simp only [List.getElem_toArray, List.getElem_cons_succ, List.getElem_cons_zero, Act.put, List.setIfInBounds_toArray, List.set_cons_zero, List.set_cons_succ]
                    refine wpAnyH_take (i := 2) (v := .slice (some ⟨fb, fo, none⟩) fs.length xc) rfl (by kernel_rfl) (by kernel_rfl) (by kernel_rfl) (fun _ _ _ h => h) (Or.inl ⟨by kernel_rfl, ?_⟩) hH ?_
                    · (intro wv hSw; (try simp only [FS, FS2] at hSw); (try unfold SS at hSw); (try unfold SR at hSw); go_split_ands; go_simp)
                    try simp only [List.getElem_toArray, List.getElem_cons_succ, List.getElem_cons_zero, Act.put, List.setIfInBounds_toArray, List.set_cons_zero, List.set_cons_succ]
                    refine wpAnyH_take (i := 3) (v := .int .i64 (q : Nat)) rfl (by kernel_rfl) (by kernel_rfl) (by kernel_rfl) (fun _ _ _ h => h) (Or.inl ⟨by kernel_rfl, ?_⟩) hH ?_
                    · (intro wv hSw; (try simp only [FS, FS2] at hSw); (try unfold SS at hSw); (try unfold SR at hSw); go_split_ands; go_simp)
                    try simp only [List.getElem_toArray, List.getElem_cons_succ, List.getElem_cons_zero, Act.put, List.setIfInBounds_toArray, List.set_cons_zero, List.set_cons_succ]
                    refine wpAnyH_take (i := 4) (v := .pointer (some ⟨fb, fo + q * 5, none⟩)) rfl (by kernel_rfl) (by kernel_rfl) (by kernel_rfl) (fun _ _ _ h => h) (Or.inl ⟨by kernel_rfl, ?_⟩) hH ?_
                    · (intro wv hSw; (try simp only [FS, FS2] at hSw); (try unfold SS at hSw); (try unfold SR at hSw); go_split_ands; go_simp)
                    try simp only [List.getElem_toArray, List.getElem_cons_succ, List.getElem_cons_zero, Act.put, List.setIfInBounds_toArray, List.set_cons_zero, List.set_cons_succ]
                    refine wpAnyH_take (i := 5) (v := .agg #[.int .i64 A1, .int .i64 A2, .bool A3, .bool A4, .int .i64 A5]) rfl (by kernel_rfl) (by kernel_rfl) (by kernel_rfl) (fun _ _ _ h => h) (Or.inl ⟨by kernel_rfl, ?_⟩) hH ?_
                    · (intro wv hSw; (try simp only [FS, FS2] at hSw); (try unfold SS at hSw); (try unfold SR at hSw); go_split_ands; go_simp)
                    try simp only [List.getElem_toArray, List.getElem_cons_succ, List.getElem_cons_zero, Act.put, List.setIfInBounds_toArray, List.set_cons_zero, List.set_cons_succ]
                    refine wpAnyH_ready (rs := [6]) (by kernel_rfl) (by simp) ?_
                    refine AllReadyH.cons rfl (fun K hK => ?_) AllReadyH.nil
                    go_simp
                    go_wp2_with (go_at_call 108; refine (HC.out _ hr1).mono ?_; rintro e w1 ⟨rfl, hb1⟩)
                    refine hK.out _ _ (hH.below hb1 hgw hzw hfw) (fun hH1 => ?_)
                    clear hK K hH
                    have hH := hH1
                    clear hH1
                    try simp only [Act.put, List.setIfInBounds_toArray, List.set_cons_zero, List.set_cons_succ]
                    refine wpAnyH_take (i := 7) (v := .bool true) rfl (by kernel_rfl) (by kernel_rfl) (by kernel_rfl) (fun _ _ _ h => h) (Or.inl ⟨by kernel_rfl, ?_⟩) hH ?_
                    · (intro wv hSw; (try simp only [FS, FS2] at hSw); (try unfold SS at hSw); (try unfold SR at hSw); go_split_ands; go_simp)
                    try simp only [List.getElem_toArray, List.getElem_cons_succ, List.getElem_cons_zero, Act.put, List.setIfInBounds_toArray, List.set_cons_zero, List.set_cons_succ]
                    refine wpAnyH_take (i := 8) (v := .bool true) rfl (by kernel_rfl) (by kernel_rfl) (by kernel_rfl) (fun _ _ _ h => h) (Or.inl ⟨by kernel_rfl, ?_⟩) hH ?_
                    · (intro wv hSw; (try simp only [FS, FS2] at hSw); (try unfold SS at hSw); (try unfold SR at hSw); go_split_ands; go_simp)
                    try simp only [List.getElem_toArray, List.getElem_cons_succ, List.getElem_cons_zero, Act.put, List.setIfInBounds_toArray, List.set_cons_zero, List.set_cons_succ]
                    refine wpAnyH_take (i := 9) (v := undef) rfl (by kernel_rfl) (by kernel_rfl) (by kernel_rfl) (fun _ _ _ h => h) (Or.inr ⟨by kernel_rfl, rfl⟩) hH ?_
                    try simp only [List.getElem_toArray, List.getElem_cons_succ, List.getElem_cons_zero, Act.put, List.setIfInBounds_toArray, List.set_cons_zero, List.set_cons_succ]
                    refine wpAnyH_take (i := 10) (v := undef) rfl (by kernel_rfl) (by kernel_rfl) (by kernel_rfl) (fun _ _ _ h => h) (Or.inr ⟨by kernel_rfl, rfl⟩) hH ?_
                    try simp only [List.getElem_toArray, List.getElem_cons_succ, List.getElem_cons_zero, Act.put, List.setIfInBounds_toArray, List.set_cons_zero, List.set_cons_succ]
                    refine wpAnyH_take (i := 11) (v := undef) rfl (by kernel_rfl) (by kernel_rfl) (by kernel_rfl) (fun _ _ _ h => h) (Or.inr ⟨by kernel_rfl, rfl⟩) hH ?_
                    try simp only [List.getElem_toArray, List.getElem_cons_succ, List.getElem_cons_zero, Act.put, List.setIfInBounds_toArray, List.set_cons_zero, List.set_cons_succ]
                    refine wpAnyH_take (i := 12) (v := undef) rfl (by kernel_rfl) (by kernel_rfl) (by kernel_rfl) (fun _ _ _ h => h) (Or.inr ⟨by kernel_rfl, rfl⟩) hH ?_
                    try simp only [List.getElem_toArray, List.getElem_cons_succ, List.getElem_cons_zero, Act.put, List.setIfInBounds_toArray, List.set_cons_zero, List.set_cons_succ]
                    refine wpAnyH_take (i := 13) (v := undef) rfl (by kernel_rfl) (by kernel_rfl) (by kernel_rfl) (fun _ _ _ h => h) (Or.inr ⟨by kernel_rfl, rfl⟩) hH ?_
                    try simp only [List.getElem_toArray, List.getElem_cons_succ, List.getElem_cons_zero, Act.put, List.setIfInBounds_toArray, List.set_cons_zero, List.set_cons_succ]
                    refine wpAnyH_take (i := 14) (v := undef) rfl (by kernel_rfl) (by kernel_rfl) (by kernel_rfl) (fun _ _ _ h => h) (Or.inr ⟨by kernel_rfl, rfl⟩) hH ?_
                    try simp only [List.getElem_toArray, List.getElem_cons_succ, List.getElem_cons_zero, Act.put, List.setIfInBounds_toArray, List.set_cons_zero, List.set_cons_succ]
                    refine wpAnyH_take (i := 15) (v := undef) rfl (by kernel_rfl) (by kernel_rfl) (by kernel_rfl) (fun _ _ _ h => h) (Or.inr ⟨by kernel_rfl, rfl⟩) hH ?_
                    try simp only [List.getElem_toArray, List.getElem_cons_succ, List.getElem_cons_zero, Act.put, List.setIfInBounds_toArray, List.set_cons_zero, List.set_cons_succ]
                    refine wpAnyH_take (i := 16) (v := undef) rfl (by kernel_rfl) (by kernel_rfl) (by kernel_rfl) (fun _ _ _ h => h) (Or.inr ⟨by kernel_rfl, rfl⟩) hH ?_
                    try simp only [List.getElem_toArray, List.getElem_cons_succ, List.getElem_cons_zero, Act.put, List.setIfInBounds_toArray, List.set_cons_zero, List.set_cons_succ]
                    refine wpAnyH_take (i := 17) (v := undef) rfl (by kernel_rfl) (by kernel_rfl) (by kernel_rfl) (fun _ _ _ h => h) (Or.inr ⟨by kernel_rfl, rfl⟩) hH ?_
                    try simp only [List.getElem_toArray, List.getElem_cons_succ, List.getElem_cons_zero, Act.put, List.setIfInBounds_toArray, List.set_cons_zero, List.set_cons_succ]
                    refine wpAnyH_take (i := 18) (v := undef) rfl (by kernel_rfl) (by kernel_rfl) (by kernel_rfl) (fun _ _ _ h => h) (Or.inr ⟨by kernel_rfl, rfl⟩) hH ?_
                    try simp only [List.getElem_toArray, List.getElem_cons_succ, List.getElem_cons_zero, Act.put, List.setIfInBounds_toArray, List.set_cons_zero, List.set_cons_succ]
                    refine wpAnyH_take (i := 19) (v := undef) rfl (by kernel_rfl) (by kernel_rfl) (by kernel_rfl) (fun _ _ _ h => h) (Or.inr ⟨by kernel_rfl, rfl⟩) hH ?_
                    try simp only [List.getElem_toArray, List.getElem_cons_succ, List.getElem_cons_zero, Act.put, List.setIfInBounds_toArray, List.set_cons_zero, List.set_cons_succ]
                    refine wpAnyH_take (i := 20) (v := undef) rfl (by kernel_rfl) (by kernel_rfl) (by kernel_rfl) (fun _ _ _ h => h) (Or.inr ⟨by kernel_rfl, rfl⟩) hH ?_
                    try simp only [List.getElem_toArray, List.getElem_cons_succ, List.getElem_cons_zero, Act.put, List.setIfInBounds_toArray, List.set_cons_zero, List.set_cons_succ]
                    refine wpAnyH_take (i := 21) (v := undef) rfl (by kernel_rfl) (by kernel_rfl) (by kernel_rfl) (fun _ _ _ h => h) (Or.inr ⟨by kernel_rfl, rfl⟩) hH ?_
                    try simp only [List.getElem_toArray, List.getElem_cons_succ, List.getElem_cons_zero, Act.put, List.setIfInBounds_toArray, List.set_cons_zero, List.set_cons_succ]
                    refine wpAnyH_take (i := 22) (v := undef) rfl (by kernel_rfl) (by kernel_rfl) (by kernel_rfl) (fun _ _ _ h => h) (Or.inr ⟨by kernel_rfl, rfl⟩) hH ?_
                    try simp only [List.getElem_toArray, List.getElem_cons_succ, List.getElem_cons_zero, Act.put, List.setIfInBounds_toArray, List.set_cons_zero, List.set_cons_succ]
                    refine wpAnyH_take (i := 23) (v := undef) rfl (by kernel_rfl) (by kernel_rfl) (by kernel_rfl) (fun _ _ _ h => h) (Or.inr ⟨by kernel_rfl, rfl⟩) hH ?_
                    try simp only [List.getElem_toArray, List.getElem_cons_succ, List.getElem_cons_zero, Act.put, List.setIfInBounds_toArray, List.set_cons_zero, List.set_cons_succ]
                    refine wpAnyH_take (i := 24) (v := undef) rfl (by kernel_rfl) (by kernel_rfl) (by kernel_rfl) (fun _ _ _ h => h) (Or.inr ⟨by kernel_rfl, rfl⟩) hH ?_
                    try simp only [List.getElem_toArray, List.getElem_cons_succ, List.getElem_cons_zero, Act.put, List.setIfInBounds_toArray, List.set_cons_zero, List.set_cons_succ]
                    refine wpAnyH_take (i := 25) (v := undef) rfl (by kernel_rfl) (by kernel_rfl) (by kernel_rfl) (fun _ _ _ h => h) (Or.inr ⟨by kernel_rfl, rfl⟩) hH ?_
                    try simp only [List.getElem_toArray, List.getElem_cons_succ, List.getElem_cons_zero, Act.put, List.setIfInBounds_toArray, List.set_cons_zero, List.set_cons_succ]
                    refine wpAnyH_take (i := 26) (v := undef) rfl (by kernel_rfl) (by kernel_rfl) (by kernel_rfl) (fun _ _ _ h => h) (Or.inr ⟨by kernel_rfl, rfl⟩) hH ?_
                    try simp only [List.getElem_toArray, List.getElem_cons_succ, List.getElem_cons_zero, Act.put, List.setIfInBounds_toArray, List.set_cons_zero, List.set_cons_succ]
                    refine wpAnyH_take (i := 27) (v := .bool true) rfl (by kernel_rfl) (by kernel_rfl) (by kernel_rfl) (fun _ _ _ h => h) (Or.inl ⟨by kernel_rfl, ?_⟩) hH ?_
                    · (intro wv hSw; (try simp only [FS, FS2] at hSw); (try unfold SS at hSw); (try unfold SR at hSw); go_split_ands; go_simp)
                    try simp only [List.getElem_toArray, List.getElem_cons_succ, List.getElem_cons_zero, Act.put, List.setIfInBounds_toArray, List.set_cons_zero, List.set_cons_succ]
                    refine wpAnyH_done (by kernel_rfl) ?_ _
                    go_wp2_with fail
                    go_meet
                    exact ⟨by rw [HQ.out], Lib.hid (HY.out.drew.below hb1 hgw), Lib.hid (HS.out.drew.below hb1 hzw), hl.drew.trans (hb1.mono hl.size)⟩
                  | true =>
                    by_cases hq0 : q = 0
                    · have hd0 : decide ((0 : Int) < (q : Int)) = false := decide_eq_false (by omega)
                      have hd1 : decide (0 < q) = false := decide_eq_false (by omega)
                      have HQ : Hid (false = G) := Lib.hid (by rw [← HG.out, fgB_no ⟨HF.out, fun p _ hp => by omega⟩])
                      clear hq0
                      refine wp_region_held_drew (S := FS g w.heap.size fb (fo + q * 5) (.slice (some ⟨fb, fo, none⟩) fs.length xc) (.slice (some ⟨b, o, none⟩) r.length cap) (A1, A2, A3, A4, A5)) (by kernel_rfl) ⟨y1, c0, x0, x1, x2, x3, x4⟩ ?_
                      intro hH
                      refine wpAnyH_take (i := 0) (v := .agg #[.slice (some ⟨b, o, none⟩) r.length cap]) rfl (by kernel_rfl) (by kernel_rfl) (by kernel_rfl) (fun _ _ _ h => h) (Or.inl ⟨by kernel_rfl, ?_⟩) hH ?_
                      · (intro wv hSw; (try simp only [FS, FS2] at hSw); (try unfold SS at hSw); (try unfold SR at hSw); go_split_ands; go_simp)
                      try simp only [List.getElem_toArray, List.getElem_cons_succ, List.getElem_cons_zero, Act.put, List.setIfInBounds_toArray, List.set_cons_zero, List.set_cons_succ]
                      refine wpAnyH_take (i := 1) (v := .pointer (some ⟨g, 1, none⟩)) rfl (by kernel_rfl) (by kernel_rfl) (by kernel_rfl) (fun _ _ _ h => h) (Or.inl ⟨by kernel_rfl, ?_⟩) hH ?_
                      · (intro wv hSw; (try simp only [FS, FS2] at hSw); (try unfold SS at hSw); (try unfold SR at hSw); go_split_ands; go_simp)
                      try simp only [List.getElem_toArray, List.getElem_cons_succ, List.getElem_cons_zero, Act.put, List.setIfInBounds_toArray, List.set_cons_zero, List.set_cons_succ]
                      refine wpAnyH_take (i := 2) (v := .slice (some ⟨fb, fo, none⟩) fs.length xc) rfl (by kernel_rfl) (by kernel_rfl) (by kernel_rfl) (fun _ _ _ h => h) (Or.inl ⟨by kernel_rfl, ?_⟩) hH ?_
                      · (intro wv hSw; (try simp only [FS, FS2] at hSw); (try unfold SS at hSw); (try unfold SR at hSw); go_split_ands; go_simp)
                      try simp only [List.getElem_toArray, List.getElem_cons_succ, List.getElem_cons_zero, Act.put, List.setIfInBounds_toArray, List.set_cons_zero, List.set_cons_succ]
                      refine wpAnyH_take (i := 3) (v := .int .i64 (q : Nat)) rfl (by kernel_rfl) (by kernel_rfl) (by kernel_rfl) (fun _ _ _ h => h) (Or.inl ⟨by kernel_rfl, ?_⟩) hH ?_
                      · (intro wv hSw; (try simp only [FS, FS2] at hSw); (try unfold SS at hSw); (try unfold SR at hSw); go_split_ands; go_simp)
                      try simp only [List.getElem_toArray, List.getElem_cons_succ, List.getElem_cons_zero, Act.put, List.setIfInBounds_toArray, List.set_cons_zero, List.set_cons_succ]
                      refine wpAnyH_take (i := 4) (v := .pointer (some ⟨fb, fo + q * 5, none⟩)) rfl (by kernel_rfl) (by kernel_rfl) (by kernel_rfl) (fun _ _ _ h => h) (Or.inl ⟨by kernel_rfl, ?_⟩) hH ?_
                      · (intro wv hSw; (try simp only [FS, FS2] at hSw); (try unfold SS at hSw); (try unfold SR at hSw); go_split_ands; go_simp)
                      try simp only [List.getElem_toArray, List.getElem_cons_succ, List.getElem_cons_zero, Act.put, List.setIfInBounds_toArray, List.set_cons_zero, List.set_cons_succ]
                      refine wpAnyH_take (i := 5) (v := .agg #[.int .i64 A1, .int .i64 A2, .bool A3, .bool A4, .int .i64 A5]) rfl (by kernel_rfl) (by kernel_rfl) (by kernel_rfl) (fun _ _ _ h => h) (Or.inl ⟨by kernel_rfl, ?_⟩) hH ?_
                      · (intro wv hSw; (try simp only [FS, FS2] at hSw); (try unfold SS at hSw); (try unfold SR at hSw); go_split_ands; go_simp)
                      try simp only [List.getElem_toArray, List.getElem_cons_succ, List.getElem_cons_zero, Act.put, List.setIfInBounds_toArray, List.set_cons_zero, List.set_cons_succ]
                      refine wpAnyH_ready (rs := [6]) (by kernel_rfl) (by simp) ?_
                      refine AllReadyH.cons rfl (fun K hK => ?_) AllReadyH.nil
                      go_simp
                      go_wp2_with (go_at_call 108; refine (HC.out _ hr1).mono ?_; rintro e w1 ⟨rfl, hb1⟩)
                      refine hK.out _ _ (hH.below hb1 hgw hzw hfw) (fun hH1 => ?_)
                      clear hK K hH
                      have hH := hH1
                      clear hH1
                      try simp only [Act.put, List.setIfInBounds_toArray, List.set_cons_zero, List.set_cons_succ]
                      refine wpAnyH_take (i := 7) (v := .bool false) rfl (by kernel_rfl) (by kernel_rfl) (by kernel_rfl) (fun _ _ _ h => h) (Or.inl ⟨by kernel_rfl, ?_⟩) hH ?_
                      · (intro wv hSw; (try simp only [FS, FS2] at hSw); (try unfold SS at hSw); (try unfold SR at hSw); go_split_ands; go_simp)
                      try simp only [List.getElem_toArray, List.getElem_cons_succ, List.getElem_cons_zero, Act.put, List.setIfInBounds_toArray, List.set_cons_zero, List.set_cons_succ]
                      refine wpAnyH_take (i := 8) (v := .bool false) rfl (by kernel_rfl) (by kernel_rfl) (by kernel_rfl) (fun _ _ _ h => h) (Or.inl ⟨by kernel_rfl, ?_⟩) hH ?_
                      · (intro wv hSw; (try simp only [FS, FS2] at hSw); (try unfold SS at hSw); (try unfold SR at hSw); go_split_ands; go_simp)
                      try simp only [List.getElem_toArray, List.getElem_cons_succ, List.getElem_cons_zero, Act.put, List.setIfInBounds_toArray, List.set_cons_zero, List.set_cons_succ]
                      refine wpAnyH_take (i := 9) (v := .int .i64 (q : Nat)) rfl (by kernel_rfl) (by kernel_rfl) (by kernel_rfl) (fun _ _ _ h => h) (Or.inl ⟨by kernel_rfl, ?_⟩) hH ?_
                      · (intro wv hSw; (try simp only [FS, FS2] at hSw); (try unfold SS at hSw); (try unfold SR at hSw); go_split_ands; go_simp)
                      try simp only [List.getElem_toArray, List.getElem_cons_succ, List.getElem_cons_zero, Act.put, List.setIfInBounds_toArray, List.set_cons_zero, List.set_cons_succ]
                      refine wpAnyH_take (i := 10) (v := .bool false) rfl (by kernel_rfl) (by kernel_rfl) (by kernel_rfl) (fun _ _ _ h => h) (Or.inl ⟨by kernel_rfl, ?_⟩) hH ?_
                      · (intro wv hSw; (try simp only [FS, FS2] at hSw); (try unfold SS at hSw); (try unfold SR at hSw); go_split_ands; go_simp)
                      try simp only [List.getElem_toArray, List.getElem_cons_succ, List.getElem_cons_zero, Act.put, List.setIfInBounds_toArray, List.set_cons_zero, List.set_cons_succ]
                      refine wpAnyH_take (i := 11) (v := .bool false) rfl (by kernel_rfl) (by kernel_rfl) (by kernel_rfl) (fun _ _ _ h => h) (Or.inl ⟨by kernel_rfl, ?_⟩) hH ?_
                      · (intro wv hSw; (try simp only [FS, FS2] at hSw); (try unfold SS at hSw); (try unfold SR at hSw); go_split_ands; go_simp)
                      try simp only [List.getElem_toArray, List.getElem_cons_succ, List.getElem_cons_zero, Act.put, List.setIfInBounds_toArray, List.set_cons_zero, List.set_cons_succ]
                      refine wpAnyH_take (i := 12) (v := undef) rfl (by kernel_rfl) (by kernel_rfl) (by kernel_rfl) (fun _ _ _ h => h) (Or.inr ⟨by kernel_rfl, rfl⟩) hH ?_
                      try simp only [List.getElem_toArray, List.getElem_cons_succ, List.getElem_cons_zero, Act.put, List.setIfInBounds_toArray, List.set_cons_zero, List.set_cons_succ]
                      refine wpAnyH_take (i := 13) (v := undef) rfl (by kernel_rfl) (by kernel_rfl) (by kernel_rfl) (fun _ _ _ h => h) (Or.inr ⟨by kernel_rfl, rfl⟩) hH ?_
                      try simp only [List.getElem_toArray, List.getElem_cons_succ, List.getElem_cons_zero, Act.put, List.setIfInBounds_toArray, List.set_cons_zero, List.set_cons_succ]
                      refine wpAnyH_take (i := 14) (v := undef) rfl (by kernel_rfl) (by kernel_rfl) (by kernel_rfl) (fun _ _ _ h => h) (Or.inr ⟨by kernel_rfl, rfl⟩) hH ?_
                      try simp only [List.getElem_toArray, List.getElem_cons_succ, List.getElem_cons_zero, Act.put, List.setIfInBounds_toArray, List.set_cons_zero, List.set_cons_succ]
                      refine wpAnyH_take (i := 15) (v := undef) rfl (by kernel_rfl) (by kernel_rfl) (by kernel_rfl) (fun _ _ _ h => h) (Or.inr ⟨by kernel_rfl, rfl⟩) hH ?_
                      try simp only [List.getElem_toArray, List.getElem_cons_succ, List.getElem_cons_zero, Act.put, List.setIfInBounds_toArray, List.set_cons_zero, List.set_cons_succ]
                      refine wpAnyH_take (i := 16) (v := undef) rfl (by kernel_rfl) (by kernel_rfl) (by kernel_rfl) (fun _ _ _ h => h) (Or.inr ⟨by kernel_rfl, rfl⟩) hH ?_
                      try simp only [List.getElem_toArray, List.getElem_cons_succ, List.getElem_cons_zero, Act.put, List.setIfInBounds_toArray, List.set_cons_zero, List.set_cons_succ]
                      refine wpAnyH_take (i := 17) (v := undef) rfl (by kernel_rfl) (by kernel_rfl) (by kernel_rfl) (fun _ _ _ h => h) (Or.inr ⟨by kernel_rfl, rfl⟩) hH ?_
                      try simp only [List.getElem_toArray, List.getElem_cons_succ, List.getElem_cons_zero, Act.put, List.setIfInBounds_toArray, List.set_cons_zero, List.set_cons_succ]
                      refine wpAnyH_take (i := 18) (v := undef) rfl (by kernel_rfl) (by kernel_rfl) (by kernel_rfl) (fun _ _ _ h => h) (Or.inr ⟨by kernel_rfl, rfl⟩) hH ?_
                      try simp only [List.getElem_toArray, List.getElem_cons_succ, List.getElem_cons_zero, Act.put, List.setIfInBounds_toArray, List.set_cons_zero, List.set_cons_succ]
                      refine wpAnyH_take (i := 19) (v := undef) rfl (by kernel_rfl) (by kernel_rfl) (by kernel_rfl) (fun _ _ _ h => h) (Or.inr ⟨by kernel_rfl, rfl⟩) hH ?_
                      try simp only [List.getElem_toArray, List.getElem_cons_succ, List.getElem_cons_zero, Act.put, List.setIfInBounds_toArray, List.set_cons_zero, List.set_cons_succ]
                      refine wpAnyH_take (i := 20) (v := undef) rfl (by kernel_rfl) (by kernel_rfl) (by kernel_rfl) (fun _ _ _ h => h) (Or.inr ⟨by kernel_rfl, rfl⟩) hH ?_
                      try simp only [List.getElem_toArray, List.getElem_cons_succ, List.getElem_cons_zero, Act.put, List.setIfInBounds_toArray, List.set_cons_zero, List.set_cons_succ]
                      refine wpAnyH_take (i := 21) (v := undef) rfl (by kernel_rfl) (by kernel_rfl) (by kernel_rfl) (fun _ _ _ h => h) (Or.inr ⟨by kernel_rfl, rfl⟩) hH ?_
                      try simp only [List.getElem_toArray, List.getElem_cons_succ, List.getElem_cons_zero, Act.put, List.setIfInBounds_toArray, List.set_cons_zero, List.set_cons_succ]
                      refine wpAnyH_take (i := 22) (v := undef) rfl (by kernel_rfl) (by kernel_rfl) (by kernel_rfl) (fun _ _ _ h => h) (Or.inr ⟨by kernel_rfl, rfl⟩) hH ?_
                      try simp only [List.getElem_toArray, List.getElem_cons_succ, List.getElem_cons_zero, Act.put, List.setIfInBounds_toArray, List.set_cons_zero, List.set_cons_succ]
                      refine wpAnyH_take (i := 23) (v := undef) rfl (by kernel_rfl) (by kernel_rfl) (by kernel_rfl) (fun _ _ _ h => h) (Or.inr ⟨by kernel_rfl, rfl⟩) hH ?_
                      try simp only [List.getElem_toArray, List.getElem_cons_succ, List.getElem_cons_zero, Act.put, List.setIfInBounds_toArray, List.set_cons_zero, List.set_cons_succ]
                      refine wpAnyH_take (i := 24) (v := undef) rfl (by kernel_rfl) (by kernel_rfl) (by kernel_rfl) (fun _ _ _ h => h) (Or.inr ⟨by kernel_rfl, rfl⟩) hH ?_
                      try simp only [List.getElem_toArray, List.getElem_cons_succ, List.getElem_cons_zero, Act.put, List.setIfInBounds_toArray, List.set_cons_zero, List.set_cons_succ]
                      refine wpAnyH_take (i := 25) (v := undef) rfl (by kernel_rfl) (by kernel_rfl) (by kernel_rfl) (fun _ _ _ h => h) (Or.inr ⟨by kernel_rfl, rfl⟩) hH ?_
                      try simp only [List.getElem_toArray, List.getElem_cons_succ, List.getElem_cons_zero, Act.put, List.setIfInBounds_toArray, List.set_cons_zero, List.set_cons_succ]
                      refine wpAnyH_take (i := 26) (v := .bool false) rfl (by kernel_rfl) (by kernel_rfl) (by kernel_rfl) (fun _ _ _ h => h) (Or.inl ⟨by kernel_rfl, ?_⟩) hH ?_
                      · (intro wv hSw; (try simp only [FS, FS2] at hSw); (try unfold SS at hSw); (try unfold SR at hSw); go_split_ands; go_simp)
                      try simp only [List.getElem_toArray, List.getElem_cons_succ, List.getElem_cons_zero, Act.put, List.setIfInBounds_toArray, List.set_cons_zero, List.set_cons_succ]
                      refine wpAnyH_take (i := 27) (v := .bool false) rfl (by kernel_rfl) (by kernel_rfl) (by kernel_rfl) (fun _ _ _ h => h) (Or.inl ⟨by kernel_rfl, ?_⟩) hH ?_
                      · (intro wv hSw; (try simp only [FS, FS2] at hSw); (try unfold SS at hSw); (try unfold SR at hSw); go_split_ands; go_simp)
                      try simp only [List.getElem_toArray, List.getElem_cons_succ, List.getElem_cons_zero, Act.put, List.setIfInBounds_toArray, List.set_cons_zero, List.set_cons_succ]
                      refine wpAnyH_done (by kernel_rfl) ?_ _
                      go_wp2_with fail
                      go_meet
                      exact ⟨by rw [HQ.out], Lib.hid (HY.out.drew.below hb1 hgw), Lib.hid (HS.out.drew.below hb1 hzw), hl.drew.trans (hb1.mono hl.size)⟩
                    · obtain ⟨p, rfl⟩ : ∃ p, q = p + 1 := ⟨q - 1, by omega⟩
                      have hpr : p < fs.length := by omega
                      obtain ⟨n0, _, _, _, _⟩ := Hfcs.out p hpr
                      rw [← hl.cell (p := ⟨fb, _, none⟩) fbC] at n0
                      have hpi : (p : Int) < (fs.length : Int) := by omega
                      have hw1 : IntKind.i64.wrap ((p : Int) + 1 - 1) = (p : Int) := by rw [show (p : Int) + 1 - 1 = (p : Int) by omega]; exact IntWalk.i64_in _ (by omega)
                      have hw2 : IntKind.i64.wrap (p : Int) = (p : Int) := IntWalk.i64_in _ (by omega)
                      have hw3 : ((p + 1 : Nat) : Int) - 1 = (p : Int) := by omega
                      have hp0 : (0 : Int) < (p : Int) + 1 := by omega
                      have hp1 : (0 : Int) ≤ (p : Int) + 1 := by omega
                      have hp2 : (p : Int) + 1 < (fs.length : Int) := by omega
                      obtain ⟨P, hP⟩ : ∃ P, decide (A1 ≤ fs[p].1) = P := ⟨_, rfl⟩
                      have HQ : Hid (P = G) := Lib.hid (by
                        rw [← HG.out, ← hP]
                        by_cases hle : A1 ≤ fs[p].1
                        · rw [decide_eq_true hle, fgB_yes (fun h => by have := h.2 p hpr rfl; omega)]
                        · rw [decide_eq_false hle, fgB_no ⟨HF.out, fun p' hp' e => by (obtain rfl : p' = p := by omega); exact Int.lt_of_not_ge hle⟩])
                      generalize fs[p].1 = num at n0 hP
                      clear hq0
                      refine wp_region_held_drew (S := FS2 g w.heap.size fb (fo + (p + 1) * 5) (fo + p * 5) (.slice (some ⟨fb, fo, none⟩) fs.length xc) (.slice (some ⟨b, o, none⟩) r.length cap) (A1, A2, A3, A4, A5) num) (by kernel_rfl) ⟨n0, y1, c0, x0, x1, x2, x3, x4⟩ ?_
                      intro hH
                      refine wpAnyH_take (i := 0) (v := .agg #[.slice (some ⟨b, o, none⟩) r.length cap]) rfl (by kernel_rfl) (by kernel_rfl) (by kernel_rfl) (fun _ _ _ h => h) (Or.inl ⟨by kernel_rfl, ?_⟩) hH ?_
                      · (intro wv hSw; (try simp only [FS, FS2] at hSw); (try unfold SS at hSw); (try unfold SR at hSw); go_split_ands; go_simp)
                      try simp only [List.getElem_toArray, List.getElem_cons_succ, List.getElem_cons_zero, Act.put, List.setIfInBounds_toArray, List.set_cons_zero, List.set_cons_succ]
                      refine wpAnyH_take (i := 1) (v := .pointer (some ⟨g, 1, none⟩)) rfl (by kernel_rfl) (by kernel_rfl) (by kernel_rfl) (fun _ _ _ h => h) (Or.inl ⟨by kernel_rfl, ?_⟩) hH ?_
                      · (intro wv hSw; (try simp only [FS, FS2] at hSw); (try unfold SS at hSw); (try unfold SR at hSw); go_split_ands; go_simp)
                      try simp only [List.getElem_toArray, List.getElem_cons_succ, List.getElem_cons_zero, Act.put, List.setIfInBounds_toArray, List.set_cons_zero, List.set_cons_succ]
                      refine wpAnyH_take (i := 2) (v := .slice (some ⟨fb, fo, none⟩) fs.length xc) rfl (by kernel_rfl) (by kernel_rfl) (by kernel_rfl) (fun _ _ _ h => h) (Or.inl ⟨by kernel_rfl, ?_⟩) hH ?_
                      · (intro wv hSw; (try simp only [FS, FS2] at hSw); (try unfold SS at hSw); (try unfold SR at hSw); go_split_ands; go_simp)
                      try simp only [List.getElem_toArray, List.getElem_cons_succ, List.getElem_cons_zero, Act.put, List.setIfInBounds_toArray, List.set_cons_zero, List.set_cons_succ]
                      refine wpAnyH_take (i := 3) (v := .int .i64 ((p + 1) : Nat)) rfl (by kernel_rfl) (by kernel_rfl) (by kernel_rfl) (fun _ _ _ h => h) (Or.inl ⟨by kernel_rfl, ?_⟩) hH ?_
                      · (intro wv hSw; (try simp only [FS, FS2] at hSw); (try unfold SS at hSw); (try unfold SR at hSw); go_split_ands; go_simp)
                      try simp only [List.getElem_toArray, List.getElem_cons_succ, List.getElem_cons_zero, Act.put, List.setIfInBounds_toArray, List.set_cons_zero, List.set_cons_succ]
                      refine wpAnyH_take (i := 4) (v := .pointer (some ⟨fb, fo + (p + 1) * 5, none⟩)) rfl (by kernel_rfl) (by kernel_rfl) (by kernel_rfl) (fun _ _ _ h => h) (Or.inl ⟨by kernel_rfl, ?_⟩) hH ?_
                      · (intro wv hSw; (try simp only [FS, FS2] at hSw); (try unfold SS at hSw); (try unfold SR at hSw); go_split_ands; go_simp)
                      try simp only [List.getElem_toArray, List.getElem_cons_succ, List.getElem_cons_zero, Act.put, List.setIfInBounds_toArray, List.set_cons_zero, List.set_cons_succ]
                      refine wpAnyH_take (i := 5) (v := .agg #[.int .i64 A1, .int .i64 A2, .bool A3, .bool A4, .int .i64 A5]) rfl (by kernel_rfl) (by kernel_rfl) (by kernel_rfl) (fun _ _ _ h => h) (Or.inl ⟨by kernel_rfl, ?_⟩) hH ?_
                      · (intro wv hSw; (try simp only [FS, FS2] at hSw); (try unfold SS at hSw); (try unfold SR at hSw); go_split_ands; go_simp)
                      try simp only [List.getElem_toArray, List.getElem_cons_succ, List.getElem_cons_zero, Act.put, List.setIfInBounds_toArray, List.set_cons_zero, List.set_cons_succ]
                      refine wpAnyH_ready (rs := [6]) (by kernel_rfl) (by simp) ?_
                      refine AllReadyH.cons rfl (fun K hK => ?_) AllReadyH.nil
                      go_simp
                      go_wp2_with (go_at_call 108; refine (HC.out _ hr1).mono ?_; rintro e w1 ⟨rfl, hb1⟩)
                      refine hK.out _ _ (hH.below hb1 hgw hzw hfw) (fun hH1 => ?_)
                      clear hK K hH
                      have hH := hH1
                      clear hH1
                      try simp only [Act.put, List.setIfInBounds_toArray, List.set_cons_zero, List.set_cons_succ]
                      refine wpAnyH_take (i := 7) (v := .bool false) rfl (by kernel_rfl) (by kernel_rfl) (by kernel_rfl) (fun _ _ _ h => h) (Or.inl ⟨by kernel_rfl, ?_⟩) hH ?_
                      · (intro wv hSw; (try simp only [FS, FS2] at hSw); (try unfold SS at hSw); (try unfold SR at hSw); go_split_ands; go_simp)
                      try simp only [List.getElem_toArray, List.getElem_cons_succ, List.getElem_cons_zero, Act.put, List.setIfInBounds_toArray, List.set_cons_zero, List.set_cons_succ]
                      refine wpAnyH_take (i := 8) (v := .bool false) rfl (by kernel_rfl) (by kernel_rfl) (by kernel_rfl) (fun _ _ _ h => h) (Or.inl ⟨by kernel_rfl, ?_⟩) hH ?_
                      · (intro wv hSw; (try simp only [FS, FS2] at hSw); (try unfold SS at hSw); (try unfold SR at hSw); go_split_ands; go_simp)
                      try simp only [List.getElem_toArray, List.getElem_cons_succ, List.getElem_cons_zero, Act.put, List.setIfInBounds_toArray, List.set_cons_zero, List.set_cons_succ]
                      refine wpAnyH_take (i := 9) (v := .int .i64 ((p + 1 : Nat) : Int)) rfl (by kernel_rfl) (by kernel_rfl) (by kernel_rfl) (fun _ _ _ h => h) (Or.inl ⟨by kernel_rfl, ?_⟩) hH ?_
                      · (intro wv hSw; (try simp only [FS, FS2] at hSw); (try unfold SS at hSw); (try unfold SR at hSw); go_split_ands; go_simp)
                      try simp only [List.getElem_toArray, List.getElem_cons_succ, List.getElem_cons_zero, Act.put, List.setIfInBounds_toArray, List.set_cons_zero, List.set_cons_succ]
                      refine wpAnyH_take (i := 10) (v := .bool true) rfl (by kernel_rfl) (by kernel_rfl) (by kernel_rfl) (fun _ _ _ h => h) (Or.inl ⟨by kernel_rfl, ?_⟩) hH ?_
                      · (intro wv hSw; (try simp only [FS, FS2] at hSw); (try unfold SS at hSw); (try unfold SR at hSw); go_split_ands; go_simp)
                      try simp only [List.getElem_toArray, List.getElem_cons_succ, List.getElem_cons_zero, Act.put, List.setIfInBounds_toArray, List.set_cons_zero, List.set_cons_succ]
                      refine wpAnyH_take (i := 11) (v := .bool true) rfl (by kernel_rfl) (by kernel_rfl) (by kernel_rfl) (fun _ _ _ h => h) (Or.inl ⟨by kernel_rfl, ?_⟩) hH ?_
                      · (intro wv hSw; (try simp only [FS, FS2] at hSw); (try unfold SS at hSw); (try unfold SR at hSw); go_split_ands; go_simp)
                      try simp only [List.getElem_toArray, List.getElem_cons_succ, List.getElem_cons_zero, Act.put, List.setIfInBounds_toArray, List.set_cons_zero, List.set_cons_succ]
                      refine wpAnyH_take (i := 12) (v := .pointer (some ⟨g, 1, none⟩)) rfl (by kernel_rfl) (by kernel_rfl) (by kernel_rfl) (fun _ _ _ h => h) (Or.inl ⟨by kernel_rfl, ?_⟩) hH ?_
                      · (intro wv hSw; (try simp only [FS, FS2] at hSw); (try unfold SS at hSw); (try unfold SR at hSw); go_split_ands; go_simp)
                      try simp only [List.getElem_toArray, List.getElem_cons_succ, List.getElem_cons_zero, Act.put, List.setIfInBounds_toArray, List.set_cons_zero, List.set_cons_succ]
                      refine wpAnyH_take (i := 13) (v := .slice (some ⟨fb, fo, none⟩) fs.length xc) rfl (by kernel_rfl) (by kernel_rfl) (by kernel_rfl) (fun _ _ _ h => h) (Or.inl ⟨by kernel_rfl, ?_⟩) hH ?_
                      · (intro wv hSw; (try simp only [FS, FS2] at hSw); (try unfold SS at hSw); (try unfold SR at hSw); go_split_ands; go_simp)
                      try simp only [List.getElem_toArray, List.getElem_cons_succ, List.getElem_cons_zero, Act.put, List.setIfInBounds_toArray, List.set_cons_zero, List.set_cons_succ]
                      refine wpAnyH_take (i := 14) (v := .int .i64 ((p + 1 : Nat) : Int)) rfl (by kernel_rfl) (by kernel_rfl) (by kernel_rfl) (fun _ _ _ h => h) (Or.inl ⟨by kernel_rfl, ?_⟩) hH ?_
                      · (intro wv hSw; (try simp only [FS, FS2] at hSw); (try unfold SS at hSw); (try unfold SR at hSw); go_split_ands; go_simp)
                      try simp only [List.getElem_toArray, List.getElem_cons_succ, List.getElem_cons_zero, Act.put, List.setIfInBounds_toArray, List.set_cons_zero, List.set_cons_succ]
                      refine wpAnyH_take (i := 15) (v := .int .i64 p) rfl (by kernel_rfl) (by kernel_rfl) (by kernel_rfl) (fun _ _ _ h => h) (Or.inl ⟨by kernel_rfl, ?_⟩) hH ?_
                      · (intro wv hSw; (try simp only [FS, FS2] at hSw); (try unfold SS at hSw); (try unfold SR at hSw); go_split_ands; go_simp)
                      try simp only [List.getElem_toArray, List.getElem_cons_succ, List.getElem_cons_zero, Act.put, List.setIfInBounds_toArray, List.set_cons_zero, List.set_cons_succ]
                      refine wpAnyH_take (i := 16) (v := .pointer (some ⟨fb, fo + p * 5, none⟩)) rfl (by kernel_rfl) (by kernel_rfl) (by kernel_rfl) (fun _ _ _ h => h) (Or.inl ⟨by kernel_rfl, ?_⟩) hH ?_
                      · (intro wv hSw; (try simp only [FS, FS2] at hSw); (try unfold SS at hSw); (try unfold SR at hSw); go_split_ands; go_simp)
                      try simp only [List.getElem_toArray, List.getElem_cons_succ, List.getElem_cons_zero, Act.put, List.setIfInBounds_toArray, List.set_cons_zero, List.set_cons_succ]
                      refine wpAnyH_take (i := 17) (v := .pointer (some ⟨fb, fo + p * 5, none⟩)) rfl (by kernel_rfl) (by kernel_rfl) (by kernel_rfl) (fun _ _ _ h => h) (Or.inl ⟨by kernel_rfl, ?_⟩) hH ?_
                      · (intro wv hSw; (try simp only [FS, FS2] at hSw); (try unfold SS at hSw); (try unfold SR at hSw); go_split_ands; go_simp)
                      try simp only [List.getElem_toArray, List.getElem_cons_succ, List.getElem_cons_zero, Act.put, List.setIfInBounds_toArray, List.set_cons_zero, List.set_cons_succ]
                      refine wpAnyH_take (i := 18) (v := .int .i64 num) rfl (by kernel_rfl) (by kernel_rfl) (by kernel_rfl) (fun _ _ _ h => h) (Or.inl ⟨by kernel_rfl, ?_⟩) hH ?_
                      · (intro wv hSw; (try simp only [FS, FS2] at hSw); (try unfold SS at hSw); (try unfold SR at hSw); go_split_ands; go_simp)
                      try simp only [List.getElem_toArray, List.getElem_cons_succ, List.getElem_cons_zero, Act.put, List.setIfInBounds_toArray, List.set_cons_zero, List.set_cons_succ]
                      refine wpAnyH_take (i := 19) (v := .pointer (some ⟨g, 1, none⟩)) rfl (by kernel_rfl) (by kernel_rfl) (by kernel_rfl) (fun _ _ _ h => h) (Or.inl ⟨by kernel_rfl, ?_⟩) hH ?_
                      · (intro wv hSw; (try simp only [FS, FS2] at hSw); (try unfold SS at hSw); (try unfold SR at hSw); go_split_ands; go_simp)
                      try simp only [List.getElem_toArray, List.getElem_cons_succ, List.getElem_cons_zero, Act.put, List.setIfInBounds_toArray, List.set_cons_zero, List.set_cons_succ]
                      refine wpAnyH_take (i := 20) (v := .slice (some ⟨fb, fo, none⟩) fs.length xc) rfl (by kernel_rfl) (by kernel_rfl) (by kernel_rfl) (fun _ _ _ h => h) (Or.inl ⟨by kernel_rfl, ?_⟩) hH ?_
                      · (intro wv hSw; (try simp only [FS, FS2] at hSw); (try unfold SS at hSw); (try unfold SR at hSw); go_split_ands; go_simp)
                      try simp only [List.getElem_toArray, List.getElem_cons_succ, List.getElem_cons_zero, Act.put, List.setIfInBounds_toArray, List.set_cons_zero, List.set_cons_succ]
                      refine wpAnyH_take (i := 21) (v := .int .i64 ((p + 1 : Nat) : Int)) rfl (by kernel_rfl) (by kernel_rfl) (by kernel_rfl) (fun _ _ _ h => h) (Or.inl ⟨by kernel_rfl, ?_⟩) hH ?_
                      · (intro wv hSw; (try simp only [FS, FS2] at hSw); (try unfold SS at hSw); (try unfold SR at hSw); go_split_ands; go_simp)
                      try simp only [List.getElem_toArray, List.getElem_cons_succ, List.getElem_cons_zero, Act.put, List.setIfInBounds_toArray, List.set_cons_zero, List.set_cons_succ]
                      refine wpAnyH_take (i := 22) (v := .pointer (some ⟨fb, fo + (p + 1) * 5, none⟩)) rfl (by kernel_rfl) (by kernel_rfl) (by kernel_rfl) (fun _ _ _ h => h) (Or.inl ⟨by kernel_rfl, ?_⟩) hH ?_
                      · (intro wv hSw; (try simp only [FS, FS2] at hSw); (try unfold SS at hSw); (try unfold SR at hSw); go_split_ands; go_simp)
                      try simp only [List.getElem_toArray, List.getElem_cons_succ, List.getElem_cons_zero, Act.put, List.setIfInBounds_toArray, List.set_cons_zero, List.set_cons_succ]
                      refine wpAnyH_take (i := 23) (v := .pointer (some ⟨fb, fo + (p + 1) * 5, none⟩)) rfl (by kernel_rfl) (by kernel_rfl) (by kernel_rfl) (fun _ _ _ h => h) (Or.inl ⟨by kernel_rfl, ?_⟩) hH ?_
                      · (intro wv hSw; (try simp only [FS, FS2] at hSw); (try unfold SS at hSw); (try unfold SR at hSw); go_split_ands; go_simp)
                      try simp only [List.getElem_toArray, List.getElem_cons_succ, List.getElem_cons_zero, Act.put, List.setIfInBounds_toArray, List.set_cons_zero, List.set_cons_succ]
                      refine wpAnyH_take (i := 24) (v := .int .i64 A1) rfl (by kernel_rfl) (by kernel_rfl) (by kernel_rfl) (fun _ _ _ h => h) (Or.inl ⟨by kernel_rfl, ?_⟩) hH ?_
                      · (intro wv hSw; (try simp only [FS, FS2] at hSw); (try unfold SS at hSw); (try unfold SR at hSw); go_split_ands; go_simp)
                      try simp only [List.getElem_toArray, List.getElem_cons_succ, List.getElem_cons_zero, Act.put, List.setIfInBounds_toArray, List.set_cons_zero, List.set_cons_succ]
                      refine wpAnyH_take (i := 25) (v := .bool P) rfl (by kernel_rfl) (by kernel_rfl) (by kernel_rfl) (fun _ _ _ h => h) (Or.inl ⟨by kernel_rfl, ?_⟩) hH ?_
                      · (intro wv hSw; (try simp only [FS, FS2] at hSw); (try unfold SS at hSw); (try unfold SR at hSw); go_split_ands; go_simp)
                      try simp only [List.getElem_toArray, List.getElem_cons_succ, List.getElem_cons_zero, Act.put, List.setIfInBounds_toArray, List.set_cons_zero, List.set_cons_succ]
                      refine wpAnyH_take (i := 26) (v := .bool P) rfl (by kernel_rfl) (by kernel_rfl) (by kernel_rfl) (fun _ _ _ h => h) (Or.inl ⟨by kernel_rfl, ?_⟩) hH ?_
                      · (intro wv hSw; (try simp only [FS, FS2] at hSw); (try unfold SS at hSw); (try unfold SR at hSw); go_split_ands; go_simp)
                      try simp only [List.getElem_toArray, List.getElem_cons_succ, List.getElem_cons_zero, Act.put, List.setIfInBounds_toArray, List.set_cons_zero, List.set_cons_succ]
                      refine wpAnyH_take (i := 27) (v := .bool P) rfl (by kernel_rfl) (by kernel_rfl) (by kernel_rfl) (fun _ _ _ h => h) (Or.inl ⟨by kernel_rfl, ?_⟩) hH ?_
                      · (intro wv hSw; (try simp only [FS, FS2] at hSw); (try unfold SS at hSw); (try unfold SR at hSw); go_split_ands; go_simp)
                      try simp only [List.getElem_toArray, List.getElem_cons_succ, List.getElem_cons_zero, Act.put, List.setIfInBounds_toArray, List.set_cons_zero, List.set_cons_succ]
                      refine wpAnyH_done (by kernel_rfl) ?_ _
                      go_wp2_with fail
                      go_meet
                      exact ⟨by rw [HQ.out], Lib.hid (HY.out.drew.below hb1 hgw), Lib.hid (HS.out.drew.below hb1 hzw), hl.drew.trans (hb1.mono hl.size)⟩
                case rest =>
                  obtain ⟨rfl, HY2, HS2, hl2⟩ := hcut
                  clear HY HS hl x0 x1 x2 x3 x4 y0 y1 c0 hzw hgw hfw
                  cases G with
                  | true =>
                    obtain rfl : R = false := Hbadf.out fun hg => by
                      have := HG.out
                      rw [fgB_no hg] at this; cases this
                    go_wp2_with fail
                    go_ret
                    exact ⟨rfl, hl2⟩
                  | false =>
                    have Hn := Lib.hid (Hnextf.out (fgB_of HG.out))
                    go_wp2_with fail
                    go_roundw
                    case rel => exact ⟨q + 1, by omega, by go_num, Hn, HY2, HS2, hl2⟩
                    case measure => simp [intOf]; omega
              · have hge : (fs.length : Int) ≤ (q : Int) := by omega
                have hend : decide (q < fs.length) = false := decide_eq_false hqn
                have Hn : Hid (∀ j (hj : j < r.length), j < k + 1 → shapeGood r j r[j]) := Lib.hid (Hnext.out ⟨Hhead.out.1, Hhead.out.2.1, Hhead.out.2.2, fun t ht => hgoodf.out t ht (by have : t < fs.length := ht; omega)⟩)
                go_wp2_with fail
                go_roundw
                case rel => exact ⟨k + 1, by omega, by go_num, Hn, HS, hl⟩
                case measure => simp [intOf]; omega
      · have hge : (r.length : Int) ≤ (k : Int) := by omega
        have hend : decide (k < r.length) = false := decide_eq_false hlt
        obtain rfl : R = true := tell.out.1 ⟨h66, fun i hi => hgood.out i hi (by omega)⟩
        go_wp2_with fail
        go_ret
        exact ⟨rfl, hbr⟩
end Go.Proofs.YtpkofbdfnbpfpaaGreat.Num


/-
  Events in memory: what it says that a value holds a list of events, told by plain lists; a row that is being filled. For any program.
-/
namespace Go.Proofs.YtpkofbdfnbpfpaaGreat.Num
open Go.RowKit Go.Proofs
set_option linter.unusedVariables false

structure Ev where
  kind : Int
  field : Int
  bits : Int
  len : Int
  text : ByteArray
  code : Int
  pos : Int
theorem Ev.eta (e : Ev) : ∃ k f b l t c p, e = ⟨k, f, b, l, t, c, p⟩ := by obtain ⟨k, f, b, l, t, c, p⟩ := e; exact ⟨k, f, b, l, t, c, p, rfl⟩
theorem Ev.same {a b : Ev} : a = b ↔ a.kind = b.kind ∧ a.field = b.field ∧ a.bits = b.bits ∧ a.len = b.len ∧ a.text = b.text ∧ a.code = b.code ∧ a.pos = b.pos := by
  obtain ⟨k, f, b', l, t, c, p⟩ := a
  obtain ⟨k', f', b'', l', t', c', p'⟩ := b
  constructor
  · intro h; injection h with h1 h2 h3 h4 h5 h6 h7; exact ⟨h1, h2, h3, h4, h5, h6, h7⟩
  · rintro ⟨h1, h2, h3, h4, h5, h6, h7⟩; simp only at h1 h2 h3 h4 h5 h6 h7; subst h1 h2 h3 h4 h5 h6 h7; rfl
instance : DecidableEq Ev := fun a b => decidable_of_iff _ (Ev.same (a := a) (b := b)).symm
/-- The numbers are in their types' ranges, the text is a Go string's. -/
structure Ev.Wf (e : Ev) : Prop where
  kind : -9223372036854775808 ≤ e.kind ∧ e.kind ≤ 9223372036854775807
  field : -9223372036854775808 ≤ e.field ∧ e.field ≤ 9223372036854775807
  bits : 0 ≤ e.bits ∧ e.bits ≤ 18446744073709551615
  len : -9223372036854775808 ≤ e.len ∧ e.len ≤ 9223372036854775807
  text : e.text.size ≤ 9223372036854775807
  code : -9223372036854775808 ≤ e.code ∧ e.code ≤ 9223372036854775807
  pos : -9223372036854775808 ≤ e.pos ∧ e.pos ≤ 9223372036854775807
def evC (e : Ev) : List Value := [.int .i64 e.kind, .int .i64 e.field, .int .u64 e.bits, .int .i64 e.len, .string e.text, .int .i64 e.code, .int .i64 e.pos]
def evV (e : Ev) : Value := .agg #[.int .i64 e.kind, .int .i64 e.field, .int .u64 e.bits, .int .i64 e.len, .string e.text, .int .i64 e.code, .int .i64 e.pos]
def evR (e : Ev) (cs : List Value) : Prop := cs = evC e
def EvsAt (w : World) (S : Nat → Prop) (v : Value) (l : List Ev) : Prop := RowAt w S 7 evR v l
/-- The seven cells of an event from p on. -/
def cells7 (w : World) (b p : Nat) (e : Ev) : Prop :=
  w.cell? ⟨b, p, none⟩ = some (.int .i64 e.kind) ∧ w.cell? ⟨b, p + 1, none⟩ = some (.int .i64 e.field) ∧ w.cell? ⟨b, p + 2, none⟩ = some (.int .u64 e.bits) ∧ w.cell? ⟨b, p + 3, none⟩ = some (.int .i64 e.len) ∧ w.cell? ⟨b, p + 4, none⟩ = some (.string e.text) ∧ w.cell? ⟨b, p + 5, none⟩ = some (.int .i64 e.code) ∧ w.cell? ⟨b, p + 6, none⟩ = some (.int .i64 e.pos)
theorem cells7.same {w w' : World} {b p : Nat} {e : Ev} (h : cells7 w b p e) (hc : ∀ o, w'.cell? ⟨b, o, none⟩ = w.cell? ⟨b, o, none⟩) : cells7 w' b p e := by
  unfold cells7 at h ⊢
  rw [hc, hc, hc, hc, hc, hc, hc]; exact h
theorem cells7.below {w w' : World} {b p B : Nat} {e : Ev} (h : cells7 w b p e) (hb : Below B w w') (hB : b < B) : cells7 w' b p e := h.same fun o => hb.cell (p := ⟨b, o, none⟩) hB
section
variable {w w' : World} {S S' : Nat → Prop} {v : Value} {l : List Ev}
theorem EvsAt.keep (h : EvsAt w S v l) (hk : Kept S w w') (hS : ∀ b, S b → S' b) : EvsAt w' S' v l := RowAt.keep h hk hS fun _ _ h => h
theorem EvsAt.below {D : Nat} (h : EvsAt w S v l) (hb : Below D w w') (hS : ∀ b, S b → b < D) : EvsAt w' S v l := h.keep (.of_below hb hS) fun _ h => h
theorem EvsAt.grow {D : Nat} (h : EvsAt w (· < D) v l) (hb : Below D w w') (hD : D ≤ w.heap.size) : EvsAt w' (· < w'.heap.size) v l :=
  h.keep (.of_below hb fun _ h => h) fun b hb' => Nat.lt_of_lt_of_le hb' (Nat.le_trans hD hb.size)
theorem EvsAt.wide (h : EvsAt w S v l) (hS : ∀ b, S b → S' b) : EvsAt w S' v l := h.keep (fun _ _ _ => rfl) hS
theorem EvsAt.nil (w : World) (S : Nat → Prop) (a : Option Addr) (cap : Nat) : EvsAt w S (.slice a 0 cap) [] := .inl ⟨rfl, a, cap, rfl⟩
theorem EvsAt.len (h : EvsAt w S v l) : ∃ a cap, v = .slice a l.length cap := by
  rcases h with ⟨rfl, a, cap, rfl⟩ | ⟨b, o, cap, rfl, _⟩
  · exact ⟨a, cap, rfl⟩
  · exact ⟨_, cap, rfl⟩
theorem EvsAt.cells (h : EvsAt w S v l) (h0 : 0 < l.length) : ∃ b o cap, v = .slice (some ⟨b, o, none⟩) l.length cap ∧ S b ∧ ∀ i (hi : i < l.length), cells7 w b (o + i * 7) l[i] := by
  rcases h with ⟨rfl, _⟩ | ⟨b, o, cap, hv, _, hC, hc⟩
  · simp at h0
  · refine ⟨b, o, cap, hv, hC, fun i hi => ?_⟩
    obtain ⟨cs, hl, hR, hcs⟩ := hc i hi
    unfold evR at hR
    subst hR
    exact ⟨hcs 0 (by simp [evC]), hcs 1 (by simp [evC]), hcs 2 (by simp [evC]), hcs 3 (by simp [evC]), hcs 4 (by simp [evC]), hcs 5 (by simp [evC]), hcs 6 (by simp [evC])⟩
/-- The i-th event's cells, where the slice's parts are known. -/
theorem EvsAt.cellsAt {a : Option Addr} {n cap : Nat} (h : EvsAt w S (.slice a n cap) l) (i : Nat) (hi : i < l.length) : ∃ b o, a = some ⟨b, o, none⟩ ∧ S b ∧ cells7 w b (o + i * 7) l[i] := by
  obtain ⟨b, o, c, hv, hS, hc⟩ := h.cells (by omega)
  injection hv with e1 e2 e3
  exact ⟨b, o, e1, hS, hc i hi⟩
end
/-! A row that is being filled. -/
def ERow (w : World) (g n k : Nat) (l : List Ev) : Prop := Fill w g (n * 7) ∧ ∀ i (hi : i < l.length), i < k → cells7 w g (i * 7) l[i]
theorem ERow.start {w : World} {B g n : Nat} {E : TypeId} {xs : List Value} {l : List Ev} (h : w.ownsRow B E 7 (.slice (some ⟨g, 0, none⟩) n n) n xs) : ERow w g n 0 l := ⟨Fill.own h, fun i _ hi => by omega⟩
theorem ERow.below {w w' : World} {g n k B : Nat} {l : List Ev} (h : ERow w g n k l) (hb : Below B w w') (hg : g < B) : ERow w' g n k l :=
  ⟨h.1.below hb hg, fun i hi hk => (h.2 i hi hk).below hb hg⟩
/-- An event stored at p, field by field. -/
def putEv (w : World) (g p : Nat) (e : Ev) : World :=
  ((((((w.setCell ⟨g, p, none⟩ (.int .i64 e.kind)).setCell ⟨g, p + 1, none⟩ (.int .i64 e.field)).setCell ⟨g, p + 2, none⟩ (.int .u64 e.bits)).setCell ⟨g, p + 3, none⟩ (.int .i64 e.len)).setCell ⟨g, p + 4, none⟩ (.string e.text)).setCell ⟨g, p + 5, none⟩ (.int .i64 e.code)).setCell ⟨g, p + 6, none⟩ (.int .i64 e.pos)
theorem Fill.putEv {w : World} {g m : Nat} (h : Fill w g m) (p : Nat) (e : Ev) : Fill (putEv w g p e) g m := ((((((h.set _ _).set _ _).set _ _).set _ _).set _ _).set _ _).set _ _
theorem putEv_off {w : World} {g p q : Nat} (e : Ev) (h : q < p ∨ p + 7 ≤ q) : (putEv w g p e).cell? ⟨g, q, none⟩ = w.cell? ⟨g, q, none⟩ := by
  unfold putEv
  rw [cell_off (by omega), cell_off (by omega), cell_off (by omega), cell_off (by omega), cell_off (by omega), cell_off (by omega), cell_off (by omega)]
theorem putEv_cells {w : World} {g m p : Nat} (hf : Fill w g m) (e : Ev) (hp : p + 7 ≤ m) : cells7 (putEv w g p e) g p e := by
  unfold putEv
  refine ⟨?_, ?_, ?_, ?_, ?_, ?_, ?_⟩
  · rw [cell_off (by omega), cell_off (by omega), cell_off (by omega), cell_off (by omega), cell_off (by omega), cell_off (by omega)]; exact hf.same (by omega) _
  · rw [cell_off (by omega), cell_off (by omega), cell_off (by omega), cell_off (by omega), cell_off (by omega)]; exact (hf.set _ _).same (by omega) _
  · rw [cell_off (by omega), cell_off (by omega), cell_off (by omega), cell_off (by omega)]; exact ((hf.set _ _).set _ _).same (by omega) _
  · rw [cell_off (by omega), cell_off (by omega), cell_off (by omega)]; exact (((hf.set _ _).set _ _).set _ _).same (by omega) _
  · rw [cell_off (by omega), cell_off (by omega)]; exact ((((hf.set _ _).set _ _).set _ _).set _ _).same (by omega) _
  · rw [cell_off (by omega)]; exact (((((hf.set _ _).set _ _).set _ _).set _ _).set _ _).same (by omega) _
  · exact ((((((hf.set _ _).set _ _).set _ _).set _ _).set _ _).set _ _).same (by omega) _
theorem cells7.putOff {w : World} {g p q : Nat} {x : Ev} (h : cells7 w g q x) (e : Ev) (hp : q + 7 ≤ p ∨ p + 7 ≤ q) : cells7 (putEv w g p e) g q x := by
  unfold cells7 at h ⊢
  rw [putEv_off _ (by omega), putEv_off _ (by omega), putEv_off _ (by omega), putEv_off _ (by omega), putEv_off _ (by omega), putEv_off _ (by omega), putEv_off _ (by omega)]
  exact h
theorem ERow.put {w : World} {g n k : Nat} {l : List Ev} (h : ERow w g n k l) (hk : k < n) (hl : k < l.length) : ERow (putEv w g (k * 7) l[k]) g n (k + 1) l := by
  refine ⟨h.1.putEv _ _, fun i hi hik => ?_⟩
  by_cases e : i = k
  · subst e; exact putEv_cells h.1 _ (by omega)
  · exact (h.2 i hi (by omega)).putOff _ (by omega)
theorem evsAt_of {w : World} {g o cap : Nat} {S : Nat → Prop} {l : List Ev} (h : ∀ i (hi : i < l.length), cells7 w g (o + i * 7) l[i]) (hS : S g) (hcap : l.length ≤ cap) : EvsAt w S (.slice (some ⟨g, o, none⟩) l.length cap) l := by
  by_cases h0 : l = []
  · subst h0; exact .inl ⟨rfl, _, cap, rfl⟩
  · have hp : 0 < l.length := List.length_pos_iff.2 h0
    refine .inr ⟨g, o, cap, rfl, ⟨hp, hcap⟩, hS, fun i hi => ⟨evC l[i], rfl, rfl, fun j hj => ?_⟩⟩
    obtain ⟨e0, e1, e2, e3, e4, e5, e6⟩ := h i hi
    have hj7 : j < 7 := hj
    rw [← Nat.add_assoc]
    match j, hj7 with
    | 0, _ => exact e0
    | 1, _ => exact e1
    | 2, _ => exact e2
    | 3, _ => exact e3
    | 4, _ => exact e4
    | 5, _ => exact e5
    | 6, _ => exact e6
theorem ERow.done {w : World} {g : Nat} {l : List Ev} (h : ERow w g l.length l.length l) (cap : Nat) (hcap : l.length ≤ cap) : EvsAt w (· = g) (.slice (some ⟨g, 0, none⟩) l.length cap) l :=
  evsAt_of (fun i hi => by rw [Nat.zero_add]; exact h.2 i hi hi) rfl hcap
/-- The events' count and their texts together are small, as the laws' szEventS bounds them. -/
def textsLen (l : List Ev) : Nat := (l.map fun e => e.text.size).sum
def SmallE (l : List Ev) : Prop := l.length ≤ 1048576 ∧ textsLen l ≤ 1048576
def EvsWf (l : List Ev) : Prop := ∀ e ∈ l, e.Wf
theorem textsLen_append (a b : List Ev) : textsLen (a ++ b) = textsLen a + textsLen b := by simp [textsLen]
theorem textsLen_take (l : List Ev) (k : Nat) (hk : k < l.length) : textsLen (l.take (k + 1)) = textsLen (l.take k) + l[k].text.size := by
  rw [List.take_succ_eq_append_getElem hk, textsLen_append]; simp [textsLen]
end Go.Proofs.YtpkofbdfnbpfpaaGreat.Num


/-
  The walks of the reference's Allowed, NumEvent and PlanOk: only new memory is written.
-/
namespace Go.Proofs.YtpkofbdfnbpfpaaGreat.Num
open Go.RowKit Go.Proofs
set_option linter.unusedVariables false
/-- Whether a field's value may stand with a wire type. -/
def allowedB (f : RF) (x : Int) : Bool := (kindB f.2.1 && decide (x = wireR f.2.1)) || (decide (x = 2) && runsB f)
/-- The number that is told of a field: a flag is 0 or 1. -/
def numB (k : Int) (u : Nat) : Nat := if k = 3 ∧ 1 < u then 1 else u
def numE (f : RF) (u : Nat) : Ev := ⟨2, f.1, numB f.2.1 u, 0, ⟨#[]⟩, 0, 0⟩
def planV (u : Value) (A B C : Int) : Value := .agg #[u, .int .i64 A, .int .i64 B, .int .i64 C]
noncomputable def planB (r : List RM) (A B C : Int) : Bool := schemaB r && (decide (0 ≤ A ∧ A ≤ (r.length : Int) - 1) && (decide (1 ≤ B ∧ B ≤ 8) && decide (0 ≤ C ∧ C ≤ 2000)))
theorem runs_as (f : RF) (R : Bool) (h : runsB f = R) (w : World) : Calls Tryz.prog 129 #[fieldV f] w fun e w' => e = .returned (.bool R) ∧ Below w.heap.size w w' := h ▸ specRuns_any f w
theorem wire_as (k R : Int) (h : wireR k = R) (w : World) : Calls Tryz.prog 126 #[.int .i64 k] w fun e w' => e = .returned (.int .i64 R) ∧ w = w' := h ▸ specWireOf_any k w
theorem specAllowed_any (f : RF) (x : Int) (w : World) :
    Calls Tryz.prog 105 #[fieldV f, .int .i64 x] w fun e w' => e = .returned (.bool (allowedB f x)) ∧ Below w.heap.size w w' := by
  obtain ⟨Q, hQ⟩ : ∃ Q, allowedB f x = Q := ⟨_, rfl⟩
  obtain ⟨R, hR⟩ : ∃ R, runsB f = R := ⟨_, rfl⟩
  obtain ⟨W, hW⟩ : ∃ W, wireR f.2.1 = W := ⟨_, rfl⟩
  have HR : ∀ w, Calls Tryz.prog 129 #[fieldV f] w fun e w' => e = .returned (.bool R) ∧ Below w.heap.size w w' := runs_as f R hR
  rw [hQ]
  unfold allowedB at hQ
  rw [hR, hW] at hQ
  obtain ⟨A1, A2, A3, A4, A5⟩ := f
  simp only at hQ hW
  unfold fieldV at HR ⊢
  simp only at HR ⊢
  have HR' := Lib.hid HR
  have hl : Below w.heap.size w (w.alloc (.cells #[.int .i64 A1, .int .i64 A2, .bool A3, .bool A4, .int .i64 A5] 117)) := (Below.refl _ _).alloc (Nat.le_refl _) _
  clear HR hR
  by_cases hk : 1 ≤ A2 ∧ A2 ≤ 8
  · have HQ : Hid (kindB A2 = true) := Lib.hid (decide_eq_true hk)
    by_cases hx : x = W
    · have hQ1 : Q = true := by rw [← hQ, HQ.out, decide_eq_true hx]; rfl
      subst hQ1
      have hxb : (x == W) = true := by simp [hx]
      clear hQ
      go_enter Tryz.func105, Tryz.ntmps105
      go_wp2_with fail
      refine (specKind_yes A2 _ hk).mono ?_
      rintro e w1 ⟨rfl, rfl⟩
      go_wp2_with fail
      refine (wire_as A2 W hW _).mono ?_
      rintro e w1 ⟨rfl, rfl⟩
      go_wp2_with fail
      go_ret
      exact ⟨rfl, hl⟩
    · have hxb : (x == W) = false := neI hx
      by_cases h2 : x = 2
      · have h2b : (x == 2) = true := by simp [h2]
        have hQ1 : Q = R := by rw [← hQ, HQ.out, decide_eq_false hx, decide_eq_true h2]; rfl
        subst hQ1
        clear hQ hx h2
        go_enter Tryz.func105, Tryz.ntmps105
        go_wp2_with fail
        refine (specKind_yes A2 _ hk).mono ?_
        rintro e w1 ⟨rfl, rfl⟩
        go_wp2_with fail
        refine (wire_as A2 W hW _).mono ?_
        rintro e w1 ⟨rfl, rfl⟩
        go_wp2_with fail
        refine (HR'.out _).mono ?_
        rintro e w1 ⟨rfl, hb1⟩
        go_wp2_with fail
        go_ret
        exact ⟨rfl, from_alloc hb1⟩
      · have h2b : (x == 2) = false := neI h2
        have hQ1 : Q = false := by rw [← hQ, HQ.out, decide_eq_false hx, decide_eq_false h2]; rfl
        subst hQ1
        clear hQ hx h2
        go_enter Tryz.func105, Tryz.ntmps105
        go_wp2_with fail
        refine (specKind_yes A2 _ hk).mono ?_
        rintro e w1 ⟨rfl, rfl⟩
        go_wp2_with fail
        refine (wire_as A2 W hW _).mono ?_
        rintro e w1 ⟨rfl, rfl⟩
        go_wp2_with fail
        go_ret
        exact ⟨rfl, hl⟩
  · have HQ : Hid (kindB A2 = false) := Lib.hid (decide_eq_false hk)
    by_cases h2 : x = 2
    · have h2b : (x == 2) = true := by simp [h2]
      have hQ1 : Q = R := by rw [← hQ, HQ.out, decide_eq_true h2]; rfl
      subst hQ1
      clear hQ h2
      go_enter Tryz.func105, Tryz.ntmps105
      go_wp2_with fail
      refine (specKind_no A2 _ hk).mono ?_
      rintro e w1 ⟨rfl, rfl⟩
      go_wp2_with fail
      refine (HR'.out _).mono ?_
      rintro e w1 ⟨rfl, hb1⟩
      go_wp2_with fail
      go_ret
      exact ⟨rfl, from_alloc hb1⟩
    · have h2b : (x == 2) = false := neI h2
      have hQ1 : Q = false := by rw [← hQ, HQ.out, decide_eq_false h2]; rfl
      subst hQ1
      clear hQ h2
      go_enter Tryz.func105, Tryz.ntmps105
      go_wp2_with fail
      refine (specKind_no A2 _ hk).mono ?_
      rintro e w1 ⟨rfl, rfl⟩
      go_wp2_with fail
      go_ret
      exact ⟨rfl, hl⟩
theorem specNumEvent_any (f : RF) (u : Nat) (w : World) :
    Calls Tryz.prog 143 #[fieldV f, .int .u64 u] w fun e w' => e = .returned (evV (numE f u)) ∧ Below w.heap.size w w' := by
  obtain ⟨n, hn⟩ : ∃ n, numB f.2.1 u = n := ⟨_, rfl⟩
  unfold numE
  rw [hn]
  obtain ⟨A1, A2, A3, A4, A5⟩ := f
  unfold fieldV evV
  simp only at hn ⊢
  unfold numB at hn
  by_cases h3 : A2 = 3
  · have h3b : (A2 == 3) = true := by simp [h3]
    by_cases hu : 1 < u
    · have hn1 : n = 1 := by rw [← hn, if_pos ⟨h3, hu⟩]
      subst hn1
      have hub : (1 : Int) < (u : Int) := by omega
      clear hn h3 hu
      go_enter Tryz.func143, Tryz.ntmps143
      go_wp2_with fail
      refine bodyPost_ret (v := .agg #[.int .i64 2, .int .i64 A1, .int .u64 1, .int .i64 0, .string ⟨#[]⟩, .int .i64 0, .int .i64 0]) (by simp [results, Tryz.results143, go_sem]) rfl ⟨rfl, ?_⟩
      exact ((Below.refl _ _).alloc (Nat.le_refl _) _).alloc (by simp) _
    · have hn1 : n = u := by rw [← hn, if_neg (fun h => hu h.2)]
      subst hn1
      have hub : ¬ (1 : Int) < (n : Int) := by omega
      clear hn h3 hu
      go_enter Tryz.func143, Tryz.ntmps143
      go_wp2_with fail
      refine bodyPost_ret (v := .agg #[.int .i64 2, .int .i64 A1, .int .u64 n, .int .i64 0, .string ⟨#[]⟩, .int .i64 0, .int .i64 0]) (by simp [results, Tryz.results143, go_sem]) rfl ⟨rfl, ?_⟩
      exact ((Below.refl _ _).alloc (Nat.le_refl _) _).alloc (by simp) _
  · have h3b : (A2 == 3) = false := neI h3
    have hn1 : n = u := by rw [← hn, if_neg (fun h => h3 h.1)]
    subst hn1
    clear hn h3
    go_enter Tryz.func143, Tryz.ntmps143
    go_wp2_with fail
    refine bodyPost_ret (v := .agg #[.int .i64 2, .int .i64 A1, .int .u64 n, .int .i64 0, .string ⟨#[]⟩, .int .i64 0, .int .i64 0]) (by simp [results, Tryz.results143, go_sem]) rfl ⟨rfl, ?_⟩
    exact ((Below.refl _ _).alloc (Nat.le_refl _) _).alloc (by simp) _
theorem Box.fourC {w : World} {g : Nat} {a b c d : Value} (h : Box w g [a, b, c, d]) : w.cell? ⟨g, 0, none⟩ = some a ∧ w.cell? ⟨g, 1, none⟩ = some b ∧ w.cell? ⟨g, 2, none⟩ = some c ∧ w.cell? ⟨g, 3, none⟩ = some d :=
  ⟨(h.2 0 (by simp)).1, (h.2 1 (by simp)).1, (h.2 2 (by simp)).1, (h.2 3 (by simp)).1⟩
theorem schema_as {v : Value} {r : List RM} {R : Bool} (hR : schemaB r = R) (w : World) (h : RawAt w (· < w.heap.size) v r) (hr : Small r) :
    Calls Tryz.prog 68 #[v] w fun e w' => e = .returned (.bool R) ∧ Below w.heap.size w w' := hR ▸ specSchemaOk_any v r w h hr
theorem specPlanOk_any (u : Value) (r : List RM) (A B C : Int) (w : World) (h : MsgsAt w (· < w.heap.size) u r) (hr : Small r) :
    Calls Tryz.prog 23 #[planV u A B C] w fun e w' => e = .returned (.bool (planB r A B C)) ∧ Below w.heap.size w w' := by
  obtain ⟨R, hR⟩ : ∃ R, schemaB r = R := ⟨_, rfl⟩
  obtain ⟨a, cap, rfl⟩ := h.len
  unfold planV planB
  rw [hR]
  have hrl := hr.1
  have H := Lib.hid h
  have Hr := Lib.hid hr
  clear h hr
  have HM := Lib.hid (H.out.keep (.of_below (Below.alloc (Below.refl w.heap.size w) (Nat.le_refl _) (.cells #[.slice a r.length cap, .int .i64 A, .int .i64 B, .int .i64 C] 28)) fun b hb => hb) fun b hb => show b < (w.alloc (.cells #[.slice a r.length cap, .int .i64 A, .int .i64 B, .int .i64 C] 28)).heap.size from by simp; omega)
  have hbx : Box (w.alloc (.cells #[.slice a r.length cap, .int .i64 A, .int .i64 B, .int .i64 C] 28)) w.heap.size [.slice a r.length cap, .int .i64 A, .int .i64 B, .int .i64 C] := Box.fresh w #[.slice a r.length cap, .int .i64 A, .int .i64 B, .int .i64 C] 28
  go_enter Tryz.func23, Tryz.ntmps23
  go_wp2_with fail
  refine (schema_as hR _ HM.out.raw Hr.out).mono ?_
  rintro e w1 ⟨rfl, hb1⟩
  obtain ⟨c0, c1, c2, c3⟩ := (hbx.below hb1 hbx.lt).fourC
  have hl1 := from_alloc hb1
  have hwr : IntKind.i64.wrap ((r.length : Int) - 1) = (r.length : Int) - 1 := IntWalk.i64_in _ (by omega)
  have d1 : (decide (0 ≤ A ∧ A ≤ (r.length : Int) - 1) = true) ∨ (decide (0 ≤ A ∧ A ≤ (r.length : Int) - 1) = false) := by cases decide (0 ≤ A ∧ A ≤ (r.length : Int) - 1) <;> simp
  have d2 : (decide (1 ≤ B ∧ B ≤ 8) = true) ∨ (decide (1 ≤ B ∧ B ≤ 8) = false) := by cases decide (1 ≤ B ∧ B ≤ 8) <;> simp
  have d3 : (decide (0 ≤ C ∧ C ≤ 2000) = true) ∨ (decide (0 ≤ C ∧ C ≤ 2000) = false) := by cases decide (0 ≤ C ∧ C ≤ 2000) <;> simp
  clear hbx hb1 HM H
  cases R with
  | false =>
    go_wp2_with fail
    go_ret
    exact ⟨rfl, hl1⟩
  | true =>
    go_wp2_with fail
    refine (specIn_any _ _ _ _).mono ?_
    rintro e w2 ⟨rfl, rfl⟩
    rcases d1 with d1 | d1
    · rw [d1]
      go_wp2_with fail
      refine (specIn_any _ _ _ _).mono ?_
      rintro e w2 ⟨rfl, rfl⟩
      rcases d2 with d2 | d2
      · rw [d2]
        go_wp2_with fail
        refine (specIn_any _ _ _ _).mono ?_
        rintro e w2 ⟨rfl, rfl⟩
        rcases d3 with d3 | d3
        · rw [d3]
          go_wp2_with fail
          go_ret
          exact ⟨by rw [d1, d2, d3]; rfl, hl1⟩
        · rw [d3]
          go_wp2_with fail
          go_ret
          exact ⟨by rw [d1, d2, d3]; rfl, hl1⟩
      · rw [d2]
        go_wp2_with fail
        go_ret
        exact ⟨by rw [d1, d2]; rfl, hl1⟩
    · rw [d1]
      go_wp2_with fail
      go_ret
      exact ⟨by rw [d1]; rfl, hl1⟩
end Go.Proofs.YtpkofbdfnbpfpaaGreat.Num


/-
  Lemmas on a byte slice that the call itself made, told by its cells (so the slice of a converted string is one too): what it holds as a list of bytes, what append, a store and string(..) do to it. For any program.
-/
namespace Go.Proofs.YtpkofbdfnbpfpaaGreat.Num
open Go.RowKit Go.Proofs

/-- The slice value v lies at the head of a block from B on, holds just the bytes l, and all its cells up to the capacity may be written. -/
def OwnM (w : World) (B : Nat) (v : Value) (l : List UInt8) : Prop :=
  ∃ g cap, v = .slice (some ⟨g, 0, none⟩) l.length cap ∧ B ≤ g ∧ g < w.heap.size ∧ l.length ≤ cap ∧ (∀ j (h : j < l.length), w.cell? ⟨g, j, none⟩ = some (byteV l[j])) ∧
    ∀ j, j < cap → (w.cell? ⟨g, j, none⟩).isSome = true ∧ w.frozen? ⟨g, j, none⟩ = false
section
variable {w : World} {B : Nat} {E : TypeId} {v : Value} {l : List UInt8}
theorem OwnM.drew (h : OwnM w B v l) : OwnM w.drew B v l := h
theorem OwnM.mono {C : Nat} (h : OwnM w B v l) (hC : C ≤ B) : OwnM w C v l := by
  obtain ⟨g, cap, hv, hB, hr⟩ := h
  exact ⟨g, cap, hv, Nat.le_trans hC hB, hr⟩
/-- New memory leaves it as it is. -/
theorem OwnM.below {w' : World} (h : OwnM w B v l) (hb : Below w.heap.size w w') : OwnM w' B v l := by
  obtain ⟨g, cap, hv, hB, hg, hl, hc, ho⟩ := h
  refine ⟨g, cap, hv, hB, Nat.lt_of_lt_of_le hg hb.size, hl, fun j hj => (hb.cell (p := ⟨g, j, none⟩) hg).trans (hc j hj), fun j hj => ?_⟩
  rw [hb.cell (p := ⟨g, j, none⟩) hg, hb.frozen (p := ⟨g, j, none⟩) hg]
  exact ho j hj
theorem OwnM.alloc (h : OwnM w B v l) (o : Obj) : OwnM (w.alloc o) B v l := h.below ((Below.refl _ _).alloc (Nat.le_refl _) o)
/-- The bytes of a string, laid in a new row. -/
theorem OwnM.of_cells {g cap : Nat} {C : Array Value} {fr : Nat × Nat} (hblk : w.heap[g]? = some (.cells C E fr)) (hB : B ≤ g) (hl : l.length ≤ cap) (hcap : cap ≤ C.size) (hC : ∀ j (h : j < l.length), C[j]? = some (byteV l[j])) (hf : ∀ j, j < cap → w.frozen? ⟨g, j, none⟩ = false) :
    OwnM w B (.slice (some ⟨g, 0, none⟩) l.length cap) l := by
  have hg : g < w.heap.size := by
    rcases Nat.lt_or_ge g w.heap.size with h' | h'
    · exact h'
    · rw [Array.getElem?_eq_none h'] at hblk; cases hblk
  refine ⟨g, cap, rfl, hB, hg, hl, fun j hj => ?_, fun j hj => ⟨?_, hf j hj⟩⟩
  · rw [cell_of_row w g j C E fr hblk]; exact hC j hj
  · rw [cell_of_row w g j C E fr hblk, Array.getElem?_eq_getElem (by omega)]; rfl
theorem OwnM.of_own (h : OwnB w B E v l) (h0 : 0 < l.length) : OwnM w B v l := by
  have h2 := h
  obtain ⟨hl, h | ⟨g, cap, cur, rfl, hg, hblk, hn, _, hsz, htk⟩⟩ := h
  · omega
  · refine OwnM.of_cells hblk hg hn (by omega) (fun j hj => ?_) (fun j _ => World.ownsRow.frozenAt h2 j)
    have := World.ownsRow.cellAt h2 j (by omega)
    rw [cell_of_row w g j cur E (0, 0) hblk] at this
    rw [this]; simp [hj]
/-- One byte is stored over another. -/
theorem OwnM.store {g cap n : Nat} (h : OwnM w B (.slice (some ⟨g, 0, none⟩) n cap) l) (j : Nat) (hj : j < l.length) (b : UInt8) : OwnM (w.setCell ⟨g, j, none⟩ (byteV b)) B (.slice (some ⟨g, 0, none⟩) n cap) (l.set j b) := by
  obtain ⟨g', cap', hv, hB, hg, hl, hc, ho⟩ := h
  injection hv with h1 h2 h3
  injection h1 with h1
  injection h1 with h1
  subst h1; subst h2; subst h3
  have hold := hc j hj
  refine ⟨g, cap, by rw [List.length_set], hB, by simpa [World.setCell] using hg, by rw [List.length_set]; exact hl, fun i hi => ?_, fun i hi => ?_⟩
  · rw [List.length_set] at hi
    by_cases e : j = i
    · subst e
      rw [World.cell?_setCell_same _ _ _ hold]; simp
    · rw [World.cell?_setCell_other _ _ _ _ (by intro h; injection h with _ h; exact e h), hc i hi, List.getElem_set_ne e]
  · rw [World.frozen?_setCell]
    refine ⟨?_, (ho i hi).2⟩
    by_cases e : j = i
    · subst e
      rw [World.cell?_setCell_same _ _ _ hold]; rfl
    · rw [World.cell?_setCell_other _ _ _ _ (by intro h; injection h with _ h; exact e h)]; exact (ho i hi).1
theorem OwnM.value (h : OwnM w B v l) : ∃ g cap, v = .slice (some ⟨g, 0, none⟩) l.length cap ∧ B ≤ g ∧ g < w.heap.size := by
  obtain ⟨g, cap, hv, hB, hg, _⟩ := h
  exact ⟨g, cap, hv, hB, hg⟩
theorem OwnM.place {g cap n : Nat} (h : OwnM w B (.slice (some ⟨g, 0, none⟩) n cap) l) : B ≤ g ∧ g < w.heap.size := by
  obtain ⟨g', cap', hv, hB, hg, _⟩ := h
  injection hv with h1 _ _
  injection h1 with h1
  injection h1 with h1
  subst h1
  exact ⟨hB, hg⟩
theorem OwnM.cell {g cap n : Nat} (h : OwnM w B (.slice (some ⟨g, 0, none⟩) n cap) l) (j : Nat) (hj : j < l.length) : w.cell? ⟨g, j, none⟩ = some (.int .u8 (l[j].toNat : Int)) ∧ w.frozen? ⟨g, j, none⟩ = false := by
  obtain ⟨g', cap', hv, hB, hg, hl, hc, ho⟩ := h
  injection hv with h1 h2 h3
  injection h1 with h1
  injection h1 with h1
  subst h1
  exact ⟨hc j hj, (ho j (by omega)).2⟩
/-- 'string(b)'. -/
theorem run_convM {P : Program} (src dst : TypeId) (hs : P.underlying src = some (.slice E)) (he : P.underlying E = some (.int .u8)) (hd : P.underlying dst = some .string) (h : OwnM w B v l) :
    (convert src dst v).run P w = .ok (.string ⟨l.toArray⟩) w := by
  obtain ⟨g, cap, rfl, _, _, _, hc, _⟩ := h
  exact run_convert_bytes_back (P := P) w src dst E ⟨g, 0, none⟩ cap l hs he hd (fun j hj => by
    have hadd : (⟨g, 0, none⟩ : Addr).add j = ⟨g, j, none⟩ := by unfold Addr.add; split <;> simp_all
    rw [hadd]; exact hc j hj)
theorem below_setCells {C : Nat} {w0 : World} (g : Nat) (hg : C ≤ g) : ∀ (vs : List Value) (o : Nat) (w : World), Below C w0 w → Below C w0 (w.setCells g o vs)
  | [], _, _, h => h
  | _ :: r, o, _, h => below_setCells g hg r (o + 1) _ (h.setCell hg _)
theorem run_appM {P : Program} (t ty : TypeId) (i : TypeInfo) (ht : P.underlying t = some (.slice E)) (hi : P.info? E = some i) (hz : i.zero = some (.int .u8 0)) (hsize : i.size = 1) (hby : i.bytes = 1)
    (hown : OwnM w B v l) (b : Nat) (C : Array Value) (fr : Nat × Nat) (hb : w.heap[b]? = some (.cells C E fr)) (m c : Nat) (new : List UInt8) (hC : C.toList = new.map byteV) (hm : new.length = m)
    (hlen : l.length + m ≤ 140737488355328) (hB : B ≤ w.heap.size) :
    ∃ v' w', (Builtin.append_ #[t, t] ty #[v, .slice (some ⟨b, 0, none⟩) m c]).run P w = .ok v' w' ∧ OwnM w' B v' (l ++ new) ∧ Below B w w' := by
  subst hm
  obtain ⟨g, cap, rfl, hBg, hg, hl, hc, ho⟩ := hown
  have hnews : ∀ j u, (new.map byteV)[j]? = some u → w.cell? ((⟨b, 0, none⟩ : Addr).add j) = some u := fun j u hj => World.news_of_block hb j u (by rw [hC]; exact hj)
  have hadd : ∀ j, (⟨g, 0, none⟩ : Addr).add j = ⟨g, j, none⟩ := fun j => by unfold Addr.add; split <;> simp_all
  by_cases hroom : l.length + new.length ≤ cap
  · have hr := run_append_room_cells (P := P) w t ty E i ht hi g 0 l.length cap ⟨b, 0, none⟩ new.length c (new.map byteV) (by rw [hsize]; simp) hnews (oneCell_map new) hroom
      (fun j hj => by rw [hsize]; simp only [List.length_map] at hj; simpa using (ho (l.length + j) (by omega)).1) (fun j hj => by rw [hsize]; simp only [List.length_map] at hj; simpa using (ho (l.length + j) (by omega)).2)
    rw [hsize] at hr
    simp only [Nat.zero_add, Nat.mul_one] at hr
    refine ⟨_, _, hr, ⟨g, cap, by rw [List.length_append], hBg, ?_, by rw [List.length_append]; exact hroom, fun j hj => ?_, fun j hj => ?_⟩, below_setCells g hBg _ _ _ (Below.refl _ _)⟩
    · have := (below_setCells g (Nat.zero_le _) (new.map byteV) l.length w (Below.refl 0 w)).size
      omega
    · by_cases hj2 : j < l.length
      · rw [World.cell?_setCells_out g _ _ _ _ (fun _ _ => .inl hj2), hc j hj2, List.getElem_append_left hj2]
      · have hj3 : j - l.length < new.length := by rw [List.length_append] at hj; omega
        have := World.cell?_setCells_in g (new.map byteV) l.length w (fun i hi => by simp only [List.length_map] at hi; exact (ho (l.length + i) (by omega)).1) (j - l.length) (by simpa using hj3)
        rw [show l.length + (j - l.length) = j by omega] at this
        rw [this, List.getElem_append_right (by omega)]
        simp
    · rw [World.frozen?_setCells]
      refine ⟨?_, (ho j hj).2⟩
      by_cases hj2 : j < l.length ∨ l.length + new.length ≤ j
      · rw [World.cell?_setCells_out g _ _ _ _ (fun _ _ => by simpa using hj2)]; exact (ho j hj).1
      · have := World.cell?_setCells_in g (new.map byteV) l.length w (fun i hi => by simp only [List.length_map] at hi; exact (ho (l.length + i) (by omega)).1) (j - l.length) (by simp; omega)
        rw [show l.length + (j - l.length) = j by omega] at this
        rw [this]; rfl
  · obtain ⟨v', w', hr, hown, hgr⟩ := run_append_arg_grows (P := P) w t ty E i (.int .u8 0) 1 1 ht hi hz hsize hby rfl (by decide) ⟨g, 0, none⟩ l.length cap (l.map byteV) (by simp)
      (fun j u hj => by
        obtain ⟨hj2, rfl⟩ := List.getElem?_eq_some_iff.1 hj
        rw [hadd]
        have hj3 : j < l.length := by simpa using hj2
        rw [hc j hj3]; simp) ⟨b, 0, none⟩ new.length c (new.map byteV) (by simp) hnews (by omega) (by unfold maxLen; omega) (by omega)
    have hown2 : OwnB w' w.heap.size E v' (l ++ new) := by unfold OwnB; rw [List.length_append, List.map_append]; exact hown
    refine ⟨v', w', hr, ?_, (Below.refl _ _).grown hgr hB (fun k hk => by cases hk)⟩
    obtain ⟨g', cap', hv, hB', hrest⟩ := OwnM.of_own hown2 (by rw [List.length_append]; omega)
    exact ⟨g', cap', hv, by omega, hrest⟩
/-- append, at the list of a plain region's operations. -/
theorem wpList_appM {P : Program} {ops : Array Oper} {rest : List Oper} {o : Oper} {a : Act} {Q : Exit → Act → World → Prop} (hgd : o.guard = none) (s x : Operand) (t : TypeId)
    (ho : o.op = .call { callee := .builtin .append, args := #[s, x], argTypes := #[t, t] })
    (B : Nat) (E : TypeId) (i : TypeInfo) (ht : P.underlying t = some (.slice E)) (hi : P.info? E = some i) (hz : i.zero = some (.int .u8 0)) (hsize : i.size = 1) (hby : i.bytes = 1)
    (v : Value) (l : List UInt8) (hs : a.eval s = v) (hown : OwnM w B v l) (b : Nat) (C : Array Value) (fr : Nat × Nat) (hb : w.heap[b]? = some (.cells C E fr)) (m c : Nat) (hx : a.eval x = .slice (some ⟨b, 0, none⟩) m c)
    (new : List UInt8) (hC : C.toList = new.map byteV) (hm : new.length = m) (hlen : l.length + m ≤ 140737488355328) (hB : B ≤ w.heap.size)
    (h : ∀ v' w', OwnM w' B v' (l ++ new) → Below B w w' → wpList P ops Q rest (a.put o.dst v') w') : wpList P ops Q (o :: rest) a w := by
  refine wpList_plain hgd fun _ hK => ?_
  obtain ⟨v', w', hr, h2, h3⟩ := run_appM (P := P) t o.type i ht hi hz hsize hby hown b C fr hb m c new hC hm hlen hB
  unfold Oper.wp execOp
  simp only [ho, resolve, invoke, builtin, Sem.run_bind, Sem.run_pure, Result.andThen_ok, List.map_toArray, List.map_cons, List.map_nil, hs, hx, hr]
  exact hK _ _ (h v' w' h2 h3)
end
end Go.Proofs.YtpkofbdfnbpfpaaGreat.Num


/-
  Plain lemmas on base-128 varints as lists of bytes: padded encodings, what a reader finds, that the two are one.
-/
namespace Go.Proofs.YtpkofbdfnbpfpaaGreat.Var

def by' (n : Nat) : UInt8 := UInt8.ofNat n
theorem by_toNat {n : Nat} (h : n < 256) : (by' n).toNat = n := by unfold by'; simp [UInt8.toNat_ofNat']; omega
/-- u in exactly n bytes (n at least 1). -/
def enc : Nat → Nat → List UInt8
  | 0, _ => []
  | 1, u => [by' (u % 128)]
  | n + 2, u => by' (u % 128 + 128) :: enc (n + 1) (u / 128)
theorem enc_length : ∀ n u, (enc n u).length = n
  | 0, _ => rfl
  | 1, _ => rfl
  | n + 2, u => by simp only [enc, List.length_cons]; rw [enc_length (n + 1) (u / 128)]
/-- How many bytes the shortest encoding has. -/
def lenF : Nat → Nat → Nat
  | 0, _ => 1
  | f + 1, u => if u ≤ 127 then 1 else lenF f (u / 128) + 1
def varLen (u : Nat) : Nat := lenF u u
theorem lenF_eq : ∀ f g u, u ≤ f → u ≤ g → lenF f u = lenF g u
  | 0, 0, _, _, _ => rfl
  | 0, g + 1, u, h, _ => by
    have : u = 0 := by omega
    subst this; rfl
  | f + 1, 0, u, _, h => by
    have : u = 0 := by omega
    subst this; rfl
  | f + 1, g + 1, u, h1, h2 => by
    simp only [lenF]
    split
    · rfl
    · rw [lenF_eq f g (u / 128) (by omega) (by omega)]
theorem varLen_small {u : Nat} (h : u ≤ 127) : varLen u = 1 := by
  unfold varLen
  cases u with
  | zero => rfl
  | succ n => simp only [lenF]; rw [if_pos h]
theorem varLen_big {u : Nat} (h : 127 < u) : varLen u = varLen (u / 128) + 1 := by
  unfold varLen
  cases u with
  | zero => omega
  | succ n => simp only [lenF]; rw [if_neg (by omega), lenF_eq n ((n + 1) / 128) _ (by omega) (Nat.le_refl _)]
theorem varLen_induct {P : Nat → Prop} (hs : ∀ u, u ≤ 127 → P u) (hb : ∀ u, 127 < u → P (u / 128) → P u) (u : Nat) : P u := by
  induction u using Nat.strongRecOn with
  | ind u ih =>
    by_cases h : u ≤ 127
    · exact hs u h
    · exact hb u (by omega) (ih (u / 128) (by omega))
theorem varLen_pos (u : Nat) : 1 ≤ varLen u := by
  induction u using varLen_induct with
  | hs u h => rw [varLen_small h]; exact Nat.le_refl 1
  | hb u h ih => rw [varLen_big h]; omega
theorem lt_pow_varLen (u : Nat) : u < 128 ^ varLen u := by
  induction u using varLen_induct with
  | hs u h => rw [varLen_small h]; omega
  | hb u h ih => rw [varLen_big h, Nat.pow_succ]; omega
theorem varLen_le {u n : Nat} (hn : 1 ≤ n) (h : u < 128 ^ n) : varLen u ≤ n := by
  induction n generalizing u with
  | zero => omega
  | succ n ih =>
    by_cases hu : u ≤ 127
    · rw [varLen_small hu]; omega
    · rw [varLen_big (by omega)]
      cases n with
      | zero => simp at h; omega
      | succ m =>
        have : u / 128 < 128 ^ (m + 1) := by rw [Nat.pow_succ] at h; omega
        have := ih (by omega) this
        omega
theorem varLen_64 {u : Nat} (h : u ≤ 18446744073709551615) : varLen u ≤ 10 := varLen_le (by omega) (by omega)
/-- The shortest encoding. -/
def put (u : Nat) : List UInt8 := enc (varLen u) u
theorem put_small {u : Nat} (h : u ≤ 127) : put u = [by' u] := by unfold put; rw [varLen_small h]; simp only [enc]; rw [Nat.mod_eq_of_lt (by omega)]
theorem put_big {u : Nat} (h : 127 < u) : put u = by' (u % 128 + 128) :: put (u / 128) := by
  unfold put
  rw [varLen_big h]
  have := varLen_pos (u / 128)
  obtain ⟨m, hm⟩ : ∃ m, varLen (u / 128) = m + 1 := ⟨varLen (u / 128) - 1, by omega⟩
  rw [hm]
  rfl
theorem put_length (u : Nat) : (put u).length = varLen u := enc_length _ _
/-- One byte more: the last byte gets the high bit, a byte 0 follows. -/
theorem enc_last : ∀ n u, 1 ≤ n → ∃ i l, enc n u = i ++ [l] ∧ l.toNat < 128 ∧ i.length + 1 = n
  | 0, _, h => by omega
  | 1, u, _ => ⟨[], by' (u % 128), rfl, by rw [by_toNat (by omega)]; omega, rfl⟩
  | n + 2, u, _ => by
    obtain ⟨i, l, e, hl, hi⟩ := enc_last (n + 1) (u / 128) (by omega)
    exact ⟨by' (u % 128 + 128) :: i, l, by simp only [enc]; rw [e]; rfl, hl, by simp only [List.length_cons]; omega⟩
theorem enc_more : ∀ n u i l, enc (n + 1) u = i ++ [l] → u < 128 ^ (n + 1) → enc (n + 2) u = i ++ [by' (l.toNat + 128), by' 0]
  | 0, u, i, l, e, h => by
    have h' : u < 128 := by simpa using h
    simp only [enc] at e
    have hi : i = [] := by
      cases i with
      | nil => rfl
      | cons a t => simp at e
    subst hi
    simp only [List.nil_append, List.cons.injEq, and_true] at e
    subst e
    simp only [enc, List.nil_append]
    rw [by_toNat (by omega), show u / 128 % 128 = 0 by omega]
  | n + 1, u, i, l, e, h => by
    rw [show enc (n + 1 + 1) u = by' (u % 128 + 128) :: enc (n + 1) (u / 128) from rfl] at e
    cases i with
    | nil =>
      have := congrArg List.length e
      simp [enc_length] at this
    | cons a t =>
      simp only [List.cons_append, List.cons.injEq] at e
      obtain ⟨rfl, e⟩ := e
      have hd : u / 128 < 128 ^ (n + 1) := by rw [Nat.pow_succ] at h; omega
      have ih := enc_more n (u / 128) t l e hd
      rw [show enc (n + 1 + 2) u = by' (u % 128 + 128) :: enc (n + 2) (u / 128) from rfl, ih]
      rfl

/-- What a reader finds. -/
inductive Res where
  | more : Res
  | over : Nat → Res
  | done : Nat → Nat → Res
/-- Reading on at place k with the value u so far. -/
def scan (k u : Nat) : List UInt8 → Res
  | [] => .more
  | c :: r => if k = 9 ∧ 1 < c.toNat then .over k else if c.toNat < 128 then .done (u + c.toNat % 128 * 2 ^ (7 * k)) (k + 1) else scan (k + 1) (u + c.toNat % 128 * 2 ^ (7 * k)) r
/-- What was read is an encoding of the value. -/
theorem scan_done : ∀ (r : List UInt8) (k u v m : Nat), k ≤ 9 → u < 2 ^ (7 * k) → scan k u r = .done v m → ∃ n x, 1 ≤ n ∧ m = k + n ∧ m ≤ 10 ∧ n ≤ r.length ∧ r.take n = enc n x ∧ v = u + x * 2 ^ (7 * k) ∧ x < 128 ^ n ∧ v < 18446744073709551616
  | [], _, _, _, _, _, _, h => by simp [scan] at h
  | c :: r, k, u, v, m, hk, hu, h => by
    have hc : c.toNat < 256 := c.toNat_lt
    have hp : 2 ^ (7 * (k + 1)) = 128 * 2 ^ (7 * k) := by rw [Nat.mul_succ, Nat.pow_add]; omega
    have hpos : 0 < 2 ^ (7 * k) := Nat.two_pow_pos _
    simp only [scan] at h
    split at h
    · cases h
    · rename_i h9
      split at h
      · rename_i hlt
        injection h with h1 h2
        subst h1; subst h2
        have hm : c.toNat % 128 = c.toNat := Nat.mod_eq_of_lt hlt
        have h64 : u + c.toNat % 128 * 2 ^ (7 * k) < 18446744073709551616 := by
          rw [hm]
          by_cases hk9 : k = 9
          · subst hk9
            have : c.toNat ≤ 1 := by omega
            simp only [Nat.reduceMul, Nat.reducePow] at hu ⊢
            omega
          · have h1 : 2 ^ (7 * (k + 1)) ≤ 2 ^ 63 := Nat.pow_le_pow_right (by omega) (by omega)
            have h2 : c.toNat * 2 ^ (7 * k) ≤ 127 * 2 ^ (7 * k) := Nat.mul_le_mul_right _ (by omega)
            rw [hp] at h1
            omega
        refine ⟨1, c.toNat, Nat.le_refl 1, rfl, by omega, by simp, ?_, by rw [hm], by simpa using hlt, h64⟩
        simp only [List.take_succ_cons, List.take_zero, enc, hm]
        congr 1
        unfold by'; simp
      · rename_i hge
        have hk8 : k ≠ 9 := fun e => by
          have := not_and.1 h9 e
          omega
        have hu2 : u + c.toNat % 128 * 2 ^ (7 * k) < 2 ^ (7 * (k + 1)) := by
          have h2 : c.toNat % 128 * 2 ^ (7 * k) ≤ 127 * 2 ^ (7 * k) := Nat.mul_le_mul_right _ (by omega)
          rw [hp]; omega
        obtain ⟨n, x, hn, hm, hm10, hnl, ht, hv, hx, h64⟩ := scan_done r (k + 1) _ v m (by omega) hu2 h
        refine ⟨n + 1, c.toNat % 128 + 128 * x, by omega, by omega, hm10, by simp; omega, ?_, ?_, ?_, h64⟩
        · obtain ⟨q, rfl⟩ : ∃ q, n = q + 1 := ⟨n - 1, by omega⟩
          rw [List.take_succ_cons, ht]
          rw [show enc (q + 1 + 1) (c.toNat % 128 + 128 * x) = by' ((c.toNat % 128 + 128 * x) % 128 + 128) :: enc (q + 1) ((c.toNat % 128 + 128 * x) / 128) from rfl]
          rw [show (c.toNat % 128 + 128 * x) / 128 = x by omega, show (c.toNat % 128 + 128 * x) % 128 + 128 = c.toNat by omega]
          congr 1
          unfold by'; simp
        · rw [hv, hp, Nat.add_mul, ← Nat.mul_assoc, Nat.mul_comm x 128, Nat.add_assoc]
        · rw [Nat.pow_succ]; omega
theorem scan_over : ∀ (r : List UInt8) (k u m : Nat), scan k u r = .over m → m = 9
  | [], _, _, _, h => by simp [scan] at h
  | c :: r, k, u, m, h => by
    simp only [scan] at h
    split at h
    · rename_i h9; injection h with h; omega
    · split at h
      · cases h
      · exact scan_over r (k + 1) _ m h
end Go.Proofs.YtpkofbdfnbpfpaaGreat.Var


/-
  The walks of the reference's PutVar, VarLen, PadVar and GetVar: they give what the plain lemmas on varints say; only new memory is written.
-/
namespace Go.Proofs.YtpkofbdfnbpfpaaGreat.Num
open Go.RowKit Go.Proofs

theorem info_u8v : (Tryz.prog.info? 5).map (fun i => (i.zero, i.size, i.bytes)) = some (some (.int .u8 0), 1, 1) := by kernel_rfl
def varS (u : Nat) : ByteArray := ⟨(Var.put u).toArray⟩
set_option maxHeartbeats 800000 in
theorem specPutVar_any (u : Nat) (w : World) (hu : u ≤ 18446744073709551615) :
    Calls Tryz.prog 80 #[.int .u64 u] w fun e w' => e = .returned (.string (varS u)) ∧ Below w.heap.size w w' := by
  obtain ⟨i0, hi, hz0, hz1, hz2⟩ := info_parts info_u8v
  go_enter Tryz.func80, Tryz.ntmps80
  go_wp2_with fail
  go_loopw [0, 3] (fun x v wr => ∃ (k : Nat) (l : List UInt8), x = .int .u64 k ∧ k ≤ 18446744073709551615 ∧ OwnB wr w.heap.size 5 v l ∧ Hid (Var.put u = l ++ Var.put k) ∧ l.length ≤ 10 ∧ Below w.heap.size w wr) (fun x _ _ => (intOf x).toNat)
  case atStart => exact ⟨u, [], rfl, hu, OwnB.empty (Nat.le_refl _), Lib.hid rfl, by simp, (Below.refl _ _).alloc (Nat.le_refl _) _⟩
  case round =>
    obtain ⟨k, l, rfl, hk, hown, hput, hl, hb⟩ := hrel
    have hsz := hb.size
    by_cases hlt : (127 : Int) < k
    · have hw : IntKind.u8.wrap ((k : Int) % 128 + 128) = (k : Int) % 128 + 128 := IntWalk.u8_in _ (by omega)
      have hbv : [Value.int .u8 ((k : Int) % 128 + 128)] = [Var.by' (k % 128 + 128)].map byteV := by simp only [List.map_cons, List.map_nil, byteV]; rw [Var.by_toNat (by omega)]; rfl
      have Hbv := Lib.hid hbv; clear hbv
      go_wp2_with (at_builtin; refine wpList_appB rfl _ _ 22 rfl w.heap.size 5 i0 Tryz.underlying22 hi hz0 hz1 hz2 _ l rfl (hown.alloc _) wr.heap.size _ (0, 0) (heap_alloc_new _ _) 1 1 rfl _ Hbv.out rfl (by omega) (by omega) (by simp; omega) ?_; intro v' w2 hown2 hb2)
      have Hp : Hid (Var.put u = (l ++ [Var.by' (k % 128 + 128)]) ++ Var.put (k / 128)) := Lib.hid (by rw [hput.out, Var.put_big (by omega), List.append_assoc]; rfl)
      have hl2 : (l ++ [Var.by' (k % 128 + 128)]).length ≤ 10 := by
        have := congrArg List.length Hp.out
        rw [Var.put_length, List.length_append] at this
        have := Var.varLen_64 hu
        omega
      have Hl2 := Lib.hid hl2; clear hl2
      have hb3 : Below w.heap.size wr w2 := ((Below.refl _ _).alloc hsz _).trans hb2
      go_wp2_with fail
      go_roundw
      case rel => exact ⟨k / 128, _, by go_num, by omega, hown2, Hp, Hl2.out, hb.trans hb3⟩
      case measure => simp [intOf]; omega
    · have hw : IntKind.u8.wrap (k : Int) = (k : Int) := IntWalk.u8_in _ (by omega)
      have hbv : [Value.int .u8 (k : Int)] = [Var.by' k].map byteV := by simp only [List.map_cons, List.map_nil, byteV]; rw [Var.by_toNat (by omega)]
      have Hbv := Lib.hid hbv; clear hbv
      have Hp : Hid (Var.put u = l ++ [Var.by' k]) := Lib.hid (by rw [hput.out, Var.put_small (by omega)])
      go_wp2_with (at_builtin; refine wpList_appB rfl _ _ 22 rfl w.heap.size 5 i0 Tryz.underlying22 hi hz0 hz1 hz2 _ l rfl (hown.alloc _) wr.heap.size _ (0, 0) (heap_alloc_new _ _) 1 1 rfl _ Hbv.out rfl (by omega) (by omega) (by simp; omega) ?_; intro v' w2 hown2 hb2; have hcv := run_convB (P := Tryz.prog) 22 9 Tryz.underlying22 Tryz.underlying5 Tryz.underlying9 hown2)
      have hb3 : Below w.heap.size wr w2 := ((Below.refl _ _).alloc hsz _).trans hb2
      go_wp2_with fail
      go_ret
      exact ⟨by unfold varS; rw [Hp.out]; rfl, hb.trans hb3⟩
theorem specVarLen_any (u : Nat) (w : World) (hu : u ≤ 18446744073709551615) :
    Calls Tryz.prog 39 #[.int .u64 u] w fun e w' => e = .returned (.int .i64 (Var.varLen u)) ∧ Below w.heap.size w w' := by
  have hl : ((varS u).size : Int) = (Var.varLen u : Int) := by unfold varS ByteArray.size; simp [Var.put_length]
  go_enter Tryz.func39, Tryz.ntmps39
  go_wp2_with fail
  refine (specPutVar_any u _ hu).mono ?_
  rintro e w1 ⟨rfl, hb⟩
  go_wp2_with fail
  go_ret
  exact ⟨rfl, hb⟩
/-- u in n bytes, or nothing. -/
def padS (u : Nat) (n : Int) : ByteArray := if (Var.varLen u : Int) ≤ n ∧ n ≤ 10 then ⟨(Var.enc n.toNat u).toArray⟩ else ⟨#[]⟩
theorem spoilF' {w : World} {b k n : Nat} {C : Array Value} {T : TypeId} (h : w.heap[b]? = some (.cells C T (n, n + 1))) (hk : k < n) : w.frozen? ⟨b, k, none⟩ = false := by
  simp [World.frozen?, h]; omega
def lenV : Value → Nat
  | .slice _ n _ => n
  | _ => 0
theorem strOwn (w : World) (l : List UInt8) : ∃ v w', (convert 9 22 (.string ⟨l.toArray⟩)).run Tryz.prog w = .ok v w' ∧ OwnM w' w.heap.size v l ∧ Below w.heap.size w w' := by
  have h := run_bytes_of_string (P := Tryz.prog) w 9 22 5 ⟨l.toArray⟩ Tryz.underlying9 Tryz.underlying22 Tryz.underlying5
  have hsz : (ByteArray.mk l.toArray).size = l.length := by simp [ByteArray.size]
  have hcap : l.length ≤ grownCap w l.length 0 5 := grownCap_ge _ _ _ _
  rw [hsz] at h
  generalize grownCap w l.length 0 5 = cap at h hcap
  have hrow : (bytesRow ⟨l.toArray⟩ cap).size = cap := by simp [bytesRow, ByteArray.size]; omega
  rw [hrow] at h
  refine ⟨_, _, h, OwnM.of_cells (heap_alloc_new w.drew _) (Nat.le_refl _) hcap (by rw [hrow]; exact Nat.le_refl _) (fun j hj => ?_) (fun j hj => ?_), ((Below.refl w.heap.size w).alloc (Nat.le_refl _) _).drew⟩
  · have hj2 : j < l.toArray.size := by simpa using hj
    simp only [bytesRow, Array.getElem?_append, Array.size_map, Array.getElem?_map]
    rw [if_pos hj2, Array.getElem?_eq_getElem hj2]
    simp [byteV]
  · exact spoilF' (heap_alloc_new w.drew _) hj
set_option maxRecDepth 20000 in
set_option maxHeartbeats 800000 in
theorem specPadVar_any (u : Nat) (n : Int) (w : World) (hu : u ≤ 18446744073709551615) :
    Calls Tryz.prog 156 #[.int .u64 u, .int .i64 n] w fun e w' => e = .returned (.string (padS u n)) ∧ Below w.heap.size w w' := by
  obtain ⟨i0, hi, hz0, hz1, hz2⟩ := info_parts info_u8v
  go_enter Tryz.func156, Tryz.ntmps156
  go_wp2_with fail
  refine (specPutVar_any u _ hu).mono ?_
  rintro e w1 ⟨rfl, hb1⟩
  obtain ⟨v0, w2, hcv, hown0, hb2⟩ := strOwn w1 (Var.put u)
  have hcv' : (convert 9 22 (.string (varS u))).run Tryz.prog w1 = .ok v0 w2 := hcv
  clear hcv
  obtain ⟨g0, cap0, hv0, hB0, hg0⟩ := hown0.value
  have hsz1 := hb1.size
  have hb3 := hb1.trans (hb2.mono hsz1)
  subst hv0
  rw [Var.put_length] at hown0 hcv'
  have hlen : (Var.varLen u : Int) ≤ 10 := by have := Var.varLen_64 hu; omega
  go_wp2_with fail
  refine (specIn_any _ _ _ _).mono ?_
  rintro e w3 ⟨rfl, rfl⟩
  by_cases hin : (Var.varLen u : Int) ≤ n ∧ n ≤ 10
  · have hd : decide ((Var.varLen u : Int) ≤ n ∧ n ≤ 10) = true := decide_eq_true hin
    obtain ⟨N, rfl⟩ := Int.eq_ofNat_of_zero_le (show 0 ≤ n by omega)
    have hN10 : N ≤ 10 := by omega
    have hNl : Var.varLen u ≤ N := by omega
    have hpos := Var.varLen_pos u
    go_wp2_with fail
    go_loopw [5] (fun v wr => ∃ m cap : Nat, Var.varLen u ≤ m ∧ m ≤ N ∧ ∃ g, v = .slice (some ⟨g, 0, none⟩) m cap ∧ Hid (OwnM wr w.heap.size v (Var.enc m u)) ∧ Below w.heap.size w wr) (fun v _ => N - lenV v)
    case atStart => exact ⟨_, cap0, Nat.le_refl _, hNl, g0, rfl, Lib.hid (hown0.mono hsz1), hb3⟩
    case round =>
      obtain ⟨m, cap, hm1, hm2, g, rfl, hown, hb⟩ := hrel
      clear hown0 hcv' hb3 hb1 hb2
      by_cases hlt : m < N
      · obtain ⟨i, c, he, hc, hi1⟩ := Var.enc_last m u (by omega)
        obtain ⟨p, rfl⟩ : ∃ p, m = p + 1 := ⟨m - 1, by omega⟩
        have hip : i.length = p := by omega
        have hown1 := hown.out
        rw [he] at hown1
        have hcf := hown1.cell p (by simp; omega)
        rw [List.getElem_append_right (by omega)] at hcf
        simp only [hip, Nat.sub_self, List.getElem_cons_zero] at hcf
        obtain ⟨hc1, hc2⟩ := hcf
        have hbv : byteV (Var.by' (c.toNat + 128)) = .int .u8 ((c.toNat : Int) + 128) := by unfold byteV; rw [Var.by_toNat (by omega)]; rfl
        have hset : (i ++ [c]).set p (Var.by' (c.toNat + 128)) = i ++ [Var.by' (c.toNat + 128)] := by rw [List.set_append_right _ _ (by omega)]; simp [hip]
        have hst := hown1.store p (by simp; omega) (Var.by' (c.toNat + 128))
        rw [hbv, hset] at hst
        have Hst := Lib.hid hst
        have hul : (i ++ [Var.by' (c.toNat + 128)]).length + 1 ≤ 140737488355328 := by simp; omega
        have hmore := Lib.hid (Var.enc_more p u i c he (Nat.lt_of_lt_of_le (Var.lt_pow_varLen u) (Nat.pow_le_pow_right (by omega) hm1)))
        obtain ⟨hBg, hgw⟩ := hown1.place
        have hadd : IntKind.u8.wrap ((c.toNat : Int) + 128) = (c.toNat : Int) + 128 := IntWalk.u8_in _ (by omega)
        have hsz := hb.size
        have Hblk : Hid (((wr.setCell ⟨g, p, none⟩ (.int .u8 ((c.toNat : Int) + 128))).alloc (.cells #[Value.int .u8 0] 5)).heap[wr.heap.size]? = some (.cells #[Value.int .u8 0] 5 (0, 0))) := Lib.hid (by have h := heap_alloc_new (wr.setCell ⟨g, p, none⟩ (.int .u8 ((c.toNat : Int) + 128))) (.cells #[Value.int .u8 0] 5); rw [show (wr.setCell ⟨g, p, none⟩ (.int .u8 ((c.toNat : Int) + 128))).heap.size = wr.heap.size by simp [World.setCell]] at h; exact h)
        have Hsz : Hid (w.heap.size ≤ ((wr.setCell ⟨g, p, none⟩ (.int .u8 ((c.toNat : Int) + 128))).alloc (.cells #[Value.int .u8 0] 5)).heap.size) := Lib.hid (by simp [World.setCell]; omega)
        clear hown1 hst hset he hbv hul
        have Hul : Hid ((i ++ [Var.by' (c.toNat + 128)]).length + 1 ≤ 140737488355328) := Lib.hid (by simp; omega)
        go_wp2_with (at_builtin; refine wpList_appM rfl _ _ 22 rfl w.heap.size 5 i0 Tryz.underlying22 hi hz0 hz1 hz2 _ _ rfl (Hst.out.alloc _) wr.heap.size _ (0, 0) Hblk.out 1 1 rfl [Var.by' 0] rfl rfl Hul.out Hsz.out ?_; intro v' w4 hown4 hb4)
        have hb5 : Below w.heap.size wr w4 := (((Below.refl _ _).setCell (p := ⟨g, p, none⟩) hBg _).alloc (by simp [World.setCell]; omega) _).trans hb4
        have hfin : OwnM w4 w.heap.size v' (Var.enc (p + 2) u) := by rw [hmore.out]; simpa using hown4
        obtain ⟨g', cap', hv', _, _⟩ := hfin.value
        rw [Var.enc_length] at hv'
        subst hv'
        exact ⟨⟨p + 2, cap', by omega, by omega, g', rfl, Lib.hid hfin, hb.trans hb5⟩, by simp only [lenV]; omega⟩
      · have hmN : m = N := by omega
        subst hmN
        have hcv := run_convM (P := Tryz.prog) 22 9 Tryz.underlying22 Tryz.underlying5 Tryz.underlying9 hown.out
        go_wp2_with fail
        go_ret
        exact ⟨by unfold padS; rw [if_pos hin]; rfl, hb⟩
  · have hd : decide ((Var.varLen u : Int) ≤ n ∧ n ≤ 10) = false := decide_eq_false hin
    go_wp2_with fail
    go_ret
    exact ⟨by unfold padS; rw [if_neg hin]; rfl, hb3⟩
end Go.Proofs.YtpkofbdfnbpfpaaGreat.Num


/-
  The walk of the reference's GetVar: it gives what the plain reader of a varint gives.
-/
namespace Go.Proofs.YtpkofbdfnbpfpaaGreat.Num
open Go.RowKit Go.Proofs
def getV (r : Int × Int × Int) : Value := .tuple #[.int .u64 r.1, .int .i64 r.2.1, .int .i64 r.2.2]
theorem getV_eq {a a' b b' : Int} (h1 : a = a') (h2 : b = b') : Ending.returned (.tuple #[.int .u64 a, .int .i64 b, .int .i64 0]) = .returned (getV (a', b', 0)) := by rw [h1, h2]; rfl
theorem drop_at (s : ByteArray) (k : Nat) (h : k < s.size) : s.data.toList.drop k = s[k] :: s.data.toList.drop (k + 1) := by
  have h2 : k < s.data.toList.length := by simpa using h
  rw [List.drop_eq_getElem_cons h2]; rfl
theorem drop_all (s : ByteArray) (k : Nat) (h : s.size ≤ k) : s.data.toList.drop k = [] := List.drop_eq_nil_of_le (by simpa using h)
theorem two7 (k : Nat) (hk : k ≤ 8) : 2 ^ (7 * k) * 128 ≤ 9223372036854775808 := by
  have : 2 ^ (7 * k) * 128 = 2 ^ (7 * k + 7) := by rw [Nat.pow_add]
  rw [this]
  exact Nat.le_trans (Nat.pow_le_pow_right (by omega) (show 7 * k + 7 ≤ 63 by omega)) (by decide)
theorem shiftAdd (u k c : Nat) (hu : u < 2 ^ (7 * k)) (hk : k ≤ 8 ∨ (k = 9 ∧ c ≤ 1)) :
    IntKind.u64.wrap ((u : Int) + IntKind.u64.wrap ((c : Int) % 128 * 2 ^ (7 * k))) = ((u + c % 128 * 2 ^ (7 * k) : Nat) : Int) := by
  have hx : u + c % 128 * 2 ^ (7 * k) ≤ 18446744073709551615 := by
    rcases hk with hk | ⟨rfl, hc⟩
    · have h1 := two7 k hk
      have h2 : c % 128 * 2 ^ (7 * k) ≤ 127 * 2 ^ (7 * k) := Nat.mul_le_mul_right _ (by omega)
      omega
    · simp only [Nat.reduceMul, Nat.reducePow] at hu ⊢
      have : c % 128 ≤ 1 := by omega
      omega
  have e : (c : Int) % 128 * 2 ^ (7 * k) = ((c % 128 * 2 ^ (7 * k) : Nat) : Int) := by simp
  rw [e]
  generalize c % 128 * 2 ^ (7 * k) = x at hx
  rw [IntKind.wrap_u64, IntKind.wrap_u64]
  omega
theorem shiftAdd9 (u c : Nat) (hu : u < 2 ^ (7 * 9)) (hc : c ≤ 1) : IntKind.u64.wrap ((u : Int) + (c : Int) % 128 * 9223372036854775808) = ((u + c % 128 * 2 ^ (7 * 9) : Nat) : Int) := by
  simp only [Nat.reduceMul, Nat.reducePow] at hu ⊢
  rw [IntKind.wrap_u64]
  omega
theorem scan_step {k u : Nat} {c : UInt8} {r : List UInt8} (hk : k ≤ 8) (hc : 128 ≤ c.toNat) : Var.scan k u (c :: r) = Var.scan (k + 1) (u + c.toNat % 128 * 2 ^ (7 * k)) r := by
  simp only [Var.scan]; rw [if_neg (by omega), if_neg (by omega)]
theorem scan_stop {k u : Nat} {c : UInt8} {r : List UInt8} (hk : k ≤ 8 ∨ (k = 9 ∧ c.toNat ≤ 1)) (hc : c.toNat < 128) : Var.scan k u (c :: r) = .done (u + c.toNat % 128 * 2 ^ (7 * k)) (k + 1) := by
  simp only [Var.scan]; rw [if_neg (by omega), if_pos hc]
theorem scan_far {u : Nat} {c : UInt8} {r : List UInt8} (hc : 1 < c.toNat) : Var.scan 9 u (c :: r) = .over 9 := by
  simp only [Var.scan]; rw [if_pos ⟨trivial, hc⟩]
theorem step_lt {u k c : Nat} (hu : u < 2 ^ (7 * k)) : u + c % 128 * 2 ^ (7 * k) < 2 ^ (7 * (k + 1)) := by
  have hp : 2 ^ (7 * (k + 1)) = 128 * 2 ^ (7 * k) := by rw [Nat.mul_succ, Nat.pow_add]; omega
  have h2 : c % 128 * 2 ^ (7 * k) ≤ 127 * 2 ^ (7 * k) := Nat.mul_le_mul_right _ (by omega)
  omega
end Go.Proofs.YtpkofbdfnbpfpaaGreat.Num


/-
  The walk of the reference's VarWithin: a varint that is read up to a place (withinR), told by the plain reader of a varint over what lies before that place.
-/
namespace Go.Proofs.YtpkofbdfnbpfpaaGreat.Num
open Go.RowKit Go.Proofs
/-- VarWithin's answer, but for the place: out of what a reader finds in the bytes up to the end. -/
def withinRes (s : ByteArray) (a e : Int) : Var.Res → Int × Int × Int
  | .more => if e ≤ s.size then (0, e, 9) else (0, s.size, 10)
  | .over k => (0, a + k, 1)
  | .done v m => (v, a + m, 0)
def withinR (s : ByteArray) (a e : Int) : Int × Int × Int := if 0 ≤ a ∧ a ≤ s.size then withinRes s a e (Var.scan 0 0 ((s.data.toList.drop a.toNat).take (e - a).toNat)) else (0, s.size, 10)
theorem within_in {s : ByteArray} {A : Nat} {e : Int} (h : A ≤ s.size) : withinR s A e = withinRes s A e (Var.scan 0 0 ((s.data.toList.drop A).take (e - A).toNat)) := by
  unfold withinR; rw [if_pos ⟨by omega, by omega⟩, Int.toNat_natCast]
theorem within_out {s : ByteArray} {a e : Int} (h : ¬ (0 ≤ a ∧ a ≤ s.size)) : withinR s a e = (0, (s.size : Int), 10) := by unfold withinR; rw [if_neg h]
theorem take_at (s : ByteArray) (k n : Nat) (h : k < s.size) (hn : 1 ≤ n) : (s.data.toList.drop k).take n = s[k] :: (s.data.toList.drop (k + 1)).take (n - 1) := by
  obtain ⟨m, rfl⟩ : ∃ m, n = m + 1 := ⟨n - 1, by omega⟩
  rw [drop_at s k h]; simp
set_option maxHeartbeats 800000 in
set_option maxRecDepth 100000 in
theorem specWithin_in (s : ByteArray) (A : Nat) (E : Int) (w : World) (hs : s.size ≤ 281474976710656) (hA : A ≤ s.size) :
    Calls Tryz.prog 112 #[.string s, .int .i64 A, .int .i64 E] w fun e w' => e = .returned (getV (withinR s A E)) ∧ w = w' := by
  have Hr := Lib.hid (within_in (e := E) hA)
  have hA2 : (A : Int) ≤ (s.size : Int) := by omega
  have hA0 : (0 : Int) ≤ (A : Int) := by omega
  go_enter Tryz.func112, Tryz.ntmps112
  go_wp2_with fail
  refine (specIn_any _ _ _ _).mono ?_
  rintro e w3 ⟨rfl, rfl⟩
  have hd : decide ((0 : Int) ≤ (A : Int) ∧ (A : Int) ≤ (s.size : Int)) = true := decide_eq_true ⟨hA0, hA2⟩
  go_wp2_with fail
  go_loop [9, 10, 11] (fun x i _ => ∃ (k u : Nat), k ≤ 9 ∧ A + k ≤ s.size ∧ i = .int .i64 k ∧ x = .int .u64 u ∧ Hid (u < 2 ^ (7 * k)) ∧ Hid (Var.scan 0 0 ((s.data.toList.drop A).take (E - A).toNat) = Var.scan k u ((s.data.toList.drop (A + k)).take (E - ((A + k : Nat) : Int)).toNat))) (fun _ i _ => 10 - (intOf i).toNat)
  case atStart => exact ⟨0, 0, by omega, hA, rfl, rfl, Lib.hid (by decide), Lib.hid rfl⟩
  case round =>
    obtain ⟨k, u, hk, hAk, rfl, rfl, hu, hsc⟩ := hrel
    have h10 : (k : Int) < 10 := by omega
    have hw1 : IntKind.i64.wrap ((A : Int) + (k : Int)) = (A : Int) + (k : Int) := IntWalk.i64_in _ (by omega)
    by_cases hE : E ≤ (A : Int) + (k : Int)
    · go_wp2_with fail
      go_ret3
      refine ⟨?_, rfl⟩
      rw [Hr.out, hsc.out, show (E - ((A + k : Nat) : Int)).toNat = 0 by omega]
      simp only [List.take_zero, Var.scan, withinRes]
      rw [if_pos (by omega)]; rfl
    · by_cases hend : A + k < s.size
      · have hc : s[A + k].toNat < 256 := s[A + k].toNat_lt
        have hlt1 : (A : Int) + (k : Int) < (s.size : Int) := by omega
        have hlt0 : (0 : Int) ≤ (A : Int) + (k : Int) := by omega
        have Hdr := Lib.hid (take_at s (A + k) (E - ((A + k : Nat) : Int)).toNat hend (by omega))
        have Hn : Hid ((E - ((A + k : Nat) : Int)).toNat - 1 = (E - ((A + (k + 1) : Nat) : Int)).toNat) := Lib.hid (by omega)
        by_cases h9 : (k : Int) = 9
        · have hk9 : k = 9 := by omega
          subst hk9
          clear h10 hk h9
          by_cases hc1 : (1 : Int) < (s[A + 9].toNat : Int)
          · go_wp2_with fail
            go_ret3
            exact ⟨by rw [Hr.out, hsc.out, Hdr.out, scan_far (by omega)]; rfl, rfl⟩
          · have hc128 : (s[A + 9].toNat : Int) < 128 := by omega
            have Hsh := Lib.hid (shiftAdd9 u s[A + 9].toNat hu.out (by omega))
            go_wp2_with fail
            go_ret3
            exact ⟨by rw [Hr.out, hsc.out, Hdr.out, scan_stop (.inr ⟨rfl, by omega⟩) (by omega)]; exact getV_eq Hsh.out (by omega), rfl⟩
        · have h9b : ((k : Int) == 9) = false := by rw [beq_eq_false_iff_ne]; exact h9
          have Hk8 : Hid (k ≤ 8) := Lib.hid (by omega)
          have Hsh := Lib.hid (shiftAdd u k s[A + k].toNat hu.out (.inl Hk8.out))
          by_cases hc128 : (s[A + k].toNat : Int) < 128
          · go_wp2_with fail
            go_ret3
            exact ⟨by rw [Hr.out, hsc.out, Hdr.out, scan_stop (.inl Hk8.out) (by omega)]; exact getV_eq Hsh.out (by omega), rfl⟩
          · go_wp2_with fail
            rw [Hsh.out]
            exact ⟨⟨k + 1, _, by have := Hk8.out; omega, by omega, by go_num, rfl, Lib.hid (step_lt hu.out), Lib.hid (by rw [hsc.out, Hdr.out, scan_step Hk8.out (by omega), Hn.out]; rfl)⟩, by simp [intOf]; omega⟩
      · have hge : (s.size : Int) ≤ (A : Int) + (k : Int) := by omega
        go_wp2_with fail
        go_ret3
        refine ⟨?_, rfl⟩
        rw [Hr.out, hsc.out, drop_all s _ (by omega)]
        simp only [List.take_nil, Var.scan, withinRes]
        rw [if_neg (by omega)]; rfl
theorem specWithin_out (s : ByteArray) (a E : Int) (w : World) (hA : ¬ (0 ≤ a ∧ a ≤ s.size)) :
    Calls Tryz.prog 112 #[.string s, .int .i64 a, .int .i64 E] w fun e w' => e = .returned (getV (withinR s a E)) ∧ w = w' := by
  have Hr := Lib.hid (within_out (e := E) hA)
  have hd : decide (0 ≤ a ∧ a ≤ (s.size : Int)) = false := decide_eq_false hA
  go_enter Tryz.func112, Tryz.ntmps112
  go_wp2_with fail
  refine (specIn_any _ _ _ _).mono ?_
  rintro e w3 ⟨rfl, rfl⟩
  go_wp2_with fail
  go_ret3
  exact ⟨by rw [Hr.out]; rfl, rfl⟩
theorem specWithin_any (s : ByteArray) (a E : Int) (w : World) (hs : s.size ≤ 281474976710656) :
    Calls Tryz.prog 112 #[.string s, .int .i64 a, .int .i64 E] w fun e w' => e = .returned (getV (withinR s a E)) ∧ w = w' := by
  by_cases hA : 0 ≤ a ∧ a ≤ (s.size : Int)
  · obtain ⟨A, rfl⟩ := Int.eq_ofNat_of_zero_le hA.1
    exact specWithin_in s A E w hs (by have := hA.2; omega)
  · exact specWithin_out s a E w hA
end Go.Proofs.YtpkofbdfnbpfpaaGreat.Num


/-
  A list of events that the call owns: appended to, its last text written; what it holds, read. For any program.
-/
namespace Go.Proofs.YtpkofbdfnbpfpaaGreat.Num
open Go.RowKit Go.Proofs
set_option linter.unusedVariables false

def OwnE (w : World) (B : Nat) (T : TypeId) (v : Value) (l : List Ev) : Prop := w.ownsRow B T 7 v l.length (l.flatMap evC)
section
variable {w w' : World} {B : Nat} {T : TypeId} {v : Value} {l : List Ev}
theorem OwnE.nil (w : World) (B : Nat) (T : TypeId) : OwnE w B T (.slice none 0 0) [] := World.ownsRow_nil _ _ _ _
theorem OwnE.start (w : World) (B : Nat) (T : TypeId) (hB : B ≤ w.heap.size) : OwnE (w.alloc (.cells #[] T)) B T (.slice (some ⟨w.heap.size, 0, none⟩) 0 0) [] :=
  World.ownsRow_lit w #[] 0 hB (by unfold maxLen; omega) rfl
theorem OwnE.one (w : World) (B : Nat) (T : TypeId) (e : Ev) (hB : B ≤ w.heap.size) : OwnE (w.alloc (.cells (evC e).toArray T)) B T (.slice (some ⟨w.heap.size, 0, none⟩) 1 1) [e] := by
  have := World.ownsRow_lit (e := T) (size := 7) w (evC e).toArray 1 hB (by unfold maxLen; omega) rfl
  simpa [OwnE] using this
theorem OwnE.lt (h : OwnE w B T v l) : ∀ k, v.ownBlock = some k → B ≤ k ∧ k < w.heap.size := World.ownsRow.lt h
theorem OwnE.below {C : Nat} (h : OwnE w B T v l) (hb : Below C w w') (hC : w.heap.size ≤ C) : OwnE w' B T v l := by
  obtain ⟨h1, h2⟩ := h
  refine ⟨h1, ?_⟩
  rcases h2 with h2 | ⟨g, cap, cur, hv, hB, hg, h3⟩
  · exact .inl h2
  · have hlt : g < w.heap.size := by
      rcases Nat.lt_or_ge g w.heap.size with h | h
      · exact h
      · rw [Array.getElem?_eq_none h] at hg; cases hg
    exact .inr ⟨g, cap, cur, hv, hB, (hb.block g (Nat.lt_of_lt_of_le hlt hC)).trans hg, h3⟩
theorem OwnE.drew (h : OwnE w B T v l) : OwnE w.drew B T v l := h
theorem OwnE.drewN (h : OwnE w B T v l) (n : Nat) : OwnE (w.drewN n) B T v l := h
theorem OwnE.alloc (h : OwnE w B T v l) (o : Obj) : OwnE (w.alloc o) B T v l := World.ownsRow.alloc h o
theorem OwnE.kept {row : Option Nat} (h : OwnE w B T v l) (hg : w.grownBy w' row) (hne : v.ownBlock = none ∨ v.ownBlock ≠ row) : OwnE w' B T v l := World.ownsRow.kept h hg hne
theorem OwnE.other (h : OwnE w B T v l) {p : Addr} (hp : p.block < B) (u : Value) : OwnE (w.setCell p u) B T v l := by
  refine h.kept (row := some p.block) ⟨rfl, rfl, rfl, by simp [World.setCell], fun k _ hk => Below.heap_setCell _ _ _ _ (fun e => hk (by rw [e]))⟩ ?_
  cases hv : v.ownBlock with
  | none => exact .inl rfl
  | some k => exact .inr fun e => by have := (h.lt k hv).1; have := Option.some.inj e; omega
theorem OwnE.wide (h : OwnE w B T v l) {C : Nat} (hC : C ≤ B) : OwnE w C T v l := by
  obtain ⟨h1, h2⟩ := h
  refine ⟨h1, ?_⟩
  rcases h2 with h2 | ⟨g, cap, cur, hv, hB, h3⟩
  · exact .inl h2
  · exact .inr ⟨g, cap, cur, hv, by omega, h3⟩
theorem OwnE.evsAt (h : OwnE w B T v l) : EvsAt w (fun b => B ≤ b ∧ b < w.heap.size) v l := rowAt_of_owns (f := evC) (fun _ => rfl) h (fun k hk => h.lt k hk) fun _ _ => rfl
theorem OwnE.evsAll (h : OwnE w B T v l) : EvsAt w (· < w.heap.size) v l := h.evsAt.wide fun _ h => h.2
theorem OwnE.form (h : OwnE w B T v l) : (v = .slice none 0 0 ∧ l = []) ∨ ∃ g cap, v = .slice (some ⟨g, 0, none⟩) l.length cap ∧ B ≤ g ∧ g < w.heap.size ∧ Fill w g (l.length * 7) := by
  rcases h.2 with ⟨h1, h2⟩ | ⟨g, cap, cur, rfl, hB, hg, h3⟩
  · exact .inl ⟨h1, List.length_eq_zero_iff.1 h2⟩
  · have hlt := (h.lt g rfl).2
    refine .inr ⟨g, cap, rfl, hB, hlt, hlt, fun j hj => ⟨?_, World.ownsRow.frozenAt h j⟩⟩
    rw [World.ownsRow.cellAt h j hj, List.getElem?_eq_getElem (by rw [h.1]; exact hj)]
    exact ⟨_, rfl⟩
theorem OwnE.slice (h : OwnE w B T v l) : ∃ a cap, v = .slice a l.length cap := h.evsAt.len
/-- The i-th event's cells. -/
theorem OwnE.cellsAt {g cap n : Nat} (h : OwnE w B T (.slice (some ⟨g, 0, none⟩) n cap) l) (i : Nat) (hi : i < l.length) : cells7 w g (i * 7) l[i] := by
  obtain ⟨b, o, e1, _, hc⟩ := h.evsAt.cellsAt i hi
  injection e1 with e1
  injection e1 with e1 e2
  subst e1 e2
  rw [Nat.zero_add] at hc
  exact hc
theorem flat_setText : ∀ (i : List Ev) (x : Ev) (s : ByteArray), ((i ++ [x]).flatMap evC).set (i.length * 7 + 4) (.string s) = (i ++ [{ x with text := s }]).flatMap evC
  | [], x, s => rfl
  | a :: i, x, s => by
    have := flat_setText i x s
    rw [List.cons_append, List.flatMap_cons, List.cons_append, List.flatMap_cons, ← this, show (a :: i).length * 7 + 4 = (evC a).length + (i.length * 7 + 4) by simp [evC]; omega]
    rw [List.set_append_right _ _ (by omega), Nat.add_sub_cancel_left]
/-- The last event's text written. -/
theorem OwnE.setText {g cap : Nat} {i : List Ev} {x : Ev} (h : OwnE w B T (.slice (some ⟨g, 0, none⟩) (i.length + 1) cap) (i ++ [x])) (s : ByteArray) : OwnE (w.setCell ⟨g, i.length * 7 + 4, none⟩ (.string s)) B T (.slice (some ⟨g, 0, none⟩) (i.length + 1) cap) (i ++ [{ x with text := s }]) := by
  have hl : (i ++ [x]).length = i.length + 1 := by simp
  have hl2 : (i ++ [{ x with text := s }]).length = i.length + 1 := by simp
  have h0 := h
  unfold OwnE at h0 ⊢
  rw [hl] at h0
  rw [hl2]
  have := (World.ownsRow.stored h0 (i.length * 7 + 4) (.string s)).1
  rwa [flat_setText] at this
end
theorem flat_snoc (l : List Ev) (e : Ev) : (l ++ [e]).flatMap evC = l.flatMap evC ++ evC e := by simp
end Go.Proofs.YtpkofbdfnbpfpaaGreat.Num


/-
  A message that is read, as plain functions: the place, what was told, what went wrong; and how the reference's reader holds it in memory.
-/
namespace Go.Proofs.YtpkofbdfnbpfpaaGreat.Num
open Go.RowKit Go.Proofs
set_option linter.unusedVariables false
/-- Where a reader stands, what it has told, and how it failed (its kind is 0 as long as it did not). -/
structure RdM where
  place : Nat
  out : List Ev
  fail : Ev
def zeroE : Ev := ⟨0, 0, 0, 0, ⟨#[]⟩, 0, 0⟩
def failE (c a : Int) : Ev := ⟨10, 0, 0, 0, ⟨#[]⟩, c, a⟩
def RdM.bad (r : RdM) (c a : Int) : RdM := { r with fail := failE c a }
def RdM.to (r : RdM) (p : Nat) : RdM := { r with place := p }
def RdM.tell (r : RdM) (e : Ev) : RdM := { r with out := r.out ++ [e] }
def RdM.ok (r : RdM) : Bool := r.fail.kind == 0
/-- A number is read up to a place. -/
def rdVar (s : ByteArray) (E : Int) (r : RdM) : Int × RdM :=
  if (withinR s r.place E).2.2 ≠ 0 then (0, r.bad (withinR s r.place E).2.2 (withinR s r.place E).2.1)
  else ((withinR s r.place E).1, r.to (withinR s r.place E).2.1.toNat)
/-- The reader's block: the plan, the text, the place, what was told, what went wrong. -/
structure RdAt (w : World) (g : Nat) (u : Value) (sch : List RM) (A B C : Int) (s : ByteArray) (o : Value) (r : RdM) : Prop where
  box : Box w g ([u, .int .i64 A, .int .i64 B, .int .i64 C, .string s, .int .i64 r.place, o] ++ evC r.fail)
  out : OwnE w (g + 1) 34 o r.out
  msgs : MsgsAt w (· < g) u sch
  place : r.place ≤ s.size
section
variable {w w' : World} {g : Nat} {u : Value} {sch : List RM} {A B C : Int} {s : ByteArray} {o : Value} {r : RdM}
theorem Box.at7 {a b c d e f o k1 k2 k3 k4 k5 k6 k7 : Value} (h : Box w g [a, b, c, d, e, f, o, k1, k2, k3, k4, k5, k6, k7]) :
    (w.cell? ⟨g, 0, none⟩ = some a ∧ w.cell? ⟨g, 1, none⟩ = some b ∧ w.cell? ⟨g, 2, none⟩ = some c ∧ w.cell? ⟨g, 3, none⟩ = some d ∧ w.cell? ⟨g, 4, none⟩ = some e ∧ w.cell? ⟨g, 5, none⟩ = some f ∧ w.cell? ⟨g, 6, none⟩ = some o ∧
      w.cell? ⟨g, 7, none⟩ = some k1 ∧ w.cell? ⟨g, 8, none⟩ = some k2 ∧ w.cell? ⟨g, 9, none⟩ = some k3 ∧ w.cell? ⟨g, 10, none⟩ = some k4 ∧ w.cell? ⟨g, 11, none⟩ = some k5 ∧ w.cell? ⟨g, 12, none⟩ = some k6 ∧ w.cell? ⟨g, 13, none⟩ = some k7) ∧
    (w.frozen? ⟨g, 5, none⟩ = false ∧ w.frozen? ⟨g, 6, none⟩ = false ∧ w.frozen? ⟨g, 7, none⟩ = false ∧ w.frozen? ⟨g, 8, none⟩ = false ∧ w.frozen? ⟨g, 9, none⟩ = false ∧ w.frozen? ⟨g, 10, none⟩ = false ∧ w.frozen? ⟨g, 11, none⟩ = false ∧ w.frozen? ⟨g, 12, none⟩ = false ∧ w.frozen? ⟨g, 13, none⟩ = false) :=
  ⟨⟨(h.2 0 (by simp)).1, (h.2 1 (by simp)).1, (h.2 2 (by simp)).1, (h.2 3 (by simp)).1, (h.2 4 (by simp)).1, (h.2 5 (by simp)).1, (h.2 6 (by simp)).1, (h.2 7 (by simp)).1, (h.2 8 (by simp)).1, (h.2 9 (by simp)).1, (h.2 10 (by simp)).1, (h.2 11 (by simp)).1, (h.2 12 (by simp)).1, (h.2 13 (by simp)).1⟩,
    (h.2 5 (by simp)).2, (h.2 6 (by simp)).2, (h.2 7 (by simp)).2, (h.2 8 (by simp)).2, (h.2 9 (by simp)).2, (h.2 10 (by simp)).2, (h.2 11 (by simp)).2, (h.2 12 (by simp)).2, (h.2 13 (by simp)).2⟩
theorem RdAt.lt (h : RdAt w g u sch A B C s o r) : g < w.heap.size := h.box.lt
/-- A call that writes new memory only leaves the reader as it is. -/
theorem RdAt.below (h : RdAt w g u sch A B C s o r) (hb : Below w.heap.size w w') : RdAt w' g u sch A B C s o r :=
  ⟨h.box.below hb h.box.lt, h.out.below hb (Nat.le_refl _), h.msgs.keep (.of_below hb fun b hb' => Nat.lt_trans hb' h.box.lt) fun _ h => h, h.place⟩
/-- The place is written. -/
theorem RdAt.to (h : RdAt w g u sch A B C s o r) (p : Nat) (hp : p ≤ s.size) : RdAt (w.setCell ⟨g, 5, none⟩ (.int .i64 p)) g u sch A B C s o (r.to p) :=
  ⟨by have := h.box.set 5 (.int .i64 p); exact this, h.out.other (p := ⟨g, 5, none⟩) (Nat.lt_succ_self g) _, h.msgs.keep (.of_set _ (Nat.lt_irrefl g)) fun _ h => h, hp⟩
/-- The failure is written. -/
theorem RdAt.bad (h : RdAt w g u sch A B C s o r) (c a : Int) :
    RdAt (((((((w.setCell ⟨g, 7, none⟩ (.int .i64 10)).setCell ⟨g, 8, none⟩ (.int .i64 0)).setCell ⟨g, 9, none⟩ (.int .u64 0)).setCell ⟨g, 10, none⟩ (.int .i64 0)).setCell ⟨g, 11, none⟩ (.string ⟨#[]⟩)).setCell ⟨g, 12, none⟩ (.int .i64 c)).setCell ⟨g, 13, none⟩ (.int .i64 a)) g u sch A B C s o (r.bad c a) := by
  refine ⟨?_, ?_, ?_, h.place⟩
  · have := ((((((h.box.set 7 (.int .i64 10)).set 8 (.int .i64 0)).set 9 (.int .u64 0)).set 10 (.int .i64 0)).set 11 (.string ⟨#[]⟩)).set 12 (.int .i64 c)).set 13 (.int .i64 a)
    exact this
  · have hg : g < g + 1 := Nat.lt_succ_self g
    exact ((((((h.out.other (p := ⟨g, 7, none⟩) hg _).other (p := ⟨g, 8, none⟩) hg _).other (p := ⟨g, 9, none⟩) hg _).other (p := ⟨g, 10, none⟩) hg _).other (p := ⟨g, 11, none⟩) hg _).other (p := ⟨g, 12, none⟩) hg _).other (p := ⟨g, 13, none⟩) hg _
  · have hg : ¬ g < g := Nat.lt_irrefl g
    exact ((((((h.msgs.keep (.of_set (p := ⟨g, 7, none⟩) _ hg) fun _ h => h).keep (.of_set (p := ⟨g, 8, none⟩) _ hg) fun _ h => h).keep (.of_set (p := ⟨g, 9, none⟩) _ hg) fun _ h => h).keep (.of_set (p := ⟨g, 10, none⟩) _ hg) fun _ h => h).keep (.of_set (p := ⟨g, 11, none⟩) _ hg) fun _ h => h).keep (.of_set (p := ⟨g, 12, none⟩) _ hg) fun _ h => h).keep (.of_set (p := ⟨g, 13, none⟩) _ hg) fun _ h => h
end
/-- A call that writes only the reader's block, the row of what was told, and new memory; the row stays where it was, or is new. -/
structure Moved (g : Nat) (o o' : Value) (w w' : World) : Prop where
  os : w'.os = w.os
  tape : w'.tape = w.tape
  output : w'.output = w.output
  size : w.heap.size ≤ w'.heap.size
  block : ∀ k, k < w.heap.size → k ≠ g → o.ownBlock ≠ some k → w'.heap[k]? = w.heap[k]?
  own : ∀ k, o'.ownBlock = some k → o.ownBlock = some k ∨ w.heap.size ≤ k
section
variable {g : Nat} {o o' o'' : Value} {w w' w'' : World}
theorem Moved.refl (g : Nat) (o : Value) (w : World) : Moved g o o w w := ⟨rfl, rfl, rfl, Nat.le_refl _, fun _ _ _ _ => rfl, fun _ h => .inl h⟩
theorem Moved.trans (h : Moved g o o' w w') (k : Moved g o' o'' w' w'') : Moved g o o'' w w'' :=
  ⟨k.os.trans h.os, k.tape.trans h.tape, k.output.trans h.output, Nat.le_trans h.size k.size,
    fun b hb hg ho => (k.block b (Nat.lt_of_lt_of_le hb h.size) hg fun e => by rcases h.own b e with h1 | h1; exact ho h1; omega).trans (h.block b hb hg ho),
    fun b hb => by rcases k.own b hb with h1 | h1; exact h.own b h1; exact .inr (Nat.le_trans h.size h1)⟩
theorem Moved.of_below (h : Below w.heap.size w w') : Moved g o o w w' := ⟨h.os, h.tape, h.output, h.size, fun k hk _ _ => h.block k hk, fun _ h => .inl h⟩
theorem Moved.drewN (g : Nat) (o : Value) (w : World) (n : Nat) : Moved g o o w (w.drewN n) := .of_below (by exact ⟨rfl, rfl, rfl, Nat.le_refl _, fun _ _ => rfl⟩)
theorem Moved.setCell (h : Moved g o o' w w') (hg : g < w.heap.size) (j : Nat) (v : Value) : Moved g o o' w (w'.setCell ⟨g, j, none⟩ v) := by
  have hb : Below g w' (w'.setCell ⟨g, j, none⟩ v) := (Below.refl _ _).setCell (Nat.le_refl g) v
  exact ⟨hb.os.trans h.os, hb.tape.trans h.tape, hb.output.trans h.output, Nat.le_trans h.size hb.size,
    fun k hk hn ho => (Below.heap_setCell _ _ _ _ (fun e => hn (by rw [e]))).trans (h.block k hk hn ho), h.own⟩
theorem Moved.box {b : Nat} {vs : List Value} (h : Moved g o o' w w') (hb : Box w b vs) (hn : b ≠ g) (ho : o.ownBlock ≠ some b) : Box w' b vs :=
  ⟨Nat.lt_of_lt_of_le hb.1 h.size, fun j hj => by
    have he := h.block b hb.1 hn ho
    exact ⟨(World.cell?_of_block (a := ⟨b, j, none⟩) he).trans (hb.2 j hj).1, (World.frozen?_of_block (a := ⟨b, j, none⟩) he).trans (hb.2 j hj).2⟩⟩
theorem Moved.below (h : Moved g o o' w w') (hg : g ≤ w.heap.size) (ho : ∀ k, o.ownBlock = some k → g ≤ k) : Below g w w' :=
  ⟨h.os, h.tape, h.output, h.size, fun k hk => h.block k (by omega) (by omega) fun e => by have := ho k e; omega⟩
end
theorem l12Fail_any (c a : Int) (w : World) : Calls Tryz.prog 103 #[.int .i64 c, .int .i64 a] w fun e w' => e = .returned (.agg #[.int .i64 10, .int .i64 0, .int .u64 0, .int .i64 0, .string ⟨#[]⟩, .int .i64 c, .int .i64 a]) ∧ Below w.heap.size w w' := by
  go_enter Tryz.func103, Tryz.ntmps103
  go_wp2_with fail
  refine bodyPost_ret (v := .agg #[.int .i64 10, .int .i64 0, .int .u64 0, .int .i64 0, .string ⟨#[]⟩, .int .i64 c, .int .i64 a]) (by simp [results, Tryz.results103, go_sem]) rfl ⟨rfl, ?_⟩
  exact (Below.refl _ _).alloc (Nat.le_refl _) _
end Go.Proofs.YtpkofbdfnbpfpaaGreat.Num


/-
  Plain lemmas on little-endian integers as lists of bytes.
-/
namespace Go.Proofs.YtpkofbdfnbpfpaaGreat.Fix
open Var

/-- The value of little-endian bytes. -/
def le : List UInt8 → Nat
  | [] => 0
  | c :: r => c.toNat + 256 * le r
theorem le_lt : ∀ l, le l < 256 ^ l.length
  | [] => by simp [le]
  | c :: r => by
    have hc := c.toNat_lt
    have ih := le_lt r
    simp only [le, List.length_cons, Nat.pow_succ]
    omega
theorem le_snoc : ∀ l c, le (l ++ [c]) = le l + c.toNat * 256 ^ l.length
  | [], c => by simp [le]
  | d :: r, c => by
    simp only [List.cons_append, le, List.length_cons]
    rw [le_snoc r c, Nat.pow_succ, Nat.mul_add, ← Nat.add_assoc, ← Nat.mul_assoc, Nat.mul_comm 256 c.toNat, Nat.mul_assoc, Nat.mul_comm 256 (256 ^ r.length)]
theorem pow_256 (k : Nat) : 2 ^ (8 * k) = 256 ^ k := by rw [Nat.pow_mul]
end Go.Proofs.YtpkofbdfnbpfpaaGreat.Fix


/-
  The walk of the reference's GetFix: it gives the value of the little-endian bytes; nothing is written (split off GetFix).
-/
namespace Go.Proofs.YtpkofbdfnbpfpaaGreat.Num
open Go.RowKit Go.Proofs
set_option linter.unusedVariables false

/-- The number read, and whether one is. -/
def getFixR (s : ByteArray) (a n : Int) : Nat × Bool := if (n = 4 ∨ n = 8) ∧ 0 ≤ a ∧ a ≤ s.size - n then (Fix.le ((s.data.toList.drop a.toNat).take n.toNat), true) else (0, false)
theorem getFix_yes {s : ByteArray} {a n : Int} (h : (n = 4 ∨ n = 8) ∧ 0 ≤ a ∧ a ≤ s.size - n) : getFixR s a n = (Fix.le ((s.data.toList.drop a.toNat).take n.toNat), true) := by unfold getFixR; rw [if_pos h]
theorem getFix_no {s : ByteArray} {a n : Int} (h : ¬ ((n = 4 ∨ n = 8) ∧ 0 ≤ a ∧ a ≤ s.size - n)) : getFixR s a n = (0, false) := by unfold getFixR; rw [if_neg h]
theorem specGetFix_in (s : ByteArray) (A N : Nat) (w : World) (hs : s.size ≤ 281474976710656) (hN : N = 4 ∨ N = 8) (hA : A + N ≤ s.size) :
    Calls Tryz.prog 171 #[.string s, .int .i64 A, .int .i64 N] w fun e w' => e = .returned (.tuple #[.int .u64 (Fix.le ((s.data.toList.drop A).take N)), .bool true]) ∧ w = w' := by
  have HN := Lib.hid hN
  have hN8 : N ≤ 8 := by omega
  have hN4 : 4 ≤ N := by omega
  have Hcase : Hid (((((N : Int) == 4) = false ∧ ((N : Int) != 4) = true) ∧ (((N : Int) == 8) = true ∧ ((N : Int) != 8) = false)) ∨ ((((N : Int) == 4) = true ∧ ((N : Int) != 4) = false))) := Lib.hid (by
    rcases hN with rfl | rfl
    · exact .inr ⟨rfl, rfl⟩
    · exact .inl ⟨⟨rfl, rfl⟩, rfl, rfl⟩)
  have hd : decide ((0 : Int) ≤ (A : Int) ∧ (A : Int) ≤ (s.size : Int) - (N : Int)) = true := decide_eq_true (by omega)
  have hd2 : decide ((A : Int) ≤ (s.size : Int) - (N : Int)) = true := decide_eq_true (by omega)
  clear hN
  rcases Hcase.out with ⟨⟨h4, h4n⟩, h8, h8n⟩ | ⟨h4, h4n⟩
  all_goals
    clear Hcase
    go_enter Tryz.func171, Tryz.ntmps171
    go_wp2_with fail
    refine (specIn_any _ _ _ _).mono ?_
    rintro e w3 ⟨rfl, rfl⟩
    go_wp2_with fail
    clear hd hd2
    go_loop [8, 9] (fun x i => ∃ (k U : Nat), k ≤ N ∧ i = .int .i64 ((k : Int) - 1) ∧ x = .int .u64 U ∧ Hid (U = Fix.le ((s.data.toList.drop (A + k)).take (N - k)))) (fun _ i => ((intOf i) + 1).toNat)
    case atStart => exact ⟨N, 0, Nat.le_refl _, rfl, rfl, Lib.hid (by rw [Nat.sub_self]; rfl)⟩
    case round =>
      obtain ⟨k, U, hk, rfl, rfl, hU⟩ := hrel
      cases k with
      | zero =>
        have hm : (((0 : Nat) : Int) - 1) = -1 := rfl
        rw [hm]
        clear hm
        go_wp2_with fail
        go_ret2
        exact ⟨by rw [hU.out]; rfl, rfl⟩
      | succ k =>
        have hm : (((k + 1 : Nat) : Int) - 1) = (k : Int) := by omega
        rw [hm]
        clear hm
        have hend : A + k < s.size := by omega
        have hc : s[A + k].toNat < 256 := s[A + k].toNat_lt
        have hlt1 : (A : Int) + (k : Int) < (s.size : Int) := by omega
        have hlt0 : (0 : Int) ≤ (A : Int) + (k : Int) := by omega
        have hw1 : IntKind.i64.wrap ((A : Int) + (k : Int)) = (A : Int) + (k : Int) := IntWalk.i64_in _ (by omega)
        have HU2 : Hid (s[A + k].toNat + 256 * U = Fix.le ((s.data.toList.drop (A + k)).take (N - k))) := Lib.hid (by rw [drop_at s (A + k) hend, show N - k = (N - (k + 1)) + 1 by omega, List.take_succ_cons, hU.out]; rfl)
        have hb : U ≤ 72057594037927935 := by
          have h1 := Fix.le_lt ((s.data.toList.drop (A + (k + 1))).take (N - (k + 1)))
          rw [← hU.out] at h1
          have h2 : ((s.data.toList.drop (A + (k + 1))).take (N - (k + 1))).length ≤ 7 := by rw [List.length_take]; omega
          have h3 := Nat.pow_le_pow_right (n := 256) (by omega) h2
          have h4 : (256 : Nat) ^ 7 = 72057594037927936 := rfl
          omega
        have hk0 : (0 : Int) ≤ (k : Int) := by omega
        go_wp2_with fail
        exact ⟨⟨k, s[A + k].toNat + 256 * U, by omega, rfl, by go_num, HU2⟩, by simp [intOf] <;> omega⟩
theorem specGetFix_out (s : ByteArray) (a n : Int) (w : World) (hs : s.size ≤ 281474976710656) (hn : -9223372036854775808 ≤ n ∧ n ≤ 9223372036854775807) (h : ¬ ((n = 4 ∨ n = 8) ∧ 0 ≤ a ∧ a ≤ s.size - n)) :
    Calls Tryz.prog 171 #[.string s, .int .i64 a, .int .i64 n] w fun e w' => e = .returned (.tuple #[.int .u64 0, .bool false]) ∧ w = w' := by
  by_cases hw : n = 4 ∨ n = 8
  · have hd : decide (0 ≤ a ∧ a ≤ (s.size : Int) - n) = false := decide_eq_false fun h2 => h ⟨hw, h2⟩
    clear h
    rcases hw with rfl | rfl
    all_goals
      go_enter Tryz.func171, Tryz.ntmps171
      go_wp2_with fail
      refine (specIn_any _ _ _ _).mono ?_
      rw [hd]
      rintro e w3 ⟨rfl, rfl⟩
      go_wp2_with fail
      go_ret2
      exact ⟨rfl, rfl⟩
  · have h4b : (n == 4) = false := by rw [beq_eq_false_iff_ne]; omega
    have h8b : (n == 8) = false := by rw [beq_eq_false_iff_ne]; omega
    have h4c : (n != 4) = true := by rw [bne, h4b]; rfl
    have h8c : (n != 8) = true := by rw [bne, h8b]; rfl
    clear h hw
    go_enter Tryz.func171, Tryz.ntmps171
    go_wp2_with fail
    go_ret2
    exact ⟨rfl, rfl⟩
theorem specGetFix_same (s : ByteArray) (a n : Int) (w : World) (hs : s.size ≤ 281474976710656) (hn : -9223372036854775808 ≤ n ∧ n ≤ 9223372036854775807) :
    Calls Tryz.prog 171 #[.string s, .int .i64 a, .int .i64 n] w fun e w' => e = .returned (.tuple #[.int .u64 (getFixR s a n).1, .bool (getFixR s a n).2]) ∧ w = w' := by
  by_cases h : (n = 4 ∨ n = 8) ∧ 0 ≤ a ∧ a ≤ s.size - n
  · rw [getFix_yes h]
    obtain ⟨N, rfl⟩ := Int.eq_ofNat_of_zero_le (show 0 ≤ n by omega)
    obtain ⟨A, rfl⟩ := Int.eq_ofNat_of_zero_le h.2.1
    rw [Int.toNat_natCast, Int.toNat_natCast]
    exact specGetFix_in s A N w hs (by omega) (by omega)
  · rw [getFix_no h]
    exact specGetFix_out s a n w hs hn h
end Go.Proofs.YtpkofbdfnbpfpaaGreat.Num


/-
  The walks of the reference's l12Var and l12Fix: a number that is read up to a place moves the reader on, or tells what went wrong.
-/
namespace Go.Proofs.YtpkofbdfnbpfpaaGreat.Num
open Go.RowKit Go.Proofs
set_option linter.unusedVariables false
theorem within_range {s : ByteArray} {A : Nat} {E v p b : Int} (hA : A ≤ s.size) (hw : withinR s A E = (v, p, b)) (hb : b = 0) : ∃ P : Nat, p = (P : Int) ∧ A < P ∧ P ≤ s.size ∧ (P : Int) ≤ E ∧ ∃ U : Nat, v = (U : Int) ∧ U < 18446744073709551616 := by
  rw [within_in hA] at hw
  have hlen : ((s.data.toList.drop A).take (E - A).toNat).length = min (E - A).toNat (s.size - A) := by simp
  have hd := fun v m => Var.scan_done ((s.data.toList.drop A).take (E - A).toNat) 0 0 v m (by omega) (by omega)
  generalize hq : Var.scan 0 0 ((s.data.toList.drop A).take (E - A).toNat) = q at hw hd
  cases q with
  | more =>
    simp only [withinRes] at hw
    split at hw
    · injection hw with w1 w2; injection w2 with w2 w3; omega
    · injection hw with w1 w2; injection w2 with w2 w3; omega
  | over j => simp only [withinRes] at hw; injection hw with w1 w2; injection w2 with w2 w3; omega
  | done y m =>
    obtain ⟨n', x', h1, h2, h3, h4, _, _, _, h8⟩ := hd y m rfl
    simp only [withinRes] at hw
    injection hw with w1 w2
    injection w2 with w2 w3
    exact ⟨A + m, by omega, by omega, by omega, by omega, y, by omega, h8⟩
set_option maxHeartbeats 2000000 in
theorem l12Var_any (g : Nat) (u : Value) (sch : List RM) (A B C E : Int) (s : ByteArray) (o : Value) (r : RdM) (w : World) (h : RdAt w g u sch A B C s o r) (hs : s.size ≤ 281474976710656) :
    Calls Tryz.prog 100 #[.pointer (some ⟨g, 0, none⟩), .int .i64 E] w fun e w' => e = .returned (.int .u64 (rdVar s E r).1) ∧ RdAt w' g u sch A B C s o (rdVar s E r).2 ∧ Moved g o o w w' := by
  have hg := h.lt
  have Hg := Lib.hid hg
  have hp := h.place
  unfold rdVar
  generalize hW : withinR s r.place E = W
  obtain ⟨v, p, b⟩ := W
  have HW := Lib.hid hW
  have HV : Hid (∀ w, Calls Tryz.prog 112 #[.string s, .int .i64 r.place, .int .i64 E] w fun e w' => e = .returned (.tuple #[.int .u64 v, .int .i64 p, .int .i64 b]) ∧ w = w') := Lib.hid fun w => by have h := specWithin_any s r.place E w hs; rw [hW] at h; exact h
  have H := Lib.hid h
  clear hW h
  simp only
  obtain ⟨Z, hZ⟩ : ∃ Z, (if b ≠ 0 then ((0 : Int), r.bad b p) else (v, r.to p.toNat)) = Z := ⟨_, rfl⟩
  rw [hZ]
  have HZ := Lib.hid hZ
  clear hZ
  obtain ⟨⟨c0, c1, c2, c3, c4, c5, c6, c7, c8, c9, c10, c11, c12, c13⟩, f5, f6, f7, f8, f9, f10, f11, f12, f13⟩ := H.out.box.at7
  go_enter Tryz.func100, Tryz.ntmps100
  go_wp2_with fail
  go_quiet ((go_at_call 112; exact Calls.quiet_of_same (flip_same (HV.out _))))
  have HD : Hid (RdAt (w.drewN nq) g u sch A B C s o r) := Lib.hid ⟨H.out.box, H.out.out, H.out.msgs, H.out.place⟩
  have hl : Moved g o o w (w.drewN nq) := .drewN g o w nq
  have hsz : w.heap.size = (w.drewN nq).heap.size := rfl
  generalize w.drewN nq = wd at HD hl hsz ⊢
  clear c0 c1 c2 c3 c4 c5 c6 c7 c8 c9 c10 c11 c12 c13 f5 f6 f7 f8 f9 f10 f11 f12 f13 HV H
  by_cases hb : b = 0
  · obtain ⟨P, rfl, hP1, hP2, hP3, U, rfl, hU⟩ := within_range hp HW.out hb
    have hbn : (b != 0) = false := by simp [hb]
    obtain ⟨⟨c0, c1, c2, c3, c4, c5, c6, c7, c8, c9, c10, c11, c12, c13⟩, f5, f6, f7, f8, f9, f10, f11, f12, f13⟩ := HD.out.box.at7
    have hz := HZ.out
    rw [if_neg (fun h => h hb)] at hz
    subst hz
    clear hsz hp hg HZ
    go_wp2_with fail
    go_ret
    exact ⟨rfl, HD.out.to P hP2, hl.setCell Hg.out _ _⟩
  · have hbn : (b != 0) = true := by simp [hb]
    have hz := HZ.out
    rw [if_pos hb] at hz
    subst hz
    clear HZ
    go_wp2_with fail
    refine (l12Fail_any b p _).mono ?_
    rintro e w2 ⟨rfl, hb2⟩
    have HD2 := Lib.hid (HD.out.below hb2)
    have hl2 := hl.trans (Moved.of_below hb2)
    clear HD hb2 hsz hl hb
    obtain ⟨⟨c0, c1, c2, c3, c4, c5, c6, c7, c8, c9, c10, c11, c12, c13⟩, f5, f6, f7, f8, f9, f10, f11, f12, f13⟩ := HD2.out.box.at7
    go_wp2_with fail
    go_ret
    refine ⟨rfl, HD2.out.bad b p, ?_⟩
    repeat (first | with_reducible exact hl2 | refine Moved.setCell ?_ Hg.out _ _)
/-- A number of some bytes is read up to a place. -/
def rdFix (s : ByteArray) (W E : Int) (r : RdM) : Int × RdM :=
  if E - r.place < W then (0, r.bad 9 r.place)
  else if (getFixR s r.place W).2 = false then (0, r.bad 10 s.size)
  else ((getFixR s r.place W).1, r.to (r.place + W.toNat))
set_option maxHeartbeats 2000000 in
theorem l12Fix_any (g : Nat) (u : Value) (sch : List RM) (A B C W E : Int) (s : ByteArray) (o : Value) (r : RdM) (w : World) (h : RdAt w g u sch A B C s o r) (hs : s.size ≤ 281474976710656) (hE : (r.place : Int) ≤ E ∧ E ≤ 9223372036854775807) (hW : 0 ≤ W ∧ W ≤ 8) :
    Calls Tryz.prog 142 #[.pointer (some ⟨g, 0, none⟩), .int .i64 W, .int .i64 E] w fun e w' => e = .returned (.int .u64 (rdFix s W E r).1) ∧ RdAt w' g u sch A B C s o (rdFix s W E r).2 ∧ Moved g o o w w' := by
  have hg := h.lt
  have Hg := Lib.hid hg
  have hp := h.place
  unfold rdFix
  obtain ⟨Z, hZ⟩ : ∃ Z, (if E - r.place < W then ((0 : Int), r.bad 9 r.place) else if (getFixR s r.place W).2 = false then (0, r.bad 10 s.size) else (((getFixR s r.place W).1 : Int), r.to (r.place + W.toNat))) = Z := ⟨_, rfl⟩
  rw [hZ]
  have HZ := Lib.hid hZ
  have H := Lib.hid h
  clear hZ h
  have hw1 : IntKind.i64.wrap (E - (r.place : Int)) = E - (r.place : Int) := IntWalk.i64_in _ (by omega)
  obtain ⟨⟨c0, c1, c2, c3, c4, c5, c6, c7, c8, c9, c10, c11, c12, c13⟩, f5, f6, f7, f8, f9, f10, f11, f12, f13⟩ := H.out.box.at7
  by_cases hend : E - (r.place : Int) < W
  · have hz := HZ.out
    rw [if_pos hend] at hz
    subst hz
    clear HZ
    go_enter Tryz.func142, Tryz.ntmps142
    go_wp2_with fail
    refine (l12Fail_any 9 r.place _).mono ?_
    rintro e w2 ⟨rfl, hb2⟩
    have HD2 := Lib.hid (H.out.below hb2)
    have hl2 : Moved g o o w w2 := .of_below hb2
    clear H hb2 hend c0 c1 c2 c3 c4 c5 c6 c7 c8 c9 c10 c11 c12 c13 f5 f6 f7 f8 f9 f10 f11 f12 f13
    obtain ⟨⟨c0, c1, c2, c3, c4, c5, c6, c7, c8, c9, c10, c11, c12, c13⟩, f5, f6, f7, f8, f9, f10, f11, f12, f13⟩ := HD2.out.box.at7
    go_wp2_with fail
    go_ret
    refine ⟨rfl, HD2.out.bad 9 r.place, ?_⟩
    repeat (first | with_reducible exact hl2 | refine Moved.setCell ?_ Hg.out _ _)
  · have hendb : decide (E - (r.place : Int) < W) = false := decide_eq_false hend
    generalize hG : getFixR s r.place W = G
    obtain ⟨v, k⟩ := G
    have HG := Lib.hid hG
    have HV : Hid (∀ w, Calls Tryz.prog 171 #[.string s, .int .i64 r.place, .int .i64 W] w fun e w' => e = .returned (.tuple #[.int .u64 v, .bool k]) ∧ w = w') := Lib.hid fun w => by have h := specGetFix_same s r.place W w hs (by omega); rw [hG] at h; exact h
    clear hG
    have hz := HZ.out
    rw [if_neg hend, HG.out] at hz
    simp only at hz
    have HZ' := Lib.hid hz
    clear hz HZ
    go_enter Tryz.func142, Tryz.ntmps142
    go_wp2_with fail
    go_quiet ((go_at_call 171; exact Calls.quiet_of_same (flip_same (HV.out _))))
    have HD : Hid (RdAt (w.drewN nq) g u sch A B C s o r) := Lib.hid ⟨H.out.box, H.out.out, H.out.msgs, H.out.place⟩
    have hl : Moved g o o w (w.drewN nq) := .drewN g o w nq
    have hsz : w.heap.size = (w.drewN nq).heap.size := rfl
    generalize w.drewN nq = wd at HD hl hsz ⊢
    clear c0 c1 c2 c3 c4 c5 c6 c7 c8 c9 c10 c11 c12 c13 f5 f6 f7 f8 f9 f10 f11 f12 f13 HV H hw1 hend hendb
    obtain ⟨⟨c0, c1, c2, c3, c4, c5, c6, c7, c8, c9, c10, c11, c12, c13⟩, f5, f6, f7, f8, f9, f10, f11, f12, f13⟩ := HD.out.box.at7
    cases k with
    | false =>
      have hz := HZ'.out
      simp only [if_true] at hz
      subst hz
      clear HZ'
      go_wp2_with fail
      refine (l12Fail_any 10 s.size _).mono ?_
      rintro e w2 ⟨rfl, hb2⟩
      have HD2 := Lib.hid (HD.out.below hb2)
      have hl2 := hl.trans (Moved.of_below hb2)
      clear HD hb2 hsz hl c0 c1 c2 c3 c4 c5 c6 c7 c8 c9 c10 c11 c12 c13 f5 f6 f7 f8 f9 f10 f11 f12 f13
      obtain ⟨⟨c0, c1, c2, c3, c4, c5, c6, c7, c8, c9, c10, c11, c12, c13⟩, f5, f6, f7, f8, f9, f10, f11, f12, f13⟩ := HD2.out.box.at7
      go_wp2_with fail
      go_ret
      refine ⟨rfl, HD2.out.bad 10 s.size, ?_⟩
      repeat (first | with_reducible exact hl2 | refine Moved.setCell ?_ Hg.out _ _)
    | true =>
      obtain ⟨N, hN, hPN⟩ : ∃ N : Nat, W = (N : Int) ∧ r.place + N ≤ s.size := by
        by_cases h : (W = 4 ∨ W = 8) ∧ 0 ≤ (r.place : Int) ∧ (r.place : Int) ≤ s.size - W
        · exact ⟨W.toNat, by omega, by omega⟩
        · have h2 := HG.out
          rw [getFix_no h] at h2
          cases h2
      subst hN
      have hz := HZ'.out
      simp only [Bool.true_eq_false, if_false, Int.toNat_natCast] at hz
      subst hz
      have hw2 : IntKind.i64.wrap ((r.place : Int) + (N : Int)) = ((r.place + N : Nat) : Int) := by rw [IntWalk.i64_in _ (by omega)]; omega
      clear HZ' hsz hp hg hE hW
      go_wp2_with fail
      go_ret
      exact ⟨rfl, HD.out.to (r.place + N) hPN, hl.setCell Hg.out _ _⟩
end Go.Proofs.YtpkofbdfnbpfpaaGreat.Num


/-
  The walks of the laws' toEvent, szEvent and eqEvent: events laid anew in new memory; what is left is not below 0 only where they are small; equal lists are told so.
-/
namespace Go.Proofs.YtpkofbdfnbpfpaaGreat.Num
open Go.RowKit Go.Proofs
set_option linter.unusedVariables false
set_option linter.unusedSimpArgs false

theorem info_event : (Tryz.prog.info? 34).map (fun i => (i.zero, i.size, i.bytes)) = some (some (.agg #[.int .i64 0, .int .i64 0, .int .u64 0, .int .i64 0, .string ByteArray.empty, .int .i64 0, .int .i64 0]), 7, 64) := by kernel_rfl
set_option maxHeartbeats 1000000 in
theorem eqEvent_same (e : Ev) (w : World) :
    Calls Tryz.prog 45 #[evV e, evV e] w fun x w' => x = .returned (.bool true) ∧ Below w.heap.size w w' := by
  unfold evV
  obtain ⟨k, f, b, l, t, c, p⟩ := e
  simp only
  go_enter Tryz.func45, Tryz.ntmps45
  go_wp2_with fail
  go_ret
  refine ⟨rfl, ?_⟩
  repeat (first | with_reducible exact Below.refl _ _ | refine Below.setCell ?_ (by simp) _ | refine Below.alloc ?_ (by simp <;> omega) _)
set_option maxHeartbeats 2000000 in
theorem eqEventS_same (v u : Value) (l : List Ev) (w : World) (hv : EvsAt w (· < w.heap.size) v l) (hu : EvsAt w (· < w.heap.size) u l) (hl : l.length ≤ 1048576000) :
    Calls Tryz.prog 44 #[v, u] w fun e w' => e = .returned (.bool true) ∧ Below w.heap.size w w' := by
  obtain ⟨a, cap, rfl⟩ := hv.len
  obtain ⟨a', cap', rfl⟩ := hu.len
  have H := Lib.hid hv
  have H' := Lib.hid hu
  clear hv hu
  go_enter Tryz.func44, Tryz.ntmps44
  go_wp2_with fail
  go_loopw [5] (fun i wr => ∃ k : Nat, k ≤ l.length ∧ i = .int .i64 k ∧ Below w.heap.size w wr) (fun i _ => l.length - (intOf i).toNat)
  case atStart => exact ⟨0, by omega, rfl, Below.refl _ _⟩
  case round =>
    obtain ⟨k, hk, rfl, hbr⟩ := hrel
    by_cases hlt : k < l.length
    · have hlti : (k : Int) < (l.length : Int) := by omega
      obtain ⟨b, o, rfl, hbC, c0, c1, c2, c3, c4, c5, c6⟩ := H.out.cellsAt k hlt
      obtain ⟨b', o', rfl, hbC', d0, d1, d2, d3, d4, d5, d6⟩ := H'.out.cellsAt k hlt
      rw [← hbr.cell (p := ⟨b, _, none⟩) hbC] at c0 c1 c2 c3 c4 c5 c6
      rw [← hbr.cell (p := ⟨b', _, none⟩) hbC'] at d0 d1 d2 d3 d4 d5 d6
      have He := Lib.hid (eqEvent_same l[k])
      unfold evV at He
      generalize l[k] = f at He c0 c1 c2 c3 c4 c5 c6 d0 d1 d2 d3 d4 d5 d6
      go_wp2_with fail
      go_region_with (go_at_call 45; refine (He.out _).mono ?_; rintro e w2 ⟨rfl, hb2⟩; have hl2 := hbr.drew.trans (hb2.mono hbr.size))
      all_goals
        clear c0 c1 c2 c3 c4 c5 c6 d0 d1 d2 d3 d4 d5 d6
        go_wp2_with fail
        go_roundw
        case rel => exact ⟨k + 1, by omega, by go_num, hl2⟩
        case measure => simp [intOf]; omega
    · have hge : (l.length : Int) ≤ (k : Int) := by omega
      have hend : decide (k < l.length) = false := decide_eq_false hlt
      go_wp2_with fail
      go_ret
      exact ⟨rfl, hbr⟩
end Go.Proofs.YtpkofbdfnbpfpaaGreat.Num


/-
  The walk of the reference's l12Tell: one more event is told.
-/
namespace Go.Proofs.YtpkofbdfnbpfpaaGreat.Num
open Go.RowKit Go.Proofs
set_option linter.unusedVariables false
theorem Box.sevenT {w : World} {g : Nat} {a b c d e f h : Value} (hx : Box w g [a, b, c, d, e, f, h]) : (w.cell? ⟨g, 0, none⟩ = some a ∧ w.cell? ⟨g, 1, none⟩ = some b ∧ w.cell? ⟨g, 2, none⟩ = some c ∧ w.cell? ⟨g, 3, none⟩ = some d ∧ w.cell? ⟨g, 4, none⟩ = some e ∧ w.cell? ⟨g, 5, none⟩ = some f ∧ w.cell? ⟨g, 6, none⟩ = some h) ∧ True :=
  ⟨⟨(hx.2 0 (by simp)).1, (hx.2 1 (by simp)).1, (hx.2 2 (by simp)).1, (hx.2 3 (by simp)).1, (hx.2 4 (by simp)).1, (hx.2 5 (by simp)).1, (hx.2 6 (by simp)).1⟩, trivial⟩
/-- The reader's block while what it told is being written: all but what was told. -/
structure RdAt2 (w : World) (g : Nat) (u : Value) (sch : List RM) (A B C : Int) (s : ByteArray) (o : Value) (r : RdM) : Prop where
  box : Box w g ([u, .int .i64 A, .int .i64 B, .int .i64 C, .string s, .int .i64 r.place, o] ++ evC r.fail)
  msgs : MsgsAt w (· < g) u sch
  place : r.place ≤ s.size
theorem RdAt2.of {w w' : World} {g : Nat} {u : Value} {sch : List RM} {A B C : Int} {s : ByteArray} {o : Value} {r : RdM} (h : RdAt w g u sch A B C s o r) (hg : w.grownBy w' o.ownBlock) : RdAt2 w' g u sch A B C s o r := by
  have hb : Below (g + 1) w w' := (Below.refl (g + 1) w).grown hg h.box.lt fun k hk => (h.out.lt k hk).1
  exact ⟨h.box.below hb (Nat.lt_succ_self g), h.msgs.keep (.of_below hb fun b hb' => Nat.lt_succ_of_lt hb') fun _ h => h, h.place⟩
theorem RdAt.drew {w : World} {g : Nat} {u : Value} {sch : List RM} {A B C : Int} {s : ByteArray} {o : Value} {r : RdM} (h : RdAt w g u sch A B C s o r) : RdAt w.drew g u sch A B C s o r := ⟨h.box, h.out, h.msgs, h.place⟩
theorem RdAt2.told {w : World} {g cap g' : Nat} {u : Value} {sch : List RM} {A B C : Int} {s : ByteArray} {o : Value} {r : RdM} {x : Ev} (h : RdAt2 w g u sch A B C s o r)
    (ho : w.ownsRow (g + 1) 34 7 (.slice (some ⟨g', 0, none⟩) (r.out.length + 1) cap) (r.out.length + 1) (r.out.flatMap evC ++ evC x)) :
    RdAt (w.setCell ⟨g, 6, none⟩ (.slice (some ⟨g', 0, none⟩) (r.out.length + 1) cap)) g u sch A B C s (.slice (some ⟨g', 0, none⟩) (r.out.length + 1) cap) (r.tell x) := by
  refine ⟨?_, ?_, h.msgs.keep (.of_set _ (Nat.lt_irrefl g)) fun _ h => h, h.place⟩
  · have := h.box.set 6 (.slice (some ⟨g', 0, none⟩) (r.out.length + 1) cap)
    exact this
  · have h' : OwnE w (g + 1) 34 (.slice (some ⟨g', 0, none⟩) (r.out.length + 1) cap) (r.out ++ [x]) := by unfold OwnE; rw [List.length_append, flat_snoc]; exact ho
    exact h'.other (p := ⟨g, 6, none⟩) (Nat.lt_succ_self g) _
theorem Moved.grown {w w2 : World} {g n g' c : Nat} {o : Value} {ob : Obj} (h : (w.alloc ob).drew.grownBy w2 o.ownBlock) (ho : o.ownBlock = some g' ∨ g' = w.heap.size + 1) : Moved g o (.slice (some ⟨g', 0, none⟩) n c) w w2 := by
  have ha : Below w.heap.size w (w.alloc ob).drew := ((Below.refl _ _).alloc (Nat.le_refl _) _).drew
  refine ⟨h.os.trans ha.os, h.tape.trans ha.tape, h.output.trans ha.output, Nat.le_trans ha.size h.size, fun k hk hn hk' => (h.block k (Nat.lt_of_lt_of_le hk ha.size) fun e => hk' e.symm).trans (ha.block k hk), fun k hk => ?_⟩
  have e : g' = k := by simpa [Value.ownBlock] using hk
  subst e
  rcases ho with h1 | h1
  · exact .inl h1
  · exact .inr (by omega)
theorem RdAt2.out6 {w : World} {g : Nat} {u : Value} {sch : List RM} {A B C : Int} {s : ByteArray} {o : Value} {r : RdM} (h : RdAt2 w g u sch A B C s o r) : w.cell? ⟨g, 6, none⟩ = some o ∧ w.frozen? ⟨g, 6, none⟩ = false := ⟨(h.box.2 6 (by simp)).1, (h.box.2 6 (by simp)).2⟩
set_option maxHeartbeats 2000000 in
theorem l12Tell_any (g : Nat) (u : Value) (sch : List RM) (A B C : Int) (s : ByteArray) (o : Value) (r : RdM) (x : Ev) (w : World) (h : RdAt w g u sch A B C s o r) (hn : r.out.length ≤ 1048576000) :
    Calls Tryz.prog 140 #[.pointer (some ⟨g, 0, none⟩), evV x] w fun e w' => e = .returned (.tuple #[]) ∧ ∃ o', RdAt w' g u sch A B C s o' (r.tell x) ∧ Moved g o o' w w' := by
  obtain ⟨i0, hi, hz0, hz1, hz2⟩ := info_parts info_event
  obtain ⟨k, f, b, l, t, c, p⟩ := x
  unfold evV
  simp only
  have hg := h.lt
  obtain ⟨w1, hw1⟩ : ∃ w1, w.alloc (.cells #[.int .i64 k, .int .i64 f, .int .u64 b, .int .i64 l, .string t, .int .i64 c, .int .i64 p] 34) = w1 := ⟨_, rfl⟩
  have hl1 : Below w.heap.size w w1 := hw1 ▸ (Below.refl _ _).alloc (Nat.le_refl _) _
  have hx1 : Box w1 w.heap.size [.int .i64 k, .int .i64 f, .int .u64 b, .int .i64 l, .string t, .int .i64 c, .int .i64 p] := hw1 ▸ Box.fresh w #[.int .i64 k, .int .i64 f, .int .u64 b, .int .i64 l, .string t, .int .i64 c, .int .i64 p] _
  have hsz1 : w1.heap.size = w.heap.size + 1 := by rw [← hw1]; simp
  have H1 := Lib.hid (h.below hl1)
  have hl1g : Moved g o o w w1 := .of_below hl1
  have Hg := Lib.hid hg
  have hgz : g < w1.heap.size := by omega
  go_enter Tryz.func140, Tryz.ntmps140
  go_wp2_with fail
  generalize w.heap.size = gx at hx1 ⊢
  clear hw1 h hl1 hsz1 hg
  obtain ⟨⟨c0, c1, c2, c3, c4, c5, c6, c7, c8, c9, c10, c11, c12, c13⟩, f5, f6, f7, f8, f9, f10, f11, f12, f13⟩ := H1.out.box.at7
  obtain ⟨⟨e0, e1, e2, e3, e4, e5, e6⟩, _⟩ := Box.sevenT hx1
  have hown : w1.ownsRow (g + 1) 34 7 o r.out.length (r.out.flatMap evC) := H1.out.out
  have hnew : (w1.alloc (.cells #[.int .i64 k, .int .i64 f, .int .u64 b, .int .i64 l, .string t, .int .i64 c, .int .i64 p] 34)).heap[w1.heap.size]? = some (.cells #[.int .i64 k, .int .i64 f, .int .u64 b, .int .i64 l, .string t, .int .i64 c, .int .i64 p] 34 (0, 0)) := heap_alloc_new _ _
  have hRd : RdAt (w1.alloc (.cells #[.int .i64 k, .int .i64 f, .int .u64 b, .int .i64 l, .string t, .int .i64 c, .int .i64 p] 34)) g u sch A B C s o r := H1.out.below ((Below.refl _ _).alloc (Nat.le_refl _) _)
  go_region_law (refine step_append_lies _ (by rfl) _ _ 31 (by rfl) (g + 1) 34 i0 _ 7 64 Tryz.underlying31 hi hz0 hz1 hz2 (by rfl) (by omega) o _ _ (by rfl) (World.ownsRow.alloc hown _) ⟨w1.heap.size, 0, none⟩ 1 1 (evC ⟨k, f, b, l, t, c, p⟩) (by rfl) (by rfl) (fun j u hj => World.news_of_block hnew j u hj) (by intro u hu; simp [evC] at hu; rcases hu with rfl | rfl | rfl | rfl | rfl | rfl | rfl <;> rfl) (by omega) (by unfold maxLen; omega) (by omega) (by simp; omega) (w1.heap.size + 1) (by simp) ?_; intro g' cap' w2 hown2 hg2 hor2 hlt2; have hx2 : Hid (RdAt2 w2 g u sch A B C s o r) := Lib.hid (by first | exact RdAt2.of hRd.drew hg2 | exact RdAt2.of hRd hg2); have hb2 : Hid (Moved g o (.slice (some ⟨g', 0, none⟩) (r.out.length + 1) cap') w1 w2) := Lib.hid (Moved.grown hg2 hor2); obtain ⟨c6', f6'⟩ := RdAt2.out6 hx2.out)
  all_goals
    go_wp2_with fail
    go_end0
    exact ⟨rfl, _, RdAt2.told hx2.out hown2, (hl1g.trans hb2.out).setCell Hg.out _ _⟩
end Go.Proofs.YtpkofbdfnbpfpaaGreat.Num


/-
  The walks of TagOf, TagIn, Zig, Unzig and WidthOf, the reference's and the program's: both give what the plain definitions of XTag say; nothing is written.
-/
namespace Go.Proofs.YtpkofbdfnbpfpaaGreat.Num
open Go.RowKit Go.Proofs
set_option linter.unusedVariables false

theorem tagR_no1 {n w : Int} (h : ¬ Fits n) : tagR n w = 0 := if_neg fun k => h k.1
theorem tagR_no2 {n w : Int} (h : ¬ (0 ≤ w ∧ w ≤ 7)) : tagR n w = 0 := if_neg fun k => h k.2
theorem tagR_yes {n w : Int} (h : Fits n) (k : 0 ≤ w ∧ w ≤ 7) : tagR n w = 8 * n + w := if_pos ⟨h, k⟩
theorem specTagOf_any (n x : Int) (w : World) : Calls Tryz.prog 123 #[.int .i64 n, .int .i64 x] w fun e w' => e = .returned (.int .u64 (tagR n x)) ∧ w = w' := by
  by_cases h : Fits n
  · by_cases h2 : 0 ≤ x ∧ x ≤ 7
    · have hf : 1 ≤ n ∧ n ≤ 536870911 := h
      have He := Lib.hid (tagR_yes h h2)
      have H := Lib.hid h; have H2 := Lib.hid h2; clear h h2
      have hw : IntKind.i64.wrap (8 * n) = 8 * n := IntWalk.i64_in _ (by omega)
      have hw2 : IntKind.i64.wrap (8 * n + x) = 8 * n + x := IntWalk.i64_in _ (by have := H2.out; omega)
      have hw3 : IntKind.u64.wrap (8 * n + x) = 8 * n + x := by rw [IntKind.wrap_u64]; have := H2.out; omega
      clear hf
      go_enter Tryz.func123, Tryz.ntmps123
      go_wp2_with fail
      refine (specIn_yes n 1 536870911 _ H.out).mono ?_
      rintro e w1 ⟨rfl, rfl⟩
      go_wp2_with fail
      refine (specIn_yes x 0 7 _ H2.out).mono ?_
      rintro e w1 ⟨rfl, rfl⟩
      go_wp2_with fail
      go_ret
      exact ⟨by rw [He.out]; rfl, rfl⟩
    · have He := Lib.hid (tagR_no2 (n := n) h2)
      have H := Lib.hid h; have H2 := Lib.hid h2; clear h h2
      go_enter Tryz.func123, Tryz.ntmps123
      go_wp2_with fail
      refine (specIn_yes n 1 536870911 _ H.out).mono ?_
      rintro e w1 ⟨rfl, rfl⟩
      go_wp2_with fail
      refine (specIn_no x 0 7 _ H2.out).mono ?_
      rintro e w1 ⟨rfl, rfl⟩
      go_wp2_with fail
      go_ret
      exact ⟨by rw [He.out]; rfl, rfl⟩
  · have He := Lib.hid (tagR_no1 (w := x) h)
    have H := Lib.hid h; clear h
    go_enter Tryz.func123, Tryz.ntmps123
    go_wp2_with fail
    refine (specIn_no n 1 536870911 _ H.out).mono ?_
    rintro e w1 ⟨rfl, rfl⟩
    go_wp2_with fail
    go_ret
    exact ⟨by rw [He.out]; rfl, rfl⟩
theorem tagIn_yes {u : Nat} (h : 8 ≤ u ∧ u ≤ 4294967295) : tagInR u = (((u / 8 : Nat) : Int), ((u % 8 : Nat) : Int), true) := by unfold tagInR; rw [if_pos h]; rfl
theorem tagIn_no {u : Nat} (h : ¬ (8 ≤ u ∧ u ≤ 4294967295)) : tagInR u = (0, 0, false) := if_neg h
theorem specTagIn_any (u : Nat) (w : World) (hu : u ≤ 18446744073709551615) : Calls Tryz.prog 101 #[.int .u64 u] w fun e w' => e = .returned (tagV (tagInR u)) ∧ w = w' := by
  by_cases h1 : u < 8
  · have He := Lib.hid (tagIn_no (u := u) (by omega))
    have h1i : (u : Int) < 8 := by omega
    clear hu
    go_enter Tryz.func101, Tryz.ntmps101
    go_wp2_with fail
    go_ret3
    exact ⟨by rw [He.out]; rfl, rfl⟩
  · by_cases h2 : 4294967295 < u
    · have He := Lib.hid (tagIn_no (u := u) (by omega))
      have h2i : 4294967295 < (u : Int) := by omega
      go_enter Tryz.func101, Tryz.ntmps101
      go_wp2_with fail
      go_ret3
      exact ⟨by rw [He.out]; rfl, rfl⟩
    · have He := Lib.hid (tagIn_yes (u := u) (by omega))
      have hw1 : IntKind.i64.wrap ((u : Int) / 8) = (u : Int) / 8 := IntWalk.i64_in _ (by omega)
      have hw2 : IntKind.i64.wrap ((u : Int) % 8) = (u : Int) % 8 := IntWalk.i64_in _ (by omega)
      have h1i : 8 ≤ (u : Int) := by omega
      have h2i : (u : Int) ≤ 4294967295 := by omega
      go_enter Tryz.func101, Tryz.ntmps101
      go_wp2_with fail
      go_ret3
      exact ⟨by rw [He.out]; rfl, rfl⟩
theorem implTagIn_any (u : Nat) (w : World) (hu : u ≤ 18446744073709551615) : Calls Tryz.prog 183 #[.int .u64 u] w fun e w' => e = .returned (tagV (tagInR u)) ∧ w = w' := by
  have hw1 : IntKind.i64.wrap ((u : Int) / 8) = (u : Int) / 8 := IntWalk.i64_in _ (by omega)
  have hw2 : IntKind.i64.wrap ((u : Int) % 8) = (u : Int) % 8 := IntWalk.i64_in _ (by omega)
  by_cases h : Fits ((u : Int) / 8)
  · have He := Lib.hid (tagIn_yes (u := u) (by unfold Fits at h; omega))
    have H := Lib.hid h; clear h
    go_enter Tryz.func183, Tryz.ntmps183
    go_wp2_with fail
    refine (implFits_yes ((u : Int) / 8) _ H.out).mono ?_
    rintro e w1 ⟨rfl, rfl⟩
    go_wp2_with fail
    go_ret3
    exact ⟨by rw [He.out]; rfl, rfl⟩
  · have He := Lib.hid (tagIn_no (u := u) (by unfold Fits at h; omega))
    have H := Lib.hid h; clear h
    go_enter Tryz.func183, Tryz.ntmps183
    go_wp2_with fail
    refine (implFits_no ((u : Int) / 8) _ H.out).mono ?_
    rintro e w1 ⟨rfl, rfl⟩
    go_wp2_with fail
    go_ret3
    exact ⟨by rw [He.out]; rfl, rfl⟩
theorem specWidthOf_any (x : Int) (w : World) : Calls Tryz.prog 125 #[.int .i64 x] w fun e w' => e = .returned (.int .i64 (widthR x)) ∧ w = w' := by
  by_cases h1 : x = 1
  · subst h1
    go_enter Tryz.func125, Tryz.ntmps125
    go_wp2_with fail
    go_ret
    exact ⟨rfl, rfl⟩
  · by_cases h5 : x = 5
    · subst h5
      go_enter Tryz.func125, Tryz.ntmps125
      go_wp2_with fail
      go_ret
      exact ⟨rfl, rfl⟩
    · have He := Lib.hid (show widthR x = 0 by unfold widthR; rw [if_neg h1, if_neg h5])
      have b1 : (x == 1) = false := by rw [beq_eq_false_iff_ne]; exact h1
      have b5 : (x == 5) = false := by rw [beq_eq_false_iff_ne]; exact h5
      clear h1 h5
      go_enter Tryz.func125, Tryz.ntmps125
      go_wp2_with fail
      go_ret
      exact ⟨by rw [He.out]; rfl, rfl⟩
theorem implWidthOf_any (x : Int) (w : World) : Calls Tryz.prog 132 #[.int .i64 x] w fun e w' => e = .returned (.int .i64 (widthR x)) ∧ w = w' := by
  by_cases h1 : x = 1
  · subst h1
    go_enter Tryz.func132, Tryz.ntmps132
    go_wp2_with fail
    go_ret
    exact ⟨rfl, rfl⟩
  · by_cases h5 : x = 5
    · subst h5
      go_enter Tryz.func132, Tryz.ntmps132
      go_wp2_with fail
      go_ret
      exact ⟨rfl, rfl⟩
    · have He := Lib.hid (show widthR x = 0 by unfold widthR; rw [if_neg h1, if_neg h5])
      have b1 : (x == 1) = false := by rw [beq_eq_false_iff_ne]; exact h1
      have b5 : (x == 5) = false := by rw [beq_eq_false_iff_ne]; exact h5
      clear h1 h5
      go_enter Tryz.func132, Tryz.ntmps132
      go_wp2_with fail
      go_ret
      exact ⟨by rw [He.out]; rfl, rfl⟩
end Go.Proofs.YtpkofbdfnbpfpaaGreat.Num


/-
  The walk of the reference's l12Num: a number that stands with a wire type is read, and told where the field has a number.
-/
namespace Go.Proofs.YtpkofbdfnbpfpaaGreat.Num
open Go.RowKit Go.Proofs
set_option linter.unusedVariables false
/-- What is read first: value and reader. -/
def rdRaw (s : ByteArray) (x E : Int) (r : RdM) : Int × RdM := if x = 0 then rdVar s E r else rdFix s (widthR x) E r
/-- What is then told. -/
def rdTold (f : RF) (q : Int × RdM) : RdM := if q.2.fail.kind = 0 ∧ 0 < f.1 then q.2.tell (numE f q.1.toNat) else q.2
def rdNum (s : ByteArray) (f : RF) (x E : Int) (r : RdM) : RdM := rdTold f (rdRaw s x E r)
theorem rdVar_nat {s : ByteArray} {E : Int} {r : RdM} (hp : r.place ≤ s.size) : ∃ U : Nat, (rdVar s E r).1 = U := by
  unfold rdVar
  by_cases hb : (withinR s r.place E).2.2 = 0
  · rw [if_neg (fun h => h hb)]
    obtain ⟨_, _, _, _, _, U, h, _⟩ := within_range (v := (withinR s r.place E).1) (p := (withinR s r.place E).2.1) (b := (withinR s r.place E).2.2) hp rfl hb
    exact ⟨U, h⟩
  · rw [if_pos hb]; exact ⟨0, rfl⟩
theorem rdFix_nat {s : ByteArray} {W E : Int} {r : RdM} : ∃ U : Nat, (rdFix s W E r).1 = U := by
  unfold rdFix
  split
  · exact ⟨0, rfl⟩
  · split
    · exact ⟨0, rfl⟩
    · exact ⟨_, rfl⟩
theorem rdVar_out {s : ByteArray} {E : Int} {r : RdM} : (rdVar s E r).2.out = r.out := by unfold rdVar; split <;> rfl
theorem rdFix_out {s : ByteArray} {W E : Int} {r : RdM} : (rdFix s W E r).2.out = r.out := by unfold rdFix; split; rfl; split <;> rfl
set_option maxHeartbeats 2000000 in
theorem l12Num_any (g : Nat) (u : Value) (sch : List RM) (A B C x E : Int) (f : RF) (s : ByteArray) (o : Value) (r : RdM) (w : World) (h : RdAt w g u sch A B C s o r) (hs : s.size ≤ 281474976710656) (hE : (r.place : Int) ≤ E ∧ E ≤ 9223372036854775807) (hn : r.out.length ≤ 1048576000) :
    Calls Tryz.prog 107 #[.pointer (some ⟨g, 0, none⟩), fieldV f, .int .i64 x, .int .i64 E] w fun e w' => e = .returned (.tuple #[]) ∧ ∃ o', RdAt w' g u sch A B C s o' (rdNum s f x E r) ∧ Moved g o o' w w' := by
  obtain ⟨A1, A2, A3, A4, A5⟩ := f
  unfold rdNum
  have hN : ∀ (U : Nat) w, Calls Tryz.prog 143 #[.agg #[.int .i64 A1, .int .i64 A2, .bool A3, .bool A4, .int .i64 A5], .int .u64 U] w fun e w' => e = .returned (evV (numE (A1, A2, A3, A4, A5) U)) ∧ Below w.heap.size w w' := fun U w => specNumEvent_any (A1, A2, A3, A4, A5) U w
  have HN := Lib.hid hN
  unfold fieldV
  simp only
  have hg := h.lt
  have hp := h.place
  have hob : ∀ k, o.ownBlock = some k → k < w.heap.size := fun k hk => (h.out.lt k hk).2
  have hbx : Box (w.alloc (.cells #[.int .i64 A1, .int .i64 A2, .bool A3, .bool A4, .int .i64 A5] 117)) w.heap.size [.int .i64 A1, .int .i64 A2, .bool A3, .bool A4, .int .i64 A5] := Box.fresh w #[.int .i64 A1, .int .i64 A2, .bool A3, .bool A4, .int .i64 A5] _
  have hl0 : Below w.heap.size w (w.alloc (.cells #[.int .i64 A1, .int .i64 A2, .bool A3, .bool A4, .int .i64 A5] 117)) := (Below.refl _ _).alloc (Nat.le_refl _) _
  have H0 := Lib.hid (h.below hl0)
  have hm0 : Moved g o o w (w.alloc (.cells #[.int .i64 A1, .int .i64 A2, .bool A3, .bool A4, .int .i64 A5] 117)) := .of_below hl0
  have hgx : w.heap.size ≠ g := by omega
  have hox : o.ownBlock ≠ some w.heap.size := fun e => Nat.lt_irrefl _ (hob _ e)
  clear hN h hl0 hob
  by_cases hx0 : x = 0
  · have hxb : (x == 0) = true := by simp [hx0]
    have HZ : Hid (rdRaw s x E r = rdVar s E r) := Lib.hid (by unfold rdRaw; rw [if_pos hx0])
    clear hx0
    go_enter Tryz.func107, Tryz.ntmps107
    go_wp2_with fail
    generalize w.alloc (.cells #[.int .i64 A1, .int .i64 A2, .bool A3, .bool A4, .int .i64 A5] 117) = w1 at H0 hm0 hbx ⊢
    refine (l12Var_any g u sch A B C E s o r _ H0.out hs).mono ?_
    have HU := Lib.hid (rdVar_nat (E := E) hp)
    have Hlen : Hid ((rdVar s E r).2.out.length ≤ 1048576000) := Lib.hid (by rw [rdVar_out]; exact hn)
    generalize rdVar s E r = Q at HU Hlen HZ ⊢
    obtain ⟨V, Q⟩ := Q
    obtain ⟨U, hU⟩ := HU.out
    simp only at hU
    subst hU
    rintro e w2 ⟨rfl, h2, hm2⟩
    have H2 := Lib.hid h2
    have hm := hm0.trans hm2
    have hb2 := hm2.box hbx hgx hox
    clear HU H0 hm0 hm2 hbx h2
    obtain ⟨⟨x0, x1, x2, x3, x4⟩, _⟩ := Box.five hb2
    obtain ⟨⟨c0, c1, c2, c3, c4, c5, c6, c7, c8, c9, c10, c11, c12, c13⟩, f5, f6, f7, f8, f9, f10, f11, f12, f13⟩ := H2.out.box.at7
    by_cases hk : Q.fail.kind = 0
    · have hkb : (Q.fail.kind == 0) = true := by simp [hk]
      by_cases hf : 0 < A1
      · have Hq : Hid (rdTold (A1, A2, A3, A4, A5) ((U : Int), Q) = Q.tell (numE (A1, A2, A3, A4, A5) U)) := Lib.hid (by unfold rdTold; simp only; rw [if_pos ⟨hk, hf⟩, Int.toNat_natCast])
        clear hk
        go_wp2_with fail
        refine (HN.out U _).mono ?_
        rintro e w3 ⟨rfl, hb3⟩
        have H3 := Lib.hid (H2.out.below hb3)
        have hm3 := hm.trans (Moved.of_below hb3)
        clear H2 hm hb3 hb2 x0 x1 x2 x3 x4 c0 c1 c2 c3 c4 c5 c6 c7 c8 c9 c10 c11 c12 c13 f5 f6 f7 f8 f9 f10 f11 f12 f13
        go_wp2_with fail
        refine (l12Tell_any g u sch A B C s o Q _ _ H3.out Hlen.out).mono ?_
        rintro e w4 ⟨rfl, o', h4, hm4⟩
        have H4 := Lib.hid h4
        clear h4
        go_wp2_with fail
        go_end0
        exact ⟨rfl, o', by rw [HZ.out, Hq.out]; exact H4.out, hm3.trans hm4⟩
      · have hfb : decide (0 < A1) = false := decide_eq_false hf
        have Hq : Hid (rdTold (A1, A2, A3, A4, A5) ((U : Int), Q) = Q) := Lib.hid (by unfold rdTold; simp only; rw [if_neg (fun h => hf h.2)])
        clear hk hf
        go_wp2_with fail
        go_end0
        exact ⟨rfl, o, by rw [HZ.out, Hq.out]; exact H2.out, hm⟩
    · have hkb : (Q.fail.kind == 0) = false := neI hk
      have Hq : Hid (rdTold (A1, A2, A3, A4, A5) ((U : Int), Q) = Q) := Lib.hid (by unfold rdTold; simp only; rw [if_neg (fun h => hk h.1)])
      clear hk
      go_wp2_with fail
      go_end0
      exact ⟨rfl, o, by rw [HZ.out, Hq.out]; exact H2.out, hm⟩
  · have hxb : (x == 0) = false := neI hx0
    have HZ : Hid (rdRaw s x E r = rdFix s (widthR x) E r) := Lib.hid (by unfold rdRaw; rw [if_neg hx0])
    have hwb : 0 ≤ widthR x ∧ widthR x ≤ 8 := by unfold widthR; split; omega; split <;> omega
    clear hx0
    go_enter Tryz.func107, Tryz.ntmps107
    go_wp2_with fail
    generalize w.alloc (.cells #[.int .i64 A1, .int .i64 A2, .bool A3, .bool A4, .int .i64 A5] 117) = w1 at H0 hm0 hbx ⊢
    refine (specWidthOf_any x _).mono ?_
    rintro e w1' ⟨rfl, rfl⟩
    go_wp2_with fail
    refine (l12Fix_any g u sch A B C (widthR x) E s o r _ H0.out hs hE hwb).mono ?_
    have HU := Lib.hid (rdFix_nat (s := s) (W := widthR x) (E := E) (r := r))
    have Hlen : Hid ((rdFix s (widthR x) E r).2.out.length ≤ 1048576000) := Lib.hid (by rw [rdFix_out]; exact hn)
    generalize rdFix s (widthR x) E r = Q at HU Hlen HZ ⊢
    obtain ⟨V, Q⟩ := Q
    obtain ⟨U, hU⟩ := HU.out
    simp only at hU
    subst hU
    rintro e w2 ⟨rfl, h2, hm2⟩
    have H2 := Lib.hid h2
    have hm := hm0.trans hm2
    have hb2 := hm2.box hbx hgx hox
    clear HU H0 hm0 hm2 hbx h2
    obtain ⟨⟨x0, x1, x2, x3, x4⟩, _⟩ := Box.five hb2
    obtain ⟨⟨c0, c1, c2, c3, c4, c5, c6, c7, c8, c9, c10, c11, c12, c13⟩, f5, f6, f7, f8, f9, f10, f11, f12, f13⟩ := H2.out.box.at7
    by_cases hk : Q.fail.kind = 0
    · have hkb : (Q.fail.kind == 0) = true := by simp [hk]
      by_cases hf : 0 < A1
      · have Hq : Hid (rdTold (A1, A2, A3, A4, A5) ((U : Int), Q) = Q.tell (numE (A1, A2, A3, A4, A5) U)) := Lib.hid (by unfold rdTold; simp only; rw [if_pos ⟨hk, hf⟩, Int.toNat_natCast])
        clear hk
        go_wp2_with fail
        refine (HN.out U _).mono ?_
        rintro e w3 ⟨rfl, hb3⟩
        have H3 := Lib.hid (H2.out.below hb3)
        have hm3 := hm.trans (Moved.of_below hb3)
        clear H2 hm hb3 hb2 x0 x1 x2 x3 x4 c0 c1 c2 c3 c4 c5 c6 c7 c8 c9 c10 c11 c12 c13 f5 f6 f7 f8 f9 f10 f11 f12 f13
        go_wp2_with fail
        refine (l12Tell_any g u sch A B C s o Q _ _ H3.out Hlen.out).mono ?_
        rintro e w4 ⟨rfl, o', h4, hm4⟩
        have H4 := Lib.hid h4
        clear h4
        go_wp2_with fail
        go_end0
        exact ⟨rfl, o', by rw [HZ.out, Hq.out]; exact H4.out, hm3.trans hm4⟩
      · have hfb : decide (0 < A1) = false := decide_eq_false hf
        have Hq : Hid (rdTold (A1, A2, A3, A4, A5) ((U : Int), Q) = Q) := Lib.hid (by unfold rdTold; simp only; rw [if_neg (fun h => hf h.2)])
        clear hk hf
        go_wp2_with fail
        go_end0
        exact ⟨rfl, o, by rw [HZ.out, Hq.out]; exact H2.out, hm⟩
    · have hkb : (Q.fail.kind == 0) = false := neI hk
      have Hq : Hid (rdTold (A1, A2, A3, A4, A5) ((U : Int), Q) = Q) := Lib.hid (by unfold rdTold; simp only; rw [if_neg (fun h => hk h.1)])
      clear hk
      go_wp2_with fail
      go_end0
      exact ⟨rfl, o, by rw [HZ.out, Hq.out]; exact H2.out, hm⟩
end Go.Proofs.YtpkofbdfnbpfpaaGreat.Num

