/-
  The walk of the reference's EventOk: whether an event has a valid kind and only the fields of its kind; only new memory is written.
-/
import Derived.Test.YtbjndnpdmohjiaaDoorEvSame
import Derived.Test.YtbjndnpdmohjiaaDoorIn
import Derived.Deep.DeepCutAuto
import Derived.Deep.CutBlock
namespace Go.Proofs.YtbjndnpdmohjiaaDoor.Num
open Go.RowKit Go.Proofs
set_option linter.unusedVariables false
set_option linter.unusedSimpArgs false

/-- What is left of an event where its kind's fields alone are kept. -/
def wantE (e : Ev) : Ev :=
  if e.kind = 1 then ⟨1, 0, 0, e.len, .empty, 0, 0⟩
  else if e.kind = 2 then ⟨2, e.field, e.bits, 0, .empty, 0, 0⟩
  else if e.kind = 3 then ⟨3, e.field, 0, e.len, .empty, 0, 0⟩
  else if e.kind = 6 then ⟨6, e.field, 0, e.len, .empty, 0, 0⟩
  else if e.kind = 4 then ⟨4, 0, 0, 0, e.text, 0, 0⟩
  else if e.kind = 9 then ⟨9, 0, 0, 0, .empty, 0, e.pos⟩
  else if e.kind = 10 then ⟨10, 0, 0, 0, .empty, e.code, e.pos⟩
  else ⟨e.kind, 0, 0, 0, .empty, 0, 0⟩
def EvOk (e : Ev) : Prop :=
  e = wantE e ∧ (1 ≤ e.kind ∧ e.kind ≤ 10) ∧ 0 ≤ e.len ∧ 0 ≤ e.pos ∧ ((e.kind = 2 ∨ e.kind = 3 ∨ e.kind = 6) → 1 ≤ e.field ∧ e.field ≤ 536870911) ∧ (e.kind = 4 → e.text ≠ .empty) ∧ (e.kind = 10 → 1 ≤ e.code)
instance (e : Ev) : Decidable (EvOk e) := by unfold EvOk; infer_instance
def evOkB (e : Ev) : Bool := decide (EvOk e)
theorem evOk_yes {e : Ev} (h : EvOk e) : evOkB e = true := decide_eq_true h
theorem evOk_no {e : Ev} (h : ¬ EvOk e) : evOkB e = false := decide_eq_false h
/-- A kind's number: one of the ten, or none. -/
theorem ev_kinds (k : Int) : k = 1 ∨ k = 2 ∨ k = 3 ∨ k = 4 ∨ k = 5 ∨ k = 6 ∨ k = 7 ∨ k = 8 ∨ k = 9 ∨ k = 10 ∨ (k ≠ 1 ∧ k ≠ 2 ∧ k ≠ 3 ∧ k ≠ 4 ∧ k ≠ 5 ∧ k ≠ 6 ∧ k ≠ 7 ∧ k ≠ 8 ∧ k ≠ 9 ∧ k ≠ 10) := by omega
theorem Box.seven {w : World} {g : Nat} {a b c d e f h : Value} (hx : Box w g [a, b, c, d, e, f, h]) : (w.cell? ⟨g, 0, none⟩ = some a ∧ w.cell? ⟨g, 1, none⟩ = some b ∧ w.cell? ⟨g, 2, none⟩ = some c ∧ w.cell? ⟨g, 3, none⟩ = some d ∧ w.cell? ⟨g, 4, none⟩ = some e ∧ w.cell? ⟨g, 5, none⟩ = some f ∧ w.cell? ⟨g, 6, none⟩ = some h) ∧
    w.frozen? ⟨g, 0, none⟩ = false ∧ w.frozen? ⟨g, 1, none⟩ = false ∧ w.frozen? ⟨g, 2, none⟩ = false ∧ w.frozen? ⟨g, 3, none⟩ = false ∧ w.frozen? ⟨g, 4, none⟩ = false ∧ w.frozen? ⟨g, 5, none⟩ = false ∧ w.frozen? ⟨g, 6, none⟩ = false :=
  ⟨⟨(hx.2 0 (by simp)).1, (hx.2 1 (by simp)).1, (hx.2 2 (by simp)).1, (hx.2 3 (by simp)).1, (hx.2 4 (by simp)).1, (hx.2 5 (by simp)).1, (hx.2 6 (by simp)).1⟩,
    (hx.2 0 (by simp)).2, (hx.2 1 (by simp)).2, (hx.2 2 (by simp)).2, (hx.2 3 (by simp)).2, (hx.2 4 (by simp)).2, (hx.2 5 (by simp)).2, (hx.2 6 (by simp)).2⟩
theorem quietB {P : Program} {f : FuncId} {args : Array Value} {w : World} {v : Value} (h : Calls P f args w fun e w' => e = .returned v ∧ w = w') : Calls P f args w fun e w' => e = .returned v ∧ w' = w := h.mono fun _ _ ⟨he, hw⟩ => ⟨he, hw.symm⟩
theorem sIn_as {x lo hi : Int} {Q : Bool} (h : decide (lo ≤ x ∧ x ≤ hi) = Q) (w : World) : Calls Tryd.prog 22 #[.int .i64 x, .int .i64 lo, .int .i64 hi] w fun e w' => e = .returned (.bool Q) ∧ w = w' := h ▸ specIn_any x lo hi w
set_option maxHeartbeats 8000000 in
set_option maxRecDepth 100000 in
theorem specEventOk_any (e : Ev) (w : World) : Calls Tryd.prog 10 #[evV e] w fun x w' => x = .returned (.bool (evOkB e)) ∧ Below w.heap.size w w' := by
  obtain ⟨R, hR⟩ : ∃ R, evOkB e = R := ⟨_, rfl⟩
  have HR := Lib.hid hR
  rw [hR]
  clear hR
  obtain ⟨k, f, b, l, t, c, p⟩ := e
  unfold evV
  simp only
  have hbe := (Box.fresh w #[.int .i64 k, .int .i64 f, .int .u64 b, .int .i64 l, .string t, .int .i64 c, .int .i64 p] 26).alloc (.cells #[.int .i64 k, .int .i64 0, .int .u64 0, .int .i64 0, .string ⟨#[]⟩, .int .i64 0, .int .i64 0] 26)
  have hbw := Box.fresh (w.alloc (.cells #[.int .i64 k, .int .i64 f, .int .u64 b, .int .i64 l, .string t, .int .i64 c, .int .i64 p] 26)) #[.int .i64 k, .int .i64 0, .int .u64 0, .int .i64 0, .string ⟨#[]⟩, .int .i64 0, .int .i64 0] 26
  rw [show (w.alloc (.cells #[.int .i64 k, .int .i64 f, .int .u64 b, .int .i64 l, .string t, .int .i64 c, .int .i64 p] 26)).heap.size = w.heap.size + 1 by simp] at hbw
  have hl : Below w.heap.size w ((w.alloc (.cells #[.int .i64 k, .int .i64 f, .int .u64 b, .int .i64 l, .string t, .int .i64 c, .int .i64 p] 26)).alloc (.cells #[.int .i64 k, .int .i64 0, .int .u64 0, .int .i64 0, .string ⟨#[]⟩, .int .i64 0, .int .i64 0] 26)) := ((Below.refl _ _).alloc (Nat.le_refl _) _).alloc (by simp) _
  go_enter Tryd.func10, Tryd.ntmps10
  go_upto_region 2 with fail
  generalize ((w.alloc (.cells #[.int .i64 k, .int .i64 f, .int .u64 b, .int .i64 l, .string t, .int .i64 c, .int .i64 p] 26)).alloc (.cells #[.int .i64 k, .int .i64 0, .int .u64 0, .int .i64 0, .string ⟨#[]⟩, .int .i64 0, .int .i64 0] 26)) = w1 at hbe hbw hl ⊢
  have Hbe := Lib.hid hbe
  have Hbw := Lib.hid hbw
  clear hbe hbw
  have hz1 := Hbw.out.lt
  have hz0 := Hbe.out.lt
  have ek := Hbe.out.seven.1.1
  go_upto_block 0 with fail
  clear ek
  go_cut [] from 9 to 48 (fun wx => Hid (Box wx w.heap.size (evC ⟨k, f, b, l, t, c, p⟩)) ∧ Hid (Box wx (w.heap.size + 1) (evC (wantE ⟨k, f, b, l, t, c, p⟩))) ∧ Below w.heap.size w wx)
  case first =>
    obtain ⟨⟨e0, e1, e2, e3, e4, e5, e6⟩, _⟩ := Hbe.out.seven
    obtain ⟨⟨q0, q1, q2, q3, q4, q5, q6⟩, g0, g1, g2, g3, g4, g5, g6⟩ := Hbw.out.seven
    have hset : ∀ j v, Box (w1.setCell ⟨w.heap.size + 1, j, none⟩ v) w.heap.size (evC ⟨k, f, b, l, t, c, p⟩) := fun j v => Box.other Hbe.out (by simp) v
    have Hset := Lib.hid hset
    clear hset
    rcases ev_kinds k with rfl | rfl | rfl | rfl | rfl | rfl | rfl | rfl | rfl | rfl | hk
    · go_wp2_with fail
      go_meet
      exact ⟨Lib.hid (Hset.out _ _), Lib.hid (Hbw.out.set 3 _), hl.setCell (by simp) _⟩
    · go_wp2_with fail
      go_meet
      exact ⟨Lib.hid (Box.other (Hset.out _ _) (by simp) _), Lib.hid ((Hbw.out.set 1 _).set 2 _), (hl.setCell (by simp) _).setCell (by simp) _⟩
    · go_wp2_with fail
      go_meet
      exact ⟨Lib.hid (Box.other (Hset.out _ _) (by simp) _), Lib.hid ((Hbw.out.set 1 _).set 3 _), (hl.setCell (by simp) _).setCell (by simp) _⟩
    · go_wp2_with fail
      go_meet
      exact ⟨Lib.hid (Hset.out _ _), Lib.hid (Hbw.out.set 4 _), hl.setCell (by simp) _⟩
    · go_wp2_with fail
      go_meet
      exact ⟨Hbe, Hbw, hl⟩
    · go_wp2_with fail
      go_meet
      exact ⟨Lib.hid (Box.other (Hset.out _ _) (by simp) _), Lib.hid ((Hbw.out.set 1 _).set 3 _), (hl.setCell (by simp) _).setCell (by simp) _⟩
    · go_wp2_with fail
      go_meet
      exact ⟨Hbe, Hbw, hl⟩
    · go_wp2_with fail
      go_meet
      exact ⟨Hbe, Hbw, hl⟩
    · go_wp2_with fail
      go_meet
      exact ⟨Lib.hid (Hset.out _ _), Lib.hid (Hbw.out.set 6 _), hl.setCell (by simp) _⟩
    · go_wp2_with fail
      go_meet
      exact ⟨Lib.hid (Box.other (Hset.out _ _) (by simp) _), Lib.hid ((Hbw.out.set 6 _).set 5 _), (hl.setCell (by simp) _).setCell (by simp) _⟩
    · obtain ⟨k1, k2, k3, k4, k5, k6, k7, k8, k9, k10⟩ := hk
      have hwant : wantE ⟨k, f, b, l, t, c, p⟩ = ⟨k, 0, 0, 0, .empty, 0, 0⟩ := by
        unfold wantE; simp only
        rw [if_neg k1, if_neg k2, if_neg k3, if_neg k6, if_neg k4, if_neg k9, if_neg k10]
      have Hw : Hid (wantE ⟨k, f, b, l, t, c, p⟩ = ⟨k, 0, 0, 0, .empty, 0, 0⟩) := Lib.hid hwant
      have n1 := neI k1
      have n2 := neI k2
      have n3 := neI k3
      have n4 := neI k4
      have n6 := neI k6
      have n9 := neI k9
      have n10 := neI k10
      clear hwant k1 k2 k3 k4 k5 k6 k7 k8 k9 k10
      go_wp2_with fail
      go_meet
      rw [Hw.out]
      exact ⟨Hbe, Hbw, hl⟩
  case rest =>
    obtain ⟨HE, HW, hl2⟩ := hcut
    clear hl Hbe Hbw hz1 hz0
    obtain ⟨⟨e0, e1, e2, e3, e4, e5, e6⟩, _⟩ := HE.out.seven
    have hz0 := HE.out.lt
    have hz1 := HW.out.lt
    obtain ⟨x, hx⟩ : ∃ x, wantE ⟨k, f, b, l, t, c, p⟩ = x := ⟨_, rfl⟩
    rw [hx] at HW
    obtain ⟨⟨q0, q1, q2, q3, q4, q5, q6⟩, _⟩ := HW.out.seven
    clear HE HW
    by_cases he : (⟨k, f, b, l, t, c, p⟩ : Ev) = x
    · have hE := evEq_as (a := ⟨k, f, b, l, t, c, p⟩) (b := x) (Q := true) (decide_eq_true he)
      unfold evV at hE
      by_cases hk : 1 ≤ k ∧ k ≤ 10
      · have HIn := Lib.hid (sIn_as (x := k) (lo := 1) (hi := 10) (decide_eq_true hk))
        by_cases h3 : l < 0
        · obtain rfl : R = false := by rw [← HR.out]; exact evOk_no fun h => by have := h.2.2.1; simp only at this; omega
          clear he hk
          go_wp2_with fail
          refine (HIn.out _).mono ?_
          rintro _ _ ⟨rfl, rfl⟩
          go_wp2_with fail
          go_ret
          exact ⟨rfl, hl2⟩
        · have h3d : decide (l < 0) = false := decide_eq_false h3
          by_cases h4 : p < 0
          · obtain rfl : R = false := by rw [← HR.out]; exact evOk_no fun h => by have := h.2.2.2.1; simp only at this; omega
            clear he hk h3
            go_wp2_with fail
            refine (HIn.out _).mono ?_
            rintro _ _ ⟨rfl, rfl⟩
            go_wp2_with fail
            go_ret
            exact ⟨rfl, hl2⟩
          · have h4d : decide (p < 0) = false := decide_eq_false h4
            have Hok : Hid (∀ Q : Prop, (Q ↔ (((k = 2 ∨ k = 3 ∨ k = 6) → 1 ≤ f ∧ f ≤ 536870911) ∧ (k = 4 → t ≠ .empty) ∧ (k = 10 → 1 ≤ c))) → R = true ∧ Q ∨ R = false ∧ ¬ Q) := Lib.hid fun Q hQ => by
              rw [← HR.out]
              by_cases h : Q
              · exact .inl ⟨evOk_yes ⟨by rw [hx]; exact he, hk, by simp only; omega, by simp only; omega, hQ.1 h⟩, h⟩
              · exact .inr ⟨evOk_no fun g => h (hQ.2 g.2.2.2.2), h⟩
            have Hx := Lib.hid hx
            have Hk := Lib.hid hk
            clear he h3 h4 hx hk HR
            have hkk : k = 2 ∨ k = 3 ∨ k = 6 ∨ k = 4 ∨ k = 10 ∨ (k ≠ 2 ∧ k ≠ 3 ∧ k ≠ 6 ∧ k ≠ 4 ∧ k ≠ 10) := by omega
            rcases hkk with rfl | rfl | rfl | rfl | rfl | ⟨m2, m3, m6, m4, m10⟩
            · have hin : decide (1 ≤ f ∧ f ≤ 536870911) = R := by rcases Hok.out (1 ≤ f ∧ f ≤ 536870911) (by omega) with ⟨rfl, h⟩ | ⟨rfl, h⟩; exact decide_eq_true h; exact decide_eq_false h
              have HIf := Lib.hid (sIn_as hin)
              clear hin
              go_wp2_with fail
              refine (HIn.out _).mono ?_
              rintro _ _ ⟨rfl, rfl⟩
              go_wp2_with fail
              refine (HIf.out _).mono ?_
              rintro _ _ ⟨rfl, rfl⟩
              go_wp2_with fail
              go_ret
              exact ⟨rfl, hl2⟩
            · have hin : decide (1 ≤ f ∧ f ≤ 536870911) = R := by rcases Hok.out (1 ≤ f ∧ f ≤ 536870911) (by omega) with ⟨rfl, h⟩ | ⟨rfl, h⟩; exact decide_eq_true h; exact decide_eq_false h
              have HIf := Lib.hid (sIn_as hin)
              clear hin
              go_wp2_with fail
              refine (HIn.out _).mono ?_
              rintro _ _ ⟨rfl, rfl⟩
              go_wp2_with fail
              refine (HIf.out _).mono ?_
              rintro _ _ ⟨rfl, rfl⟩
              go_wp2_with fail
              go_ret
              exact ⟨rfl, hl2⟩
            · have hin : decide (1 ≤ f ∧ f ≤ 536870911) = R := by rcases Hok.out (1 ≤ f ∧ f ≤ 536870911) (by omega) with ⟨rfl, h⟩ | ⟨rfl, h⟩; exact decide_eq_true h; exact decide_eq_false h
              have HIf := Lib.hid (sIn_as hin)
              clear hin
              go_wp2_with fail
              refine (HIn.out _).mono ?_
              rintro _ _ ⟨rfl, rfl⟩
              go_wp2_with fail
              refine (HIf.out _).mono ?_
              rintro _ _ ⟨rfl, rfl⟩
              go_wp2_with fail
              go_ret
              exact ⟨rfl, hl2⟩
            · rcases Hok.out (t ≠ .empty) (by constructor <;> simp_all) with ⟨rfl, h⟩ | ⟨rfl, h⟩
              · have ht : t.toList.isEmpty = false := by
                  cases hh : t.toList.isEmpty with
                  | false => rfl
                  | true => exact absurd (ba_inj (a := t) (b := .empty) (by rw [List.isEmpty_iff.1 hh, ByteArray.toList_eq]; rfl)) h
                clear h
                go_wp2_with fail
                refine (HIn.out _).mono ?_
                rintro _ _ ⟨rfl, rfl⟩
                go_wp2_with fail
                go_ret
                exact ⟨rfl, hl2⟩
              · obtain rfl : t = .empty := Classical.not_not.1 h
                clear h
                go_wp2_with fail
                refine (HIn.out _).mono ?_
                rintro _ _ ⟨rfl, rfl⟩
                go_wp2_with fail
                go_ret
                exact ⟨rfl, hl2⟩
            · have hin : decide (1 ≤ c) = R := by rcases Hok.out (1 ≤ c) (by omega) with ⟨rfl, h⟩ | ⟨rfl, h⟩; exact decide_eq_true h; exact decide_eq_false h
              go_wp2_with fail
              refine (HIn.out _).mono ?_
              rintro _ _ ⟨rfl, rfl⟩
              go_wp2_with fail
              go_ret
              exact ⟨rfl, hl2⟩
            · obtain rfl : R = true := by rcases Hok.out True (by simp [m2, m3, m6, m4, m10]) with ⟨rfl, h⟩ | ⟨rfl, h⟩; rfl; exact absurd trivial h
              have n2 := neI m2
              have n3 := neI m3
              have n6 := neI m6
              have n4 := neI m4
              have n10 := neI m10
              clear m2 m3 m6 m4 m10
              go_wp2_with fail
              refine (HIn.out _).mono ?_
              rintro _ _ ⟨rfl, rfl⟩
              go_wp2_with fail
              go_ret
              exact ⟨rfl, hl2⟩
      · obtain rfl : R = false := by rw [← HR.out]; exact evOk_no fun h => hk h.2.1
        have HIn := Lib.hid (sIn_as (x := k) (lo := 1) (hi := 10) (decide_eq_false hk))
        clear he hk hx
        go_wp2_with fail
        refine (HIn.out _).mono ?_
        rintro _ _ ⟨rfl, rfl⟩
        go_wp2_with fail
        go_ret
        exact ⟨rfl, hl2⟩
    · obtain rfl : R = false := by rw [← HR.out]; exact evOk_no fun h => he (by rw [← hx]; exact h.1)
      have hE := evEq_as (a := ⟨k, f, b, l, t, c, p⟩) (b := x) (Q := false) (decide_eq_false he)
      unfold evV at hE
      clear he hx
      go_wp2_with fail
      go_ret
      exact ⟨rfl, hl2⟩
end Go.Proofs.YtbjndnpdmohjiaaDoor.Num
