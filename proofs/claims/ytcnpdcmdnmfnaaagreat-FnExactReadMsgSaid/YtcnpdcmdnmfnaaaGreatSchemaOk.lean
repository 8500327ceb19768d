/-
  The walks of the reference's l8FieldOk and SchemaOk: they give what the plain definitions here say; only new memory is written.
-/
import Derived.Test.YtcnpdcmdnmfnaaaGreatShape
import Derived.Test.YtcnpdcmdnmfnaaaGreatTag
import Derived.Deep.RegionWith
import Derived.Deep.DeepCutAuto
import Derived.Deep.QuietTactic
import Derived.Deep.RegionHeld3
import Derived.BigQuiet
namespace Go.Proofs.YtcnpdcmdnmfnaaaGreat.Num
open Go.RowKit Go.Proofs
set_option linter.unusedVariables false
set_option linter.unusedSimpArgs false

def fieldOkB (n : Nat) (f : RF) : Bool :=
  if numOkB f.1 = false then false else if ¬ (1 ≤ f.2.1 ∧ f.2.1 ≤ 8) then false
  else if f.2.2.2.1 = true ∧ (f.2.2.1 = false ∨ numericB f.2.1 = false) then false
  else if f.2.1 = 8 then decide (0 ≤ f.2.2.2.2 ∧ f.2.2.2.2 ≤ (n : Int) - 1) else f.2.2.2.2 == -1
def fieldGood (n : Nat) (l : List RF) (k : Nat) (f : RF) : Prop := fieldOkB n f = true ∧ ∀ p (hp : p < l.length), p + 1 = k → l[p].1 < f.1
def shapeGood (s : List RM) (i : Nat) (m : RM) : Prop := (1 ≤ m.1 ∧ m.1 ≤ 99) ∧ (∀ p (hp : p < s.length), p + 1 = i → s[p].1 < m.1) ∧ m.2.length ≤ 8 ∧ ∀ k (hk : k < m.2.length), fieldGood s.length m.2 k m.2[k]
def SchemaP (s : List RM) : Prop := s.length ≤ 6 ∧ ∀ i (hi : i < s.length), shapeGood s i s[i]
noncomputable def schemaB (s : List RM) : Bool := @decide (SchemaP s) (Classical.propDecidable _)
theorem schema_yes {s : List RM} (h : SchemaP s) : schemaB s = true := by unfold schemaB; exact @decide_eq_true _ (Classical.propDecidable _) h
theorem schema_no {s : List RM} (h : ¬ SchemaP s) : schemaB s = false := by unfold schemaB; exact @decide_eq_false _ (Classical.propDecidable _) h
set_option maxHeartbeats 2000000 in
theorem specFieldOk_any (a : Option Addr) (n cap : Nat) (f : RF) (w : World) (hn : n ≤ 1048576) :
    Calls Tryz.prog 67 #[.agg #[.slice a n cap], fieldV f] w fun e w' => e = .returned (.bool (fieldOkB n f)) ∧ Below w.heap.size w w' := by
  obtain ⟨A1, A2, A3, A4, A5⟩ := f
  unfold fieldV fieldOkB
  simp only
  have hw1 : IntKind.i64.wrap ((n : Int) - 1) = (n : Int) - 1 := IntWalk.i64_in _ (by omega)
  have hl : Below w.heap.size w ((w.alloc (.cells #[.slice a n cap] 26)).alloc (.cells #[.int .i64 A1, .int .i64 A2, .bool A3, .bool A4, .int .i64 A5] 95)) := ((Below.refl _ _).alloc (Nat.le_refl _) _).alloc (by simp) _
  obtain ⟨R, hR⟩ : ∃ R, numOkB A1 = R := ⟨_, rfl⟩
  have Hnum := Lib.hid (specNumberOk_any A1)
  rw [hR] at Hnum ⊢
  clear hR
  cases R with
  | false =>
    rw [if_pos rfl]
    go_enter Tryz.func67, Tryz.ntmps67
    go_wp2_with fail
    refine (Hnum.out _).mono ?_
    rintro e w1 ⟨rfl, rfl⟩
    go_wp2_with fail
    go_ret
    exact ⟨rfl, hl⟩
  | true =>
    rw [if_neg (by decide)]
    by_cases hkind : 1 ≤ A2 ∧ A2 ≤ 8
    · rw [if_neg (by simpa using hkind)]
      have Hkind := Lib.hid hkind
      clear hkind
      obtain ⟨Nm, hNm⟩ : ∃ Nm, numericB A2 = Nm := ⟨_, rfl⟩
      have Hnm := Lib.hid (specNumeric_any A2)
      rw [hNm] at Hnm ⊢
      clear hNm
      by_cases h8 : A2 = 8
      · rw [if_pos h8]
        have HIn := Lib.hid (specIn_any A5 0 ((n : Int) - 1))
        obtain ⟨Q, hQ⟩ : ∃ Q, decide (0 ≤ A5 ∧ A5 ≤ (n : Int) - 1) = Q := ⟨_, rfl⟩
        rw [hQ] at HIn ⊢
        have h8b : (A2 == 8) = true := by rw [beq_iff_eq]; exact h8
        clear hQ h8
        cases A4 <;> cases A3 <;> cases Nm <;> simp only [reduceCtorEq, or_true, true_or, or_self, and_self, and_true, and_false, if_true, if_false, reduceIte]
        all_goals
          go_enter Tryz.func67, Tryz.ntmps67
          go_wp2_with (first
            | (go_at_call 99; refine (Hnum.out _).mono ?_; rintro e w1 ⟨rfl, rfl⟩)
            | (go_at_call 94; refine (specKind_yes A2 _ Hkind.out).mono ?_; rintro e w1 ⟨rfl, rfl⟩)
            | (go_at_call 100; refine (Hnm.out _).mono ?_; rintro e w1 ⟨rfl, rfl⟩)
            | (go_at_call 35; refine (HIn.out _).mono ?_; rintro e w1 ⟨rfl, rfl⟩)
            | go_in)
          go_ret
          exact ⟨rfl, hl⟩
      · rw [if_neg h8]
        have h8b := neS h8
        obtain ⟨Q, hQ⟩ : ∃ Q, (A5 == -1) = Q := ⟨_, rfl⟩
        rw [hQ]
        clear h8
        cases A4 <;> cases A3 <;> cases Nm <;> simp only [reduceCtorEq, or_true, true_or, or_self, and_self, and_true, and_false, if_true, if_false, reduceIte]
        all_goals
          go_enter Tryz.func67, Tryz.ntmps67
          go_wp2_with (first
            | (go_at_call 99; refine (Hnum.out _).mono ?_; rintro e w1 ⟨rfl, rfl⟩)
            | (go_at_call 94; refine (specKind_yes A2 _ Hkind.out).mono ?_; rintro e w1 ⟨rfl, rfl⟩)
            | (go_at_call 100; refine (Hnm.out _).mono ?_; rintro e w1 ⟨rfl, rfl⟩)
            | go_in)
          go_ret
          exact ⟨rfl, hl⟩
    · rw [if_pos hkind]
      have Hkind := Lib.hid hkind
      clear hkind
      go_enter Tryz.func67, Tryz.ntmps67
      go_wp2_with fail
      refine (Hnum.out _).mono ?_
      rintro e w1 ⟨rfl, rfl⟩
      go_wp2_with fail
      refine (specKind_no A2 _ Hkind.out).mono ?_
      rintro e w1 ⟨rfl, rfl⟩
      go_wp2_with fail
      go_ret
      exact ⟨rfl, hl⟩
/-- What region 7 tells: the shape's own part is bad. -/
def headBad (r : List RM) (k : Nat) (id : Int) (n : Nat) : Prop := ¬ ((1 ≤ id ∧ id ≤ 99) ∧ (∀ p (hp : p < r.length), p + 1 = k → r[p].1 < id) ∧ n ≤ 8)
noncomputable def headB (r : List RM) (k : Nat) (id : Int) (n : Nat) : Bool := @decide (headBad r k id n) (Classical.propDecidable _)
theorem headB_yes {r : List RM} {k : Nat} {id : Int} {n : Nat} (h : headBad r k id n) : headB r k id n = true := by unfold headB; exact @decide_eq_true _ (Classical.propDecidable _) h
theorem headB_no {r : List RM} {k : Nat} {id : Int} {n : Nat} (h : ¬ headBad r k id n) : headB r k id n = false := by unfold headB; exact @decide_eq_false _ (Classical.propDecidable _) h
theorem headB_of {r : List RM} {k : Nat} {id : Int} {n : Nat} (h : headB r k id n = false) : ¬ headBad r k id n := fun h' => by rw [headB_yes h'] at h; cases h
theorem flip_same {P : Program} {f : FuncId} {args : Array Value} {w : World} {v : Value} (h : Calls P f args w fun e w' => e = .returned v ∧ w = w') : Calls P f args w fun e w' => e = .returned v ∧ w' = w := h.mono fun _ _ ⟨he, hw⟩ => ⟨he, hw.symm⟩
/-- The cells that region 12 reads: the shape's list, the schema, the field. -/
def FS (g z fb off : Nat) (xs ss : Value) (f : RF) (w' : World) : Prop := w'.cell? ⟨g, 1, none⟩ = some xs ∧ w'.cell? ⟨z, 0, none⟩ = some ss ∧ w'.cell? ⟨fb, off, none⟩ = some (.int .i64 f.1) ∧ w'.cell? ⟨fb, off + 1, none⟩ = some (.int .i64 f.2.1) ∧ w'.cell? ⟨fb, off + 2, none⟩ = some (.bool f.2.2.1) ∧ w'.cell? ⟨fb, off + 3, none⟩ = some (.bool f.2.2.2.1) ∧ w'.cell? ⟨fb, off + 4, none⟩ = some (.int .i64 f.2.2.2.2)
theorem FS.below {g z fb off B : Nat} {xs ss : Value} {f : RF} {w w' : World} (h : FS g z fb off xs ss f w) (hb : Below B w w') (h1 : g < B) (h2 : z < B) (h3 : fb < B) : FS g z fb off xs ss f w' := by
  obtain ⟨a, b, c, d, e, i, j⟩ := h
  exact ⟨(hb.cell (p := ⟨g, 1, none⟩) h1).trans a, (hb.cell (p := ⟨z, 0, none⟩) h2).trans b, (hb.cell (p := ⟨fb, _, none⟩) h3).trans c, (hb.cell (p := ⟨fb, _, none⟩) h3).trans d, (hb.cell (p := ⟨fb, _, none⟩) h3).trans e, (hb.cell (p := ⟨fb, _, none⟩) h3).trans i, (hb.cell (p := ⟨fb, _, none⟩) h3).trans j⟩
def FS2 (g z fb off o2 : Nat) (xs ss : Value) (f : RF) (n : Int) (w' : World) : Prop := w'.cell? ⟨fb, o2, none⟩ = some (.int .i64 n) ∧ FS g z fb off xs ss f w'
theorem FS2.below {g z fb off o2 B : Nat} {xs ss : Value} {f : RF} {n : Int} {w w' : World} (h : FS2 g z fb off o2 xs ss f n w) (hb : Below B w w') (h1 : g < B) (h2 : z < B) (h3 : fb < B) : FS2 g z fb off o2 xs ss f n w' :=
  ⟨(hb.cell (p := ⟨fb, _, none⟩) h3).trans h.1, h.2.below hb h1 h2 h3⟩
noncomputable def fgB (n : Nat) (l : List RF) (k : Nat) (f : RF) : Bool := @decide (¬ fieldGood n l k f) (Classical.propDecidable _)
theorem fgB_yes {n : Nat} {l : List RF} {k : Nat} {f : RF} (h : ¬ fieldGood n l k f) : fgB n l k f = true := by unfold fgB; exact @decide_eq_true _ (Classical.propDecidable _) h
theorem fgB_no {n : Nat} {l : List RF} {k : Nat} {f : RF} (h : fieldGood n l k f) : fgB n l k f = false := by unfold fgB; exact @decide_eq_false _ (Classical.propDecidable _) (fun h' => h' h)
theorem fgB_of {n : Nat} {l : List RF} {k : Nat} {f : RF} (h : fgB n l k f = false) : fieldGood n l k f := Classical.not_not.1 fun h' => by rw [fgB_yes h'] at h; cases h
attribute [local go_sem] Region.wanted yielded
set_option maxHeartbeats 8000000 in
set_option maxRecDepth 100000 in
theorem specSchemaOk_any (v : Value) (r : List RM) (w : World) (h : RawAt w (· < w.heap.size) v r) (hr : Small r) :
    Calls Tryz.prog 38 #[v] w fun e w' => e = .returned (.bool (schemaB r)) ∧ Below w.heap.size w w' := by
  obtain ⟨R, hR⟩ : ∃ R, schemaB r = R := ⟨_, rfl⟩
  rw [hR]
  have tell : Hid ((SchemaP r → R = true) ∧ (¬ SchemaP r → R = false)) := Lib.hid ⟨fun h => by rw [← hR]; exact schema_yes h, fun h => by rw [← hR]; exact schema_no h⟩
  clear hR
  obtain ⟨u, rfl, hu⟩ := h
  obtain ⟨a, cap, rfl⟩ := hu.len
  have H := Lib.hid hu
  have Hr := Lib.hid hr.2
  have hr1 := hr.1
  clear hu hr
  by_cases h6 : 6 < r.length
  · obtain rfl : R = false := tell.out.2 fun h => by have := h.1; omega
    have h6i : (6 : Int) < (r.length : Int) := by omega
    go_enter Tryz.func38, Tryz.ntmps38
    go_wp2_with fail
    go_ret
    exact ⟨rfl, (Below.refl _ _).alloc (Nat.le_refl _) _⟩
  · have h6i : decide ((6 : Int) < (r.length : Int)) = false := decide_eq_false (by omega)
    have h6n : decide (6 < r.length) = false := decide_eq_false h6
    have h66 : r.length ≤ 6 := by omega
    clear h6
    go_enter Tryz.func38, Tryz.ntmps38
    go_wp2_with fail
    go_loopw [3] (fun i wr => ∃ k : Nat, k ≤ r.length ∧ i = .int .i64 k ∧ Hid (∀ j (hj : j < r.length), j < k → shapeGood r j r[j]) ∧ Hid (Box wr w.heap.size [.slice a r.length cap]) ∧ Below w.heap.size w wr) (fun i _ => r.length - (intOf i).toNat)
    case atStart => exact ⟨0, by omega, rfl, Lib.hid fun j _ hj => by omega, Lib.hid (Box.fresh _ _ _), (Below.refl _ _).alloc (Nat.le_refl _) _⟩
    case round =>
      obtain ⟨k, hk, rfl, hgood, hbx, hbr⟩ := hrel
      obtain ⟨c0, f0⟩ := hbx.out.one
      by_cases hlt : k < r.length
      · have hlti : (k : Int) < (r.length : Int) := by omega
        obtain ⟨b, o, c, hv, hbC, hcs⟩ := H.out.cells (by omega)
        obtain ⟨rfl, rfl⟩ : a = some ⟨b, o, none⟩ ∧ cap = c := by injection hv with e1 e2 e3; exact ⟨e1, e3⟩
        have Hcs := Lib.hid hcs
        obtain ⟨x, d0, d1, hx⟩ := hcs k hlt
        obtain ⟨xa, xc, rfl⟩ := hx.len
        have hfl := Hr.out _ (List.getElem_mem hlt)
        have Hx := Lib.hid hx
        have Hbad : Hid (¬ shapeGood r k r[k] → R = false) := Lib.hid fun h => tell.out.2 fun hs => h (hs.2 k hlt)
        have Hnext : Hid (shapeGood r k r[k] → ∀ j (hj : j < r.length), j < k + 1 → shapeGood r j r[j]) := Lib.hid fun h j hj hjk => by
          by_cases e : j = k
          · subst e; exact h
          · exact hgood.out j hj (by omega)
        clear hcs hv hx hgood
        rw [← hbr.cell (p := ⟨b, _, none⟩) hbC] at d0 d1
        have hbw : b < wr.heap.size := Nat.lt_of_lt_of_le hbC hbr.size
        generalize r[k] = m at d0 d1 hfl Hx Hbad Hnext
        obtain ⟨id, fs⟩ := m
        simp only at d0 d1 hfl Hx Hbad Hnext
        go_upto_region 7 with fail
        have hyq := Box.fresh wr #[.int .i64 id, .slice xa fs.length xc] 90
        have hbq : Below w.heap.size w (wr.alloc (.cells #[.int .i64 id, .slice xa fs.length xc] 90)) := hbr.alloc hbr.size _
        have hsq := hbx.out.alloc (.cells #[.int .i64 id, .slice xa fs.length xc] 90)
        clear d0 d1 c0 f0 hbx hbr hbw
        generalize wr.alloc (.cells #[.int .i64 id, .slice xa fs.length xc] 90) = wq at hyq hbq hsq ⊢
        generalize wr.heap.size = g at hyq ⊢
        have HYq := Lib.hid hyq
        have HSq := Lib.hid hsq
        clear hyq hsq
        obtain ⟨B, hB⟩ : ∃ B, headB r k id fs.length = B := ⟨_, rfl⟩
        have HB := Lib.hid hB
        clear hB
        go_cut [47] from 22 to 47 (fun s47 wx => s47 = .bool B ∧ Hid (Box wx g [.int .i64 id, .slice xa fs.length xc]) ∧ Hid (Box wx w.heap.size [.slice (some ⟨b, o, none⟩) r.length cap]) ∧ Below w.heap.size w wx)
        case first =>
          obtain ⟨y0, y1, _⟩ := HYq.out.two
          obtain ⟨c0, _⟩ := HSq.out.one
          by_cases hid : 1 ≤ id ∧ id ≤ 99
          · have HIn := Lib.hid hid
            obtain ⟨Q, hQ⟩ : ∃ Q, decide (8 < fs.length) = Q := ⟨_, rfl⟩
            have hQi : decide ((8 : Int) < (fs.length : Int)) = Q := by rw [← hQ]; exact decide_eq_decide.2 (by omega)
            by_cases hk0 : k = 0
            · subst hk0
              have HQ : Hid (Q = B) := Lib.hid (by
                rw [← HB.out, ← hQ]
                by_cases h : 8 < fs.length
                · rw [decide_eq_true h, headB_yes (fun h' => by have := h'.2.2; omega)]
                · rw [decide_eq_false h, headB_no (fun h' => h' ⟨hid, fun p _ hp => by omega, by omega⟩)])
              clear hQ hid
              go_quiet ((go_at_call 35; exact Calls.quiet_of_same (flip_same (sIn_yes id 1 99 _ HIn.out))))
              go_wp2_with fail
              go_meet
              exact ⟨by rw [HQ.out], Lib.hid (HYq.out.drewN _), Lib.hid (HSq.out.drewN _), below_drewN hbq _⟩
            · obtain ⟨p, rfl⟩ : ∃ p, k = p + 1 := ⟨k - 1, by omega⟩
              have hpr : p < r.length := by omega
              obtain ⟨px, e0, _, _⟩ := Hcs.out p hpr
              rw [← hbq.cell (p := ⟨b, _, none⟩) hbC] at e0
              have hpi : (p : Int) < (r.length : Int) := by omega
              have hw1 : IntKind.i64.wrap ((p : Int) + 1 - 1) = (p : Int) := by rw [show (p : Int) + 1 - 1 = (p : Int) by omega]; exact IntWalk.i64_in _ (by omega)
              have hw2 : IntKind.i64.wrap (p : Int) = (p : Int) := IntWalk.i64_in _ (by omega)
              have hw3 : ((p + 1 : Nat) : Int) - 1 = (p : Int) := by omega
              have hp0 : (0 : Int) < (p : Int) + 1 := by omega
              have Hp : Hid (headBad r (p + 1) id fs.length ↔ (id ≤ r[p].1 ∨ 8 < fs.length)) := Lib.hid ⟨fun h => by
                rcases Nat.lt_or_ge 8 fs.length with h8 | h8
                · exact .inr h8
                · rcases Int.lt_or_le r[p].1 id with h9 | h9
                  · exact absurd ⟨hid, fun p' hp' e => by (obtain rfl : p' = p := by omega); exact h9, h8⟩ h
                  · exact .inl h9, fun h h' => by
                rcases h with h | h
                · have := h'.2.1 p hpr rfl; omega
                · have := h'.2.2; omega⟩
              generalize r[p].1 = pid at e0 Hp
              by_cases hle : id ≤ pid
              · have hd : decide (id ≤ pid) = true := decide_eq_true hle
                have HQ : Hid (true = B) := Lib.hid (by rw [← HB.out, headB_yes (Hp.out.2 (.inl hle))])
                clear hQ hid hle hk0
                go_quiet ((go_at_call 35; exact Calls.quiet_of_same (flip_same (sIn_yes id 1 99 _ HIn.out))))
                go_wp2_with fail
                go_meet
                exact ⟨by rw [HQ.out], Lib.hid (HYq.out.drewN _), Lib.hid (HSq.out.drewN _), below_drewN hbq _⟩
              · have hd : decide (id ≤ pid) = false := decide_eq_false hle
                have HQ : Hid (Q = B) := Lib.hid (by
                  rw [← HB.out, ← hQ]
                  by_cases h : 8 < fs.length
                  · rw [decide_eq_true h, headB_yes (Hp.out.2 (.inr h))]
                  · rw [decide_eq_false h, headB_no (fun h' => by rcases Hp.out.1 h' with h1 | h1; exact hle h1; exact h h1)])
                clear hQ hid hle hk0
                go_quiet ((go_at_call 35; exact Calls.quiet_of_same (flip_same (sIn_yes id 1 99 _ HIn.out))))
                go_wp2_with fail
                go_meet
                exact ⟨by rw [HQ.out], Lib.hid (HYq.out.drewN _), Lib.hid (HSq.out.drewN _), below_drewN hbq _⟩
          · have HIn := Lib.hid hid
            have HQ : Hid (true = B) := Lib.hid (by rw [← HB.out, headB_yes (fun h => hid h.1)])
            clear hid
            go_quiet ((go_at_call 35; exact Calls.quiet_of_same (flip_same (sIn_no id 1 99 _ HIn.out))))
            go_wp2_with fail
            go_meet
            exact ⟨by rw [HQ.out], Lib.hid (HYq.out.drewN _), Lib.hid (HSq.out.drewN _), below_drewN hbq _⟩
        case rest =>
          obtain ⟨rfl, HY, HS, hl⟩ := hcut
          clear HYq HSq hbq
          obtain ⟨y0, y1, _⟩ := HY.out.two
          obtain ⟨c0, _⟩ := HS.out.one
          cases B with
          | true =>
            obtain rfl : R = false := Hbad.out fun hg => by
              have hb : ¬ headBad r k id fs.length := fun h => h ⟨hg.1, hg.2.1, hg.2.2.1⟩
              have := HB.out
              rw [headB_no hb] at this; cases this
            go_wp2_with fail
            go_ret
            exact ⟨rfl, hl⟩
          | false =>
            have Hhead : Hid ((1 ≤ id ∧ id ≤ 99) ∧ (∀ p (hp : p < r.length), p + 1 = k → r[p].1 < id) ∧ fs.length ≤ 8) := Lib.hid (by
              have h := headB_of HB.out
              unfold headBad at h
              exact Classical.not_not.1 h)
            go_wp2_with fail
            go_loopw [5] (fun i wz => ∃ q : Nat, q ≤ fs.length ∧ i = .int .i64 q ∧ Hid (∀ t (ht : t < fs.length), t < q → fieldGood r.length fs t fs[t]) ∧ Hid (Box wz g [.int .i64 id, .slice xa fs.length xc]) ∧ Hid (Box wz w.heap.size [.slice (some ⟨b, o, none⟩) r.length cap]) ∧ Below w.heap.size w wz) (fun i _ => fs.length - (intOf i).toNat)
            case atStart => exact ⟨0, by omega, rfl, Lib.hid fun t _ ht => by omega, HY, HS, hl⟩
            case round =>
              clear HY HS hl y0 y1 c0
              obtain ⟨q, hq, rfl, hgoodf, HY, HS, hl⟩ := hrel
              obtain ⟨y0, y1, _⟩ := HY.out.two
              obtain ⟨c0, _⟩ := HS.out.one
              by_cases hqn : q < fs.length
              · have hqi : (q : Int) < (fs.length : Int) := by omega
                obtain ⟨fb, fo, fc, fv, fbC, fcs⟩ := Hx.out.cells (by omega)
                obtain ⟨rfl, rfl⟩ : xa = some ⟨fb, fo, none⟩ ∧ xc = fc := by injection fv with e1 e2 e3; exact ⟨e1, e3⟩
                have Hfcs := Lib.hid fcs
                obtain ⟨x0, x1, x2, x3, x4⟩ := fcs q hqn
                clear fcs fv
                rw [← hl.cell (p := ⟨fb, _, none⟩) fbC] at x0 x1 x2 x3 x4
                have Hbadf : Hid (¬ fieldGood r.length fs q fs[q] → R = false) := Lib.hid fun h => Hbad.out fun hg => h (hg.2.2.2 q hqn)
                have Hnextf : Hid (fieldGood r.length fs q fs[q] → ∀ t (ht : t < fs.length), t < q + 1 → fieldGood r.length fs t fs[t]) := Lib.hid fun h t ht htq => by
                  by_cases e : t = q
                  · subst e; exact h
                  · exact hgoodf.out t ht (by omega)
                clear hgoodf
                generalize fs[q] = f at x0 x1 x2 x3 x4 Hbadf Hnextf
                obtain ⟨A1, A2, A3, A4, A5⟩ := f
                simp only at x0 x1 x2 x3 x4
                go_upto_region 12 with fail
                obtain ⟨F, hF⟩ : ∃ F, fieldOkB r.length (A1, A2, A3, A4, A5) = F := ⟨_, rfl⟩
                obtain ⟨G, hG⟩ : ∃ G, fgB r.length fs q (A1, A2, A3, A4, A5) = G := ⟨_, rfl⟩
                have HF := Lib.hid hF
                have HG := Lib.hid hG
                have HC := Lib.hid (specFieldOk_any (some ⟨b, o, none⟩) r.length cap (A1, A2, A3, A4, A5))
                unfold fieldV at HC
                rw [hF] at HC
                simp only at HC
                clear hF hG
                have hzw : w.heap.size < wr.heap.size := HS.out.lt
                have hgw : g < wr.heap.size := HY.out.lt
                have hfw : fb < wr.heap.size := Nat.lt_of_lt_of_le fbC hl.size
                go_cut [82] from 55 to 82 (fun s82 wx => s82 = .bool G ∧ Hid (Box wx g [.int .i64 id, .slice (some ⟨fb, fo, none⟩) fs.length xc]) ∧ Hid (Box wx w.heap.size [.slice (some ⟨b, o, none⟩) r.length cap]) ∧ Below w.heap.size w wx)
                case first =>
                  cases F with
                  | false =>
                    have HQ : Hid (true = G) := Lib.hid (by rw [← HG.out, fgB_yes (fun h => by rw [h.1] at HF; exact absurd HF.out (by decide))])
                    refine wp_region_held_drew (S := FS g w.heap.size fb (fo + q * 5) (.slice (some ⟨fb, fo, none⟩) fs.length xc) (.slice (some ⟨b, o, none⟩) r.length cap) (A1, A2, A3, A4, A5)) (by kernel_rfl) ⟨y1, c0, x0, x1, x2, x3, x4⟩ ?_
                    intro hH
                    refine wpAnyH_take (i := 0) (v := .agg #[.slice (some ⟨b, o, none⟩) r.length cap]) rfl (by kernel_rfl) (by kernel_rfl) (by kernel_rfl) (fun _ _ _ h => h) (Or.inl ⟨by kernel_rfl, ?_⟩) hH ?_
                    · (intro wv hSw; (try simp only [FS, FS2] at hSw); (try unfold SS at hSw); (try unfold SR at hSw); go_split_ands; go_simp)
                    try simp only [List.getElem_toArray, List.getElem_cons_succ, List.getElem_cons_zero, Act.put, List.setIfInBounds_toArray, List.set_cons_zero, List.set_cons_succ]
                    refine wpAnyH_take (i := 1) (v := .pointer (some ⟨g, 1, none⟩)) rfl (by kernel_rfl) (by kernel_rfl) (by kernel_rfl) (fun _ _ _ h => h) (Or.inl ⟨by kernel_rfl, ?_⟩) hH ?_
                    · (intro wv hSw; (try simp only [FS, FS2] at hSw); (try unfold SS at hSw); (try unfold SR at hSw); go_split_ands; go_simp)
                    try simp only [List.getElem_toArray, List.getElem_cons_succ, List.getElem_cons_zero, Act.put, List.setIfInBounds_toArray, List.set_cons_zero, List.set_cons_succ]
                    refine wpAnyH_take (i := 2) (v := .slice (some ⟨fb, fo, none⟩) fs.length xc) rfl (by kernel_rfl) (by kernel_rfl) (by kernel_rfl) (fun _ _ _ h => h) (Or.inl ⟨by kernel_rfl, ?_⟩) hH ?_
                    · (intro wv hSw; (try simp only [FS, FS2] at hSw); (try unfold SS at hSw); (try unfold SR at hSw); go_split_ands; go_simp)
                    try simp only [List.getElem_toArray, List.getElem_cons_succ, List.getElem_cons_zero, Act.put, List.setIfInBounds_toArray, List.set_cons_zero, List.set_cons_succ]
                    refine wpAnyH_take (i := 3) (v := .int .i64 (q : Nat)) rfl (by kernel_rfl) (by kernel_rfl) (by kernel_rfl) (fun _ _ _ h => h) (Or.inl ⟨by kernel_rfl, ?_⟩) hH ?_
                    · (intro wv hSw; (try simp only [FS, FS2] at hSw); (try unfold SS at hSw); (try unfold SR at hSw); go_split_ands; go_simp)
                    try simp only [List.getElem_toArray, List.getElem_cons_succ, List.getElem_cons_zero, Act.put, List.setIfInBounds_toArray, List.set_cons_zero, List.set_cons_succ]
                    refine wpAnyH_take (i := 4) (v := .pointer (some ⟨fb, fo + q * 5, none⟩)) rfl (by kernel_rfl) (by kernel_rfl) (by kernel_rfl) (fun _ _ _ h => h) (Or.inl ⟨by kernel_rfl, ?_⟩) hH ?_
                    · (intro wv hSw; (try simp only [FS, FS2] at hSw); (try unfold SS at hSw); (try unfold SR at hSw); go_split_ands; go_simp)
                    try simp only [List.getElem_toArray, List.getElem_cons_succ, List.getElem_cons_zero, Act.put, List.setIfInBounds_toArray, List.set_cons_zero, List.set_cons_succ]
                    refine wpAnyH_take (i := 5) (v := .agg #[.int .i64 A1, .int .i64 A2, .bool A3, .bool A4, .int .i64 A5]) rfl (by kernel_rfl) (by kernel_rfl) (by kernel_rfl) (fun _ _ _ h => h) (Or.inl ⟨by kernel_rfl, ?_⟩) hH ?_
                    · (intro wv hSw; (try simp only [FS, FS2] at hSw); (try unfold SS at hSw); (try unfold SR at hSw); go_split_ands; go_simp)
                    try simp only [List.getElem_toArray, List.getElem_cons_succ, List.getElem_cons_zero, Act.put, List.setIfInBounds_toArray, List.set_cons_zero, List.set_cons_succ]
                    refine wpAnyH_ready (rs := [6]) (by kernel_rfl) (by simp) ?_
                    refine AllReadyH.cons rfl (fun K hK => ?_) AllReadyH.nil
                    go_simp
                    go_wp2_with (go_at_call 67; refine (HC.out _ hr1).mono ?_; rintro e w1 ⟨rfl, hb1⟩)
                    refine hK.out _ _ (hH.below hb1 hgw hzw hfw) (fun hH1 => ?_)
                    clear hK K hH
                    have hH := hH1
                    clear hH1
                    try simp only [Act.put, List.setIfInBounds_toArray, List.set_cons_zero, List.set_cons_succ]
                    refine wpAnyH_take (i := 7) (v := .bool true) rfl (by kernel_rfl) (by kernel_rfl) (by kernel_rfl) (fun _ _ _ h => h) (Or.inl ⟨by kernel_rfl, ?_⟩) hH ?_
                    · (intro wv hSw; (try simp only [FS, FS2] at hSw); (try unfold SS at hSw); (try unfold SR at hSw); go_split_ands; go_simp)
                    try simp only [List.getElem_toArray, List.getElem_cons_succ, List.getElem_cons_zero, Act.put, List.setIfInBounds_toArray, List.set_cons_zero, List.set_cons_succ]
                    refine wpAnyH_take (i := 8) (v := .bool true) rfl (by kernel_rfl) (by kernel_rfl) (by kernel_rfl) (fun _ _ _ h => h) (Or.inl ⟨by kernel_rfl, ?_⟩) hH ?_
                    · (intro wv hSw; (try simp only [FS, FS2] at hSw); (try unfold SS at hSw); (try unfold SR at hSw); go_split_ands; go_simp)
                    try simp only [List.getElem_toArray, List.getElem_cons_succ, List.getElem_cons_zero, Act.put, List.setIfInBounds_toArray, List.set_cons_zero, List.set_cons_succ]
                    refine wpAnyH_take (i := 9) (v := undef) rfl (by kernel_rfl) (by kernel_rfl) (by kernel_rfl) (fun _ _ _ h => h) (Or.inr ⟨by kernel_rfl, rfl⟩) hH ?_
                    try simp only [List.getElem_toArray, List.getElem_cons_succ, List.getElem_cons_zero, Act.put, List.setIfInBounds_toArray, List.set_cons_zero, List.set_cons_succ]
                    refine wpAnyH_take (i := 10) (v := undef) rfl (by kernel_rfl) (by kernel_rfl) (by kernel_rfl) (fun _ _ _ h => h) (Or.inr ⟨by kernel_rfl, rfl⟩) hH ?_
                    try simp only [List.getElem_toArray, List.getElem_cons_succ, List.getElem_cons_zero, Act.put, List.setIfInBounds_toArray, List.set_cons_zero, List.set_cons_succ]
                    refine wpAnyH_take (i := 11) (v := undef) rfl (by kernel_rfl) (by kernel_rfl) (by kernel_rfl) (fun _ _ _ h => h) (Or.inr ⟨by kernel_rfl, rfl⟩) hH ?_
                    try simp only [List.getElem_toArray, List.getElem_cons_succ, List.getElem_cons_zero, Act.put, List.setIfInBounds_toArray, List.set_cons_zero, List.set_cons_succ]
                    refine wpAnyH_take (i := 12) (v := undef) rfl (by kernel_rfl) (by kernel_rfl) (by kernel_rfl) (fun _ _ _ h => h) (Or.inr ⟨by kernel_rfl, rfl⟩) hH ?_
                    try simp only [List.getElem_toArray, List.getElem_cons_succ, List.getElem_cons_zero, Act.put, List.setIfInBounds_toArray, List.set_cons_zero, List.set_cons_succ]
                    refine wpAnyH_take (i := 13) (v := undef) rfl (by kernel_rfl) (by kernel_rfl) (by kernel_rfl) (fun _ _ _ h => h) (Or.inr ⟨by kernel_rfl, rfl⟩) hH ?_
                    try simp only [List.getElem_toArray, List.getElem_cons_succ, List.getElem_cons_zero, Act.put, List.setIfInBounds_toArray, List.set_cons_zero, List.set_cons_succ]
                    refine wpAnyH_take (i := 14) (v := undef) rfl (by kernel_rfl) (by kernel_rfl) (by kernel_rfl) (fun _ _ _ h => h) (Or.inr ⟨by kernel_rfl, rfl⟩) hH ?_
                    try simp only [List.getElem_toArray, List.getElem_cons_succ, List.getElem_cons_zero, Act.put, List.setIfInBounds_toArray, List.set_cons_zero, List.set_cons_succ]
                    refine wpAnyH_take (i := 15) (v := undef) rfl (by kernel_rfl) (by kernel_rfl) (by kernel_rfl) (fun _ _ _ h => h) (Or.inr ⟨by kernel_rfl, rfl⟩) hH ?_
                    try simp only [List.getElem_toArray, List.getElem_cons_succ, List.getElem_cons_zero, Act.put, List.setIfInBounds_toArray, List.set_cons_zero, List.set_cons_succ]
                    refine wpAnyH_take (i := 16) (v := undef) rfl (by kernel_rfl) (by kernel_rfl) (by kernel_rfl) (fun _ _ _ h => h) (Or.inr ⟨by kernel_rfl, rfl⟩) hH ?_
                    try simp only [List.getElem_toArray, List.getElem_cons_succ, List.getElem_cons_zero, Act.put, List.setIfInBounds_toArray, List.set_cons_zero, List.set_cons_succ]
                    refine wpAnyH_take (i := 17) (v := undef) rfl (by kernel_rfl) (by kernel_rfl) (by kernel_rfl) (fun _ _ _ h => h) (Or.inr ⟨by kernel_rfl, rfl⟩) hH ?_
                    try simp only [List.getElem_toArray, List.getElem_cons_succ, List.getElem_cons_zero, Act.put, List.setIfInBounds_toArray, List.set_cons_zero, List.set_cons_succ]
                    refine wpAnyH_take (i := 18) (v := undef) rfl (by kernel_rfl) (by kernel_rfl) (by kernel_rfl) (fun _ _ _ h => h) (Or.inr ⟨by kernel_rfl, rfl⟩) hH ?_
                    try simp only [List.getElem_toArray, List.getElem_cons_succ, List.getElem_cons_zero, Act.put, List.setIfInBounds_toArray, List.set_cons_zero, List.set_cons_succ]
                    refine wpAnyH_take (i := 19) (v := undef) rfl (by kernel_rfl) (by kernel_rfl) (by kernel_rfl) (fun _ _ _ h => h) (Or.inr ⟨by kernel_rfl, rfl⟩) hH ?_
                    try simp only [List.getElem_toArray, List.getElem_cons_succ, List.getElem_cons_zero, Act.put, List.setIfInBounds_toArray, List.set_cons_zero, List.set_cons_succ]
                    refine wpAnyH_take (i := 20) (v := undef) rfl (by kernel_rfl) (by kernel_rfl) (by kernel_rfl) (fun _ _ _ h => h) (Or.inr ⟨by kernel_rfl, rfl⟩) hH ?_
                    try simp only [List.getElem_toArray, List.getElem_cons_succ, List.getElem_cons_zero, Act.put, List.setIfInBounds_toArray, List.set_cons_zero, List.set_cons_succ]
                    refine wpAnyH_take (i := 21) (v := undef) rfl (by kernel_rfl) (by kernel_rfl) (by kernel_rfl) (fun _ _ _ h => h) (Or.inr ⟨by kernel_rfl, rfl⟩) hH ?_
                    try simp only [List.getElem_toArray, List.getElem_cons_succ, List.getElem_cons_zero, Act.put, List.setIfInBounds_toArray, List.set_cons_zero, List.set_cons_succ]
                    refine wpAnyH_take (i := 22) (v := undef) rfl (by kernel_rfl) (by kernel_rfl) (by kernel_rfl) (fun _ _ _ h => h) (Or.inr ⟨by kernel_rfl, rfl⟩) hH ?_
                    try simp only [List.getElem_toArray, List.getElem_cons_succ, List.getElem_cons_zero, Act.put, List.setIfInBounds_toArray, List.set_cons_zero, List.set_cons_succ]
                    refine wpAnyH_take (i := 23) (v := undef) rfl (by kernel_rfl) (by kernel_rfl) (by kernel_rfl) (fun _ _ _ h => h) (Or.inr ⟨by kernel_rfl, rfl⟩) hH ?_
                    try simp only [List.getElem_toArray, List.getElem_cons_succ, List.getElem_cons_zero, Act.put, List.setIfInBounds_toArray, List.set_cons_zero, List.set_cons_succ]
                    refine wpAnyH_take (i := 24) (v := undef) rfl (by kernel_rfl) (by kernel_rfl) (by kernel_rfl) (fun _ _ _ h => h) (Or.inr ⟨by kernel_rfl, rfl⟩) hH ?_
                    try simp only [List.getElem_toArray, List.getElem_cons_succ, List.getElem_cons_zero, Act.put, List.setIfInBounds_toArray, List.set_cons_zero, List.set_cons_succ]
                    refine wpAnyH_take (i := 25) (v := undef) rfl (by kernel_rfl) (by kernel_rfl) (by kernel_rfl) (fun _ _ _ h => h) (Or.inr ⟨by kernel_rfl, rfl⟩) hH ?_
                    try simp only [List.getElem_toArray, List.getElem_cons_succ, List.getElem_cons_zero, Act.put, List.setIfInBounds_toArray, List.set_cons_zero, List.set_cons_succ]
                    refine wpAnyH_take (i := 26) (v := undef) rfl (by kernel_rfl) (by kernel_rfl) (by kernel_rfl) (fun _ _ _ h => h) (Or.inr ⟨by kernel_rfl, rfl⟩) hH ?_
                    try simp only [List.getElem_toArray, List.getElem_cons_succ, List.getElem_cons_zero, Act.put, List.setIfInBounds_toArray, List.set_cons_zero, List.set_cons_succ]
                    refine wpAnyH_take (i := 27) (v := .bool true) rfl (by kernel_rfl) (by kernel_rfl) (by kernel_rfl) (fun _ _ _ h => h) (Or.inl ⟨by kernel_rfl, ?_⟩) hH ?_
                    · (intro wv hSw; (try simp only [FS, FS2] at hSw); (try unfold SS at hSw); (try unfold SR at hSw); go_split_ands; go_simp)
                    try simp only [List.getElem_toArray, List.getElem_cons_succ, List.getElem_cons_zero, Act.put, List.setIfInBounds_toArray, List.set_cons_zero, List.set_cons_succ]
                    refine wpAnyH_done (by kernel_rfl) ?_ _
                    go_wp2_with fail
                    go_meet
                    exact ⟨by rw [HQ.out], Lib.hid (HY.out.drew.below hb1 hgw), Lib.hid (HS.out.drew.below hb1 hzw), hl.drew.trans (hb1.mono hl.size)⟩
                  | true =>
                    by_cases hq0 : q = 0
                    · have hd0 : decide ((0 : Int) < (q : Int)) = false := decide_eq_false (by omega)
                      have hd1 : decide (0 < q) = false := decide_eq_false (by omega)
                      have HQ : Hid (false = G) := Lib.hid (by rw [← HG.out, fgB_no ⟨HF.out, fun p _ hp => by omega⟩])
                      clear hq0
                      refine wp_region_held_drew (S := FS g w.heap.size fb (fo + q * 5) (.slice (some ⟨fb, fo, none⟩) fs.length xc) (.slice (some ⟨b, o, none⟩) r.length cap) (A1, A2, A3, A4, A5)) (by kernel_rfl) ⟨y1, c0, x0, x1, x2, x3, x4⟩ ?_
                      intro hH
                      refine wpAnyH_take (i := 0) (v := .agg #[.slice (some ⟨b, o, none⟩) r.length cap]) rfl (by kernel_rfl) (by kernel_rfl) (by kernel_rfl) (fun _ _ _ h => h) (Or.inl ⟨by kernel_rfl, ?_⟩) hH ?_
                      · (intro wv hSw; (try simp only [FS, FS2] at hSw); (try unfold SS at hSw); (try unfold SR at hSw); go_split_ands; go_simp)
                      try simp only [List.getElem_toArray, List.getElem_cons_succ, List.getElem_cons_zero, Act.put, List.setIfInBounds_toArray, List.set_cons_zero, List.set_cons_succ]
                      refine wpAnyH_take (i := 1) (v := .pointer (some ⟨g, 1, none⟩)) rfl (by kernel_rfl) (by kernel_rfl) (by kernel_rfl) (fun _ _ _ h => h) (Or.inl ⟨by kernel_rfl, ?_⟩) hH ?_
                      · (intro wv hSw; (try simp only [FS, FS2] at hSw); (try unfold SS at hSw); (try unfold SR at hSw); go_split_ands; go_simp)
                      try simp only [List.getElem_toArray, List.getElem_cons_succ, List.getElem_cons_zero, Act.put, List.setIfInBounds_toArray, List.set_cons_zero, List.set_cons_succ]
                      refine wpAnyH_take (i := 2) (v := .slice (some ⟨fb, fo, none⟩) fs.length xc) rfl (by kernel_rfl) (by kernel_rfl) (by kernel_rfl) (fun _ _ _ h => h) (Or.inl ⟨by kernel_rfl, ?_⟩) hH ?_
                      · (intro wv hSw; (try simp only [FS, FS2] at hSw); (try unfold SS at hSw); (try unfold SR at hSw); go_split_ands; go_simp)
                      try simp only [List.getElem_toArray, List.getElem_cons_succ, List.getElem_cons_zero, Act.put, List.setIfInBounds_toArray, List.set_cons_zero, List.set_cons_succ]
                      refine wpAnyH_take (i := 3) (v := .int .i64 (q : Nat)) rfl (by kernel_rfl) (by kernel_rfl) (by kernel_rfl) (fun _ _ _ h => h) (Or.inl ⟨by kernel_rfl, ?_⟩) hH ?_
                      · (intro wv hSw; (try simp only [FS, FS2] at hSw); (try unfold SS at hSw); (try unfold SR at hSw); go_split_ands; go_simp)
                      try simp only [List.getElem_toArray, List.getElem_cons_succ, List.getElem_cons_zero, Act.put, List.setIfInBounds_toArray, List.set_cons_zero, List.set_cons_succ]
                      refine wpAnyH_take (i := 4) (v := .pointer (some ⟨fb, fo + q * 5, none⟩)) rfl (by kernel_rfl) (by kernel_rfl) (by kernel_rfl) (fun _ _ _ h => h) (Or.inl ⟨by kernel_rfl, ?_⟩) hH ?_
                      · (intro wv hSw; (try simp only [FS, FS2] at hSw); (try unfold SS at hSw); (try unfold SR at hSw); go_split_ands; go_simp)
                      try simp only [List.getElem_toArray, List.getElem_cons_succ, List.getElem_cons_zero, Act.put, List.setIfInBounds_toArray, List.set_cons_zero, List.set_cons_succ]
                      refine wpAnyH_take (i := 5) (v := .agg #[.int .i64 A1, .int .i64 A2, .bool A3, .bool A4, .int .i64 A5]) rfl (by kernel_rfl) (by kernel_rfl) (by kernel_rfl) (fun _ _ _ h => h) (Or.inl ⟨by kernel_rfl, ?_⟩) hH ?_
                      · (intro wv hSw; (try simp only [FS, FS2] at hSw); (try unfold SS at hSw); (try unfold SR at hSw); go_split_ands; go_simp)
                      try simp only [List.getElem_toArray, List.getElem_cons_succ, List.getElem_cons_zero, Act.put, List.setIfInBounds_toArray, List.set_cons_zero, List.set_cons_succ]
                      refine wpAnyH_ready (rs := [6]) (by kernel_rfl) (by simp) ?_
                      refine AllReadyH.cons rfl (fun K hK => ?_) AllReadyH.nil
                      go_simp
                      go_wp2_with (go_at_call 67; refine (HC.out _ hr1).mono ?_; rintro e w1 ⟨rfl, hb1⟩)
                      refine hK.out _ _ (hH.below hb1 hgw hzw hfw) (fun hH1 => ?_)
                      clear hK K hH
                      have hH := hH1
                      clear hH1
                      try simp only [Act.put, List.setIfInBounds_toArray, List.set_cons_zero, List.set_cons_succ]
                      refine wpAnyH_take (i := 7) (v := .bool false) rfl (by kernel_rfl) (by kernel_rfl) (by kernel_rfl) (fun _ _ _ h => h) (Or.inl ⟨by kernel_rfl, ?_⟩) hH ?_
                      · (intro wv hSw; (try simp only [FS, FS2] at hSw); (try unfold SS at hSw); (try unfold SR at hSw); go_split_ands; go_simp)
                      try simp only [List.getElem_toArray, List.getElem_cons_succ, List.getElem_cons_zero, Act.put, List.setIfInBounds_toArray, List.set_cons_zero, List.set_cons_succ]
                      refine wpAnyH_take (i := 8) (v := .bool false) rfl (by kernel_rfl) (by kernel_rfl) (by kernel_rfl) (fun _ _ _ h => h) (Or.inl ⟨by kernel_rfl, ?_⟩) hH ?_
                      · (intro wv hSw; (try simp only [FS, FS2] at hSw); (try unfold SS at hSw); (try unfold SR at hSw); go_split_ands; go_simp)
                      try simp only [List.getElem_toArray, List.getElem_cons_succ, List.getElem_cons_zero, Act.put, List.setIfInBounds_toArray, List.set_cons_zero, List.set_cons_succ]
                      refine wpAnyH_take (i := 9) (v := .int .i64 (q : Nat)) rfl (by kernel_rfl) (by kernel_rfl) (by kernel_rfl) (fun _ _ _ h => h) (Or.inl ⟨by kernel_rfl, ?_⟩) hH ?_
                      · (intro wv hSw; (try simp only [FS, FS2] at hSw); (try unfold SS at hSw); (try unfold SR at hSw); go_split_ands; go_simp)
                      try simp only [List.getElem_toArray, List.getElem_cons_succ, List.getElem_cons_zero, Act.put, List.setIfInBounds_toArray, List.set_cons_zero, List.set_cons_succ]
                      refine wpAnyH_take (i := 10) (v := .bool false) rfl (by kernel_rfl) (by kernel_rfl) (by kernel_rfl) (fun _ _ _ h => h) (Or.inl ⟨by kernel_rfl, ?_⟩) hH ?_
                      · (intro wv hSw; (try simp only [FS, FS2] at hSw); (try unfold SS at hSw); (try unfold SR at hSw); go_split_ands; go_simp)
                      try simp only [List.getElem_toArray, List.getElem_cons_succ, List.getElem_cons_zero, Act.put, List.setIfInBounds_toArray, List.set_cons_zero, List.set_cons_succ]
                      refine wpAnyH_take (i := 11) (v := .bool false) rfl (by kernel_rfl) (by kernel_rfl) (by kernel_rfl) (fun _ _ _ h => h) (Or.inl ⟨by kernel_rfl, ?_⟩) hH ?_
                      · (intro wv hSw; (try simp only [FS, FS2] at hSw); (try unfold SS at hSw); (try unfold SR at hSw); go_split_ands; go_simp)
                      try simp only [List.getElem_toArray, List.getElem_cons_succ, List.getElem_cons_zero, Act.put, List.setIfInBounds_toArray, List.set_cons_zero, List.set_cons_succ]
                      refine wpAnyH_take (i := 12) (v := undef) rfl (by kernel_rfl) (by kernel_rfl) (by kernel_rfl) (fun _ _ _ h => h) (Or.inr ⟨by kernel_rfl, rfl⟩) hH ?_
                      try simp only [List.getElem_toArray, List.getElem_cons_succ, List.getElem_cons_zero, Act.put, List.setIfInBounds_toArray, List.set_cons_zero, List.set_cons_succ]
                      refine wpAnyH_take (i := 13) (v := undef) rfl (by kernel_rfl) (by kernel_rfl) (by kernel_rfl) (fun _ _ _ h => h) (Or.inr ⟨by kernel_rfl, rfl⟩) hH ?_
                      try simp only [List.getElem_toArray, List.getElem_cons_succ, List.getElem_cons_zero, Act.put, List.setIfInBounds_toArray, List.set_cons_zero, List.set_cons_succ]
                      refine wpAnyH_take (i := 14) (v := undef) rfl (by kernel_rfl) (by kernel_rfl) (by kernel_rfl) (fun _ _ _ h => h) (Or.inr ⟨by kernel_rfl, rfl⟩) hH ?_
                      try simp only [List.getElem_toArray, List.getElem_cons_succ, List.getElem_cons_zero, Act.put, List.setIfInBounds_toArray, List.set_cons_zero, List.set_cons_succ]
                      refine wpAnyH_take (i := 15) (v := undef) rfl (by kernel_rfl) (by kernel_rfl) (by kernel_rfl) (fun _ _ _ h => h) (Or.inr ⟨by kernel_rfl, rfl⟩) hH ?_
                      try simp only [List.getElem_toArray, List.getElem_cons_succ, List.getElem_cons_zero, Act.put, List.setIfInBounds_toArray, List.set_cons_zero, List.set_cons_succ]
                      refine wpAnyH_take (i := 16) (v := undef) rfl (by kernel_rfl) (by kernel_rfl) (by kernel_rfl) (fun _ _ _ h => h) (Or.inr ⟨by kernel_rfl, rfl⟩) hH ?_
                      try simp only [List.getElem_toArray, List.getElem_cons_succ, List.getElem_cons_zero, Act.put, List.setIfInBounds_toArray, List.set_cons_zero, List.set_cons_succ]
                      refine wpAnyH_take (i := 17) (v := undef) rfl (by kernel_rfl) (by kernel_rfl) (by kernel_rfl) (fun _ _ _ h => h) (Or.inr ⟨by kernel_rfl, rfl⟩) hH ?_
                      try simp only [List.getElem_toArray, List.getElem_cons_succ, List.getElem_cons_zero, Act.put, List.setIfInBounds_toArray, List.set_cons_zero, List.set_cons_succ]
                      refine wpAnyH_take (i := 18) (v := undef) rfl (by kernel_rfl) (by kernel_rfl) (by kernel_rfl) (fun _ _ _ h => h) (Or.inr ⟨by kernel_rfl, rfl⟩) hH ?_
                      try simp only [List.getElem_toArray, List.getElem_cons_succ, List.getElem_cons_zero, Act.put, List.setIfInBounds_toArray, List.set_cons_zero, List.set_cons_succ]
                      refine wpAnyH_take (i := 19) (v := undef) rfl (by kernel_rfl) (by kernel_rfl) (by kernel_rfl) (fun _ _ _ h => h) (Or.inr ⟨by kernel_rfl, rfl⟩) hH ?_
                      try simp only [List.getElem_toArray, List.getElem_cons_succ, List.getElem_cons_zero, Act.put, List.setIfInBounds_toArray, List.set_cons_zero, List.set_cons_succ]
                      refine wpAnyH_take (i := 20) (v := undef) rfl (by kernel_rfl) (by kernel_rfl) (by kernel_rfl) (fun _ _ _ h => h) (Or.inr ⟨by kernel_rfl, rfl⟩) hH ?_
                      try simp only [List.getElem_toArray, List.getElem_cons_succ, List.getElem_cons_zero, Act.put, List.setIfInBounds_toArray, List.set_cons_zero, List.set_cons_succ]
                      refine wpAnyH_take (i := 21) (v := undef) rfl (by kernel_rfl) (by kernel_rfl) (by kernel_rfl) (fun _ _ _ h => h) (Or.inr ⟨by kernel_rfl, rfl⟩) hH ?_
                      try simp only [List.getElem_toArray, List.getElem_cons_succ, List.getElem_cons_zero, Act.put, List.setIfInBounds_toArray, List.set_cons_zero, List.set_cons_succ]
                      refine wpAnyH_take (i := 22) (v := undef) rfl (by kernel_rfl) (by kernel_rfl) (by kernel_rfl) (fun _ _ _ h => h) (Or.inr ⟨by kernel_rfl, rfl⟩) hH ?_
                      try simp only [List.getElem_toArray, List.getElem_cons_succ, List.getElem_cons_zero, Act.put, List.setIfInBounds_toArray, List.set_cons_zero, List.set_cons_succ]
                      refine wpAnyH_take (i := 23) (v := undef) rfl (by kernel_rfl) (by kernel_rfl) (by kernel_rfl) (fun _ _ _ h => h) (Or.inr ⟨by kernel_rfl, rfl⟩) hH ?_
                      try simp only [List.getElem_toArray, List.getElem_cons_succ, List.getElem_cons_zero, Act.put, List.setIfInBounds_toArray, List.set_cons_zero, List.set_cons_succ]
                      refine wpAnyH_take (i := 24) (v := undef) rfl (by kernel_rfl) (by kernel_rfl) (by kernel_rfl) (fun _ _ _ h => h) (Or.inr ⟨by kernel_rfl, rfl⟩) hH ?_
                      try simp only [List.getElem_toArray, List.getElem_cons_succ, List.getElem_cons_zero, Act.put, List.setIfInBounds_toArray, List.set_cons_zero, List.set_cons_succ]
                      refine wpAnyH_take (i := 25) (v := undef) rfl (by kernel_rfl) (by kernel_rfl) (by kernel_rfl) (fun _ _ _ h => h) (Or.inr ⟨by kernel_rfl, rfl⟩) hH ?_
                      try simp only [List.getElem_toArray, List.getElem_cons_succ, List.getElem_cons_zero, Act.put, List.setIfInBounds_toArray, List.set_cons_zero, List.set_cons_succ]
                      refine wpAnyH_take (i := 26) (v := .bool false) rfl (by kernel_rfl) (by kernel_rfl) (by kernel_rfl) (fun _ _ _ h => h) (Or.inl ⟨by kernel_rfl, ?_⟩) hH ?_
                      · (intro wv hSw; (try simp only [FS, FS2] at hSw); (try unfold SS at hSw); (try unfold SR at hSw); go_split_ands; go_simp)
                      try simp only [List.getElem_toArray, List.getElem_cons_succ, List.getElem_cons_zero, Act.put, List.setIfInBounds_toArray, List.set_cons_zero, List.set_cons_succ]
                      refine wpAnyH_take (i := 27) (v := .bool false) rfl (by kernel_rfl) (by kernel_rfl) (by kernel_rfl) (fun _ _ _ h => h) (Or.inl ⟨by kernel_rfl, ?_⟩) hH ?_
                      · (intro wv hSw; (try simp only [FS, FS2] at hSw); (try unfold SS at hSw); (try unfold SR at hSw); go_split_ands; go_simp)
                      try simp only [List.getElem_toArray, List.getElem_cons_succ, List.getElem_cons_zero, Act.put, List.setIfInBounds_toArray, List.set_cons_zero, List.set_cons_succ]
                      refine wpAnyH_done (by kernel_rfl) ?_ _
                      go_wp2_with fail
                      go_meet
                      exact ⟨by rw [HQ.out], Lib.hid (HY.out.drew.below hb1 hgw), Lib.hid (HS.out.drew.below hb1 hzw), hl.drew.trans (hb1.mono hl.size)⟩
                    · obtain ⟨p, rfl⟩ : ∃ p, q = p + 1 := ⟨q - 1, by omega⟩
                      have hpr : p < fs.length := by omega
                      obtain ⟨n0, _, _, _, _⟩ := Hfcs.out p hpr
                      rw [← hl.cell (p := ⟨fb, _, none⟩) fbC] at n0
                      have hpi : (p : Int) < (fs.length : Int) := by omega
                      have hw1 : IntKind.i64.wrap ((p : Int) + 1 - 1) = (p : Int) := by rw [show (p : Int) + 1 - 1 = (p : Int) by omega]; exact IntWalk.i64_in _ (by omega)
                      have hw2 : IntKind.i64.wrap (p : Int) = (p : Int) := IntWalk.i64_in _ (by omega)
                      have hw3 : ((p + 1 : Nat) : Int) - 1 = (p : Int) := by omega
                      have hp0 : (0 : Int) < (p : Int) + 1 := by omega
                      have hp1 : (0 : Int) ≤ (p : Int) + 1 := by omega
                      have hp2 : (p : Int) + 1 < (fs.length : Int) := by omega
                      obtain ⟨P, hP⟩ : ∃ P, decide (A1 ≤ fs[p].1) = P := ⟨_, rfl⟩
                      have HQ : Hid (P = G) := Lib.hid (by
                        rw [← HG.out, ← hP]
                        by_cases hle : A1 ≤ fs[p].1
                        · rw [decide_eq_true hle, fgB_yes (fun h => by have := h.2 p hpr rfl; omega)]
                        · rw [decide_eq_false hle, fgB_no ⟨HF.out, fun p' hp' e => by (obtain rfl : p' = p := by omega); exact Int.lt_of_not_ge hle⟩])
                      generalize fs[p].1 = num at n0 hP
                      clear hq0
                      refine wp_region_held_drew (S := FS2 g w.heap.size fb (fo + (p + 1) * 5) (fo + p * 5) (.slice (some ⟨fb, fo, none⟩) fs.length xc) (.slice (some ⟨b, o, none⟩) r.length cap) (A1, A2, A3, A4, A5) num) (by kernel_rfl) ⟨n0, y1, c0, x0, x1, x2, x3, x4⟩ ?_
                      intro hH
                      refine wpAnyH_take (i := 0) (v := .agg #[.slice (some ⟨b, o, none⟩) r.length cap]) rfl (by kernel_rfl) (by kernel_rfl) (by kernel_rfl) (fun _ _ _ h => h) (Or.inl ⟨by kernel_rfl, ?_⟩) hH ?_
                      · (intro wv hSw; (try simp only [FS, FS2] at hSw); (try unfold SS at hSw); (try unfold SR at hSw); go_split_ands; go_simp)
                      try simp only [List.getElem_toArray, List.getElem_cons_succ, List.getElem_cons_zero, Act.put, List.setIfInBounds_toArray, List.set_cons_zero, List.set_cons_succ]
                      refine wpAnyH_take (i := 1) (v := .pointer (some ⟨g, 1, none⟩)) rfl (by kernel_rfl) (by kernel_rfl) (by kernel_rfl) (fun _ _ _ h => h) (Or.inl ⟨by kernel_rfl, ?_⟩) hH ?_
                      · (intro wv hSw; (try simp only [FS, FS2] at hSw); (try unfold SS at hSw); (try unfold SR at hSw); go_split_ands; go_simp)
                      try simp only [List.getElem_toArray, List.getElem_cons_succ, List.getElem_cons_zero, Act.put, List.setIfInBounds_toArray, List.set_cons_zero, List.set_cons_succ]
                      refine wpAnyH_take (i := 2) (v := .slice (some ⟨fb, fo, none⟩) fs.length xc) rfl (by kernel_rfl) (by kernel_rfl) (by kernel_rfl) (fun _ _ _ h => h) (Or.inl ⟨by kernel_rfl, ?_⟩) hH ?_
                      · (intro wv hSw; (try simp only [FS, FS2] at hSw); (try unfold SS at hSw); (try unfold SR at hSw); go_split_ands; go_simp)
                      try simp only [List.getElem_toArray, List.getElem_cons_succ, List.getElem_cons_zero, Act.put, List.setIfInBounds_toArray, List.set_cons_zero, List.set_cons_succ]
                      refine wpAnyH_take (i := 3) (v := .int .i64 ((p + 1) : Nat)) rfl (by kernel_rfl) (by kernel_rfl) (by kernel_rfl) (fun _ _ _ h => h) (Or.inl ⟨by kernel_rfl, ?_⟩) hH ?_
                      · (intro wv hSw; (try simp only [FS, FS2] at hSw); (try unfold SS at hSw); (try unfold SR at hSw); go_split_ands; go_simp)
                      try simp only [List.getElem_toArray, List.getElem_cons_succ, List.getElem_cons_zero, Act.put, List.setIfInBounds_toArray, List.set_cons_zero, List.set_cons_succ]
                      refine wpAnyH_take (i := 4) (v := .pointer (some ⟨fb, fo + (p + 1) * 5, none⟩)) rfl (by kernel_rfl) (by kernel_rfl) (by kernel_rfl) (fun _ _ _ h => h) (Or.inl ⟨by kernel_rfl, ?_⟩) hH ?_
                      · (intro wv hSw; (try simp only [FS, FS2] at hSw); (try unfold SS at hSw); (try unfold SR at hSw); go_split_ands; go_simp)
                      try simp only [List.getElem_toArray, List.getElem_cons_succ, List.getElem_cons_zero, Act.put, List.setIfInBounds_toArray, List.set_cons_zero, List.set_cons_succ]
                      refine wpAnyH_take (i := 5) (v := .agg #[.int .i64 A1, .int .i64 A2, .bool A3, .bool A4, .int .i64 A5]) rfl (by kernel_rfl) (by kernel_rfl) (by kernel_rfl) (fun _ _ _ h => h) (Or.inl ⟨by kernel_rfl, ?_⟩) hH ?_
                      · (intro wv hSw; (try simp only [FS, FS2] at hSw); (try unfold SS at hSw); (try unfold SR at hSw); go_split_ands; go_simp)
                      try simp only [List.getElem_toArray, List.getElem_cons_succ, List.getElem_cons_zero, Act.put, List.setIfInBounds_toArray, List.set_cons_zero, List.set_cons_succ]
                      refine wpAnyH_ready (rs := [6]) (by kernel_rfl) (by simp) ?_
                      refine AllReadyH.cons rfl (fun K hK => ?_) AllReadyH.nil
                      go_simp
                      go_wp2_with (go_at_call 67; refine (HC.out _ hr1).mono ?_; rintro e w1 ⟨rfl, hb1⟩)
                      refine hK.out _ _ (hH.below hb1 hgw hzw hfw) (fun hH1 => ?_)
                      clear hK K hH
                      have hH := hH1
                      clear hH1
                      try simp only [Act.put, List.setIfInBounds_toArray, List.set_cons_zero, List.set_cons_succ]
                      refine wpAnyH_take (i := 7) (v := .bool false) rfl (by kernel_rfl) (by kernel_rfl) (by kernel_rfl) (fun _ _ _ h => h) (Or.inl ⟨by kernel_rfl, ?_⟩) hH ?_
                      · (intro wv hSw; (try simp only [FS, FS2] at hSw); (try unfold SS at hSw); (try unfold SR at hSw); go_split_ands; go_simp)
                      try simp only [List.getElem_toArray, List.getElem_cons_succ, List.getElem_cons_zero, Act.put, List.setIfInBounds_toArray, List.set_cons_zero, List.set_cons_succ]
                      refine wpAnyH_take (i := 8) (v := .bool false) rfl (by kernel_rfl) (by kernel_rfl) (by kernel_rfl) (fun _ _ _ h => h) (Or.inl ⟨by kernel_rfl, ?_⟩) hH ?_
                      · (intro wv hSw; (try simp only [FS, FS2] at hSw); (try unfold SS at hSw); (try unfold SR at hSw); go_split_ands; go_simp)
                      try simp only [List.getElem_toArray, List.getElem_cons_succ, List.getElem_cons_zero, Act.put, List.setIfInBounds_toArray, List.set_cons_zero, List.set_cons_succ]
                      refine wpAnyH_take (i := 9) (v := .int .i64 ((p + 1 : Nat) : Int)) rfl (by kernel_rfl) (by kernel_rfl) (by kernel_rfl) (fun _ _ _ h => h) (Or.inl ⟨by kernel_rfl, ?_⟩) hH ?_
                      · (intro wv hSw; (try simp only [FS, FS2] at hSw); (try unfold SS at hSw); (try unfold SR at hSw); go_split_ands; go_simp)
                      try simp only [List.getElem_toArray, List.getElem_cons_succ, List.getElem_cons_zero, Act.put, List.setIfInBounds_toArray, List.set_cons_zero, List.set_cons_succ]
                      refine wpAnyH_take (i := 10) (v := .bool true) rfl (by kernel_rfl) (by kernel_rfl) (by kernel_rfl) (fun _ _ _ h => h) (Or.inl ⟨by kernel_rfl, ?_⟩) hH ?_
                      · (intro wv hSw; (try simp only [FS, FS2] at hSw); (try unfold SS at hSw); (try unfold SR at hSw); go_split_ands; go_simp)
                      try simp only [List.getElem_toArray, List.getElem_cons_succ, List.getElem_cons_zero, Act.put, List.setIfInBounds_toArray, List.set_cons_zero, List.set_cons_succ]
                      refine wpAnyH_take (i := 11) (v := .bool true) rfl (by kernel_rfl) (by kernel_rfl) (by kernel_rfl) (fun _ _ _ h => h) (Or.inl ⟨by kernel_rfl, ?_⟩) hH ?_
                      · (intro wv hSw; (try simp only [FS, FS2] at hSw); (try unfold SS at hSw); (try unfold SR at hSw); go_split_ands; go_simp)
                      try simp only [List.getElem_toArray, List.getElem_cons_succ, List.getElem_cons_zero, Act.put, List.setIfInBounds_toArray, List.set_cons_zero, List.set_cons_succ]
                      refine wpAnyH_take (i := 12) (v := .pointer (some ⟨g, 1, none⟩)) rfl (by kernel_rfl) (by kernel_rfl) (by kernel_rfl) (fun _ _ _ h => h) (Or.inl ⟨by kernel_rfl, ?_⟩) hH ?_
                      · (intro wv hSw; (try simp only [FS, FS2] at hSw); (try unfold SS at hSw); (try unfold SR at hSw); go_split_ands; go_simp)
                      try simp only [List.getElem_toArray, List.getElem_cons_succ, List.getElem_cons_zero, Act.put, List.setIfInBounds_toArray, List.set_cons_zero, List.set_cons_succ]
                      refine wpAnyH_take (i := 13) (v := .slice (some ⟨fb, fo, none⟩) fs.length xc) rfl (by kernel_rfl) (by kernel_rfl) (by kernel_rfl) (fun _ _ _ h => h) (Or.inl ⟨by kernel_rfl, ?_⟩) hH ?_
                      · (intro wv hSw; (try simp only [FS, FS2] at hSw); (try unfold SS at hSw); (try unfold SR at hSw); go_split_ands; go_simp)
                      try simp only [List.getElem_toArray, List.getElem_cons_succ, List.getElem_cons_zero, Act.put, List.setIfInBounds_toArray, List.set_cons_zero, List.set_cons_succ]
                      refine wpAnyH_take (i := 14) (v := .int .i64 ((p + 1 : Nat) : Int)) rfl (by kernel_rfl) (by kernel_rfl) (by kernel_rfl) (fun _ _ _ h => h) (Or.inl ⟨by kernel_rfl, ?_⟩) hH ?_
                      · (intro wv hSw; (try simp only [FS, FS2] at hSw); (try unfold SS at hSw); (try unfold SR at hSw); go_split_ands; go_simp)
                      try simp only [List.getElem_toArray, List.getElem_cons_succ, List.getElem_cons_zero, Act.put, List.setIfInBounds_toArray, List.set_cons_zero, List.set_cons_succ]
                      refine wpAnyH_take (i := 15) (v := .int .i64 p) rfl (by kernel_rfl) (by kernel_rfl) (by kernel_rfl) (fun _ _ _ h => h) (Or.inl ⟨by kernel_rfl, ?_⟩) hH ?_
                      · (intro wv hSw; (try simp only [FS, FS2] at hSw); (try unfold SS at hSw); (try unfold SR at hSw); go_split_ands; go_simp)
                      try simp only [List.getElem_toArray, List.getElem_cons_succ, List.getElem_cons_zero, Act.put, List.setIfInBounds_toArray, List.set_cons_zero, List.set_cons_succ]
                      refine wpAnyH_take (i := 16) (v := .pointer (some ⟨fb, fo + p * 5, none⟩)) rfl (by kernel_rfl) (by kernel_rfl) (by kernel_rfl) (fun _ _ _ h => h) (Or.inl ⟨by kernel_rfl, ?_⟩) hH ?_
                      · (intro wv hSw; (try simp only [FS, FS2] at hSw); (try unfold SS at hSw); (try unfold SR at hSw); go_split_ands; go_simp)
                      try simp only [List.getElem_toArray, List.getElem_cons_succ, List.getElem_cons_zero, Act.put, List.setIfInBounds_toArray, List.set_cons_zero, List.set_cons_succ]
                      refine wpAnyH_take (i := 17) (v := .pointer (some ⟨fb, fo + p * 5, none⟩)) rfl (by kernel_rfl) (by kernel_rfl) (by kernel_rfl) (fun _ _ _ h => h) (Or.inl ⟨by kernel_rfl, ?_⟩) hH ?_
                      · (intro wv hSw; (try simp only [FS, FS2] at hSw); (try unfold SS at hSw); (try unfold SR at hSw); go_split_ands; go_simp)
                      try simp only [List.getElem_toArray, List.getElem_cons_succ, List.getElem_cons_zero, Act.put, List.setIfInBounds_toArray, List.set_cons_zero, List.set_cons_succ]
                      refine wpAnyH_take (i := 18) (v := .int .i64 num) rfl (by kernel_rfl) (by kernel_rfl) (by kernel_rfl) (fun _ _ _ h => h) (Or.inl ⟨by kernel_rfl, ?_⟩) hH ?_
                      · (intro wv hSw; (try simp only [FS, FS2] at hSw); (try unfold SS at hSw); (try unfold SR at hSw); go_split_ands; go_simp)
                      try simp only [List.getElem_toArray, List.getElem_cons_succ, List.getElem_cons_zero, Act.put, List.setIfInBounds_toArray, List.set_cons_zero, List.set_cons_succ]
                      refine wpAnyH_take (i := 19) (v := .pointer (some ⟨g, 1, none⟩)) rfl (by kernel_rfl) (by kernel_rfl) (by kernel_rfl) (fun _ _ _ h => h) (Or.inl ⟨by kernel_rfl, ?_⟩) hH ?_
                      · (intro wv hSw; (try simp only [FS, FS2] at hSw); (try unfold SS at hSw); (try unfold SR at hSw); go_split_ands; go_simp)
                      try simp only [List.getElem_toArray, List.getElem_cons_succ, List.getElem_cons_zero, Act.put, List.setIfInBounds_toArray, List.set_cons_zero, List.set_cons_succ]
                      refine wpAnyH_take (i := 20) (v := .slice (some ⟨fb, fo, none⟩) fs.length xc) rfl (by kernel_rfl) (by kernel_rfl) (by kernel_rfl) (fun _ _ _ h => h) (Or.inl ⟨by kernel_rfl, ?_⟩) hH ?_
                      · (intro wv hSw; (try simp only [FS, FS2] at hSw); (try unfold SS at hSw); (try unfold SR at hSw); go_split_ands; go_simp)
                      try simp only [List.getElem_toArray, List.getElem_cons_succ, List.getElem_cons_zero, Act.put, List.setIfInBounds_toArray, List.set_cons_zero, List.set_cons_succ]
                      refine wpAnyH_take (i := 21) (v := .int .i64 ((p + 1 : Nat) : Int)) rfl (by kernel_rfl) (by kernel_rfl) (by kernel_rfl) (fun _ _ _ h => h) (Or.inl ⟨by kernel_rfl, ?_⟩) hH ?_
                      · (intro wv hSw; (try simp only [FS, FS2] at hSw); (try unfold SS at hSw); (try unfold SR at hSw); go_split_ands; go_simp)
                      try simp only [List.getElem_toArray, List.getElem_cons_succ, List.getElem_cons_zero, Act.put, List.setIfInBounds_toArray, List.set_cons_zero, List.set_cons_succ]
                      refine wpAnyH_take (i := 22) (v := .pointer (some ⟨fb, fo + (p + 1) * 5, none⟩)) rfl (by kernel_rfl) (by kernel_rfl) (by kernel_rfl) (fun _ _ _ h => h) (Or.inl ⟨by kernel_rfl, ?_⟩) hH ?_
                      · (intro wv hSw; (try simp only [FS, FS2] at hSw); (try unfold SS at hSw); (try unfold SR at hSw); go_split_ands; go_simp)
                      try simp only [List.getElem_toArray, List.getElem_cons_succ, List.getElem_cons_zero, Act.put, List.setIfInBounds_toArray, List.set_cons_zero, List.set_cons_succ]
                      refine wpAnyH_take (i := 23) (v := .pointer (some ⟨fb, fo + (p + 1) * 5, none⟩)) rfl (by kernel_rfl) (by kernel_rfl) (by kernel_rfl) (fun _ _ _ h => h) (Or.inl ⟨by kernel_rfl, ?_⟩) hH ?_
                      · (intro wv hSw; (try simp only [FS, FS2] at hSw); (try unfold SS at hSw); (try unfold SR at hSw); go_split_ands; go_simp)
                      try simp only [List.getElem_toArray, List.getElem_cons_succ, List.getElem_cons_zero, Act.put, List.setIfInBounds_toArray, List.set_cons_zero, List.set_cons_succ]
                      refine wpAnyH_take (i := 24) (v := .int .i64 A1) rfl (by kernel_rfl) (by kernel_rfl) (by kernel_rfl) (fun _ _ _ h => h) (Or.inl ⟨by kernel_rfl, ?_⟩) hH ?_
                      · (intro wv hSw; (try simp only [FS, FS2] at hSw); (try unfold SS at hSw); (try unfold SR at hSw); go_split_ands; go_simp)
                      try simp only [List.getElem_toArray, List.getElem_cons_succ, List.getElem_cons_zero, Act.put, List.setIfInBounds_toArray, List.set_cons_zero, List.set_cons_succ]
                      refine wpAnyH_take (i := 25) (v := .bool P) rfl (by kernel_rfl) (by kernel_rfl) (by kernel_rfl) (fun _ _ _ h => h) (Or.inl ⟨by kernel_rfl, ?_⟩) hH ?_
                      · (intro wv hSw; (try simp only [FS, FS2] at hSw); (try unfold SS at hSw); (try unfold SR at hSw); go_split_ands; go_simp)
                      try simp only [List.getElem_toArray, List.getElem_cons_succ, List.getElem_cons_zero, Act.put, List.setIfInBounds_toArray, List.set_cons_zero, List.set_cons_succ]
                      refine wpAnyH_take (i := 26) (v := .bool P) rfl (by kernel_rfl) (by kernel_rfl) (by kernel_rfl) (fun _ _ _ h => h) (Or.inl ⟨by kernel_rfl, ?_⟩) hH ?_
                      · (intro wv hSw; (try simp only [FS, FS2] at hSw); (try unfold SS at hSw); (try unfold SR at hSw); go_split_ands; go_simp)
                      try simp only [List.getElem_toArray, List.getElem_cons_succ, List.getElem_cons_zero, Act.put, List.setIfInBounds_toArray, List.set_cons_zero, List.set_cons_succ]
                      refine wpAnyH_take (i := 27) (v := .bool P) rfl (by kernel_rfl) (by kernel_rfl) (by kernel_rfl) (fun _ _ _ h => h) (Or.inl ⟨by kernel_rfl, ?_⟩) hH ?_
                      · (intro wv hSw; (try simp only [FS, FS2] at hSw); (try unfold SS at hSw); (try unfold SR at hSw); go_split_ands; go_simp)
                      try simp only [List.getElem_toArray, List.getElem_cons_succ, List.getElem_cons_zero, Act.put, List.setIfInBounds_toArray, List.set_cons_zero, List.set_cons_succ]
                      refine wpAnyH_done (by kernel_rfl) ?_ _
                      go_wp2_with fail
                      go_meet
                      exact ⟨by rw [HQ.out], Lib.hid (HY.out.drew.below hb1 hgw), Lib.hid (HS.out.drew.below hb1 hzw), hl.drew.trans (hb1.mono hl.size)⟩
                case rest =>
                  obtain ⟨rfl, HY2, HS2, hl2⟩ := hcut
                  clear HY HS hl x0 x1 x2 x3 x4 y0 y1 c0 hzw hgw hfw
                  cases G with
                  | true =>
                    obtain rfl : R = false := Hbadf.out fun hg => by
                      have := HG.out
                      rw [fgB_no hg] at this; cases this
                    go_wp2_with fail
                    go_ret
                    exact ⟨rfl, hl2⟩
                  | false =>
                    have Hn := Lib.hid (Hnextf.out (fgB_of HG.out))
                    go_wp2_with fail
                    go_roundw
                    case rel => exact ⟨q + 1, by omega, by go_num, Hn, HY2, HS2, hl2⟩
                    case measure => simp [intOf]; omega
              · have hge : (fs.length : Int) ≤ (q : Int) := by omega
                have hend : decide (q < fs.length) = false := decide_eq_false hqn
                have Hn : Hid (∀ j (hj : j < r.length), j < k + 1 → shapeGood r j r[j]) := Lib.hid (Hnext.out ⟨Hhead.out.1, Hhead.out.2.1, Hhead.out.2.2, fun t ht => hgoodf.out t ht (by have : t < fs.length := ht; omega)⟩)
                go_wp2_with fail
                go_roundw
                case rel => exact ⟨k + 1, by omega, by go_num, Hn, HS, hl⟩
                case measure => simp [intOf]; omega
      · have hge : (r.length : Int) ≤ (k : Int) := by omega
        have hend : decide (k < r.length) = false := decide_eq_false hlt
        obtain rfl : R = true := tell.out.1 ⟨h66, fun i hi => hgood.out i hi (by omega)⟩
        go_wp2_with fail
        go_ret
        exact ⟨rfl, hbr⟩
end Go.Proofs.YtcnpdcmdnmfnaaaGreat.Num
