/-
  The walks of the program's targetOk, fieldOk, fieldsOk and SchemaOk: they give what the plain definitions of the reference's walks tell; only new memory is written.
-/
import Derived.Test.YtcnpdcmdnmfnaaaSchemaOk
import Derived.Test.YtcnpdcmdnmfnaaaRunsI
namespace Go.Proofs.Ytcnpdcmdnmfnaaa.Num
open Go.RowKit Go.Proofs
set_option linter.unusedVariables false
set_option linter.unusedSimpArgs false

def targB (n : Nat) (f : RF) : Bool := if f.2.1 = 8 then decide (0 ≤ f.2.2.2.2 ∧ f.2.2.2.2 ≤ (n : Int) - 1) else f.2.2.2.2 == -1
theorem targetOk_any (f : RF) (n : Nat) (w : World) (hn : n ≤ 1048576) :
    Calls Try.prog 66 #[fieldV f, .int .i64 n] w fun e w' => e = .returned (.bool (targB n f)) ∧ Below w.heap.size w w' := by
  obtain ⟨A1, A2, A3, A4, A5⟩ := f
  unfold fieldV targB
  simp only
  have hl : Below w.heap.size w (w.alloc (.cells #[.int .i64 A1, .int .i64 A2, .bool A3, .bool A4, .int .i64 A5] 31)) := (Below.refl _ _).alloc (Nat.le_refl _) _
  by_cases h8 : A2 = 8
  · subst h8
    rw [if_pos rfl]
    by_cases hin : 0 ≤ A5 ∧ A5 < (n : Int)
    · rw [decide_eq_true (p := 0 ≤ A5 ∧ A5 ≤ (n : Int) - 1) (by omega)]
      have Hin := Lib.hid hin
      clear hin
      go_enter Try.func66, Try.ntmps66
      go_wp2_with fail
      refine (isIndex_yes _ _ _ Hin.out).mono ?_
      rintro e w1 ⟨rfl, rfl⟩
      go_wp2_with fail
      go_ret
      exact ⟨rfl, hl⟩
    · rw [decide_eq_false (p := 0 ≤ A5 ∧ A5 ≤ (n : Int) - 1) (by omega)]
      have Hin := Lib.hid hin
      clear hin
      go_enter Try.func66, Try.ntmps66
      go_wp2_with fail
      refine (isIndex_no _ _ _ Hin.out).mono ?_
      rintro e w1 ⟨rfl, rfl⟩
      go_wp2_with fail
      go_ret
      exact ⟨rfl, hl⟩
  · rw [if_neg h8]
    have b8 := neS h8
    obtain ⟨Q, hQ⟩ : ∃ Q, (A5 == -1) = Q := ⟨_, rfl⟩
    rw [hQ]
    clear h8
    go_enter Try.func66, Try.ntmps66
    go_wp2_with fail
    go_ret
    exact ⟨rfl, hl⟩
theorem fieldOk_is (n : Nat) (f : RF) : fieldOkB n f = (numOkB f.1 && (decide (1 ≤ f.2.1 ∧ f.2.1 ≤ 8) && ((!f.2.2.2.1 || runsB f) && targB n f))) := by
  unfold fieldOkB targB runsB
  obtain ⟨A1, A2, A3, A4, A5⟩ := f
  simp only
  cases numOkB A1
  · simp
  · by_cases h : 1 ≤ A2 ∧ A2 ≤ 8
    · rw [if_neg (by simp), if_neg (by simpa using h), decide_eq_true h]
      cases A3 <;> cases A4 <;> cases numericB A2 <;> simp
    · rw [if_neg (by simp), if_pos h, decide_eq_false h]; simp
set_option maxHeartbeats 2000000 in
theorem implFieldOk_any (f : RF) (n : Nat) (w : World) (hn : n ≤ 1048576) :
    Calls Try.prog 59 #[fieldV f, .int .i64 n] w fun e w' => e = .returned (.bool (fieldOkB n f)) ∧ Below w.heap.size w w' := by
  have Hn := Lib.hid (implNumberOk_any f.1)
  have Hr := Lib.hid (implRuns_any f)
  have Ht := Lib.hid (fun w => targetOk_any f n w hn)
  have He := Lib.hid (fieldOk_is n f)
  rw [He.out]
  obtain ⟨A1, A2, A3, A4, A5⟩ := f
  unfold fieldV at Hr Ht ⊢
  simp only at Hn Hr Ht ⊢
  have hl : Below w.heap.size w (w.alloc (.cells #[.int .i64 A1, .int .i64 A2, .bool A3, .bool A4, .int .i64 A5] 31)) := (Below.refl _ _).alloc (Nat.le_refl _) _
  generalize numOkB A1 = Q1 at Hn ⊢
  generalize runsB (A1, A2, A3, A4, A5) = Q3 at Hr ⊢
  generalize targB n (A1, A2, A3, A4, A5) = Q4 at Ht ⊢
  clear He
  have step : ∀ (w1 : World), Below w.heap.size w w1 → Below w.heap.size w w1 := fun _ h => h
  cases Q1 with
  | false =>
    go_enter Try.func59, Try.ntmps59
    go_wp2_with fail
    refine (Hn.out _).mono ?_
    rintro e w1 ⟨rfl, rfl⟩
    go_wp2_with fail
    go_ret
    exact ⟨rfl, hl⟩
  | true =>
    by_cases hkind : 1 ≤ A2 ∧ A2 ≤ 8
    · rw [decide_eq_true hkind]
      have Hkind := Lib.hid hkind
      clear hkind
      cases A4 with
      | false =>
        go_enter Try.func59, Try.ntmps59
        go_wp2_with fail
        refine (Hn.out _).mono ?_
        rintro e w1 ⟨rfl, rfl⟩
        go_wp2_with fail
        refine (kindOk_yes A2 _ Hkind.out).mono ?_
        rintro e w1 ⟨rfl, rfl⟩
        go_wp2_with fail
        refine (Ht.out _).mono ?_
        rintro e w2 ⟨rfl, hb2⟩
        have hl2 := hl.trans (hb2.mono hl.size)
        clear hb2
        go_wp2_with fail
        go_ret
        exact ⟨rfl, hl2⟩
      | true =>
        cases Q3 with
        | false =>
          go_enter Try.func59, Try.ntmps59
          go_wp2_with fail
          refine (Hn.out _).mono ?_
          rintro e w1 ⟨rfl, rfl⟩
          go_wp2_with fail
          refine (kindOk_yes A2 _ Hkind.out).mono ?_
          rintro e w1 ⟨rfl, rfl⟩
          go_wp2_with fail
          refine (Hr.out _).mono ?_
          rintro e w2 ⟨rfl, hb2⟩
          have hl2 := hl.trans (hb2.mono hl.size)
          clear hb2
          go_wp2_with fail
          go_ret
          exact ⟨rfl, hl2⟩
        | true =>
          have hx := Box.fresh w #[.int .i64 A1, .int .i64 A2, .bool A3, .bool true, .int .i64 A5] 31
          go_enter Try.func59, Try.ntmps59
          go_wp2_with fail
          refine (Hn.out _).mono ?_
          rintro e w1 ⟨rfl, rfl⟩
          go_wp2_with fail
          refine (kindOk_yes A2 _ Hkind.out).mono ?_
          rintro e w1 ⟨rfl, rfl⟩
          go_wp2_with fail
          refine (Hr.out _).mono ?_
          rintro e w2 ⟨rfl, hb2⟩
          have hl2 := hl.trans (hb2.mono hl.size)
          obtain ⟨⟨c0, c1, c2, c3, c4⟩, _⟩ := Box.five (hx.below hb2 hx.1)
          clear hb2
          go_wp2_with fail
          refine (Ht.out _).mono ?_
          rintro e w3 ⟨rfl, hb3⟩
          have hl3 := hl2.trans (hb3.mono hl2.size)
          clear hb3
          go_wp2_with fail
          go_ret
          exact ⟨rfl, hl3⟩
    · rw [decide_eq_false hkind]
      have Hkind := Lib.hid hkind
      clear hkind
      go_enter Try.func59, Try.ntmps59
      go_wp2_with fail
      refine (Hn.out _).mono ?_
      rintro e w1 ⟨rfl, rfl⟩
      go_wp2_with fail
      refine (kindOk_no A2 _ Hkind.out).mono ?_
      rintro e w1 ⟨rfl, rfl⟩
      go_wp2_with fail
      go_ret
      exact ⟨rfl, hl⟩

def FieldsP (n : Nat) (l : List RF) : Prop := l.length ≤ 8 ∧ ∀ k (hk : k < l.length), fieldGood n l k l[k]
/-- What the loop over the fields keeps in 'last': the number ahead of the k-th field, or 0. -/
def LastF (l : List RF) (k : Nat) (L : Int) : Prop := (k = 0 → L = 0) ∧ ∀ p (hp : p < l.length), p + 1 = k → l[p].1 = L
def LastM (s : List RM) (k : Nat) (L : Int) : Prop := (k = 0 → L = 0) ∧ ∀ p (hp : p < s.length), p + 1 = k → s[p].1 = L
theorem fits_pos {f : RF} {n : Nat} (h : fieldOkB n f = true) : 1 ≤ f.1 := by
  rw [fieldOk_is] at h
  simp only [Bool.and_eq_true] at h
  have := of_decide_eq_true h.1
  exact this.1.1
theorem fieldGood_iff {n : Nat} {l : List RF} {k : Nat} {L : Int} (hk : k < l.length) (hL : LastF l k L) : fieldGood n l k l[k] ↔ (¬ l[k].1 ≤ L ∧ fieldOkB n l[k] = true) := by
  unfold fieldGood
  constructor
  · rintro ⟨h1, h2⟩
    refine ⟨?_, h1⟩
    by_cases h0 : k = 0
    · rw [hL.1 h0]; have := fits_pos h1; omega
    · have := h2 (k - 1) (by omega) (by omega)
      rw [hL.2 (k - 1) (by omega) (by omega)] at this
      omega
  · rintro ⟨h1, h2⟩
    exact ⟨h2, fun p hp hpk => by rw [hL.2 p hp hpk]; omega⟩
theorem shapeGood_iff {s : List RM} {k : Nat} {L : Int} (hk : k < s.length) (hL : LastM s k L) (hL0 : 0 ≤ L) : shapeGood s k s[k] ↔ (¬ s[k].1 ≤ L ∧ ¬ 99 < s[k].1 ∧ FieldsP s.length s[k].2) := by
  unfold shapeGood FieldsP
  constructor
  · rintro ⟨h1, h2, h3, h4⟩
    refine ⟨?_, by omega, h3, h4⟩
    by_cases h0 : k = 0
    · rw [hL.1 h0]; omega
    · have := h2 (k - 1) (by omega) (by omega)
      rw [hL.2 (k - 1) (by omega) (by omega)] at this
      omega
  · rintro ⟨h1, h2, h3, h4⟩
    exact ⟨⟨by omega, by omega⟩, fun p hp hpk => by rw [hL.2 p hp hpk]; omega, h3, h4⟩
theorem LastF.next {l : List RF} {k : Nat} (hk : k < l.length) : LastF l (k + 1) l[k].1 := by
  refine ⟨fun h => by omega, fun p hp h => ?_⟩
  obtain rfl : p = k := by omega
  rfl
theorem LastM.next {s : List RM} {k : Nat} (hk : k < s.length) : LastM s (k + 1) s[k].1 := by
  refine ⟨fun h => by omega, fun p hp h => ?_⟩
  obtain rfl : p = k := by omega
  rfl
set_option maxHeartbeats 4000000 in
theorem fieldsOk_any (v : Value) (l : List RF) (n : Nat) (R : Bool) (w : World) (S : Nat → Prop) (hS : ∀ b, S b → b < w.heap.size) (hv : FieldsAt w S v l) (hl : l.length ≤ 1048576) (hn : n ≤ 1048576) (tell : (FieldsP n l → R = true) ∧ (¬ FieldsP n l → R = false)) :
    Calls Try.prog 48 #[v, .int .i64 n] w fun e w' => e = .returned (.bool R) ∧ Below w.heap.size w w' := by
  have Tell := Lib.hid tell
  have HS := Lib.hid hS
  obtain ⟨a, cap, rfl⟩ := hv.len
  have H := Lib.hid hv
  clear tell hS hv
  by_cases h8 : 8 < l.length
  · obtain rfl : R = false := Tell.out.2 fun h => by have := h.1; omega
    have h8i : (8 : Int) < (l.length : Int) := by omega
    go_enter Try.func48, Try.ntmps48
    go_wp2_with fail
    go_ret
    exact ⟨rfl, Below.refl _ _⟩
  · have h8i : decide ((8 : Int) < (l.length : Int)) = false := decide_eq_false (by omega)
    have h8n : decide (8 < l.length) = false := decide_eq_false h8
    have h88 : l.length ≤ 8 := by omega
    clear h8
    go_enter Try.func48, Try.ntmps48
    go_wp2_with fail
    go_loopw [5, 13] (fun last i wr => ∃ (k : Nat) (L : Int), k ≤ l.length ∧ i = .int .i64 k ∧ last = .int .i64 L ∧ Hid (LastF l k L) ∧ Hid (∀ j (hj : j < l.length), j < k → fieldGood n l j l[j]) ∧ Below w.heap.size w wr) (fun _ i _ => l.length - (intOf i).toNat)
    case atStart => exact ⟨0, 0, by omega, rfl, rfl, Lib.hid ⟨fun _ => rfl, fun p hp h => by omega⟩, Lib.hid fun j _ hj => by omega, Below.refl _ _⟩
    case round =>
      obtain ⟨k, L, hk, rfl, rfl, hlast, hgood, hbr⟩ := hrel
      by_cases hlt : k < l.length
      · have hlti : (k : Int) < (l.length : Int) := by omega
        obtain ⟨fb, fo, fc, fv, fbS, fcs⟩ := H.out.cells (by omega)
        obtain ⟨rfl, rfl⟩ : a = some ⟨fb, fo, none⟩ ∧ cap = fc := by injection fv with e1 e2 e3; exact ⟨e1, e3⟩
        obtain ⟨x0, x1, x2, x3, x4⟩ := fcs k hlt
        have fbC := HS.out _ fbS
        have hbw : fb < wr.heap.size := Nat.lt_of_lt_of_le fbC hbr.size
        clear fcs fv fbS
        rw [← hbr.cell (p := ⟨fb, _, none⟩) fbC] at x0 x1 x2 x3 x4
        have Hiff := Lib.hid (fieldGood_iff (n := n) hlt hlast.out)
        have Hbad : Hid (¬ fieldGood n l k l[k] → R = false) := Lib.hid fun h => Tell.out.2 fun hs => h (hs.2 k hlt)
        have Hlast := Lib.hid (LastF.next hlt)
        have Hnext : Hid (fieldGood n l k l[k] → ∀ j (hj : j < l.length), j < k + 1 → fieldGood n l j l[j]) := Lib.hid fun h j hj hjk => by
          by_cases e : j = k
          · subst e; exact h
          · exact hgood.out j hj (by omega)
        clear hlast hgood
        generalize l[k] = f at x0 x1 x2 x3 x4 Hiff Hbad Hnext Hlast
        obtain ⟨A1, A2, A3, A4, A5⟩ := f
        simp only at x0 x1 x2 x3 x4 Hiff Hlast
        have hb : Below w.heap.size w (wr.alloc (.cells #[.int .i64 A1, .int .i64 A2, .bool A3, .bool A4, .int .i64 A5] 31)) := hbr.alloc hbr.size _
        by_cases hle : A1 ≤ L
        · obtain rfl : R = false := Hbad.out fun h => (Hiff.out.1 h).1 hle
          clear Hiff Hbad Hnext
          go_wp2_with fail
          go_ret
          exact ⟨rfl, hb⟩
        · have hled : decide (A1 ≤ L) = false := decide_eq_false hle
          have Hle := Lib.hid hle
          clear hle
          have Hf := Lib.hid (implFieldOk_any (A1, A2, A3, A4, A5) n (wr.alloc (.cells #[.int .i64 A1, .int .i64 A2, .bool A3, .bool A4, .int .i64 A5] 31)) hn)
          have hx := Box.fresh wr #[.int .i64 A1, .int .i64 A2, .bool A3, .bool A4, .int .i64 A5] 31
          unfold fieldV at Hf
          simp only at Hf
          obtain ⟨Q, hQ⟩ : ∃ Q, fieldOkB n (A1, A2, A3, A4, A5) = Q := ⟨_, rfl⟩
          rw [hQ] at Hf Hiff
          clear hQ
          go_wp2_with fail
          refine Hf.out.mono ?_
          rintro e w1 ⟨rfl, hb1⟩
          obtain ⟨⟨c0, _, _, _, _⟩, _⟩ := Box.five (hx.below hb1 hx.1)
          have hb2 := hb.trans (hb1.mono hb.size)
          clear hb hx hb1 Hf x0 x1 x2 x3 x4
          cases Q with
          | false =>
            obtain rfl : R = false := Hbad.out fun h => by have := (Hiff.out.1 h).2; cases this
            clear Hiff Hbad Hnext
            go_wp2_with fail
            go_ret
            exact ⟨rfl, hb2⟩
          | true =>
            have Hn := Lib.hid (Hnext.out (Hiff.out.2 ⟨Hle.out, rfl⟩))
            clear Hiff Hbad Hnext
            go_wp2_with fail
            go_roundw
            case rel => exact ⟨k + 1, A1, by omega, by go_num, rfl, Hlast, Hn, hb2⟩
            case measure => simp [intOf]; omega
      · have hge : (l.length : Int) ≤ (k : Int) := by omega
        have hend : decide (k < l.length) = false := decide_eq_false hlt
        obtain rfl : R = true := Tell.out.1 ⟨h88, fun j hj => hgood.out j hj (by omega)⟩
        go_wp2_with fail
        go_ret
        exact ⟨rfl, hbr⟩
noncomputable def fieldsB (n : Nat) (l : List RF) : Bool := @decide (FieldsP n l) (Classical.propDecidable _)
theorem fieldsB_tell (n : Nat) (l : List RF) : (FieldsP n l → fieldsB n l = true) ∧ (¬ FieldsP n l → fieldsB n l = false) := by
  unfold fieldsB
  exact ⟨fun h => @decide_eq_true _ (Classical.propDecidable _) h, fun h => @decide_eq_false _ (Classical.propDecidable _) h⟩
set_option maxHeartbeats 4000000 in
theorem implSchemaOk_in (v : Value) (r : List RM) (w : World) (S : Nat → Prop) (hS : ∀ b, S b → b < w.heap.size) (h : RawAt w S v r) (hr : Small r) :
    Calls Try.prog 36 #[v] w fun e w' => e = .returned (.bool (schemaB r)) ∧ Below w.heap.size w w' := by
  obtain ⟨R, hR⟩ : ∃ R, schemaB r = R := ⟨_, rfl⟩
  rw [hR]
  have Tell : Hid ((SchemaP r → R = true) ∧ (¬ SchemaP r → R = false)) := Lib.hid ⟨fun h => by rw [← hR]; exact schema_yes h, fun h => by rw [← hR]; exact schema_no h⟩
  have HS := Lib.hid hS
  obtain ⟨u, rfl, hu⟩ := h
  obtain ⟨a, cap, rfl⟩ := hu.len
  have H := Lib.hid hu
  have Hr := Lib.hid hr.2
  have hr1 := hr.1
  clear hR hS hu hr
  have hb0 : Below w.heap.size w (w.alloc (.cells #[.slice a r.length cap] 47)) := (Below.refl _ _).alloc (Nat.le_refl _) _
  by_cases h6 : 6 < r.length
  · obtain rfl : R = false := Tell.out.2 fun h => by have := h.1; omega
    have h6i : (6 : Int) < (r.length : Int) := by omega
    go_enter Try.func36, Try.ntmps36
    go_wp2_with fail
    go_ret
    exact ⟨rfl, hb0⟩
  · have h6i : decide ((6 : Int) < (r.length : Int)) = false := decide_eq_false (by omega)
    have h6n : decide (6 < r.length) = false := decide_eq_false h6
    have h66 : r.length ≤ 6 := by omega
    clear h6
    go_enter Try.func36, Try.ntmps36
    go_wp2_with fail
    go_loopw [3, 13] (fun last i wr => ∃ (k : Nat) (L : Int), k ≤ r.length ∧ i = .int .i64 k ∧ last = .int .i64 L ∧ Hid (LastM r k L ∧ 0 ≤ L) ∧ Hid (∀ j (hj : j < r.length), j < k → shapeGood r j r[j]) ∧ Hid (Box wr w.heap.size [.slice a r.length cap]) ∧ Below w.heap.size w wr) (fun _ i _ => r.length - (intOf i).toNat)
    case atStart => exact ⟨0, 0, by omega, rfl, rfl, Lib.hid ⟨⟨fun _ => rfl, fun p hp h => by omega⟩, by omega⟩, Lib.hid fun j _ hj => by omega, Lib.hid (Box.fresh _ _ _), hb0⟩
    case round =>
      clear hb0
      obtain ⟨k, L, hk, rfl, rfl, hlast, hgood, HB, hbr⟩ := hrel
      obtain ⟨s0, _⟩ := HB.out.one
      have hwz := HB.out.1
      by_cases hlt : k < r.length
      · have hlti : (k : Int) < (r.length : Int) := by omega
        obtain ⟨b, o, c, hv, hbS, hcs⟩ := H.out.cells (by omega)
        obtain ⟨rfl, rfl⟩ : a = some ⟨b, o, none⟩ ∧ cap = c := by injection hv with e1 e2 e3; exact ⟨e1, e3⟩
        obtain ⟨x, d0, d1, hx⟩ := hcs k hlt
        obtain ⟨xa, xc, rfl⟩ := hx.len
        have hbC := HS.out _ hbS
        have hbw : b < wr.heap.size := Nat.lt_of_lt_of_le hbC hbr.size
        have hsm := Hr.out _ (List.getElem_mem hlt)
        have Hx := Lib.hid hx
        clear hcs hv hbS hx
        rw [← hbr.cell (p := ⟨b, _, none⟩) hbC] at d0 d1
        have Hiff := Lib.hid (shapeGood_iff hlt hlast.out.1 hlast.out.2)
        have Hbad : Hid (¬ shapeGood r k r[k] → R = false) := Lib.hid fun h => Tell.out.2 fun hs => h (hs.2 k hlt)
        have Hlast : Hid (shapeGood r k r[k] → LastM r (k + 1) r[k].1 ∧ 0 ≤ r[k].1) := Lib.hid fun h => ⟨LastM.next hlt, by have := h.1.1; omega⟩
        have Hnext : Hid (shapeGood r k r[k] → ∀ j (hj : j < r.length), j < k + 1 → shapeGood r j r[j]) := Lib.hid fun h j hj hjk => by
          by_cases e : j = k
          · subst e; exact h
          · exact hgood.out j hj (by omega)
        clear hlast hgood
        generalize r[k] = m at d0 d1 hsm Hx Hiff Hbad Hlast Hnext
        obtain ⟨id, fs⟩ := m
        simp only at d0 d1 hsm Hx Hiff Hlast
        have hb : Below w.heap.size w (wr.alloc (.cells #[.int .i64 id, .slice xa fs.length xc] 93)) := hbr.alloc hbr.size _
        by_cases hle : id ≤ L
        · obtain rfl : R = false := Hbad.out fun h => (Hiff.out.1 h).1 hle
          clear Hiff Hbad Hnext Hlast
          go_wp2_with fail
          go_ret
          exact ⟨rfl, hb⟩
        · have hled : decide (id ≤ L) = false := decide_eq_false hle
          have Hle := Lib.hid hle
          clear hle
          by_cases h99 : 99 < id
          · obtain rfl : R = false := Hbad.out fun h => (Hiff.out.1 h).2.1 h99
            clear Hiff Hbad Hnext Hlast
            go_wp2_with fail
            go_ret
            exact ⟨rfl, hb⟩
          · have h99d : decide (99 < id) = false := decide_eq_false h99
            have H99 := Lib.hid h99
            clear h99
            have Hf := Lib.hid (fieldsOk_any (.slice xa fs.length xc) fs r.length (fieldsB r.length fs) (wr.alloc (.cells #[.int .i64 id, .slice xa fs.length xc] 93)) S (fun b h => Nat.lt_of_lt_of_le (HS.out b h) hb.size) (Hx.out.keep (.of_below hb HS.out) fun _ h => h) hsm hr1 (fieldsB_tell _ _))
            have Hft := Lib.hid (fieldsB_tell r.length fs)
            have hx := Box.fresh wr #[.int .i64 id, .slice xa fs.length xc] 93
            have hs := HB.out.alloc (.cells #[.int .i64 id, .slice xa fs.length xc] 93)
            generalize fieldsB r.length fs = Q at Hf Hft
            go_wp2_with fail
            refine Hf.out.mono ?_
            rintro e w1 ⟨rfl, hb1⟩
            obtain ⟨c0, c1, _⟩ := (hx.below hb1 hx.1).two
            have Hs2 := Lib.hid (hs.below hb1 hs.1)
            have hb2 := hb.trans (hb1.mono hb.size)
            clear hb hx hs hb1 Hf d0 d1 s0
            cases Q with
            | false =>
              obtain rfl : R = false := Hbad.out fun h => by have := Hft.out.1 (Hiff.out.1 h).2.2; cases this
              clear Hiff Hbad Hnext Hlast
              go_wp2_with fail
              go_ret
              exact ⟨rfl, hb2⟩
            | true =>
              have hg := Hiff.out.2 ⟨Hle.out, H99.out, Classical.byContradiction fun h => by have := Hft.out.2 h; cases this⟩
              have Hn := Lib.hid (Hnext.out hg)
              have Hl := Lib.hid (Hlast.out hg)
              clear Hiff Hbad Hnext Hlast hg
              go_wp2_with fail
              go_roundw
              case rel => exact ⟨k + 1, id, by omega, by go_num, rfl, Hl, Hn, Hs2, hb2⟩
              case measure => simp [intOf]; omega
      · have hge : (r.length : Int) ≤ (k : Int) := by omega
        have hend : decide (k < r.length) = false := decide_eq_false hlt
        obtain rfl : R = true := Tell.out.1 ⟨h66, fun j hj => hgood.out j hj (by omega)⟩
        go_wp2_with fail
        go_ret
        exact ⟨rfl, hbr⟩
theorem implSchemaOk_any (v : Value) (r : List RM) (w : World) (h : RawAt w (· < w.heap.size) v r) (hr : Small r) :
    Calls Try.prog 36 #[v] w fun e w' => e = .returned (.bool (schemaB r)) ∧ Below w.heap.size w w' :=
  implSchemaOk_in v r w _ (fun _ h => h) h hr
end Go.Proofs.Ytcnpdcmdnmfnaaa.Num
