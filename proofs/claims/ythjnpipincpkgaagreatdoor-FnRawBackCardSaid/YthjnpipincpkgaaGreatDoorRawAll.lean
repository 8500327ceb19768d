/-
  Several texts in one: SchemaImpl RawFromI.
-/
import Derived.Test.YthjnpipincpkgaaGreatDoorSchemaOk
import Derived.Test.YthjnpipincpkgaaGreatDoorShapeImpl
import Derived.Test.YthjnpipincpkgaaGreatDoorRawFrom
import Derived.Test.YthjnpipincpkgaaGreatDoorZone
import Derived.Deep.RegionHeld3
import Derived.Deep.DeepCutAuto

/-
  The walks of the program's targetOk, fieldOk, fieldsOk and SchemaOk: they give what the plain definitions of the reference's walks tell; only new memory is written.
-/
namespace Go.Proofs.YthjnpipincpkgaaGreatDoor.Num
open Go.RowKit Go.Proofs
set_option linter.unusedVariables false
set_option linter.unusedSimpArgs false

def targB (n : Nat) (f : RF) : Bool := if f.2.1 = 8 then decide (0 ≤ f.2.2.2.2 ∧ f.2.2.2.2 ≤ (n : Int) - 1) else f.2.2.2.2 == -1
theorem targetOk_any (f : RF) (n : Nat) (w : World) (hn : n ≤ 1048576) :
    Calls Tryz.prog 98 #[fieldV f, .int .i64 n] w fun e w' => e = .returned (.bool (targB n f)) ∧ Below w.heap.size w w' := by
  obtain ⟨A1, A2, A3, A4, A5⟩ := f
  unfold fieldV targB
  simp only
  have hl : Below w.heap.size w (w.alloc (.cells #[.int .i64 A1, .int .i64 A2, .bool A3, .bool A4, .int .i64 A5] 47)) := (Below.refl _ _).alloc (Nat.le_refl _) _
  by_cases h8 : A2 = 8
  · subst h8
    rw [if_pos rfl]
    by_cases hin : 0 ≤ A5 ∧ A5 < (n : Int)
    · rw [decide_eq_true (p := 0 ≤ A5 ∧ A5 ≤ (n : Int) - 1) (by omega)]
      have Hin := Lib.hid hin
      clear hin
      go_enter Tryz.func98, Tryz.ntmps98
      go_wp2_with fail
      refine (isIndex_yes _ _ _ Hin.out).mono ?_
      rintro e w1 ⟨rfl, rfl⟩
      go_wp2_with fail
      go_ret
      exact ⟨rfl, hl⟩
    · rw [decide_eq_false (p := 0 ≤ A5 ∧ A5 ≤ (n : Int) - 1) (by omega)]
      have Hin := Lib.hid hin
      clear hin
      go_enter Tryz.func98, Tryz.ntmps98
      go_wp2_with fail
      refine (isIndex_no _ _ _ Hin.out).mono ?_
      rintro e w1 ⟨rfl, rfl⟩
      go_wp2_with fail
      go_ret
      exact ⟨rfl, hl⟩
  · rw [if_neg h8]
    have b8 := neS h8
    obtain ⟨Q, hQ⟩ : ∃ Q, (A5 == -1) = Q := ⟨_, rfl⟩
    rw [hQ]
    clear h8
    go_enter Tryz.func98, Tryz.ntmps98
    go_wp2_with fail
    go_ret
    exact ⟨rfl, hl⟩
theorem fieldOk_is (n : Nat) (f : RF) : fieldOkB n f = (numOkB f.1 && (decide (1 ≤ f.2.1 ∧ f.2.1 ≤ 8) && ((!f.2.2.2.1 || runsB f) && targB n f))) := by
  unfold fieldOkB targB runsB
  obtain ⟨A1, A2, A3, A4, A5⟩ := f
  simp only
  cases numOkB A1
  · simp
  · by_cases h : 1 ≤ A2 ∧ A2 ≤ 8
    · rw [if_neg (by simp), if_neg (by simpa using h), decide_eq_true h]
      cases A3 <;> cases A4 <;> cases numericB A2 <;> simp
    · rw [if_neg (by simp), if_pos h, decide_eq_false h]; simp
set_option maxHeartbeats 2000000 in
theorem implFieldOk_any (f : RF) (n : Nat) (w : World) (hn : n ≤ 1048576) :
    Calls Tryz.prog 75 #[fieldV f, .int .i64 n] w fun e w' => e = .returned (.bool (fieldOkB n f)) ∧ Below w.heap.size w w' := by
  have Hn := Lib.hid (implNumberOk_any f.1)
  have Hr := Lib.hid (implRuns_any f)
  have Ht := Lib.hid (fun w => targetOk_any f n w hn)
  have He := Lib.hid (fieldOk_is n f)
  rw [He.out]
  obtain ⟨A1, A2, A3, A4, A5⟩ := f
  unfold fieldV at Hr Ht ⊢
  simp only at Hn Hr Ht ⊢
  have hl : Below w.heap.size w (w.alloc (.cells #[.int .i64 A1, .int .i64 A2, .bool A3, .bool A4, .int .i64 A5] 47)) := (Below.refl _ _).alloc (Nat.le_refl _) _
  generalize numOkB A1 = Q1 at Hn ⊢
  generalize runsB (A1, A2, A3, A4, A5) = Q3 at Hr ⊢
  generalize targB n (A1, A2, A3, A4, A5) = Q4 at Ht ⊢
  clear He
  have step : ∀ (w1 : World), Below w.heap.size w w1 → Below w.heap.size w w1 := fun _ h => h
  cases Q1 with
  | false =>
    go_enter Tryz.func75, Tryz.ntmps75
    go_wp2_with fail
    refine (Hn.out _).mono ?_
    rintro e w1 ⟨rfl, rfl⟩
    go_wp2_with fail
    go_ret
    exact ⟨rfl, hl⟩
  | true =>
    by_cases hkind : 1 ≤ A2 ∧ A2 ≤ 8
    · rw [decide_eq_true hkind]
      have Hkind := Lib.hid hkind
      clear hkind
      cases A4 with
      | false =>
        go_enter Tryz.func75, Tryz.ntmps75
        go_wp2_with fail
        refine (Hn.out _).mono ?_
        rintro e w1 ⟨rfl, rfl⟩
        go_wp2_with fail
        refine (kindOk_yes A2 _ Hkind.out).mono ?_
        rintro e w1 ⟨rfl, rfl⟩
        go_wp2_with fail
        refine (Ht.out _).mono ?_
        rintro e w2 ⟨rfl, hb2⟩
        have hl2 := hl.trans (hb2.mono hl.size)
        clear hb2
        go_wp2_with fail
        go_ret
        exact ⟨rfl, hl2⟩
      | true =>
        cases Q3 with
        | false =>
          go_enter Tryz.func75, Tryz.ntmps75
          go_wp2_with fail
          refine (Hn.out _).mono ?_
          rintro e w1 ⟨rfl, rfl⟩
          go_wp2_with fail
          refine (kindOk_yes A2 _ Hkind.out).mono ?_
          rintro e w1 ⟨rfl, rfl⟩
          go_wp2_with fail
          refine (Hr.out _).mono ?_
          rintro e w2 ⟨rfl, hb2⟩
          have hl2 := hl.trans (hb2.mono hl.size)
          clear hb2
          go_wp2_with fail
          go_ret
          exact ⟨rfl, hl2⟩
        | true =>
          have hx := Box.fresh w #[.int .i64 A1, .int .i64 A2, .bool A3, .bool true, .int .i64 A5] 47
          go_enter Tryz.func75, Tryz.ntmps75
          go_wp2_with fail
          refine (Hn.out _).mono ?_
          rintro e w1 ⟨rfl, rfl⟩
          go_wp2_with fail
          refine (kindOk_yes A2 _ Hkind.out).mono ?_
          rintro e w1 ⟨rfl, rfl⟩
          go_wp2_with fail
          refine (Hr.out _).mono ?_
          rintro e w2 ⟨rfl, hb2⟩
          have hl2 := hl.trans (hb2.mono hl.size)
          obtain ⟨⟨c0, c1, c2, c3, c4⟩, _⟩ := Box.five (hx.below hb2 hx.1)
          clear hb2
          go_wp2_with fail
          refine (Ht.out _).mono ?_
          rintro e w3 ⟨rfl, hb3⟩
          have hl3 := hl2.trans (hb3.mono hl2.size)
          clear hb3
          go_wp2_with fail
          go_ret
          exact ⟨rfl, hl3⟩
    · rw [decide_eq_false hkind]
      have Hkind := Lib.hid hkind
      clear hkind
      go_enter Tryz.func75, Tryz.ntmps75
      go_wp2_with fail
      refine (Hn.out _).mono ?_
      rintro e w1 ⟨rfl, rfl⟩
      go_wp2_with fail
      refine (kindOk_no A2 _ Hkind.out).mono ?_
      rintro e w1 ⟨rfl, rfl⟩
      go_wp2_with fail
      go_ret
      exact ⟨rfl, hl⟩

def FieldsP (n : Nat) (l : List RF) : Prop := l.length ≤ 8 ∧ ∀ k (hk : k < l.length), fieldGood n l k l[k]
/-- What the loop over the fields keeps in 'last': the number ahead of the k-th field, or 0. -/
def LastF (l : List RF) (k : Nat) (L : Int) : Prop := (k = 0 → L = 0) ∧ ∀ p (hp : p < l.length), p + 1 = k → l[p].1 = L
def LastM (s : List RM) (k : Nat) (L : Int) : Prop := (k = 0 → L = 0) ∧ ∀ p (hp : p < s.length), p + 1 = k → s[p].1 = L
theorem fits_pos {f : RF} {n : Nat} (h : fieldOkB n f = true) : 1 ≤ f.1 := by
  rw [fieldOk_is] at h
  simp only [Bool.and_eq_true] at h
  have := of_decide_eq_true h.1
  exact this.1.1
theorem fieldGood_iff {n : Nat} {l : List RF} {k : Nat} {L : Int} (hk : k < l.length) (hL : LastF l k L) : fieldGood n l k l[k] ↔ (¬ l[k].1 ≤ L ∧ fieldOkB n l[k] = true) := by
  unfold fieldGood
  constructor
  · rintro ⟨h1, h2⟩
    refine ⟨?_, h1⟩
    by_cases h0 : k = 0
    · rw [hL.1 h0]; have := fits_pos h1; omega
    · have := h2 (k - 1) (by omega) (by omega)
      rw [hL.2 (k - 1) (by omega) (by omega)] at this
      omega
  · rintro ⟨h1, h2⟩
    exact ⟨h2, fun p hp hpk => by rw [hL.2 p hp hpk]; omega⟩
theorem shapeGood_iff {s : List RM} {k : Nat} {L : Int} (hk : k < s.length) (hL : LastM s k L) (hL0 : 0 ≤ L) : shapeGood s k s[k] ↔ (¬ s[k].1 ≤ L ∧ ¬ 99 < s[k].1 ∧ FieldsP s.length s[k].2) := by
  unfold shapeGood FieldsP
  constructor
  · rintro ⟨h1, h2, h3, h4⟩
    refine ⟨?_, by omega, h3, h4⟩
    by_cases h0 : k = 0
    · rw [hL.1 h0]; omega
    · have := h2 (k - 1) (by omega) (by omega)
      rw [hL.2 (k - 1) (by omega) (by omega)] at this
      omega
  · rintro ⟨h1, h2, h3, h4⟩
    exact ⟨⟨by omega, by omega⟩, fun p hp hpk => by rw [hL.2 p hp hpk]; omega, h3, h4⟩
theorem LastF.next {l : List RF} {k : Nat} (hk : k < l.length) : LastF l (k + 1) l[k].1 := by
  refine ⟨fun h => by omega, fun p hp h => ?_⟩
  obtain rfl : p = k := by omega
  rfl
theorem LastM.next {s : List RM} {k : Nat} (hk : k < s.length) : LastM s (k + 1) s[k].1 := by
  refine ⟨fun h => by omega, fun p hp h => ?_⟩
  obtain rfl : p = k := by omega
  rfl
set_option maxHeartbeats 4000000 in
theorem fieldsOk_any (v : Value) (l : List RF) (n : Nat) (R : Bool) (w : World) (S : Nat → Prop) (hS : ∀ b, S b → b < w.heap.size) (hv : FieldsAt w S v l) (hl : l.length ≤ 1048576) (hn : n ≤ 1048576) (tell : (FieldsP n l → R = true) ∧ (¬ FieldsP n l → R = false)) :
    Calls Tryz.prog 37 #[v, .int .i64 n] w fun e w' => e = .returned (.bool R) ∧ Below w.heap.size w w' := by
  have Tell := Lib.hid tell
  have HS := Lib.hid hS
  obtain ⟨a, cap, rfl⟩ := hv.len
  have H := Lib.hid hv
  clear tell hS hv
  by_cases h8 : 8 < l.length
  · obtain rfl : R = false := Tell.out.2 fun h => by have := h.1; omega
    have h8i : (8 : Int) < (l.length : Int) := by omega
    go_enter Tryz.func37, Tryz.ntmps37
    go_wp2_with fail
    go_ret
    exact ⟨rfl, Below.refl _ _⟩
  · have h8i : decide ((8 : Int) < (l.length : Int)) = false := decide_eq_false (by omega)
    have h8n : decide (8 < l.length) = false := decide_eq_false h8
    have h88 : l.length ≤ 8 := by omega
    clear h8
    go_enter Tryz.func37, Tryz.ntmps37
    go_wp2_with fail
    go_loopw [5, 13] (fun last i wr => ∃ (k : Nat) (L : Int), k ≤ l.length ∧ i = .int .i64 k ∧ last = .int .i64 L ∧ Hid (LastF l k L) ∧ Hid (∀ j (hj : j < l.length), j < k → fieldGood n l j l[j]) ∧ Below w.heap.size w wr) (fun _ i _ => l.length - (intOf i).toNat)
    case atStart => exact ⟨0, 0, by omega, rfl, rfl, Lib.hid ⟨fun _ => rfl, fun p hp h => by omega⟩, Lib.hid fun j _ hj => by omega, Below.refl _ _⟩
    case round =>
      obtain ⟨k, L, hk, rfl, rfl, hlast, hgood, hbr⟩ := hrel
      by_cases hlt : k < l.length
      · have hlti : (k : Int) < (l.length : Int) := by omega
        obtain ⟨fb, fo, fc, fv, fbS, fcs⟩ := H.out.cells (by omega)
        obtain ⟨rfl, rfl⟩ : a = some ⟨fb, fo, none⟩ ∧ cap = fc := by injection fv with e1 e2 e3; exact ⟨e1, e3⟩
        obtain ⟨x0, x1, x2, x3, x4⟩ := fcs k hlt
        have fbC := HS.out _ fbS
        have hbw : fb < wr.heap.size := Nat.lt_of_lt_of_le fbC hbr.size
        clear fcs fv fbS
        rw [← hbr.cell (p := ⟨fb, _, none⟩) fbC] at x0 x1 x2 x3 x4
        have Hiff := Lib.hid (fieldGood_iff (n := n) hlt hlast.out)
        have Hbad : Hid (¬ fieldGood n l k l[k] → R = false) := Lib.hid fun h => Tell.out.2 fun hs => h (hs.2 k hlt)
        have Hlast := Lib.hid (LastF.next hlt)
        have Hnext : Hid (fieldGood n l k l[k] → ∀ j (hj : j < l.length), j < k + 1 → fieldGood n l j l[j]) := Lib.hid fun h j hj hjk => by
          by_cases e : j = k
          · subst e; exact h
          · exact hgood.out j hj (by omega)
        clear hlast hgood
        generalize l[k] = f at x0 x1 x2 x3 x4 Hiff Hbad Hnext Hlast
        obtain ⟨A1, A2, A3, A4, A5⟩ := f
        simp only at x0 x1 x2 x3 x4 Hiff Hlast
        have hb : Below w.heap.size w (wr.alloc (.cells #[.int .i64 A1, .int .i64 A2, .bool A3, .bool A4, .int .i64 A5] 47)) := hbr.alloc hbr.size _
        by_cases hle : A1 ≤ L
        · obtain rfl : R = false := Hbad.out fun h => (Hiff.out.1 h).1 hle
          clear Hiff Hbad Hnext
          go_wp2_with fail
          go_ret
          exact ⟨rfl, hb⟩
        · have hled : decide (A1 ≤ L) = false := decide_eq_false hle
          have Hle := Lib.hid hle
          clear hle
          have Hf := Lib.hid (implFieldOk_any (A1, A2, A3, A4, A5) n (wr.alloc (.cells #[.int .i64 A1, .int .i64 A2, .bool A3, .bool A4, .int .i64 A5] 47)) hn)
          have hx := Box.fresh wr #[.int .i64 A1, .int .i64 A2, .bool A3, .bool A4, .int .i64 A5] 47
          unfold fieldV at Hf
          simp only at Hf
          obtain ⟨Q, hQ⟩ : ∃ Q, fieldOkB n (A1, A2, A3, A4, A5) = Q := ⟨_, rfl⟩
          rw [hQ] at Hf Hiff
          clear hQ
          go_wp2_with fail
          refine Hf.out.mono ?_
          rintro e w1 ⟨rfl, hb1⟩
          obtain ⟨⟨c0, _, _, _, _⟩, _⟩ := Box.five (hx.below hb1 hx.1)
          have hb2 := hb.trans (hb1.mono hb.size)
          clear hb hx hb1 Hf x0 x1 x2 x3 x4
          cases Q with
          | false =>
            obtain rfl : R = false := Hbad.out fun h => by have := (Hiff.out.1 h).2; cases this
            clear Hiff Hbad Hnext
            go_wp2_with fail
            go_ret
            exact ⟨rfl, hb2⟩
          | true =>
            have Hn := Lib.hid (Hnext.out (Hiff.out.2 ⟨Hle.out, rfl⟩))
            clear Hiff Hbad Hnext
            go_wp2_with fail
            go_roundw
            case rel => exact ⟨k + 1, A1, by omega, by go_num, rfl, Hlast, Hn, hb2⟩
            case measure => simp [intOf]; omega
      · have hge : (l.length : Int) ≤ (k : Int) := by omega
        have hend : decide (k < l.length) = false := decide_eq_false hlt
        obtain rfl : R = true := Tell.out.1 ⟨h88, fun j hj => hgood.out j hj (by omega)⟩
        go_wp2_with fail
        go_ret
        exact ⟨rfl, hbr⟩
noncomputable def fieldsB (n : Nat) (l : List RF) : Bool := @decide (FieldsP n l) (Classical.propDecidable _)
theorem fieldsB_tell (n : Nat) (l : List RF) : (FieldsP n l → fieldsB n l = true) ∧ (¬ FieldsP n l → fieldsB n l = false) := by
  unfold fieldsB
  exact ⟨fun h => @decide_eq_true _ (Classical.propDecidable _) h, fun h => @decide_eq_false _ (Classical.propDecidable _) h⟩
set_option maxHeartbeats 4000000 in
theorem implSchemaOk_in (v : Value) (r : List RM) (w : World) (S : Nat → Prop) (hS : ∀ b, S b → b < w.heap.size) (h : RawAt w S v r) (hr : Small r) :
    Calls Tryz.prog 10 #[v] w fun e w' => e = .returned (.bool (schemaB r)) ∧ Below w.heap.size w w' := by
  obtain ⟨R, hR⟩ : ∃ R, schemaB r = R := ⟨_, rfl⟩
  rw [hR]
  have Tell : Hid ((SchemaP r → R = true) ∧ (¬ SchemaP r → R = false)) := Lib.hid ⟨fun h => by rw [← hR]; exact schema_yes h, fun h => by rw [← hR]; exact schema_no h⟩
  have HS := Lib.hid hS
  obtain ⟨u, rfl, hu⟩ := h
  obtain ⟨a, cap, rfl⟩ := hu.len
  have H := Lib.hid hu
  have Hr := Lib.hid hr.2
  have hr1 := hr.1
  clear hR hS hu hr
  have hb0 : Below w.heap.size w (w.alloc (.cells #[.slice a r.length cap] 30)) := (Below.refl _ _).alloc (Nat.le_refl _) _
  by_cases h6 : 6 < r.length
  · obtain rfl : R = false := Tell.out.2 fun h => by have := h.1; omega
    have h6i : (6 : Int) < (r.length : Int) := by omega
    go_enter Tryz.func10, Tryz.ntmps10
    go_wp2_with fail
    go_ret
    exact ⟨rfl, hb0⟩
  · have h6i : decide ((6 : Int) < (r.length : Int)) = false := decide_eq_false (by omega)
    have h6n : decide (6 < r.length) = false := decide_eq_false h6
    have h66 : r.length ≤ 6 := by omega
    clear h6
    go_enter Tryz.func10, Tryz.ntmps10
    go_wp2_with fail
    go_loopw [3, 13] (fun last i wr => ∃ (k : Nat) (L : Int), k ≤ r.length ∧ i = .int .i64 k ∧ last = .int .i64 L ∧ Hid (LastM r k L ∧ 0 ≤ L) ∧ Hid (∀ j (hj : j < r.length), j < k → shapeGood r j r[j]) ∧ Hid (Box wr w.heap.size [.slice a r.length cap]) ∧ Below w.heap.size w wr) (fun _ i _ => r.length - (intOf i).toNat)
    case atStart => exact ⟨0, 0, by omega, rfl, rfl, Lib.hid ⟨⟨fun _ => rfl, fun p hp h => by omega⟩, by omega⟩, Lib.hid fun j _ hj => by omega, Lib.hid (Box.fresh _ _ _), hb0⟩
    case round =>
      clear hb0
      obtain ⟨k, L, hk, rfl, rfl, hlast, hgood, HB, hbr⟩ := hrel
      obtain ⟨s0, _⟩ := HB.out.one
      have hwz := HB.out.1
      by_cases hlt : k < r.length
      · have hlti : (k : Int) < (r.length : Int) := by omega
        obtain ⟨b, o, c, hv, hbS, hcs⟩ := H.out.cells (by omega)
        obtain ⟨rfl, rfl⟩ : a = some ⟨b, o, none⟩ ∧ cap = c := by injection hv with e1 e2 e3; exact ⟨e1, e3⟩
        obtain ⟨x, d0, d1, hx⟩ := hcs k hlt
        obtain ⟨xa, xc, rfl⟩ := hx.len
        have hbC := HS.out _ hbS
        have hbw : b < wr.heap.size := Nat.lt_of_lt_of_le hbC hbr.size
        have hsm := Hr.out _ (List.getElem_mem hlt)
        have Hx := Lib.hid hx
        clear hcs hv hbS hx
        rw [← hbr.cell (p := ⟨b, _, none⟩) hbC] at d0 d1
        have Hiff := Lib.hid (shapeGood_iff hlt hlast.out.1 hlast.out.2)
        have Hbad : Hid (¬ shapeGood r k r[k] → R = false) := Lib.hid fun h => Tell.out.2 fun hs => h (hs.2 k hlt)
        have Hlast : Hid (shapeGood r k r[k] → LastM r (k + 1) r[k].1 ∧ 0 ≤ r[k].1) := Lib.hid fun h => ⟨LastM.next hlt, by have := h.1.1; omega⟩
        have Hnext : Hid (shapeGood r k r[k] → ∀ j (hj : j < r.length), j < k + 1 → shapeGood r j r[j]) := Lib.hid fun h j hj hjk => by
          by_cases e : j = k
          · subst e; exact h
          · exact hgood.out j hj (by omega)
        clear hlast hgood
        generalize r[k] = m at d0 d1 hsm Hx Hiff Hbad Hlast Hnext
        obtain ⟨id, fs⟩ := m
        simp only at d0 d1 hsm Hx Hiff Hlast
        have hb : Below w.heap.size w (wr.alloc (.cells #[.int .i64 id, .slice xa fs.length xc] 43)) := hbr.alloc hbr.size _
        by_cases hle : id ≤ L
        · obtain rfl : R = false := Hbad.out fun h => (Hiff.out.1 h).1 hle
          clear Hiff Hbad Hnext Hlast
          go_wp2_with fail
          go_ret
          exact ⟨rfl, hb⟩
        · have hled : decide (id ≤ L) = false := decide_eq_false hle
          have Hle := Lib.hid hle
          clear hle
          by_cases h99 : 99 < id
          · obtain rfl : R = false := Hbad.out fun h => (Hiff.out.1 h).2.1 h99
            clear Hiff Hbad Hnext Hlast
            go_wp2_with fail
            go_ret
            exact ⟨rfl, hb⟩
          · have h99d : decide (99 < id) = false := decide_eq_false h99
            have H99 := Lib.hid h99
            clear h99
            have Hf := Lib.hid (fieldsOk_any (.slice xa fs.length xc) fs r.length (fieldsB r.length fs) (wr.alloc (.cells #[.int .i64 id, .slice xa fs.length xc] 43)) S (fun b h => Nat.lt_of_lt_of_le (HS.out b h) hb.size) (Hx.out.keep (.of_below hb HS.out) fun _ h => h) hsm hr1 (fieldsB_tell _ _))
            have Hft := Lib.hid (fieldsB_tell r.length fs)
            have hx := Box.fresh wr #[.int .i64 id, .slice xa fs.length xc] 43
            have hs := HB.out.alloc (.cells #[.int .i64 id, .slice xa fs.length xc] 43)
            generalize fieldsB r.length fs = Q at Hf Hft
            go_wp2_with fail
            refine Hf.out.mono ?_
            rintro e w1 ⟨rfl, hb1⟩
            obtain ⟨c0, c1, _⟩ := (hx.below hb1 hx.1).two
            have Hs2 := Lib.hid (hs.below hb1 hs.1)
            have hb2 := hb.trans (hb1.mono hb.size)
            clear hb hx hs hb1 Hf d0 d1 s0
            cases Q with
            | false =>
              obtain rfl : R = false := Hbad.out fun h => by have := Hft.out.1 (Hiff.out.1 h).2.2; cases this
              clear Hiff Hbad Hnext Hlast
              go_wp2_with fail
              go_ret
              exact ⟨rfl, hb2⟩
            | true =>
              have hg := Hiff.out.2 ⟨Hle.out, H99.out, Classical.byContradiction fun h => by have := Hft.out.2 h; cases this⟩
              have Hn := Lib.hid (Hnext.out hg)
              have Hl := Lib.hid (Hlast.out hg)
              clear Hiff Hbad Hnext Hlast hg
              go_wp2_with fail
              go_roundw
              case rel => exact ⟨k + 1, id, by omega, by go_num, rfl, Hl, Hn, Hs2, hb2⟩
              case measure => simp [intOf]; omega
      · have hge : (r.length : Int) ≤ (k : Int) := by omega
        have hend : decide (k < r.length) = false := decide_eq_false hlt
        obtain rfl : R = true := Tell.out.1 ⟨h66, fun j hj => hgood.out j hj (by omega)⟩
        go_wp2_with fail
        go_ret
        exact ⟨rfl, hbr⟩
theorem implSchemaOk_any (v : Value) (r : List RM) (w : World) (h : RawAt w (· < w.heap.size) v r) (hr : Small r) :
    Calls Tryz.prog 10 #[v] w fun e w' => e = .returned (.bool (schemaB r)) ∧ Below w.heap.size w w' :=
  implSchemaOk_in v r w _ (fun _ h => h) h hr
end Go.Proofs.YthjnpipincpkgaaGreatDoor.Num

/-
  The walks of the program's rawFieldsFrom and RawFrom: a valid schema's description, laid anew in new memory, each of its rows in a block of its own.
-/
namespace Go.Proofs.YthjnpipincpkgaaGreatDoor.Num
open Go.RowKit Go.Proofs
set_option linter.unusedVariables false
set_option linter.unusedSimpArgs false

theorem undrewI {w w' : World} (h : Below w.drew.heap.size w.drew w') : Below w.heap.size w w' := ⟨h.os, h.tape, h.output, h.size, h.block⟩
theorem FRow.put5 {w : World} {g n k : Nat} {l : List RF} (h : FRow w g n k l) (hk : k < n) (hl : k < l.length) {A1 A2 A5 : Int} {A3 A4 : Bool} (e : l[k] = (A1, A2, A3, A4, A5)) :
    FRow (((((w.setCell ⟨g, k * 5, none⟩ (.int .i64 A1)).setCell ⟨g, k * 5 + 1, none⟩ (.int .i64 A2)).setCell ⟨g, k * 5 + 2, none⟩ (.bool A3)).setCell ⟨g, k * 5 + 3, none⟩ (.bool A4)).setCell ⟨g, k * 5 + 4, none⟩ (.int .i64 A5)) g n (k + 1) l := by
  have := h.put hk hl
  rw [e] at this
  exact this
/-- The last cell written over. -/
theorem FRow.put6 {w : World} {g n k : Nat} {l : List RF} (h : FRow w g n k l) (hk : k < n) (hl : k < l.length) {A1 A2 A5 : Int} {A3 A4 : Bool} (e : l[k] = (A1, A2, A3, A4, A5)) (z : Value) :
    FRow ((((((w.setCell ⟨g, k * 5, none⟩ (.int .i64 A1)).setCell ⟨g, k * 5 + 1, none⟩ (.int .i64 A2)).setCell ⟨g, k * 5 + 2, none⟩ (.bool A3)).setCell ⟨g, k * 5 + 3, none⟩ (.bool A4)).setCell ⟨g, k * 5 + 4, none⟩ z).setCell ⟨g, k * 5 + 4, none⟩ (.int .i64 A5)) g n (k + 1) l := by
  have hf := h.1
  refine ⟨(((((hf.set _ _).set _ _).set _ _).set _ _).set _ _).set _ _, fun i hi hik => ?_⟩
  by_cases ei : i = k
  · subst ei
    rw [e]
    unfold cells5
    refine ⟨?_, ?_, ?_, ?_, ?_⟩
    · rw [cell_off (by omega), cell_off (by omega), cell_off (by omega), cell_off (by omega), cell_off (by omega)]; exact hf.same (by omega) _
    · rw [cell_off (by omega), cell_off (by omega), cell_off (by omega), cell_off (by omega)]; exact (hf.set _ _).same (by omega) _
    · rw [cell_off (by omega), cell_off (by omega), cell_off (by omega)]; exact ((hf.set _ _).set _ _).same (by omega) _
    · rw [cell_off (by omega), cell_off (by omega)]; exact (((hf.set _ _).set _ _).set _ _).same (by omega) _
    · exact (((((hf.set _ _).set _ _).set _ _).set _ _).set _ _).same (by omega) _
  · have := h.2 i hi (by omega)
    unfold cells5 at this ⊢
    refine ⟨?_, ?_, ?_, ?_, ?_⟩
    · rw [cell_off (by omega), cell_off (by omega), cell_off (by omega), cell_off (by omega), cell_off (by omega), cell_off (by omega)]; exact this.1
    · rw [cell_off (by omega), cell_off (by omega), cell_off (by omega), cell_off (by omega), cell_off (by omega), cell_off (by omega)]; exact this.2.1
    · rw [cell_off (by omega), cell_off (by omega), cell_off (by omega), cell_off (by omega), cell_off (by omega), cell_off (by omega)]; exact this.2.2.1
    · rw [cell_off (by omega), cell_off (by omega), cell_off (by omega), cell_off (by omega), cell_off (by omega), cell_off (by omega)]; exact this.2.2.2.1
    · rw [cell_off (by omega), cell_off (by omega), cell_off (by omega), cell_off (by omega), cell_off (by omega), cell_off (by omega)]; exact this.2.2.2.2
set_option maxHeartbeats 4000000 in
set_option maxRecDepth 100000 in
theorem rawFieldsFrom_any (id : Int) (u v : Value) (l : List RF) (r : List RM) (w : World) (S : Nat → Prop) (hS : ∀ b, S b → b < w.heap.size) (hu : FieldsAt w S u l) (hv : RawAt w S v r) (hl : l.length ≤ 8) (hr : r.length ≤ 6)
    (hok : ∀ k (hk : k < l.length), l[k].2.1 = 8 → ∃ M : Nat, M < r.length ∧ l[k].2.2.2.2 = (M : Int)) :
    Calls Tryz.prog 47 #[.agg #[.int .i64 id, u], v] w fun e w' => ∃ g cap, e = .returned (.slice (some ⟨g, 0, none⟩) l.length cap) ∧ w.heap.size ≤ g ∧ FieldsAt w' (· = g) (.slice (some ⟨g, 0, none⟩) l.length cap) (l.map (backF r)) ∧ Fill w' g (l.length * 5) ∧ Below w.heap.size w w' := by
  obtain ⟨i0, hi, hz0, hz1, hz2⟩ := info_parts infoF
  obtain ⟨a, cap, rfl⟩ := hu.len
  obtain ⟨vs, rfl, hv⟩ := hv
  obtain ⟨sa, sc, rfl⟩ := hv.len
  have H := Lib.hid hu
  have HV := Lib.hid hv
  have HS := Lib.hid hS
  have Hok := Lib.hid hok
  have hLen : Hid ((l.map (backF r)).length = l.length) := Lib.hid (by simp)
  clear hu hv hS hok
  have hb2 : Below w.heap.size w ((w.alloc (.cells #[.int .i64 id, .slice a l.length cap] 43)).alloc (.cells #[.slice sa r.length sc] 30)) := ((Below.refl _ _).alloc (Nat.le_refl _) _).alloc (by simp) _
  have hm2 : Box ((w.alloc (.cells #[.int .i64 id, .slice a l.length cap] 43)).alloc (.cells #[.slice sa r.length sc] 30)) w.heap.size [.int .i64 id, .slice a l.length cap] := (Box.fresh _ _ _).alloc _
  have hx2 : Box ((w.alloc (.cells #[.int .i64 id, .slice a l.length cap] 43)).alloc (.cells #[.slice sa r.length sc] 30)) (w.heap.size + 1) [.slice sa r.length sc] := Box.freshB
  go_enter Tryz.func47, Tryz.ntmps47
  go_wp2_with (refine wpList_make_full _ rfl _ _ 38 rfl (w.heap.size + 1 + 1) 45 i0 _ 5 Tryz.underlying38 hi hz0 hz1 .i64 .i64 _ _ l.length rfl rfl rfl rfl (by rw [hz2]; omega) (by unfold maxLen; omega) (by simp) ?_; intro w1 hown hgr; have hm1 := Box.grown hgr hm2 (fun k hk => by cases hk); obtain ⟨m0, m1, _⟩ := hm1.two)
  have hrow : FRow w1 (w.heap.size + 1 + 1) l.length 0 (l.map (backF r)) := by simpa using FRow.start (l := l.map (backF r)) hown
  have hx1 : Box w1 (w.heap.size + 1) [.slice sa r.length sc] := Box.grown hgr hx2 (fun k hk => by cases hk)
  have hl1 : Below w.heap.size w w1 := hb2.grown hgr (by simp; omega) (fun k hk => by cases hk)
  clear hown hgr hi hz0 hz1 hz2 hm2 hx2 hb2
  go_loopw [15] (fun i wr => ∃ k : Nat, k ≤ l.length ∧ i = .int .i64 k ∧ Hid (FRow wr (w.heap.size + 1 + 1) l.length k (l.map (backF r))) ∧ Hid (Box wr (w.heap.size + 1) [.slice sa r.length sc]) ∧ Below w.heap.size w wr) (fun i _ => l.length - (intOf i).toNat)
  case atStart => exact ⟨0, by omega, rfl, Lib.hid hrow, Lib.hid hx1, hl1⟩
  case round =>
    clear hrow hx1 hl1 m0 m1 hm1
    obtain ⟨k, hk, rfl, hrow, hbx, hbr⟩ := hrel
    obtain ⟨s0, _⟩ := hbx.out.one
    have hzz : w.heap.size + 1 + 1 < wr.heap.size := hrow.out.1.1
    by_cases hlt : k < l.length
    · have hlti : (k : Int) < (l.length : Int) := by omega
      obtain ⟨b, o, cap', hv, hbS, hcs⟩ := H.out.cells (by omega)
      obtain ⟨rfl, rfl⟩ : a = some ⟨b, o, none⟩ ∧ cap = cap' := by injection hv with e1 e2 e3; exact ⟨e1, e3⟩
      have hbC := HS.out _ hbS
      obtain ⟨c0, c1, c2, c3, c4⟩ := hcs k hlt
      have hkL : k < (l.map (backF r)).length := by rw [hLen.out]; exact hlt
      have HkL := Lib.hid hkL
      have He : Hid ((l.map (backF r))[k] = backF r l[k]) := Lib.hid (List.getElem_map ..)
      have Hm : Hid (l[k].2.1 = 8 → ∃ M : Nat, M < r.length ∧ l[k].2.2.2.2 = (M : Int)) := Lib.hid (Hok.out k hlt)
      clear hcs hv hbS hkL
      rw [← hbr.cell (p := ⟨b, _, none⟩) hbC] at c0 c1 c2 c3 c4
      have hbw : b < wr.heap.size := Nat.lt_of_lt_of_le hbC hbr.size
      have hbg : b < w.heap.size + 1 + 1 := by omega
      generalize l[k] = f at c0 c1 c2 c3 c4 He Hm
      obtain ⟨A1, A2, A3, A4, A5⟩ := f
      simp only at c0 c1 c2 c3 c4 Hm
      obtain ⟨v0, v1, v2, v3, v4, t0, t1, t2, t3, t4, f0, f1, f2, f3, f4⟩ := hrow.out.1.slots5 hlt
      have Hp5 : Hid ((l.map (backF r))[k] = (A1, A2, A3, A4, 0) → FRow ((((((wr.setCell ⟨w.heap.size + 1 + 1, k * 5, none⟩ (.int .i64 A1)).setCell ⟨w.heap.size + 1 + 1, k * 5 + 1, none⟩ (.int .i64 A2)).setCell ⟨w.heap.size + 1 + 1, k * 5 + 2, none⟩ (.bool A3)).setCell ⟨w.heap.size + 1 + 1, k * 5 + 3, none⟩ (.bool A4)).setCell ⟨w.heap.size + 1 + 1, k * 5 + 4, none⟩ (.int .i64 0)).alloc (.cells #[.int .i64 A1, .int .i64 A2, .bool A3, .bool A4, .int .i64 A5] 47)) (w.heap.size + 1 + 1) l.length (k + 1) (l.map (backF r))) := Lib.hid fun e =>
        (hrow.out.put5 hlt HkL.out e).below (B := wr.heap.size) (by simpa [World.setCell] using (Below.refl (((((wr.setCell ⟨w.heap.size + 1 + 1, k * 5, none⟩ (.int .i64 A1)).setCell ⟨w.heap.size + 1 + 1, k * 5 + 1, none⟩ (.int .i64 A2)).setCell ⟨w.heap.size + 1 + 1, k * 5 + 2, none⟩ (.bool A3)).setCell ⟨w.heap.size + 1 + 1, k * 5 + 3, none⟩ (.bool A4)).setCell ⟨w.heap.size + 1 + 1, k * 5 + 4, none⟩ (.int .i64 0)).heap.size (((((wr.setCell ⟨w.heap.size + 1 + 1, k * 5, none⟩ (.int .i64 A1)).setCell ⟨w.heap.size + 1 + 1, k * 5 + 1, none⟩ (.int .i64 A2)).setCell ⟨w.heap.size + 1 + 1, k * 5 + 2, none⟩ (.bool A3)).setCell ⟨w.heap.size + 1 + 1, k * 5 + 3, none⟩ (.bool A4)).setCell ⟨w.heap.size + 1 + 1, k * 5 + 4, none⟩ (.int .i64 0))).alloc (Nat.le_refl _) _) hzz
      have Hp6 : Hid (∀ z : Int, (l.map (backF r))[k] = (A1, A2, A3, A4, z) → FRow (((((((wr.setCell ⟨w.heap.size + 1 + 1, k * 5, none⟩ (.int .i64 A1)).setCell ⟨w.heap.size + 1 + 1, k * 5 + 1, none⟩ (.int .i64 A2)).setCell ⟨w.heap.size + 1 + 1, k * 5 + 2, none⟩ (.bool A3)).setCell ⟨w.heap.size + 1 + 1, k * 5 + 3, none⟩ (.bool A4)).setCell ⟨w.heap.size + 1 + 1, k * 5 + 4, none⟩ (.int .i64 0)).alloc (.cells #[.int .i64 A1, .int .i64 A2, .bool A3, .bool A4, .int .i64 A5] 47)).setCell ⟨w.heap.size + 1 + 1, k * 5 + 4, none⟩ (.int .i64 z)) (w.heap.size + 1 + 1) l.length (k + 1) (l.map (backF r))) := Lib.hid fun z e => by
        have hz5 : (((((wr.setCell ⟨w.heap.size + 1 + 1, k * 5, none⟩ (.int .i64 A1)).setCell ⟨w.heap.size + 1 + 1, k * 5 + 1, none⟩ (.int .i64 A2)).setCell ⟨w.heap.size + 1 + 1, k * 5 + 2, none⟩ (.bool A3)).setCell ⟨w.heap.size + 1 + 1, k * 5 + 3, none⟩ (.bool A4)).setCell ⟨w.heap.size + 1 + 1, k * 5 + 4, none⟩ (.int .i64 0)).heap.size = wr.heap.size := by simp [World.setCell]
        rw [World.setCell_alloc_past _ _ _ _ (by rw [hz5]; exact hzz)]
        exact (hrow.out.put6 hlt HkL.out e (.int .i64 0)).below (B := wr.heap.size) (by simpa [World.setCell] using (Below.refl ((((((wr.setCell ⟨w.heap.size + 1 + 1, k * 5, none⟩ (.int .i64 A1)).setCell ⟨w.heap.size + 1 + 1, k * 5 + 1, none⟩ (.int .i64 A2)).setCell ⟨w.heap.size + 1 + 1, k * 5 + 2, none⟩ (.bool A3)).setCell ⟨w.heap.size + 1 + 1, k * 5 + 3, none⟩ (.bool A4)).setCell ⟨w.heap.size + 1 + 1, k * 5 + 4, none⟩ (.int .i64 0)).setCell ⟨w.heap.size + 1 + 1, k * 5 + 4, none⟩ (.int .i64 z)).heap.size ((((((wr.setCell ⟨w.heap.size + 1 + 1, k * 5, none⟩ (.int .i64 A1)).setCell ⟨w.heap.size + 1 + 1, k * 5 + 1, none⟩ (.int .i64 A2)).setCell ⟨w.heap.size + 1 + 1, k * 5 + 2, none⟩ (.bool A3)).setCell ⟨w.heap.size + 1 + 1, k * 5 + 3, none⟩ (.bool A4)).setCell ⟨w.heap.size + 1 + 1, k * 5 + 4, none⟩ (.int .i64 0)).setCell ⟨w.heap.size + 1 + 1, k * 5 + 4, none⟩ (.int .i64 z))).alloc (Nat.le_refl _) _) hzz
      have hB5 : Below w.heap.size w ((((((wr.setCell ⟨w.heap.size + 1 + 1, k * 5, none⟩ (.int .i64 A1)).setCell ⟨w.heap.size + 1 + 1, k * 5 + 1, none⟩ (.int .i64 A2)).setCell ⟨w.heap.size + 1 + 1, k * 5 + 2, none⟩ (.bool A3)).setCell ⟨w.heap.size + 1 + 1, k * 5 + 3, none⟩ (.bool A4)).setCell ⟨w.heap.size + 1 + 1, k * 5 + 4, none⟩ (.int .i64 0)).alloc (.cells #[.int .i64 A1, .int .i64 A2, .bool A3, .bool A4, .int .i64 A5] 47)) := by
        refine Below.alloc ?_ (by simp [World.setCell]; exact hbr.size) _
        repeat (first | exact hbr | refine Below.setCell ?_ (by simp; omega) _)
      have hf5 : Box ((((((wr.setCell ⟨w.heap.size + 1 + 1, k * 5, none⟩ (.int .i64 A1)).setCell ⟨w.heap.size + 1 + 1, k * 5 + 1, none⟩ (.int .i64 A2)).setCell ⟨w.heap.size + 1 + 1, k * 5 + 2, none⟩ (.bool A3)).setCell ⟨w.heap.size + 1 + 1, k * 5 + 3, none⟩ (.bool A4)).setCell ⟨w.heap.size + 1 + 1, k * 5 + 4, none⟩ (.int .i64 0)).alloc (.cells #[.int .i64 A1, .int .i64 A2, .bool A3, .bool A4, .int .i64 A5] 47)) wr.heap.size [.int .i64 A1, .int .i64 A2, .bool A3, .bool A4, .int .i64 A5] := by
        have h := Box.fresh (((((wr.setCell ⟨w.heap.size + 1 + 1, k * 5, none⟩ (.int .i64 A1)).setCell ⟨w.heap.size + 1 + 1, k * 5 + 1, none⟩ (.int .i64 A2)).setCell ⟨w.heap.size + 1 + 1, k * 5 + 2, none⟩ (.bool A3)).setCell ⟨w.heap.size + 1 + 1, k * 5 + 3, none⟩ (.bool A4)).setCell ⟨w.heap.size + 1 + 1, k * 5 + 4, none⟩ (.int .i64 0)) #[.int .i64 A1, .int .i64 A2, .bool A3, .bool A4, .int .i64 A5] 47
        rwa [show (((((wr.setCell ⟨w.heap.size + 1 + 1, k * 5, none⟩ (.int .i64 A1)).setCell ⟨w.heap.size + 1 + 1, k * 5 + 1, none⟩ (.int .i64 A2)).setCell ⟨w.heap.size + 1 + 1, k * 5 + 2, none⟩ (.bool A3)).setCell ⟨w.heap.size + 1 + 1, k * 5 + 3, none⟩ (.bool A4)).setCell ⟨w.heap.size + 1 + 1, k * 5 + 4, none⟩ (.int .i64 0)).heap.size = wr.heap.size by simp [World.setCell]] at h
      have hx5 : Box ((((((wr.setCell ⟨w.heap.size + 1 + 1, k * 5, none⟩ (.int .i64 A1)).setCell ⟨w.heap.size + 1 + 1, k * 5 + 1, none⟩ (.int .i64 A2)).setCell ⟨w.heap.size + 1 + 1, k * 5 + 2, none⟩ (.bool A3)).setCell ⟨w.heap.size + 1 + 1, k * 5 + 3, none⟩ (.bool A4)).setCell ⟨w.heap.size + 1 + 1, k * 5 + 4, none⟩ (.int .i64 0)).alloc (.cells #[.int .i64 A1, .int .i64 A2, .bool A3, .bool A4, .int .i64 A5] 47)) (w.heap.size + 1) [.slice sa r.length sc] := by
        refine Box.alloc ?_ _
        repeat (first | exact hbx.out | refine Box.other ?_ (by simp <;> omega) _)
      have hs5 : ∃ v, ((((((wr.setCell ⟨w.heap.size + 1 + 1, k * 5, none⟩ (.int .i64 A1)).setCell ⟨w.heap.size + 1 + 1, k * 5 + 1, none⟩ (.int .i64 A2)).setCell ⟨w.heap.size + 1 + 1, k * 5 + 2, none⟩ (.bool A3)).setCell ⟨w.heap.size + 1 + 1, k * 5 + 3, none⟩ (.bool A4)).setCell ⟨w.heap.size + 1 + 1, k * 5 + 4, none⟩ (.int .i64 0)).alloc (.cells #[.int .i64 A1, .int .i64 A2, .bool A3, .bool A4, .int .i64 A5] 47)).cell? ⟨w.heap.size + 1 + 1, k * 5 + 4, none⟩ = some v ∧ ((((((wr.setCell ⟨w.heap.size + 1 + 1, k * 5, none⟩ (.int .i64 A1)).setCell ⟨w.heap.size + 1 + 1, k * 5 + 1, none⟩ (.int .i64 A2)).setCell ⟨w.heap.size + 1 + 1, k * 5 + 2, none⟩ (.bool A3)).setCell ⟨w.heap.size + 1 + 1, k * 5 + 3, none⟩ (.bool A4)).setCell ⟨w.heap.size + 1 + 1, k * 5 + 4, none⟩ (.int .i64 0)).alloc (.cells #[.int .i64 A1, .int .i64 A2, .bool A3, .bool A4, .int .i64 A5] 47)).frozen? ⟨w.heap.size + 1 + 1, k * 5 + 4, none⟩ = false := by
        have h := (((((((hrow.out.1.set (k * 5) (.int .i64 A1)).set (k * 5 + 1) (.int .i64 A2)).set (k * 5 + 2) (.bool A3)).set (k * 5 + 3) (.bool A4)).set (k * 5 + 4) (.int .i64 0)).below (B := wr.heap.size) (w' := (((((wr.setCell ⟨w.heap.size + 1 + 1, k * 5, none⟩ (.int .i64 A1)).setCell ⟨w.heap.size + 1 + 1, k * 5 + 1, none⟩ (.int .i64 A2)).setCell ⟨w.heap.size + 1 + 1, k * 5 + 2, none⟩ (.bool A3)).setCell ⟨w.heap.size + 1 + 1, k * 5 + 3, none⟩ (.bool A4)).setCell ⟨w.heap.size + 1 + 1, k * 5 + 4, none⟩ (.int .i64 0)).alloc (.cells #[.int .i64 A1, .int .i64 A2, .bool A3, .bool A4, .int .i64 A5] 47)) (by simpa [World.setCell] using (Below.refl (((((wr.setCell ⟨w.heap.size + 1 + 1, k * 5, none⟩ (.int .i64 A1)).setCell ⟨w.heap.size + 1 + 1, k * 5 + 1, none⟩ (.int .i64 A2)).setCell ⟨w.heap.size + 1 + 1, k * 5 + 2, none⟩ (.bool A3)).setCell ⟨w.heap.size + 1 + 1, k * 5 + 3, none⟩ (.bool A4)).setCell ⟨w.heap.size + 1 + 1, k * 5 + 4, none⟩ (.int .i64 0)).heap.size (((((wr.setCell ⟨w.heap.size + 1 + 1, k * 5, none⟩ (.int .i64 A1)).setCell ⟨w.heap.size + 1 + 1, k * 5 + 1, none⟩ (.int .i64 A2)).setCell ⟨w.heap.size + 1 + 1, k * 5 + 2, none⟩ (.bool A3)).setCell ⟨w.heap.size + 1 + 1, k * 5 + 3, none⟩ (.bool A4)).setCell ⟨w.heap.size + 1 + 1, k * 5 + 4, none⟩ (.int .i64 0))).alloc (Nat.le_refl _) _) hzz)).2 (k * 5 + 4) (by omega)
        exact ⟨h.1.choose, h.1.choose_spec, h.2⟩
      go_upto_region 6 with fail
      generalize (((((wr.setCell ⟨w.heap.size + 1 + 1, k * 5, none⟩ (.int .i64 A1)).setCell ⟨w.heap.size + 1 + 1, k * 5 + 1, none⟩ (.int .i64 A2)).setCell ⟨w.heap.size + 1 + 1, k * 5 + 2, none⟩ (.bool A3)).setCell ⟨w.heap.size + 1 + 1, k * 5 + 3, none⟩ (.bool A4)).setCell ⟨w.heap.size + 1 + 1, k * 5 + 4, none⟩ (.int .i64 0)).alloc (.cells #[.int .i64 A1, .int .i64 A2, .bool A3, .bool A4, .int .i64 A5] 47) = wq at Hp5 Hp6 hB5 hf5 hx5 hs5 ⊢
      clear s0 t0 t1 t2 t3 t4 f0 f1 f2 f3 f4 c0 c1 c2 c3 c4
      obtain ⟨s0, _⟩ := hx5.one
      have Hx5 := Lib.hid hx5
      obtain ⟨⟨c0, c1, c2, c3, c4⟩, _⟩ := Box.five hf5
      have hzq : w.heap.size + 1 + 1 < wq.heap.size := Nat.lt_trans hzz hf5.1
      clear hf5 hx5
      by_cases h8 : A2 = 8
      · subst h8
        obtain ⟨M, hM, rfl⟩ := Hm.out rfl
        have hMi : (M : Int) < (r.length : Int) := by omega
        obtain ⟨rb, ro, rc, rv, rbS, rcs⟩ := HV.out.cells (by omega)
        obtain ⟨rfl, rfl⟩ : sa = some ⟨rb, ro, none⟩ ∧ sc = rc := by injection rv with e1 e2 e3; exact ⟨e1, e3⟩
        have rbC := HS.out _ rbS
        obtain ⟨y, e0, _, _⟩ := rcs M hM
        rw [← hB5.cell (p := ⟨rb, _, none⟩) rbC] at e0
        have Hb : Hid (backF r (A1, 8, A3, A4, (M : Int)) = (A1, 8, A3, A4, r[M].1)) := Lib.hid (by
          unfold backF
          simp only
          rw [if_pos trivial, Int.toNat_natCast, List.getD, List.getElem?_eq_getElem hM]; rfl)
        clear rv rcs rbS
        have Hput := Lib.hid (Hp6.out r[M].1 (He.out.trans Hb.out))
        generalize r[M].1 = z at e0 Hput
        obtain ⟨v5, g0, g1⟩ := hs5
        go_wp2_with fail
        go_roundw
        case rel => exact ⟨k + 1, by omega, by go_num, Hput, Lib.hid (Hx5.out.other (by simp) _), hB5.setCell (by simp; omega) _⟩
        case measure => simp [intOf]; omega
      · have hb8 : (A2 == 8) = false := neS h8
        have Hb : Hid (backF r (A1, A2, A3, A4, A5) = (A1, A2, A3, A4, 0)) := Lib.hid (by
          unfold backF
          simp only
          rw [if_neg h8])
        have Hput := Lib.hid (Hp5.out (He.out.trans Hb.out))
        clear h8 hs5
        go_wp2_with fail
        go_roundw
        case rel => exact ⟨k + 1, by omega, by go_num, Hput, Hx5, hB5⟩
        case measure => simp [intOf]; omega
    · have hge : (l.length : Int) ≤ (k : Int) := by omega
      have hend : decide (k < l.length) = false := decide_eq_false hlt
      obtain rfl : k = l.length := by omega
      have hrow2 : FRow wr (w.heap.size + 1 + 1) (l.map (backF r)).length (l.map (backF r)).length (l.map (backF r)) := by rw [hLen.out]; exact hrow.out
      have hd := hrow2.done l.length (by rw [hLen.out]; omega)
      rw [hLen.out] at hd
      have Hd := Lib.hid hd
      clear hd hrow2
      go_wp2_with fail
      go_ret
      exact ⟨_, _, rfl, by omega, Hd.out, hrow.out.1, hbr⟩
set_option maxHeartbeats 4000000 in
set_option maxRecDepth 100000 in
/-- The program's RawFrom. -/
theorem implRawFrom_in (v : Value) (r : List RM) (w : World) (S : Nat → Prop) (hS : ∀ b, S b → b < w.heap.size) (h : RawAt w S v r) (hr : Small r) :
    Calls Tryz.prog 17 #[v] w fun e w' => ∃ u ms, plain ms = rawFromR r ∧ e = .returned (.agg #[u]) ∧ OwnIn w' w.heap.size w'.heap.size u ms ∧ Below w.heap.size w w' := by
  obtain ⟨i0, hi, hz0, hz1, hz2⟩ := info_parts infoM
  have Hsm := Lib.hid hr
  have HS := Lib.hid hS
  obtain ⟨u, rfl, hu⟩ := h
  obtain ⟨a, cap, rfl⟩ := hu.len
  have H := Lib.hid hu
  have Hr := Lib.hid hr.2
  have hr1 := hr.1
  clear hu hr hS
  have hb2 : Below w.heap.size w ((w.alloc (.cells #[.slice a r.length cap] 30)).alloc (.cells #[.slice none 0 0] 26)) := ((Below.refl _ _).alloc (Nat.le_refl _) _).alloc (by simp) _
  have hs2 : Box ((w.alloc (.cells #[.slice a r.length cap] 30)).alloc (.cells #[.slice none 0 0] 26)) w.heap.size [.slice a r.length cap] := (Box.fresh _ _ _).alloc _
  have hx2 : Box ((w.alloc (.cells #[.slice a r.length cap] 30)).alloc (.cells #[.slice none 0 0] 26)) (w.heap.size + 1) [.slice none 0 0] := Box.freshB
  go_enter Tryz.func17, Tryz.ntmps17
  go_wp2_with fail
  generalize (w.alloc (.cells #[.slice a r.length cap] 30)).alloc (.cells #[.slice none 0 0] 26) = w2 at hb2 hs2 hx2 ⊢
  obtain ⟨G, hG⟩ : ∃ G, schemaB r = G := ⟨_, rfl⟩
  refine (implSchemaOk_in _ r _ S (fun b h => Nat.lt_of_lt_of_le (HS.out b h) hb2.size) ((show RawAt w S _ r from ⟨_, rfl, H.out⟩).keep (.of_below hb2 HS.out) fun _ h => h) Hsm.out).mono ?_
  rw [hG]
  rintro e w4 ⟨rfl, hb4⟩
  have HS4 := Lib.hid (hs2.below hb4 hs2.1)
  have HX4 := Lib.hid (hx2.below hb4 hx2.1)
  have hl4 := hb2.trans (hb4.mono hb2.size)
  have hz4 : w.heap.size + 1 < w4.heap.size := HX4.out.1
  clear hb2 hs2 hx2 hb4
  obtain ⟨s0, _⟩ := HS4.out.one
  obtain ⟨x0, xf0⟩ := HX4.out.one
  cases G with
  | false =>
    have He : Hid (rawFromR r = []) := Lib.hid (by unfold rawFromR; rw [hG]; rfl)
    have hx5 := HX4.out.set 0 (.slice none 0 0)
    have y0 : (w4.setCell ⟨w.heap.size + 1, 0, none⟩ (.slice none 0 0)).cell? ⟨w.heap.size + 1, 0, none⟩ = some (.slice none 0 0) := (hx5.2 0 (by simp)).1
    go_wp2_with fail
    refine bodyPost_ret (v := .agg #[.slice none 0 0]) (by simp [results, Tryz.results17, go_sem, y0]) rfl ?_
    exact ⟨_, [], by rw [He.out]; rfl, rfl, ⟨fun b hb => (by cases hb), fun j hj => (by simp at hj), .inl ⟨rfl, _, _, rfl⟩, .inl ⟨rfl, rfl⟩⟩, hl4.setCell (by simp) _⟩
  | true =>
    have HP := Lib.hid (schemaB_of hG)
    have He : Hid (rawFromR r = r.map (backM r)) := Lib.hid (by unfold rawFromR; rw [hG]; rfl)
    have h66 := HP.out.1
    have hLen : Hid ((r.map (backM r)).length = r.length) := Lib.hid (by simp)
    clear hG
    go_wp2_with (refine wpList_make_full _ rfl _ _ 24 rfl w4.heap.size 40 i0 _ 2 Tryz.underlying24 hi hz0 hz1 .i64 .i64 _ _ r.length rfl rfl rfl rfl (by rw [hz2]; omega) (by unfold maxLen; omega) (Nat.le_refl _) ?_; intro w5 hown hgr; have hs5 := Box.grown hgr HS4.out (fun k hk => by cases hk); obtain ⟨s5, _⟩ := hs5.one)
    have hrow : MRow w5 w4.heap.size r.length 0 (r.map (backM r)) := MRow.start hown
    have HX5 := Lib.hid (Box.grown hgr HX4.out (fun k hk => by cases hk))
    have HS5 := Lib.hid hs5
    have hl5 := hl4.grown hgr hl4.size (fun k hk => by cases hk)
    clear hown hgr hi hz0 hz1 hz2 hs5 HS4 HX4 x0 xf0 s0 hl4
    generalize w4.heap.size = gm at hrow hz4 ⊢
    go_loopw [17] (fun i wr => ∃ k : Nat, k ≤ r.length ∧ i = .int .i64 k ∧ Hid (MRow wr gm r.length k (r.map (backM r))) ∧ Hid (∃ ms, plain ms = (r.map (backM r)).take k ∧ Laid wr gm ms) ∧ Hid (Box wr w.heap.size [.slice a r.length cap]) ∧ Hid (Box wr (w.heap.size + 1) [.slice none 0 0]) ∧ Below w.heap.size w wr) (fun i _ => r.length - (intOf i).toNat)
    case atStart => exact ⟨0, by omega, rfl, Lib.hid hrow, Lib.hid ⟨[], by simp [plain], Laid.start _ _⟩, HS5, HX5, hl5⟩
    case round =>
      clear hrow HS5 HX5 hl5 s5
      obtain ⟨k, hk, rfl, hrow, hms, HBs, HBx, hbr⟩ := hrel
      obtain ⟨s0, _⟩ := HBs.out.one
      have hgz : gm < wr.heap.size := hrow.out.1.1
      have hsz : w.heap.size < wr.heap.size := HBs.out.1
      by_cases hlt : k < r.length
      · have hlti : (k : Int) < (r.length : Int) := by omega
        obtain ⟨b, o, c, hv, hbS, hcs⟩ := H.out.cells (by omega)
        obtain ⟨rfl, rfl⟩ : a = some ⟨b, o, none⟩ ∧ cap = c := by injection hv with e1 e2 e3; exact ⟨e1, e3⟩
        obtain ⟨x, d0, d1, hx⟩ := hcs k hlt
        obtain ⟨xa, xc, rfl⟩ := hx.len
        have hbC := HS.out _ hbS
        have hbw : b < wr.heap.size := Nat.lt_of_lt_of_le hbC hbr.size
        have Hx := Lib.hid hx
        have Hgood := Lib.hid (HP.out.2 k hlt)
        have hkL : k < (r.map (backM r)).length := by rw [hLen.out]; exact hlt
        have HkL := Lib.hid hkL
        have Hel : Hid ((r.map (backM r))[k] = backM r r[k]) := Lib.hid (List.getElem_map ..)
        clear hcs hv hbS hx hkL
        rw [← hbr.cell (p := ⟨b, _, none⟩) hbC] at d0 d1
        generalize r[k] = m at d0 d1 Hx Hgood Hel
        obtain ⟨id, fs⟩ := m
        simp only at d0 d1 Hx Hgood
        have hf8 : fs.length ≤ 8 := Hgood.out.2.2.1
        have Hok : Hid (∀ q (hq : q < fs.length), fs[q].2.1 = 8 → ∃ M : Nat, M < r.length ∧ fs[q].2.2.2.2 = (M : Int)) := Lib.hid fun q hq h8 => by
          have h := (Hgood.out.2.2.2 q hq).1
          rw [fieldOk_is] at h
          simp only [Bool.and_eq_true] at h
          have ht := h.2.2.2
          unfold targB at ht
          rw [if_pos h8] at ht
          have h' := of_decide_eq_true ht
          exact ⟨fs[q].2.2.2.2.toNat, by omega, by omega⟩
        have hb6 : Below wr.heap.size wr (wr.alloc (.cells #[.int .i64 id, .slice xa fs.length xc] 43)) := (Below.refl _ _).alloc (Nat.le_refl _) _
        have hm6 := Box.fresh wr #[.int .i64 id, .slice xa fs.length xc] 43
        have hs6 := HBs.out.alloc (.cells #[.int .i64 id, .slice xa fs.length xc] 43)
        have hl6 : Below w.heap.size w (wr.alloc (.cells #[.int .i64 id, .slice xa fs.length xc] 43)) := hbr.trans (hb6.mono hbr.size)
        go_upto_region 7 with fail
        generalize wr.alloc (.cells #[.int .i64 id, .slice xa fs.length xc] 43) = wq at hb6 hm6 hs6 hl6 ⊢
        have Hcall := Lib.hid (rawFieldsFrom_any id (.slice xa fs.length xc) (.agg #[.slice (some ⟨b, o, none⟩) r.length cap]) fs r wq.drew S (fun b h => Nat.lt_of_lt_of_le (HS.out b h) hl6.drew.size) (Hx.out.keep (.of_below hl6.drew HS.out) fun _ h => h) ((show RawAt w S _ r from ⟨_, rfl, H.out⟩).keep (.of_below hl6.drew HS.out) fun _ h => h) hf8 h66 Hok.out)
        have hm6z := hm6.1
        have hs6z := hs6.1
        have hgq : gm < wq.heap.size := Nat.lt_of_lt_of_le hgz hb6.size
        have Hm6 := Lib.hid hm6
        have Hs6 := Lib.hid hs6
        obtain ⟨m0, m1, _⟩ := hm6.two
        obtain ⟨s6, _⟩ := hs6.one
        clear hm6 hs6 d0 d1 s0
        go_region_held3 (fun w' => w'.cell? ⟨wr.heap.size, 0, none⟩ = some (.int .i64 id) ∧ w'.cell? ⟨wr.heap.size, 1, none⟩ = some (.slice xa fs.length xc) ∧ w'.cell? ⟨w.heap.size, 0, none⟩ = some (.slice (some ⟨b, o, none⟩) r.length cap))
          (first | exact ⟨m0, m1, s6⟩ | exact ⟨n0, n1, s8⟩ | (refine ⟨?_, ?_, ?_⟩ <;> (rw [World.cell?_setCell_other _ _ _ _ (by intro e; injection e with e _; omega), World.cell?_setCell_other _ _ _ _ (by intro e; injection e with e _; omega)]; assumption)))
          (first | (go_at_call 47; refine Hcall.out.mono ?_; rintro e w8 ⟨g, c8, rfl, hg8, hfa8, hfi8, hb8⟩; have hb9 := undrewI hb8; have hm8 := Hm6.out.below hb9 hm6z; obtain ⟨n0, n1, _⟩ := hm8.two; have hs8 := Hs6.out.below hb9 hs6z; obtain ⟨s8, _⟩ := hs8.one; have hr8 := hrow.out.below (hb6.trans (hb9.mono hb6.size)); obtain ⟨p0, p1, q0, q1, f0, f1⟩ := hr8.1.slots2 hlt))
        all_goals
          have hb10 := hb6.trans (hb9.mono hb6.size)
          have hF : (fs.map (backF r)).length = fs.length := List.length_map ..
          have hfi : Fill w8 g ((fs.map (backF r)).length * 5) := by rw [hF]; exact hfi8
          have hfm : FieldsAt w8 (fun b => gm < b ∧ b < w8.heap.size) (.slice (some ⟨g, 0, none⟩) fs.length c8) ((r.map (backM r))[k]'HkL.out).2 :=
            (congrArg (fun z : RM => FieldsAt w8 (fun b => gm < b ∧ b < w8.heap.size) (.slice (some ⟨g, 0, none⟩) fs.length c8) z.2) Hel.out).mpr
              (hfa8.keep (fun _ _ _ => rfl) fun b hb => ⟨by have e : b = g := hb; have : wq.heap.size ≤ g := hg8; omega, by have e : b = g := hb; rw [e]; exact hfi8.1⟩)
          have Hput : Hid (MRow ((w8.setCell ⟨gm, k * 2, none⟩ (.int .i64 id)).setCell ⟨gm, k * 2 + 1, none⟩ (.slice (some ⟨g, 0, none⟩) fs.length c8)) gm r.length (k + 1) (r.map (backM r))) := Lib.hid (by
            have h := hr8.put hlt HkL.out hfm
            exact (congrArg (fun z : RM => MRow ((w8.setCell ⟨gm, k * 2, none⟩ (.int .i64 z.1)).setCell ⟨gm, k * 2 + 1, none⟩ (.slice (some ⟨g, 0, none⟩) fs.length c8)) gm r.length (k + 1) (r.map (backM r))) Hel.out).mp h)
          have Hms : Hid (∃ ms, plain ms = (r.map (backM r)).take (k + 1) ∧ Laid ((w8.setCell ⟨gm, k * 2, none⟩ (.int .i64 id)).setCell ⟨gm, k * 2 + 1, none⟩ (.slice (some ⟨g, 0, none⟩) fs.length c8)) gm ms) := by
            obtain ⟨ms, hp, hL⟩ := hms.out
            refine Lib.hid ⟨ms ++ [(id, .slice (some ⟨g, 0, none⟩) fs.length c8, fs.map (backF r))], ?_, ?_⟩
            · have h := plain_snoc hp HkL.out (.slice (some ⟨g, 0, none⟩) fs.length c8)
              exact (congrArg (fun z : RM => plain (ms ++ [(z.1, .slice (some ⟨g, 0, none⟩) fs.length c8, z.2)]) = (r.map (backM r)).take (k + 1)) Hel.out).mp h
            · have h := hL.push (id := id) (fs := fs.map (backF r)) (a := .int .i64 id) (cap := c8) (plain_len hp (by rw [hLen.out]; omega)) hb10 hgz (by have : wq.heap.size ≤ g := hg8; exact Nat.le_trans hb6.size this) hfi8.1 hfi ⟨_, q1⟩
              rw [hF] at h
              exact h
          have HS8 := Lib.hid (hs8.other (a := ⟨gm, k * 2, none⟩) (by simp; omega) (.int .i64 id) |>.other (a := ⟨gm, k * 2 + 1, none⟩) (by simp; omega) (.slice (some ⟨g, 0, none⟩) fs.length c8))
          have HX8 := Lib.hid (((HBx.out.below hb10 HBx.out.1).other (a := ⟨gm, k * 2, none⟩) (by simp; omega) (.int .i64 id)).other (a := ⟨gm, k * 2 + 1, none⟩) (by simp; omega) (.slice (some ⟨g, 0, none⟩) fs.length c8))
          have hl9 := hl6.trans (hb9.mono hl6.size)
          clear hfi hfm hF hms hrow hm8 hs8 hr8 n0 n1 s8 hfa8 hfi8 hb8 hb9 hb10 q0 q1 f0 f1
          go_wp2_with fail
          go_roundw
          case rel => exact ⟨k + 1, by omega, by go_num, Hput, Hms, HS8, HX8, (hl9.setCell (by simp; omega) _).setCell (by simp; omega) _⟩
          case measure => simp [intOf]; omega
      · have hge : (r.length : Int) ≤ (k : Int) := by omega
        have hend : decide (k < r.length) = false := decide_eq_false hlt
        obtain rfl : k = r.length := by omega
        have hx5 := HBx.out.set 0 (.slice (some ⟨gm, 0, none⟩) r.length r.length)
        have y0 : (wr.setCell ⟨w.heap.size + 1, 0, none⟩ (.slice (some ⟨gm, 0, none⟩) r.length r.length)).cell? ⟨w.heap.size + 1, 0, none⟩ = some (.slice (some ⟨gm, 0, none⟩) r.length r.length) := (hx5.2 0 (by simp)).1
        obtain ⟨x0, xf0⟩ := HBx.out.one
        go_wp2_with fail
        refine bodyPost_ret (v := .agg #[.slice (some ⟨gm, 0, none⟩) r.length r.length]) (by simp [results, Tryz.results17, go_sem, y0]) rfl ?_
        obtain ⟨ms, hp, hL⟩ := hms.out
        have hn : ms.length = r.length := plain_len hp (by rw [hLen.out]; omega)
        rw [show (r.map (backM r)).take r.length = r.map (backM r) from List.take_of_length_le (by rw [hLen.out]; omega)] at hp
        refine ⟨_, ms, by rw [He.out, hp], rfl, ?_, hbr.setCell (by simp) _⟩
        have hrow2 : MRow wr gm (r.map (backM r)).length (r.map (backM r)).length (r.map (backM r)) := by rw [hLen.out]; exact hrow.out
        have h1 := hrow2.done r.length (by rw [hLen.out]; omega)
        have h2 := hrow.out.1
        rw [hLen.out, ← hp, ← hn] at h1
        rw [← hn] at h2
        have h3 := hL.done h2 h1
        rw [hn] at h3
        exact (h3.off (p := ⟨w.heap.size + 1, 0, none⟩) (by simp; omega) (Nat.le_refl _) _).wide (by omega) (by simp [World.setCell])
theorem implRawFrom_any (v : Value) (r : List RM) (w : World) (h : RawAt w (· < w.heap.size) v r) (hr : Small r) :
    Calls Tryz.prog 17 #[v] w fun e w' => ∃ u ms, plain ms = rawFromR r ∧ e = .returned (.agg #[u]) ∧ OwnIn w' w.heap.size w'.heap.size u ms ∧ Below w.heap.size w w' :=
  implRawFrom_in v r w _ (fun _ h => h) h hr
end Go.Proofs.YthjnpipincpkgaaGreatDoor.Num
