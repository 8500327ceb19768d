/-
  Several texts in one: EventI SmallI RunsI SchemaImpl PlanI TermI KindWire ShapeImpl EventW.
-/
import Derived.Test.YtpkofbdfnbpfpaaGreatXSpecA
import Derived.Test.YtpkofbdfnbpfpaaGreatKind
import Derived.LoopTactic
import Derived.Test.YtpkofbdfnbpfpaaGreatXSpecB

/-
  The program's events, each made by its kind's method: what the seven fields hold. (The kinds that a message tells of.)
-/
namespace Go.Proofs.YtpkofbdfnbpfpaaGreat.Num
open Go.RowKit Go.Proofs
set_option linter.unusedVariables false
theorem numKind_any (f : Int) (b : Int) (w : World) : Calls Tryz.prog 189 #[.agg #[.int .i64 f, .int .u64 b]] w fun x w' => x = .returned (.agg #[.int .i64 2, .int .i64 f, .int .u64 b, .int .i64 0, .string ⟨#[]⟩, .int .i64 0, .int .i64 0]) ∧ Below w.heap.size w w' := by
  go_enter Tryz.func189, Tryz.ntmps189
  go_wp2_with fail
  refine bodyPost_ret (v := .agg #[.int .i64 2, .int .i64 f, .int .u64 b, .int .i64 0, .string ⟨#[]⟩, .int .i64 0, .int .i64 0]) (by simp [results, Tryz.results189, go_sem]) rfl ⟨rfl, ?_⟩
  repeat (first | with_reducible exact Below.refl _ _ | refine Below.setCell ?_ (by simp) _ | refine Below.alloc ?_ (by first | omega | (simp <;> omega)) _)
theorem failKind_any (c a : Int) (w : World) : Calls Tryz.prog 135 #[.agg #[.int .i64 c, .int .i64 a]] w fun x w' => x = .returned (.agg #[.int .i64 10, .int .i64 0, .int .u64 0, .int .i64 0, .string ⟨#[]⟩, .int .i64 c, .int .i64 a]) ∧ Below w.heap.size w w' := by
  go_enter Tryz.func135, Tryz.ntmps135
  go_wp2_with fail
  refine bodyPost_ret (v := .agg #[.int .i64 10, .int .i64 0, .int .u64 0, .int .i64 0, .string ⟨#[]⟩, .int .i64 c, .int .i64 a]) (by simp [results, Tryz.results135, go_sem]) rfl ⟨rfl, ?_⟩
  repeat (first | with_reducible exact Below.refl _ _ | refine Below.setCell ?_ (by simp) _ | refine Below.alloc ?_ (by first | omega | (simp <;> omega)) _)
theorem openKind_any (f l : Int) (w : World) : Calls Tryz.prog 226 #[.agg #[.int .i64 f, .int .i64 l]] w fun x w' => x = .returned (.agg #[.int .i64 3, .int .i64 f, .int .u64 0, .int .i64 l, .string ⟨#[]⟩, .int .i64 0, .int .i64 0]) ∧ Below w.heap.size w w' := by
  go_enter Tryz.func226, Tryz.ntmps226
  go_wp2_with fail
  refine bodyPost_ret (v := .agg #[.int .i64 3, .int .i64 f, .int .u64 0, .int .i64 l, .string ⟨#[]⟩, .int .i64 0, .int .i64 0]) (by simp [results, Tryz.results226, go_sem]) rfl ⟨rfl, ?_⟩
  repeat (first | with_reducible exact Below.refl _ _ | refine Below.setCell ?_ (by simp) _ | refine Below.alloc ?_ (by first | omega | (simp <;> omega)) _)
theorem downKind_any (f l : Int) (w : World) : Calls Tryz.prog 224 #[.agg #[.int .i64 f, .int .i64 l]] w fun x w' => x = .returned (.agg #[.int .i64 6, .int .i64 f, .int .u64 0, .int .i64 l, .string ⟨#[]⟩, .int .i64 0, .int .i64 0]) ∧ Below w.heap.size w w' := by
  go_enter Tryz.func224, Tryz.ntmps224
  go_wp2_with fail
  refine bodyPost_ret (v := .agg #[.int .i64 6, .int .i64 f, .int .u64 0, .int .i64 l, .string ⟨#[]⟩, .int .i64 0, .int .i64 0]) (by simp [results, Tryz.results224, go_sem]) rfl ⟨rfl, ?_⟩
  repeat (first | with_reducible exact Below.refl _ _ | refine Below.setCell ?_ (by simp) _ | refine Below.alloc ?_ (by first | omega | (simp <;> omega)) _)
theorem partKind_any (t : ByteArray) (w : World) : Calls Tryz.prog 227 #[.agg #[.string t]] w fun x w' => x = .returned (.agg #[.int .i64 4, .int .i64 0, .int .u64 0, .int .i64 0, .string t, .int .i64 0, .int .i64 0]) ∧ Below w.heap.size w w' := by
  go_enter Tryz.func227, Tryz.ntmps227
  go_wp2_with fail
  refine bodyPost_ret (v := .agg #[.int .i64 4, .int .i64 0, .int .u64 0, .int .i64 0, .string t, .int .i64 0, .int .i64 0]) (by simp [results, Tryz.results227, go_sem]) rfl ⟨rfl, ?_⟩
  repeat (first | with_reducible exact Below.refl _ _ | refine Below.setCell ?_ (by simp) _ | refine Below.alloc ?_ (by first | omega | (simp <;> omega)) _)
theorem shutKind_any (w : World) : Calls Tryz.prog 228 #[.agg #[]] w fun x w' => x = .returned (.agg #[.int .i64 5, .int .i64 0, .int .u64 0, .int .i64 0, .string ⟨#[]⟩, .int .i64 0, .int .i64 0]) ∧ Below w.heap.size w w' := by
  go_enter Tryz.func228, Tryz.ntmps228
  go_wp2_with fail
  refine bodyPost_ret (v := .agg #[.int .i64 5, .int .i64 0, .int .u64 0, .int .i64 0, .string ⟨#[]⟩, .int .i64 0, .int .i64 0]) (by simp [results, Tryz.results228, go_sem]) rfl ⟨rfl, ?_⟩
  repeat (first | with_reducible exact Below.refl _ _ | refine Below.setCell ?_ (by simp) _ | refine Below.alloc ?_ (by first | omega | (simp <;> omega)) _)
theorem upKind_any (w : World) : Calls Tryz.prog 225 #[.agg #[]] w fun x w' => x = .returned (.agg #[.int .i64 7, .int .i64 0, .int .u64 0, .int .i64 0, .string ⟨#[]⟩, .int .i64 0, .int .i64 0]) ∧ Below w.heap.size w w' := by
  go_enter Tryz.func225, Tryz.ntmps225
  go_wp2_with fail
  refine bodyPost_ret (v := .agg #[.int .i64 7, .int .i64 0, .int .u64 0, .int .i64 0, .string ⟨#[]⟩, .int .i64 0, .int .i64 0]) (by simp [results, Tryz.results225, go_sem]) rfl ⟨rfl, ?_⟩
  repeat (first | with_reducible exact Below.refl _ _ | refine Below.setCell ?_ (by simp) _ | refine Below.alloc ?_ (by first | omega | (simp <;> omega)) _)
end Go.Proofs.YtpkofbdfnbpfpaaGreat.Num


/-
  The walks of the program's isIndex, kindOk and Numeric; nothing is written.
-/
namespace Go.Proofs.YtpkofbdfnbpfpaaGreat.Num
open Go.RowKit Go.Proofs
set_option linter.unusedVariables false
set_option linter.unusedSimpArgs false

theorem isIndex_yes (x n : Int) (w : World) (h : 0 ≤ x ∧ x < n) : Calls Tryz.prog 62 #[.int .i64 x, .int .i64 n] w fun e w' => e = .returned (.bool true) ∧ w = w' := by
  obtain ⟨h1, h2⟩ := h
  go_enter Tryz.func62, Tryz.ntmps62
  go_wp2_with fail
  go_ret
  exact ⟨rfl, rfl⟩
theorem isIndex_no (x n : Int) (w : World) (h : ¬ (0 ≤ x ∧ x < n)) : Calls Tryz.prog 62 #[.int .i64 x, .int .i64 n] w fun e w' => e = .returned (.bool false) ∧ w = w' := by
  by_cases h1 : 0 ≤ x
  · have h2 : decide (x < n) = false := decide_eq_false (by omega)
    clear h
    go_enter Tryz.func62, Tryz.ntmps62
    go_wp2_with fail
    go_ret
    exact ⟨rfl, rfl⟩
  · have h2 : decide (0 ≤ x) = false := decide_eq_false h1
    clear h h1
    go_enter Tryz.func62, Tryz.ntmps62
    go_wp2_with fail
    go_ret
    exact ⟨rfl, rfl⟩
theorem kindOk_yes (k : Int) (w : World) (h : 1 ≤ k ∧ k ≤ 8) : Calls Tryz.prog 173 #[.int .i64 k] w fun e w' => e = .returned (.bool true) ∧ w = w' := by
  obtain ⟨h1, h2⟩ := h
  go_enter Tryz.func173, Tryz.ntmps173
  go_wp2_with fail
  go_ret
  exact ⟨rfl, rfl⟩
theorem kindOk_no (k : Int) (w : World) (h : ¬ (1 ≤ k ∧ k ≤ 8)) : Calls Tryz.prog 173 #[.int .i64 k] w fun e w' => e = .returned (.bool false) ∧ w = w' := by
  by_cases h1 : 1 ≤ k
  · have h2 : decide (k ≤ 8) = false := decide_eq_false (by omega)
    clear h
    go_enter Tryz.func173, Tryz.ntmps173
    go_wp2_with fail
    go_ret
    exact ⟨rfl, rfl⟩
  · have h2 : decide (1 ≤ k) = false := decide_eq_false h1
    clear h h1
    go_enter Tryz.func173, Tryz.ntmps173
    go_wp2_with fail
    go_ret
    exact ⟨rfl, rfl⟩
theorem iNumeric_any (k : Int) (w : World) : Calls Tryz.prog 166 #[.int .i64 k] w fun e w' => e = .returned (.bool (numericB k)) ∧ w = w' := by
  have He : Hid (numericB k = decide (1 ≤ k ∧ k ≤ 5)) := Lib.hid rfl
  by_cases h1 : 1 ≤ k
  · by_cases h2 : k ≤ 5
    · have d1 : decide (1 ≤ k) = true := decide_eq_true h1
      have d2 : decide (k ≤ 5) = true := decide_eq_true h2
      have e : numericB k = true := by rw [He.out]; exact decide_eq_true ⟨h1, h2⟩
      rw [e]
      clear e h1 h2
      go_enter Tryz.func166, Tryz.ntmps166
      go_wp2_with fail
      go_ret
      exact ⟨rfl, rfl⟩
    · have d1 : decide (1 ≤ k) = true := decide_eq_true h1
      have d2 : decide (k ≤ 5) = false := decide_eq_false h2
      have e : numericB k = false := by rw [He.out]; exact decide_eq_false (by omega)
      rw [e]
      clear e h1 h2
      go_enter Tryz.func166, Tryz.ntmps166
      go_wp2_with fail
      go_ret
      exact ⟨rfl, rfl⟩
  · have d1 : decide (1 ≤ k) = false := decide_eq_false h1
    have e : numericB k = false := by rw [He.out]; exact decide_eq_false (by omega)
    rw [e]
    clear e h1
    go_enter Tryz.func166, Tryz.ntmps166
    go_wp2_with fail
    go_ret
    exact ⟨rfl, rfl⟩
end Go.Proofs.YtpkofbdfnbpfpaaGreat.Num


/-
  The walk of the program's Runs (split off ShapeImpl).
-/
namespace Go.Proofs.YtpkofbdfnbpfpaaGreat.Num
open Go.RowKit Go.Proofs
set_option linter.unusedVariables false
/-- The program's Runs. -/
theorem implRuns_any (f : RF) (w : World) : Calls Tryz.prog 174 #[fieldV f] w fun e w' => e = .returned (.bool (runsB f)) ∧ Below w.heap.size w w' := by
  obtain ⟨A1, A2, A3, A4, A5⟩ := f
  unfold fieldV runsB
  simp only
  have hl : Below w.heap.size w (w.alloc (.cells #[.int .i64 A1, .int .i64 A2, .bool A3, .bool A4, .int .i64 A5] 117)) := (Below.refl _ _).alloc (Nat.le_refl _) _
  cases A3
  · go_enter Tryz.func174, Tryz.ntmps174
    go_wp2_with fail
    go_ret
    exact ⟨rfl, hl⟩
  · obtain ⟨q, hq⟩ : ∃ q, numericB A2 = q := ⟨_, rfl⟩
    go_enter Tryz.func174, Tryz.ntmps174
    go_wp2_with fail
    refine (iNumeric_any A2 _).mono ?_
    rw [hq]
    rintro e w1 ⟨rfl, rfl⟩
    go_wp2_with fail
    go_ret
    exact ⟨by rw [hq]; rfl, hl⟩
end Go.Proofs.YtpkofbdfnbpfpaaGreat.Num


/-
  The walks of the program's targetOk, fieldOk, fieldsOk and SchemaOk: they give what the plain definitions of the reference's walks tell; only new memory is written.
-/
namespace Go.Proofs.YtpkofbdfnbpfpaaGreat.Num
open Go.RowKit Go.Proofs
set_option linter.unusedVariables false
set_option linter.unusedSimpArgs false

def targB (n : Nat) (f : RF) : Bool := if f.2.1 = 8 then decide (0 ≤ f.2.2.2.2 ∧ f.2.2.2.2 ≤ (n : Int) - 1) else f.2.2.2.2 == -1
theorem targetOk_any (f : RF) (n : Nat) (w : World) (hn : n ≤ 1048576) :
    Calls Tryz.prog 175 #[fieldV f, .int .i64 n] w fun e w' => e = .returned (.bool (targB n f)) ∧ Below w.heap.size w w' := by
  obtain ⟨A1, A2, A3, A4, A5⟩ := f
  unfold fieldV targB
  simp only
  have hl : Below w.heap.size w (w.alloc (.cells #[.int .i64 A1, .int .i64 A2, .bool A3, .bool A4, .int .i64 A5] 117)) := (Below.refl _ _).alloc (Nat.le_refl _) _
  by_cases h8 : A2 = 8
  · subst h8
    rw [if_pos rfl]
    by_cases hin : 0 ≤ A5 ∧ A5 < (n : Int)
    · rw [decide_eq_true (p := 0 ≤ A5 ∧ A5 ≤ (n : Int) - 1) (by omega)]
      have Hin := Lib.hid hin
      clear hin
      go_enter Tryz.func175, Tryz.ntmps175
      go_wp2_with fail
      refine (isIndex_yes _ _ _ Hin.out).mono ?_
      rintro e w1 ⟨rfl, rfl⟩
      go_wp2_with fail
      go_ret
      exact ⟨rfl, hl⟩
    · rw [decide_eq_false (p := 0 ≤ A5 ∧ A5 ≤ (n : Int) - 1) (by omega)]
      have Hin := Lib.hid hin
      clear hin
      go_enter Tryz.func175, Tryz.ntmps175
      go_wp2_with fail
      refine (isIndex_no _ _ _ Hin.out).mono ?_
      rintro e w1 ⟨rfl, rfl⟩
      go_wp2_with fail
      go_ret
      exact ⟨rfl, hl⟩
  · rw [if_neg h8]
    have b8 := neS h8
    obtain ⟨Q, hQ⟩ : ∃ Q, (A5 == -1) = Q := ⟨_, rfl⟩
    rw [hQ]
    clear h8
    go_enter Tryz.func175, Tryz.ntmps175
    go_wp2_with fail
    go_ret
    exact ⟨rfl, hl⟩
theorem fieldOk_is (n : Nat) (f : RF) : fieldOkB n f = (numOkB f.1 && (decide (1 ≤ f.2.1 ∧ f.2.1 ≤ 8) && ((!f.2.2.2.1 || runsB f) && targB n f))) := by
  unfold fieldOkB targB runsB
  obtain ⟨A1, A2, A3, A4, A5⟩ := f
  simp only
  cases numOkB A1
  · simp
  · by_cases h : 1 ≤ A2 ∧ A2 ≤ 8
    · rw [if_neg (by simp), if_neg (by simpa using h), decide_eq_true h]
      cases A3 <;> cases A4 <;> cases numericB A2 <;> simp
    · rw [if_neg (by simp), if_pos h, decide_eq_false h]; simp
set_option maxHeartbeats 2000000 in
theorem implFieldOk_any (f : RF) (n : Nat) (w : World) (hn : n ≤ 1048576) :
    Calls Tryz.prog 146 #[fieldV f, .int .i64 n] w fun e w' => e = .returned (.bool (fieldOkB n f)) ∧ Below w.heap.size w w' := by
  have Hn := Lib.hid (implNumberOk_any f.1)
  have Hr := Lib.hid (implRuns_any f)
  have Ht := Lib.hid (fun w => targetOk_any f n w hn)
  have He := Lib.hid (fieldOk_is n f)
  rw [He.out]
  obtain ⟨A1, A2, A3, A4, A5⟩ := f
  unfold fieldV at Hr Ht ⊢
  simp only at Hn Hr Ht ⊢
  have hl : Below w.heap.size w (w.alloc (.cells #[.int .i64 A1, .int .i64 A2, .bool A3, .bool A4, .int .i64 A5] 117)) := (Below.refl _ _).alloc (Nat.le_refl _) _
  generalize numOkB A1 = Q1 at Hn ⊢
  generalize runsB (A1, A2, A3, A4, A5) = Q3 at Hr ⊢
  generalize targB n (A1, A2, A3, A4, A5) = Q4 at Ht ⊢
  clear He
  have step : ∀ (w1 : World), Below w.heap.size w w1 → Below w.heap.size w w1 := fun _ h => h
  cases Q1 with
  | false =>
    go_enter Tryz.func146, Tryz.ntmps146
    go_wp2_with fail
    refine (Hn.out _).mono ?_
    rintro e w1 ⟨rfl, rfl⟩
    go_wp2_with fail
    go_ret
    exact ⟨rfl, hl⟩
  | true =>
    by_cases hkind : 1 ≤ A2 ∧ A2 ≤ 8
    · rw [decide_eq_true hkind]
      have Hkind := Lib.hid hkind
      clear hkind
      cases A4 with
      | false =>
        go_enter Tryz.func146, Tryz.ntmps146
        go_wp2_with fail
        refine (Hn.out _).mono ?_
        rintro e w1 ⟨rfl, rfl⟩
        go_wp2_with fail
        refine (kindOk_yes A2 _ Hkind.out).mono ?_
        rintro e w1 ⟨rfl, rfl⟩
        go_wp2_with fail
        refine (Ht.out _).mono ?_
        rintro e w2 ⟨rfl, hb2⟩
        have hl2 := hl.trans (hb2.mono hl.size)
        clear hb2
        go_wp2_with fail
        go_ret
        exact ⟨rfl, hl2⟩
      | true =>
        cases Q3 with
        | false =>
          go_enter Tryz.func146, Tryz.ntmps146
          go_wp2_with fail
          refine (Hn.out _).mono ?_
          rintro e w1 ⟨rfl, rfl⟩
          go_wp2_with fail
          refine (kindOk_yes A2 _ Hkind.out).mono ?_
          rintro e w1 ⟨rfl, rfl⟩
          go_wp2_with fail
          refine (Hr.out _).mono ?_
          rintro e w2 ⟨rfl, hb2⟩
          have hl2 := hl.trans (hb2.mono hl.size)
          clear hb2
          go_wp2_with fail
          go_ret
          exact ⟨rfl, hl2⟩
        | true =>
          have hx := Box.fresh w #[.int .i64 A1, .int .i64 A2, .bool A3, .bool true, .int .i64 A5] 117
          go_enter Tryz.func146, Tryz.ntmps146
          go_wp2_with fail
          refine (Hn.out _).mono ?_
          rintro e w1 ⟨rfl, rfl⟩
          go_wp2_with fail
          refine (kindOk_yes A2 _ Hkind.out).mono ?_
          rintro e w1 ⟨rfl, rfl⟩
          go_wp2_with fail
          refine (Hr.out _).mono ?_
          rintro e w2 ⟨rfl, hb2⟩
          have hl2 := hl.trans (hb2.mono hl.size)
          obtain ⟨⟨c0, c1, c2, c3, c4⟩, _⟩ := Box.five (hx.below hb2 hx.1)
          clear hb2
          go_wp2_with fail
          refine (Ht.out _).mono ?_
          rintro e w3 ⟨rfl, hb3⟩
          have hl3 := hl2.trans (hb3.mono hl2.size)
          clear hb3
          go_wp2_with fail
          go_ret
          exact ⟨rfl, hl3⟩
    · rw [decide_eq_false hkind]
      have Hkind := Lib.hid hkind
      clear hkind
      go_enter Tryz.func146, Tryz.ntmps146
      go_wp2_with fail
      refine (Hn.out _).mono ?_
      rintro e w1 ⟨rfl, rfl⟩
      go_wp2_with fail
      refine (kindOk_no A2 _ Hkind.out).mono ?_
      rintro e w1 ⟨rfl, rfl⟩
      go_wp2_with fail
      go_ret
      exact ⟨rfl, hl⟩

def FieldsP (n : Nat) (l : List RF) : Prop := l.length ≤ 8 ∧ ∀ k (hk : k < l.length), fieldGood n l k l[k]
/-- What the loop over the fields keeps in 'last': the number ahead of the k-th field, or 0. -/
def LastF (l : List RF) (k : Nat) (L : Int) : Prop := (k = 0 → L = 0) ∧ ∀ p (hp : p < l.length), p + 1 = k → l[p].1 = L
def LastM (s : List RM) (k : Nat) (L : Int) : Prop := (k = 0 → L = 0) ∧ ∀ p (hp : p < s.length), p + 1 = k → s[p].1 = L
theorem fits_pos {f : RF} {n : Nat} (h : fieldOkB n f = true) : 1 ≤ f.1 := by
  rw [fieldOk_is] at h
  simp only [Bool.and_eq_true] at h
  have := of_decide_eq_true h.1
  exact this.1.1
theorem fieldGood_iff {n : Nat} {l : List RF} {k : Nat} {L : Int} (hk : k < l.length) (hL : LastF l k L) : fieldGood n l k l[k] ↔ (¬ l[k].1 ≤ L ∧ fieldOkB n l[k] = true) := by
  unfold fieldGood
  constructor
  · rintro ⟨h1, h2⟩
    refine ⟨?_, h1⟩
    by_cases h0 : k = 0
    · rw [hL.1 h0]; have := fits_pos h1; omega
    · have := h2 (k - 1) (by omega) (by omega)
      rw [hL.2 (k - 1) (by omega) (by omega)] at this
      omega
  · rintro ⟨h1, h2⟩
    exact ⟨h2, fun p hp hpk => by rw [hL.2 p hp hpk]; omega⟩
theorem shapeGood_iff {s : List RM} {k : Nat} {L : Int} (hk : k < s.length) (hL : LastM s k L) (hL0 : 0 ≤ L) : shapeGood s k s[k] ↔ (¬ s[k].1 ≤ L ∧ ¬ 99 < s[k].1 ∧ FieldsP s.length s[k].2) := by
  unfold shapeGood FieldsP
  constructor
  · rintro ⟨h1, h2, h3, h4⟩
    refine ⟨?_, by omega, h3, h4⟩
    by_cases h0 : k = 0
    · rw [hL.1 h0]; omega
    · have := h2 (k - 1) (by omega) (by omega)
      rw [hL.2 (k - 1) (by omega) (by omega)] at this
      omega
  · rintro ⟨h1, h2, h3, h4⟩
    exact ⟨⟨by omega, by omega⟩, fun p hp hpk => by rw [hL.2 p hp hpk]; omega, h3, h4⟩
theorem LastF.next {l : List RF} {k : Nat} (hk : k < l.length) : LastF l (k + 1) l[k].1 := by
  refine ⟨fun h => by omega, fun p hp h => ?_⟩
  obtain rfl : p = k := by omega
  rfl
theorem LastM.next {s : List RM} {k : Nat} (hk : k < s.length) : LastM s (k + 1) s[k].1 := by
  refine ⟨fun h => by omega, fun p hp h => ?_⟩
  obtain rfl : p = k := by omega
  rfl
set_option maxHeartbeats 4000000 in
theorem fieldsOk_any (v : Value) (l : List RF) (n : Nat) (R : Bool) (w : World) (S : Nat → Prop) (hS : ∀ b, S b → b < w.heap.size) (hv : FieldsAt w S v l) (hl : l.length ≤ 1048576) (hn : n ≤ 1048576) (tell : (FieldsP n l → R = true) ∧ (¬ FieldsP n l → R = false)) :
    Calls Tryz.prog 113 #[v, .int .i64 n] w fun e w' => e = .returned (.bool R) ∧ Below w.heap.size w w' := by
  have Tell := Lib.hid tell
  have HS := Lib.hid hS
  obtain ⟨a, cap, rfl⟩ := hv.len
  have H := Lib.hid hv
  clear tell hS hv
  by_cases h8 : 8 < l.length
  · obtain rfl : R = false := Tell.out.2 fun h => by have := h.1; omega
    have h8i : (8 : Int) < (l.length : Int) := by omega
    go_enter Tryz.func113, Tryz.ntmps113
    go_wp2_with fail
    go_ret
    exact ⟨rfl, Below.refl _ _⟩
  · have h8i : decide ((8 : Int) < (l.length : Int)) = false := decide_eq_false (by omega)
    have h8n : decide (8 < l.length) = false := decide_eq_false h8
    have h88 : l.length ≤ 8 := by omega
    clear h8
    go_enter Tryz.func113, Tryz.ntmps113
    go_wp2_with fail
    go_loopw [5, 13] (fun last i wr => ∃ (k : Nat) (L : Int), k ≤ l.length ∧ i = .int .i64 k ∧ last = .int .i64 L ∧ Hid (LastF l k L) ∧ Hid (∀ j (hj : j < l.length), j < k → fieldGood n l j l[j]) ∧ Below w.heap.size w wr) (fun _ i _ => l.length - (intOf i).toNat)
    case atStart => exact ⟨0, 0, by omega, rfl, rfl, Lib.hid ⟨fun _ => rfl, fun p hp h => by omega⟩, Lib.hid fun j _ hj => by omega, Below.refl _ _⟩
    case round =>
      obtain ⟨k, L, hk, rfl, rfl, hlast, hgood, hbr⟩ := hrel
      by_cases hlt : k < l.length
      · have hlti : (k : Int) < (l.length : Int) := by omega
        obtain ⟨fb, fo, fc, fv, fbS, fcs⟩ := H.out.cells (by omega)
        obtain ⟨rfl, rfl⟩ : a = some ⟨fb, fo, none⟩ ∧ cap = fc := by injection fv with e1 e2 e3; exact ⟨e1, e3⟩
        obtain ⟨x0, x1, x2, x3, x4⟩ := fcs k hlt
        have fbC := HS.out _ fbS
        have hbw : fb < wr.heap.size := Nat.lt_of_lt_of_le fbC hbr.size
        clear fcs fv fbS
        rw [← hbr.cell (p := ⟨fb, _, none⟩) fbC] at x0 x1 x2 x3 x4
        have Hiff := Lib.hid (fieldGood_iff (n := n) hlt hlast.out)
        have Hbad : Hid (¬ fieldGood n l k l[k] → R = false) := Lib.hid fun h => Tell.out.2 fun hs => h (hs.2 k hlt)
        have Hlast := Lib.hid (LastF.next hlt)
        have Hnext : Hid (fieldGood n l k l[k] → ∀ j (hj : j < l.length), j < k + 1 → fieldGood n l j l[j]) := Lib.hid fun h j hj hjk => by
          by_cases e : j = k
          · subst e; exact h
          · exact hgood.out j hj (by omega)
        clear hlast hgood
        generalize l[k] = f at x0 x1 x2 x3 x4 Hiff Hbad Hnext Hlast
        obtain ⟨A1, A2, A3, A4, A5⟩ := f
        simp only at x0 x1 x2 x3 x4 Hiff Hlast
        have hb : Below w.heap.size w (wr.alloc (.cells #[.int .i64 A1, .int .i64 A2, .bool A3, .bool A4, .int .i64 A5] 117)) := hbr.alloc hbr.size _
        by_cases hle : A1 ≤ L
        · obtain rfl : R = false := Hbad.out fun h => (Hiff.out.1 h).1 hle
          clear Hiff Hbad Hnext
          go_wp2_with fail
          go_ret
          exact ⟨rfl, hb⟩
        · have hled : decide (A1 ≤ L) = false := decide_eq_false hle
          have Hle := Lib.hid hle
          clear hle
          have Hf := Lib.hid (implFieldOk_any (A1, A2, A3, A4, A5) n (wr.alloc (.cells #[.int .i64 A1, .int .i64 A2, .bool A3, .bool A4, .int .i64 A5] 117)) hn)
          have hx := Box.fresh wr #[.int .i64 A1, .int .i64 A2, .bool A3, .bool A4, .int .i64 A5] 117
          unfold fieldV at Hf
          simp only at Hf
          obtain ⟨Q, hQ⟩ : ∃ Q, fieldOkB n (A1, A2, A3, A4, A5) = Q := ⟨_, rfl⟩
          rw [hQ] at Hf Hiff
          clear hQ
          go_wp2_with fail
          refine Hf.out.mono ?_
          rintro e w1 ⟨rfl, hb1⟩
          obtain ⟨⟨c0, _, _, _, _⟩, _⟩ := Box.five (hx.below hb1 hx.1)
          have hb2 := hb.trans (hb1.mono hb.size)
          clear hb hx hb1 Hf x0 x1 x2 x3 x4
          cases Q with
          | false =>
            obtain rfl : R = false := Hbad.out fun h => by have := (Hiff.out.1 h).2; cases this
            clear Hiff Hbad Hnext
            go_wp2_with fail
            go_ret
            exact ⟨rfl, hb2⟩
          | true =>
            have Hn := Lib.hid (Hnext.out (Hiff.out.2 ⟨Hle.out, rfl⟩))
            clear Hiff Hbad Hnext
            go_wp2_with fail
            go_roundw
            case rel => exact ⟨k + 1, A1, by omega, by go_num, rfl, Hlast, Hn, hb2⟩
            case measure => simp [intOf]; omega
      · have hge : (l.length : Int) ≤ (k : Int) := by omega
        have hend : decide (k < l.length) = false := decide_eq_false hlt
        obtain rfl : R = true := Tell.out.1 ⟨h88, fun j hj => hgood.out j hj (by omega)⟩
        go_wp2_with fail
        go_ret
        exact ⟨rfl, hbr⟩
noncomputable def fieldsB (n : Nat) (l : List RF) : Bool := @decide (FieldsP n l) (Classical.propDecidable _)
theorem fieldsB_tell (n : Nat) (l : List RF) : (FieldsP n l → fieldsB n l = true) ∧ (¬ FieldsP n l → fieldsB n l = false) := by
  unfold fieldsB
  exact ⟨fun h => @decide_eq_true _ (Classical.propDecidable _) h, fun h => @decide_eq_false _ (Classical.propDecidable _) h⟩
set_option maxHeartbeats 4000000 in
theorem implSchemaOk_in (v : Value) (r : List RM) (w : World) (S : Nat → Prop) (hS : ∀ b, S b → b < w.heap.size) (h : RawAt w S v r) (hr : Small r) :
    Calls Tryz.prog 78 #[v] w fun e w' => e = .returned (.bool (schemaB r)) ∧ Below w.heap.size w w' := by
  obtain ⟨R, hR⟩ : ∃ R, schemaB r = R := ⟨_, rfl⟩
  rw [hR]
  have Tell : Hid ((SchemaP r → R = true) ∧ (¬ SchemaP r → R = false)) := Lib.hid ⟨fun h => by rw [← hR]; exact schema_yes h, fun h => by rw [← hR]; exact schema_no h⟩
  have HS := Lib.hid hS
  obtain ⟨u, rfl, hu⟩ := h
  obtain ⟨a, cap, rfl⟩ := hu.len
  have H := Lib.hid hu
  have Hr := Lib.hid hr.2
  have hr1 := hr.1
  clear hR hS hu hr
  have hb0 : Below w.heap.size w (w.alloc (.cells #[.slice a r.length cap] 26)) := (Below.refl _ _).alloc (Nat.le_refl _) _
  by_cases h6 : 6 < r.length
  · obtain rfl : R = false := Tell.out.2 fun h => by have := h.1; omega
    have h6i : (6 : Int) < (r.length : Int) := by omega
    go_enter Tryz.func78, Tryz.ntmps78
    go_wp2_with fail
    go_ret
    exact ⟨rfl, hb0⟩
  · have h6i : decide ((6 : Int) < (r.length : Int)) = false := decide_eq_false (by omega)
    have h6n : decide (6 < r.length) = false := decide_eq_false h6
    have h66 : r.length ≤ 6 := by omega
    clear h6
    go_enter Tryz.func78, Tryz.ntmps78
    go_wp2_with fail
    go_loopw [3, 13] (fun last i wr => ∃ (k : Nat) (L : Int), k ≤ r.length ∧ i = .int .i64 k ∧ last = .int .i64 L ∧ Hid (LastM r k L ∧ 0 ≤ L) ∧ Hid (∀ j (hj : j < r.length), j < k → shapeGood r j r[j]) ∧ Hid (Box wr w.heap.size [.slice a r.length cap]) ∧ Below w.heap.size w wr) (fun _ i _ => r.length - (intOf i).toNat)
    case atStart => exact ⟨0, 0, by omega, rfl, rfl, Lib.hid ⟨⟨fun _ => rfl, fun p hp h => by omega⟩, by omega⟩, Lib.hid fun j _ hj => by omega, Lib.hid (Box.fresh _ _ _), hb0⟩
    case round =>
      clear hb0
      obtain ⟨k, L, hk, rfl, rfl, hlast, hgood, HB, hbr⟩ := hrel
      obtain ⟨s0, _⟩ := HB.out.one
      have hwz := HB.out.1
      by_cases hlt : k < r.length
      · have hlti : (k : Int) < (r.length : Int) := by omega
        obtain ⟨b, o, c, hv, hbS, hcs⟩ := H.out.cells (by omega)
        obtain ⟨rfl, rfl⟩ : a = some ⟨b, o, none⟩ ∧ cap = c := by injection hv with e1 e2 e3; exact ⟨e1, e3⟩
        obtain ⟨x, d0, d1, hx⟩ := hcs k hlt
        obtain ⟨xa, xc, rfl⟩ := hx.len
        have hbC := HS.out _ hbS
        have hbw : b < wr.heap.size := Nat.lt_of_lt_of_le hbC hbr.size
        have hsm := Hr.out _ (List.getElem_mem hlt)
        have Hx := Lib.hid hx
        clear hcs hv hbS hx
        rw [← hbr.cell (p := ⟨b, _, none⟩) hbC] at d0 d1
        have Hiff := Lib.hid (shapeGood_iff hlt hlast.out.1 hlast.out.2)
        have Hbad : Hid (¬ shapeGood r k r[k] → R = false) := Lib.hid fun h => Tell.out.2 fun hs => h (hs.2 k hlt)
        have Hlast : Hid (shapeGood r k r[k] → LastM r (k + 1) r[k].1 ∧ 0 ≤ r[k].1) := Lib.hid fun h => ⟨LastM.next hlt, by have := h.1.1; omega⟩
        have Hnext : Hid (shapeGood r k r[k] → ∀ j (hj : j < r.length), j < k + 1 → shapeGood r j r[j]) := Lib.hid fun h j hj hjk => by
          by_cases e : j = k
          · subst e; exact h
          · exact hgood.out j hj (by omega)
        clear hlast hgood
        generalize r[k] = m at d0 d1 hsm Hx Hiff Hbad Hlast Hnext
        obtain ⟨id, fs⟩ := m
        simp only at d0 d1 hsm Hx Hiff Hlast
        have hb : Below w.heap.size w (wr.alloc (.cells #[.int .i64 id, .slice xa fs.length xc] 113)) := hbr.alloc hbr.size _
        by_cases hle : id ≤ L
        · obtain rfl : R = false := Hbad.out fun h => (Hiff.out.1 h).1 hle
          clear Hiff Hbad Hnext Hlast
          go_wp2_with fail
          go_ret
          exact ⟨rfl, hb⟩
        · have hled : decide (id ≤ L) = false := decide_eq_false hle
          have Hle := Lib.hid hle
          clear hle
          by_cases h99 : 99 < id
          · obtain rfl : R = false := Hbad.out fun h => (Hiff.out.1 h).2.1 h99
            clear Hiff Hbad Hnext Hlast
            go_wp2_with fail
            go_ret
            exact ⟨rfl, hb⟩
          · have h99d : decide (99 < id) = false := decide_eq_false h99
            have H99 := Lib.hid h99
            clear h99
            have Hf := Lib.hid (fieldsOk_any (.slice xa fs.length xc) fs r.length (fieldsB r.length fs) (wr.alloc (.cells #[.int .i64 id, .slice xa fs.length xc] 113)) S (fun b h => Nat.lt_of_lt_of_le (HS.out b h) hb.size) (Hx.out.keep (.of_below hb HS.out) fun _ h => h) hsm hr1 (fieldsB_tell _ _))
            have Hft := Lib.hid (fieldsB_tell r.length fs)
            have hx := Box.fresh wr #[.int .i64 id, .slice xa fs.length xc] 113
            have hs := HB.out.alloc (.cells #[.int .i64 id, .slice xa fs.length xc] 113)
            generalize fieldsB r.length fs = Q at Hf Hft
            go_wp2_with fail
            refine Hf.out.mono ?_
            rintro e w1 ⟨rfl, hb1⟩
            obtain ⟨c0, c1, _⟩ := (hx.below hb1 hx.1).two
            have Hs2 := Lib.hid (hs.below hb1 hs.1)
            have hb2 := hb.trans (hb1.mono hb.size)
            clear hb hx hs hb1 Hf d0 d1 s0
            cases Q with
            | false =>
              obtain rfl : R = false := Hbad.out fun h => by have := Hft.out.1 (Hiff.out.1 h).2.2; cases this
              clear Hiff Hbad Hnext Hlast
              go_wp2_with fail
              go_ret
              exact ⟨rfl, hb2⟩
            | true =>
              have hg := Hiff.out.2 ⟨Hle.out, H99.out, Classical.byContradiction fun h => by have := Hft.out.2 h; cases this⟩
              have Hn := Lib.hid (Hnext.out hg)
              have Hl := Lib.hid (Hlast.out hg)
              clear Hiff Hbad Hnext Hlast hg
              go_wp2_with fail
              go_roundw
              case rel => exact ⟨k + 1, id, by omega, by go_num, rfl, Hl, Hn, Hs2, hb2⟩
              case measure => simp [intOf]; omega
      · have hge : (r.length : Int) ≤ (k : Int) := by omega
        have hend : decide (k < r.length) = false := decide_eq_false hlt
        obtain rfl : R = true := Tell.out.1 ⟨h66, fun j hj => hgood.out j hj (by omega)⟩
        go_wp2_with fail
        go_ret
        exact ⟨rfl, hbr⟩
theorem implSchemaOk_any (v : Value) (r : List RM) (w : World) (h : RawAt w (· < w.heap.size) v r) (hr : Small r) :
    Calls Tryz.prog 78 #[v] w fun e w' => e = .returned (.bool (schemaB r)) ∧ Below w.heap.size w w' :=
  implSchemaOk_in v r w _ (fun _ h => h) h hr
end Go.Proofs.YtpkofbdfnbpfpaaGreat.Num


/-
  The walks of the program's NumEvent and PlanOk: they give what the reference's give; only new memory is written.
-/
namespace Go.Proofs.YtpkofbdfnbpfpaaGreat.Num
open Go.RowKit Go.Proofs
set_option linter.unusedVariables false
set_option linter.unusedSimpArgs false
theorem Box.sevenE {w : World} {g : Nat} {a b c d e f h : Value} (hx : Box w g [a, b, c, d, e, f, h]) : (w.cell? ⟨g, 0, none⟩ = some a ∧ w.cell? ⟨g, 1, none⟩ = some b ∧ w.cell? ⟨g, 2, none⟩ = some c ∧ w.cell? ⟨g, 3, none⟩ = some d ∧ w.cell? ⟨g, 4, none⟩ = some e ∧ w.cell? ⟨g, 5, none⟩ = some f ∧ w.cell? ⟨g, 6, none⟩ = some h) ∧ w.frozen? ⟨g, 0, none⟩ = false ∧ w.frozen? ⟨g, 1, none⟩ = false ∧ w.frozen? ⟨g, 2, none⟩ = false ∧ w.frozen? ⟨g, 3, none⟩ = false ∧ w.frozen? ⟨g, 4, none⟩ = false ∧ w.frozen? ⟨g, 5, none⟩ = false ∧ w.frozen? ⟨g, 6, none⟩ = false :=
  ⟨⟨(hx.2 0 (by simp)).1, (hx.2 1 (by simp)).1, (hx.2 2 (by simp)).1, (hx.2 3 (by simp)).1, (hx.2 4 (by simp)).1, (hx.2 5 (by simp)).1, (hx.2 6 (by simp)).1⟩, (hx.2 0 (by simp)).2, (hx.2 1 (by simp)).2, (hx.2 2 (by simp)).2, (hx.2 3 (by simp)).2, (hx.2 4 (by simp)).2, (hx.2 5 (by simp)).2, (hx.2 6 (by simp)).2⟩
theorem implNumEvent_any (f : RF) (u : Nat) (w : World) :
    Calls Tryz.prog 169 #[fieldV f, .int .u64 u] w fun e w' => e = .returned (evV (numE f u)) ∧ Below w.heap.size w w' := by
  obtain ⟨n, hn⟩ : ∃ n, numB f.2.1 u = n := ⟨_, rfl⟩
  unfold numE
  rw [hn]
  obtain ⟨A1, A2, A3, A4, A5⟩ := f
  unfold fieldV evV
  simp only at hn ⊢
  have hb : Below w.heap.size w ((w.alloc (.cells #[.int .i64 A1, .int .i64 A2, .bool A3, .bool A4, .int .i64 A5] 117)).alloc (.cells #[.int .i64 0, .int .i64 0, .int .u64 0, .int .i64 0, .string ⟨#[]⟩, .int .i64 0, .int .i64 0] 34)) := ((Below.refl _ _).alloc (Nat.le_refl _) _).alloc (by simp) _
  have hbx : Box ((w.alloc (.cells #[.int .i64 A1, .int .i64 A2, .bool A3, .bool A4, .int .i64 A5] 117)).alloc (.cells #[.int .i64 0, .int .i64 0, .int .u64 0, .int .i64 0, .string ⟨#[]⟩, .int .i64 0, .int .i64 0] 34)) (w.heap.size + 1) [.int .i64 0, .int .i64 0, .int .u64 0, .int .i64 0, .string ⟨#[]⟩, .int .i64 0, .int .i64 0] := by
    have h := Box.fresh (w.alloc (.cells #[.int .i64 A1, .int .i64 A2, .bool A3, .bool A4, .int .i64 A5] 117)) #[.int .i64 0, .int .i64 0, .int .u64 0, .int .i64 0, .string ⟨#[]⟩, .int .i64 0, .int .i64 0] 34
    rwa [show (w.alloc (.cells #[.int .i64 A1, .int .i64 A2, .bool A3, .bool A4, .int .i64 A5] 117)).heap.size = w.heap.size + 1 by simp] at h
  have Hb := Lib.hid hb; clear hb
  have Hbx := Lib.hid hbx; clear hbx
  unfold numB at hn
  by_cases h3 : A2 = 3
  · have h3b : (A2 == 3) = true := by simp [h3]
    by_cases hu : 1 < u
    · have hn1 : n = 1 := by rw [← hn, if_pos ⟨h3, hu⟩]
      subst hn1
      have hub : (1 : Int) < (u : Int) := by omega
      have hub2 : ¬ (u : Int) ≤ 1 := by omega
      clear hn h3 hu
      go_enter Tryz.func169, Tryz.ntmps169
      go_wp2_with fail
      refine (numKind_any _ _ _).mono ?_
      rintro e w1 ⟨rfl, hb1⟩
      obtain ⟨⟨r0, r1, r2, r3, r4, r5, r6⟩, s0, s1, s2, s3, s4, s5, s6⟩ := (Hbx.out.below hb1 Hbx.out.lt).sevenE
      have hz := (Hbx.out.below hb1 Hbx.out.lt).lt
      have Hbw := Lib.hid (Hb.out.trans (hb1.mono Hb.out.size))
      clear hb1
      go_wp2_with fail
      refine bodyPost_ret (v := .agg #[.int .i64 2, .int .i64 A1, .int .u64 1, .int .i64 0, .string ⟨#[]⟩, .int .i64 0, .int .i64 0]) (by simp [results, Tryz.results169, go_sem, r0, r1, r2, r3, r4, r5, r6, hz]) rfl ⟨rfl, ?_⟩
      repeat (first | with_reducible exact Hbw.out | refine Below.setCell ?_ (by simp) _)
    · have hn1 : n = u := by rw [← hn, if_neg (fun h => hu h.2)]
      subst hn1
      have hub : ¬ (1 : Int) < (n : Int) := by omega
      clear hn h3 hu
      go_enter Tryz.func169, Tryz.ntmps169
      go_wp2_with fail
      refine (numKind_any _ _ _).mono ?_
      rintro e w1 ⟨rfl, hb1⟩
      obtain ⟨⟨r0, r1, r2, r3, r4, r5, r6⟩, s0, s1, s2, s3, s4, s5, s6⟩ := (Hbx.out.below hb1 Hbx.out.lt).sevenE
      have hz := (Hbx.out.below hb1 Hbx.out.lt).lt
      have Hbw := Lib.hid (Hb.out.trans (hb1.mono Hb.out.size))
      clear hb1
      go_wp2_with fail
      refine bodyPost_ret (v := .agg #[.int .i64 2, .int .i64 A1, .int .u64 n, .int .i64 0, .string ⟨#[]⟩, .int .i64 0, .int .i64 0]) (by simp [results, Tryz.results169, go_sem, r0, r1, r2, r3, r4, r5, r6, hz]) rfl ⟨rfl, ?_⟩
      repeat (first | with_reducible exact Hbw.out | refine Below.setCell ?_ (by simp) _)
  · have h3b : (A2 == 3) = false := neI h3
    have hn1 : n = u := by rw [← hn, if_neg (fun h => h3 h.1)]
    subst hn1
    clear hn h3
    go_enter Tryz.func169, Tryz.ntmps169
    go_wp2_with fail
    refine (numKind_any _ _ _).mono ?_
    rintro e w1 ⟨rfl, hb1⟩
    obtain ⟨⟨r0, r1, r2, r3, r4, r5, r6⟩, s0, s1, s2, s3, s4, s5, s6⟩ := (Hbx.out.below hb1 Hbx.out.lt).sevenE
    have hz := (Hbx.out.below hb1 Hbx.out.lt).lt
    have Hbw := Lib.hid (Hb.out.trans (hb1.mono Hb.out.size))
    clear hb1
    go_wp2_with fail
    refine bodyPost_ret (v := .agg #[.int .i64 2, .int .i64 A1, .int .u64 n, .int .i64 0, .string ⟨#[]⟩, .int .i64 0, .int .i64 0]) (by simp [results, Tryz.results169, go_sem, r0, r1, r2, r3, r4, r5, r6, hz]) rfl ⟨rfl, ?_⟩
    repeat (first | with_reducible exact Hbw.out | refine Below.setCell ?_ (by simp) _)
theorem iSchema_as {v : Value} {r : List RM} {R : Bool} (hR : schemaB r = R) (w : World) (h : RawAt w (· < w.heap.size) v r) (hr : Small r) :
    Calls Tryz.prog 78 #[v] w fun e w' => e = .returned (.bool R) ∧ Below w.heap.size w w' := hR ▸ implSchemaOk_any v r w h hr
theorem implPlanOk_any (u : Value) (r : List RM) (A B C : Int) (w : World) (h : MsgsAt w (· < w.heap.size) u r) (hr : Small r) :
    Calls Tryz.prog 37 #[planV u A B C] w fun e w' => e = .returned (.bool (planB r A B C)) ∧ Below w.heap.size w w' := by
  obtain ⟨R, hR⟩ : ∃ R, schemaB r = R := ⟨_, rfl⟩
  obtain ⟨a, cap, rfl⟩ := h.len
  unfold planV planB
  rw [hR]
  obtain ⟨X, hX⟩ : ∃ X, (R && (decide (0 ≤ A ∧ A ≤ (r.length : Int) - 1) && (decide (1 ≤ B ∧ B ≤ 8) && decide (0 ≤ C ∧ C ≤ 2000)))) = X := ⟨_, rfl⟩
  rw [hX]
  have HX := Lib.hid hX
  clear hX
  have hrl := hr.1
  have H := Lib.hid h
  have Hr := Lib.hid hr
  clear h hr
  have HM := Lib.hid (H.out.keep (.of_below (Below.alloc (Below.refl w.heap.size w) (Nat.le_refl _) (.cells #[.slice a r.length cap, .int .i64 A, .int .i64 B, .int .i64 C] 28)) fun b hb => hb) fun b hb => show b < (w.alloc (.cells #[.slice a r.length cap, .int .i64 A, .int .i64 B, .int .i64 C] 28)).heap.size by simp; omega)
  have hbx : Box (w.alloc (.cells #[.slice a r.length cap, .int .i64 A, .int .i64 B, .int .i64 C] 28)) w.heap.size [.slice a r.length cap, .int .i64 A, .int .i64 B, .int .i64 C] := Box.fresh w #[.slice a r.length cap, .int .i64 A, .int .i64 B, .int .i64 C] 28
  go_enter Tryz.func37, Tryz.ntmps37
  go_wp2_with fail
  refine (iSchema_as hR _ HM.out.raw Hr.out).mono ?_
  rintro e w1 ⟨rfl, hb1⟩
  obtain ⟨c0, c1, c2, c3⟩ := (hbx.below hb1 hbx.lt).fourC
  have hl1 := from_alloc hb1
  clear hbx hb1 HM H
  cases R with
  | false =>
    go_wp2_with fail
    go_ret
    exact ⟨by rw [← HX.out]; rfl, hl1⟩
  | true =>
    by_cases hA : 0 ≤ A ∧ A < (r.length : Int)
    · have dA : decide (0 ≤ A ∧ A ≤ (r.length : Int) - 1) = true := decide_eq_true (by omega)
      by_cases h1 : 1 ≤ B
      · by_cases h2 : B ≤ 8
        · have dB : decide (1 ≤ B ∧ B ≤ 8) = true := decide_eq_true ⟨h1, h2⟩
          by_cases h3 : 0 ≤ C
          · by_cases h4 : C ≤ 2000
            · have dC : decide (0 ≤ C ∧ C ≤ 2000) = true := decide_eq_true ⟨h3, h4⟩
              have e1 : decide (1 ≤ B) = true := decide_eq_true h1
              have e2 : decide (B ≤ 8) = true := decide_eq_true h2
              have e3 : decide (0 ≤ C) = true := decide_eq_true h3
              have e4 : decide (C ≤ 2000) = true := decide_eq_true h4
              go_wp2_with fail
              refine (isIndex_yes _ _ _ hA).mono ?_
              rintro e w2 ⟨rfl, rfl⟩
              go_wp2_with fail
              go_ret
              exact ⟨by rw [← HX.out, dA, dB, dC]; rfl, hl1⟩
            · have dC : decide (0 ≤ C ∧ C ≤ 2000) = false := decide_eq_false fun h => h4 h.2
              go_wp2_with fail
              refine (isIndex_yes _ _ _ hA).mono ?_
              rintro e w2 ⟨rfl, rfl⟩
              go_wp2_with fail
              go_ret
              exact ⟨by rw [← HX.out, dA, dB, dC]; show Ending.returned (.bool (decide (C ≤ 2000))) = _; rw [decide_eq_false (by omega)]; rfl, hl1⟩
          · have dC : decide (0 ≤ C ∧ C ≤ 2000) = false := decide_eq_false fun h => h3 h.1
            go_wp2_with fail
            refine (isIndex_yes _ _ _ hA).mono ?_
            rintro e w2 ⟨rfl, rfl⟩
            go_wp2_with fail
            go_ret
            exact ⟨by rw [← HX.out, dA, dB, dC]; rfl, hl1⟩
        · have dB : decide (1 ≤ B ∧ B ≤ 8) = false := decide_eq_false fun h => h2 h.2
          go_wp2_with fail
          refine (isIndex_yes _ _ _ hA).mono ?_
          rintro e w2 ⟨rfl, rfl⟩
          go_wp2_with fail
          go_ret
          exact ⟨by rw [← HX.out, dA, dB]; rfl, hl1⟩
      · have dB : decide (1 ≤ B ∧ B ≤ 8) = false := decide_eq_false fun h => h1 h.1
        go_wp2_with fail
        refine (isIndex_yes _ _ _ hA).mono ?_
        rintro e w2 ⟨rfl, rfl⟩
        go_wp2_with fail
        go_ret
        exact ⟨by rw [← HX.out, dA, dB]; rfl, hl1⟩
    · have dA : decide (0 ≤ A ∧ A ≤ (r.length : Int) - 1) = false := decide_eq_false (by omega)
      go_wp2_with fail
      refine (isIndex_no _ _ _ hA).mono ?_
      rintro e w2 ⟨rfl, rfl⟩
      go_wp2_with fail
      go_ret
      exact ⟨by rw [← HX.out, dA]; rfl, hl1⟩
end Go.Proofs.YtpkofbdfnbpfpaaGreat.Num


/-
  The walk of the program's Terminal.
-/
namespace Go.Proofs.YtpkofbdfnbpfpaaGreat.Num
open Go.RowKit Go.Proofs
set_option linter.unusedVariables false
set_option linter.unusedSimpArgs false

theorem implTerminal_any (e : Ev) (w : World) : Calls Tryz.prog 99 #[evV e] w fun x w' => x = .returned (.bool (termB e)) ∧ Below w.heap.size w w' := by
  obtain ⟨k, f, b, l, t, c, p⟩ := e
  unfold evV
  simp only
  by_cases h1 : k = 9
  · subst h1
    go_enter Tryz.func99, Tryz.ntmps99
    go_wp2_with fail
    go_ret
    exact ⟨rfl, (Below.refl _ _).alloc (Nat.le_refl _) _⟩
  · have e1 := neI h1
    by_cases h2 : k = 10
    · subst h2
      go_enter Tryz.func99, Tryz.ntmps99
      go_wp2_with fail
      go_ret
      exact ⟨rfl, (Below.refl _ _).alloc (Nat.le_refl _) _⟩
    · have e2 := neI h2
      have hr : termB ⟨k, f, b, l, t, c, p⟩ = false := decide_eq_false (by simp only; omega)
      rw [hr]
      clear hr h1 h2
      go_enter Tryz.func99, Tryz.ntmps99
      go_wp2_with fail
      go_ret
      exact ⟨rfl, (Below.refl _ _).alloc (Nat.le_refl _) _⟩
end Go.Proofs.YtpkofbdfnbpfpaaGreat.Num


/-
  The walks of the program's Numeric and WireOf (split off KindImpl: they need no map).
-/
namespace Go.Proofs.YtpkofbdfnbpfpaaGreat.Num
open Go.RowKit Go.Proofs
set_option linter.unusedVariables false
theorem impl0WireOf_any (k : Int) (w : World) : Calls Tryz.prog 187 #[.int .i64 k] w fun e w' => e = .returned (.int .i64 (wireR k)) ∧ w = w' := by
  rcases kind_cases k with h | h
  · rcases h with rfl | rfl | rfl | rfl | rfl | rfl | rfl | rfl
    all_goals
      go_enter Tryz.func187, Tryz.ntmps187
      go_wp2_with fail
      go_ret
      exact ⟨rfl, rfl⟩
  · have He : wireR k = -1 := if_pos h
    rw [He]
    have b1 := eqF (show k ≠ 1 by omega)
    have b2 := eqF (show k ≠ 2 by omega)
    have b3 := eqF (show k ≠ 3 by omega)
    have b4 := eqF (show k ≠ 4 by omega)
    have b5 := eqF (show k ≠ 5 by omega)
    have b6 := eqF (show k ≠ 6 by omega)
    have b7 := eqF (show k ≠ 7 by omega)
    have b8 := eqF (show k ≠ 8 by omega)
    clear He h
    go_enter Tryz.func187, Tryz.ntmps187
    go_wp2_with fail
    go_ret
    exact ⟨rfl, rfl⟩
end Go.Proofs.YtpkofbdfnbpfpaaGreat.Num


/-
  The walks of the program's ShapeAt, FieldAt and Runs, the first two over slices.IndexFunc with a closure: they answer as the plain definitions; only new memory is written.
-/
namespace Go.Proofs.YtpkofbdfnbpfpaaGreat.Num
open Go.RowKit Go.Proofs
set_option linter.unusedVariables false
set_option linter.unusedSimpArgs false

/-- Where the first field with the number lies. -/
def fieldIdx (l : List RF) (x : Int) : Int := match l.findIdx? (fun f => f.1 == x) with | some i => (i : Int) | none => -1
theorem fieldIdx_yes {l : List RF} {x : Int} {k : Nat} (hk : k < l.length) (h : l[k].1 = x) (hno : ∀ j (hj : j < l.length), j < k → l[j].1 ≠ x) : fieldIdx l x = (k : Int) := by
  unfold fieldIdx
  rw [List.findIdx?_eq_some_iff_getElem.2 ⟨hk, by simpa using h, fun j hj => by simpa using hno j (by omega) hj⟩]
theorem fieldIdx_no {l : List RF} {x : Int} (hno : ∀ j (hj : j < l.length), l[j].1 ≠ x) : fieldIdx l x = -1 := by
  unfold fieldIdx
  rw [List.findIdx?_eq_none_iff.2 (fun m hm => by obtain ⟨j, hj, rfl⟩ := List.getElem_of_mem hm; simpa using hno j hj)]
theorem isFdF_any (f : RF) (x : Int) (g : Nat) (R : Bool) (w : World) (hg : Box w g [.int .i64 x]) (tell : (f.1 == x) = R) :
    Calls Tryz.prog 197 #[fieldV f, .pointer (some ⟨g, 0, none⟩)] w fun e w' => e = .returned (.bool R) ∧ Below w.heap.size w w' := by
  obtain ⟨A1, A2, A3, A4, A5⟩ := f
  unfold fieldV
  simp only at tell ⊢
  have hz := hg.lt
  have hb : Below w.heap.size w (w.alloc (.cells #[.int .i64 A1, .int .i64 A2, .bool A3, .bool A4, .int .i64 A5] 117)) := (Below.refl _ _).alloc (Nat.le_refl _) _
  obtain ⟨c0, _⟩ := (hg.below hb hz).one
  go_enter Tryz.func197, Tryz.ntmps197
  go_wp2_with fail
  go_ret
  exact ⟨rfl, hb⟩
set_option maxHeartbeats 2000000 in
theorem idxFd_any (v : Value) (l : List RF) (x : Int) (g : Nat) (R : Int) (w : World) (S : Nat → Prop) (hS : ∀ b, S b → b < w.heap.size) (hv : FieldsAt w S v l) (hl : l.length ≤ 1048576) (hg : Box w g [.int .i64 x]) (tell : fieldIdx l x = R) :
    Calls Tryz.prog 196 #[v, .func (.func 197) #[] #[.pointer (some ⟨g, 0, none⟩)]] w fun e w' => e = .returned (.int .i64 R) ∧ Below w.heap.size w w' := by
  have HR := Lib.hid tell
  have HG := Lib.hid hg
  have HS := Lib.hid hS
  clear tell hg hS
  obtain ⟨a, cap, rfl⟩ := hv.len
  have H := Lib.hid hv
  clear hv
  go_enter Tryz.func196, Tryz.ntmps196
  go_wp2_with fail
  go_loopw [8] (fun i wr => ∃ k : Nat, k ≤ l.length ∧ i = .int .i64 k ∧ Hid (∀ j (hj : j < l.length), j < k → l[j].1 ≠ x) ∧ Below w.heap.size w wr) (fun i _ => l.length - (intOf i).toNat)
  case atStart => exact ⟨0, by omega, rfl, Lib.hid fun j _ hj => by omega, Below.refl _ _⟩
  case round =>
    obtain ⟨k, hk, rfl, hno, hbr⟩ := hrel
    by_cases hlt : k < l.length
    · have hlti : (k : Int) < (l.length : Int) := by omega
      obtain ⟨b, o, c, hv, hbS, hcs⟩ := H.out.cells (by omega)
      obtain ⟨rfl, rfl⟩ : a = some ⟨b, o, none⟩ ∧ cap = c := by injection hv with e1 e2 e3; exact ⟨e1, e3⟩
      have hbC := HS.out _ hbS
      have hbw : b < wr.heap.size := Nat.lt_of_lt_of_le hbC hbr.size
      have hgr := HG.out.below hbr HG.out.lt
      obtain ⟨Q, hQ⟩ : ∃ Q, (l[k].1 == x) = Q := ⟨_, rfl⟩
      have Hyes : Hid (Q = true → R = (k : Int)) := Lib.hid fun h => by
        have e : l[k].1 = x := by rw [h] at hQ; exact beq_iff_eq.1 hQ
        rw [← HR.out]; exact fieldIdx_yes hlt e hno.out
      have Hn : Hid (Q = false → ∀ j (hj : j < l.length), j < k + 1 → l[j].1 ≠ x) := Lib.hid fun h j hj hjk => by
        by_cases e : j = k
        · subst e; rw [h] at hQ; exact beq_eq_false_iff_ne.1 hQ
        · exact hno.out j hj (by omega)
      obtain ⟨d0, d1, d2, d3, d4⟩ := hcs k hlt
      rw [← hbr.cell (p := ⟨b, _, none⟩) hbC] at d0 d1 d2 d3 d4
      have Hc := Lib.hid (isFdF_any l[k] x g Q wr hgr hQ)
      clear hcs hv hno hQ hbS hgr
      generalize l[k] = f at d0 d1 d2 d3 d4 Hc
      obtain ⟨A1, A2, A3, A4, A5⟩ := f
      unfold fieldV at Hc
      simp only at d0 d1 d2 d3 d4 Hc
      go_wp2_with fail
      refine Hc.out.mono ?_
      rintro e w2 ⟨rfl, hb2⟩
      have hb3 := hbr.trans (hb2.mono hbr.size)
      clear hb2
      cases Q with
      | true =>
        have hR := Lib.hid (Hyes.out rfl)
        clear Hyes Hn
        go_wp2_with fail
        go_ret
        exact ⟨by rw [hR.out]; rfl, hb3⟩
      | false =>
        have Hn' := Lib.hid (Hn.out rfl)
        clear Hyes Hn
        go_wp2_with fail
        go_roundw
        case rel => exact ⟨k + 1, by omega, by go_num, Hn', hb3⟩
        case measure => simp [intOf]; omega
    · have hge : (l.length : Int) ≤ (k : Int) := by omega
      have hend : decide (k < l.length) = false := decide_eq_false hlt
      have hR : Hid (R = -1) := Lib.hid (by rw [← HR.out]; exact fieldIdx_no fun j hj => hno.out j hj (by omega))
      go_wp2_with fail
      go_ret
      exact ⟨by rw [hR.out]; rfl, hbr⟩
theorem Box.freshB {w : World} {xs ys : Array Value} {t u : TypeId} : Box ((w.alloc (.cells xs t)).alloc (.cells ys u)) (w.heap.size + 1) ys.toList := by
  have h := Box.fresh (w.alloc (.cells xs t)) ys u
  rwa [show (w.alloc (.cells xs t)).heap.size = w.heap.size + 1 by simp] at h
/-- The program's ShapeAt. -/
theorem fieldIn_idx (l : List RF) (x : Int) : (fieldIdx l x = -1 ∧ fieldIn l x = (zeroF, false)) ∨ ∃ (k : Nat) (h : k < l.length), fieldIdx l x = (k : Int) ∧ fieldIn l x = (l[k], true) := by
  by_cases h : ∃ k : Nat, ∃ hk : k < l.length, l[k].1 = x ∧ ∀ j (hj : j < l.length), j < k → l[j].1 ≠ x
  · obtain ⟨k, hk, h1, h2⟩ := h
    exact .inr ⟨k, hk, fieldIdx_yes hk h1 h2, fieldIn_yes hk h1 h2⟩
  · have hno : ∀ k (hk : k < l.length), l[k].1 ≠ x := by
      intro k
      induction k using Nat.strongRecOn with
      | ind k ih =>
        intro hk e
        exact h ⟨k, hk, e, fun j hj hjk => ih j hjk hj⟩
    exact .inl ⟨fieldIdx_no hno, fieldIn_no hno⟩
set_option maxHeartbeats 600000 in
/-- The program's FieldAt. -/
theorem implFieldAt_any (v : Value) (r : List RM) (shape x : Int) (w : World) (h : RawAt w (· < w.heap.size) v r) (hr : Small r) :
    Calls Tryz.prog 184 #[v, .int .i64 shape, .int .i64 x] w fun e w' => e = .returned (.tuple #[fieldV (fieldAtR r shape x).1, .bool (fieldAtR r shape x).2]) ∧ Below w.heap.size w w' := by
  have hr1 := hr.1
  have Hr := Lib.hid hr.2
  clear hr
  obtain ⟨u, rfl, hu⟩ := h
  obtain ⟨a, cap, rfl⟩ := hu.len
  have H := Lib.hid hu
  clear hu
  have hl3 : Below w.heap.size w (((w.alloc (.cells #[.slice a r.length cap] 26)).alloc (.cells #[.int .i64 x] 3)).alloc (.cells #[.int .i64 0, .int .i64 0, .bool false, .bool false, .int .i64 0] 117)) := (((Below.refl _ _).alloc (Nat.le_refl _) _).alloc (by simp) _).alloc (by simp; omega) _
  have hs3 : Box (((w.alloc (.cells #[.slice a r.length cap] 26)).alloc (.cells #[.int .i64 x] 3)).alloc (.cells #[.int .i64 0, .int .i64 0, .bool false, .bool false, .int .i64 0] 117)) w.heap.size [.slice a r.length cap] := ((Box.fresh _ _ _).alloc _).alloc _
  have hx3 : Box (((w.alloc (.cells #[.slice a r.length cap] 26)).alloc (.cells #[.int .i64 x] 3)).alloc (.cells #[.int .i64 0, .int .i64 0, .bool false, .bool false, .int .i64 0] 117)) (w.heap.size + 1) [.int .i64 x] := Box.freshB.alloc _
  have hz3 : Box (((w.alloc (.cells #[.slice a r.length cap] 26)).alloc (.cells #[.int .i64 x] 3)).alloc (.cells #[.int .i64 0, .int .i64 0, .bool false, .bool false, .int .i64 0] 117)) (w.heap.size + 1 + 1) (fieldC zeroF) := by
    have h := Box.fresh ((w.alloc (.cells #[.slice a r.length cap] 26)).alloc (.cells #[.int .i64 x] 3)) #[.int .i64 0, .int .i64 0, .bool false, .bool false, .int .i64 0] 117
    rwa [show ((w.alloc (.cells #[.slice a r.length cap] 26)).alloc (.cells #[.int .i64 x] 3)).heap.size = w.heap.size + 1 + 1 by simp] at h
  by_cases hin : 0 ≤ shape ∧ shape < (r.length : Int)
  · obtain ⟨k, rfl⟩ := Int.eq_ofNat_of_zero_le hin.1
    have hk : k < r.length := by omega
    have hki : (k : Int) < (r.length : Int) := by omega
    have Hin := Lib.hid hin
    have He := Lib.hid (fieldAt_in (x := x) hk)
    rw [He.out]
    obtain ⟨b, o, c, hv, hbC, hcs⟩ := H.out.cells (by omega)
    obtain ⟨rfl, rfl⟩ : a = some ⟨b, o, none⟩ ∧ cap = c := by injection hv with e1 e2 e3; exact ⟨e1, e3⟩
    obtain ⟨y, d0, d1, hy⟩ := hcs k hk
    obtain ⟨xa, xc, rfl⟩ := hy.len
    have hfl := Hr.out _ (List.getElem_mem hk)
    have Hy := Lib.hid hy
    clear hcs hv hy hin He d0
    generalize r[k] = m at d1 hfl Hy
    obtain ⟨id, fs⟩ := m
    simp only at d1 hfl Hy
    have Hidx := Lib.hid (idxFd_any (.slice xa fs.length xc) fs x (w.heap.size + 1) (fieldIdx fs x) _ (· < w.heap.size) (fun b h => Nat.lt_of_lt_of_le h hl3.size) (Hy.out.keep (.of_below hl3 fun _ h => h) fun _ h => h) hfl hx3 rfl)
    have hbw : b < w.heap.size := hbC
    go_enter Tryz.func184, Tryz.ntmps184
    go_wp2_with fail
    refine (isIndex_yes _ _ _ Hin.out).mono ?_
    rintro e w1 ⟨rfl, rfl⟩
    generalize (((w.alloc (.cells #[.slice (some ⟨b, o, none⟩) r.length cap] 26)).alloc (.cells #[.int .i64 x] 3)).alloc (.cells #[.int .i64 0, .int .i64 0, .bool false, .bool false, .int .i64 0] 117)) = w3 at hl3 hs3 hx3 hz3 Hidx ⊢
    rw [← hl3.cell (p := ⟨b, _, none⟩) hbC] at d1
    obtain ⟨s0, _⟩ := hs3.one
    go_wp2_with fail
    refine Hidx.out.mono ?_
    rintro e w2 ⟨rfl, hb2⟩
    have hz4 := hz3.below hb2 hz3.1
    have hl4 := hl3.trans (hb2.mono hl3.size)
    obtain ⟨⟨f0, f1, f2, f3, f4⟩, g0, g1, g2, g3, g4⟩ := Box.five hz4
    have Hz4 := Lib.hid hz4
    clear hl3 hs3 hx3 hz3 hb2 hz4 d1
    rcases fieldIn_idx fs x with ⟨h1, h2⟩ | ⟨q, hq, h1, h2⟩
    · have H2 := Lib.hid h2
      rw [h1]
      clear h1 h2
      have hx6 := Hz4.out.set 0 (.int .i64 0) |>.set 1 (.int .i64 0) |>.set 2 (.bool false) |>.set 3 (.bool false) |>.set 4 (.int .i64 0)
      obtain ⟨⟨y0, y1, y2, y3, y4⟩, _⟩ := Box.five (a := .int .i64 0) (b := .int .i64 0) (c := .bool false) (d := .bool false) (e := .int .i64 0) hx6
      go_wp2_with fail
      refine bodyPost_ret (v := .tuple #[.agg #[.int .i64 0, .int .i64 0, .bool false, .bool false, .int .i64 0], .bool false]) (by simp [results, Tryz.results184, go_sem, y0, y1, y2, y3, y4]) rfl ?_
      refine ⟨by rw [H2.out]; rfl, ?_⟩
      repeat (first | exact hl4 | refine Below.setCell ?_ (by simp <;> omega) _)
    · have H2 := Lib.hid h2
      rw [h1]
      clear h1 h2
      have hqi : (q : Int) < (fs.length : Int) := by omega
      have hq0 : decide ((q : Int) < 0) = false := decide_eq_false (by omega)
      obtain ⟨fb, fo, fc, fv, fbC, fcs⟩ := Hy.out.cells (by omega)
      obtain ⟨rfl, rfl⟩ : xa = some ⟨fb, fo, none⟩ ∧ xc = fc := by injection fv with e1 e2 e3; exact ⟨e1, e3⟩
      obtain ⟨x0, x1, x2, x3, x4⟩ := fcs q hq
      clear fcs fv
      rw [← hl4.cell (p := ⟨fb, _, none⟩) fbC] at x0 x1 x2 x3 x4
      generalize fs[q] = g at x0 x1 x2 x3 x4 H2
      obtain ⟨A1, A2, A3, A4, A5⟩ := g
      simp only at x0 x1 x2 x3 x4
      have hx6 := Hz4.out.set 0 (.int .i64 A1) |>.set 1 (.int .i64 A2) |>.set 2 (.bool A3) |>.set 3 (.bool A4) |>.set 4 (.int .i64 A5)
      obtain ⟨⟨y0, y1, y2, y3, y4⟩, _⟩ := Box.five (a := .int .i64 A1) (b := .int .i64 A2) (c := .bool A3) (d := .bool A4) (e := .int .i64 A5) hx6
      have Y := Lib.hid y0
      have Y1 := Lib.hid y1
      have Y2 := Lib.hid y2
      have Y3 := Lib.hid y3
      have Y4 := Lib.hid y4
      clear y0 y1 y2 y3 y4 hx6 s0
      go_wp2_with fail
      have y0 := Y.out
      have y1 := Y1.out
      have y2 := Y2.out
      have y3 := Y3.out
      have y4 := Y4.out
      refine bodyPost_ret (v := .tuple #[.agg #[.int .i64 A1, .int .i64 A2, .bool A3, .bool A4, .int .i64 A5], .bool true]) (by simp [results, Tryz.results184, go_sem, y0, y1, y2, y3, y4]) rfl ?_
      refine ⟨by rw [H2.out]; rfl, ?_⟩
      repeat (first | exact hl4 | refine Below.setCell ?_ (by simp <;> omega) _)
  · rw [fieldAt_out (by omega)]
    have H1 := Lib.hid hin
    clear hin hs3 hx3 hz3 hl3
    go_enter Tryz.func184, Tryz.ntmps184
    go_wp2_with fail
    refine (isIndex_no _ _ _ H1.out).mono ?_
    rintro e w1 ⟨rfl, rfl⟩
    go_wp2_with fail
    refine bodyPost_ret (v := .tuple #[.agg #[.int .i64 0, .int .i64 0, .bool false, .bool false, .int .i64 0], .bool false]) (by simp [results, Tryz.results184, go_sem]) rfl ?_
    refine ⟨rfl, ?_⟩
    repeat (first | exact Below.refl _ _ | refine Below.setCell ?_ (by simp) _ | refine Below.alloc ?_ (by first | omega | (simp <;> omega)) _)
end Go.Proofs.YtpkofbdfnbpfpaaGreat.Num


/-
  The program's events of a frame and of the end, each made by its kind's method: what the seven fields hold.
-/
namespace Go.Proofs.YtpkofbdfnbpfpaaGreat.Num
open Go.RowKit Go.Proofs
set_option linter.unusedVariables false
theorem frameKind_any (n : Int) (w : World) : Calls Tryz.prog 222 #[.agg #[.int .i64 n]] w fun x w' => x = .returned (.agg #[.int .i64 1, .int .i64 0, .int .u64 0, .int .i64 n, .string ⟨#[]⟩, .int .i64 0, .int .i64 0]) ∧ Below w.heap.size w w' := by
  go_enter Tryz.func222, Tryz.ntmps222
  go_wp2_with fail
  refine bodyPost_ret (v := .agg #[.int .i64 1, .int .i64 0, .int .u64 0, .int .i64 n, .string ⟨#[]⟩, .int .i64 0, .int .i64 0]) (by simp [results, Tryz.results222, go_sem]) rfl ⟨rfl, ?_⟩
  repeat (first | with_reducible exact Below.refl _ _ | refine Below.setCell ?_ (by simp) _ | refine Below.alloc ?_ (by first | omega | (simp <;> omega)) _)
theorem frameEndKind_any  (w : World) : Calls Tryz.prog 223 #[.agg #[]] w fun x w' => x = .returned (.agg #[.int .i64 8, .int .i64 0, .int .u64 0, .int .i64 0, .string ⟨#[]⟩, .int .i64 0, .int .i64 0]) ∧ Below w.heap.size w w' := by
  go_enter Tryz.func223, Tryz.ntmps223
  go_wp2_with fail
  refine bodyPost_ret (v := .agg #[.int .i64 8, .int .i64 0, .int .u64 0, .int .i64 0, .string ⟨#[]⟩, .int .i64 0, .int .i64 0]) (by simp [results, Tryz.results223, go_sem]) rfl ⟨rfl, ?_⟩
  repeat (first | with_reducible exact Below.refl _ _ | refine Below.setCell ?_ (by simp) _ | refine Below.alloc ?_ (by first | omega | (simp <;> omega)) _)
end Go.Proofs.YtpkofbdfnbpfpaaGreat.Num

