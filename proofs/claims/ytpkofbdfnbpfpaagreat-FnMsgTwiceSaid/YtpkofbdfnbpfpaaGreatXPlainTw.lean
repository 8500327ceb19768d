/-
  Several texts in one: MsgFuel WithinLaw MsgTwice MsgTwo.
-/
import Derived.Test.YtpkofbdfnbpfpaaGreatXSpecB
import Derived.Test.YtpkofbdfnbpfpaaGreatXSpecA

/-
  Plain facts on a message that is read: how many fields may still come does not matter, if it is more than bytes are left; what is told only grows; one whose end lies further behind.
-/
namespace Go.Proofs.YtpkofbdfnbpfpaaGreat.Num
open Go.RowKit Go.Proofs
set_option linter.unusedVariables false

/-- Both read the same from any place behind p. -/
def SameM (s : ByteArray) (p : Nat) (M M' : Int → Int → Int → RdM → RdM) : Prop := ∀ sh E d r, p < r.place → r.place ≤ s.size → (r.place : Int) ≤ E → M sh E d r = M' sh E d r
theorem rdRun_fuel {s : ByteArray} {f : RF} {E : Int} : ∀ (n : Nat) (r : RdM), r.place ≤ s.size → (r.place : Int) ≤ E → s.size - r.place < n → rdRun s f E n r = rdRun s f E (n + 1) r
  | 0, r, hp, hE, hn => by omega
  | n + 1, r, hp, hE, hn => by
    by_cases h : (r.place : Int) < E ∧ r.fail.kind = 0
    · rw [rdRun_more h, rdRun_more h]
      obtain ⟨h1, h2⟩ := rdNum_adv (s := s) (f := f) (x := wireR f.2.1) (E := E) (r := r) hp hE
      by_cases h3 : (rdNum s f (wireR f.2.1) E r).fail.kind = 0
      · have h4 := h2 h3
        have h5 := h1.inn
        exact rdRun_fuel n _ h1.inn h1.upto (by omega)
      · rw [rdRun_end (fun h => h3 h.2), rdRun_end (fun h => h3 h.2)]
    · rw [rdRun_end h, rdRun_end h]
section
variable {M M' : Int → Int → Int → RdM → RdM} {n n' : Nat} {s : ByteArray} {D : Int} {f : RF} {start m p : Nat} {E deep : Int} {r : RdM}
theorem rdBody_same (hM : SameM s p M M') (hn : ∀ f E r, p < r.place → r.place ≤ s.size → (r.place : Int) ≤ E → rdRun s f E n r = rdRun s f E n' r) (h1 : p < r.place) (h2 : r.place ≤ s.size) : rdBody M n s D f start m deep r = rdBody M' n' s D f start m deep r := by
  unfold rdBody
  rw [hM f.2.2.2.2 ((r.place + m : Nat) : Int) (deep + 1) (r.tell (downE f.1 m)) h1 h2 (by show (r.place : Int) ≤ _; omega), hn f ((r.place + m : Nat) : Int) r h1 h2 (by omega)]
theorem rdLong_same (hM : SameM s p M M') (hn : ∀ f E r, p < r.place → r.place ≤ s.size → (r.place : Int) ≤ E → rdRun s f E n r = rdRun s f E n' r) (h1 : p < r.place) (h2 : r.place ≤ s.size) (hE : (r.place : Int) ≤ E) : rdLong M n s D f E deep r = rdLong M' n' s D f E deep r := by
  unfold rdLong rdLong2
  rcases rdVar_cases (E := E) h2 with ⟨c, a, h0, h⟩ | ⟨P, U, h, k1, k2, k3, _⟩
  · rw [h]; simp only
    rw [if_pos (by rw [bad_kind]; omega), if_pos (by rw [bad_kind]; omega)]
  · rw [h]; simp only
    rw [rdBody_same (r := r.to P) hM hn (by show p < P; omega) k2]
theorem rdStep_same {sch : List RM} {shape : Int} (hM : SameM s r.place M M') (hn : ∀ f E r', r.place < r'.place → r'.place ≤ s.size → (r'.place : Int) ≤ E → rdRun s f E n r' = rdRun s f E n' r') (h2 : r.place ≤ s.size) (hE : (r.place : Int) ≤ E) : rdStep M n s sch D shape E deep r = rdStep M' n' s sch D shape E deep r := by
  unfold rdStep
  rcases rdVar_cases (E := E) h2 with ⟨c, a, h0, h⟩ | ⟨P, U, h, k1, k2, k3, _⟩
  · rw [h]; simp only
    rw [if_pos (by rw [bad_kind]; omega), if_pos (by rw [bad_kind]; omega)]
  · rw [h]; simp only
    unfold rdTag2
    rw [rdLong_same (r := r.to P) hM hn (by show r.place < P; omega) k2 k3]
end
theorem msgRd_fuel {s : ByteArray} {sch : List RM} {D : Int} : ∀ (n : Nat) (sh E d : Int) (r : RdM), r.place ≤ s.size → (r.place : Int) ≤ E → s.size - r.place < n → msgRd s sch D n sh E d r = msgRd s sch D (n + 1) sh E d r
  | 0, sh, E, d, r, hp, hE, hn => by omega
  | n + 1, sh, E, d, r, hp, hE, hn => by
    by_cases h : (r.place : Int) < E ∧ r.fail.kind = 0
    · rw [msgRd_more h, msgRd_more h]
      rw [← rdStep_same (M := msgRd s sch D n) (M' := msgRd s sch D (n + 1)) (n := n) (n' := n + 1) (fun sh' E' d' r' k1 k2 k3 => msgRd_fuel n sh' E' d' r' k2 k3 (by omega)) (fun f E' r' k1 k2 k3 => rdRun_fuel n r' k2 k3 (by omega)) hp hE]
      obtain ⟨h1, h2⟩ := rdStep_adv (n := n) (sch := sch) (D := D) (shape := sh) (deep := d) (msgRd_adv n) hp hE h.2
      by_cases h3 : (rdStep (msgRd s sch D n) n s sch D sh E d r).fail.kind = 0
      · have h4 := h2 h3
        have h5 := h1.inn
        exact msgRd_fuel n _ _ _ _ h1.inn h1.upto (by omega)
      · rw [msgRd_end (fun h => h3 h.2), msgRd_end (fun h => h3 h.2)]
    · rw [msgRd_end h, msgRd_end h]
theorem msgRd_fuels {s : ByteArray} {sch : List RM} {D : Int} {n m : Nat} {sh E d : Int} {r : RdM} (hp : r.place ≤ s.size) (hE : (r.place : Int) ≤ E) (hn : s.size - r.place < n) (hm : n ≤ m) : msgRd s sch D n sh E d r = msgRd s sch D m sh E d r := by
  obtain ⟨k, rfl⟩ : ∃ k, m = n + k := ⟨m - n, by omega⟩
  clear hm
  induction k with
  | zero => rfl
  | succ k ih => rw [ih, msgRd_fuel (n + k) sh E d r hp hE (by omega)]; rfl
/-- What is told only grows. -/
def Grow (r r' : RdM) : Prop := ∃ X, r'.out = r.out ++ X
theorem Grow.refl (r : RdM) : Grow r r := ⟨[], by simp⟩
theorem Grow.same {r r' : RdM} (h : r'.out = r.out) : Grow r r' := ⟨[], by rw [h]; simp⟩
theorem Grow.tell (r : RdM) (e : Ev) : Grow r (r.tell e) := ⟨[e], rfl⟩
theorem Grow.trans {a b c : RdM} (h : Grow a b) (k : Grow b c) : Grow a c := by
  obtain ⟨X, h⟩ := h
  obtain ⟨Y, k⟩ := k
  exact ⟨X ++ Y, by rw [k, h, List.append_assoc]⟩
section
variable {M : Int → Int → Int → RdM → RdM} {n : Nat} {s : ByteArray} {D : Int} {f : RF} {start m : Nat} {x E deep : Int} {r : RdM}
end
end Go.Proofs.YtpkofbdfnbpfpaaGreat.Num


/-
  What a varint read up to a place has to do with one read at once. Plain.
-/
namespace Go.Proofs.YtpkofbdfnbpfpaaGreat.Num
open Go.RowKit Go.Proofs
theorem scan_ge : ∀ (l : List UInt8) (k u : Nat), match Var.scan k u l with | .more => True | .done _ m => k < m | .over j => k ≤ j
  | [], k, u => by simp [Var.scan]
  | c :: r, k, u => by
    have e : Var.scan k u (c :: r) = if k = 9 ∧ 1 < c.toNat then .over k else if c.toNat < 128 then .done (u + c.toNat % 128 * 2 ^ (7 * k)) (k + 1) else Var.scan (k + 1) (u + c.toNat % 128 * 2 ^ (7 * k)) r := by rw [Var.scan]
    by_cases h9 : k = 9 ∧ 1 < c.toNat
    · rw [e, if_pos h9]; exact Nat.le_refl k
    · by_cases hc : c.toNat < 128
      · rw [e, if_neg h9, if_pos hc]; exact Nat.lt_succ_self k
      · rw [e, if_neg h9, if_neg hc]
        have h := scan_ge r (k + 1) (u + c.toNat % 128 * 2 ^ (7 * k))
        generalize Var.scan (k + 1) (u + c.toNat % 128 * 2 ^ (7 * k)) r = q at h ⊢
        cases q <;> simp only at h ⊢ <;> omega
theorem scan_take : ∀ (l : List UInt8) (n k u : Nat), Var.scan k u (l.take n) = match Var.scan k u l with | .more => .more | .done v m => if m ≤ k + n then .done v m else .more | .over j => if j < k + n then .over j else .more
  | [], n, k, u => by simp [Var.scan]
  | c :: r, 0, k, u => by
    have h := scan_ge (c :: r) k u
    generalize Var.scan k u (c :: r) = q at h ⊢
    rw [List.take_zero]
    cases q with
    | more => rfl
    | done v m => simp only at h ⊢; rw [if_neg (by omega)]; rfl
    | over j => simp only at h ⊢; rw [if_neg (by omega)]; rfl
  | c :: r, n + 1, k, u => by
    rw [List.take_succ_cons]
    have ih := scan_take r n (k + 1) (u + c.toNat % 128 * 2 ^ (7 * k))
    simp only [Var.scan]
    split
    · next h => simp only; rw [if_pos (by omega)]
    · split
      · simp only; rw [if_pos (by omega)]
      · rw [ih, show k + 1 + n = k + (n + 1) by omega]
end Go.Proofs.YtpkofbdfnbpfpaaGreat.Num


/-
  Plain facts on a message that is read: it says the same wherever its bytes lie; two of them, one behind the other.
-/
namespace Go.Proofs.YtpkofbdfnbpfpaaGreat.Num
open Go.RowKit Go.Proofs
set_option linter.unusedVariables false

/-- N bytes of the one from a on are those of the other from b on. -/
structure Win (s t : ByteArray) (a b N : Nat) : Prop where
  l : a + N ≤ s.size
  r : b + N ≤ t.size
  eq : (s.data.toList.drop a).take N = (t.data.toList.drop b).take N
theorem Win.sub {s t : ByteArray} {a b N : Nat} (h : Win s t a b N) {i j : Nat} (hij : i + j ≤ N) : (s.data.toList.drop (a + i)).take j = (t.data.toList.drop (b + i)).take j := by
  have k : ∀ (u : List UInt8) c, (u.drop (c + i)).take j = (((u.drop c).take N).drop i).take j := by
    intro u c
    rw [List.drop_take, List.drop_drop, List.take_take, Nat.min_eq_left (by omega)]
  rw [k, k, h.eq]
theorem bad_no {r : RdM} {c a : Int} (h : (r.bad c a).fail.kind = 0) : False := by rw [bad_kind] at h; omega
section
variable {s t : ByteArray} {a b N i j : Nat} {o o' : List Ev} {z : Ev} {f : RF}
theorem rdVar_win (hw : Win s t a b N) (hz : z.kind = 0) (hi : i ≤ j) (hj : j ≤ N) (hs : (rdVar s ((a + j : Nat) : Int) ⟨a + i, o, z⟩).2.fail.kind = 0) :
    ∃ (i' : Nat) (U : Int), i < i' ∧ i' ≤ j ∧ rdVar s ((a + j : Nat) : Int) ⟨a + i, o, z⟩ = (U, ⟨a + i', o, z⟩) ∧ rdVar t ((b + j : Nat) : Int) ⟨b + i, o', z⟩ = (U, ⟨b + i', o', z⟩) := by
  have hl := hw.l
  have hr := hw.r
  unfold rdVar at hs ⊢
  simp only at hs ⊢
  rw [within_in (s := s) (by omega), show (((a + j : Nat) : Int) - ((a + i : Nat) : Int)).toNat = j - i by omega] at hs
  rw [within_in (s := s) (by omega), within_in (s := t) (by omega), show (((a + j : Nat) : Int) - ((a + i : Nat) : Int)).toNat = j - i by omega, show (((b + j : Nat) : Int) - ((b + i : Nat) : Int)).toNat = j - i by omega, ← hw.sub (i := i) (j := j - i) (by omega)]
  have hlen : ((s.data.toList.drop (a + i)).take (j - i)).length ≤ j - i := by rw [List.length_take]; omega
  have hd := fun v m => Var.scan_done ((s.data.toList.drop (a + i)).take (j - i)) 0 0 v m (by omega) (by omega)
  generalize Var.scan 0 0 ((s.data.toList.drop (a + i)).take (j - i)) = q at hs hd ⊢
  cases q with
  | more =>
    have h0 : (withinRes s ((a + i : Nat) : Int) ((a + j : Nat) : Int) .more).2.2 ≠ 0 := by
      unfold withinRes; simp only; split
      · show (9 : Int) ≠ 0; omega
      · show (10 : Int) ≠ 0; omega
    rw [if_pos h0] at hs
    exact (bad_no hs).elim
  | over k =>
    rw [if_pos (show (withinRes s ((a + i : Nat) : Int) ((a + j : Nat) : Int) (.over k)).2.2 ≠ 0 by show (1 : Int) ≠ 0; omega)] at hs
    exact (bad_no hs).elim
  | done v m =>
    obtain ⟨n', x', h1, h2, h3, h4, _⟩ := hd v m rfl
    rw [if_neg (show ¬ (withinRes s ((a + i : Nat) : Int) ((a + j : Nat) : Int) (.done v m)).2.2 ≠ 0 from fun h => h rfl), if_neg (show ¬ (withinRes t ((b + i : Nat) : Int) ((b + j : Nat) : Int) (.done v m)).2.2 ≠ 0 from fun h => h rfl)]
    refine ⟨i + m, (v : Int), by omega, by omega, ?_, ?_⟩
    · show ((v : Int), (⟨((((a + i : Nat) : Int)) + (m : Int)).toNat, o, z⟩ : RdM)) = _
      rw [show ((((a + i : Nat) : Int)) + (m : Int)).toNat = a + (i + m) by omega]
    · show ((v : Int), (⟨((((b + i : Nat) : Int)) + (m : Int)).toNat, o', z⟩ : RdM)) = _
      rw [show ((((b + i : Nat) : Int)) + (m : Int)).toNat = b + (i + m) by omega]
theorem rdFix_win {W : Int} (hw : Win s t a b N) (hz : z.kind = 0) (hi : i ≤ j) (hj : j ≤ N) (hs : (rdFix s W ((a + j : Nat) : Int) ⟨a + i, o, z⟩).2.fail.kind = 0) :
    ∃ (i' : Nat) (U : Int), i < i' ∧ i' ≤ j ∧ rdFix s W ((a + j : Nat) : Int) ⟨a + i, o, z⟩ = (U, ⟨a + i', o, z⟩) ∧ rdFix t W ((b + j : Nat) : Int) ⟨b + i, o', z⟩ = (U, ⟨b + i', o', z⟩) := by
  have hl := hw.l
  have hr := hw.r
  unfold rdFix at hs ⊢
  simp only at hs ⊢
  by_cases h1 : ((a + j : Nat) : Int) - ((a + i : Nat) : Int) < W
  · rw [if_pos h1] at hs; exact (bad_no hs).elim
  · rw [if_neg h1] at hs
    rw [if_neg h1, if_neg (by omega : ¬ ((b + j : Nat) : Int) - ((b + i : Nat) : Int) < W)]
    by_cases h2 : (W = 4 ∨ W = 8) ∧ 0 ≤ ((a + i : Nat) : Int) ∧ ((a + i : Nat) : Int) ≤ s.size - W
    · rw [getFix_yes h2, getFix_yes ⟨h2.1, by omega, by omega⟩, if_neg (by simp), if_neg (by simp)]
      refine ⟨i + W.toNat, _, by omega, by omega, by rw [show a + (i + W.toNat) = a + i + W.toNat by omega]; rfl, ?_⟩
      simp only [Int.toNat_natCast]
      rw [hw.sub (i := i) (j := W.toNat) (by omega), show b + (i + W.toNat) = b + i + W.toNat by omega]; rfl
    · rw [getFix_no h2, if_pos rfl] at hs; exact (bad_no hs).elim
theorem rdNum_win {x : Int} (hw : Win s t a b N) (hz : z.kind = 0) (hi : i ≤ j) (hj : j ≤ N) (hs : (rdNum s f x ((a + j : Nat) : Int) ⟨a + i, o, z⟩).fail.kind = 0) :
    ∃ (i' : Nat) (X : List Ev), i < i' ∧ i' ≤ j ∧ rdNum s f x ((a + j : Nat) : Int) ⟨a + i, o, z⟩ = ⟨a + i', o ++ X, z⟩ ∧ rdNum t f x ((b + j : Nat) : Int) ⟨b + i, o', z⟩ = ⟨b + i', o' ++ X, z⟩ := by
  have hs' : (rdRaw s x ((a + j : Nat) : Int) ⟨a + i, o, z⟩).2.fail.kind = 0 := by
    unfold rdNum rdTold at hs
    split at hs
    · exact hs
    · exact hs
  have key : ∃ (i' : Nat) (U : Int), i < i' ∧ i' ≤ j ∧ rdRaw s x ((a + j : Nat) : Int) ⟨a + i, o, z⟩ = (U, ⟨a + i', o, z⟩) ∧ rdRaw t x ((b + j : Nat) : Int) ⟨b + i, o', z⟩ = (U, ⟨b + i', o', z⟩) := by
    unfold rdRaw at hs' ⊢
    by_cases h0 : x = 0
    · rw [if_pos h0] at hs' ⊢; rw [if_pos h0]; exact rdVar_win hw hz hi hj hs'
    · rw [if_neg h0] at hs' ⊢; rw [if_neg h0]; exact rdFix_win hw hz hi hj hs'
  obtain ⟨i', U, h1, h2, h3, h4⟩ := key
  unfold rdNum
  rw [h3, h4]
  unfold rdTold
  simp only
  by_cases hf : z.kind = 0 ∧ 0 < f.1
  · rw [if_pos hf, if_pos hf]; exact ⟨i', [numE f U.toNat], h1, h2, rfl, rfl⟩
  · rw [if_neg hf, if_neg hf]; exact ⟨i', [], h1, h2, by simp, by simp⟩
theorem rdRun_win (hw : Win s t a b N) (hz : z.kind = 0) (hj : j ≤ N) : ∀ (n i : Nat) (o o' : List Ev), i ≤ j → (rdRun s f ((a + j : Nat) : Int) n ⟨a + i, o, z⟩).fail.kind = 0 →
    ∃ (i' : Nat) (X : List Ev), i ≤ i' ∧ i' ≤ j ∧ rdRun s f ((a + j : Nat) : Int) n ⟨a + i, o, z⟩ = ⟨a + i', o ++ X, z⟩ ∧ rdRun t f ((b + j : Nat) : Int) n ⟨b + i, o', z⟩ = ⟨b + i', o' ++ X, z⟩
  | 0, i, o, o', hi, hs => ⟨i, [], Nat.le_refl _, hi, by simp [rdRun], by simp [rdRun]⟩
  | n + 1, i, o, o', hi, hs => by
    by_cases h : i < j
    · have h1 : (((⟨a + i, o, z⟩ : RdM).place : Nat) : Int) < ((a + j : Nat) : Int) ∧ (⟨a + i, o, z⟩ : RdM).fail.kind = 0 := ⟨by show ((a + i : Nat) : Int) < _; omega, hz⟩
      have h2 : (((⟨b + i, o', z⟩ : RdM).place : Nat) : Int) < ((b + j : Nat) : Int) ∧ (⟨b + i, o', z⟩ : RdM).fail.kind = 0 := ⟨by show ((b + i : Nat) : Int) < _; omega, hz⟩
      rw [rdRun_more h1] at hs
      rw [rdRun_more h1, rdRun_more h2]
      by_cases h3 : (rdNum s f (wireR f.2.1) ((a + j : Nat) : Int) ⟨a + i, o, z⟩).fail.kind = 0
      · obtain ⟨i1, X, k1, k2, k3, k4⟩ := rdNum_win (o' := o') hw hz hi hj h3
        rw [k3] at hs ⊢
        rw [k4]
        obtain ⟨i2, Y, m1, m2, m3, m4⟩ := rdRun_win hw hz hj n i1 (o ++ X) (o' ++ X) k2 hs
        exact ⟨i2, X ++ Y, by omega, m2, by rw [m3, List.append_assoc], by rw [m4, List.append_assoc]⟩
      · rw [rdRun_end (fun h => h3 h.2)] at hs; exact absurd hs h3
    · rw [rdRun_end (fun g => by have g' : ((a + i : Nat) : Int) < ((a + j : Nat) : Int) := g.1; omega), rdRun_end (fun g => by have g' : ((b + i : Nat) : Int) < ((b + j : Nat) : Int) := g.1; omega)]
      exact ⟨i, [], Nat.le_refl _, hi, by simp, by simp⟩
theorem there_win {m : Nat} (hw : Win s t a b N) (hm : i + m ≤ N) : thereB s (a + i) m = thereB t (b + i) m := by
  have hl := hw.l
  have hr := hw.r
  unfold thereB
  rw [Nat.min_eq_right (by omega), Nat.min_eq_right (by omega)]
  refine ba_ext ?_
  rw [ba_ext_list _ _ _ (by omega), ba_ext_list _ _ _ (by omega), List.drop_take, List.drop_take, show a + i + m - (a + i) = m by omega, show b + i + m - (b + i) = m by omega]
  exact hw.sub hm
theorem rdPayload_win {m : Nat} (hw : Win s t a b N) (hz : z.kind = 0) (hm : i + m ≤ N) (hs : (rdPayload s f m ⟨a + i, o, z⟩).fail.kind = 0) :
    ∃ X : List Ev, rdPayload s f m ⟨a + i, o, z⟩ = ⟨a + (i + m), o ++ X, z⟩ ∧ rdPayload t f m ⟨b + i, o', z⟩ = ⟨b + (i + m), o' ++ X, z⟩ := by
  have hl := hw.l
  have hr := hw.r
  unfold rdPayload at hs ⊢
  simp only at hs ⊢
  rw [← there_win hw hm]
  have hsz : ¬ (thereB s (a + i) m).size < m := by
    unfold thereB; rw [Nat.min_eq_right (by omega), ba_extract_size _ _ _ (by omega)]; omega
  generalize thereB s (a + i) m = y at hs hsz ⊢
  generalize utfOf f.2.1 y = q at hs ⊢
  obtain ⟨st, b⟩ := q
  have hpart : ∀ (Y : ByteArray) (p : Nat) (o : List Ev), rdPart Y ((⟨p, o, z⟩ : RdM).tell (openE f.1 m)) = ⟨p, o ++ (openE f.1 m :: if Y.size = 0 then [] else [partE Y]), z⟩ := by
    intro Y p o
    unfold rdPart
    split
    · rfl
    · show (⟨p, o ++ [openE f.1 m] ++ [partE Y], z⟩ : RdM) = _
      rw [List.append_assoc]; rfl
  rw [hpart] at hs
  rw [hpart, hpart]
  generalize (openE f.1 m :: if (frontB y b).size = 0 then [] else [partE (frontB y b)]) = X at hs ⊢
  unfold rdEnd at hs ⊢
  cases b with
  | some k => exact (bad_no hs).elim
  | none =>
    simp only at hs ⊢
    rw [if_neg hsz] at hs
    rw [if_neg hsz, if_neg hsz]
    by_cases h : 0 < st.1
    · rw [if_pos h] at hs; exact (bad_no hs).elim
    · rw [if_neg h, if_neg h]
      refine ⟨X ++ [shutE], ?_, ?_⟩
      · show (⟨a + i + m, o ++ X ++ [shutE], z⟩ : RdM) = _
        rw [List.append_assoc, Nat.add_assoc]
      · show (⟨_ + i + m, o' ++ X ++ [shutE], z⟩ : RdM) = _
        rw [List.append_assoc, Nat.add_assoc]
end
/-- Both read the same in both windows. -/
def WinM (a b N : Nat) (z : Ev) (M M' : Int → Int → Int → RdM → RdM) : Prop := ∀ sh d (i j : Nat) (o o' : List Ev), i ≤ j → j ≤ N → (M sh ((a + j : Nat) : Int) d ⟨a + i, o, z⟩).fail.kind = 0 →
  ∃ (i' : Nat) (X : List Ev), i ≤ i' ∧ i' ≤ j ∧ M sh ((a + j : Nat) : Int) d ⟨a + i, o, z⟩ = ⟨a + i', o ++ X, z⟩ ∧ M' sh ((b + j : Nat) : Int) d ⟨b + i, o', z⟩ = ⟨b + i', o' ++ X, z⟩
section
variable {s t : ByteArray} {a b N i j : Nat} {o o' : List Ev} {z : Ev} {f : RF} {M M' : Int → Int → Int → RdM → RdM} {n : Nat} {D deep : Int} {start start' : Nat}
theorem rdBody_win {m : Nat} (hM : WinM a b N z M M') (hw : Win s t a b N) (hz : z.kind = 0) (hm : i + m ≤ N) (hs : (rdBody M n s D f start m deep ⟨a + i, o, z⟩).fail.kind = 0) :
    ∃ (i' : Nat) (X : List Ev), i ≤ i' ∧ i' ≤ i + m ∧ rdBody M n s D f start m deep ⟨a + i, o, z⟩ = ⟨a + i', o ++ X, z⟩ ∧ rdBody M' n t D f start' m deep ⟨b + i, o', z⟩ = ⟨b + i', o' ++ X, z⟩ := by
  have hl := hw.l
  have hr := hw.r
  unfold rdBody at hs ⊢
  simp only at hs ⊢
  by_cases h1 : f.1 = 0
  · rw [if_pos h1, if_pos h1, if_neg (by omega), if_neg (by omega)]
    refine ⟨i + m, [], by omega, by omega, ?_, ?_⟩
    · show (⟨a + i + m, o, z⟩ : RdM) = _
      rw [List.append_nil, Nat.add_assoc]
    · show (⟨b + i + m, o', z⟩ : RdM) = _
      rw [List.append_nil, Nat.add_assoc]
  · rw [if_neg h1] at hs
    rw [if_neg h1, if_neg h1]
    by_cases h2 : f.2.1 = 8
    · rw [if_pos h2] at hs
      rw [if_pos h2, if_pos h2]
      by_cases h3 : D ≤ deep
      · rw [if_pos h3] at hs; exact (bad_no hs).elim
      · rw [if_neg h3] at hs
        rw [if_neg h3, if_neg h3]
        by_cases h4 : (M f.2.2.2.2 ((a + i + m : Nat) : Int) (deep + 1) ((⟨a + i, o, z⟩ : RdM).tell (downE f.1 m))).fail.kind = 0
        · have h5 := h4
          rw [Nat.add_assoc] at h5
          obtain ⟨i', X, k1, k2, k3, k4⟩ := hM f.2.2.2.2 (deep + 1) i (i + m) (o ++ [downE f.1 m]) (o' ++ [downE f.1 m]) (by omega) hm h5
          have k3' : M f.2.2.2.2 ((a + i + m : Nat) : Int) (deep + 1) ((⟨a + i, o, z⟩ : RdM).tell (downE f.1 m)) = ⟨a + i', o ++ [downE f.1 m] ++ X, z⟩ := by rw [Nat.add_assoc]; exact k3
          have k4' : M' f.2.2.2.2 ((b + i + m : Nat) : Int) (deep + 1) ((⟨b + i, o', z⟩ : RdM).tell (downE f.1 m)) = ⟨b + i', o' ++ [downE f.1 m] ++ X, z⟩ := by rw [Nat.add_assoc]; exact k4
          rw [k3', k4', if_pos hz, if_pos hz]
          refine ⟨i', downE f.1 m :: (X ++ [upE]), k1, k2, ?_, ?_⟩
          · show (⟨a + i', o ++ [downE f.1 m] ++ X ++ [upE], z⟩ : RdM) = _
            simp [List.append_assoc]
          · show (⟨b + i', o' ++ [downE f.1 m] ++ X ++ [upE], z⟩ : RdM) = _
            simp [List.append_assoc]
        · rw [if_neg h4] at hs; exact absurd hs h4
    · rw [if_neg h2] at hs
      rw [if_neg h2, if_neg h2]
      by_cases h3 : f.2.1 = 6 ∨ f.2.1 = 7
      · rw [if_pos h3] at hs
        rw [if_pos h3, if_pos h3]
        obtain ⟨X, k1, k2⟩ := rdPayload_win (o' := o') hw hz hm hs
        exact ⟨i + m, X, by omega, by omega, k1, k2⟩
      · rw [if_neg h3] at hs
        rw [if_neg h3, if_neg h3]
        rw [Nat.add_assoc] at hs ⊢
        rw [Nat.add_assoc]
        exact rdRun_win hw hz hm n i o o' (by omega) hs
theorem rdLong_win (hM : WinM a b N z M M') (hw : Win s t a b N) (hz : z.kind = 0) (hi : i ≤ j) (hj : j ≤ N) (hs : (rdLong M n s D f ((a + j : Nat) : Int) deep ⟨a + i, o, z⟩).fail.kind = 0) :
    ∃ (i' : Nat) (X : List Ev), i ≤ i' ∧ i' ≤ j ∧ rdLong M n s D f ((a + j : Nat) : Int) deep ⟨a + i, o, z⟩ = ⟨a + i', o ++ X, z⟩ ∧ rdLong M' n t D f ((b + j : Nat) : Int) deep ⟨b + i, o', z⟩ = ⟨b + i', o' ++ X, z⟩ := by
  have hl := hw.l
  have hr := hw.r
  unfold rdLong rdLong2 at hs ⊢
  by_cases h1 : (rdVar s ((a + j : Nat) : Int) ⟨a + i, o, z⟩).2.fail.kind = 0
  · obtain ⟨i1, U, k1, k2, k3, k4⟩ := rdVar_win (o' := o') hw hz hi hj h1
    rw [k3] at hs ⊢
    rw [k4]
    simp only at hs ⊢
    have hz' : ¬ z.kind ≠ 0 := fun h => h hz
    rw [if_neg hz'] at hs
    rw [if_neg hz', if_neg hz']
    by_cases h2 : ((a + j : Nat) : Int) - ((a + i1 : Nat) : Int) < U
    · rw [if_pos h2] at hs; exact (bad_no hs).elim
    · rw [if_neg h2] at hs
      rw [if_neg h2, if_neg (by omega : ¬ ((b + j : Nat) : Int) - ((b + i1 : Nat) : Int) < U)]
      obtain ⟨i2, X, m1, m2, m3, m4⟩ := rdBody_win (start' := b + i) (o' := o') hM hw hz (by omega) hs
      exact ⟨i2, X, by omega, by omega, m3, m4⟩
  · rw [if_pos h1] at hs; exact absurd hs h1
theorem rdStep_win {sch : List RM} {shape : Int} (hM : WinM a b N z M M') (hw : Win s t a b N) (hz : z.kind = 0) (hi : i ≤ j) (hj : j ≤ N) (hs : (rdStep M n s sch D shape ((a + j : Nat) : Int) deep ⟨a + i, o, z⟩).fail.kind = 0) :
    ∃ (i' : Nat) (X : List Ev), i ≤ i' ∧ i' ≤ j ∧ rdStep M n s sch D shape ((a + j : Nat) : Int) deep ⟨a + i, o, z⟩ = ⟨a + i', o ++ X, z⟩ ∧ rdStep M' n t sch D shape ((b + j : Nat) : Int) deep ⟨b + i, o', z⟩ = ⟨b + i', o' ++ X, z⟩ := by
  unfold rdStep at hs ⊢
  by_cases h1 : (rdVar s ((a + j : Nat) : Int) ⟨a + i, o, z⟩).2.fail.kind = 0
  · obtain ⟨i1, U, k1, k2, k3, k4⟩ := rdVar_win (o' := o') hw hz hi hj h1
    rw [k3] at hs ⊢
    rw [k4]
    simp only at hs ⊢
    have hz' : ¬ z.kind ≠ 0 := fun h => h hz
    rw [if_neg hz'] at hs
    rw [if_neg hz', if_neg hz']
    generalize fieldAtR sch shape (tagInR U.toNat).1 = fk at hs ⊢
    generalize tagInR U.toNat = tg at hs ⊢
    unfold rdTag2 at hs ⊢
    by_cases c1 : tg.2.2 = false
    · rw [if_pos c1] at hs; exact (bad_no hs).elim
    · rw [if_neg c1] at hs
      rw [if_neg c1, if_neg c1]
      by_cases c2 : wireOkB tg.2.1 = false
      · rw [if_pos c2] at hs; exact (bad_no hs).elim
      · rw [if_neg c2] at hs
        rw [if_neg c2, if_neg c2]
        by_cases c3 : (fk.2 && !allowedB fk.1 tg.2.1) = true
        · rw [if_pos c3] at hs; exact (bad_no hs).elim
        · rw [if_neg c3] at hs
          rw [if_neg c3, if_neg c3]
          by_cases c4 : tg.2.1 = 2
          · rw [if_pos c4] at hs
            rw [if_pos c4, if_pos c4]
            obtain ⟨i2, X, m1, m2, m3, m4⟩ := rdLong_win (o' := o') hM hw hz k2 hj hs
            exact ⟨i2, X, by omega, m2, m3, m4⟩
          · rw [if_neg c4] at hs
            rw [if_neg c4, if_neg c4]
            obtain ⟨i2, X, m1, m2, m3, m4⟩ := rdNum_win (o' := o') hw hz k2 hj hs
            exact ⟨i2, X, by omega, m2, m3, m4⟩
  · rw [if_pos h1] at hs; exact absurd hs h1
end
theorem msgRd_win {s t : ByteArray} {sch : List RM} {D : Int} {a b N : Nat} {z : Ev} (hw : Win s t a b N) (hz : z.kind = 0) : ∀ n, WinM a b N z (msgRd s sch D n) (msgRd t sch D n)
  | 0 => fun sh d i j o o' hi hj hs => ⟨i, [], Nat.le_refl _, hi, by simp [msgRd], by simp [msgRd]⟩
  | n + 1 => fun sh d i j o o' hi hj hs => by
    by_cases h : i < j
    · have h1 : (((⟨a + i, o, z⟩ : RdM).place : Nat) : Int) < ((a + j : Nat) : Int) ∧ (⟨a + i, o, z⟩ : RdM).fail.kind = 0 := ⟨by show ((a + i : Nat) : Int) < _; omega, hz⟩
      have h2 : (((⟨b + i, o', z⟩ : RdM).place : Nat) : Int) < ((b + j : Nat) : Int) ∧ (⟨b + i, o', z⟩ : RdM).fail.kind = 0 := ⟨by show ((b + i : Nat) : Int) < _; omega, hz⟩
      rw [msgRd_more h1] at hs
      rw [msgRd_more h1, msgRd_more h2]
      by_cases h3 : (rdStep (msgRd s sch D n) n s sch D sh ((a + j : Nat) : Int) d ⟨a + i, o, z⟩).fail.kind = 0
      · obtain ⟨i1, X, k1, k2, k3, k4⟩ := rdStep_win (o' := o') (msgRd_win hw hz n) hw hz hi hj h3
        rw [k3] at hs ⊢
        rw [k4]
        obtain ⟨i2, Y, m1, m2, m3, m4⟩ := msgRd_win hw hz n sh d i1 j (o ++ X) (o' ++ X) k2 hj hs
        exact ⟨i2, X ++ Y, by omega, m2, by rw [m3, List.append_assoc], by rw [m4, List.append_assoc]⟩
      · rw [msgRd_end (fun h => h3 h.2)] at hs; exact absurd hs h3
    · rw [msgRd_end (fun g => by have g' : ((a + i : Nat) : Int) < ((a + j : Nat) : Int) := g.1; omega), msgRd_end (fun g => by have g' : ((b + i : Nat) : Int) < ((b + j : Nat) : Int) := g.1; omega)]
      exact ⟨i, [], Nat.le_refl _, hi, by simp, by simp⟩
end Go.Proofs.YtpkofbdfnbpfpaaGreat.Num


/-
  Plain facts on a message that is read: one whose end lies further behind; two messages, one behind the other.
-/
namespace Go.Proofs.YtpkofbdfnbpfpaaGreat.Num
open Go.RowKit Go.Proofs
set_option linter.unusedVariables false

section
variable {s : ByteArray} {f : RF} {E E' : Int} {r : RdM}
theorem rdVar_wide (hp : r.place ≤ s.size) (hE : E ≤ E') (hs : (rdVar s E r).2.fail.kind = 0) : rdVar s E' r = rdVar s E r := by
  unfold rdVar at hs ⊢
  rw [within_in (s := s) hp] at hs ⊢
  rw [within_in (s := s) hp]
  have e : (s.data.toList.drop r.place).take (E - r.place).toNat = ((s.data.toList.drop r.place).take (E' - r.place).toNat).take (E - r.place).toNat := by
    rw [List.take_take, Nat.min_eq_left (by omega)]
  rw [e] at hs ⊢
  generalize (s.data.toList.drop r.place).take (E' - r.place).toNat = l at hs ⊢
  rw [scan_take] at hs ⊢
  have h0 : ∀ F : Int, (withinRes s (r.place : Int) F .more).2.2 ≠ 0 := by
    intro F
    unfold withinRes; simp only; split
    · show (9 : Int) ≠ 0; omega
    · show (10 : Int) ≠ 0; omega
  generalize Var.scan 0 0 l = q at hs ⊢
  cases q with
  | more =>
    simp only at hs
    rw [if_pos (h0 E)] at hs
    exact (bad_no hs).elim
  | over k =>
    simp only at hs
    split at hs
    · rw [if_pos (show (withinRes s (r.place : Int) E (.over k)).2.2 ≠ 0 by show (1 : Int) ≠ 0; omega)] at hs
      exact (bad_no hs).elim
    · rw [if_pos (h0 E)] at hs
      exact (bad_no hs).elim
  | done v m =>
    simp only at hs ⊢
    by_cases h : m ≤ 0 + (E - (r.place : Int)).toNat
    · rw [if_pos h]; rfl
    · rw [if_neg h, if_pos (h0 E)] at hs
      exact (bad_no hs).elim
theorem rdFix_wide {W : Int} (hE : E ≤ E') (hs : (rdFix s W E r).2.fail.kind = 0) : rdFix s W E' r = rdFix s W E r := by
  unfold rdFix at hs ⊢
  by_cases h1 : E - r.place < W
  · rw [if_pos h1] at hs; exact (bad_no hs).elim
  · rw [if_neg h1, if_neg (by omega : ¬ E' - r.place < W)]
theorem rdNum_wide {x : Int} (hp : r.place ≤ s.size) (hE : E ≤ E') (hs : (rdNum s f x E r).fail.kind = 0) : rdNum s f x E' r = rdNum s f x E r := by
  have hs' : (rdRaw s x E r).2.fail.kind = 0 := by
    unfold rdNum rdTold at hs
    split at hs
    · exact hs
    · exact hs
  have key : rdRaw s x E' r = rdRaw s x E r := by
    unfold rdRaw at hs' ⊢
    by_cases h0 : x = 0
    · rw [if_pos h0] at hs' ⊢; rw [if_pos h0]; exact rdVar_wide hp hE hs'
    · rw [if_neg h0] at hs' ⊢; rw [if_neg h0]; exact rdFix_wide hE hs'
  unfold rdNum
  rw [key]
theorem rdStep_wide {M : Int → Int → Int → RdM → RdM} {n : Nat} {sch : List RM} {D shape deep : Int} (hp : r.place ≤ s.size) (hE : E ≤ E') (hs : (rdStep M n s sch D shape E deep r).fail.kind = 0) : rdStep M n s sch D shape E' deep r = rdStep M n s sch D shape E deep r := by
  have hv : (rdVar s E r).2.fail.kind = 0 := by
    by_cases h : (rdVar s E r).2.fail.kind = 0
    · exact h
    · unfold rdStep at hs; rw [if_pos h] at hs; exact hs
  have hw := rdVar_wide hp hE hv
  have hn : ¬ (rdVar s E r).2.fail.kind ≠ 0 := fun h => h hv
  have hq : (rdVar s E r).2.place ≤ s.size := by
    rcases rdVar_cases (E := E) hp with ⟨c, a, h0, h⟩ | ⟨P, U, h, h1, h2, h3, _⟩
    · rw [h]; exact hp
    · rw [h]; exact h2
  unfold rdStep at hs ⊢
  rw [if_neg hn] at hs
  rw [hw, if_neg hn, if_neg hn]
  generalize (rdVar s E r).2 = q at hs hq ⊢
  generalize fieldAtR sch shape (tagInR (rdVar s E r).1.toNat).1 = fk at hs ⊢
  generalize tagInR (rdVar s E r).1.toNat = tg at hs ⊢
  unfold rdTag2 at hs ⊢
  by_cases c1 : tg.2.2 = false
  · rw [if_pos c1] at hs; exact (bad_no hs).elim
  · rw [if_neg c1] at hs
    rw [if_neg c1, if_neg c1]
    by_cases c2 : wireOkB tg.2.1 = false
    · rw [if_pos c2] at hs; exact (bad_no hs).elim
    · rw [if_neg c2] at hs
      rw [if_neg c2, if_neg c2]
      by_cases c3 : (fk.2 && !allowedB fk.1 tg.2.1) = true
      · rw [if_pos c3] at hs; exact (bad_no hs).elim
      · rw [if_neg c3] at hs
        rw [if_neg c3, if_neg c3]
        by_cases c4 : tg.2.1 = 2
        · rw [if_pos c4] at hs
          rw [if_pos c4, if_pos c4]
          unfold rdLong rdLong2 at hs ⊢
          by_cases d1 : (rdVar s E q).2.fail.kind = 0
          · have d1' : ¬ (rdVar s E q).2.fail.kind ≠ 0 := fun h => h d1
            rw [if_neg d1'] at hs
            rw [rdVar_wide hq hE d1, if_neg d1', if_neg d1']
            by_cases d2 : E - ((rdVar s E q).2.place : Int) < (rdVar s E q).1
            · rw [if_pos d2] at hs; exact (bad_no hs).elim
            · rw [if_neg d2, if_neg (by omega : ¬ E' - ((rdVar s E q).2.place : Int) < (rdVar s E q).1)]
          · rw [if_pos d1] at hs; exact absurd hs d1
        · rw [if_neg c4] at hs
          rw [if_neg c4, if_neg c4]
          exact rdNum_wide hq hE hs
end
/-- Where it does not fail, it ends at its end. -/
theorem msgRd_done {s : ByteArray} {sch : List RM} {D : Int} : ∀ (n : Nat) (sh E d : Int) (r : RdM), r.place ≤ s.size → (r.place : Int) ≤ E → s.size - r.place < n → (msgRd s sch D n sh E d r).fail.kind = 0 → ((msgRd s sch D n sh E d r).place : Int) = E
  | 0, sh, E, d, r, hp, hE, hn, hs => by omega
  | n + 1, sh, E, d, r, hp, hE, hn, hs => by
    by_cases h : (r.place : Int) < E ∧ r.fail.kind = 0
    · rw [msgRd_more h] at hs ⊢
      obtain ⟨h1, h2⟩ := rdStep_adv (n := n) (sch := sch) (D := D) (shape := sh) (deep := d) (msgRd_adv n) hp hE h.2
      by_cases h3 : (rdStep (msgRd s sch D n) n s sch D sh E d r).fail.kind = 0
      · have h4 := h2 h3
        have h5 := h1.inn
        exact msgRd_done n sh E d _ h1.inn h1.upto (by omega) hs
      · rw [msgRd_end (fun h => h3 h.2)] at hs; exact absurd hs h3
    · rw [msgRd_end h] at hs ⊢
      by_cases h' : (r.place : Int) < E
      · exact absurd ⟨h', hs⟩ h
      · omega
/-- Where the end lies further behind, it goes on from there. -/
theorem msgRd_wide {s : ByteArray} {sch : List RM} {D : Int} : ∀ (n : Nat) (sh E E' d : Int) (r : RdM), r.place ≤ s.size → (r.place : Int) ≤ E → E ≤ E' → s.size - r.place < n → (msgRd s sch D n sh E d r).fail.kind = 0 → msgRd s sch D n sh E' d r = msgRd s sch D n sh E' d (msgRd s sch D n sh E d r)
  | 0, sh, E, E', d, r, hp, hE, hEE, hn, hs => by omega
  | n + 1, sh, E, E', d, r, hp, hE, hEE, hn, hs => by
    by_cases h : (r.place : Int) < E ∧ r.fail.kind = 0
    · have h' : (r.place : Int) < E' ∧ r.fail.kind = 0 := ⟨by omega, h.2⟩
      rw [msgRd_more h] at hs
      rw [msgRd_more h, msgRd_more h']
      obtain ⟨h1, h2⟩ := rdStep_adv (n := n) (sch := sch) (D := D) (shape := sh) (deep := d) (msgRd_adv n) hp hE h.2
      by_cases h3 : (rdStep (msgRd s sch D n) n s sch D sh E d r).fail.kind = 0
      · have h4 := h2 h3
        have h5 := h1.inn
        rw [rdStep_wide hp hEE h3]
        have hi := msgRd_wide n sh E E' d _ h1.inn h1.upto hEE (by omega) hs
        have ha := msgRd_adv (sch := sch) (D := D) n sh E d (rdStep (msgRd s sch D n) n s sch D sh E d r) h1.inn h1.upto
        have hb := ha.le
        have hc := ha.inn
        rw [hi]
        exact msgRd_fuel n sh E' d _ ha.inn (by have := ha.upto; omega) (by omega)
      · rw [msgRd_end (fun h => h3 h.2)] at hs; exact absurd hs h3
    · rw [msgRd_end h]
theorem win_one {s : ByteArray} {a e : Nat} (ha : a ≤ e) (he : e ≤ s.size) : Win s (s.extract a e ++ s.extract a e) a 0 (e - a) := by
  have hz := ba_extract_size s a e he
  refine ⟨by omega, by rw [ba_app_size]; omega, ?_⟩
  rw [ba_app, List.drop_zero, List.take_append_of_le_length (by rw [← ba_size]; omega), ba_ext_list s a e he, List.drop_take, List.take_take, Nat.min_self]
theorem win_two {s : ByteArray} {a e : Nat} (ha : a ≤ e) (he : e ≤ s.size) : Win s (s.extract a e ++ s.extract a e) a (e - a) (e - a) := by
  have hz := ba_extract_size s a e he
  refine ⟨by omega, by rw [ba_app_size]; omega, ?_⟩
  rw [ba_app, List.drop_append_of_le_length (by rw [← ba_size]; omega), show (s.extract a e).data.toList.drop (e - a) = [] from List.drop_of_length_le (by rw [← ba_size]; omega), List.nil_append, ba_ext_list s a e he, List.drop_take, List.take_take, Nat.min_self]
/-- The whole, twice. -/
theorem readR_two {sch : List RM} {A B C shape : Int} {s : ByteArray} {a E deep : Int} (ha : 0 ≤ a) (haE : a ≤ E) (hE : E ≤ s.size) (hs : (readR sch A B C shape s a E deep).2.kind = 0) :
    (readR sch A B C shape (s.extract a.toNat E.toNat ++ s.extract a.toNat E.toNat) 0 ((s.extract a.toNat E.toNat ++ s.extract a.toNat E.toNat).size : Int) deep) = ((readR sch A B C shape s a E deep).1 ++ (readR sch A B C shape s a E deep).1, zeroE) := by
  have hb : (s.extract a.toNat E.toNat ++ s.extract a.toNat E.toNat).size = (E.toNat - a.toNat) + (E.toNat - a.toNat) := by rw [ba_app_size, ba_extract_size _ _ _ (by omega)]
  have w1 := win_one (s := s) (a := a.toNat) (e := E.toNat) (by omega) (by omega)
  have w2 := win_two (s := s) (a := a.toNat) (e := E.toNat) (by omega) (by omega)
  generalize s.extract a.toNat E.toNat ++ s.extract a.toNat E.toNat = y at hb w1 w2 ⊢
  have e : rdOkB sch A B C shape y 0 (y.size : Int) deep = rdOkB sch A B C shape s a E deep := by
    unfold rdOkB
    rw [decide_eq_true (show (0 : Int) ≤ 0 ∧ (0 : Int) ≤ (y.size : Int) by omega), decide_eq_true (show (0 : Int) ≤ (y.size : Int) by omega), decide_eq_true (show 0 ≤ a ∧ a ≤ (s.size : Int) by omega), decide_eq_true haE]
  unfold readR at hs ⊢
  rw [e]
  by_cases h : rdOkB sch A B C shape s a E deep = true
  · rw [if_pos h] at hs
    rw [if_pos h, if_pos h]
    simp only at hs ⊢
    obtain ⟨e', rfl⟩ : ∃ e' : Nat, E = (e' : Int) := ⟨E.toNat, by omega⟩
    obtain ⟨a', rfl⟩ : ∃ a' : Nat, a = (a' : Int) := ⟨a.toNat, by omega⟩
    simp only [Int.toNat_natCast] at hs hb w1 w2 ⊢
    obtain ⟨N, rfl⟩ : ∃ N, e' = a' + N := ⟨e' - a', by omega⟩
    rw [show a' + N - a' = N by omega] at hb w1 w2
    rw [msgRd_fuels (s := s) (m := s.size + y.size + 1) (by show a' ≤ _; omega) (by show (a' : Int) ≤ _; omega) (by omega) (by omega)] at hs ⊢
    rw [msgRd_fuels (s := y) (m := s.size + y.size + 1) (by show (0 : Int).toNat ≤ _; omega) (by show ((0 : Int).toNat : Int) ≤ _; omega) (by omega) (by omega)]
    obtain ⟨i1, X, k1, k2, k3, k4⟩ := msgRd_win (sch := sch) (D := B) w1 (z := zeroE) rfl (s.size + y.size + 1) shape deep 0 N [] [] (by omega) (by omega) hs
    obtain ⟨i2, X2, m1, m2, m3, m4⟩ := msgRd_win (sch := sch) (D := B) w2 (z := zeroE) rfl (s.size + y.size + 1) shape deep 0 N [] X (by omega) (by omega) hs
    have hX : X2 = X := by
      have q := k3.symm.trans m3
      injection q with q1 q2
      simpa using q2.symm
    subst hX
    simp only [Nat.zero_add, Nat.add_zero, List.nil_append] at k3 k4 m3 m4
    rw [k3]
    have d1 := msgRd_done (s := y) (sch := sch) (D := B) (s.size + y.size + 1) shape (N : Int) deep ⟨0, [], zeroE⟩ (by show 0 ≤ _; omega) (by show ((0 : Nat) : Int) ≤ _; omega) (by omega) (by rw [k4]; rfl)
    have hw := msgRd_wide (s := y) (sch := sch) (D := B) (s.size + y.size + 1) shape (N : Int) (y.size : Int) deep ⟨0, [], zeroE⟩ (by show 0 ≤ _; omega) (by show ((0 : Nat) : Int) ≤ _; omega) (by omega) (by omega) (by rw [k4]; rfl)
    rw [k4] at d1
    have d1' : i1 = N := by have d : ((i1 : Nat) : Int) = (N : Int) := d1; omega
    subst d1'
    rw [k4] at hw
    have hy : ((i1 + i1 : Nat) : Int) = (y.size : Int) := by rw [hb]
    rw [hy] at m4
    rw [show (⟨(0 : Int).toNat, [], zeroE⟩ : RdM) = ⟨0, [], zeroE⟩ from rfl, hw, m4]
  · rw [if_neg h, if_neg h]; rfl
end Go.Proofs.YtpkofbdfnbpfpaaGreat.Num

