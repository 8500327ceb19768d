/-
  Several texts in one: MsgFuel WithinLaw MsgDeep.
-/
import Derived.Test.YtpkofbdfnbpfpaaGreatXSpecB
import Derived.Test.YtpkofbdfnbpfpaaGreatXSpecA

/-
  Plain facts on a message that is read: how many fields may still come does not matter, if it is more than bytes are left; what is told only grows; one whose end lies further behind.
-/
namespace Go.Proofs.YtpkofbdfnbpfpaaGreat.Num
open Go.RowKit Go.Proofs
set_option linter.unusedVariables false

/-- Both read the same from any place behind p. -/
def SameM (s : ByteArray) (p : Nat) (M M' : Int → Int → Int → RdM → RdM) : Prop := ∀ sh E d r, p < r.place → r.place ≤ s.size → (r.place : Int) ≤ E → M sh E d r = M' sh E d r
theorem rdRun_fuel {s : ByteArray} {f : RF} {E : Int} : ∀ (n : Nat) (r : RdM), r.place ≤ s.size → (r.place : Int) ≤ E → s.size - r.place < n → rdRun s f E n r = rdRun s f E (n + 1) r
  | 0, r, hp, hE, hn => by omega
  | n + 1, r, hp, hE, hn => by
    by_cases h : (r.place : Int) < E ∧ r.fail.kind = 0
    · rw [rdRun_more h, rdRun_more h]
      obtain ⟨h1, h2⟩ := rdNum_adv (s := s) (f := f) (x := wireR f.2.1) (E := E) (r := r) hp hE
      by_cases h3 : (rdNum s f (wireR f.2.1) E r).fail.kind = 0
      · have h4 := h2 h3
        have h5 := h1.inn
        exact rdRun_fuel n _ h1.inn h1.upto (by omega)
      · rw [rdRun_end (fun h => h3 h.2), rdRun_end (fun h => h3 h.2)]
    · rw [rdRun_end h, rdRun_end h]
section
variable {M M' : Int → Int → Int → RdM → RdM} {n n' : Nat} {s : ByteArray} {D : Int} {f : RF} {start m p : Nat} {E deep : Int} {r : RdM}
theorem rdBody_same (hM : SameM s p M M') (hn : ∀ f E r, p < r.place → r.place ≤ s.size → (r.place : Int) ≤ E → rdRun s f E n r = rdRun s f E n' r) (h1 : p < r.place) (h2 : r.place ≤ s.size) : rdBody M n s D f start m deep r = rdBody M' n' s D f start m deep r := by
  unfold rdBody
  rw [hM f.2.2.2.2 ((r.place + m : Nat) : Int) (deep + 1) (r.tell (downE f.1 m)) h1 h2 (by show (r.place : Int) ≤ _; omega), hn f ((r.place + m : Nat) : Int) r h1 h2 (by omega)]
theorem rdLong_same (hM : SameM s p M M') (hn : ∀ f E r, p < r.place → r.place ≤ s.size → (r.place : Int) ≤ E → rdRun s f E n r = rdRun s f E n' r) (h1 : p < r.place) (h2 : r.place ≤ s.size) (hE : (r.place : Int) ≤ E) : rdLong M n s D f E deep r = rdLong M' n' s D f E deep r := by
  unfold rdLong rdLong2
  rcases rdVar_cases (E := E) h2 with ⟨c, a, h0, h⟩ | ⟨P, U, h, k1, k2, k3, _⟩
  · rw [h]; simp only
    rw [if_pos (by rw [bad_kind]; omega), if_pos (by rw [bad_kind]; omega)]
  · rw [h]; simp only
    rw [rdBody_same (r := r.to P) hM hn (by show p < P; omega) k2]
theorem rdStep_same {sch : List RM} {shape : Int} (hM : SameM s r.place M M') (hn : ∀ f E r', r.place < r'.place → r'.place ≤ s.size → (r'.place : Int) ≤ E → rdRun s f E n r' = rdRun s f E n' r') (h2 : r.place ≤ s.size) (hE : (r.place : Int) ≤ E) : rdStep M n s sch D shape E deep r = rdStep M' n' s sch D shape E deep r := by
  unfold rdStep
  rcases rdVar_cases (E := E) h2 with ⟨c, a, h0, h⟩ | ⟨P, U, h, k1, k2, k3, _⟩
  · rw [h]; simp only
    rw [if_pos (by rw [bad_kind]; omega), if_pos (by rw [bad_kind]; omega)]
  · rw [h]; simp only
    unfold rdTag2
    rw [rdLong_same (r := r.to P) hM hn (by show r.place < P; omega) k2 k3]
end
theorem msgRd_fuel {s : ByteArray} {sch : List RM} {D : Int} : ∀ (n : Nat) (sh E d : Int) (r : RdM), r.place ≤ s.size → (r.place : Int) ≤ E → s.size - r.place < n → msgRd s sch D n sh E d r = msgRd s sch D (n + 1) sh E d r
  | 0, sh, E, d, r, hp, hE, hn => by omega
  | n + 1, sh, E, d, r, hp, hE, hn => by
    by_cases h : (r.place : Int) < E ∧ r.fail.kind = 0
    · rw [msgRd_more h, msgRd_more h]
      rw [← rdStep_same (M := msgRd s sch D n) (M' := msgRd s sch D (n + 1)) (n := n) (n' := n + 1) (fun sh' E' d' r' k1 k2 k3 => msgRd_fuel n sh' E' d' r' k2 k3 (by omega)) (fun f E' r' k1 k2 k3 => rdRun_fuel n r' k2 k3 (by omega)) hp hE]
      obtain ⟨h1, h2⟩ := rdStep_adv (n := n) (sch := sch) (D := D) (shape := sh) (deep := d) (msgRd_adv n) hp hE h.2
      by_cases h3 : (rdStep (msgRd s sch D n) n s sch D sh E d r).fail.kind = 0
      · have h4 := h2 h3
        have h5 := h1.inn
        exact msgRd_fuel n _ _ _ _ h1.inn h1.upto (by omega)
      · rw [msgRd_end (fun h => h3 h.2), msgRd_end (fun h => h3 h.2)]
    · rw [msgRd_end h, msgRd_end h]
theorem msgRd_fuels {s : ByteArray} {sch : List RM} {D : Int} {n m : Nat} {sh E d : Int} {r : RdM} (hp : r.place ≤ s.size) (hE : (r.place : Int) ≤ E) (hn : s.size - r.place < n) (hm : n ≤ m) : msgRd s sch D n sh E d r = msgRd s sch D m sh E d r := by
  obtain ⟨k, rfl⟩ : ∃ k, m = n + k := ⟨m - n, by omega⟩
  clear hm
  induction k with
  | zero => rfl
  | succ k ih => rw [ih, msgRd_fuel (n + k) sh E d r hp hE (by omega)]; rfl
/-- What is told only grows. -/
def Grow (r r' : RdM) : Prop := ∃ X, r'.out = r.out ++ X
theorem Grow.refl (r : RdM) : Grow r r := ⟨[], by simp⟩
theorem Grow.same {r r' : RdM} (h : r'.out = r.out) : Grow r r' := ⟨[], by rw [h]; simp⟩
theorem Grow.tell (r : RdM) (e : Ev) : Grow r (r.tell e) := ⟨[e], rfl⟩
theorem Grow.trans {a b c : RdM} (h : Grow a b) (k : Grow b c) : Grow a c := by
  obtain ⟨X, h⟩ := h
  obtain ⟨Y, k⟩ := k
  exact ⟨X ++ Y, by rw [k, h, List.append_assoc]⟩
def GrowM (M : Int → Int → Int → RdM → RdM) : Prop := ∀ sh E d r, Grow r (M sh E d r)
section
variable {M : Int → Int → Int → RdM → RdM} {n : Nat} {s : ByteArray} {D : Int} {f : RF} {start m : Nat} {x E deep : Int} {r : RdM}
theorem rdRaw_out : (rdRaw s x E r).2.out = r.out := by
  unfold rdRaw; split
  · exact rdVar_out
  · exact rdFix_out
theorem rdNum_grow : Grow r (rdNum s f x E r) := by
  unfold rdNum rdTold
  split
  · exact (Grow.same rdRaw_out).trans (.tell _ _)
  · exact .same rdRaw_out
theorem rdRun_grow : ∀ (n : Nat) (r : RdM), Grow r (rdRun s f E n r)
  | 0, r => .refl r
  | n + 1, r => by
    by_cases h : (r.place : Int) < E ∧ r.fail.kind = 0
    · rw [rdRun_more h]; exact rdNum_grow.trans (rdRun_grow n _)
    · rw [rdRun_end h]; exact .refl r
theorem rdPart_grow (t : ByteArray) (r : RdM) : Grow r (rdPart t r) := by
  unfold rdPart; split
  · exact .refl r
  · exact .tell _ _
theorem rdEnd_grow {t : ByteArray} {q : Utf.St × Option Nat} : Grow r (rdEnd s m t q r) := by
  unfold rdEnd
  split
  · exact .same rfl
  · split
    · exact .same rfl
    · split
      · exact .same rfl
      · exact (Grow.same (r' := r.to (r.place + m)) rfl).trans (.tell _ _)
theorem rdPayload_grow : Grow r (rdPayload s f m r) := ((Grow.tell _ _).trans (rdPart_grow _ _)).trans rdEnd_grow
theorem rdBody_grow (hM : GrowM M) : Grow r (rdBody M n s D f start m deep r) := by
  unfold rdBody
  split
  · split
    · exact .same rfl
    · exact .same rfl
  · split
    · split
      · exact .same rfl
      · split
        · exact ((Grow.tell _ _).trans (hM _ _ _ _)).trans (.tell _ _)
        · exact (Grow.tell _ _).trans (hM _ _ _ _)
    · split
      · exact rdPayload_grow
      · exact rdRun_grow _ _
theorem rdLong_grow (hM : GrowM M) : Grow r (rdLong M n s D f E deep r) := by
  unfold rdLong rdLong2
  split
  · exact .same rdVar_out
  · split
    · exact .same (by show (rdVar s E r).2.out = _; exact rdVar_out)
    · exact (Grow.same rdVar_out).trans (rdBody_grow hM)
theorem rdTag2_grow {t : Int × Int × Bool} {fk : RF × Bool} (hM : GrowM M) : Grow r (rdTag2 M n s D E deep start t fk r) := by
  unfold rdTag2
  split
  · exact .same rfl
  · split
    · exact .same rfl
    · split
      · exact .same rfl
      · split
        · exact rdLong_grow hM
        · exact rdNum_grow
theorem rdStep_grow {sch : List RM} {shape : Int} (hM : GrowM M) : Grow r (rdStep M n s sch D shape E deep r) := by
  unfold rdStep
  split
  · exact .same rdVar_out
  · exact (Grow.same rdVar_out).trans (rdTag2_grow hM)
end
theorem msgRd_grow {s : ByteArray} {sch : List RM} {D : Int} : ∀ n, GrowM (msgRd s sch D n)
  | 0 => fun sh E d r => .refl r
  | n + 1 => fun sh E d r => by
    by_cases h : (r.place : Int) < E ∧ r.fail.kind = 0
    · rw [msgRd_more h]; exact (rdStep_grow (msgRd_grow n)).trans (msgRd_grow n _ _ _ _)
    · rw [msgRd_end h]; exact .refl r
end Go.Proofs.YtpkofbdfnbpfpaaGreat.Num


/-
  What a varint read up to a place has to do with one read at once. Plain.
-/
namespace Go.Proofs.YtpkofbdfnbpfpaaGreat.Num
open Go.RowKit Go.Proofs
theorem scan_ge : ∀ (l : List UInt8) (k u : Nat), match Var.scan k u l with | .more => True | .done _ m => k < m | .over j => k ≤ j
  | [], k, u => by simp [Var.scan]
  | c :: r, k, u => by
    have e : Var.scan k u (c :: r) = if k = 9 ∧ 1 < c.toNat then .over k else if c.toNat < 128 then .done (u + c.toNat % 128 * 2 ^ (7 * k)) (k + 1) else Var.scan (k + 1) (u + c.toNat % 128 * 2 ^ (7 * k)) r := by rw [Var.scan]
    by_cases h9 : k = 9 ∧ 1 < c.toNat
    · rw [e, if_pos h9]; exact Nat.le_refl k
    · by_cases hc : c.toNat < 128
      · rw [e, if_neg h9, if_pos hc]; exact Nat.lt_succ_self k
      · rw [e, if_neg h9, if_neg hc]
        have h := scan_ge r (k + 1) (u + c.toNat % 128 * 2 ^ (7 * k))
        generalize Var.scan (k + 1) (u + c.toNat % 128 * 2 ^ (7 * k)) r = q at h ⊢
        cases q <;> simp only at h ⊢ <;> omega
theorem scan_take : ∀ (l : List UInt8) (n k u : Nat), Var.scan k u (l.take n) = match Var.scan k u l with | .more => .more | .done v m => if m ≤ k + n then .done v m else .more | .over j => if j < k + n then .over j else .more
  | [], n, k, u => by simp [Var.scan]
  | c :: r, 0, k, u => by
    have h := scan_ge (c :: r) k u
    generalize Var.scan k u (c :: r) = q at h ⊢
    rw [List.take_zero]
    cases q with
    | more => rfl
    | done v m => simp only at h ⊢; rw [if_neg (by omega)]; rfl
    | over j => simp only at h ⊢; rw [if_neg (by omega)]; rfl
  | c :: r, n + 1, k, u => by
    rw [List.take_succ_cons]
    have ih := scan_take r n (k + 1) (u + c.toNat % 128 * 2 ^ (7 * k))
    simp only [Var.scan]
    split
    · next h => simp only; rw [if_pos (by omega)]
    · split
      · simp only; rw [if_pos (by omega)]
      · rw [ih, show k + 1 + n = k + (n + 1) by omega]
end Go.Proofs.YtpkofbdfnbpfpaaGreat.Num


/-
  Plain facts on a message that is read: one level more that is allowed changes nothing, where none was too deep.
-/
namespace Go.Proofs.YtpkofbdfnbpfpaaGreat.Num
open Go.RowKit Go.Proofs
set_option linter.unusedVariables false

/-- Too deep, or the same. -/
def DeepP (r r' : RdM) : Prop := (r.fail.kind ≠ 0 ∧ r.fail.code = 6) ∨ r' = r
theorem DeepP.same {r r' : RdM} (h : r' = r) : DeepP r r' := .inr h
def DeepM (M M' : Int → Int → Int → RdM → RdM) : Prop := ∀ sh E d r, DeepP (M sh E d r) (M' sh E d r)
section
variable {M M' : Int → Int → Int → RdM → RdM} {n : Nat} {s : ByteArray} {D : Int} {f : RF} {start m : Nat} {E deep : Int} {r : RdM}
theorem rdBody_deep (hM : DeepM M M') : DeepP (rdBody M n s D f start m deep r) (rdBody M' n s (D + 1) f start m deep r) := by
  unfold rdBody
  by_cases h1 : f.1 = 0
  · rw [if_pos h1, if_pos h1]; exact .inr rfl
  · rw [if_neg h1, if_neg h1]
    by_cases h2 : f.2.1 = 8
    · rw [if_pos h2, if_pos h2]
      by_cases h3 : D ≤ deep
      · rw [if_pos h3]; exact .inl ⟨by show (10 : Int) ≠ 0; omega, rfl⟩
      · rw [if_neg h3, if_neg (by omega : ¬ D + 1 ≤ deep)]
        rcases hM f.2.2.2.2 ((r.place + m : Nat) : Int) (deep + 1) (r.tell (downE f.1 m)) with ⟨k1, k2⟩ | k
        · rw [if_neg k1]; exact .inl ⟨k1, k2⟩
        · rw [k]; exact .inr rfl
    · rw [if_neg h2, if_neg h2]; exact .inr rfl
theorem rdLong_deep (hM : DeepM M M') : DeepP (rdLong M n s D f E deep r) (rdLong M' n s (D + 1) f E deep r) := by
  unfold rdLong rdLong2
  by_cases h1 : (rdVar s E r).2.fail.kind ≠ 0
  · rw [if_pos h1, if_pos h1]; exact .inr rfl
  · rw [if_neg h1, if_neg h1]
    by_cases h2 : E - ((rdVar s E r).2.place : Int) < (rdVar s E r).1
    · rw [if_pos h2, if_pos h2]; exact .inr rfl
    · rw [if_neg h2, if_neg h2]; exact rdBody_deep hM
theorem rdTag2_deep {t : Int × Int × Bool} {fk : RF × Bool} (hM : DeepM M M') : DeepP (rdTag2 M n s D E deep start t fk r) (rdTag2 M' n s (D + 1) E deep start t fk r) := by
  unfold rdTag2
  by_cases h1 : t.2.2 = false
  · rw [if_pos h1, if_pos h1]; exact .inr rfl
  · rw [if_neg h1, if_neg h1]
    by_cases h2 : wireOkB t.2.1 = false
    · rw [if_pos h2, if_pos h2]; exact .inr rfl
    · rw [if_neg h2, if_neg h2]
      by_cases h3 : (fk.2 && !allowedB fk.1 t.2.1) = true
      · rw [if_pos h3, if_pos h3]; exact .inr rfl
      · rw [if_neg h3, if_neg h3]
        by_cases h4 : t.2.1 = 2
        · rw [if_pos h4, if_pos h4]; exact rdLong_deep hM
        · rw [if_neg h4, if_neg h4]; exact .inr rfl
theorem rdStep_deep {sch : List RM} {shape : Int} (hM : DeepM M M') : DeepP (rdStep M n s sch D shape E deep r) (rdStep M' n s sch (D + 1) shape E deep r) := by
  unfold rdStep
  by_cases h1 : (rdVar s E r).2.fail.kind ≠ 0
  · rw [if_pos h1, if_pos h1]; exact .inr rfl
  · rw [if_neg h1, if_neg h1]; exact rdTag2_deep hM
end
theorem msgRd_deep {s : ByteArray} {sch : List RM} {D : Int} : ∀ n, DeepM (msgRd s sch D n) (msgRd s sch (D + 1) n)
  | 0 => fun sh E d r => .inr rfl
  | n + 1 => fun sh E d r => by
    by_cases h : (r.place : Int) < E ∧ r.fail.kind = 0
    · rw [msgRd_more h, msgRd_more h]
      rcases rdStep_deep (n := n) (s := s) (D := D) (E := E) (deep := d) (r := r) (sch := sch) (shape := sh) (msgRd_deep n) with ⟨k1, k2⟩ | k
      · rw [msgRd_end (fun h => k1 h.2)]; exact .inl ⟨k1, k2⟩
      · rw [k]; exact msgRd_deep n _ _ _ _
    · rw [msgRd_end h, msgRd_end h]; exact .inr rfl
/-- The whole: the same with one level more, if none was too deep and the plan stays one. -/
theorem readR_deep {sch : List RM} {A B C shape : Int} {s : ByteArray} {a E deep : Int} (hc : (readR sch A B C shape s a E deep).2.code ≠ 6) (hp : planB sch A (B + 1) C = planB sch A B C) (hd : deep ≠ B + 1) :
    readR sch A (B + 1) C shape s a E deep = readR sch A B C shape s a E deep := by
  have e : rdOkB sch A (B + 1) C shape s a E deep = rdOkB sch A B C shape s a E deep := by
    unfold rdOkB
    rw [hp, show decide (1 ≤ deep ∧ deep ≤ B + 1) = decide (1 ≤ deep ∧ deep ≤ B) from decide_eq_decide.2 ⟨fun h => ⟨h.1, by omega⟩, fun h => ⟨h.1, by omega⟩⟩]
  unfold readR at hc ⊢
  rw [e]
  by_cases h : rdOkB sch A B C shape s a E deep = true
  · rw [if_pos h] at hc
    rw [if_pos h, if_pos h]
    rcases msgRd_deep (s := s) (sch := sch) (D := B) (s.size + 1) shape E deep ⟨a.toNat, [], zeroE⟩ with ⟨_, k⟩ | k
    · exact absurd k hc
    · rw [k]
  · rw [if_neg h, if_neg h]
end Go.Proofs.YtpkofbdfnbpfpaaGreat.Num

