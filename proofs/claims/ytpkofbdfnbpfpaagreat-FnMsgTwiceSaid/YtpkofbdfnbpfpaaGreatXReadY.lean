/-
  Several texts in one: ReadD ReadE.
-/
import Derived.Test.YtpkofbdfnbpfpaaGreatXReadZ
import Derived.Test.YtpkofbdfnbpfpaaGreatXUtfI

/-
  The program's reader of messages: what of a text is accepted.
-/
namespace Go.Proofs.YtpkofbdfnbpfpaaGreat.Num
open Go.RowKit Go.Proofs
set_option linter.unusedVariables false
set_option linter.unusedSimpArgs false
/-- Of the bytes that are there those ahead of the first error, and its code. -/
def accR (k : Int) (t : ByteArray) (n : Nat) : ByteArray × Int :=
  match (utfOf k t).2 with
  | some b => (t.extract 0 b, 5)
  | none => if t.size < n then (t, 10) else if (utfOf k t).1.1 = 0 then (t, 0) else (t, 5)
theorem utf_state (k : Int) (t : ByteArray) : Utf.Ok (utfOf k t).1 := by
  unfold utfOf
  split
  · exact Utf.run_ok _ _ Utf.ok_z
  · exact Utf.ok_z
theorem utf_bound {k : Int} {t : ByteArray} {b : Nat} (h : (utfOf k t).2 = some b) : b < t.size := by
  unfold utfOf at h
  split at h
  · have := Utf.run_bound _ _ _ h
    simpa using this
  · cases h
def outPart (t : ByteArray) (l : List Ev) : List Ev := if t.size = 0 then l else l ++ [partE t]
/-- The reference's reading of a text by what is accepted. -/
theorem payload_acc {s : ByteArray} {f : RF} {n p : Nat} {out : List Ev} (hp : p ≤ s.size) {t part : ByteArray} {code : Int} (ht : thereB s p n = t) (ha : accR f.2.1 t n = (part, code)) :
    part.size ≤ t.size ∧ ((code ≠ 0 ∧ rdPayload s f n ⟨p, out, zeroE⟩ = ⟨p, outPart part (out ++ [openE f.1 n]), failE code ((p : Int) + part.size)⟩) ∨
      (code = 0 ∧ min s.size (p + n) = p + n ∧ rdPayload s f n ⟨p, out, zeroE⟩ = ⟨p + n, outPart part (out ++ [openE f.1 n]) ++ [shutE], zeroE⟩)) := by
  have hts : t.size = min s.size (p + n) - p := by rw [← ht]; exact ba_extract_size _ _ _ (by omega)
  have hprt : ∀ x : ByteArray, rdPart x ((⟨p, out, zeroE⟩ : RdM).tell (openE f.1 n)) = ⟨p, outPart x (out ++ [openE f.1 n]), zeroE⟩ := fun x => by
    unfold rdPart outPart
    by_cases h : x.size = 0
    · rw [if_pos h, if_pos h]; rfl
    · rw [if_neg h, if_neg h]; rfl
  unfold rdPayload
  rw [show (⟨p, out, zeroE⟩ : RdM).place = p from rfl, ht]
  have hok := utf_state f.2.1 t
  have hbd : ∀ b, (utfOf f.2.1 t).2 = some b → b < t.size := fun b => utf_bound
  unfold accR at ha
  generalize utfOf f.2.1 t = q at ha hok hbd ⊢
  obtain ⟨u, r⟩ := q
  cases r with
  | some b =>
    simp only at ha
    have hb := hbd b rfl
    obtain ⟨rfl, rfl⟩ := Prod.mk.inj ha
    have hsz : (t.extract 0 b).size = b := by rw [ba_extract_size _ _ _ (by omega)]; omega
    refine ⟨by omega, .inl ⟨by decide, ?_⟩⟩
    simp only [frontB, rdEnd]
    rw [hprt, hsz]; rfl
  | none =>
    simp only at ha
    simp only [frontB, rdEnd]
    rw [hprt]
    by_cases h1 : t.size < n
    · rw [if_pos h1] at ha ⊢
      obtain ⟨rfl, rfl⟩ := Prod.mk.inj ha
      refine ⟨Nat.le_refl _, .inl ⟨by decide, ?_⟩⟩
      rw [show ((p : Int) + (t.size : Int)) = (s.size : Int) by omega]; rfl
    · rw [if_neg h1] at ha ⊢
      have hu : 0 ≤ u.1 := (Utf.ok_small hok).1
      by_cases h2 : u.1 = 0
      · rw [if_pos h2] at ha
        obtain ⟨rfl, rfl⟩ := Prod.mk.inj ha
        rw [if_neg (by show ¬ 0 < u.1; omega)]
        exact ⟨Nat.le_refl _, .inr ⟨rfl, by omega, rfl⟩⟩
      · rw [if_neg h2] at ha
        obtain ⟨rfl, rfl⟩ := Prod.mk.inj ha
        rw [if_pos (by show 0 < u.1; omega)]
        refine ⟨Nat.le_refl _, .inl ⟨by decide, ?_⟩⟩
        show RdM.bad _ 5 ((p + n : Nat) : Int) = _
        rw [show ((p + n : Nat) : Int) = (p : Int) + (t.size : Int) by omega]; rfl
theorem Box.threeR {w : World} {g : Nat} {a b c : Value} (hx : Box w g [a, b, c]) : w.cell? ⟨g, 0, none⟩ = some a ∧ w.cell? ⟨g, 1, none⟩ = some b ∧ w.cell? ⟨g, 2, none⟩ = some c ∧ w.frozen? ⟨g, 0, none⟩ = false ∧ w.frozen? ⟨g, 1, none⟩ = false ∧ w.frozen? ⟨g, 2, none⟩ = false :=
  ⟨(hx.2 0 (by simp)).1, (hx.2 1 (by simp)).1, (hx.2 2 (by simp)).1, (hx.2 0 (by simp)).2, (hx.2 1 (by simp)).2, (hx.2 2 (by simp)).2⟩
set_option maxHeartbeats 4000000 in
set_option maxRecDepth 100000 in
theorem acceptedText_any (k : Int) (t : ByteArray) (n : Nat) (w : World) (hs : t.size ≤ 281474976710656) :
    Calls Tryz.prog 188 #[.int .i64 k, .string t, .int .i64 n] w fun e w' => e = .returned (.tuple #[.string (accR k t n).1, .int .i64 (accR k t n).2]) ∧ Below w.heap.size w w' := by
  obtain ⟨R, hR⟩ : ∃ R, accR k t n = R := ⟨_, rfl⟩
  rw [hR]
  have hok := utf_state k t
  have hbd : ∀ b, (utfOf k t).2 = some b → b < t.size := fun b => utf_bound
  unfold accR at hR
  by_cases hk : k = 6
  · subst hk
    have hU : utfOf 6 t = Utf.run Utf.z t.data.toList := by unfold utfOf; rw [if_pos rfl]
    have HT : Hid (∀ w, Calls Tryz.prog 198 #[.agg #[.int .i64 0, .int .i64 0, .int .i64 0], .string t] w fun e w' => e = .returned (textV (utfOf 6 t)) ∧ Below w.heap.size w w') := Lib.hid fun w => by rw [hU]; exact implUtfText_any 0 0 0 t w hs
    clear hU
    generalize utfOf 6 t = q at HT hR hok hbd
    obtain ⟨⟨W, Lo, Hi⟩, r⟩ := q
    unfold textV utV at HT
    simp only at HT hR
    have hb0 := Box.fresh w #[.int .i64 0, .int .i64 0, .int .i64 0] 206
    have hl0 : Below w.heap.size w (w.alloc (.cells #[.int .i64 0, .int .i64 0, .int .i64 0] 206)) := (Below.refl _ _).alloc (Nat.le_refl _) _
    cases r with
    | some b =>
      simp only at hR
      subst hR
      have hb := hbd b rfl
      have HT' : Hid (∀ w, Calls Tryz.prog 198 #[.agg #[.int .i64 0, .int .i64 0, .int .i64 0], .string t] w fun e w' => e = .returned (.tuple #[.agg #[.int .i64 W, .int .i64 Lo, .int .i64 Hi], .int .i64 b]) ∧ Below w.heap.size w w') := HT
      have hbi : (b : Int) ≤ (t.size : Int) := by omega
      have hb0i : (0 : Int) ≤ (b : Int) := by omega
      clear HT hok hbd
      go_enter Tryz.func188, Tryz.ntmps188
      go_wp2_with fail
      refine (HT'.out _).mono ?_
      rintro e w1 ⟨rfl, hb1⟩
      have hl1 := hl0.trans (hb1.mono hl0.size)
      go_wp2_with fail
      go_ret2
      refine ⟨rfl, ?_⟩
      repeat (first | with_reducible exact hl1 | refine Below.setCell ?_ (by simp) _ | refine Below.alloc ?_ (by first | exact hl1.size | (simp; exact hl1.size)) _)
    | none =>
      have HT' : Hid (∀ w, Calls Tryz.prog 198 #[.agg #[.int .i64 0, .int .i64 0, .int .i64 0], .string t] w fun e w' => e = .returned (.tuple #[.agg #[.int .i64 W, .int .i64 Lo, .int .i64 Hi], .int .i64 (-1)]) ∧ Below w.heap.size w w') := HT
      clear HT hbd
      simp only at hR
      by_cases hlt : t.size < n
      · have hlti : (t.size : Int) < (n : Int) := by omega
        rw [if_pos hlt] at hR
        subst hR
        go_enter Tryz.func188, Tryz.ntmps188
        go_wp2_with fail
        refine (HT'.out _).mono ?_
        rintro e w1 ⟨rfl, hb1⟩
        have hl1 := hl0.trans (hb1.mono hl0.size)
        have hz1 := (hb0.below hb1 hb0.lt).lt
        obtain ⟨r0, r1, r2, s0, s1, s2⟩ := (hb0.below hb1 hb0.lt).threeR
        clear hb0 hl0 hb1
        go_wp2_with fail
        go_ret2
        refine ⟨rfl, ?_⟩
        repeat (first | with_reducible exact hl1 | refine Below.setCell ?_ (by simp) _ | refine Below.alloc ?_ (by first | exact hl1.size | (simp; exact hl1.size)) _)
      · have hlti : ¬ (t.size : Int) < (n : Int) := by omega
        rw [if_neg hlt] at hR
        by_cases hW : W = 0
        · rw [if_pos hW] at hR
          subst hR
          have hz := Utf.ok_zero hok hW
          injection hz with e1 e2
          injection e2 with e2 e3
          subst e1; subst e2; subst e3
          clear hok hW
          go_enter Tryz.func188, Tryz.ntmps188
          go_wp2_with fail
          refine (HT'.out _).mono ?_
          rintro e w1 ⟨rfl, hb1⟩
          have hl1 := hl0.trans (hb1.mono hl0.size)
          have hz1 := (hb0.below hb1 hb0.lt).lt
          obtain ⟨r0, r1, r2, s0, s1, s2⟩ := (hb0.below hb1 hb0.lt).threeR
          clear hb0 hl0 hb1
          go_wp2_with fail
          go_ret2
          refine ⟨rfl, ?_⟩
          repeat (first | with_reducible exact hl1 | refine Below.setCell ?_ (by simp) _ | refine Below.alloc ?_ (by first | exact hl1.size | (simp; exact hl1.size)) _)
        · rw [if_neg hW] at hR
          subst hR
          have hWb : (W == 0) = false := neI hW
          clear hok hW
          go_enter Tryz.func188, Tryz.ntmps188
          go_wp2_with fail
          refine (HT'.out _).mono ?_
          rintro e w1 ⟨rfl, hb1⟩
          have hl1 := hl0.trans (hb1.mono hl0.size)
          have hz1 := (hb0.below hb1 hb0.lt).lt
          obtain ⟨r0, r1, r2, s0, s1, s2⟩ := (hb0.below hb1 hb0.lt).threeR
          clear hb0 hl0 hb1
          go_wp2_with fail
          go_ret2
          refine ⟨rfl, ?_⟩
          repeat (first | with_reducible exact hl1 | refine Below.setCell ?_ (by simp) _ | refine Below.alloc ?_ (by first | exact hl1.size | (simp; exact hl1.size)) _)
  · have hU : utfOf k t = (Utf.z, none) := by unfold utfOf; rw [if_neg hk]
    have hkb : (k == 6) = false := neI hk
    rw [hU] at hR
    simp only at hR
    clear hU hok hbd hk
    by_cases hlt : t.size < n
    · have hlti : (t.size : Int) < (n : Int) := by omega
      rw [if_pos hlt] at hR
      subst hR
      go_enter Tryz.func188, Tryz.ntmps188
      go_wp2_with fail
      go_ret2
      refine ⟨rfl, ?_⟩
      repeat (first | with_reducible exact Below.refl _ _ | refine Below.setCell ?_ (by simp) _ | refine Below.alloc ?_ (Nat.le_refl _) _)
    · have hlti : ¬ (t.size : Int) < (n : Int) := by omega
      rw [if_neg hlt, if_pos (by rfl)] at hR
      subst hR
      go_enter Tryz.func188, Tryz.ntmps188
      go_wp2_with fail
      go_ret2
      refine ⟨rfl, ?_⟩
      repeat (first | with_reducible exact Below.refl _ _ | refine Below.setCell ?_ (by simp) _ | refine Below.alloc ?_ (Nat.le_refl _) _)
end Go.Proofs.YtpkofbdfnbpfpaaGreat.Num


/-
  The program's reader of messages: a text is read and told; some bytes are skipped.
-/
namespace Go.Proofs.YtpkofbdfnbpfpaaGreat.Num
open Go.RowKit Go.Proofs
set_option linter.unusedVariables false
set_option linter.unusedSimpArgs false
set_option maxHeartbeats 4000000 in
set_option maxRecDepth 100000 in
theorem skip_any {w : World} {g bs bp L B p : Nat} {u o : Value} {sch : List RM} {D Rt Mo : Int} {s : ByteArray} {out : List Ev} (h : RI w g bs bp L B u Rt Mo sch D s o p out) (n : Nat) (hn : n ≤ 9223372036854775807) (hs : s.size ≤ 281474976710656) :
    Calls Tryz.prog 164 #[.pointer (some ⟨g, 0, none⟩), .int .i64 n] w (PostI g bs bp L B u Rt Mo sch D s o (if s.size - p < n then ⟨p, out, failE 10 s.size⟩ else ⟨p + n, out, zeroE⟩) w) := by
  obtain ⟨M, hM⟩ : ∃ M : RdM, (if s.size - p < n then ⟨p, out, failE 10 s.size⟩ else ⟨p + n, out, zeroE⟩) = M := ⟨_, rfl⟩
  rw [hM]
  have HM := Lib.hid hM
  have hp := h.inn
  have HB : Hid (∀ w, RI w g bs bp L B u Rt Mo sch D s o p out → Calls Tryz.prog 97 #[.int .i64 n, .pointer (some ⟨bp, 0, none⟩), .pointer (some ⟨bs, 0, none⟩)] w fun e w' =>
      e = .returned (.string (thereB s p n)) ∧ RI w' g bs bp L B u Rt Mo sch D s o (min s.size (p + n)) out ∧ MovI g bp o o w w') := Lib.hid fun w h => bytes_any h n hn hs
  have hts : (thereB s p n).size = min s.size (p + n) - p := ba_extract_size _ _ _ (by omega)
  generalize thereB s p n = t at HB hts
  have hb0 : Below w.heap.size w (w.alloc (.cells #[.int .i64 0, .int .i64 0, .int .u64 0, .int .i64 0, .string ⟨#[]⟩, .int .i64 0, .int .i64 0] 34)) := (Below.refl _ _).alloc (Nat.le_refl _) _
  have hbr := Box.fresh w #[.int .i64 0, .int .i64 0, .int .u64 0, .int .i64 0, .string ⟨#[]⟩, .int .i64 0, .int .i64 0] 34
  have H0 := Lib.hid (h.below hb0)
  have hm0 : MovI g bp o o w _ := .of_below hb0
  have Hlr := Lib.hid (h.fresh (Nat.le_refl w.heap.size))
  obtain ⟨⟨c0, c1, c2, c3, c4, c5⟩, f5, _⟩ := H0.out.cells
  have hgz := H0.out.lt.1
  unfold byF at c4
  clear h hM
  go_enter Tryz.func164, Tryz.ntmps164
  go_wp2_with fail
  refine (HB.out _ H0.out).mono ?_
  generalize w.alloc (.cells #[.int .i64 0, .int .i64 0, .int .u64 0, .int .i64 0, .string ⟨#[]⟩, .int .i64 0, .int .i64 0] 34) = w1 at H0 hm0 hbr ⊢
  rintro e w2 ⟨rfl, h2, hm2⟩
  have hbr2 := hm2.keep hbr Hlr.out
  have hm := hm0.trans hm2
  have H2 := Lib.hid h2
  generalize hgr : w.heap.size = gr at hbr2 Hlr
  clear c0 c1 c2 c3 c4 c5 f5 hgz H0 hm0 hm2 hbr hb0 h2 HB
  obtain ⟨⟨c0, c1, c2, c3, c4, c5⟩, f5, _⟩ := H2.out.cells
  have hgz := H2.out.lt.1
  unfold plF at c2
  have hgr2 := hbr2.lt
  by_cases hlt : s.size - p < n
  · have hlti : (t.size : Int) < (n : Int) := by omega
    have HM2 : Hid (M = ⟨p, out, failE 10 s.size⟩) := Lib.hid (by rw [← HM.out, if_pos hlt])
    have Hpl : Hid (∀ w, RI w g bs bp L B u Rt Mo sch D s o (min s.size (p + n)) out → Calls Tryz.prog 93 #[.pointer (some ⟨bp, 0, none⟩)] w fun e w' => e = .returned (.int .i64 s.size) ∧ w = w') := Lib.hid fun w h => by
      have := place_any h
      rwa [show ((min s.size (p + n) : Nat) : Int) = (s.size : Int) by omega] at this
    clear HM hts hlt
    go_wp2_with fail
    refine (Hpl.out _ H2.out).mono ?_
    rintro e _ ⟨rfl, rfl⟩
    go_wp2_with fail
    refine (failure_any 10 s.size _).mono ?_
    rw [fail_evV]
    rintro e w3 ⟨rfl, hb3⟩
    have H3 := Lib.hid (H2.out.below hb3)
    have hm3 := hm.trans (.of_below hb3)
    have hbr3 := hbr2.below hb3 hgr2
    have hzr := hbr3.lt
    obtain ⟨⟨r0, r1, r2, r3, r4, r5, r6⟩, s0, s1, s2, s3, s4, s5, s6⟩ := hbr3.sevenE
    clear hb3 hbr2 H2 hm
    go_wp2_with fail
    refine bodyPost_ret (v := .agg #[.int .i64 10, .int .i64 0, .int .u64 0, .int .i64 0, .string ⟨#[]⟩, .int .i64 10, .int .i64 s.size]) (by simp [results, Tryz.results164, go_sem, hzr, r0, r1, r2, r3, r4, r5, r6]) rfl ?_
    refine PostI.bad HM2.out (o' := o) (p := min s.size (p + n)) ?_ ?_
    · repeat (first | with_reducible exact H3.out | refine RI.loc ?_ Hlr.out _ _)
    · repeat (first | with_reducible exact hm3 | refine MovI.setX ?_ (Nat.le_of_lt (by omega)) _ _ | refine MovI.setX ?_ (Nat.le_of_eq hgr) _ _)
  · have hlti : ¬ (t.size : Int) < (n : Int) := by omega
    have HM2 : Hid (M = ⟨min s.size (p + n), out, zeroE⟩) := Lib.hid (by rw [← HM.out, if_neg hlt, show min s.size (p + n) = p + n by omega])
    have hzr := hbr2.lt
    obtain ⟨⟨r0, r1, r2, r3, r4, r5, r6⟩, s0, s1, s2, s3, s4, s5, s6⟩ := hbr2.sevenE
    clear HM hts hlt
    go_wp2_with fail
    refine bodyPost_ret (v := .agg #[.int .i64 0, .int .i64 0, .int .u64 0, .int .i64 0, .string ⟨#[]⟩, .int .i64 0, .int .i64 0]) (by simp [results, Tryz.results164, go_sem, hzr, r0, r1, r2, r3, r4, r5, r6]) rfl ?_
    refine PostI.good HM2.out (o' := o) ?_ ?_
    · repeat (first | with_reducible exact H2.out | refine RI.loc ?_ Hlr.out _ _)
    · repeat (first | with_reducible exact hm | refine MovI.setX ?_ (Nat.le_of_eq hgr) _ _)
set_option maxHeartbeats 8000000 in
set_option maxRecDepth 100000 in
theorem readText_any {w : World} {g bs bp L B p : Nat} {u o : Value} {sch : List RM} {D Rt Mo : Int} {s : ByteArray} {out : List Ev} (h : RI w g bs bp L B u Rt Mo sch D s o p out) (f : RF) (n : Nat) (hn : (p + n : Nat) ≤ 9223372036854775807) (hs : s.size ≤ 281474976710656) (ho : out.length ≤ 1048575990) :
    Calls Tryz.prog 168 #[.pointer (some ⟨g, 0, none⟩), fieldV f, .int .i64 n] w (PostI g bs bp L B u Rt Mo sch D s o (rdPayload s f n ⟨p, out, zeroE⟩) w) := by
  have hp := h.inn
  obtain ⟨M, hM⟩ : ∃ M : RdM, rdPayload s f n ⟨p, out, zeroE⟩ = M := ⟨_, rfl⟩
  rw [hM]
  obtain ⟨t, ht⟩ : ∃ t, thereB s p n = t := ⟨_, rfl⟩
  have hts : t.size ≤ 281474976710656 := by rw [← ht]; unfold thereB; rw [ba_extract_size _ _ _ (by omega)]; omega
  obtain ⟨⟨part, code⟩, ha⟩ : ∃ A, accR f.2.1 t n = A := ⟨_, rfl⟩
  have HP := Lib.hid (payload_acc (out := out) hp ht ha)
  rw [hM] at HP
  have HB : Hid (∀ w o' out', RI w g bs bp L B u Rt Mo sch D s o' p out' → Calls Tryz.prog 97 #[.int .i64 n, .pointer (some ⟨bp, 0, none⟩), .pointer (some ⟨bs, 0, none⟩)] w fun e w' =>
      e = .returned (.string t) ∧ RI w' g bs bp L B u Rt Mo sch D s o' (min s.size (p + n)) out' ∧ MovI g bp o' o' w w') := Lib.hid fun w o' out' h => ht ▸ bytes_any h n (by omega) hs
  have HA : Hid (∀ w, Calls Tryz.prog 188 #[.int .i64 f.2.1, .string t, .int .i64 n] w fun e w' => e = .returned (.tuple #[.string part, .int .i64 code]) ∧ Below w.heap.size w w') := Lib.hid fun w => by
    have := acceptedText_any f.2.1 t n w hts
    rwa [ha] at this
  clear hM ha ht
  obtain ⟨A1, A2, A3, A4, A5⟩ := f
  unfold fieldV
  simp only at HP HA ⊢
  have hb2 : Below w.heap.size w ((w.alloc (.cells #[.int .i64 A1, .int .i64 A2, .bool A3, .bool A4, .int .i64 A5] 117)).alloc (.cells #[.int .i64 0, .int .i64 0, .int .u64 0, .int .i64 0, .string ⟨#[]⟩, .int .i64 0, .int .i64 0] 34)) := ((Below.refl _ _).alloc (Nat.le_refl _) _).alloc (by simp) _
  have H0 := Lib.hid (h.below hb2)
  have hm0 : MovI g bp o o w _ := .of_below hb2
  have hbf := (Box.fresh w #[.int .i64 A1, .int .i64 A2, .bool A3, .bool A4, .int .i64 A5] 117).alloc (.cells #[.int .i64 0, .int .i64 0, .int .u64 0, .int .i64 0, .string ⟨#[]⟩, .int .i64 0, .int .i64 0] 34)
  have hbr : Box ((w.alloc (.cells #[.int .i64 A1, .int .i64 A2, .bool A3, .bool A4, .int .i64 A5] 117)).alloc (.cells #[.int .i64 0, .int .i64 0, .int .u64 0, .int .i64 0, .string ⟨#[]⟩, .int .i64 0, .int .i64 0] 34)) (w.heap.size + 1) [.int .i64 0, .int .i64 0, .int .u64 0, .int .i64 0, .string ⟨#[]⟩, .int .i64 0, .int .i64 0] := Box.fresh2R
  have Hlf := Lib.hid (h.fresh (Nat.le_refl w.heap.size))
  have Hlr := Lib.hid (h.fresh (Nat.le_succ w.heap.size))
  have hgz := H0.out.lt.1
  clear h
  go_enter Tryz.func168, Tryz.ntmps168
  go_wp2_with fail
  refine (emitopen_any H0.out A1 n (by omega)).mono ?_
  have hs0 : w.heap.size + 1 < ((w.alloc (.cells #[.int .i64 A1, .int .i64 A2, .bool A3, .bool A4, .int .i64 A5] 117)).alloc (.cells #[.int .i64 0, .int .i64 0, .int .u64 0, .int .i64 0, .string ⟨#[]⟩, .int .i64 0, .int .i64 0] 34)).heap.size := hbr.lt
  have hs1 := hbf.lt
  generalize (w.alloc (.cells #[.int .i64 A1, .int .i64 A2, .bool A3, .bool A4, .int .i64 A5] 117)).alloc (.cells #[.int .i64 0, .int .i64 0, .int .u64 0, .int .i64 0, .string ⟨#[]⟩, .int .i64 0, .int .i64 0] 34) = w1 at H0 hm0 hbf hbr hs0 hs1 ⊢
  rintro e w2 ⟨rfl, o2, h2, hm2⟩
  have hbf2 := Lib.hid (hm2.keep hbf Hlf.out)
  have hbr2 := Lib.hid (hm2.keep hbr Hlr.out)
  have Hlf2 := Lib.hid (Hlf.out.moved hs1 hm2)
  have Hlr2 := Lib.hid (Hlr.out.moved hs0 hm2)
  have hm := Lib.hid (hm0.trans hm2)
  generalize hgf : w.heap.size = gf at hbf2 hbr2 Hlf2 Hlr2
  have H2 := Lib.hid h2
  clear H0 hm0 hm2 hbf hbr hs0 hs1 hb2 Hlf Hlr h2 hgz
  obtain ⟨⟨c0, c1, c2, c3, c4, c5⟩, f5, _⟩ := H2.out.cells
  have hgz := H2.out.lt.1
  unfold plF at c2
  unfold byF at c4
  have hzf := hbf2.out.lt
  obtain ⟨b0, b1, b2, b3, b4⟩ := hbf2.out.fiveR
  go_wp2_with fail
  refine (place_any H2.out).mono ?_
  rintro e _ ⟨rfl, rfl⟩
  go_wp2_with fail
  go_region_with (first
    | (go_at_call 97; refine (HB.out _ _ _ H2.out.drew).mono ?_; rintro e w3 ⟨rfl, h3, hm3⟩; have H3 := Lib.hid h3; have hbf3 := Lib.hid (hm3.keep hbf2.out.drew Hlf2.out); have hbr3 := Lib.hid (hm3.keep hbr2.out.drew Hlr2.out); have Hm3 := Lib.hid ((hm.out.drew).trans hm3); clear h3 hm3; have hzf3 := hbf3.out.lt; obtain ⟨p0, p1, p2, p3, p4⟩ := hbf3.out.fiveR)
    | (go_at_call 188; refine (HA.out _).mono ?_; rintro e w4 ⟨rfl, hb4⟩; have H4 := Lib.hid (H3.out.below hb4); have hbf4 := Lib.hid (hbf3.out.below hb4 hzf3); have hbr4 := Lib.hid (hbr3.out.below hb4 hbr3.out.lt); have Hm4 := Lib.hid (Hm3.out.trans (.of_below hb4)); clear hb4))
  all_goals
    have hpt := HP.out.1
    have hw : IntKind.i64.wrap ((p : Int) + (part.size : Int)) = (p : Int) + (part.size : Int) := IntWalk.i64_in _ (by omega)
    by_cases hpe : part.size = 0
    · have hpe2 : part.toList.isEmpty = true := isEmpty_of hpe
      rcases HP.out.2 with ⟨hc, hMv⟩ | ⟨hc, hmin, hMv⟩
      · have hcb : (code != 0) = true := by simpa using hc
        have HM2 : Hid (M = ⟨p, (out ++ [openE A1 n]), failE code ((p : Int) + part.size)⟩) := Lib.hid (by rw [hMv]; unfold outPart; rw [if_pos hpe])
        clear hc hMv hpe
        go_wp2_with fail
        refine (failure_any code _ _).mono ?_
        rw [fail_evV]
        rintro e w7 ⟨rfl, hb7⟩
        have H7 := Lib.hid (H4.out.below hb7)
        have hm7 := Lib.hid (Hm4.out.trans (.of_below hb7))
        have hbr7 := hbr4.out.below hb7 hbr4.out.lt
        have hzr := hbr7.lt
        obtain ⟨⟨r0, r1, r2, r3, r4, r5, r6⟩, s0, s1, s2, s3, s4, s5, s6⟩ := hbr7.sevenE
        clear hb7 hbr7
        go_wp2_with fail
        refine bodyPost_ret (v := .agg #[.int .i64 10, .int .i64 0, .int .u64 0, .int .i64 0, .string ⟨#[]⟩, .int .i64 code, .int .i64 ((p : Int) + part.size)]) (by simp [results, Tryz.results168, go_sem, hzr, r0, r1, r2, r3, r4, r5, r6]) rfl ?_
        refine PostI.bad HM2.out (o' := o2) (p := min s.size (p + n)) ?_ ?_
        · repeat (first | with_reducible exact H7.out | refine RI.loc ?_ Hlr2.out _ _)
        · repeat (first | with_reducible exact hm7.out | refine MovI.setX ?_ (Nat.le_of_lt (by omega)) _ _)
      · subst hc
        have HM2 : Hid (M = ⟨min s.size (p + n), (out ++ [openE A1 n]) ++ [shutE], zeroE⟩) := Lib.hid (by rw [hMv, hmin]; unfold outPart; rw [if_pos hpe])
        have hlr := hbr4.out.lt
        clear hMv hpe hmin
        go_wp2_with fail
        refine (emitshut_any H4.out (by simp; omega)).mono ?_
        rintro e w7 ⟨rfl, o7, h7, hm7⟩
        have H7 := Lib.hid h7
        have Hlr7 := Lib.hid (Hlr2.out.moved hlr hm7)
        have hbr7 := hm7.keep hbr4.out Hlr2.out
        have Hm7 := Lib.hid (Hm4.out.trans hm7)
        have hzr := hbr7.lt
        obtain ⟨⟨r0, r1, r2, r3, r4, r5, r6⟩, s0, s1, s2, s3, s4, s5, s6⟩ := hbr7.sevenE
        clear hm7 hbr7 h7
        go_wp2_with fail
        refine bodyPost_ret (v := .agg #[.int .i64 0, .int .i64 0, .int .u64 0, .int .i64 0, .string ⟨#[]⟩, .int .i64 0, .int .i64 0]) (by simp [results, Tryz.results168, go_sem, hzr, r0, r1, r2, r3, r4, r5, r6]) rfl ?_
        refine PostI.good HM2.out (o' := o7) ?_ ?_
        · repeat (first | with_reducible exact H7.out | refine RI.loc ?_ Hlr7.out _ _)
        · repeat (first | with_reducible exact Hm7.out | refine MovI.setX ?_ (Nat.le_of_lt (by omega)) _ _)
    · have hpe2 : part.toList.isEmpty = false := notEmpty_of hpe
      have hlr4 := hbr4.out.lt
      go_wp2_with fail
      refine (emitpart_any H4.out part (by simp; omega)).mono ?_
      rintro e w5 ⟨rfl, o5, h5, hm5⟩
      have H5 := Lib.hid h5
      have Hlr5 := Lib.hid (Hlr2.out.moved hlr4 hm5)
      have hbr5 := Lib.hid (hm5.keep hbr4.out Hlr2.out)
      have Hm5 := Lib.hid (Hm4.out.trans hm5)
      clear h5 hm5 hlr4
      rcases HP.out.2 with ⟨hc, hMv⟩ | ⟨hc, hmin, hMv⟩
      · have hcb : (code != 0) = true := by simpa using hc
        have HM2 : Hid (M = ⟨p, (out ++ [openE A1 n] ++ [partE part]), failE code ((p : Int) + part.size)⟩) := Lib.hid (by rw [hMv]; unfold outPart; rw [if_neg hpe])
        clear hc hMv hpe
        go_wp2_with fail
        refine (failure_any code _ _).mono ?_
        rw [fail_evV]
        rintro e w7 ⟨rfl, hb7⟩
        have H7 := Lib.hid (H5.out.below hb7)
        have hm7 := Lib.hid (Hm5.out.trans (.of_below hb7))
        have hbr7 := hbr5.out.below hb7 hbr5.out.lt
        have hzr := hbr7.lt
        obtain ⟨⟨r0, r1, r2, r3, r4, r5, r6⟩, s0, s1, s2, s3, s4, s5, s6⟩ := hbr7.sevenE
        clear hb7 hbr7
        go_wp2_with fail
        refine bodyPost_ret (v := .agg #[.int .i64 10, .int .i64 0, .int .u64 0, .int .i64 0, .string ⟨#[]⟩, .int .i64 code, .int .i64 ((p : Int) + part.size)]) (by simp [results, Tryz.results168, go_sem, hzr, r0, r1, r2, r3, r4, r5, r6]) rfl ?_
        refine PostI.bad HM2.out (o' := o5) (p := min s.size (p + n)) ?_ ?_
        · repeat (first | with_reducible exact H7.out | refine RI.loc ?_ Hlr5.out _ _)
        · repeat (first | with_reducible exact hm7.out | refine MovI.setX ?_ (Nat.le_of_lt (by omega)) _ _)
      · subst hc
        have HM2 : Hid (M = ⟨min s.size (p + n), (out ++ [openE A1 n] ++ [partE part]) ++ [shutE], zeroE⟩) := Lib.hid (by rw [hMv, hmin]; unfold outPart; rw [if_neg hpe])
        have hlr := hbr5.out.lt
        clear hMv hpe hmin
        go_wp2_with fail
        refine (emitshut_any H5.out (by simp; omega)).mono ?_
        rintro e w7 ⟨rfl, o7, h7, hm7⟩
        have H7 := Lib.hid h7
        have Hlr7 := Lib.hid (Hlr5.out.moved hlr hm7)
        have hbr7 := hm7.keep hbr5.out Hlr5.out
        have Hm7 := Lib.hid (Hm5.out.trans hm7)
        have hzr := hbr7.lt
        obtain ⟨⟨r0, r1, r2, r3, r4, r5, r6⟩, s0, s1, s2, s3, s4, s5, s6⟩ := hbr7.sevenE
        clear hm7 hbr7 h7
        go_wp2_with fail
        refine bodyPost_ret (v := .agg #[.int .i64 0, .int .i64 0, .int .u64 0, .int .i64 0, .string ⟨#[]⟩, .int .i64 0, .int .i64 0]) (by simp [results, Tryz.results168, go_sem, hzr, r0, r1, r2, r3, r4, r5, r6]) rfl ?_
        refine PostI.good HM2.out (o' := o7) ?_ ?_
        · repeat (first | with_reducible exact H7.out | refine RI.loc ?_ Hlr7.out _ _)
        · repeat (first | with_reducible exact Hm7.out | refine MovI.setX ?_ (Nat.le_of_lt (by omega)) _ _)
end Go.Proofs.YtpkofbdfnbpfpaaGreat.Num

