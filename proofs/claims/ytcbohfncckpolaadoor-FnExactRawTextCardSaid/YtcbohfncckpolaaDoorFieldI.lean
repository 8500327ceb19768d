/-
  The walk of the program's FieldCode: it gives the code that the plain definition of the reference's walk tells; only new memory is written.
-/
import Derived.Test.YtcbohfncckpolaaDoorCodesI
namespace Go.Proofs.YtcbohfncckpolaaDoor.Num
open Go.RowKit Go.Proofs
set_option linter.unusedVariables false
set_option linter.unusedSimpArgs false

/-- What the program's refOk tells. -/
def refB (r : List RM) (k x : Int) : Bool := if k = 8 then hasId r x r.length else x == 0
theorem refOk_any (v : Value) (r : List RM) (A1 A2 A5 : Int) (A3 A4 : Bool) (R : Bool) (w : World) (S : Nat → Prop) (hS : ∀ b, S b → b < w.heap.size) (hv : MsgsAt w S v r) (hr : r.length ≤ 1048576) (tell : refB r A2 A5 = R) :
    Calls Tryd.prog 108 #[.agg #[v], .agg #[.int .i64 A1, .int .i64 A2, .bool A3, .bool A4, .int .i64 A5]] w fun e w' => e = .returned (.bool R) ∧ Below w.heap.size w w' := by
  obtain ⟨a, cap, rfl⟩ := hv.len
  have hb : Below w.heap.size w ((w.alloc (.cells #[.slice a r.length cap] 41)).alloc (.cells #[.int .i64 A1, .int .i64 A2, .bool A3, .bool A4, .int .i64 A5] 25)) := ((Below.refl _ _).alloc (Nat.le_refl _) _).alloc (by simp) _
  unfold refB at tell
  by_cases h8 : A2 = 8
  · subst h8
    rw [if_pos rfl] at tell
    have H := Lib.hid (iHasId_any _ r A5 R _ S (fun b h => Nat.lt_of_lt_of_le (hS b h) hb.size) (hv.keep (.of_below hb hS) fun _ h => h) hr tell)
    clear hS hv tell
    go_enter Tryd.func108, Tryd.ntmps108
    go_wp2_with fail
    refine H.out.mono ?_
    rintro e w1 ⟨rfl, hb1⟩
    have hb2 := hb.trans (hb1.mono hb.size)
    clear hb hb1
    go_wp2_with fail
    go_ret
    exact ⟨rfl, hb2⟩
  · rw [if_neg h8] at tell
    have b8 := neB2 h8
    clear h8 hS hv
    go_enter Tryd.func108, Tryd.ntmps108
    go_wp2_with fail
    go_ret
    exact ⟨rfl, hb⟩
set_option maxHeartbeats 8000000 in
theorem implFieldCode_any (v : Value) (r : List RM) (msg field : Int) (w : World) (h : RawAt w (· < w.heap.size) v r) (hr : Small r) :
    Calls Tryd.prog 94 #[v, .int .i64 msg, .int .i64 field] w fun e w' => e = .returned (.int .i64 (fieldCodeR r msg field)) ∧ Below w.heap.size w w' := by
  obtain ⟨u, rfl, hu⟩ := h
  obtain ⟨a, cap, rfl⟩ := hu.len
  have H := Lib.hid hu
  have hr1 := hr.1
  have H1 : Below w.heap.size w (w.alloc (.cells #[.slice a r.length cap] 41)) := (Below.refl _ _).alloc (Nat.le_refl _) _
  by_cases hin : 0 ≤ msg ∧ msg ≤ (r.length : Int) - 1
  · obtain ⟨k, rfl⟩ := Int.eq_ofNat_of_zero_le hin.1
    have hk : k < r.length := by omega
    have hki : (k : Int) < (r.length : Int) := by omega
    have Hin : Hid (0 ≤ (k : Int) ∧ (k : Int) < (r.length : Int)) := Lib.hid ⟨by omega, hki⟩
    obtain ⟨b, o, c, hv, hbC, hcs⟩ := hu.cells (by omega)
    obtain ⟨rfl, rfl⟩ : a = some ⟨b, o, none⟩ ∧ cap = c := by injection hv with e1 e2 e3; exact ⟨e1, e3⟩
    obtain ⟨x, d0, d1, hx⟩ := hcs k hk
    obtain ⟨xa, xc, rfl⟩ := hx.len
    have hfl := hr.2 _ (List.getElem_mem hk)
    have HE : Hid (∀ q (h2 : q < r[k].2.length), fieldCodeR r (k : Int) (q : Int) = fieldCodeN r r[k].2 q r[k].2[q]) := Lib.hid fun q h2 => fieldCode_in hk h2
    have HO : Hid (¬ (0 ≤ field ∧ field ≤ (r[k].2.length : Int) - 1) → fieldCodeR r (k : Int) field = 0) := Lib.hid (fieldCode_out2 hk)
    have Hx := Lib.hid hx
    clear hu hcs hv hx hin d0
    generalize r[k] = m at d1 hfl HE HO Hx
    obtain ⟨id, l⟩ := m
    simp only at d1 hfl HE HO Hx
    by_cases hin2 : 0 ≤ field ∧ field ≤ (l.length : Int) - 1
    · obtain ⟨q, rfl⟩ := Int.eq_ofNat_of_zero_le hin2.1
      have hq : q < l.length := by omega
      have hqi : (q : Int) < (l.length : Int) := by omega
      have hqi2 : (q : Int) ≤ (l.length : Int) := by omega
      have Hin2 : Hid (0 ≤ (q : Int) ∧ (q : Int) < (l.length : Int)) := Lib.hid ⟨by omega, hqi⟩
      have He := Lib.hid (HE.out q hq)
      rw [He.out]
      have hcapx : l.length ≤ xc := Hx.out.cap
      have hqc : (q : Int) ≤ (xc : Int) := by omega
      have Hpre := Lib.hid (Hx.out.take q (by omega) xc (by omega))
      have Hpl : Hid ((l.take q).length ≤ 1048576) := Lib.hid (by rw [List.length_take]; omega)
      obtain ⟨fb, fo, fc, fv, fbC, fcs⟩ := Hx.out.cells (by omega)
      obtain ⟨rfl, rfl⟩ : xa = some ⟨fb, fo, none⟩ ∧ xc = fc := by injection fv with e1 e2 e3; exact ⟨e1, e3⟩
      obtain ⟨x0, x1, x2, x3, x4⟩ := fcs q hq
      clear fcs fv HE HO He Hx hin2
      generalize hL : l.take q = L at Hpre Hpl
      have HL := Lib.hid hL
      clear hL
      generalize l[q] = f at x0 x1 x2 x3 x4
      obtain ⟨A1, A2, A3, A4, A5⟩ := f
      simp only at x0 x1 x2 x3 x4
      go_enter Tryd.func94, Tryd.ntmps94
      go_wp2_with fail
      refine (isIndex_yes _ _ _ Hin.out).mono ?_
      rintro e w1 ⟨rfl, rfl⟩
      go_wp2_with fail
      refine (isIndex_yes _ _ _ Hin2.out).mono ?_
      rintro e w1 ⟨rfl, rfl⟩
      have hfbw : fb < (w.alloc (.cells #[.slice (some ⟨b, o, none⟩) r.length cap] 41)).heap.size := by simp; omega
      go_wp2_with fail
      have hl2 : Below w.heap.size w ((w.alloc (.cells #[.slice (some ⟨b, o, none⟩) r.length cap] 41)).alloc (.cells #[.int .i64 A1, .int .i64 A2, .bool A3, .bool A4, .int .i64 A5] 25)) := H1.alloc (by simp) _
      have hx2 : Box ((w.alloc (.cells #[.slice (some ⟨b, o, none⟩) r.length cap] 41)).alloc (.cells #[.int .i64 A1, .int .i64 A2, .bool A3, .bool A4, .int .i64 A5] 25)) (w.heap.size + 1) [.int .i64 A1, .int .i64 A2, .bool A3, .bool A4, .int .i64 A5] := by
        have h := Box.fresh (w.alloc (.cells #[.slice (some ⟨b, o, none⟩) r.length cap] 41)) #[.int .i64 A1, .int .i64 A2, .bool A3, .bool A4, .int .i64 A5] 25
        rwa [show (w.alloc (.cells #[.slice (some ⟨b, o, none⟩) r.length cap] 41)).heap.size = w.heap.size + 1 by simp] at h
      have hy2 : Box ((w.alloc (.cells #[.slice (some ⟨b, o, none⟩) r.length cap] 41)).alloc (.cells #[.int .i64 A1, .int .i64 A2, .bool A3, .bool A4, .int .i64 A5] 25)) w.heap.size [.slice (some ⟨b, o, none⟩) r.length cap] := (Box.fresh _ _ _).alloc _
      generalize (w.alloc (.cells #[.slice (some ⟨b, o, none⟩) r.length cap] 41)).alloc (.cells #[.int .i64 A1, .int .i64 A2, .bool A3, .bool A4, .int .i64 A5] 25) = w2 at hl2 hx2 hy2 ⊢
      have hz2 := hx2.lt
      have hzy := hy2.lt
      obtain ⟨c0, c1, c2, c3, c4, _⟩ := hx2.fiveT
      clear x0 x1 x2 x3 x4 d1 hfbw
      obtain ⟨R, hR⟩ : ∃ R, numOkB A1 = R := ⟨_, rfl⟩
      have Hnum := Lib.hid (implNumberOk_any A1)
      have HR := Lib.hid hR
      rw [hR] at Hnum
      clear hR
      refine (Hnum.out _).mono ?_
      rintro e w1 ⟨rfl, rfl⟩
      cases R with
      | false =>
        have Hc : Hid (fieldCodeN r l q (A1, A2, A3, A4, A5) = 5) := Lib.hid (if_pos HR.out)
        go_wp2_with fail
        go_ret
        exact ⟨by rw [Hc.out]; rfl, hl2⟩
      | true =>
        go_upto_region 7 with fail
        obtain ⟨R2, hR2⟩ : ∃ R2, hasNum L A1 = R2 := ⟨_, rfl⟩
        have HR2 := Lib.hid hR2
        have hx3 := Lib.hid hx2
        have hy3 := Lib.hid hy2
        have hl3 := Lib.hid hl2
        clear hR2 hx2 hy2
        go_cut [42] from 43 to 48 (fun s wx => s = .bool R2 ∧ Hid (Box wx (w.heap.size + 1) [.int .i64 A1, .int .i64 A2, .bool A3, .bool A4, .int .i64 A5]) ∧ Hid (Box wx w.heap.size [.slice (some ⟨b, o, none⟩) r.length cap]) ∧ Below w.heap.size w wx)
        case first =>
          have Hh := Lib.hid (iHasNum_any _ L A1 R2 w2.drew (· < w.heap.size) (fun b hb => Nat.lt_of_lt_of_le hb hl3.out.drew.size) (Hpre.out.keep (below_sees hl3.out.drew) fun b hb => hb) Hpl.out HR2.out)
          go_region_with (go_at_call 106; refine Hh.out.mono ?_; rintro e w3 ⟨rfl, hb3⟩; have hx4 := hx3.out.drew.below hb3 hz2; have hy4 := hy3.out.drew.below hb3 hzy; have hl4 := hl3.out.drew.trans (hb3.mono hl3.out.drew.size))
          all_goals
            have hx5 := Lib.hid hx4
            have hy5 := Lib.hid hy4
            clear hx4 hy4 hb3
            go_wp2_with fail
            go_meet
            exact ⟨rfl, hx5, hy5, hl4⟩
        case rest =>
        obtain ⟨rfl, hx4, hy4, hl4⟩ := hcut
        clear c0 c1 c2 c3 c4 hx3 hy3 hl3 hl2 hz2 hzy Hpre Hpl
        obtain ⟨c0, c1, c2, c3, c4, _⟩ := hx4.out.fiveT
        obtain ⟨p0, _⟩ := hy4.out.one
        have hn5 : numOkB A1 = true := HR.out
        cases R2 with
        | true =>
          have Hc : Hid (fieldCodeN r l q (A1, A2, A3, A4, A5) = 6) := Lib.hid (by unfold fieldCodeN; rw [if_neg (by rw [hn5]; simp), if_pos (by rw [HL.out]; exact HR2.out)])
          go_wp2_with fail
          go_ret
          exact ⟨by rw [Hc.out]; rfl, hl4⟩
        | false =>
          by_cases hkind : 1 ≤ A2 ∧ A2 ≤ 8
          · have Hkind := Lib.hid hkind
            have Hc1 : Hid (fieldCodeN r l q (A1, A2, A3, A4, A5) = if A4 = true ∧ (A3 = false ∨ numericB A2 = false) then 8 else if refB r A2 A5 = false then 9 else 0) := Lib.hid (by
              unfold fieldCodeN refB; rw [if_neg (by rw [hn5]; simp), if_neg (by rw [HL.out, HR2.out]; simp), if_neg (by simpa using hkind)]
              by_cases h8 : A2 = 8
              · simp [h8]
              · simp [h8])
            clear hkind hn5
            obtain ⟨Nm, hNm⟩ : ∃ Nm, numericB A2 = Nm := ⟨_, rfl⟩
            have Hnm := Lib.hid (iNumeric_any A2)
            rw [hNm] at Hnm
            have HNm := Lib.hid hNm
            clear hNm
            obtain ⟨Rf, hRf⟩ : ∃ Rf, refB r A2 A5 = Rf := ⟨_, rfl⟩
            have Href := Lib.hid (fun (wx : World) (hb : Below w.heap.size w wx) => refOk_any _ r A1 A2 A5 A3 A4 Rf wx (· < w.heap.size) (fun b h => Nat.lt_of_lt_of_le h hb.size) (H.out.keep (below_sees hb) fun _ h => h) hr1 hRf)
            have HRf := Lib.hid hRf
            clear hRf
            have Hend : Hid (∀ P : Bool, (¬ (A4 = true ∧ (A3 = false ∨ numericB A2 = false))) → fieldCodeN r l q (A1, A2, A3, A4, A5) = if Rf = false then 9 else 0) := Lib.hid (fun P h => by rw [Hc1.out, if_neg h, HRf.out])
            go_wp2_with fail
            refine (kindOk_yes A2 _ Hkind.out).mono ?_
            rintro e w1 ⟨rfl, rfl⟩
            cases A4 with
            | true =>
              cases A3 with
              | false =>
                have Hc : Hid (fieldCodeN r l q (A1, A2, false, true, A5) = 8) := Lib.hid (by rw [Hc1.out, if_pos ⟨by trivial, .inl (by trivial)⟩])
                go_wp2_with fail
                go_ret
                exact ⟨by rw [Hc.out]; rfl, hl4⟩
              | true =>
                go_wp2_with fail
                refine (Hnm.out _).mono ?_
                rintro e w1 ⟨rfl, rfl⟩
                cases Nm with
                | false =>
                  have Hc : Hid (fieldCodeN r l q (A1, A2, true, true, A5) = 8) := Lib.hid (by rw [Hc1.out, if_pos ⟨by trivial, .inr HNm.out⟩])
                  go_wp2_with fail
                  go_ret
                  exact ⟨by rw [Hc.out]; rfl, hl4⟩
                | true =>
                  have Hc := Lib.hid (Hend.out true (by rw [HNm.out]; simp))
                  go_wp2_with fail
                  refine (Href.out _ hl4).mono ?_
                  rintro e w6 ⟨rfl, hb6⟩
                  have hl6 := hl4.trans (hb6.mono hl4.size)
                  cases Rf with
                  | true =>
                    go_wp2_with fail
                    go_ret
                    exact ⟨by rw [Hc.out]; rfl, hl6⟩
                  | false =>
                    go_wp2_with fail
                    go_ret
                    exact ⟨by rw [Hc.out]; rfl, hl6⟩
            | false =>
              have Hc := Lib.hid (Hend.out true (by simp))
              go_wp2_with fail
              refine (Href.out _ hl4).mono ?_
              rintro e w6 ⟨rfl, hb6⟩
              have hl6 := hl4.trans (hb6.mono hl4.size)
              cases Rf with
              | true =>
                go_wp2_with fail
                go_ret
                exact ⟨by rw [Hc.out]; rfl, hl6⟩
              | false =>
                go_wp2_with fail
                go_ret
                exact ⟨by rw [Hc.out]; rfl, hl6⟩
          · have Hkind := Lib.hid hkind
            have Hc : Hid (fieldCodeN r l q (A1, A2, A3, A4, A5) = 7) := Lib.hid (by unfold fieldCodeN; rw [if_neg (by rw [hn5]; simp), if_neg (by rw [HL.out, HR2.out]; simp), if_pos hkind])
            clear hkind
            go_wp2_with fail
            refine (kindOk_no A2 _ Hkind.out).mono ?_
            rintro e w1 ⟨rfl, rfl⟩
            go_wp2_with fail
            go_ret
            exact ⟨by rw [Hc.out]; rfl, hl4⟩
    · have Hin2 : Hid (¬ (0 ≤ field ∧ field < (l.length : Int))) := Lib.hid (by omega)
      have He := Lib.hid (HO.out hin2)
      clear hin2 HE HO Hx
      rw [He.out]
      go_enter Tryd.func94, Tryd.ntmps94
      go_wp2_with fail
      refine (isIndex_yes _ _ _ Hin.out).mono ?_
      rintro e w1 ⟨rfl, rfl⟩
      go_wp2_with fail
      refine (isIndex_no _ _ _ Hin2.out).mono ?_
      rintro e w1 ⟨rfl, rfl⟩
      go_wp2_with fail
      go_ret
      exact ⟨rfl, H1⟩
  · have Hin : Hid (¬ (0 ≤ msg ∧ msg < (r.length : Int))) := Lib.hid (by omega)
    have He := Lib.hid (fieldCode_out1 (field := field) hin)
    clear hin hu
    rw [He.out]
    go_enter Tryd.func94, Tryd.ntmps94
    go_wp2_with fail
    refine (isIndex_no _ _ _ Hin.out).mono ?_
    rintro e w1 ⟨rfl, rfl⟩
    go_wp2_with fail
    go_ret
    exact ⟨rfl, H1⟩
end Go.Proofs.YtcbohfncckpolaaDoor.Num
