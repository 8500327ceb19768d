/-
  The walks of the reference's MsgCode and FieldCode: they give what the plain definitions here say; only new memory is written.
-/
import Derived.Test.YtpkofbdfnbpfpaaGreatCheck
import Derived.Deep.RegionWith
import Derived.Deep.DeepCutAuto
namespace Go.Proofs.YtpkofbdfnbpfpaaGreat.Num
open Go.RowKit Go.Proofs
set_option linter.unusedVariables false
set_option linter.unusedSimpArgs false

def msgCodeN (r : List RM) (k : Nat) (m : RM) : Int := if ¬ (1 ≤ m.1 ∧ m.1 ≤ 99) then 2 else if hasId r m.1 k = true then 3 else if 8 < m.2.length then 4 else 0
def msgCodeR (r : List RM) (msg : Int) : Int := if h : 0 ≤ msg ∧ msg.toNat < r.length then msgCodeN r msg.toNat (r[msg.toNat]'h.2) else 0
def fieldCodeN (r : List RM) (l : List RF) (k : Nat) (f : RF) : Int :=
  if numOkB f.1 = false then 5 else if hasNum (l.take k) f.1 = true then 6 else if ¬ (1 ≤ f.2.1 ∧ f.2.1 ≤ 8) then 7
  else if f.2.2.2.1 = true ∧ (f.2.2.1 = false ∨ numericB f.2.1 = false) then 8
  else if (f.2.1 = 8 ∧ hasId r f.2.2.2.2 r.length = false) ∨ (f.2.1 ≠ 8 ∧ f.2.2.2.2 ≠ 0) then 9 else 0
def fieldCodeR (r : List RM) (msg field : Int) : Int :=
  if h : 0 ≤ msg ∧ msg.toNat < r.length then
    if h2 : 0 ≤ field ∧ field.toNat < (r[msg.toNat]'h.2).2.length then fieldCodeN r (r[msg.toNat]'h.2).2 field.toNat ((r[msg.toNat]'h.2).2[field.toNat]'h2.2) else 0
  else 0
theorem msgCode_in {r : List RM} {k : Nat} (h : k < r.length) : msgCodeR r (k : Int) = msgCodeN r k r[k] := by
  unfold msgCodeR
  rw [dif_pos ⟨by omega, by simpa using h⟩]
  simp
theorem msgCode_out {r : List RM} {msg : Int} (h : ¬ (0 ≤ msg ∧ msg ≤ (r.length : Int) - 1)) : msgCodeR r msg = 0 := by
  unfold msgCodeR
  rw [dif_neg (by omega)]
theorem fieldCode_in {r : List RM} {k q : Nat} (h : k < r.length) (h2 : q < r[k].2.length) : fieldCodeR r (k : Int) (q : Int) = fieldCodeN r r[k].2 q r[k].2[q] := by
  unfold fieldCodeR
  rw [dif_pos ⟨by omega, by simpa using h⟩]
  simp only [Int.toNat_natCast]
  rw [dif_pos ⟨by omega, h2⟩]
theorem fieldCode_out1 {r : List RM} {msg field : Int} (h : ¬ (0 ≤ msg ∧ msg ≤ (r.length : Int) - 1)) : fieldCodeR r msg field = 0 := by
  unfold fieldCodeR
  rw [dif_neg (by omega)]
theorem fieldCode_out2 {r : List RM} {k : Nat} {field : Int} (h : k < r.length) (h2 : ¬ (0 ≤ field ∧ field ≤ (r[k].2.length : Int) - 1)) : fieldCodeR r (k : Int) field = 0 := by
  unfold fieldCodeR
  rw [dif_pos ⟨by omega, by simpa using h⟩]
  simp only [Int.toNat_natCast]
  rw [dif_neg (by omega)]
set_option maxHeartbeats 2000000 in
theorem specMsgCode_any (v : Value) (r : List RM) (msg : Int) (w : World) (h : RawAt w (· < w.heap.size) v r) (hr : Small r) :
    Calls Tryz.prog 179 #[v, .int .i64 msg] w fun e w' => e = .returned (.int .i64 (msgCodeR r msg)) ∧ Below w.heap.size w w' := by
  obtain ⟨u, rfl, hu⟩ := h
  obtain ⟨a, cap, rfl⟩ := hu.len
  have H := Lib.hid hu
  have hr1 := hr.1
  have hw1 : IntKind.i64.wrap ((r.length : Int) - 1) = (r.length : Int) - 1 := IntWalk.i64_in _ (by omega)
  by_cases hin : 0 ≤ msg ∧ msg ≤ (r.length : Int) - 1
  · obtain ⟨k, rfl⟩ := Int.eq_ofNat_of_zero_le hin.1
    have hk : k < r.length := by omega
    have hki : (k : Int) < (r.length : Int) := by omega
    have Hin := Lib.hid hin
    have He := Lib.hid (msgCode_in hk)
    rw [He.out]
    obtain ⟨b, o, c, hv, hbC, hcs⟩ := hu.cells (by omega)
    obtain ⟨rfl, rfl⟩ : a = some ⟨b, o, none⟩ ∧ cap = c := by injection hv with e1 e2 e3; exact ⟨e1, e3⟩
    obtain ⟨x, d0, d1, hx⟩ := hcs k hk
    obtain ⟨xa, xc, rfl⟩ := hx.len
    have hfl := hr.2 _ (List.getElem_mem hk)
    clear hu hcs hv hx hin
    generalize r[k] = m at d0 d1 hfl
    obtain ⟨id, fs⟩ := m
    simp only at d0 d1 hfl
    have H1 : Below w.heap.size w (w.alloc (.cells #[.slice (some ⟨b, o, none⟩) r.length cap] 149)) := (Below.refl _ _).alloc (Nat.le_refl _) _
    go_enter Tryz.func179, Tryz.ntmps179
    go_wp2_with fail
    refine (sIn_yes _ 0 _ _ Hin.out).mono ?_
    rintro e w1 ⟨rfl, rfl⟩
    by_cases hid : 1 ≤ id ∧ id ≤ 99
    · have Hid' := Lib.hid hid
      go_wp2_with fail
      refine (sIn_yes id 1 99 _ Hid'.out).mono ?_
      rintro e w2 ⟨rfl, rfl⟩
      clear hid
      have hl2 : Below w.heap.size w ((w.alloc (.cells #[.slice (some ⟨b, o, none⟩) r.length cap] 149)).alloc (.cells #[.int .i64 id, .slice xa fs.length xc] 187)) := H1.alloc (by simp) _
      have hx2 : Box ((w.alloc (.cells #[.slice (some ⟨b, o, none⟩) r.length cap] 149)).alloc (.cells #[.int .i64 id, .slice xa fs.length xc] 187)) (w.heap.size + 1) [.int .i64 id, .slice xa fs.length xc] := by
        have h := Box.fresh (w.alloc (.cells #[.slice (some ⟨b, o, none⟩) r.length cap] 149)) #[.int .i64 id, .slice xa fs.length xc] 187
        rwa [show (w.alloc (.cells #[.slice (some ⟨b, o, none⟩) r.length cap] 149)).heap.size = w.heap.size + 1 by simp] at h
      go_wp2_with fail
      generalize (w.alloc (.cells #[.slice (some ⟨b, o, none⟩) r.length cap] 149)).alloc (.cells #[.int .i64 id, .slice xa fs.length xc] 187) = w2 at hl2 hx2 ⊢
      have hz2 := hx2.lt
      refine (specHasId_any _ r id k _ (⟨_, rfl, H.out.keep (below_sees hl2) fun b hb => Nat.lt_of_lt_of_le hb hl2.size⟩) (by omega) hr1).mono ?_
      rintro e w3 ⟨rfl, hb3⟩
      have hx3 := hx2.below hb3 hz2
      have hl3 := hl2.trans (hb3.mono hl2.size)
      obtain ⟨c0, c1, f0, f1⟩ := hx3.two
      clear hb3 hx2 hl2
      obtain ⟨R, hR⟩ : ∃ R, hasId r id k = R := ⟨_, rfl⟩
      have HR := Lib.hid hR
      rw [hR]
      clear hR
      cases R with
      | true =>
        have Hc : Hid (msgCodeN r k (id, fs) = 3) := Lib.hid (by unfold msgCodeN; rw [if_neg (by simpa using Hid'.out), if_pos HR.out])
        go_wp2_with fail
        go_ret
        exact ⟨by rw [Hc.out]; rfl, hl3⟩
      | false =>
        by_cases h8 : 8 < fs.length
        · have h8i : (8 : Int) < (fs.length : Int) := by omega
          have Hc : Hid (msgCodeN r k (id, fs) = 4) := Lib.hid (by unfold msgCodeN; rw [if_neg (by simpa using Hid'.out), if_neg (by rw [HR.out]; simp), if_pos h8])
          go_wp2_with fail
          go_ret
          exact ⟨by rw [Hc.out]; rfl, hl3⟩
        · have h8i : decide ((8 : Int) < (fs.length : Int)) = false := decide_eq_false (by omega)
          have h8n : decide (8 < fs.length) = false := decide_eq_false h8
          have Hc : Hid (msgCodeN r k (id, fs) = 0) := Lib.hid (by unfold msgCodeN; rw [if_neg (by simpa using Hid'.out), if_neg (by rw [HR.out]; simp), if_neg h8])
          go_wp2_with fail
          go_ret
          exact ⟨by rw [Hc.out]; rfl, hl3⟩
    · have Hid' := Lib.hid hid
      have Hc : Hid (msgCodeN r k (id, fs) = 2) := Lib.hid (if_pos hid)
      clear hid
      go_wp2_with fail
      refine (sIn_no id 1 99 _ Hid'.out).mono ?_
      rintro e w2 ⟨rfl, rfl⟩
      go_wp2_with fail
      go_ret
      exact ⟨by rw [Hc.out]; rfl, H1.alloc (by simp) _⟩
  · have Hin := Lib.hid hin
    have He := Lib.hid (msgCode_out hin)
    clear hin hu
    rw [He.out]
    go_enter Tryz.func179, Tryz.ntmps179
    go_wp2_with fail
    refine (sIn_no _ 0 _ _ Hin.out).mono ?_
    rintro e w1 ⟨rfl, rfl⟩
    go_wp2_with fail
    go_ret
    exact ⟨rfl, (Below.refl _ _).alloc (Nat.le_refl _) _⟩
theorem Box.fiveT {w : World} {g : Nat} {a b c d e : Value} (h : Box w g [a, b, c, d, e]) : w.cell? ⟨g, 0, none⟩ = some a ∧ w.cell? ⟨g, 1, none⟩ = some b ∧ w.cell? ⟨g, 2, none⟩ = some c ∧ w.cell? ⟨g, 3, none⟩ = some d ∧ w.cell? ⟨g, 4, none⟩ = some e ∧ True :=
  ⟨(h.2 0 (by simp)).1, (h.2 1 (by simp)).1, (h.2 2 (by simp)).1, (h.2 3 (by simp)).1, (h.2 4 (by simp)).1, trivial⟩
theorem FieldsAt.take {w : World} {S : Nat → Prop} {a : Option Addr} {cap : Nat} {l : List RF} (h : FieldsAt w S (.slice a l.length cap) l) (k : Nat) (hk : k ≤ l.length) (cap' : Nat) (hc' : k ≤ cap') : FieldsAt w S (.slice a k cap') (l.take k) := by
  have hlen : (l.take k).length = k := by rw [List.length_take]; omega
  by_cases h0 : k = 0
  · subst h0; exact .inl ⟨by simp, a, cap', rfl⟩
  · rcases h with ⟨rfl, _⟩ | ⟨b, o, c, hv, hp, hS, hc⟩
    · simp at hk; omega
    · injection hv with e1 _ e3
      subst e1 e3
      refine .inr ⟨b, o, cap', by rw [hlen], ⟨by omega, by omega⟩, hS, fun i hi => ?_⟩
      obtain ⟨cs, h1, h2, h3⟩ := hc i (by omega)
      exact ⟨cs, h1, by rw [List.getElem_take]; exact h2, h3⟩
set_option maxHeartbeats 4000000 in
theorem specFieldCode_any (v : Value) (r : List RM) (msg field : Int) (w : World) (h : RawAt w (· < w.heap.size) v r) (hr : Small r) :
    Calls Tryz.prog 180 #[v, .int .i64 msg, .int .i64 field] w fun e w' => e = .returned (.int .i64 (fieldCodeR r msg field)) ∧ Below w.heap.size w w' := by
  obtain ⟨u, rfl, hu⟩ := h
  obtain ⟨a, cap, rfl⟩ := hu.len
  have H := Lib.hid hu
  have hr1 := hr.1
  have hw1 : IntKind.i64.wrap ((r.length : Int) - 1) = (r.length : Int) - 1 := IntWalk.i64_in _ (by omega)
  have H1 : Below w.heap.size w (w.alloc (.cells #[.slice a r.length cap] 149)) := (Below.refl _ _).alloc (Nat.le_refl _) _
  by_cases hin : 0 ≤ msg ∧ msg ≤ (r.length : Int) - 1
  · obtain ⟨k, rfl⟩ := Int.eq_ofNat_of_zero_le hin.1
    have hk : k < r.length := by omega
    have hki : (k : Int) < (r.length : Int) := by omega
    have Hin := Lib.hid hin
    obtain ⟨b, o, c, hv, hbC, hcs⟩ := hu.cells (by omega)
    obtain ⟨rfl, rfl⟩ : a = some ⟨b, o, none⟩ ∧ cap = c := by injection hv with e1 e2 e3; exact ⟨e1, e3⟩
    obtain ⟨x, d0, d1, hx⟩ := hcs k hk
    obtain ⟨xa, xc, rfl⟩ := hx.len
    have hfl := hr.2 _ (List.getElem_mem hk)
    have HE : Hid (∀ q (h2 : q < r[k].2.length), fieldCodeR r (k : Int) (q : Int) = fieldCodeN r r[k].2 q r[k].2[q]) := Lib.hid fun q h2 => fieldCode_in hk h2
    have HO : Hid (¬ (0 ≤ field ∧ field ≤ (r[k].2.length : Int) - 1) → fieldCodeR r (k : Int) field = 0) := Lib.hid (fieldCode_out2 hk)
    have Hx := Lib.hid hx
    clear hu hcs hv hx hin d0
    generalize r[k] = m at d1 hfl HE HO Hx
    obtain ⟨id, l⟩ := m
    simp only at d1 hfl HE HO Hx
    have hw2 : IntKind.i64.wrap ((l.length : Int) - 1) = (l.length : Int) - 1 := IntWalk.i64_in _ (by omega)
    by_cases hin2 : 0 ≤ field ∧ field ≤ (l.length : Int) - 1
    · obtain ⟨q, rfl⟩ := Int.eq_ofNat_of_zero_le hin2.1
      have hq : q < l.length := by omega
      have hqi : (q : Int) < (l.length : Int) := by omega
      have hqi2 : (q : Int) ≤ (l.length : Int) := by omega
      have Hin2 := Lib.hid hin2
      have He := Lib.hid (HE.out q hq)
      rw [He.out]
      have hcapx : l.length ≤ xc := Hx.out.cap
      have hqc : (q : Int) ≤ (xc : Int) := by omega
      have Hpre := Lib.hid (Hx.out.take q (by omega) xc (by omega))
      have Hpl : Hid ((l.take q).length ≤ 1048576) := Lib.hid (by rw [List.length_take]; omega)
      obtain ⟨fb, fo, fc, fv, fbC, fcs⟩ := Hx.out.cells (by omega)
      obtain ⟨rfl, rfl⟩ : xa = some ⟨fb, fo, none⟩ ∧ xc = fc := by injection fv with e1 e2 e3; exact ⟨e1, e3⟩
      obtain ⟨x0, x1, x2, x3, x4⟩ := fcs q hq
      clear fcs fv HE HO He Hx hin2
      generalize hL : l.take q = L at Hpre Hpl
      have HL := Lib.hid hL
      clear hL
      generalize l[q] = f at x0 x1 x2 x3 x4
      obtain ⟨A1, A2, A3, A4, A5⟩ := f
      simp only at x0 x1 x2 x3 x4
      go_enter Tryz.func180, Tryz.ntmps180
      go_wp2_with fail
      refine (sIn_yes _ 0 _ _ Hin.out).mono ?_
      rintro e w1 ⟨rfl, rfl⟩
      go_wp2_with fail
      refine (sIn_yes _ 0 _ _ Hin2.out).mono ?_
      rintro e w1 ⟨rfl, rfl⟩
      have hfbw : fb < (w.alloc (.cells #[.slice (some ⟨b, o, none⟩) r.length cap] 149)).heap.size := by simp; omega
      go_wp2_with fail
      have hl2 : Below w.heap.size w ((w.alloc (.cells #[.slice (some ⟨b, o, none⟩) r.length cap] 149)).alloc (.cells #[.int .i64 A1, .int .i64 A2, .bool A3, .bool A4, .int .i64 A5] 189)) := H1.alloc (by simp) _
      have hx2 : Box ((w.alloc (.cells #[.slice (some ⟨b, o, none⟩) r.length cap] 149)).alloc (.cells #[.int .i64 A1, .int .i64 A2, .bool A3, .bool A4, .int .i64 A5] 189)) (w.heap.size + 1) [.int .i64 A1, .int .i64 A2, .bool A3, .bool A4, .int .i64 A5] := by
        have h := Box.fresh (w.alloc (.cells #[.slice (some ⟨b, o, none⟩) r.length cap] 149)) #[.int .i64 A1, .int .i64 A2, .bool A3, .bool A4, .int .i64 A5] 189
        rwa [show (w.alloc (.cells #[.slice (some ⟨b, o, none⟩) r.length cap] 149)).heap.size = w.heap.size + 1 by simp] at h
      have hy2 : Box ((w.alloc (.cells #[.slice (some ⟨b, o, none⟩) r.length cap] 149)).alloc (.cells #[.int .i64 A1, .int .i64 A2, .bool A3, .bool A4, .int .i64 A5] 189)) w.heap.size [.slice (some ⟨b, o, none⟩) r.length cap] := (Box.fresh _ _ _).alloc _
      generalize (w.alloc (.cells #[.slice (some ⟨b, o, none⟩) r.length cap] 149)).alloc (.cells #[.int .i64 A1, .int .i64 A2, .bool A3, .bool A4, .int .i64 A5] 189) = w2 at hl2 hx2 hy2 ⊢
      have hz2 := hx2.lt
      have hzy := hy2.lt
      obtain ⟨c0, c1, c2, c3, c4, _⟩ := hx2.fiveT
      clear x0 x1 x2 x3 x4 d1 hfbw
      obtain ⟨R, hR⟩ : ∃ R, numOkB A1 = R := ⟨_, rfl⟩
      have Hnum := Lib.hid (specNumberOk_any A1)
      have HR := Lib.hid hR
      rw [hR] at Hnum
      clear hR
      refine (Hnum.out _).mono ?_
      rintro e w1 ⟨rfl, rfl⟩
      cases R with
      | false =>
        have Hc : Hid (fieldCodeN r l q (A1, A2, A3, A4, A5) = 5) := Lib.hid (if_pos HR.out)
        go_wp2_with fail
        go_ret
        exact ⟨by rw [Hc.out]; rfl, hl2⟩
      | true =>
        go_upto_region 7 with fail
        obtain ⟨R2, hR2⟩ : ∃ R2, hasNum L A1 = R2 := ⟨_, rfl⟩
        have HR2 := Lib.hid hR2
        have hx3 := Lib.hid hx2
        have hy3 := Lib.hid hy2
        have hl3 := Lib.hid hl2
        clear hR2 hx2 hy2
        go_cut [44] from 45 to 50 (fun s wx => s = .bool R2 ∧ Hid (Box wx (w.heap.size + 1) [.int .i64 A1, .int .i64 A2, .bool A3, .bool A4, .int .i64 A5]) ∧ Hid (Box wx w.heap.size [.slice (some ⟨b, o, none⟩) r.length cap]) ∧ Below w.heap.size w wx)
        case first =>
          have Hh := Lib.hid (specHasNumber_any _ L A1 w2.drew (Hpre.out.keep (below_sees hl3.out.drew) fun b hb => Nat.lt_of_lt_of_le hb hl3.out.drew.size) Hpl.out)
          rw [HR2.out] at Hh
          go_region_with (go_at_call 155; refine Hh.out.mono ?_; rintro e w3 ⟨rfl, hb3⟩; have hx4 := hx3.out.drew.below hb3 hz2; have hy4 := hy3.out.drew.below hb3 hzy; have hl4 := hl3.out.drew.trans (hb3.mono hl3.out.drew.size))
          all_goals
            have hx5 := Lib.hid hx4
            have hy5 := Lib.hid hy4
            clear hx4 hy4 hb3
            go_wp2_with fail
            go_meet
            exact ⟨rfl, hx5, hy5, hl4⟩
        case rest =>
        obtain ⟨rfl, hx4, hy4, hl4⟩ := hcut
        clear c0 c1 c2 c3 c4 hx3 hy3 hl3 hl2 hz2 hzy Hpre Hpl
        obtain ⟨c0, c1, c2, c3, c4, _⟩ := hx4.out.fiveT
        obtain ⟨p0, _⟩ := hy4.out.one
        have hn5 : numOkB A1 = true := HR.out
        cases R2 with
        | true =>
          have Hc : Hid (fieldCodeN r l q (A1, A2, A3, A4, A5) = 6) := Lib.hid (by unfold fieldCodeN; rw [if_neg (by rw [hn5]; simp), if_pos (by rw [HL.out]; exact HR2.out)])
          go_wp2_with fail
          go_ret
          exact ⟨by rw [Hc.out]; rfl, hl4⟩
        | false =>
          by_cases hkind : 1 ≤ A2 ∧ A2 ≤ 8
          · have Hkind := Lib.hid hkind
            have Hc1 : Hid (fieldCodeN r l q (A1, A2, A3, A4, A5) = if A4 = true ∧ (A3 = false ∨ numericB A2 = false) then 8 else if (A2 = 8 ∧ hasId r A5 r.length = false) ∨ (A2 ≠ 8 ∧ A5 ≠ 0) then 9 else 0) := Lib.hid (by unfold fieldCodeN; rw [if_neg (by rw [hn5]; simp), if_neg (by rw [HL.out, HR2.out]; simp), if_neg (by simpa using hkind)])
            clear hkind hn5
            obtain ⟨Nm, hNm⟩ : ∃ Nm, numericB A2 = Nm := ⟨_, rfl⟩
            have Hnm := Lib.hid (specNumeric_any A2)
            rw [hNm] at Hnm
            have HNm := Lib.hid hNm
            clear hNm
            go_wp2_with fail
            refine (specKind_yes A2 _ Hkind.out).mono ?_
            rintro e w1 ⟨rfl, rfl⟩
            cases A4 with
            | true =>
              cases A3 with
              | false =>
                have Hc : Hid (fieldCodeN r l q (A1, A2, false, true, A5) = 8) := Lib.hid (by rw [Hc1.out, if_pos ⟨by trivial, .inl (by trivial)⟩])
                go_wp2_with fail
                go_ret
                exact ⟨by rw [Hc.out]; rfl, hl4⟩
              | true =>
                go_wp2_with fail
                refine (Hnm.out _).mono ?_
                rintro e w1 ⟨rfl, rfl⟩
                cases Nm with
                | false =>
                  have Hc : Hid (fieldCodeN r l q (A1, A2, true, true, A5) = 8) := Lib.hid (by rw [Hc1.out, if_pos ⟨by trivial, .inr HNm.out⟩])
                  go_wp2_with fail
                  go_ret
                  exact ⟨by rw [Hc.out]; rfl, hl4⟩
                | true =>
                  have Hc2 : Hid (fieldCodeN r l q (A1, A2, true, true, A5) = if (A2 = 8 ∧ hasId r A5 r.length = false) ∨ (A2 ≠ 8 ∧ A5 ≠ 0) then 9 else 0) := Lib.hid (by rw [Hc1.out, if_neg (by rw [HNm.out]; simp)])
                  by_cases h8 : A2 = 8
                  · subst h8
                    obtain ⟨Hd, hHd⟩ : ∃ Hd, hasId r A5 r.length = Hd := ⟨_, rfl⟩
                    have HHd := Lib.hid hHd
                    clear hHd
                    go_wp2_with fail
                    refine (specHasId_any _ r A5 r.length _ (⟨_, rfl, H.out.keep (below_sees hl4) fun b hb => Nat.lt_of_lt_of_le hb hl4.size⟩) (Nat.le_refl _) hr1).mono ?_
                    rw [HHd.out]
                    rintro e w6 ⟨rfl, hb6⟩
                    have hx6 := hx4.out.below hb6 hx4.out.lt
                    have hl6 := hl4.trans (hb6.mono hl4.size)
                    clear c0 c1 c2 c3 c4
                    obtain ⟨c0, c1, c2, c3, c4, _⟩ := hx6.fiveT
                    cases Hd with
                    | true =>
                      have Hc : Hid (fieldCodeN r l q (A1, 8, true, true, A5) = 0) := Lib.hid (by rw [Hc2.out, if_neg (by rw [HHd.out]; simp)])
                      go_wp2_with fail
                      go_ret
                      exact ⟨by rw [Hc.out]; rfl, hl6⟩
                    | false =>
                      have Hc : Hid (fieldCodeN r l q (A1, 8, true, true, A5) = 9) := Lib.hid (by rw [Hc2.out, if_pos (.inl ⟨by trivial, HHd.out⟩)])
                      go_wp2_with fail
                      go_ret
                      exact ⟨by rw [Hc.out]; rfl, hl6⟩
                  · have b8 := neB2 h8
                    have b8' : (A2 != 8) = true := by rw [bne, b8]; rfl
                    by_cases h0 : A5 = 0
                    · subst h0
                      have Hc : Hid (fieldCodeN r l q (A1, A2, true, true, 0) = 0) := Lib.hid (by rw [Hc2.out, if_neg (by intro h; rcases h with ⟨h, _⟩ | ⟨_, h⟩; exact h8 h; exact h rfl)])
                      clear h8
                      go_wp2_with fail
                      go_ret
                      exact ⟨by rw [Hc.out]; rfl, hl4⟩
                    · have b0 := neB2 h0
                      have b0' : (A5 != 0) = true := by rw [bne, b0]; rfl
                      have Hc : Hid (fieldCodeN r l q (A1, A2, true, true, A5) = 9) := Lib.hid (by rw [Hc2.out, if_pos (.inr ⟨h8, h0⟩)])
                      clear h8 h0
                      go_wp2_with fail
                      go_ret
                      exact ⟨by rw [Hc.out]; rfl, hl4⟩
            | false =>
              have Hc2 : Hid (fieldCodeN r l q (A1, A2, A3, false, A5) = if (A2 = 8 ∧ hasId r A5 r.length = false) ∨ (A2 ≠ 8 ∧ A5 ≠ 0) then 9 else 0) := Lib.hid (by rw [Hc1.out, if_neg (by simp)])
              by_cases h8 : A2 = 8
              · subst h8
                obtain ⟨Hd, hHd⟩ : ∃ Hd, hasId r A5 r.length = Hd := ⟨_, rfl⟩
                have HHd := Lib.hid hHd
                clear hHd
                go_wp2_with fail
                refine (specHasId_any _ r A5 r.length _ (⟨_, rfl, H.out.keep (below_sees hl4) fun b hb => Nat.lt_of_lt_of_le hb hl4.size⟩) (Nat.le_refl _) hr1).mono ?_
                rw [HHd.out]
                rintro e w6 ⟨rfl, hb6⟩
                have hx6 := hx4.out.below hb6 hx4.out.lt
                have hl6 := hl4.trans (hb6.mono hl4.size)
                clear c0 c1 c2 c3 c4
                obtain ⟨c0, c1, c2, c3, c4, _⟩ := hx6.fiveT
                cases Hd with
                | true =>
                  have Hc : Hid (fieldCodeN r l q (A1, 8, A3, false, A5) = 0) := Lib.hid (by rw [Hc2.out, if_neg (by rw [HHd.out]; simp)])
                  go_wp2_with fail
                  go_ret
                  exact ⟨by rw [Hc.out]; rfl, hl6⟩
                | false =>
                  have Hc : Hid (fieldCodeN r l q (A1, 8, A3, false, A5) = 9) := Lib.hid (by rw [Hc2.out, if_pos (.inl ⟨by trivial, HHd.out⟩)])
                  go_wp2_with fail
                  go_ret
                  exact ⟨by rw [Hc.out]; rfl, hl6⟩
              · have b8 := neB2 h8
                have b8' : (A2 != 8) = true := by rw [bne, b8]; rfl
                by_cases h0 : A5 = 0
                · subst h0
                  have Hc : Hid (fieldCodeN r l q (A1, A2, A3, false, 0) = 0) := Lib.hid (by rw [Hc2.out, if_neg (by intro h; rcases h with ⟨h, _⟩ | ⟨_, h⟩; exact h8 h; exact h rfl)])
                  clear h8
                  go_wp2_with fail
                  go_ret
                  exact ⟨by rw [Hc.out]; rfl, hl4⟩
                · have b0 := neB2 h0
                  have b0' : (A5 != 0) = true := by rw [bne, b0]; rfl
                  have Hc : Hid (fieldCodeN r l q (A1, A2, A3, false, A5) = 9) := Lib.hid (by rw [Hc2.out, if_pos (.inr ⟨h8, h0⟩)])
                  clear h8 h0
                  go_wp2_with fail
                  go_ret
                  exact ⟨by rw [Hc.out]; rfl, hl4⟩
          · have Hkind := Lib.hid hkind
            have Hc : Hid (fieldCodeN r l q (A1, A2, A3, A4, A5) = 7) := Lib.hid (by unfold fieldCodeN; rw [if_neg (by rw [hn5]; simp), if_neg (by rw [HL.out, HR2.out]; simp), if_pos hkind])
            clear hkind
            go_wp2_with fail
            refine (specKind_no A2 _ Hkind.out).mono ?_
            rintro e w1 ⟨rfl, rfl⟩
            go_wp2_with fail
            go_ret
            exact ⟨by rw [Hc.out]; rfl, hl4⟩
    · have Hin2 := Lib.hid hin2
      have He := Lib.hid (HO.out hin2)
      clear hin2 HE HO Hx
      rw [He.out]
      go_enter Tryz.func180, Tryz.ntmps180
      go_wp2_with fail
      refine (sIn_yes _ 0 _ _ Hin.out).mono ?_
      rintro e w1 ⟨rfl, rfl⟩
      go_wp2_with fail
      refine (sIn_no _ 0 _ _ Hin2.out).mono ?_
      rintro e w1 ⟨rfl, rfl⟩
      go_wp2_with fail
      go_ret
      exact ⟨rfl, H1⟩
  · have Hin := Lib.hid hin
    have He := Lib.hid (fieldCode_out1 (field := field) hin)
    clear hin hu
    rw [He.out]
    go_enter Tryz.func180, Tryz.ntmps180
    go_wp2_with fail
    refine (sIn_no _ 0 _ _ Hin.out).mono ?_
    rintro e w1 ⟨rfl, rfl⟩
    go_wp2_with fail
    go_ret
    exact ⟨rfl, H1⟩
end Go.Proofs.YtpkofbdfnbpfpaaGreat.Num
