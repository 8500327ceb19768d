/-
  The walks of the program's checkMsg, checkRaw and RawOk: they tell the first code that is not 0, as an error, or nil; only new memory is written.
-/
import Derived.Test.YtcbohfncckpolaaDoorFieldI
import Derived.Test.YtcbohfncckpolaaDoorFirst
namespace Go.Proofs.YtcbohfncckpolaaDoor.Num
open Go.RowKit Go.Proofs
set_option linter.unusedVariables false
set_option linter.unusedSimpArgs false

/-- A violation as an error. -/
def errV (f : Int × Int × Int) : Value := .iface 143 (.agg #[.int .i64 f.1, .int .i64 f.2.1, .int .i64 f.2.2])
theorem violOf_zero (m f : Int) (w : World) : Calls Tryd.prog 80 #[.int .i64 0, .int .i64 m, .int .i64 f] w fun e w' => e = .returned .nilIface ∧ w = w' := by
  go_enter Tryd.func80, Tryd.ntmps80
  go_wp2_with fail
  go_ret
  exact ⟨rfl, rfl⟩
theorem violOf_some (c m f : Int) (w : World) (h : c ≠ 0) : Calls Tryd.prog 80 #[.int .i64 c, .int .i64 m, .int .i64 f] w fun e w' => e = .returned (errV (c, m, f)) ∧ w = w' := by
  have bC := neB2 h
  clear h
  go_enter Tryd.func80, Tryd.ntmps80
  go_wp2_with fail
  go_ret
  exact ⟨rfl, rfl⟩
/-- What checkMsg gives at the k-th message. -/
def MsgErr (r : List RM) (k : Nat) (n : Nat) (E : Value) : Prop :=
  (E = .nilIface ∧ msgCodeR r (k : Int) = 0 ∧ ∀ p : Nat, p < n → fieldCodeR r (k : Int) (p : Int) = 0) ∨
  (msgCodeR r (k : Int) ≠ 0 ∧ E = errV (msgCodeR r (k : Int), (k : Int), -1)) ∨
  (∃ q : Nat, msgCodeR r (k : Int) = 0 ∧ (∀ p : Nat, p < q → fieldCodeR r (k : Int) (p : Int) = 0) ∧ q < n ∧ fieldCodeR r (k : Int) (q : Int) ≠ 0 ∧ E = errV (fieldCodeR r (k : Int) (q : Int), (k : Int), (q : Int)))
set_option maxHeartbeats 4000000 in
theorem checkMsg_any (v : Value) (r : List RM) (k : Nat) (w : World) (hk : k < r.length) (h : RawAt w (· < w.heap.size) v r) (hr : Small r) :
    Calls Tryd.prog 81 #[v, .int .i64 k] w fun e w' => ∃ E, MsgErr r k r[k].2.length E ∧ e = .returned E ∧ Below w.heap.size w w' := by
  obtain ⟨u, rfl, hu⟩ := h
  obtain ⟨a, cap, rfl⟩ := hu.len
  have H := Lib.hid hu
  have Hr := Lib.hid hr
  have hfl := hr.2 _ (List.getElem_mem hk)
  have hki : (k : Int) < (r.length : Int) := by omega
  obtain ⟨b, o, c, hv, hbC, hcs⟩ := hu.cells (by omega)
  obtain ⟨rfl, rfl⟩ : a = some ⟨b, o, none⟩ ∧ cap = c := by injection hv with e1 e2 e3; exact ⟨e1, e3⟩
  obtain ⟨x, d0, d1, hx⟩ := hcs k hk
  obtain ⟨xa, xc, rfl⟩ := hx.len
  clear hu hr hcs hv hx d0
  generalize r[k].2.length = n at d1 hfl ⊢
  have hl1 : Below w.heap.size w (w.alloc (.cells #[.slice (some ⟨b, o, none⟩) r.length cap] 41)) := (Below.refl _ _).alloc (Nat.le_refl _) _
  have hx1 := Box.fresh w #[.slice (some ⟨b, o, none⟩) r.length cap] 41
  have hraw : ∀ wx : World, Below w.heap.size w wx → RawAt wx (· < wx.heap.size) (.agg #[.slice (some ⟨b, o, none⟩) r.length cap]) r :=
    fun wx hb => ⟨_, rfl, H.out.keep (below_sees hb) fun b hb' => Nat.lt_of_lt_of_le hb' hb.size⟩
  have Hraw := Lib.hid hraw
  clear hraw
  go_enter Tryd.func81, Tryd.ntmps81
  go_wp2_with fail
  generalize (w.alloc (.cells #[.slice (some ⟨b, o, none⟩) r.length cap] 41)) = w1 at hl1 hx1 ⊢
  obtain ⟨C, hC⟩ : ∃ C, msgCodeR r (k : Int) = C := ⟨_, rfl⟩
  have HC := Lib.hid hC
  clear hC
  refine (implMsgCode_any _ r (k : Int) _ (Hraw.out _ hl1) Hr.out).mono ?_
  rw [HC.out]
  rintro e w2 ⟨rfl, hb2⟩
  have HX := Lib.hid (hx1.below hb2 hx1.lt)
  have hl2 := hl1.trans (hb2.mono hl1.size)
  have hd1 : w2.cell? ⟨b, o + k * 2 + 1, none⟩ = some (.slice xa n xc) := by rw [hl2.cell (p := ⟨b, _, none⟩) hbC]; exact d1
  have hbw : b < w2.heap.size := Nat.lt_of_lt_of_le hbC hl2.size
  obtain ⟨c0, _⟩ := HX.out.one
  clear hx1 hl1 hb2 d1
  by_cases hC0 : C = 0
  · subst hC0
    go_wp2_with fail
    refine (violOf_zero _ _ _).mono ?_
    rintro e w3 ⟨rfl, rfl⟩
    go_wp2_with fail
    go_loopw [23] (fun i wr => ∃ p : Nat, p ≤ n ∧ i = .int .i64 p ∧ Hid (∀ s : Nat, s < p → fieldCodeR r (k : Int) (s : Int) = 0) ∧ Hid (Box wr w.heap.size [.slice (some ⟨b, o, none⟩) r.length cap]) ∧ Below w.heap.size w wr) (fun i _ => n - (intOf i).toNat)
    case atStart => exact ⟨0, by omega, rfl, Lib.hid fun j hj => by omega, HX, hl2⟩
    case round =>
      clear c0 HX hl2 hd1 hbw
      obtain ⟨p, hp, rfl, hzero, HX, hl2⟩ := hrel
      obtain ⟨c0, _⟩ := HX.out.one
      by_cases hpn : p < n
      · have hpi : (p : Int) < (n : Int) := by omega
        obtain ⟨F, hF⟩ : ∃ F, fieldCodeR r (k : Int) (p : Int) = F := ⟨_, rfl⟩
        have HF := Lib.hid hF
        clear hF
        go_wp2_with fail
        refine (implFieldCode_any _ r (k : Int) (p : Int) _ (Hraw.out _ hl2) Hr.out).mono ?_
        rw [HF.out]
        rintro e w4 ⟨rfl, hb4⟩
        have HX4 := Lib.hid (HX.out.below hb4 HX.out.lt)
        have hl4 := hl2.trans (hb4.mono hl2.size)
        clear hb4 HX hl2 c0
        by_cases hF0 : F = 0
        · subst hF0
          have Hz : Hid (∀ s : Nat, s < p + 1 → fieldCodeR r (k : Int) (s : Int) = 0) := Lib.hid fun s hs => by
            by_cases e : s = p
            · subst e; exact HF.out
            · exact hzero.out s (by omega)
          go_wp2_with fail
          refine (violOf_zero _ _ _).mono ?_
          rintro e w3 ⟨rfl, rfl⟩
          go_wp2_with fail
          go_roundw
          case rel => exact ⟨p + 1, by omega, by go_num, Hz, HX4, hl4⟩
          case measure => simp [intOf]; omega
        · have HF0 := Lib.hid hF0
          clear hF0
          go_wp2_with fail
          refine (violOf_some _ _ _ _ HF0.out).mono ?_
          rintro e w3 ⟨rfl, rfl⟩
          unfold errV
          go_wp2_with fail
          go_ret
          exact ⟨_, .inr (.inr ⟨p, HC.out, hzero.out, hpn, by rw [HF.out]; exact HF0.out, by rw [HF.out]; rfl⟩), rfl, hl4⟩
      · have hge : (n : Int) ≤ (p : Int) := by omega
        have hend : decide (p < n) = false := decide_eq_false hpn
        go_wp2_with fail
        go_ret
        exact ⟨_, .inl ⟨rfl, HC.out, fun s hs => hzero.out s (by omega)⟩, rfl, hl2⟩
  · have HC0 := Lib.hid hC0
    clear hC0
    go_wp2_with fail
    refine (violOf_some _ _ _ _ HC0.out).mono ?_
    rintro e w3 ⟨rfl, rfl⟩
    unfold errV
    go_wp2_with fail
    go_ret
    exact ⟨_, .inr (.inl ⟨by rw [HC.out]; exact HC0.out, by rw [HC.out]; rfl⟩), rfl, hl2⟩
set_option maxHeartbeats 4000000 in
/-- checkRaw: the first violation as an error, or nil. -/
theorem checkRaw_any (v : Value) (r : List RM) (w : World) (h : RawAt w (· < w.heap.size) v r) (hr : Small r) :
    Calls Tryd.prog 62 #[v] w fun e w' => ∃ f, First r f ∧ ((f.1 = 0 ∧ e = .returned .nilIface) ∨ (f.1 ≠ 0 ∧ e = .returned (errV f))) ∧ Below w.heap.size w w' := by
  obtain ⟨u, rfl, hu⟩ := h
  obtain ⟨a, cap, rfl⟩ := hu.len
  have H := Lib.hid hu
  have Hr := Lib.hid hr
  have hr1 := hr.1
  clear hu hr
  have hl1 : Below w.heap.size w (w.alloc (.cells #[.slice a r.length cap] 41)) := (Below.refl _ _).alloc (Nat.le_refl _) _
  have hx1 := Box.fresh w #[.slice a r.length cap] 41
  have Hraw : Hid (∀ wx : World, Below w.heap.size w wx → RawAt wx (· < wx.heap.size) (.agg #[.slice a r.length cap]) r) :=
    Lib.hid fun wx hb => ⟨_, rfl, H.out.keep (below_sees hb) fun b hb' => Nat.lt_of_lt_of_le hb' hb.size⟩
  by_cases h6 : 6 < r.length
  · have h6i : (6 : Int) < (r.length : Int) := by omega
    go_enter Tryd.func62, Tryd.ntmps62
    go_wp2_with fail
    refine (violOf_some 1 6 (-1) _ (by omega)).mono ?_
    rintro e w3 ⟨rfl, rfl⟩
    unfold errV
    go_wp2_with fail
    go_ret
    exact ⟨(1, 6, -1), .inl ⟨h6, rfl⟩, .inr ⟨by simp, rfl⟩, hl1⟩
  · have h6i : decide ((6 : Int) < (r.length : Int)) = false := decide_eq_false (by omega)
    have h6n : decide (6 < r.length) = false := decide_eq_false h6
    have h66 : Hid (r.length ≤ 6) := Lib.hid (by omega)
    clear h6
    go_enter Tryd.func62, Tryd.ntmps62
    go_wp2_with fail
    go_loopw [13] (fun i wr => ∃ k : Nat, k ≤ r.length ∧ i = .int .i64 k ∧ Hid (AllB r k) ∧ Hid (Box wr w.heap.size [.slice a r.length cap]) ∧ Below w.heap.size w wr) (fun i _ => r.length - (intOf i).toNat)
    case atStart => exact ⟨0, by omega, rfl, Lib.hid fun j _ hj => by omega, Lib.hid hx1, hl1⟩
    case round =>
      clear hx1 hl1
      obtain ⟨k, hk, rfl, hall, HX, hl⟩ := hrel
      obtain ⟨c0, _⟩ := HX.out.one
      by_cases hlt : k < r.length
      · have hlti : (k : Int) < (r.length : Int) := by omega
        have hT : Hid (∀ E, MsgErr r k r[k].2.length E → (E = .nilIface ∧ AllB r (k + 1)) ∨ (∃ f : Int × Int × Int, First r f ∧ f.1 ≠ 0 ∧ E = errV f)) := Lib.hid fun E hE => by
          rcases hE with ⟨rfl, hm, hf⟩ | ⟨hm, rfl⟩ | ⟨q, hm, hf, hq, hF, rfl⟩
          · exact .inl ⟨rfl, hall.out.next hlt hm hf⟩
          · exact .inr ⟨_, .inr ⟨h66.out, .inr (.inl ⟨k, hlt, hall.out, hm, rfl⟩)⟩, hm, rfl⟩
          · exact .inr ⟨_, .inr ⟨h66.out, .inr (.inr ⟨k, q, hlt, hall.out, hm, hf, hq, hF, rfl⟩)⟩, hF, rfl⟩
        go_wp2_with fail
        refine (checkMsg_any _ r k _ hlt (Hraw.out _ hl) Hr.out).mono ?_
        rintro e w4 ⟨E, hE, rfl, hb4⟩
        have hE' := hT.out E hE
        have HX4 := Lib.hid (HX.out.below hb4 HX.out.lt)
        have hl4 := hl.trans (hb4.mono hl.size)
        clear hb4 HX hl c0 hE hT
        rcases hE' with ⟨rfl, hn⟩ | ⟨f, hf, hf0, rfl⟩
        · have Hn := Lib.hid hn
          clear hn
          go_wp2_with fail
          go_roundw
          case rel => exact ⟨k + 1, by omega, by go_num, Hn, HX4, hl4⟩
          case measure => simp [intOf]; omega
        · have Hf := Lib.hid hf
          have Hf0 := Lib.hid hf0
          clear hf hf0
          unfold errV
          go_wp2_with fail
          go_ret
          exact ⟨f, Hf.out, .inr ⟨Hf0.out, rfl⟩, hl4⟩
      · have hge : (r.length : Int) ≤ (k : Int) := by omega
        have hend : decide (k < r.length) = false := decide_eq_false hlt
        obtain rfl : k = r.length := by omega
        go_wp2_with fail
        go_ret
        exact ⟨(0, 0, 0), .inr ⟨h66.out, .inl ⟨hall.out, rfl⟩⟩, .inl ⟨rfl, rfl⟩, hl⟩
theorem implRawOk_any (v : Value) (r : List RM) (w : World) (h : RawAt w (· < w.heap.size) v r) (hr : Small r) :
    Calls Tryd.prog 38 #[v] w fun e w' => ∃ f, First r f ∧ e = .returned (.bool (f.1 == 0)) ∧ Below w.heap.size w w' := by
  obtain ⟨u, rfl, hu⟩ := h
  obtain ⟨a, cap, rfl⟩ := hu.len
  have H := Lib.hid hu
  have Hr := Lib.hid hr
  clear hu hr
  have hl1 : Below w.heap.size w (w.alloc (.cells #[.slice a r.length cap] 41)) := (Below.refl _ _).alloc (Nat.le_refl _) _
  go_enter Tryd.func38, Tryd.ntmps38
  go_wp2_with fail
  refine (checkRaw_any _ r _ (⟨_, rfl, H.out.keep (below_sees hl1) fun b hb => by simp; omega⟩) Hr.out).mono ?_
  rintro e w2 ⟨f, hf, hcase, hb2⟩
  have Hf := Lib.hid hf
  have hl2 : Below w.heap.size w w2 := hl1.trans (hb2.mono (by simp))
  clear hf hb2
  rcases hcase with ⟨h0, rfl⟩ | ⟨h0, rfl⟩
  · have hb : (f.1 == 0) = true := by rw [beq_iff_eq]; exact h0
    go_wp2_with fail
    go_ret
    exact ⟨_, Hf.out, by rw [hb]; rfl, hl2⟩
  · have hb := neB2 h0
    unfold errV
    go_wp2_with fail
    go_ret
    exact ⟨_, Hf.out, by rw [hb]; rfl, hl2⟩
end Go.Proofs.YtcbohfncckpolaaDoor.Num
