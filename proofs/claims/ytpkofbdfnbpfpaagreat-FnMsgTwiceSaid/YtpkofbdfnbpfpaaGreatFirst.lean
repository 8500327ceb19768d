/-
  The walks of the reference's FirstViolation and RawOk: they tell the first code that is not 0; only new memory is written.
-/
import Derived.Test.YtpkofbdfnbpfpaaGreatCodes
namespace Go.Proofs.YtpkofbdfnbpfpaaGreat.Num
open Go.RowKit Go.Proofs
set_option linter.unusedVariables false
set_option linter.unusedSimpArgs false

/-- Nothing is wrong in the messages before the i-th. -/
def AllB (r : List RM) (i : Nat) : Prop := ∀ j (hj : j < r.length), j < i → msgCodeR r (j : Int) = 0 ∧ ∀ p : Nat, p < r[j].2.length → fieldCodeR r (j : Int) (p : Int) = 0
/-- v is the first that is wrong of r, as code, message and field. -/
def First (r : List RM) (v : Int × Int × Int) : Prop :=
  (6 < r.length ∧ v = (1, 6, -1)) ∨ (r.length ≤ 6 ∧ ((AllB r r.length ∧ v = (0, 0, 0)) ∨
    (∃ (i : Nat) (hi : i < r.length), AllB r i ∧ msgCodeR r (i : Int) ≠ 0 ∧ v = (msgCodeR r (i : Int), (i : Int), -1)) ∨
    (∃ (i q : Nat) (hi : i < r.length), AllB r i ∧ msgCodeR r (i : Int) = 0 ∧ (∀ p : Nat, p < q → fieldCodeR r (i : Int) (p : Int) = 0) ∧ q < r[i].2.length ∧ fieldCodeR r (i : Int) (q : Int) ≠ 0 ∧ v = (fieldCodeR r (i : Int) (q : Int), (i : Int), (q : Int)))))
theorem First.one {r : List RM} {v u : Int × Int × Int} (h : First r v) (k : First r u) : v = u := by
  rcases h with ⟨h0, rfl⟩ | ⟨h0, h⟩
  · rcases k with ⟨_, rfl⟩ | ⟨k0, _⟩
    · rfl
    · omega
  · rcases k with ⟨k0, _⟩ | ⟨_, k⟩
    · omega
    · rcases h with ⟨ha, rfl⟩ | ⟨i, hi, ha, hc, rfl⟩ | ⟨i, q, hi, ha, hm, hf, hq, hc, rfl⟩
      · rcases k with ⟨_, rfl⟩ | ⟨i, hi, _, hc, _⟩ | ⟨i, q, hi, _, _, _, hq, hc, _⟩
        · rfl
        · exact absurd (ha i hi hi).1 hc
        · exact absurd ((ha i hi hi).2 q hq) hc
      · rcases k with ⟨kb, _⟩ | ⟨i', hi', kb, kc, rfl⟩ | ⟨i', q', hi', kb, km, kf, kq, kc, rfl⟩
        · exact absurd (kb i hi hi).1 hc
        · rcases Nat.lt_trichotomy i i' with h | h | h
          · exact absurd (kb i hi h).1 hc
          · subst h; rfl
          · exact absurd (ha i' hi' h).1 kc
        · rcases Nat.lt_trichotomy i i' with h | h | h
          · exact absurd (kb i hi h).1 hc
          · subst h; exact absurd km hc
          · exact absurd ((ha i' hi' h).2 q' kq) kc
      · rcases k with ⟨kb, _⟩ | ⟨i', hi', kb, kc, rfl⟩ | ⟨i', q', hi', kb, km, kf, kq, kc, rfl⟩
        · exact absurd ((kb i hi hi).2 q hq) hc
        · rcases Nat.lt_trichotomy i i' with h | h | h
          · exact absurd ((kb i hi h).2 q hq) hc
          · subst h; exact absurd hm kc
          · exact absurd (ha i' hi' h).1 kc
        · rcases Nat.lt_trichotomy i i' with h | h | h
          · exact absurd ((kb i hi h).2 q hq) hc
          · subst h
            rcases Nat.lt_trichotomy q q' with g | g | g
            · exact absurd (kf q g) hc
            · subst g; rfl
            · exact absurd (hf q' g) kc
          · exact absurd ((ha i' hi' h).2 q' kq) kc
def violV (v : Int × Int × Int) : Value := .agg #[.int .i64 v.1, .int .i64 v.2.1, .int .i64 v.2.2]
theorem AllB.next {r : List RM} {k : Nat} (h : AllB r k) (hk : k < r.length) (hm : msgCodeR r (k : Int) = 0) (hf : ∀ p : Nat, p < r[k].2.length → fieldCodeR r (k : Int) (p : Int) = 0) : AllB r (k + 1) := by
  intro j hj hjk
  by_cases e : j = k
  · subst e; exact ⟨hm, hf⟩
  · exact h j hj (by omega)
set_option maxHeartbeats 4000000 in
set_option maxRecDepth 100000 in
theorem specFirst_any (v : Value) (r : List RM) (w : World) (h : RawAt w (· < w.heap.size) v r) (hr : Small r) :
    Calls Tryz.prog 152 #[v] w fun e w' => ∃ f, First r f ∧ e = .returned (violV f) ∧ Below w.heap.size w w' := by
  obtain ⟨u, rfl, hu⟩ := h
  obtain ⟨a, cap, rfl⟩ := hu.len
  have H := Lib.hid hu
  have Hr := Lib.hid hr
  have hr1 := hr.1
  clear hu hr
  by_cases h6 : 6 < r.length
  · have h6i : (6 : Int) < (r.length : Int) := by omega
    go_enter Tryz.func152, Tryz.ntmps152
    go_wp2_with fail
    refine bodyPost_ret (v := .agg #[.int .i64 1, .int .i64 6, .int .i64 (-1)]) (by simp [results, Tryz.results152, go_sem]) rfl ⟨(1, 6, -1), .inl ⟨h6, rfl⟩, rfl, ?_⟩
    repeat (first | exact Below.refl _ _ | refine Below.setCell ?_ (by simp) _ | refine Below.alloc ?_ (by first | omega | (simp <;> omega)) _)
  · have h6i : decide ((6 : Int) < (r.length : Int)) = false := decide_eq_false (by omega)
    have h6n : decide (6 < r.length) = false := decide_eq_false h6
    have h66 : r.length ≤ 6 := by omega
    clear h6
    go_enter Tryz.func152, Tryz.ntmps152
    go_wp2_with fail
    have hl0 : Below w.heap.size w ((w.alloc (.cells #[.slice a r.length cap] 149)).alloc (.cells #[.int .i64 0, .int .i64 0, .int .i64 0] 144)) := ((Below.refl _ _).alloc (Nat.le_refl _) _).alloc (by simp) _
    have hx0 : Box ((w.alloc (.cells #[.slice a r.length cap] 149)).alloc (.cells #[.int .i64 0, .int .i64 0, .int .i64 0] 144)) w.heap.size [.slice a r.length cap] := (Box.fresh _ _ _).alloc _
    have hy0 : Box ((w.alloc (.cells #[.slice a r.length cap] 149)).alloc (.cells #[.int .i64 0, .int .i64 0, .int .i64 0] 144)) (w.heap.size + 1) [.int .i64 0, .int .i64 0, .int .i64 0] := by
      have h := Box.fresh (w.alloc (.cells #[.slice a r.length cap] 149)) #[.int .i64 0, .int .i64 0, .int .i64 0] 144
      rwa [show (w.alloc (.cells #[.slice a r.length cap] 149)).heap.size = w.heap.size + 1 by simp] at h
    generalize (w.alloc (.cells #[.slice a r.length cap] 149)).alloc (.cells #[.int .i64 0, .int .i64 0, .int .i64 0] 144) = w0 at hl0 hx0 hy0 ⊢
    go_loopw [3] (fun i wr => ∃ k : Nat, k ≤ r.length ∧ i = .int .i64 k ∧ Hid (AllB r k) ∧ Hid (Box wr w.heap.size [.slice a r.length cap]) ∧ Hid (Box wr (w.heap.size + 1) [.int .i64 0, .int .i64 0, .int .i64 0]) ∧ Below w.heap.size w wr) (fun i _ => r.length - (intOf i).toNat)
    case atStart => exact ⟨0, by omega, rfl, Lib.hid fun j _ hj => by omega, Lib.hid hx0, Lib.hid hy0, hl0⟩
    case round =>
      clear hl0 hx0 hy0
      obtain ⟨k, hk, rfl, hall, hbx, hby, hbr⟩ := hrel
      obtain ⟨c0, f0⟩ := hbx.out.one
      obtain ⟨e0, e1, e2, g0, g1, g2⟩ := hby.out.three
      by_cases hlt : k < r.length
      · have hlti : (k : Int) < (r.length : Int) := by omega
        obtain ⟨C, hC⟩ : ∃ C, msgCodeR r (k : Int) = C := ⟨_, rfl⟩
        have HC := Lib.hid hC
        clear hC
        go_wp2_with fail
        refine (specMsgCode_any _ r (k : Int) _ (⟨_, rfl, H.out.keep (below_sees hbr) fun b hb => Nat.lt_of_lt_of_le hb hbr.size⟩) Hr.out).mono ?_
        rw [HC.out]
        rintro e w2 ⟨rfl, hb2⟩
        have hx2 := Lib.hid (hbx.out.below hb2 hbx.out.lt)
        have hy2 := Lib.hid (hby.out.below hb2 hby.out.lt)
        have hl2 := hbr.trans (hb2.mono hbr.size)
        clear hb2 hbx hby hbr c0 f0 e0 e1 e2 g0 g1 g2
        obtain ⟨c0, f0⟩ := hx2.out.one
        obtain ⟨e0, e1, e2, g0, g1, g2⟩ := hy2.out.three
        by_cases hC0 : C = 0
        · subst hC0
          obtain ⟨b, o, c, hv, hbC, hcs⟩ := H.out.cells (by omega)
          obtain ⟨rfl, rfl⟩ : a = some ⟨b, o, none⟩ ∧ cap = c := by injection hv with e1 e2 e3; exact ⟨e1, e3⟩
          obtain ⟨x, d0, d1, hx⟩ := hcs k hlt
          obtain ⟨xa, xc, rfl⟩ := hx.len
          have hfl := Hr.out.2 _ (List.getElem_mem hlt)
          have Hnext : Hid ((∀ p : Nat, p < r[k].2.length → fieldCodeR r (k : Int) (p : Int) = 0) → AllB r (k + 1)) := Lib.hid fun hf => hall.out.next hlt HC.out hf
          have Hbad : Hid (∀ (q : Nat) (F : Int), (∀ p : Nat, p < q → fieldCodeR r (k : Int) (p : Int) = 0) → q < r[k].2.length → fieldCodeR r (k : Int) (q : Int) = F → F ≠ 0 → First r (F, (k : Int), (q : Int))) := Lib.hid fun q F hf hq hF hn =>
            .inr ⟨h66, .inr (.inr ⟨k, q, hlt, hall.out, HC.out, hf, hq, by rw [hF]; exact hn, by rw [hF]⟩)⟩
          clear hcs hv d0 hx
          generalize r[k].2.length = n at d1 hfl Hnext Hbad
          go_wp2_with fail
          go_loopw [5] (fun i wz => ∃ p : Nat, p ≤ n ∧ i = .int .i64 p ∧ Hid (∀ s : Nat, s < p → fieldCodeR r (k : Int) (s : Int) = 0) ∧ Hid (Box wz w.heap.size [.slice (some ⟨b, o, none⟩) r.length cap]) ∧ Hid (Box wz (w.heap.size + 1) [.int .i64 0, .int .i64 0, .int .i64 0]) ∧ Below w.heap.size w wz) (fun i _ => n - (intOf i).toNat)
          case atStart => exact ⟨0, by omega, rfl, Lib.hid fun s hs => by omega, hx2, hy2, hl2⟩
          case round =>
            clear c0 f0 e0 e1 e2 g0 g1 g2 hx2 hy2 hl2
            obtain ⟨p, hp, rfl, hzero, hbx, hby, hbz⟩ := hrel
            obtain ⟨c0, f0⟩ := hbx.out.one
            obtain ⟨e0, e1, e2, g0, g1, g2⟩ := hby.out.three
            have d1' := d1
            rw [← hbz.cell (p := ⟨b, _, none⟩) hbC] at d1'
            by_cases hpn : p < n
            · have hpi : (p : Int) < (n : Int) := by omega
              obtain ⟨F, hF⟩ : ∃ F, fieldCodeR r (k : Int) (p : Int) = F := ⟨_, rfl⟩
              have HF := Lib.hid hF
              clear hF
              go_wp2_with fail
              refine (specFieldCode_any _ r (k : Int) (p : Int) _ (⟨_, rfl, H.out.keep (below_sees hbz) fun b hb => Nat.lt_of_lt_of_le hb hbz.size⟩) Hr.out).mono ?_
              rw [HF.out]
              rintro e w5 ⟨rfl, hb5⟩
              have hx5 := Lib.hid (hbx.out.below hb5 hbx.out.lt)
              have hy5 := Lib.hid (hby.out.below hb5 hby.out.lt)
              have hl5 := hbz.trans (hb5.mono hbz.size)
              clear hb5 hbx hby hbz c0 f0 e0 e1 e2 g0 g1 g2 d1'
              obtain ⟨e0, e1, e2, g0, g1, g2⟩ := hy5.out.three
              by_cases hF0 : F = 0
              · subst hF0
                have Hz : Hid (∀ s : Nat, s < p + 1 → fieldCodeR r (k : Int) (s : Int) = 0) := Lib.hid fun s hs => by
                  by_cases e : s = p
                  · subst e; exact HF.out
                  · exact hzero.out s (by omega)
                go_wp2_with fail
                go_roundw
                case rel => exact ⟨p + 1, by omega, by go_num, Hz, hx5, hy5, hl5⟩
                case measure => simp [intOf]; omega
              · have bF := neB2 hF0
                have bF' : (F != 0) = true := by rw [bne, bF]; rfl
                have Hv := Lib.hid (Hbad.out p F hzero.out hpn HF.out hF0)
                clear hF0
                go_wp2_with fail
                refine bodyPost_ret (v := .agg #[.int .i64 F, .int .i64 k, .int .i64 p]) (by simp [results, Tryz.results152, go_sem, e0, e1, e2]) rfl ⟨_, Hv.out, rfl, ?_⟩
                repeat (first | exact hl5 | refine Below.setCell ?_ (by simp) _)
            · have hge : (n : Int) ≤ (p : Int) := by omega
              have hend : decide (p < n) = false := decide_eq_false hpn
              have Hn := Lib.hid (Hnext.out fun s hs => hzero.out s (by omega))
              go_wp2_with fail
              go_roundw
              case rel => exact ⟨k + 1, by omega, by go_num, Hn, hbx, hby, hbz⟩
              case measure => simp [intOf]; omega
        · have bC := neB2 hC0
          have bC' : (C != 0) = true := by rw [bne, bC]; rfl
          have Hv : Hid (First r (C, (k : Int), -1)) := Lib.hid (.inr ⟨h66, .inr (.inl ⟨k, hlt, hall.out, by rw [HC.out]; exact hC0, by rw [HC.out]⟩)⟩)
          clear hC0
          go_wp2_with fail
          refine bodyPost_ret (v := .agg #[.int .i64 C, .int .i64 k, .int .i64 (-1)]) (by simp [results, Tryz.results152, go_sem, e0, e1, e2]) rfl ⟨_, Hv.out, rfl, ?_⟩
          repeat (first | exact hl2 | refine Below.setCell ?_ (by simp) _)
      · have hge : (r.length : Int) ≤ (k : Int) := by omega
        have hend : decide (k < r.length) = false := decide_eq_false hlt
        obtain rfl : k = r.length := by omega
        go_wp2_with fail
        refine bodyPost_ret (v := .agg #[.int .i64 0, .int .i64 0, .int .i64 0]) (by simp [results, Tryz.results152, go_sem, e0, e1, e2]) rfl ⟨(0, 0, 0), .inr ⟨h66, .inl ⟨hall.out, rfl⟩⟩, rfl, ?_⟩
        repeat (first | exact hbr | refine Below.setCell ?_ (by simp) _)
end Go.Proofs.YtpkofbdfnbpfpaaGreat.Num
