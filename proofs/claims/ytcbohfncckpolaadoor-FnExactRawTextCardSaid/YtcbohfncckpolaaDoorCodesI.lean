/-
  The walks of the program's MsgCode and FieldCode: they give the codes that the plain definitions of the reference's walks tell; only new memory is written.
-/
import Derived.Test.YtcbohfncckpolaaDoorHasI
import Derived.Test.YtcbohfncckpolaaDoorSmallI
import Derived.Test.YtcbohfncckpolaaDoorCodes
namespace Go.Proofs.YtcbohfncckpolaaDoor.Num
open Go.RowKit Go.Proofs
set_option linter.unusedVariables false
set_option linter.unusedSimpArgs false

theorem MsgsAt.take {w : World} {S : Nat → Prop} {a : Option Addr} {cap : Nat} {l : List RM} (h : MsgsAt w S (.slice a l.length cap) l) (k : Nat) (hk : k ≤ l.length) (cap' : Nat) (hc' : k ≤ cap') : MsgsAt w S (.slice a k cap') (l.take k) := by
  have hlen : (l.take k).length = k := by rw [List.length_take]; omega
  by_cases h0 : k = 0
  · subst h0; exact .inl ⟨by simp, a, cap', rfl⟩
  · rcases h with ⟨rfl, _⟩ | ⟨b, o, c, hv, hp, hS, hc⟩
    · simp at hk; omega
    · injection hv with e1 _ e3
      subst e1 e3
      refine .inr ⟨b, o, cap', by rw [hlen], ⟨by omega, by omega⟩, hS, fun i hi => ?_⟩
      obtain ⟨cs, h1, h2, h3⟩ := hc i (by omega)
      exact ⟨cs, h1, by rw [List.getElem_take]; exact h2, h3⟩
theorem hasId_take (r : List RM) (id : Int) (k : Nat) : hasId (r.take k) id (r.take k).length = hasId r id k := by
  unfold hasId; rw [List.take_length]
set_option maxHeartbeats 4000000 in
theorem implMsgCode_any (v : Value) (r : List RM) (msg : Int) (w : World) (h : RawAt w (· < w.heap.size) v r) (hr : Small r) :
    Calls Tryd.prog 93 #[v, .int .i64 msg] w fun e w' => e = .returned (.int .i64 (msgCodeR r msg)) ∧ Below w.heap.size w w' := by
  obtain ⟨u, rfl, hu⟩ := h
  obtain ⟨a, cap, rfl⟩ := hu.len
  have H := Lib.hid hu
  have hr1 := hr.1
  by_cases hin : 0 ≤ msg ∧ msg ≤ (r.length : Int) - 1
  · obtain ⟨k, rfl⟩ := Int.eq_ofNat_of_zero_le hin.1
    have hk : k < r.length := by omega
    have hki : (k : Int) < (r.length : Int) := by omega
    have Hin : Hid (0 ≤ (k : Int) ∧ (k : Int) < (r.length : Int)) := Lib.hid ⟨by omega, hki⟩
    have He := Lib.hid (msgCode_in hk)
    rw [He.out]
    have hcap := H.out.cap
    have hkc : (k : Int) ≤ (cap : Int) := by omega
    have Hpre := Lib.hid (H.out.take k (by omega) cap (by omega))
    have Hpl : Hid ((r.take k).length ≤ 1048576) := Lib.hid (by rw [List.length_take]; omega)
    obtain ⟨b, o, c, hv, hbC, hcs⟩ := hu.cells (by omega)
    obtain ⟨rfl, rfl⟩ : a = some ⟨b, o, none⟩ ∧ cap = c := by injection hv with e1 e2 e3; exact ⟨e1, e3⟩
    obtain ⟨x, d0, d1, hx⟩ := hcs k hk
    obtain ⟨xa, xc, rfl⟩ := hx.len
    have hfl := hr.2 _ (List.getElem_mem hk)
    clear hu hcs hv hx hin
    generalize r[k] = m at d0 d1 hfl
    obtain ⟨id, fs⟩ := m
    simp only at d0 d1 hfl
    obtain ⟨R, hR⟩ : ∃ R, hasId r id k = R := ⟨_, rfl⟩
    have HR := Lib.hid hR
    have HT : Hid (hasId (r.take k) id (r.take k).length = R) := Lib.hid ((hasId_take r id k).trans hR)
    clear hR
    have H1 : Below w.heap.size w (w.alloc (.cells #[.slice (some ⟨b, o, none⟩) r.length cap] 41)) := (Below.refl _ _).alloc (Nat.le_refl _) _
    go_enter Tryd.func93, Tryd.ntmps93
    go_wp2_with fail
    refine (isIndex_yes _ _ _ Hin.out).mono ?_
    rintro e w1 ⟨rfl, rfl⟩
    by_cases h1 : 1 ≤ id
    · have n1 : decide (id < 1) = false := decide_eq_false (by omega)
      by_cases h99 : id ≤ 99
      · have n99 : decide (99 < id) = false := decide_eq_false (by omega)
        have Hid' : Hid (1 ≤ id ∧ id ≤ 99) := Lib.hid ⟨h1, h99⟩
        clear h1 h99
        go_upto_region 6 with fail
        have hl2 : Below w.heap.size w ((w.alloc (.cells #[.slice (some ⟨b, o, none⟩) r.length cap] 41)).alloc (.cells #[.int .i64 id, .slice xa fs.length xc] 67)) := H1.alloc (by simp) _
        have hx2 : Box ((w.alloc (.cells #[.slice (some ⟨b, o, none⟩) r.length cap] 41)).alloc (.cells #[.int .i64 id, .slice xa fs.length xc] 67)) (w.heap.size + 1) [.int .i64 id, .slice xa fs.length xc] := by
          have h := Box.fresh (w.alloc (.cells #[.slice (some ⟨b, o, none⟩) r.length cap] 41)) #[.int .i64 id, .slice xa fs.length xc] 67
          rwa [show (w.alloc (.cells #[.slice (some ⟨b, o, none⟩) r.length cap] 41)).heap.size = w.heap.size + 1 by simp] at h
        have hy2 : Box ((w.alloc (.cells #[.slice (some ⟨b, o, none⟩) r.length cap] 41)).alloc (.cells #[.int .i64 id, .slice xa fs.length xc] 67)) w.heap.size [.slice (some ⟨b, o, none⟩) r.length cap] := (Box.fresh _ _ _).alloc _
        generalize (w.alloc (.cells #[.slice (some ⟨b, o, none⟩) r.length cap] 41)).alloc (.cells #[.int .i64 id, .slice xa fs.length xc] 67) = w2 at hl2 hx2 hy2 ⊢
        have hz2 := hx2.lt
        have hx3 := Lib.hid hx2
        have hl3 := Lib.hid hl2
        obtain ⟨c0, c1, _⟩ := hx2.two
        obtain ⟨p0, _⟩ := hy2.one
        clear hx2 hy2 d0 d1
        go_cut [26] from 27 to 33 (fun s wx => s = .bool R ∧ Hid (Box wx (w.heap.size + 1) [.int .i64 id, .slice xa fs.length xc]) ∧ Below w.heap.size w wx)
        case first =>
          have Hh := Lib.hid (iHasId_any _ (r.take k) id R w2.drew (· < w.heap.size) (fun b hb => Nat.lt_of_lt_of_le hb hl3.out.drew.size) (Hpre.out.keep (below_sees hl3.out.drew) fun b hb => hb) Hpl.out HT.out)
          go_region_with (go_at_call 104; refine Hh.out.mono ?_; rintro e w3 ⟨rfl, hb3⟩; have hx4 := hx3.out.drew.below hb3 hz2; have hl4 := hl3.out.drew.trans (hb3.mono hl3.out.drew.size))
          all_goals
            have hx5 := Lib.hid hx4
            clear hx4 hb3
            go_wp2_with fail
            go_meet
            exact ⟨rfl, hx5, hl4⟩
        case rest =>
        obtain ⟨rfl, hx4, hl4⟩ := hcut
        clear c0 c1 hx3 hl3 hl2 hz2 p0
        obtain ⟨c0, c1, _⟩ := hx4.out.two
        cases R with
        | true =>
          have Hc : Hid (msgCodeN r k (id, fs) = 3) := Lib.hid (by unfold msgCodeN; rw [if_neg (by simpa using Hid'.out), if_pos HR.out])
          go_wp2_with fail
          go_ret
          exact ⟨by rw [Hc.out]; rfl, hl4⟩
        | false =>
          by_cases h8 : 8 < fs.length
          · have h8i : (8 : Int) < (fs.length : Int) := by omega
            have Hc : Hid (msgCodeN r k (id, fs) = 4) := Lib.hid (by unfold msgCodeN; rw [if_neg (by simpa using Hid'.out), if_neg (by rw [HR.out]; simp), if_pos h8])
            go_wp2_with fail
            go_ret
            exact ⟨by rw [Hc.out]; rfl, hl4⟩
          · have h8i : decide ((8 : Int) < (fs.length : Int)) = false := decide_eq_false (by omega)
            have h8n : decide (8 < fs.length) = false := decide_eq_false h8
            have Hc : Hid (msgCodeN r k (id, fs) = 0) := Lib.hid (by unfold msgCodeN; rw [if_neg (by simpa using Hid'.out), if_neg (by rw [HR.out]; simp), if_neg h8])
            go_wp2_with fail
            go_ret
            exact ⟨by rw [Hc.out]; rfl, hl4⟩
      · have Hc : Hid (msgCodeN r k (id, fs) = 2) := Lib.hid (if_pos (by simp only; omega))
        have n99 : (99 : Int) < id := by omega
        clear h99 h1
        go_wp2_with fail
        go_ret
        exact ⟨by rw [Hc.out]; rfl, H1.alloc (by simp) _⟩
    · have Hc : Hid (msgCodeN r k (id, fs) = 2) := Lib.hid (if_pos (by simp only; omega))
      have n1 : id < 1 := by omega
      clear h1
      go_wp2_with fail
      go_ret
      exact ⟨by rw [Hc.out]; rfl, H1.alloc (by simp) _⟩
  · have Hin : Hid (¬ (0 ≤ msg ∧ msg < (r.length : Int))) := Lib.hid (by omega)
    have He := Lib.hid (msgCode_out hin)
    clear hin hu
    rw [He.out]
    go_enter Tryd.func93, Tryd.ntmps93
    go_wp2_with fail
    refine (isIndex_no _ _ _ Hin.out).mono ?_
    rintro e w1 ⟨rfl, rfl⟩
    go_wp2_with fail
    go_ret
    exact ⟨rfl, (Below.refl _ _).alloc (Nat.le_refl _) _⟩
end Go.Proofs.YtcbohfncckpolaaDoor.Num
