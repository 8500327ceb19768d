/-
  The walk of the reference's ReadField: the field whose text the string is and true, or the zero field and false; only new memory is written.
-/
import Derived.Test.YtcbohfncckpolaaDoorTakeWord
import Derived.Test.YtcbohfncckpolaaDoorFieldTextS
import Derived.Test.YtcbohfncckpolaaDoorFieldTextI
import Derived.Test.YtcbohfncckpolaaDoorParts
import Derived.Test.YtcbohfncckpolaaDoorLongOf
import Derived.Test.YtcbohfncckpolaaDoorRound
import Derived.Test.YtcbohfncckpolaaDoorSlsOf
namespace Go.Proofs.YtcbohfncckpolaaDoor.Num
open Go.RowKit Go.Proofs
set_option linter.unusedVariables false
set_option linter.unusedSimpArgs false

/-- Within the walk: the result's cell is still zero, the field being read lies at gf, the words in v. -/
def QSt (w wx : World) (D gf : Nat) (f : RF) (p : Option Addr) (n cap : Nat) (ss : List (List UInt8)) : Prop :=
  Box wx w.heap.size (fieldC zeroF) ∧ Box wx gf (fieldC f) ∧ w.heap.size < D ∧ D ≤ gf ∧ Below w.heap.size w wx ∧ SlS wx D p n cap ss
section
variable {w wx : World} {D gf : Nat} {f : RF} {p : Option Addr} {n cap : Nat} {ss : List (List UInt8)}
theorem QSt.all {w' : World} (h : QSt w wx D gf f p n cap ss) (hb : Below wx.heap.size wx w') : QSt w w' D gf f p n cap ss := by
  obtain ⟨h1, h2, h3, h4, h5, hS⟩ := h
  exact ⟨h1.below hb h1.lt, h2.below hb h2.lt, h3, h4, h5.trans (hb.mono h5.size), hS.below (hb.mono (Nat.le_of_lt (Nat.lt_of_le_of_lt h4 h2.lt)))⟩
theorem QSt.drew (h : QSt w wx D gf f p n cap ss) : QSt w wx.drew D gf f p n cap ss := ⟨h.1.drew, h.2.1.drew, h.2.2.1, h.2.2.2.1, h.2.2.2.2.1.drew, h.2.2.2.2.2.drew⟩
theorem QSt.at {g : Nat} (h : QSt w wx D gf f (some ⟨g, 0, none⟩) n cap ss) (j : Nat) (hj : j < ss.length) : wx.cell? ⟨g, j, none⟩ = some (.string ⟨ss[j].toArray⟩) := by
  obtain ⟨_, _, _, _, _, hl, _, hS⟩ := h
  rcases hS with h0 | ⟨b, o, hp, _, hc⟩
  · omega
  · injection hp with hp
    injection hp with h1 h2
    subst h1 h2
    have := hc j hj
    rwa [Nat.zero_add] at this
theorem QSt.set (h : QSt w wx D gf f p n cap ss) (j : Nat) (u : Value) (f' : RF) (hf : (fieldC f).set j u = fieldC f') : QSt w (wx.setCell ⟨gf, j, none⟩ u) D gf f' p n cap ss := by
  obtain ⟨h1, h2, h3, h4, h5, hS⟩ := h
  exact ⟨h1.other (by simp; omega) _, by rw [← hf]; exact h2.set j u, h3, h4, h5.setCell (by simp; omega) _, hS.set (by simpa using h4) _⟩
end
/-- What the words up to the j-th give. -/
def accW (h : List UInt8) (t : List (List UInt8)) (j : Nat) : RF := (t.take j).foldl stepW (((parse 999999999 h).1 : Int), 0, false, false, 0)
theorem accW_zero (h : List UInt8) (t : List (List UInt8)) : accW h t 0 = (((parse 999999999 h).1 : Int), 0, false, false, 0) := by simp [accW]
theorem accW_step (h : List UInt8) (t : List (List UInt8)) (j : Nat) (hj : j < t.length) : accW h t (j + 1) = stepW (accW h t j) t[j] := by
  unfold accW
  rw [List.take_succ_eq_append_getElem hj, List.foldl_append]
  rfl
theorem accW_all (h : List UInt8) (t : List (List UInt8)) : accW h t t.length = readW (h :: t) := by simp [accW, readW]
set_option maxHeartbeats 1000000 in
theorem specReadField_short (s : ByteArray) (w : World) (hs : s.size ≤ 1048576) (h : s.data.toList = [] ∨ 60 < s.size) :
    Calls Tryd.prog 19 #[.string s] w fun e w' => e = .returned (.tuple #[fieldV zeroF, .bool false]) ∧ Below w.heap.size w w' := by
  have hb1 : Below w.heap.size w (w.alloc (.cells #[.int .i64 0, .int .i64 0, .bool false, .bool false, .int .i64 0] 25)) := (Below.refl _ _).alloc (Nat.le_refl _) _
  have hx1 := Box.fresh w #[.int .i64 0, .int .i64 0, .bool false, .bool false, .int .i64 0] 25
  unfold fieldV zeroF
  simp only
  by_cases h0 : s.data.toList = []
  · obtain rfl : s = ⟨#[]⟩ := by
      rcases s with ⟨⟨l⟩⟩
      simp at h0
      rw [h0]
    clear h h0
    go_enter Tryd.func19, Tryd.ntmps19
    go_wp2_with fail
    refine bodyPost_ret (v := .tuple #[.agg #[.int .i64 0, .int .i64 0, .bool false, .bool false, .int .i64 0], .bool false]) (by simp [results, Tryd.results19, go_sem]) rfl ?_
    exact ⟨rfl, by repeat (first | with_reducible exact Below.refl _ _ | refine Below.setCell ?_ (by simp) _ | refine Below.alloc ?_ (by first | omega | (simp <;> omega)) _)⟩
  · have hl : 60 < s.size := by rcases h with h | h
                                · exact absurd h h0
                                · exact h
    have he : s.toList.isEmpty = false := by rw [ByteArray.toList_eq]; simpa using h0
    have hli : (60 : Int) < (s.size : Int) := by omega
    clear h h0
    go_enter Tryd.func19, Tryd.ntmps19
    go_wp2_with fail
    refine bodyPost_ret (v := .tuple #[.agg #[.int .i64 0, .int .i64 0, .bool false, .bool false, .int .i64 0], .bool false]) (by simp [results, Tryd.results19, go_sem]) rfl ?_
    exact ⟨rfl, by repeat (first | with_reducible exact Below.refl _ _ | refine Below.setCell ?_ (by simp) _ | refine Below.alloc ?_ (by first | omega | (simp <;> omega)) _)⟩
set_option maxHeartbeats 4000000 in
set_option maxRecDepth 100000 in
theorem specReadField_long (s : ByteArray) (w : World) (h0 : s.data.toList ≠ []) (hs : s.size ≤ 60) :
    Calls Tryd.prog 19 #[.string s] w fun e w' => e = .returned (.tuple #[fieldV ((readF s.data.toList).getD zeroF), .bool (readF s.data.toList).isSome]) ∧ Below w.heap.size w w' := by
  have hplen := partsF_length 32 s.data.toList
  have hpne := partsF_ne 32 s.data.toList
  have hpmem := partsF_mem 32 s.data.toList
  have hsl : s.data.toList.length = s.size := by simp
  have he : s.toList.isEmpty = false := by rw [ByteArray.toList_eq]; simpa using h0
  have hli : ¬ ((60 : Int) < (s.size : Int)) := by omega
  have hb1 : Below w.heap.size w (w.alloc (.cells #[.int .i64 0, .int .i64 0, .bool false, .bool false, .int .i64 0] 25)) := (Below.refl _ _).alloc (Nat.le_refl _) _
  have hx1 := Box.fresh w #[.int .i64 0, .int .i64 0, .bool false, .bool false, .int .i64 0] 25
  have hz1 : w.heap.size < (w.alloc (.cells #[.int .i64 0, .int .i64 0, .bool false, .bool false, .int .i64 0] 25)).heap.size := by simp
  have HP := Lib.hid (specParts_any s 32 (w.alloc (.cells #[.int .i64 0, .int .i64 0, .bool false, .bool false, .int .i64 0] 25)) (by omega))
  rw [show ((32 : UInt8).toNat : Int) = 32 from rfl] at HP
  have HRF : Hid (readF s.data.toList = if textF (readW (partsF 32 s.data.toList)) = s.data.toList then some (readW (partsF 32 s.data.toList)) else none) := Lib.hid (by
    unfold readF
    by_cases hc : textF (readW (partsF 32 s.data.toList)) = s.data.toList
    · rw [if_pos ⟨h0, by omega, hc⟩, if_pos hc]
    · rw [if_neg (fun e => hc e.2.2), if_neg hc])
  generalize hws : partsF 32 s.data.toList = ws at hplen hpne hpmem HP HRF ⊢
  obtain ⟨R, hR⟩ : ∃ R, readF s.data.toList = R := ⟨_, rfl⟩
  rw [hR]
  rw [hR] at HRF
  have Hws := Lib.hid hws
  clear hws hR h0
  go_enter Tryd.func19, Tryd.ntmps19
  go_wp2_with fail
  generalize (w.alloc (.cells #[.int .i64 0, .int .i64 0, .bool false, .bool false, .int .i64 0] 25)) = w1 at hb1 hx1 HP hz1 ⊢
  refine HP.out.mono ?_
  rintro e w2 ⟨v, P, rfl, hP, hown, hb2⟩
  rw [Hws.out] at hP
  obtain ⟨g, cap, rfl, hg, hS⟩ := slS_of (w := w) hown hP hpne
  have hl2 := hb1.trans (hb2.mono hb1.size)
  have hz2 : w.heap.size < w2.heap.size := Nat.lt_of_lt_of_le hz1 hb2.size
  have hn : ws.length ≤ 61 := by omega
  have Hmem : Hid (∀ p ∈ ws, p.length ≤ 60) := Lib.hid fun p hp => by have := hpmem p hp; omega
  have HX2 := Lib.hid (hx1.below hb2 hz1)
  have HS := Lib.hid hS
  clear hown hb2 hx1 hP hb1 hS HP hplen hpmem hsl Hws he hli
  match ws, hpne, HS, hn, Hmem, HRF with
  | [], hpne, HS, hn, Hmem, HRF => exact absurd rfl hpne
  | h :: t, hpne, HS, hn, Hmem, HRF =>
    obtain ⟨b, o, hp, hblt, hcells⟩ := HS.out.cells (by simp)
    obtain ⟨rfl, rfl⟩ : g = b ∧ 0 = o := by injection hp with hp; injection hp with h1 h2; exact ⟨h1, h2⟩
    have q0 := hcells 0 (by simp)
    simp only [List.getElem_cons_zero, Nat.zero_add] at q0
    obtain ⟨sh, hsh⟩ : ∃ s : ByteArray, s = ⟨h.toArray⟩ := ⟨_, rfl⟩
    rw [← hsh] at q0
    have Hcell : Hid (∀ j (hj : j < t.length), w2.cell? ⟨g, j + 1, none⟩ = some (.string ⟨t[j].toArray⟩)) := Lib.hid fun j hj => by
      have h := hcells (j + 1) (by simpa using hj)
      rw [Nat.zero_add] at h
      simpa using h
    have HN0 : Hid ((h :: t).length = t.length + 1) := Lib.hid (by simp)
    clear hcells hp
    generalize hN : (h :: t).length = N at *
    have hNp : (0 : Int) < (N : Int) := by have := HN0.out; omega
    obtain ⟨nh, hnh⟩ : ∃ n : Int, ((parse 999999999 h).1 : Int) = n := ⟨_, rfl⟩
    obtain ⟨bh, hbh⟩ : ∃ b, (parse 999999999 h).2 = b := ⟨_, rfl⟩
    have HNum : Hid (∀ wx, Calls Tryd.prog 42 #[.string sh] wx fun e w' => e = .returned (.tuple #[.int .i64 nh, .bool bh]) ∧ Below wx.heap.size wx w') := Lib.hid fun wx => by
      have hh := specNumber_any sh wx (by have := Hmem.out h (by simp); rw [hsh]; simp [ByteArray.size]; omega)
      rw [show sh.data.toList = h by rw [hsh], hnh, hbh] at hh
      exact hh
    have HA0 : Hid (accW h t 0 = (nh, 0, false, false, 0)) := Lib.hid (by rw [accW_zero, hnh])
    have Hmt : Hid (∀ j (hj : j < t.length), t[j].length ≤ 60) := Lib.hid fun j hj => Hmem.out _ (List.mem_cons_of_mem _ (List.getElem_mem hj))
    have Hsh : Hid ((⟨h.toArray⟩ : ByteArray) = sh) := Lib.hid hsh.symm
    clear hnh hbh hsh hN Hmem
    go_upto_region 4 with fail
    have HQ4 : Hid (QSt w (w2.alloc (.cells #[.int .i64 0, .int .i64 0, .bool false, .bool false, .int .i64 0] 25)) w2.heap.size w2.heap.size (0, 0, false, false, 0) (some ⟨g, 0, none⟩) N cap (h :: t)) := Lib.hid
      ⟨HX2.out.alloc _, Box.fresh w2 #[.int .i64 0, .int .i64 0, .bool false, .bool false, .int .i64 0] 25, hz2, Nat.le_refl _, hl2.alloc hl2.size _, HS.out.below ((Below.refl _ _).alloc (Nat.le_refl _) _)⟩
    go_upto_region 5 with fail
    generalize (w2.alloc (.cells #[.int .i64 0, .int .i64 0, .bool false, .bool false, .int .i64 0] 25)) = w3 at HQ4 ⊢
    have q0 : w3.cell? ⟨g, 0, none⟩ = some (.string sh) := by have := HQ4.out.at 0 (by simp); rw [this]; show some (Value.string ⟨h.toArray⟩) = _; rw [Hsh.out]
    obtain ⟨⟨f0, f1, f2, f3, f4⟩, g0, g1, g2, g3, g4⟩ := Box.five HQ4.out.2.1
    go_wp2_with fail
    refine (HNum.out _).mono ?_
    rintro e w4 ⟨rfl, hb4⟩
    have HQ5 := Lib.hid (HQ4.out.all hb4)
    clear HQ4 hb4 q0 f0 f1 f2 f3 f4 g0 g1 g2 g3 g4 HX2 HS Hcell HNum Hsh
    obtain ⟨⟨f0, f1, f2, f3, f4⟩, g0, g1, g2, g3, g4⟩ := Box.five HQ5.out.2.1
    go_wp2_with fail
    have HQ6 : Hid (QSt w (w4.setCell ⟨w2.heap.size, 0, none⟩ (.int .i64 nh)) w2.heap.size w2.heap.size (accW h t 0) (some ⟨g, 0, none⟩) N cap (h :: t)) := Lib.hid (by rw [HA0.out]; exact HQ5.out.set 0 _ _ rfl)
    clear HQ5 f0 f1 f2 f3 f4 g0 g1 g2 g3 g4
    go_loopw [6] (fun x wr => ∃ k : Nat, 1 ≤ k ∧ k ≤ N ∧ x = .int .i64 k ∧ Hid (QSt w wr w2.heap.size w2.heap.size (accW h t (k - 1)) (some ⟨g, 0, none⟩) N cap (h :: t))) (fun x _ => N - (intOf x).toNat)
    case atStart => exact ⟨1, Nat.le_refl _, by omega, rfl, HQ6⟩
    case round =>
      clear HQ6
      obtain ⟨wo, rfl⟩ : ∃ wo : World, wo = wr := ⟨_, rfl⟩
      obtain ⟨k, hk1, hk, rfl, HQ⟩ := hrel
      by_cases hlt : k < N
      · have hlti : (k : Int) < (N : Int) := by omega
        have hkt : k - 1 < t.length := by have := HN0.out; omega
        have Hst : Hid (accW h t k = stepW (accW h t (k - 1)) t[k - 1]) := Lib.hid (by
          have := accW_step h t (k - 1) hkt
          rwa [show k - 1 + 1 = k by omega] at this)
        have hW60 := Hmt.out (k - 1) hkt
        have Hcw : Hid (∀ (wx : World) (f : RF), QSt w wx w2.heap.size w2.heap.size f (some ⟨g, 0, none⟩) N cap (h :: t) → wx.cell? ⟨g, k, none⟩ = some (.string ⟨t[k - 1].toArray⟩)) := Lib.hid fun wx f hq => by
          have hkl : k < (h :: t).length := by simp; omega
          have := hq.at k hkl
          rw [this]
          congr 3
          rw [List.getElem_cons, dif_neg (by omega)]
        generalize t[k - 1] = W at Hst hW60 Hcw
        obtain ⟨sw, esw⟩ : ∃ s : ByteArray, s = ⟨W.toArray⟩ := ⟨_, rfl⟩
        rw [← esw] at Hcw
        have HsW : Hid (sw.data.toList = W) := Lib.hid (by rw [esw])
        have Hswz : Hid (sw.size ≤ 9223372036854775807) := Lib.hid (by rw [esw]; simp [ByteArray.size]; omega)
        generalize accW h t (k - 1) = F at HQ Hst
        obtain ⟨A1, A2, A3, A4, A5⟩ := F
        clear esw hW60
        go_wp2_with fail
        go_loopw [7] (fun y wq => ∃ m : Nat, 1 ≤ m ∧ m ≤ 9 ∧ y = .int .i64 m ∧ Hid (QSt w wq w2.heap.size w2.heap.size (A1, kindTo W A2 (m - 1), A3, A4, A5) (some ⟨g, 0, none⟩) N cap (h :: t))) (fun y _ => 9 - (intOf y).toNat)
        case atStart => exact ⟨1, Nat.le_refl _, by omega, rfl, HQ⟩
        case round =>
          clear HQ
          obtain ⟨m, hm1, hm9, rfl, HQ⟩ := hrel
          have q1 := Hcw.out _ _ HQ.out
          by_cases hm : m ≤ 8
          · have hmi : (m : Int) ≤ 8 := by omega
            obtain ⟨q, hq⟩ : ∃ q, (sw.toList == (wordR (m : Int)).toList) = q := ⟨_, rfl⟩
            have Hq : Hid (q = decide (W = wordL (m : Int))) := Lib.hid (by
              rw [← hq, ByteArray.toList_eq, ByteArray.toList_eq, HsW.out]
              show (W == wordL (m : Int)) = _
              by_cases e : W = wordL (m : Int) <;> simp [e])
            have Hkt : Hid (kindTo W A2 m = if q = true then (m : Int) else kindTo W A2 (m - 1)) := Lib.hid (by
              obtain ⟨j, rfl⟩ : ∃ j, m = j + 1 := ⟨m - 1, by omega⟩
              rw [kindTo, Hq.out]
              simp)
            clear Hq
            go_upto_region 12 with fail
            go_cut [45] (fun s45 wx => s45 = .bool q ∧ Hid (QSt w wx w2.heap.size w2.heap.size (A1, kindTo W A2 (m - 1), A3, A4, A5) (some ⟨g, 0, none⟩) N cap (h :: t)))
            case first =>
              go_region_with (go_at_call 30; refine (specKindWord_any _ _).mono ?_; rintro e w9 ⟨rfl, hb9⟩; have HQ9 := HQ.out.drew.all hb9; have q9 := Hcw.out _ _ HQ9)
              all_goals
                have HQ10 := Lib.hid HQ9
                clear HQ9 q9 q1 hb9
                go_wp2_with fail
                go_meet
                exact ⟨rfl, HQ10⟩
            case rest =>
              obtain ⟨rfl, HQ10⟩ := hcut
              clear HQ q1 hq
              obtain ⟨⟨f0, f1, f2, f3, f4⟩, g0, g1, g2, g3, g4⟩ := Box.five HQ10.out.2.1
              cases q with
              | true =>
                have Hk2 : Hid (kindTo W A2 m = (m : Int)) := Lib.hid (by rw [Hkt.out, if_pos rfl])
                go_wp2_with fail
                go_roundw
                case rel => exact ⟨m + 1, by omega, by omega, by go_num, Lib.hid (by
                  have h := HQ10.out.set 1 (.int .i64 m) (A1, kindTo W A2 m, A3, A4, A5) (by rw [Hk2.out]; rfl)
                  simpa using h)⟩
                case measure => simp [intOf]; omega
              | false =>
                have Hk2 : Hid (kindTo W A2 m = kindTo W A2 (m - 1)) := Lib.hid (by rw [Hkt.out, if_neg (by simp)])
                go_wp2_with fail
                go_roundw
                case rel => exact ⟨m + 1, by omega, by omega, by go_num, Lib.hid (by
                  have h := HQ10.out
                  rw [← Hk2.out] at h
                  simpa using h)⟩
                case measure => simp [intOf]; omega
          · obtain rfl : m = 9 := by omega
            obtain ⟨K2, hK2⟩ : ∃ K, kindTo W A2 8 = K := ⟨_, rfl⟩
            rw [show (9 : Nat) - 1 = 8 from rfl, hK2] at HQ
            obtain ⟨nw, hnw⟩ : ∃ n : Int, ((parse 999999999 W).1 : Int) = n := ⟨_, rfl⟩
            obtain ⟨ok, hok⟩ : ∃ b, (parse 999999999 W).2 = b := ⟨_, rfl⟩
            obtain ⟨qr, hqr⟩ : ∃ q, (sw.toList == [114, 101, 112, 101, 97, 116, 101, 100]) = q := ⟨_, rfl⟩
            obtain ⟨qp, hqp⟩ : ∃ q, (sw.toList == [112, 97, 99, 107, 101, 100]) = q := ⟨_, rfl⟩
            have Hacc : Hid (accW h t k = (A1, K2, A3 || qr, A4 || qp, if ok = true then nw else A5)) := Lib.hid (by
              have hr : (W == repW) = qr := by rw [← hqr, ByteArray.toList_eq, HsW.out]; rfl
              have hp : (W == packW) = qp := by rw [← hqp, ByteArray.toList_eq, HsW.out]; rfl
              rw [Hst.out]
              unfold stepW
              simp only [hK2, hr, hp, hok, hnw])
            have HNw : Hid (∀ wx, Calls Tryd.prog 42 #[.string sw] wx fun e w' => e = .returned (.tuple #[.int .i64 nw, .bool ok]) ∧ Below wx.heap.size wx w') := Lib.hid fun wx => by
              have hh := specNumber_any sw wx Hswz.out
              rw [HsW.out, hnw, hok] at hh
              exact hh
            clear Hst hK2 hnw hok HsW Hswz
            go_wp2_with fail
            refine (HNw.out _).mono ?_
            rintro e w7 ⟨rfl, hb7⟩
            have HQ8 := Lib.hid (HQ.out.all hb7)
            clear HQ hb7 q1 HNw
            have q1 := Hcw.out _ _ HQ8.out
            obtain ⟨⟨f0, f1, f2, f3, f4⟩, g0, g1, g2, g3, g4⟩ := Box.five HQ8.out.2.1
            cases ok with
            | true =>
              cases A3 with
              | true =>
                cases A4 with
                | true =>
                  have Hac : Hid (accW h t k = (A1, K2, true, true, nw)) := Lib.hid (by rw [Hacc.out]; simp)
                  go_wp2_with fail
                  go_roundw
                  case rel => exact ⟨k + 1, by omega, by omega, by go_num, Lib.hid (by
                    have h := ((HQ8.out.set 4 (.int .i64 nw) (A1, K2, true, true, nw) rfl).set 2 (.bool true) (A1, K2, true, true, nw) rfl).set 3 (.bool true) (A1, K2, true, true, nw) rfl
                    rw [show k + 1 - 1 = k by omega, Hac.out]
                    exact h)⟩
                  case measure => simp [intOf]; omega
                | false =>
                  have Hac : Hid (accW h t k = (A1, K2, true, qp, nw)) := Lib.hid (by rw [Hacc.out]; simp)
                  go_wp2_with fail
                  go_roundw
                  case rel => exact ⟨k + 1, by omega, by omega, by go_num, Lib.hid (by
                    have h := ((HQ8.out.set 4 (.int .i64 nw) (A1, K2, true, false, nw) rfl).set 2 (.bool true) (A1, K2, true, false, nw) rfl).set 3 (.bool qp) (A1, K2, true, qp, nw) rfl
                    rw [show k + 1 - 1 = k by omega, Hac.out]
                    exact h)⟩
                  case measure => simp [intOf]; omega
              | false =>
                cases A4 with
                | true =>
                  have Hac : Hid (accW h t k = (A1, K2, qr, true, nw)) := Lib.hid (by rw [Hacc.out]; simp)
                  go_wp2_with fail
                  go_roundw
                  case rel => exact ⟨k + 1, by omega, by omega, by go_num, Lib.hid (by
                    have h := ((HQ8.out.set 4 (.int .i64 nw) (A1, K2, false, true, nw) rfl).set 2 (.bool qr) (A1, K2, qr, true, nw) rfl).set 3 (.bool true) (A1, K2, qr, true, nw) rfl
                    rw [show k + 1 - 1 = k by omega, Hac.out]
                    exact h)⟩
                  case measure => simp [intOf]; omega
                | false =>
                  have Hac : Hid (accW h t k = (A1, K2, qr, qp, nw)) := Lib.hid (by rw [Hacc.out]; simp)
                  go_wp2_with fail
                  go_roundw
                  case rel => exact ⟨k + 1, by omega, by omega, by go_num, Lib.hid (by
                    have h := ((HQ8.out.set 4 (.int .i64 nw) (A1, K2, false, false, nw) rfl).set 2 (.bool qr) (A1, K2, qr, false, nw) rfl).set 3 (.bool qp) (A1, K2, qr, qp, nw) rfl
                    rw [show k + 1 - 1 = k by omega, Hac.out]
                    exact h)⟩
                  case measure => simp [intOf]; omega
            | false =>
              cases A3 with
              | true =>
                cases A4 with
                | true =>
                  have Hac : Hid (accW h t k = (A1, K2, true, true, A5)) := Lib.hid (by rw [Hacc.out]; simp)
                  go_wp2_with fail
                  go_roundw
                  case rel => exact ⟨k + 1, by omega, by omega, by go_num, Lib.hid (by
                    have h := ((HQ8.out).set 2 (.bool true) (A1, K2, true, true, A5) rfl).set 3 (.bool true) (A1, K2, true, true, A5) rfl
                    rw [show k + 1 - 1 = k by omega, Hac.out]
                    exact h)⟩
                  case measure => simp [intOf]; omega
                | false =>
                  have Hac : Hid (accW h t k = (A1, K2, true, qp, A5)) := Lib.hid (by rw [Hacc.out]; simp)
                  go_wp2_with fail
                  go_roundw
                  case rel => exact ⟨k + 1, by omega, by omega, by go_num, Lib.hid (by
                    have h := ((HQ8.out).set 2 (.bool true) (A1, K2, true, false, A5) rfl).set 3 (.bool qp) (A1, K2, true, qp, A5) rfl
                    rw [show k + 1 - 1 = k by omega, Hac.out]
                    exact h)⟩
                  case measure => simp [intOf]; omega
              | false =>
                cases A4 with
                | true =>
                  have Hac : Hid (accW h t k = (A1, K2, qr, true, A5)) := Lib.hid (by rw [Hacc.out]; simp)
                  go_wp2_with fail
                  go_roundw
                  case rel => exact ⟨k + 1, by omega, by omega, by go_num, Lib.hid (by
                    have h := ((HQ8.out).set 2 (.bool qr) (A1, K2, qr, true, A5) rfl).set 3 (.bool true) (A1, K2, qr, true, A5) rfl
                    rw [show k + 1 - 1 = k by omega, Hac.out]
                    exact h)⟩
                  case measure => simp [intOf]; omega
                | false =>
                  have Hac : Hid (accW h t k = (A1, K2, qr, qp, A5)) := Lib.hid (by rw [Hacc.out]; simp)
                  go_wp2_with fail
                  go_roundw
                  case rel => exact ⟨k + 1, by omega, by omega, by go_num, Lib.hid (by
                    have h := ((HQ8.out).set 2 (.bool qr) (A1, K2, qr, false, A5) rfl).set 3 (.bool qp) (A1, K2, qr, qp, A5) rfl
                    rw [show k + 1 - 1 = k by omega, Hac.out]
                    exact h)⟩
                  case measure => simp [intOf]; omega
      · obtain rfl : k = N := by omega
        obtain ⟨F, hF⟩ : ∃ F, accW h t (k - 1) = F := ⟨_, rfl⟩
        have HFr : Hid (readW (h :: t) = F) := Lib.hid (by rw [← hF, ← accW_all, show t.length = k - 1 by have := HN0.out; omega])
        rw [hF] at HQ
        have HT := Lib.hid (specFieldText_any F)
        have hRF := HRF.out
        rw [HFr.out] at hRF
        obtain ⟨sT, hsT⟩ : ∃ s : ByteArray, s = ⟨(textF F).toArray⟩ := ⟨_, rfl⟩
        rw [← hsT] at HT
        have hle : (k : Int) ≤ (k : Int) := Int.le_refl _
        by_cases hc : textF F = s.data.toList
        · rw [if_pos hc] at hRF
          have hTs : sT = s := by rw [hsT, hc]
          rw [hTs] at HT
          have hbe : (s.toList != s.toList) = false := by simp
          have Hr := Lib.hid hRF
          obtain ⟨A1, A2, A3, A4, A5⟩ := F
          unfold fieldV at HT
          simp only at HT
          clear hRF hF HFr HRF hc hsT hTs
          obtain ⟨⟨f0, f1, f2, f3, f4⟩, g0, g1, g2, g3, g4⟩ := Box.five HQ.out.2.1
          go_wp2_with fail
          refine (HT.out _).mono ?_
          rintro e w7 ⟨rfl, hb7⟩
          have HQ8 := Lib.hid (HQ.out.all hb7)
          clear HQ hb7 f0 f1 f2 f3 f4 g0 g1 g2 g3 g4 HT
          obtain ⟨⟨f0, f1, f2, f3, f4⟩, g0, g1, g2, g3, g4⟩ := Box.five HQ8.out.2.1
          obtain ⟨⟨c0, c1, c2, c3, c4⟩, k0, k1, k2, k3, k4⟩ := Box.five HQ8.out.1
          go_wp2_with fail
          refine bodyPost_ret (v := .tuple #[.agg #[.int .i64 A1, .int .i64 A2, .bool A3, .bool A4, .int .i64 A5], .bool true]) (by simp [results, Tryd.results19, go_sem, c0, c1, c2, c3, c4]) rfl ?_
          exact ⟨by rw [Hr.out]; rfl, (((((HQ8.out.2.2.2.2.1.setCell (by simp) _).setCell (by simp) _).setCell (by simp) _).setCell (by simp) _).setCell (by simp) _)⟩
        · rw [if_neg hc] at hRF
          have hbn : ¬ (sT.toList = s.toList) := by
            rw [ByteArray.toList_eq, ByteArray.toList_eq, hsT]
            simpa using hc
          have hbe : (sT.toList != s.toList) = true := by rw [bne_iff_ne]; exact hbn
          have hbf : (sT.toList == s.toList) = false := by rw [beq_eq_false_iff_ne]; exact hbn
          have Hr := Lib.hid hRF
          obtain ⟨A1, A2, A3, A4, A5⟩ := F
          unfold fieldV at HT
          simp only at HT
          clear hRF hF HFr HRF hc hsT
          obtain ⟨⟨f0, f1, f2, f3, f4⟩, g0, g1, g2, g3, g4⟩ := Box.five HQ.out.2.1
          go_wp2_with fail
          refine (HT.out _).mono ?_
          rintro e w7 ⟨rfl, hb7⟩
          have HQ8 := Lib.hid (HQ.out.all hb7)
          clear HQ hb7 f0 f1 f2 f3 f4 g0 g1 g2 g3 g4 HT
          obtain ⟨⟨c0, c1, c2, c3, c4⟩, k0, k1, k2, k3, k4⟩ := Box.five HQ8.out.1
          go_wp2_with fail
          refine bodyPost_ret (v := .tuple #[.agg #[.int .i64 0, .int .i64 0, .bool false, .bool false, .int .i64 0], .bool false]) (by simp [results, Tryd.results19, go_sem, c0, c1, c2, c3, c4]) rfl ?_
          exact ⟨by rw [Hr.out]; rfl, (((((HQ8.out.2.2.2.2.1.setCell (by simp) _).setCell (by simp) _).setCell (by simp) _).setCell (by simp) _).setCell (by simp) _)⟩
theorem specReadField_any (s : ByteArray) (w : World) (hs : s.size ≤ 1048576) :
    Calls Tryd.prog 19 #[.string s] w fun e w' => e = .returned (.tuple #[fieldV ((readF s.data.toList).getD zeroF), .bool (readF s.data.toList).isSome]) ∧ Below w.heap.size w w' := by
  by_cases h : s.data.toList = [] ∨ 60 < s.size
  · have hr : readF s.data.toList = none := by
      unfold readF
      rw [if_neg]
      rintro ⟨h1, h2, _⟩
      rcases h with h | h
      · exact h1 h
      · have : s.data.toList.length = s.size := by simp
        omega
    rw [hr]
    exact specReadField_short s w hs h
  · exact specReadField_long s w (fun e => h (.inl e)) (by omega)
end Go.Proofs.YtcbohfncckpolaaDoor.Num
