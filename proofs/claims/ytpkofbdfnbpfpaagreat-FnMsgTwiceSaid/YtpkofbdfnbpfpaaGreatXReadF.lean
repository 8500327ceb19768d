/-
  Several texts in one: ReadF.
-/
import Derived.Test.YtpkofbdfnbpfpaaGreatXReadY
import Derived.Test.YtpkofbdfnbpfpaaGreatXImpB
import Derived.Deep.LoopGhost

/-
  The program's reader of messages: a packed run is read.
-/
namespace Go.Proofs.YtpkofbdfnbpfpaaGreat.Num
open Go.RowKit Go.Proofs
set_option linter.unusedVariables false
set_option linter.unusedSimpArgs false
theorem wire_num {k : Int} (h : numericB k = true) : wireR k = 0 ∨ wireR k = 1 ∨ wireR k = 5 := by
  unfold numericB at h
  have h1 := of_decide_eq_true h
  unfold wireR
  rw [if_neg (by omega)]
  by_cases h4 : k = 4
  · rw [if_pos h4]; omega
  · rw [if_neg h4]
    by_cases h5 : k = 5
    · rw [if_pos h5]; omega
    · rw [if_neg h5, if_pos (by omega)]; omega
section
variable {g bs bp L B gx gt gf gr p : Nat} {o o' u : Value} {w w' w4 : World} {sch : List RM} {D Rt Mo : Int} {s : ByteArray} {out : List Ev} {vs zs : List Value}
/-- What a call answered is laid in a block that is made behind it. -/
theorem endRA (h : RI w4 g bs bp L B u Rt Mo sch D s o' p out) (hf : Box w4 gf vs) (hr : Box w4 gr zs) (hm : MovI g bp o o' w w4) (ev : Array Value) (T : TypeId) :
    RI (w4.alloc (.cells ev T)) g bs bp L B u Rt Mo sch D s o' p out ∧ Box (w4.alloc (.cells ev T)) gf vs ∧ Box (w4.alloc (.cells ev T)) gr zs ∧ Box (w4.alloc (.cells ev T)) w4.heap.size ev.toList ∧ MovI g bp o o' w (w4.alloc (.cells ev T)) :=
  ⟨h.alloc _, hf.alloc _, hr.alloc _, Box.fresh _ _ _, hm.alloc _⟩
/-- What a call answered is stored in a block that was made ahead of it. -/
theorem endRB (h : RI w4 g bs bp L B u Rt Mo sch D s o' p out) (hf : Box w4 gf vs) (hr : Box w4 gr zs) (hm : MovI g bp o o' w w4) {z0 z1 z2 z3 z4 z5 z6 : Value} (ht : Box w4 gt [z0, z1, z2, z3, z4, z5, z6]) (hl : Loc g bs bp L gt o') (h1 : gt ≠ gf) (h2 : gt ≠ gr) (h3 : w.heap.size ≤ gt) (e0 e1 e2 e3 e4 e5 e6 : Value) :
    RI (((((((w4.setCell ⟨gt, 0, none⟩ e0).setCell ⟨gt, 1, none⟩ e1).setCell ⟨gt, 2, none⟩ e2).setCell ⟨gt, 3, none⟩ e3).setCell ⟨gt, 4, none⟩ e4).setCell ⟨gt, 5, none⟩ e5).setCell ⟨gt, 6, none⟩ e6) g bs bp L B u Rt Mo sch D s o' p out ∧
      Box (((((((w4.setCell ⟨gt, 0, none⟩ e0).setCell ⟨gt, 1, none⟩ e1).setCell ⟨gt, 2, none⟩ e2).setCell ⟨gt, 3, none⟩ e3).setCell ⟨gt, 4, none⟩ e4).setCell ⟨gt, 5, none⟩ e5).setCell ⟨gt, 6, none⟩ e6) gf vs ∧
      Box (((((((w4.setCell ⟨gt, 0, none⟩ e0).setCell ⟨gt, 1, none⟩ e1).setCell ⟨gt, 2, none⟩ e2).setCell ⟨gt, 3, none⟩ e3).setCell ⟨gt, 4, none⟩ e4).setCell ⟨gt, 5, none⟩ e5).setCell ⟨gt, 6, none⟩ e6) gr zs ∧
      Box (((((((w4.setCell ⟨gt, 0, none⟩ e0).setCell ⟨gt, 1, none⟩ e1).setCell ⟨gt, 2, none⟩ e2).setCell ⟨gt, 3, none⟩ e3).setCell ⟨gt, 4, none⟩ e4).setCell ⟨gt, 5, none⟩ e5).setCell ⟨gt, 6, none⟩ e6) gt [e0, e1, e2, e3, e4, e5, e6] ∧
      MovI g bp o o' w (((((((w4.setCell ⟨gt, 0, none⟩ e0).setCell ⟨gt, 1, none⟩ e1).setCell ⟨gt, 2, none⟩ e2).setCell ⟨gt, 3, none⟩ e3).setCell ⟨gt, 4, none⟩ e4).setCell ⟨gt, 5, none⟩ e5).setCell ⟨gt, 6, none⟩ e6) := by
  refine ⟨?_, ?_, ?_, ?_, ?_⟩
  · exact ((((((h.loc hl 0 _).loc hl 1 _).loc hl 2 _).loc hl 3 _).loc hl 4 _).loc hl 5 _).loc hl 6 _
  · exact ((((((hf.other (a := ⟨gt, 0, none⟩) h1 _).other (a := ⟨gt, 1, none⟩) h1 _).other (a := ⟨gt, 2, none⟩) h1 _).other (a := ⟨gt, 3, none⟩) h1 _).other (a := ⟨gt, 4, none⟩) h1 _).other (a := ⟨gt, 5, none⟩) h1 _).other (a := ⟨gt, 6, none⟩) h1 _
  · exact ((((((hr.other (a := ⟨gt, 0, none⟩) h2 _).other (a := ⟨gt, 1, none⟩) h2 _).other (a := ⟨gt, 2, none⟩) h2 _).other (a := ⟨gt, 3, none⟩) h2 _).other (a := ⟨gt, 4, none⟩) h2 _).other (a := ⟨gt, 5, none⟩) h2 _).other (a := ⟨gt, 6, none⟩) h2 _
  · have := ((((((ht.set 0 e0).set 1 e1).set 2 e2).set 3 e3).set 4 e4).set 5 e5).set 6 e6
    exact this
  · exact ((((((hm.setX h3 0 _).setX h3 1 _).setX h3 2 _).setX h3 3 _).setX h3 4 _).setX h3 5 _).setX h3 6 _
end
set_option maxHeartbeats 8000000 in
set_option maxRecDepth 100000 in
theorem readRun_any (fu : Nat) {w : World} {g bs bp L B p : Nat} {u o : Value} {sch : List RM} {D Rt Mo : Int} {s : ByteArray} {out : List Ev} (h : RI w g bs bp L B u Rt Mo sch D s o p out) (f : RF) (hf : FOk f) (hk : numericB f.2.1 = true) (n : Nat) (hn : (p + n : Nat) ≤ 9223372036854775807) (hs : s.size ≤ 200000000) (hl : out.length ≤ 4 * p) (hfu : s.size - p < fu) :
    Calls Tryz.prog 167 #[.pointer (some ⟨g, 0, none⟩), fieldV f, .int .i64 n] w (PostI g bs bp L B u Rt Mo sch D s o (rdRun s f ((p + n : Nat) : Int) fu ⟨p, out, zeroE⟩) w) := by
  have hp := h.inn
  obtain ⟨M, hM⟩ : ∃ M : RdM, rdRun s f ((p + n : Nat) : Int) fu ⟨p, out, zeroE⟩ = M := ⟨_, rfl⟩
  rw [hM]
  have HM := Lib.hid hM
  clear hM
  obtain ⟨S, hS⟩ : ∃ S, p + n = S := ⟨_, rfl⟩
  rw [hS] at HM hn
  have hpS : p ≤ S := by omega
  have HS : Hid ((p : Int) + (n : Int) = (S : Int)) := Lib.hid (by omega)
  have hwS : IntKind.i64.wrap ((p : Int) + (n : Int)) = (S : Int) := by rw [IntWalk.i64_in _ (by omega)]; omega
  have Hx := Lib.hid (wire_num hk)
  have HN : Hid (∀ (w : World) (o : Value) (p : Nat) (out : List Ev), RI w g bs bp L B u Rt Mo sch D s o p out → p ≤ S → out.length ≤ 1048576000 → Calls Tryz.prog 138 #[.pointer (some ⟨g, 0, none⟩), fieldV f, .int .i64 (wireR f.2.1), .int .i64 S] w (PostI g bs bp L B u Rt Mo sch D s o (rdNum s f (wireR f.2.1) S ⟨p, out, zeroE⟩) w)) := Lib.hid fun w o p out h hpS ho => readNumber_any h f hf _ _ Hx.out ⟨by omega, by omega⟩ (by omega) ho
  have HW : Hid (∀ w, Calls Tryz.prog 187 #[.int .i64 f.2.1] w fun e w' => e = .returned (.int .i64 (wireR f.2.1)) ∧ w = w') := Lib.hid fun w => impl0WireOf_any f.2.1 w
  generalize hwf : wireR f.2.1 = wf at HN HW
  have Hadv : Hid (∀ (p : Nat) (out : List Ev), p ≤ s.size → p ≤ S → Adv s (S : Int) ⟨p, out, zeroE⟩ (rdNum s f wf S ⟨p, out, zeroE⟩) ∧ ((rdNum s f wf S ⟨p, out, zeroE⟩).fail.kind = 0 → p < (rdNum s f wf S ⟨p, out, zeroE⟩).place)) := Lib.hid fun p out h1 h2 => rdNum_adv h1 (by show (p : Int) ≤ S; omega)
  have Hmore : Hid (∀ (gm p : Nat) (out : List Ev), p < S → rdRun s f (S : Int) (gm + 1) ⟨p, out, zeroE⟩ = rdRun s f (S : Int) gm (rdNum s f wf S ⟨p, out, zeroE⟩)) := Lib.hid fun gm p out h => by rw [← hwf]; exact rdRun_more ⟨by show (p : Int) < S; omega, rfl⟩
  have Hend : Hid (∀ (gm p : Nat) (out : List Ev), ¬ p < S → rdRun s f (S : Int) gm ⟨p, out, zeroE⟩ = ⟨p, out, zeroE⟩) := Lib.hid fun gm p out h => rdRun_end (fun e => h (by have : (p : Int) < S := e.1; omega))
  have Hbad : Hid (∀ (gm : Nat) (r : RdM) (c a : Int), r.fail = failE c a → rdRun s f (S : Int) gm r = r) := Lib.hid fun gm r c a h => rdRun_end (fun e => by have h2 := e.2; rw [h] at h2; have h3 : (10 : Int) = 0 := h2; omega)
  clear hwf
  obtain ⟨A1, A2, A3, A4, A5⟩ := f
  unfold fieldV at HN ⊢
  simp only at HN HW ⊢
  have hb2 : Below w.heap.size w ((w.alloc (.cells #[.int .i64 A1, .int .i64 A2, .bool A3, .bool A4, .int .i64 A5] 117)).alloc (.cells #[.int .i64 0, .int .i64 0, .int .u64 0, .int .i64 0, .string ⟨#[]⟩, .int .i64 0, .int .i64 0] 34)) := ((Below.refl _ _).alloc (Nat.le_refl _) _).alloc (by simp) _
  have H0 := Lib.hid (h.below hb2)
  have hm0 : Hid (MovI g bp o o w _) := Lib.hid (.of_below hb2)
  have hbf := Lib.hid ((Box.fresh w #[.int .i64 A1, .int .i64 A2, .bool A3, .bool A4, .int .i64 A5] 117).alloc (.cells #[.int .i64 0, .int .i64 0, .int .u64 0, .int .i64 0, .string ⟨#[]⟩, .int .i64 0, .int .i64 0] 34))
  have hbr : Hid (Box ((w.alloc (.cells #[.int .i64 A1, .int .i64 A2, .bool A3, .bool A4, .int .i64 A5] 117)).alloc (.cells #[.int .i64 0, .int .i64 0, .int .u64 0, .int .i64 0, .string ⟨#[]⟩, .int .i64 0, .int .i64 0] 34)) (w.heap.size + 1) [.int .i64 0, .int .i64 0, .int .u64 0, .int .i64 0, .string ⟨#[]⟩, .int .i64 0, .int .i64 0]) := Lib.hid Box.fresh2R
  have Hlf := Lib.hid (h.fresh (Nat.le_refl w.heap.size))
  have Hlr := Lib.hid (h.fresh (Nat.le_succ w.heap.size))
  have hgz := H0.out.lt.1
  obtain ⟨⟨c0, c1, c2, c3, c4, c5⟩, f5, _⟩ := H0.out.cells
  unfold plF at c2
  clear h hb2 hk hf
  go_enter Tryz.func167, Tryz.ntmps167
  go_wp2_with fail
  refine (place_any H0.out).mono ?_
  rintro e _ ⟨rfl, rfl⟩
  generalize (w.alloc (.cells #[.int .i64 A1, .int .i64 A2, .bool A3, .bool A4, .int .i64 A5] 117)).alloc (.cells #[.int .i64 0, .int .i64 0, .int .u64 0, .int .i64 0, .string ⟨#[]⟩, .int .i64 0, .int .i64 0] 34) = w1 at H0 hm0 hbf hbr c0 c1 c2 c3 c4 c5 f5 hgz ⊢
  generalize hgf : w.heap.size = gf at hbf hbr Hlf Hlr
  go_wp2_with fail
  go_loopg [] fu (fun gm wr => ∃ (ok : Value) (pk : Nat) (outk : List Ev), Hid (RI wr g bs bp L B u Rt Mo sch D s ok pk outk) ∧ Hid (rdRun s (A1, A2, A3, A4, A5) (S : Int) gm ⟨pk, outk, zeroE⟩ = M) ∧ Hid (s.size - pk < gm) ∧ pk ≤ S ∧ pk ≤ s.size ∧ outk.length ≤ 4 * pk ∧ Hid (Box wr gf [.int .i64 A1, .int .i64 A2, .bool A3, .bool A4, .int .i64 A5]) ∧ Hid (Box wr (gf + 1) [.int .i64 0, .int .i64 0, .int .u64 0, .int .i64 0, .string ⟨#[]⟩, .int .i64 0, .int .i64 0]) ∧ Hid (Loc g bs bp L gf ok) ∧ Hid (Loc g bs bp L (gf + 1) ok) ∧ Hid (MovI g bp o ok w wr))
  case atStart => exact ⟨o, p, out, H0, HM, Lib.hid hfu, hpS, hp, hl, hbf, hbr, Hlf, Hlr, hm0⟩
  case round =>
    clear c0 c1 c2 c3 c4 c5 f5 hgz H0 hm0 hbf hbr Hlf Hlr HM hl hp hpS
    obtain ⟨ok, pk, outk, HK, HMk, Hfk, hkS, hks, hkl, hbf, hbr, Hlf, Hlr, Hmk⟩ := hrel
    obtain ⟨⟨c0, c1, c2, c3, c4, c5⟩, f5, _⟩ := HK.out.cells
    have hgz := HK.out.lt.1
    unfold plF at c2
    have hzr := hbr.out.lt
    have hzf := hbf.out.lt
    by_cases hlt : pk < S
    · have hlti : (pk : Int) < (S : Int) := by omega
      obtain ⟨G, rfl⟩ : ∃ G, gk = G + 1 := ⟨gk - 1, by have := Hfk.out; omega⟩
      have hM2 := HMk.out
      rw [Hmore.out _ _ _ hlt] at hM2
      obtain ⟨hadv, hst⟩ := Hadv.out pk outk hks hkS
      have HNk : Hid (∀ w, RI w g bs bp L B u Rt Mo sch D s ok pk outk → Calls Tryz.prog 138 #[.pointer (some ⟨g, 0, none⟩), .agg #[.int .i64 A1, .int .i64 A2, .bool A3, .bool A4, .int .i64 A5], .int .i64 wf, .int .i64 S] w (PostI g bs bp L B u Rt Mo sch D s ok (rdNum s (A1, A2, A3, A4, A5) wf (S : Int) ⟨pk, outk, zeroE⟩) w)) := Lib.hid fun w h => HN.out w ok pk outk h hkS (by omega)
      generalize rdNum s (A1, A2, A3, A4, A5) wf (S : Int) ⟨pk, outk, zeroE⟩ = r2 at hM2 hadv hst HNk
      obtain ⟨pl2, out2, ⟨k2, e2f, e2b, e2l, e2t, e2c, e2p⟩⟩ := r2
      unfold PostI evV at HNk
      simp only at HNk
      have Hlt := Lib.hid (HK.out.fresh (Nat.le_refl wr.heap.size))
      have hgtf : wr.heap.size ≠ gf := fun e => by have := hbf.out.lt; omega
      have hgtr : wr.heap.size ≠ gf + 1 := fun e => by have := hbr.out.lt; omega
      have hwz := Hmk.out.size
      have HM2 := Lib.hid hM2
      have Hadv2 := Lib.hid hadv
      have Hst := Lib.hid hst
      obtain ⟨b0, b1, b2, b3, b4⟩ := hbf.out.fiveR
      clear hM2 hadv hst HMk
      go_wp2_with fail
      refine (place_any HK.out).mono ?_
      rintro e _ ⟨rfl, rfl⟩
      go_wp2_with fail
      go_region_with (first | (go_at_call 187; refine (HW.out _).mono ?_; rintro _ _ ⟨rfl, rfl⟩) | (go_at_call 138; refine (HNk.out _ ?_).mono ?_; (first | exact HK.out.drew | exact (HK.out.drew.alloc _) | exact ((HK.out.alloc _).drew)); rintro e w4 ⟨o4, p4, rfl, h4, hm4, hp4, hf4⟩; have h4 := Lib.hid h4; have hp4 := Lib.hid hp4; have hf4 := Lib.hid hf4; have hm4' : Hid (MovI g bp o o4 w w4) := Lib.hid (by first | exact Hmk.out.drew.trans hm4 | exact (Hmk.out.drew.alloc _).trans hm4 | exact (Hmk.out.alloc _).drew.trans hm4); have hbf4 : Hid (Box w4 gf [.int .i64 A1, .int .i64 A2, .bool A3, .bool A4, .int .i64 A5]) := Lib.hid (by first | exact hm4.keep hbf.out.drew Hlf.out | exact hm4.keep (hbf.out.drew.alloc _) Hlf.out | exact hm4.keep (hbf.out.alloc _).drew Hlf.out); have hbr4 : Hid (Box w4 (gf + 1) [.int .i64 0, .int .i64 0, .int .u64 0, .int .i64 0, .string ⟨#[]⟩, .int .i64 0, .int .i64 0]) := Lib.hid (by first | exact hm4.keep hbr.out.drew Hlr.out | exact hm4.keep (hbr.out.drew.alloc _) Hlr.out | exact hm4.keep (hbr.out.alloc _).drew Hlr.out); have hlf4 : Hid (Loc g bs bp L gf o4) := Lib.hid (by first | exact Hlf.out.moved hbf.out.drew.lt hm4 | exact Hlf.out.moved (hbf.out.drew.alloc _).lt hm4 | exact Hlf.out.moved (hbf.out.alloc _).drew.lt hm4); have hlr4 : Hid (Loc g bs bp L (gf + 1) o4) := Lib.hid (by first | exact Hlr.out.moved hbr.out.drew.lt hm4 | exact Hlr.out.moved (hbr.out.drew.alloc _).lt hm4 | exact Hlr.out.moved (hbr.out.alloc _).drew.lt hm4); (try have hlt4 : Hid (Loc g bs bp L wr.heap.size o4) := Lib.hid (Hlt.out.moved (fresh_lt' wr _) hm4)); (try have hbt4 : Hid (Box w4 wr.heap.size [.int .i64 0, .int .i64 0, .int .u64 0, .int .i64 0, .string ⟨#[]⟩, .int .i64 0, .int .i64 0]) := Lib.hid (hm4.keep ((Box.fresh wr #[.int .i64 0, .int .i64 0, .int .u64 0, .int .i64 0, .string ⟨#[]⟩, .int .i64 0, .int .i64 0] 34).drew) Hlt.out); obtain ⟨⟨q0, q1, q2, q3, q4, q5, q6⟩, t0, t1, t2, t3, t4, t5, t6⟩ := hbt4.out.sevenE; have hzt4 := hbt4.out.lt); clear hm4))
      all_goals
        clear c0 c1 c2 c3 c4 c5 f5 b0 b1 b2 b3 b4 hzr hzf
        first
          | (have KK := endRB h4.out hbf4.out hbr4.out hm4'.out hbt4.out hlt4.out hgtf hgtr (by omega) (.int .i64 k2) (.int .i64 e2f) (.int .u64 e2b) (.int .i64 e2l) (.string e2t) (.int .i64 e2c) (.int .i64 e2p)
             obtain ⟨K0, K1, K2, K3, K4⟩ := KK
             clear q0 q1 q2 q3 q4 q5 q6 t0 t1 t2 t3 t4 t5 t6 hzt4 hbt4 hlt4 hgtf hgtr Hlt
             generalize ((((((w4.setCell ⟨wr.heap.size, 0, none⟩ (.int .i64 k2)).setCell ⟨wr.heap.size, 1, none⟩ (.int .i64 e2f)).setCell ⟨wr.heap.size, 2, none⟩ (.int .u64 e2b)).setCell ⟨wr.heap.size, 3, none⟩ (.int .i64 e2l)).setCell ⟨wr.heap.size, 4, none⟩ (.string e2t)).setCell ⟨wr.heap.size, 5, none⟩ (.int .i64 e2c)).setCell ⟨wr.heap.size, 6, none⟩ (.int .i64 e2p) = w5 at K0 K1 K2 K3 K4 ⊢
             generalize wr.heap.size = gt at K3 ⊢)
          | (have KK := endRA h4.out hbf4.out hbr4.out hm4'.out #[.int .i64 k2, .int .i64 e2f, .int .u64 e2b, .int .i64 e2l, .string e2t, .int .i64 e2c, .int .i64 e2p] 34
             obtain ⟨K0, K1, K2, K3, K4⟩ := KK
             generalize w4.alloc (.cells #[.int .i64 k2, .int .i64 e2f, .int .u64 e2b, .int .i64 e2l, .string e2t, .int .i64 e2c, .int .i64 e2p] 34) = w5 at K0 K1 K2 K3 K4 ⊢
             generalize w4.heap.size = gt at K3 ⊢)
        have H5 := Lib.hid K0
        have Hbf5 := Lib.hid K1
        have Hbr5 := Lib.hid K2
        have Hm5 := Lib.hid K4
        have hzt5 := K3.lt
        rcases hf4.out with hz | ⟨c, a, hfa⟩
        · unfold zeroE at hz
          simp only [Ev.mk.injEq] at hz
          obtain ⟨rfl, rfl, rfl, rfl, rfl, rfl, rfl⟩ := hz
          obtain rfl : p4 = pl2 := hp4.out rfl
          obtain ⟨⟨q0, q1, q2, q3, q4, q5, q6⟩, _⟩ := K3.sevenE
          clear K0 K1 K2 K4
          go_wp2_with fail
          refine (term_zero _).mono ?_
          rintro e w6 ⟨rfl, hb6⟩
          have H6 := Lib.hid (H5.out.below hb6)
          have Hbf6 := Lib.hid (Hbf5.out.below hb6 Hbf5.out.lt)
          have Hbr6 := Lib.hid (Hbr5.out.below hb6 Hbr5.out.lt)
          have Hm6 := Lib.hid (Hm5.out.trans (.of_below hb6))
          clear q0 q1 q2 q3 q4 q5 q6 K3 hb6
          go_wp2_with fail
          go_roundg G
          case measure => omega
          case rel => exact ⟨o4, p4, out2, H6, HM2, Lib.hid (by have h1 : pk < p4 := Hst.out (by trivial); have h2 : p4 ≤ s.size := Hadv2.out.inn; have := Hfk.out; omega), by have h3 : (p4 : Int) ≤ S := Hadv2.out.upto; omega, Hadv2.out.inn, by have h4 : out2.length + 4 * pk ≤ outk.length + 4 * p4 := Hadv2.out.len; omega, Hbf6, Hbr6, hlf4, hlr4, Hm6⟩
        · unfold failE at hfa
          simp only [Ev.mk.injEq] at hfa
          obtain ⟨rfl, rfl, rfl, rfl, rfl, rfl, rfl⟩ := hfa
          have HM3 : Hid (M = ⟨pl2, out2, failE e2c e2p⟩) := Lib.hid (by rw [← HM2.out]; exact Hbad.out G _ e2c e2p rfl)
          obtain ⟨⟨q0, q1, q2, q3, q4, q5, q6⟩, _⟩ := K3.sevenE
          clear K0 K1 K2 K4 HM2
          go_wp2_with fail
          refine (term_fail _ _ _).mono ?_
          rintro e w6 ⟨rfl, hb6⟩
          have H6 := Lib.hid (H5.out.below hb6)
          have hbr6 := Hbr5.out.below hb6 Hbr5.out.lt
          have Hm6 := Lib.hid (Hm5.out.trans (.of_below hb6))
          have hbt6 := K3.below hb6 hzt5
          clear q0 q1 q2 q3 q4 q5 q6 K3 hb6
          have hzr6 := hbr6.lt
          have hzt6 := hbt6.lt
          obtain ⟨⟨q0, q1, q2, q3, q4, q5, q6⟩, _⟩ := hbt6.sevenE
          obtain ⟨⟨r0, r1, r2, r3, r4, r5, r6⟩, s0, s1, s2, s3, s4, s5, s6⟩ := hbr6.sevenE
          go_wp2_with fail
          refine bodyPost_ret (v := .agg #[.int .i64 10, .int .i64 0, .int .u64 0, .int .i64 0, .string ⟨#[]⟩, .int .i64 e2c, .int .i64 e2p]) (by simp [results, Tryz.results167, go_sem, hzr6, r0, r1, r2, r3, r4, r5, r6]) rfl ?_
          refine PostI.bad HM3.out (o' := o4) (p := p4) ?_ ?_
          · repeat (first | with_reducible exact H6.out | refine RI.loc ?_ hlr4.out _ _)
          · repeat (first | with_reducible exact Hm6.out | refine MovI.setX ?_ (Nat.le_of_lt (by omega)) _ _)
    · have hge : ¬ (pk : Int) < (S : Int) := by omega
      have HM2 : Hid (M = ⟨pk, outk, zeroE⟩) := Lib.hid (by rw [← HMk.out]; exact Hend.out _ _ _ hlt)
      clear HMk hlt
      go_wp2_with fail
      refine (place_any HK.out).mono ?_
      rintro e _ ⟨rfl, rfl⟩
      obtain ⟨⟨r0, r1, r2, r3, r4, r5, r6⟩, s0, s1, s2, s3, s4, s5, s6⟩ := hbr.out.sevenE
      go_wp2_with fail
      refine bodyPost_ret (v := .agg #[.int .i64 0, .int .i64 0, .int .u64 0, .int .i64 0, .string ⟨#[]⟩, .int .i64 0, .int .i64 0]) (by simp [results, Tryz.results167, go_sem, hzr, r0, r1, r2, r3, r4, r5, r6]) rfl ?_
      refine PostI.good HM2.out (o' := ok) ?_ ?_
      · repeat (first | with_reducible exact HK.out | refine RI.loc ?_ Hlr.out _ _)
      · repeat (first | with_reducible exact Hmk.out | refine MovI.setX ?_ (Nat.le_of_lt (by omega)) _ _)
end Go.Proofs.YtpkofbdfnbpfpaaGreat.Num

