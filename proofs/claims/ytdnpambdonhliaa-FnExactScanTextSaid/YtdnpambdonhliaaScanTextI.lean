/-
  The walk of the program's ScanText: it gives what the reference's gives; only new memory is written.
-/
import Derived.Test.YtdnpambdonhliaaScanText
namespace Go.Proofs.Ytdnpambdonhliaa.Num
open Go.RowKit Go.Proofs
theorem drew_lt {w w1 : World} {B : Nat} (hb : Below B w.drew w1) : w.heap.size ≤ w1.heap.size := hb.size
theorem drew_alloc_lt {w w1 : World} {o : Obj} {B : Nat} (hb : Below B (w.alloc o).drew w1) : w.heap.size < w1.heap.size := by have := hb.size; simp at this; omega
theorem fresh_lt (w : World) (o : Obj) : w.heap.size < (w.alloc o).drew.heap.size := by simp
section
variable {w wr w1 : World} {T : TypeId} {a b c d : Value}
theorem endA (hx : Box wr w.heap.size [a, b]) (hy : Box wr (w.heap.size + 1) [c, d]) (hl : Below w.heap.size w wr) (hb : Below wr.drew.heap.size wr.drew w1) (V : Nat) (H : Int) :
    Box (w1.alloc (.cells #[.int .u64 V, .int .i64 H] 30)) w.heap.size [a, b] ∧ Box (w1.alloc (.cells #[.int .u64 V, .int .i64 H] 30)) (w.heap.size + 1) [c, d] ∧ Box (w1.alloc (.cells #[.int .u64 V, .int .i64 H] 30)) w1.heap.size [.int .u64 V, .int .i64 H] ∧ Below w.heap.size w (w1.alloc (.cells #[.int .u64 V, .int .i64 H] 30)) ∧ w.heap.size + 1 < w1.heap.size := by
  have h2 : Below w.heap.size w w1 := hl.drew.trans (hb.mono hl.size)
  have h3 := hy.lt
  have h4 := drew_lt hb
  exact ⟨(hx.drew.below hb hx.lt).alloc _, (hy.drew.below hb hy.lt).alloc _, Box.fresh _ _ _, h2.alloc (by omega) _, by omega⟩
theorem endB (hx : Box wr w.heap.size [a, b]) (hy : Box wr (w.heap.size + 1) [c, d]) (hl : Below w.heap.size w wr) (hb : Below (wr.alloc (.cells #[.int .u64 0, .int .i64 0] T)).drew.heap.size (wr.alloc (.cells #[.int .u64 0, .int .i64 0] T)).drew w1) (V : Nat) (H : Int) :
    Box ((w1.setCell ⟨wr.heap.size, 0, none⟩ (.int .u64 V)).setCell ⟨wr.heap.size, 1, none⟩ (.int .i64 H)) w.heap.size [a, b] ∧ Box ((w1.setCell ⟨wr.heap.size, 0, none⟩ (.int .u64 V)).setCell ⟨wr.heap.size, 1, none⟩ (.int .i64 H)) (w.heap.size + 1) [c, d] ∧ Box ((w1.setCell ⟨wr.heap.size, 0, none⟩ (.int .u64 V)).setCell ⟨wr.heap.size, 1, none⟩ (.int .i64 H)) wr.heap.size [.int .u64 V, .int .i64 H] ∧ Below w.heap.size w ((w1.setCell ⟨wr.heap.size, 0, none⟩ (.int .u64 V)).setCell ⟨wr.heap.size, 1, none⟩ (.int .i64 H)) ∧ w.heap.size + 1 < wr.heap.size := by
  have h3 := hy.lt
  have h2 : Below w.heap.size w w1 := (hl.alloc hl.size _).drew.trans (hb.mono (by simp; omega))
  refine ⟨(((hx.alloc _).drew.below hb (by simp; omega)).other (by simp; omega) _).other (by simp; omega) _, (((hy.alloc _).drew.below hb (by simp; omega)).other (by simp; omega) _).other (by simp; omega) _, (((Box.fresh wr _ _).drew.below hb (by simp)).set 0 _).set 1 _, (h2.setCell (by simp; omega) _).setCell (by simp; omega) _, h3⟩
end
theorem scanByteR_ge {b : Nat} {h x : Int} {R : Nat × Int × Int} (hR : scanByteR b h x = R) (hb : b ≤ 18446744073709551615) : R.1 ≤ 18446744073709551615 := by rw [← hR]; exact scanByteR_bound hb
set_option maxHeartbeats 2000000 in
set_option maxRecDepth 100000 in
theorem implScanText_any (b : Nat) (h : Int) (s : ByteArray) (w : World) (hb : b ≤ 18446744073709551615) (hs : s.size ≤ 281474976710656) :
    Calls Try.prog 17 #[scV b h, .string s] w fun e w' => e = .returned (.tuple #[scV (scanTextR b h s.data.toList).1 (scanTextR b h s.data.toList).2.1, .int .i64 (scanTextR b h s.data.toList).2.2.1, .int .i64 (scanTextR b h s.data.toList).2.2.2]) ∧ Below w.heap.size w w' := by
  unfold scV
  have Hb := Lib.hid hb; clear hb
  generalize hR : scanTextR b h s.data.toList = R
  have HR := Lib.hid hR; clear hR
  go_enter Try.func17, Try.ntmps17
  go_wp2_with fail
  go_loopw [12] (fun i wr => ∃ (k V : Nat) (H : Int), k ≤ s.size ∧ i = .int .i64 k ∧ Hid (V ≤ 18446744073709551615) ∧ Hid (R = laterR k (scanTextR V H (s.data.toList.drop k))) ∧ Hid (Box wr w.heap.size [.int .u64 V, .int .i64 H]) ∧ Hid (Box wr (w.heap.size + 1) [.int .u64 0, .int .i64 0]) ∧ Below w.heap.size w wr) (fun i _ => s.size - (intOf i).toNat)
  case atStart => exact ⟨0, b, h, by omega, rfl, Hb, Lib.hid (by rw [← HR.out]; rfl), Lib.hid ((Box.fresh _ _ _).alloc _), Lib.hid (Box.fresh2 _ _ _ _), ((Below.refl _ _).alloc (Nat.le_refl _) _).alloc (by simp) _⟩
  case round =>
    obtain ⟨k, V, H, hk, rfl, HV, Hst, hbx, hby, hbl⟩ := hrel
    obtain ⟨c0, c1, f0, f1⟩ := hbx.out.two
    obtain ⟨d0, d1, g0, g1⟩ := hby.out.two
    have hz0 := hbx.out.lt
    have hz1 := hby.out.lt
    by_cases hlt : k < s.size
    · have Hdr := Lib.hid (drop_at s k hlt)
      have hch : s[k].toNat < 256 := s[k].toNat_lt
      generalize hS : scanByteR V H s[k].toNat = S
      have HV' := Lib.hid (scanByteR_ge hS HV.out)
      have HS := Lib.hid hS; clear hS
      obtain ⟨V', H', C'⟩ := S
      have hltb : (k : Int) < (s.size : Int) := by omega
      have hw8 : IntKind.i64.wrap (s[k].toNat : Int) = (s[k].toNat : Int) := IntWalk.i64_in _ (by omega)
      by_cases hC : C' = 0
      · subst hC
        go_wp2_with fail
        go_region_with (go_at_call 23; refine (implScanByte_any V H s[k].toNat HV.out _).mono ?_; rw [HS.out]; rintro e w1 ⟨rfl, hb1⟩; simp only [scV]; first | (obtain ⟨e0, e1, p0, p1⟩ := (hbx.out.drew.below hb1 hz0).two; have hq := drew_lt hb1) | (obtain ⟨e0, e1, p0, p1⟩ := ((Box.fresh wr _ _).drew.below hb1 (fresh_lt _ _)).two; have hq := drew_alloc_lt hb1))
        all_goals
          first
          | (have KK := endA hbx.out hby.out hbl hb1 V' H' 
             obtain ⟨K0, K1, K2, hB, hg⟩ := KK
             generalize w1.alloc (.cells #[.int .u64 V', .int .i64 H'] 30) = w2 at K0 K1 K2 hB ⊢
             generalize w1.heap.size = g at K2 hg ⊢)
          | (have KK := endB hbx.out hby.out hbl hb1 V' H' 
             obtain ⟨K0, K1, K2, hB, hg⟩ := KK
             generalize (w1.setCell ⟨wr.heap.size, 0, none⟩ (.int .u64 V')).setCell ⟨wr.heap.size, 1, none⟩ (.int .i64 H') = w2 at K0 K1 K2 hB ⊢
             generalize wr.heap.size = g at K2 hg ⊢)
        all_goals
          obtain ⟨e0, e1, p0, p1⟩ := K0.two
          obtain ⟨e2, e3, p2, p3⟩ := K1.two
          obtain ⟨e4, e5, p4, p5⟩ := K2.two
          have HK0 := Lib.hid K0
          have HK1 := Lib.hid K1
          clear K0 K1 K2
          go_wp2_with fail
          refine ⟨⟨k + 1, V', H', by omega, by go_num, HV', Lib.hid ?_, Lib.hid ((HK0.out.set 0 _).set 1 _), Lib.hid ((HK1.out.other (by simp) _).other (by simp) _), ?_⟩, by simp [intOf]; omega⟩
          · rw [Hst.out, Hdr.out, scanText_more HS.out, later_later, Nat.add_comm]
          · repeat (first | exact hB | refine Below.setCell ?_ (by simp) _)
      · have hCb : (C' != 0) = true := by simpa using hC
        have hCn : (C' == 0) = false := by simpa using hC
        go_wp2_with fail
        go_region_with (go_at_call 23; refine (implScanByte_any V H s[k].toNat HV.out _).mono ?_; rw [HS.out]; rintro e w1 ⟨rfl, hb1⟩; simp only [scV]; first | (obtain ⟨e0, e1, p0, p1⟩ := (hbx.out.drew.below hb1 hz0).two; have hq := drew_lt hb1) | (obtain ⟨e0, e1, p0, p1⟩ := ((Box.fresh wr _ _).drew.below hb1 (fresh_lt _ _)).two; have hq := drew_alloc_lt hb1))
        all_goals
          first
          | (have KK := endA hbx.out hby.out hbl hb1 V' H' 
             obtain ⟨K0, K1, K2, hB, hg⟩ := KK
             generalize w1.alloc (.cells #[.int .u64 V', .int .i64 H'] 30) = w2 at K0 K1 K2 hB ⊢
             generalize w1.heap.size = g at K2 hg ⊢)
          | (have KK := endB hbx.out hby.out hbl hb1 V' H' 
             obtain ⟨K0, K1, K2, hB, hg⟩ := KK
             generalize (w1.setCell ⟨wr.heap.size, 0, none⟩ (.int .u64 V')).setCell ⟨wr.heap.size, 1, none⟩ (.int .i64 H') = w2 at K0 K1 K2 hB ⊢
             generalize wr.heap.size = g at K2 hg ⊢)
        all_goals
          obtain ⟨e0, e1, p0, p1⟩ := K0.two
          obtain ⟨e2, e3, p2, p3⟩ := K1.two
          obtain ⟨e4, e5, p4, p5⟩ := K2.two
          have HK0 := Lib.hid K0
          have HK1 := Lib.hid K1
          clear K0 K1 K2
          go_wp2_with fail
          refine bodyPost_ret (v := .tuple #[.agg #[.int .u64 V', .int .i64 H'], .int .i64 ((k : Int) + 1), .int .i64 C']) (by simp [results, Try.results17, go_sem, e2, e3]) rfl ⟨?_, ?_⟩
          · rw [Hst.out, Hdr.out, scanText_stop HS.out hC]; simp [laterR, Int.add_comm]
          · repeat (first | exact hB | refine Below.setCell ?_ (by simp) _)
    · have hks : k = s.size := by omega
      have hend : decide (k < s.size) = false := decide_eq_false hlt
      have Hall := Lib.hid (drop_all s k (by omega))
      have hge : (s.size : Int) ≤ (k : Int) := by omega
      have Hks := Lib.hid hks
      clear hks
      go_wp2_with fail
      refine bodyPost_ret (v := .tuple #[.agg #[.int .u64 V, .int .i64 H], .int .i64 s.size, .int .i64 0]) (by simp [results, Try.results17, go_sem, d0, d1]) rfl ⟨?_, ?_⟩
      · rw [Hst.out, Hall.out, scanText_nil, Hks.out]; simp [laterR]
      · repeat (first | exact hbl | refine Below.drew ?_ | refine Below.setCell ?_ (by simp) _ | refine Below.alloc ?_ (by simp <;> omega) _)
end Go.Proofs.Ytdnpambdonhliaa.Num
