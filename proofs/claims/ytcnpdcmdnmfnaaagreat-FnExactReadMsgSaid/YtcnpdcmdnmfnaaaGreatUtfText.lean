/-
  The walks of the reference's UtfText, UtfGood and UtfState: they give what the plain validator gives; only new memory is written.
-/
import Derived.Test.YtcnpdcmdnmfnaaaGreatUtfByte
import Derived.Test.YtcnpdcmdnmfnaaaGreatDraw
import Derived.LoopTactic
import Derived.Deep.DeepFit
import Derived.Deep.RegionWith
import Derived.BigRegion
import Derived.RegionTactic
import Derived.Deep.RegionHeld3
namespace Go.Proofs.YtcnpdcmdnmfnaaaGreat.Num
open Go.RowKit Go.Proofs
set_option linter.unusedVariables false

/-- The place of a refused byte, or -1. -/
def offI : Option Nat → Int
  | none => -1
  | some k => k
def textV (r : Utf.St × Option Nat) : Value := .tuple #[utV r.1, .int .i64 (offI r.2)]
/-- The same, k bytes later. -/
def lat (k : Nat) (r : Utf.St × Option Nat) : Utf.St × Option Nat := (r.1, r.2.map (· + k))
theorem lat_zero (r : Utf.St × Option Nat) : lat 0 r = r := by obtain ⟨a, _ | b⟩ := r <;> rfl
theorem lat_lat (j k : Nat) (r : Utf.St × Option Nat) : lat k (lat j r) = lat (j + k) r := by
  obtain ⟨a, _ | b⟩ := r
  · rfl
  · show (a, some (b + j + k)) = (a, some (b + (j + k))); rw [Nat.add_assoc]
theorem run_more {u v : Utf.St} {b : UInt8} {l : List UInt8} (h : Utf.next u (b.toNat : Int) = some v) : Utf.run u (b :: l) = lat 1 (Utf.run v l) := Utf.run_some h
theorem drop_byte (s : ByteArray) (k : Nat) (h : k < s.size) : s.data.toList.drop k = s[k] :: s.data.toList.drop (k + 1) := by
  have h2 : k < s.data.toList.length := by simpa using h
  rw [List.drop_eq_getElem_cons h2]; rfl
theorem drop_end (s : ByteArray) (k : Nat) (h : s.size ≤ k) : s.data.toList.drop k = [] := List.drop_eq_nil_of_le (by simpa using h)
theorem drewLt {w w1 : World} {B : Nat} (hb : Below B w.drew w1) : w.heap.size ≤ w1.heap.size := hb.size
theorem drewAllocLt {w w1 : World} {o : Obj} {B : Nat} (hb : Below B (w.alloc o).drew w1) : w.heap.size < w1.heap.size := by have := hb.size; simp at this; omega
theorem freshLt (w : World) (o : Obj) : w.heap.size < (w.alloc o).drew.heap.size := by simp
theorem freshTwo (w : World) (o : Obj) (cs : Array Value) (t : TypeId) : Box ((w.alloc o).alloc (.cells cs t)) (w.heap.size + 1) cs.toList := by
  have h := Box.fresh (w.alloc o) cs t
  rwa [show (w.alloc o).heap.size = w.heap.size + 1 by simp] at h
section
variable {w wr w1 : World} {T : TypeId} {a b c d e f : Value}
theorem endA3 (hx : Box wr w.heap.size [a, b, c]) (hy : Box wr (w.heap.size + 1) [d, e, f]) (hl : Below w.heap.size w wr) (hb : Below wr.drew.heap.size wr.drew w1) (A B C : Int) :
    Box (w1.alloc (.cells #[.int .i64 A, .int .i64 B, .int .i64 C] 178)) w.heap.size [a, b, c] ∧ Box (w1.alloc (.cells #[.int .i64 A, .int .i64 B, .int .i64 C] 178)) (w.heap.size + 1) [d, e, f] ∧ Box (w1.alloc (.cells #[.int .i64 A, .int .i64 B, .int .i64 C] 178)) w1.heap.size [.int .i64 A, .int .i64 B, .int .i64 C] ∧ Below w.heap.size w (w1.alloc (.cells #[.int .i64 A, .int .i64 B, .int .i64 C] 178)) ∧ w.heap.size + 1 < w1.heap.size := by
  have h2 : Below w.heap.size w w1 := hl.drew.trans (hb.mono hl.size)
  have h3 := hy.lt
  have h4 := drewLt hb
  exact ⟨(hx.drew.below hb hx.lt).alloc _, (hy.drew.below hb hy.lt).alloc _, Box.fresh _ _ _, h2.alloc (by omega) _, by omega⟩
theorem endB3 (hx : Box wr w.heap.size [a, b, c]) (hy : Box wr (w.heap.size + 1) [d, e, f]) (hl : Below w.heap.size w wr) (hb : Below (wr.alloc (.cells #[.int .i64 0, .int .i64 0, .int .i64 0] T)).drew.heap.size (wr.alloc (.cells #[.int .i64 0, .int .i64 0, .int .i64 0] T)).drew w1) (A B C : Int) :
    Box (((w1.setCell ⟨wr.heap.size, 0, none⟩ (.int .i64 A)).setCell ⟨wr.heap.size, 1, none⟩ (.int .i64 B)).setCell ⟨wr.heap.size, 2, none⟩ (.int .i64 C)) w.heap.size [a, b, c] ∧ Box (((w1.setCell ⟨wr.heap.size, 0, none⟩ (.int .i64 A)).setCell ⟨wr.heap.size, 1, none⟩ (.int .i64 B)).setCell ⟨wr.heap.size, 2, none⟩ (.int .i64 C)) (w.heap.size + 1) [d, e, f] ∧ Box (((w1.setCell ⟨wr.heap.size, 0, none⟩ (.int .i64 A)).setCell ⟨wr.heap.size, 1, none⟩ (.int .i64 B)).setCell ⟨wr.heap.size, 2, none⟩ (.int .i64 C)) wr.heap.size [.int .i64 A, .int .i64 B, .int .i64 C] ∧ Below w.heap.size w (((w1.setCell ⟨wr.heap.size, 0, none⟩ (.int .i64 A)).setCell ⟨wr.heap.size, 1, none⟩ (.int .i64 B)).setCell ⟨wr.heap.size, 2, none⟩ (.int .i64 C)) ∧ w.heap.size + 1 < wr.heap.size := by
  have h3 := hy.lt
  have h2 : Below w.heap.size w w1 := (hl.alloc hl.size _).drew.trans (hb.mono (by simp; omega))
  refine ⟨((((hx.alloc _).drew.below hb (by simp; omega)).other (by simp; omega) _).other (by simp; omega) _).other (by simp; omega) _, ((((hy.alloc _).drew.below hb (by simp; omega)).other (by simp; omega) _).other (by simp; omega) _).other (by simp; omega) _, ((((Box.fresh wr _ _).drew.below hb (by simp)).set 0 _).set 1 _).set 2 _, ((h2.setCell (by simp; omega) _).setCell (by simp; omega) _).setCell (by simp; omega) _, h3⟩
end
theorem specByte_as (W L H b : Int) (r : Option Utf.St) (h : Utf.next (W, L, H) b = r) (w : World) : Calls Tryz.prog 148 #[.agg #[.int .i64 W, .int .i64 L, .int .i64 H], .int .i64 b] w fun e w' => e = .returned (stepV (W, L, H) r) ∧ Below w.heap.size w w' := h ▸ specUtfByte_any W L H b w
set_option maxHeartbeats 2000000 in
set_option maxRecDepth 100000 in
theorem specUtfText_any (W L H : Int) (s : ByteArray) (w : World) (hs : s.size ≤ 281474976710656) :
    Calls Tryz.prog 127 #[utV (W, L, H), .string s] w fun e w' => e = .returned (textV (Utf.run (W, L, H) s.data.toList)) ∧ Below w.heap.size w w' := by
  unfold utV
  simp only
  generalize hR : Utf.run (W, L, H) s.data.toList = R
  have HR := Lib.hid hR; clear hR
  go_enter Tryz.func127, Tryz.ntmps127
  go_wp2_with fail
  go_loopw [6] (fun i wr => ∃ (k : Nat) (A B C : Int), k ≤ s.size ∧ i = .int .i64 k ∧ Hid (R = lat k (Utf.run (A, B, C) (s.data.toList.drop k))) ∧ Hid (Box wr w.heap.size [.int .i64 A, .int .i64 B, .int .i64 C]) ∧ Hid (Box wr (w.heap.size + 1) [.int .i64 0, .int .i64 0, .int .i64 0]) ∧ Below w.heap.size w wr) (fun i _ => s.size - (intOf i).toNat)
  case atStart => exact ⟨0, W, L, H, by omega, rfl, Lib.hid (by rw [← HR.out, lat_zero]; rfl), Lib.hid ((Box.fresh _ _ _).alloc _), Lib.hid (freshTwo _ _ _ _), ((Below.refl _ _).alloc (Nat.le_refl _) _).alloc (by simp) _⟩
  case round =>
    obtain ⟨k, A, B, C, hk, rfl, Hst, hbx, hby, hbl⟩ := hrel
    obtain ⟨c0, c1, c2, f0, f1, f2⟩ := hbx.out.three
    obtain ⟨d0, d1, d2, g0, g1, g2⟩ := hby.out.three
    have hz0 := hbx.out.lt
    have hz1 := hby.out.lt
    by_cases hlt : k < s.size
    · have Hdr := Lib.hid (drop_byte s k hlt)
      have hch : s[k].toNat < 256 := s[k].toNat_lt
      generalize hS : Utf.next (A, B, C) (s[k].toNat : Int) = S
      have HS := Lib.hid hS; clear hS
      have hltb : (k : Int) < (s.size : Int) := by omega
      have hw8 : IntKind.i64.wrap (s[k].toNat : Int) = (s[k].toNat : Int) := IntWalk.i64_in _ (by omega)
      rcases S with _ | ⟨A', B', C'⟩
      · go_wp2_with fail
        go_region_with (go_at_call 148; refine (specByte_as A B C s[k].toNat _ HS.out _).mono ?_; simp only [stepV, utV]; rintro e w1 ⟨rfl, hb1⟩; first | (obtain ⟨e0, e1, e2, p0, p1, p2⟩ := (hbx.out.drew.below hb1 hz0).three; have hq := drewLt hb1) | (obtain ⟨e0, e1, e2, p0, p1, p2⟩ := ((Box.fresh wr _ _).drew.below hb1 (freshLt _ _)).three; have hq := drewAllocLt hb1))
        all_goals
          first
          | (have KK := endA3 hbx.out hby.out hbl hb1 A B C
             obtain ⟨K0, K1, K2, hB, hg⟩ := KK
             generalize w1.alloc (.cells #[.int .i64 A, .int .i64 B, .int .i64 C] 178) = w2 at K0 K1 K2 hB ⊢
             generalize w1.heap.size = g at K2 hg ⊢)
          | (have KK := endB3 hbx.out hby.out hbl hb1 A B C
             obtain ⟨K0, K1, K2, hB, hg⟩ := KK
             generalize ((w1.setCell ⟨wr.heap.size, 0, none⟩ (.int .i64 A)).setCell ⟨wr.heap.size, 1, none⟩ (.int .i64 B)).setCell ⟨wr.heap.size, 2, none⟩ (.int .i64 C) = w2 at K0 K1 K2 hB ⊢
             generalize wr.heap.size = g at K2 hg ⊢)
        all_goals
          obtain ⟨e0, e1, e2, p0, p1, p2⟩ := K0.three
          obtain ⟨e3, e4, e5, p3, p4, p5⟩ := K1.three
          obtain ⟨e6, e7, e8, p6, p7, p8⟩ := K2.three
          have HK0 := Lib.hid K0
          have HK1 := Lib.hid K1
          clear K0 K1 K2
          go_wp2_with fail
          refine bodyPost_ret (v := .tuple #[.agg #[.int .i64 A, .int .i64 B, .int .i64 C], .int .i64 k]) (by simp [results, Tryz.results127, go_sem, e3, e4, e5]) rfl ⟨?_, ?_⟩
          · rw [Hst.out, Hdr.out, Utf.run_none HS.out]; simp [lat, textV, utV, offI]
          · repeat (first | exact hB | refine Below.setCell ?_ (by simp) _)
      · go_wp2_with fail
        go_region_with (go_at_call 148; refine (specByte_as A B C s[k].toNat _ HS.out _).mono ?_; simp only [stepV, utV]; rintro e w1 ⟨rfl, hb1⟩; first | (obtain ⟨e0, e1, e2, p0, p1, p2⟩ := (hbx.out.drew.below hb1 hz0).three; have hq := drewLt hb1) | (obtain ⟨e0, e1, e2, p0, p1, p2⟩ := ((Box.fresh wr _ _).drew.below hb1 (freshLt _ _)).three; have hq := drewAllocLt hb1))
        all_goals
          first
          | (have KK := endA3 hbx.out hby.out hbl hb1 A' B' C'
             obtain ⟨K0, K1, K2, hB, hg⟩ := KK
             generalize w1.alloc (.cells #[.int .i64 A', .int .i64 B', .int .i64 C'] 178) = w2 at K0 K1 K2 hB ⊢
             generalize w1.heap.size = g at K2 hg ⊢)
          | (have KK := endB3 hbx.out hby.out hbl hb1 A' B' C'
             obtain ⟨K0, K1, K2, hB, hg⟩ := KK
             generalize ((w1.setCell ⟨wr.heap.size, 0, none⟩ (.int .i64 A')).setCell ⟨wr.heap.size, 1, none⟩ (.int .i64 B')).setCell ⟨wr.heap.size, 2, none⟩ (.int .i64 C') = w2 at K0 K1 K2 hB ⊢
             generalize wr.heap.size = g at K2 hg ⊢)
        all_goals
          obtain ⟨e0, e1, e2, p0, p1, p2⟩ := K0.three
          obtain ⟨e3, e4, e5, p3, p4, p5⟩ := K1.three
          obtain ⟨e6, e7, e8, p6, p7, p8⟩ := K2.three
          have HK0 := Lib.hid K0
          have HK1 := Lib.hid K1
          clear K0 K1 K2
          go_wp2_with fail
          refine ⟨⟨k + 1, A', B', C', by omega, by go_num, Lib.hid ?_, Lib.hid (((HK0.out.set 0 _).set 1 _).set 2 _), Lib.hid (((HK1.out.other (by simp) _).other (by simp) _).other (by simp) _), ?_⟩, by simp [intOf] <;> omega⟩
          · rw [Hst.out, Hdr.out, run_more HS.out, lat_lat, Nat.add_comm]
          · repeat (first | exact hB | refine Below.setCell ?_ (by simp) _)
    · have hks : k = s.size := by omega
      have hend : decide (k < s.size) = false := decide_eq_false hlt
      have Hall := Lib.hid (drop_end s k (by omega))
      have hge : (s.size : Int) ≤ (k : Int) := by omega
      clear hks
      go_wp2_with fail
      refine bodyPost_ret (v := .tuple #[.agg #[.int .i64 A, .int .i64 B, .int .i64 C], .int .i64 (-1)]) (by simp [results, Tryz.results127, go_sem, d0, d1, d2]) rfl ⟨?_, ?_⟩
      · rw [Hst.out, Hall.out, Utf.run_nil]; rfl
      · repeat (first | exact hbl | refine Below.drew ?_ | refine Below.setCell ?_ (by simp) _ | refine Below.alloc ?_ (by simp <;> omega) _)
end Go.Proofs.YtcnpdcmdnmfnaaaGreat.Num
